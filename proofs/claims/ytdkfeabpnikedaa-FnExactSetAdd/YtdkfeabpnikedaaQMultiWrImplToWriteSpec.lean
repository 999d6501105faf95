/- What the code's MultiWrite does; over the contract of slices.SortFunc at one stamp. What the specification's l03Write does. -/
import Derived.Deep.RegionHeld3
import Derived.Test.YtdkfeabpnikedaaQMultiOf
import Derived.Test.YtdkfeabpnikedaaQMultiTold
import Derived.Test.YtdkfeabpnikedaaQNextImpl
import Derived.Test.YtdkfeabpnikedaaQTakeKit
import Derived.Test.YtdkfeabpnikedaaQInfoToVecCopy
import Derived.Test.YtdkfeabpnikedaaQEntriesOK
namespace Go.Proofs.Ytdkfeabpnikedaa
open Go.RowKit
open Go.ChangeMaps (setBlock heap_setBlock_same)
open Go.MapKept (Stamped)
set_option linter.unusedVariables false

theorem Mp.clear {P : Program} {k t e : TypeId} {w : World} {b : Nat} {L : List (Value × Value)} (h : Mp P k w b L) (ht : P.underlying t = some (.map k e)) (ty : TypeId) :
    ∃ w', (Builtin.clear_ #[t] ty #[.map (some b)]).run P w = .ok (.tuple #[]) w' ∧ Mp P k w' b [] ∧ w.grownBy w' (some b) := by
  obtain ⟨es, clock, hb, hs, rfl, hK⟩ := h
  refine ⟨_, by simp [Builtin.clear_, run_underlying ht, MapKept.run_getObj_map hb, MapKept.run_setObj_map _ hb, Result.andThen]; rfl, ⟨#[], clock, heap_setBlock_same hb _, MapKept.stamped_empty clock, rfl, by simp⟩, grown_setBlock hb _⟩
theorem wpList_clear_mp {P : Program} {ops : Array Oper} {rest : List Oper} {o : Oper} {a : Act} {w : World} {Q : Exit → Act → World → Prop} (hg : o.guard = none) (m : Operand) (t : TypeId) (hop : o.op = Op.call { callee := Callee.builtin Builtin.clear, args := #[m], argTypes := #[t] })
    (k e : TypeId) (ht : P.underlying t = some (.map k e)) (b : Nat) (L : List (Value × Value)) (hm : a.eval m = .map (some b)) (hM : Mp P k w b L)
    (hK : ∀ w', Mp P k w' b [] → w.grownBy w' (some b) → wpList P ops Q rest (a.put o.dst (.tuple #[])) w') : wpList P ops Q (o :: rest) a w := by
  refine wpList_plain hg fun K' hK' => ?_
  obtain ⟨w', hrun, h1, h2⟩ := hM.clear ht o.type
  unfold Oper.wp
  simp [execOp, hop, resolve, invoke, builtin, hm, hrun, Result.andThen]
  exact hK' _ _ (hK w' h1 h2)
/-- The code of a writing; the counts and the entries behind it. -/
def inA (c : Int) : Prop := 0 ≤ c ∧ c < 16
def wrC (xs : List Int) (ls : List En) (c : Int) (s : ByteArray) : Int :=
  if okJ xs ls = true then (if (0 ≤ c ∧ c < 16) ∧ s.size ≤ 200 then (if xs.getD c.toNat 0 = 1000000000000 then 11 else 0) else 4) else 1
def wrV (xs : List Int) (ls : List En) (c : Int) (s : ByteArray) : List Int := if wrC xs ls c s = 0 then xs.set c.toNat (xs.getD c.toNat 0 + 1) else []
def wrE (xs : List Int) (ls : List En) (c : Int) (s : ByteArray) : List En := if wrC xs ls c s = 0 then [(xs.getD c.toNat 0 + 1, c, s)] else []
theorem wr_bad {xs : List Int} {ls : List En} (c : Int) (s : ByteArray) (h : okJ xs ls = false) : wrC xs ls c s = 1 ∧ wrV xs ls c s = [] ∧ wrE xs ls c s = [] := by
  have : wrC xs ls c s = 1 := by simp [wrC, h]
  simp [wrV, wrE, this]
theorem wr_out {xs : List Int} {ls : List En} {c : Int} {s : ByteArray} (h : okJ xs ls = true) (hc : ¬ ((0 ≤ c ∧ c < 16) ∧ s.size ≤ 200)) : wrC xs ls c s = 4 ∧ wrV xs ls c s = [] ∧ wrE xs ls c s = [] := by
  have : wrC xs ls c s = 4 := by unfold wrC; rw [if_pos h, if_neg hc]
  simp [wrV, wrE, this]
theorem wr_full {xs : List Int} {ls : List En} {c : Int} {s : ByteArray} (h : okJ xs ls = true) (hc : (0 ≤ c ∧ c < 16) ∧ s.size ≤ 200) (hx : xs.getD c.toNat 0 = 1000000000000) : wrC xs ls c s = 11 ∧ wrV xs ls c s = [] ∧ wrE xs ls c s = [] := by
  have : wrC xs ls c s = 11 := by unfold wrC; rw [if_pos h, if_pos hc, if_pos hx]
  simp [wrV, wrE, this]
theorem wr_done {xs : List Int} {ls : List En} {c : Int} {s : ByteArray} (h : okJ xs ls = true) (hc : (0 ≤ c ∧ c < 16) ∧ s.size ≤ 200) (hx : ¬ xs.getD c.toNat 0 = 1000000000000) : wrC xs ls c s = 0 ∧ wrV xs ls c s = xs.set c.toNat (xs.getD c.toNat 0 + 1) ∧ wrE xs ls c s = [(xs.getD c.toNat 0 + 1, c, s)] := by
  have : wrC xs ls c s = 0 := by unfold wrC; rw [if_pos h, if_pos hc, if_neg hx]
  simp [wrV, wrE, this]
theorem vecOK_of {xs : List Int} {ls : List En} (h : okJ xs ls = true) : vecOK xs = true ∧ ls.length ≤ 256 := by
  unfold okJ at h
  simp only [Bool.and_eq_true, decide_eq_true_eq] at h
  exact ⟨h.1, h.2.1⟩
/-- What multiOf answered at a valid value, laid into a new block. -/
theorem jm_laid {w w2 : World} {b : Nat} {xs : List Int} {ls : List En} {T : TypeId} (h16 : xs.length = 16) (hM : Mp Try.prog 58 w2 b (ls.map kvE)) :
    Jm ((w2.alloc (.cells zeroJ.toArray T)).setCells w2.heap.size 0 (arrC xs ++ [Value.map (some b)])) w2.heap.size xs b ∧ Mp Try.prog 58 ((w2.alloc (.cells zeroJ.toArray T)).setCells w2.heap.size 0 (arrC xs ++ [Value.map (some b)])) b (ls.map kvE) := by
  have hl : (arrC xs ++ [Value.map (some b)]).length = 17 := by simp [arrC_len, h16]
  have ht : (w2.alloc (.cells zeroJ.toArray T)).there w2.heap.size 0 17 := there_new (n := 17) (by rw [zeroJ_size]; exact Nat.le_refl _)
  have hlt := hM.lt
  exact ⟨⟨World.rangeAt_setCells_same _ _ _ _ (by rw [hl]; exact ht), World.there_setCells ht _ _ _⟩, mp_setCells (hM.alloc _) (by omega) _ _⟩

set_option maxHeartbeats 4000000 in
set_option maxRecDepth 100000 in
theorem implMultiWrite_any (C : Nat) (w : World) (v ve : Value) (xs : List Int) (ls : List En) (c : Int) (s : ByteArray) (hs : s.size ≤ 9223372036854775807) (hC : C ≤ w.heap.size) (hv : Rd C w v (xs.map (Value.int .i64))) (he : RdE C w ve ls) :
    Calls Try.prog 11 #[.agg #[v, ve], .int .i64 c, .string s] w (SvAns (wrV xs ls c s) (wrE xs ls c s) (wrC xs ls c s) w) := by
  have hxx : xs.length = 16 ∨ okJ xs ls = false := by
    cases hk : vecOK xs with
    | true => exact .inl (vecOK_get hk).1
    | false => exact .inr (okJ_vec hk)
  have hB0 : Below w.heap.size w ((w.alloc (.cells #[v, ve] 32)).alloc (.cells #[.slice none 0 0, .slice none 0 0] 32)) := below_then (below_alloc _ _) _
  have hS := multiOf_any C ((w.alloc (.cells #[v, ve] 32)).alloc (.cells #[.slice none 0 0, .slice none 0 0] 32)) v ve xs ls (Nat.le_trans hC hB0.size) (hv.belowW hB0 hC) (he.below (hB0.mono hC))
  have hsl : ∃ ao len cap, v = .slice ao len cap := by
    obtain ⟨ao, cap, rfl, _⟩ := hv
    exact ⟨_, _, _, rfl⟩
  obtain ⟨ao, la, ca, rfl⟩ := hsl
  have he0 := he
  obtain ⟨eo, ec, rfl, _⟩ := he0
  have hD0 : Dy ((w.alloc (.cells #[.slice ao la ca, .slice eo ls.length ec] 32)).alloc (.cells #[.slice none 0 0, .slice none 0 0] 32)) w.heap.size (.slice ao la ca) (.slice eo ls.length ec) := (Dy.made w (.slice ao la ca) (.slice eo ls.length ec) 32).on (below_alloc _ _)
  have hR0 : Dy ((w.alloc (.cells #[.slice ao la ca, .slice eo ls.length ec] 32)).alloc (.cells #[.slice none 0 0, .slice none 0 0] 32)) (w.heap.size + 1) (.slice none 0 0) (.slice none 0 0) := by
    have := Dy.made (w.alloc (.cells #[.slice ao la ca, .slice eo ls.length ec] 32)) (.slice none 0 0) (.slice none 0 0) 32
    rw [World.size_alloc] at this
    exact this
  obtain ⟨⟨e0, e1⟩, _⟩ := hD0
  go_enter Try.func11, Try.ntmps11
  go_wp2_with fail
  refine hS.mono ?_
  rintro e w2 (⟨hok, b, rfl, hb, hM, hB⟩ | ⟨hok, rfl, hB⟩)
  · have h16 : xs.length = 16 := hxx.resolve_right (by rw [hok]; decide)
    obtain ⟨hJ3, hM3⟩ := jm_laid (w := w) (T := 71) h16 hM
    have hZ : (arrC xs ++ [Value.map (some b)]).length = 17 := by simp [arrC_len, h16]
    have hsz : (arrC xs ++ [Value.map (some b)]).toArray.size = 17 := by rw [List.size_toArray]; exact hZ
    have hone : (arrC xs ++ [Value.map (some b)]).toArray.all (·.oneCell') = true := all_oneCell_toArray (fun v hv => by rcases List.mem_append.1 hv with h | h; exact arrC_one xs v h; rw [List.mem_singleton.1 h]; rfl)
    have hiS : (Try.prog.info? 71).map (·.size) = some (arrC xs ++ [Value.map (some b)]).toArray.size := by rw [List.size_toArray, hZ]; exact multiMap_info
    have h3 : (w2.alloc (.cells zeroJ.toArray 71)).there w2.heap.size 0 (arrC xs ++ [Value.map (some b)]).toArray.size := by rw [hsz]; exact there_new (n := 17) (by rw [zeroJ_size]; exact Nat.le_refl _)
    have hR2 := hR0.on hB
    have hb3 : Below w2.heap.size w2 ((w2.alloc (.cells zeroJ.toArray 71)).setCells w2.heap.size 0 (arrC xs ++ [Value.map (some b)])) := below_setCells (Nat.le_refl _) _ _ _ (below_alloc _ _)
    have hR3 := hR2.on hb3
    have hB3 := below_seq (below_seq hB0 hB) hb3
    have hb' : w.heap.size + 1 + 1 ≤ b := by simpa using hb
    have hblt := hM.lt
    have hvk := vecOK_of hok
    clear hS e0 e1 hR0 hsz hZ hb3
    have hgen : ∃ Z, arrC xs ++ [Value.map (some b)] = Z := ⟨_, rfl⟩
    obtain ⟨Z, hZZ⟩ := hgen
    rw [hZZ] at hJ3 hM3 hone hiS h3 hR3 hB3
    have hE : (Value.agg (arrC xs ++ [Value.map (some b)]).toArray) = .agg Z.toArray := by rw [hZZ]
    rw [hE]
    clear hE hZZ
    go_upto_region 2 with (first | (refine wpList_store_mid rfl 71 _ _ rfl w2.heap.size 0 Z.toArray rfl rfl h3 hiS hone ?_))
    have hgen : ∃ w3, ((w2.alloc (.cells zeroJ.toArray 71)).setCells w2.heap.size 0 Z) = w3 := ⟨_, rfl⟩
    obtain ⟨w3, hw3⟩ := hgen
    rw [hw3] at hJ3 hM3 hR3 hB3
    change Code.wp _ _ _ _ ((w2.alloc (.cells zeroJ.toArray 71)).setCells w2.heap.size 0 Z)
    rw [hw3]
    clear hw3 h3 hiS hone
    by_cases hin : (0 ≤ c ∧ c < 16) ∧ s.size ≤ 200
    · have hin' := hin
      obtain ⟨hc, hs200⟩ := hin
      obtain ⟨k, rfl⟩ : ∃ k : Nat, c = (k : Int) := ⟨c.toNat, by omega⟩
      have hk : k < 16 := by omega
      have hA := fun w => isActor_any (k : Int) w
      rw [decide_eq_true hc] at hA
      have hW := fun w => isWord_any s w
      rw [decide_eq_true hs200] at hW
      have hgd : xs.getD k 0 = xs[k] := by simp [List.getD, h16, hk]
      have hxb := (vecOK_get hvk.1).2 k (by omega)
      have hN := next_any w3 w2.heap.size b xs k hJ3 h16 hk (by rw [hgd]; exact hxb.1) (by rw [hgd]; exact hxb.2)
      have hx0 : 0 ≤ xs.getD k 0 := by rw [hgd]; exact hxb.1
      have hx1 : xs.getD k 0 ≤ 1000000000000 := by rw [hgd]; exact hxb.2
      have hn3 := hJ3.lt
      have hne := jm_ne hJ3 hM3
      have HQ : Hid ((xs.getD k 0 = 1000000000000 → wrC xs ls (k : Int) s = 11 ∧ wrV xs ls (k : Int) s = [] ∧ wrE xs ls (k : Int) s = []) ∧ (¬ xs.getD k 0 = 1000000000000 → wrC xs ls (k : Int) s = 0 ∧ wrV xs ls (k : Int) s = xs.set k (xs.getD k 0 + 1) ∧ wrE xs ls (k : Int) s = [(xs.getD k 0 + 1, (k : Int), s)])) := ⟨fun h => wr_full hok hin' (by simpa using h), fun h => by simpa using wr_done hok hin' (by simpa using h)⟩
      clear hgd hxb hc hs200 hin' hok hvk
      generalize xs.getD k 0 = x at hN HQ hx0 hx1
      go_wp2_with (first | (go_at_call 35; refine (hA _).mono ?_; rintro e w' ⟨rfl, rfl⟩) | (go_at_call 36; refine (hW _).mono ?_; rintro e w' ⟨rfl, rfl⟩))
      refine hN.mono ?_
      rintro e w4 (⟨hx, rfl, hb4⟩ | ⟨hx, rfl, hJ4, hg4⟩)
      · obtain ⟨q1, q2, q3⟩ := HQ.out.1 hx
        have HA : Hid _ := And.intro q1 (And.intro q2 q3)
        have hR4 := hR3.on hb4
        have hB4 := below_seq hB3 hb4
        have hlt4 := hR4.lt
        obtain ⟨⟨r0, r1⟩, rf⟩ := hR4
        have f0 := rf 0
        have f1 := rf 1
        have HR : Hid _ := ((Dy.set1 (Dy.set0 (show Dy w4 (w.heap.size + 1) _ _ from ⟨⟨r0, r1⟩, rf⟩) (.slice none 0 0)) (.slice none 0 0)).on (below_alloc _ (.cells #[.int .i64 0, .int .i64 0] 58))).1
        have hBf := below_then ((hB4.setCell (p := ⟨w.heap.size + 1, 0, none⟩) (by show w.heap.size ≤ w.heap.size + 1; omega) (.slice none 0 0)).setCell (p := ⟨w.heap.size + 1, 1, none⟩) (by show w.heap.size ≤ w.heap.size + 1; omega) (.slice none 0 0)) (.cells #[.int .i64 0, .int .i64 0] 58)
        clear q1 q2 q3 HQ hN hR3 hJ3 hM3 hB3 hb4 hB4
        go_wp2_with fail
        refine bodyPost_ret (v := .tuple #[.agg #[.slice none 0 0, .slice none 0 0], .int .i64 11]) ?_ rfl ⟨_, _, by rw [HA.out.1], by rw [HA.out.2.1, HA.out.2.2]; exact svNone _ _ _, hBf⟩
        simp [results, Try.results11, go_sem, HR.out.1, HR.out.2]
      · obtain ⟨q1, q2, q3⟩ := HQ.out.2 hx
        have HA : Hid _ := And.intro q1 (And.intro q2 q3)
        have hX' : (xs.set k (x + 1)).length = 16 := by simp [h16]
        have hM4 := hM3.kept hg4 (fun e => hne (by simpa using e))
        have hn2 : w.heap.size + 1 + 1 ≤ w2.heap.size := by have := hB.size; simpa using this
        have hR4 := hR3.grown hg4 (by simp; omega)
        have hB4 : Below w.heap.size w w4 := below_grownE hB3 (Nat.le_refl _) hg4 (fun g hg => by cases hg; omega)
        have hb5 := below_alloc w4 (.cells #[.int .i64 (x + 1), .int .i64 (k : Int)] 58)
        have hJ5 := hJ4.on hb5
        have hM5 := hM4.on hb5
        have hR5 := hR4.on hb5
        have hB5 := below_seq hB4 hb5
        have m5 := hJ5.map hX'
        have hS5 := Dy.made w4 (.int .i64 (x + 1)) (.int .i64 (k : Int)) 58
        have hM4lt := hM4.lt
        have hn4 := hJ4.lt
        clear q1 q2 q3 HQ hN hR3 hJ3 hM3 hB3 hg4 hB4 hR4 hJ4
        obtain ⟨w6, hrun6, hM6, hg6⟩ := hM5.clear Try.underlying67 0
        go_upto_region 10 with fail
        have hJ6 := hJ5.kept hg6 (fun e => hne (by simpa using e.symm))
        have hR6 := hR5.grown hg6 (by simp; omega)
        have hS6 := hS5.grown hg6 (by simp; omega)
        have hB6 : Below w.heap.size w w6 := below_grownE hB5 (Nat.le_refl _) hg6 (fun g hg => by cases hg; omega)
        obtain ⟨⟨s0, s1⟩, _⟩ := hS6
        clear hg6 hM5 hJ5 hR5 hS5 hB5 m5 hrun6
        obtain ⟨l, hl⟩ := stKey (t := x + 1) (a := (k : Int)) (by omega) (by omega) (by omega) (by omega)
        have hP := put_any w6 w2.heap.size b (xs.set k (x + 1)) [] ([] ++ [(.agg #[.int .i64 (x + 1), .int .i64 (k : Int)], .agg #[.int .i64 (x + 1), .int .i64 (k : Int), .string s])]) (x + 1) (k : Int) s hJ6 hX' hM6 (fun w1 h1 => h1.new stKeyed Try.underlying67 hl (by simp) _)
        go_wp2_with fail
        refine hP.mono ?_
        rintro e w7 ⟨rfl, hM7, hg7⟩
        have hJ7 := hJ6.kept hg7 (fun e => hne (by simpa using e.symm))
        have hR7 := hR6.grown hg7 (by simp; omega)
        have hB7 : Below w.heap.size w w7 := below_grownE hB6 (Nat.le_refl _) hg7 (fun g hg => by cases hg; omega)
        have hT := toldMulti_any 1 sortsOne (by omega) w7 w2.heap.size b (xs.set k (x + 1)) [(x + 1, (k : Int), s)] hJ7 hX' hM7 (.inl rfl)
        clear hP hM6 hJ6 hR6 hB6 hg7 s0 s1
        go_wp2_with fail
        refine hT.mono ?_
        rintro e w8 (⟨_, es, hpe, _, u, v, rfl, hSv, hb8⟩ | ⟨hno, _⟩)
        · obtain rfl := List.perm_singleton.1 hpe
          have hR8 := hR7.on hb8
          have hB8 := below_seq hB7 hb8
          have hlt8 := hR7.lt
          obtain ⟨ua, un, uc, va, vn, vc, rfl, rfl⟩ := hSv.shape
          obtain ⟨⟨r0, r1⟩, rf⟩ := hR8
          have f0 := rf 0
          have f1 := rf 1
          have HR : Hid _ := (Dy.set1 (Dy.set0 (show Dy w8 (w.heap.size + 1) _ _ from ⟨⟨r0, r1⟩, rf⟩) (.slice ua un uc)) (.slice va vn vc)).1
          have hBf := (hB8.setCell (p := ⟨w.heap.size + 1, 0, none⟩) (by show w.heap.size ≤ w.heap.size + 1; omega) (.slice ua un uc)).setCell (p := ⟨w.heap.size + 1, 1, none⟩) (by show w.heap.size ≤ w.heap.size + 1; omega) (.slice va vn vc)
          have hSf := (sv_put hSv (w.heap.size + 1) hlt8 (.slice ua un uc) (.slice va vn vc)).mono (B' := w.heap.size) (E' := ((w8.setCell ⟨w.heap.size + 1, 0, none⟩ (.slice ua un uc)).setCell ⟨w.heap.size + 1, 1, none⟩ (.slice va vn vc)).heap.size) (by omega) (by simp)
          clear hT hM7 hJ7 hR7 hB7 hb8 hSv
          go_wp2_with fail
          refine bodyPost_ret (v := .tuple #[.agg #[.slice ua un uc, .slice va vn vc], .int .i64 0]) ?_ rfl ⟨_, _, by rw [HA.out.1], by rw [HA.out.2.1, HA.out.2.2]; exact hSf, hBf⟩
          simp [results, Try.results11, go_sem, HR.out.1, HR.out.2]
        · exact absurd (by simp) hno
    · obtain ⟨q1, q2, q3⟩ := wr_out hok hin
      have HA : Hid _ := And.intro q1 (And.intro q2 q3)
      clear q1 q2 q3 hok
      by_cases hc : 0 ≤ c ∧ c < 16
      · have hA := fun w => isActor_any c w
        rw [decide_eq_true hc] at hA
        have hW := fun w => isWord_any s w
        rw [decide_eq_false (fun h => hin ⟨hc, h⟩)] at hW
        clear hin
        obtain ⟨⟨r0, r1⟩, rf⟩ := hR3
        have f0 := rf 0
        have f1 := rf 1
        have HR : Hid _ := (Dy.set1 (Dy.set0 (show Dy w3 (w.heap.size + 1) _ _ from ⟨⟨r0, r1⟩, rf⟩) (.slice none 0 0)) (.slice none 0 0)).1
        have hBf := (hB3.setCell (p := ⟨w.heap.size + 1, 0, none⟩) (by show w.heap.size ≤ w.heap.size + 1; omega) (.slice none 0 0)).setCell (p := ⟨w.heap.size + 1, 1, none⟩) (by show w.heap.size ≤ w.heap.size + 1; omega) (.slice none 0 0)
        go_wp2_with (first | (go_at_call 35; refine (hA _).mono ?_; rintro e w' ⟨rfl, rfl⟩) | (go_at_call 36; refine (hW _).mono ?_; rintro e w' ⟨rfl, rfl⟩))
        refine bodyPost_ret (v := .tuple #[.agg #[.slice none 0 0, .slice none 0 0], .int .i64 4]) ?_ rfl ⟨_, _, by rw [HA.out.1], by rw [HA.out.2.1, HA.out.2.2]; exact svNone _ _ _, hBf⟩
        simp [results, Try.results11, go_sem, HR.out.1, HR.out.2]
      · have hA := fun w => isActor_any c w
        rw [decide_eq_false hc] at hA
        clear hin
        obtain ⟨⟨r0, r1⟩, rf⟩ := hR3
        have f0 := rf 0
        have f1 := rf 1
        have HR : Hid _ := (Dy.set1 (Dy.set0 (show Dy w3 (w.heap.size + 1) _ _ from ⟨⟨r0, r1⟩, rf⟩) (.slice none 0 0)) (.slice none 0 0)).1
        have hBf := (hB3.setCell (p := ⟨w.heap.size + 1, 0, none⟩) (by show w.heap.size ≤ w.heap.size + 1; omega) (.slice none 0 0)).setCell (p := ⟨w.heap.size + 1, 1, none⟩) (by show w.heap.size ≤ w.heap.size + 1; omega) (.slice none 0 0)
        go_wp2_with (first | (go_at_call 35; refine (hA _).mono ?_; rintro e w' ⟨rfl, rfl⟩))
        refine bodyPost_ret (v := .tuple #[.agg #[.slice none 0 0, .slice none 0 0], .int .i64 4]) ?_ rfl ⟨_, _, by rw [HA.out.1], by rw [HA.out.2.1, HA.out.2.2]; exact svNone _ _ _, hBf⟩
        simp [results, Try.results11, go_sem, HR.out.1, HR.out.2]
  · obtain ⟨q1, q2, q3⟩ := wr_bad c s hok
    have HA : Hid _ := And.intro q1 (And.intro q2 q3)
    clear q1 q2 q3 hS e0 e1
    have hR2 := hR0.on hB
    have hB2 := below_seq hB0 hB
    have hgen : ∃ Z, zeroJ = Z ∧ Z.toArray.size = 17 ∧ Z.toArray.all (·.oneCell') = true := ⟨_, rfl, zeroJ_size, zeroJ_one⟩
    obtain ⟨Z, hZZ, hsz, hone⟩ := hgen
    have hiS : (Try.prog.info? 71).map (·.size) = some Z.toArray.size := by rw [hsz]; exact multiMap_info
    have h3 : (w2.alloc (.cells zeroJ.toArray 71)).there w2.heap.size 0 Z.toArray.size := by rw [hsz]; exact there_new (n := 17) (by rw [zeroJ_size]; exact Nat.le_refl _)
    have hb3 : Below w2.heap.size w2 ((w2.alloc (.cells zeroJ.toArray 71)).setCells w2.heap.size 0 Z) := below_setCells (Nat.le_refl _) _ _ _ (below_alloc _ _)
    have hR3 := hR2.on hb3
    have hB3 := below_seq hB2 hb3
    have hE : (Value.agg zeroJ.toArray) = .agg Z.toArray := by rw [hZZ]
    rw [hE]
    clear hR0 hR2 hB2 hB hB0 hb3 hsz hE hZZ
    go_upto_region 2 with (first | (refine wpList_store_mid rfl 71 _ _ rfl w2.heap.size 0 Z.toArray rfl rfl h3 hiS hone ?_))
    have hgen : ∃ w3, ((w2.alloc (.cells zeroJ.toArray 71)).setCells w2.heap.size 0 Z) = w3 := ⟨_, rfl⟩
    obtain ⟨w3, hw3⟩ := hgen
    rw [hw3] at hR3 hB3
    change Code.wp _ _ _ _ ((w2.alloc (.cells zeroJ.toArray 71)).setCells w2.heap.size 0 Z)
    rw [hw3]
    clear hw3 h3 hiS hone
    obtain ⟨⟨r0, r1⟩, rf⟩ := hR3
    have f0 := rf 0
    have f1 := rf 1
    have HR : Hid _ := (Dy.set1 (Dy.set0 (show Dy w3 (w.heap.size + 1) _ _ from ⟨⟨r0, r1⟩, rf⟩) (.slice none 0 0)) (.slice none 0 0)).1
    have hBf := (hB3.setCell (p := ⟨w.heap.size + 1, 0, none⟩) (by show w.heap.size ≤ w.heap.size + 1; omega) (.slice none 0 0)).setCell (p := ⟨w.heap.size + 1, 1, none⟩) (by show w.heap.size ≤ w.heap.size + 1; omega) (.slice none 0 0)
    go_wp2_with (fail)
    refine bodyPost_ret (v := .tuple #[.agg #[.slice none 0 0, .slice none 0 0], .int .i64 1]) ?_ rfl ⟨_, _, by rw [HA.out.1], by rw [HA.out.2.1, HA.out.2.2]; exact svNone _ _ _, hBf⟩
    simp [results, Try.results11, go_sem, HR.out.1, HR.out.2]

end Go.Proofs.Ytdkfeabpnikedaa

namespace Go.Proofs.Ytdkfeabpnikedaa
open Go.RowKit
set_option linter.unusedVariables false

/-- What l03Write answers. -/
def LwAns (xs : List Int) (c : Int) (s : ByteArray) (w : World) (e : Ending) (w' : World) : Prop :=
  (¬ ((0 ≤ c ∧ c < 16) ∧ s.size ≤ 200) ∧ e = .returned (.tuple #[.agg #[.slice none 0 0], .agg #[.int .i64 0, .int .i64 0, .string ByteArray.empty], .int .i64 4]) ∧ Below w.heap.size w w') ∨
  (((0 ≤ c ∧ c < 16) ∧ s.size ≤ 200) ∧ xs.getD c.toNat 0 = 1000000000000 ∧ e = .returned (.tuple #[.agg #[.slice none 0 0], .agg #[.int .i64 0, .int .i64 0, .string ByteArray.empty], .int .i64 11]) ∧ Below w.heap.size w w') ∨
  (((0 ≤ c ∧ c < 16) ∧ s.size ≤ 200) ∧ ¬ xs.getD c.toNat 0 = 1000000000000 ∧ ∃ g cap, e = .returned (.tuple #[.agg #[.slice (some ⟨g, 0, none⟩) 16 cap], .agg #[.int .i64 (xs.getD c.toNat 0 + 1), .int .i64 c, .string s], .int .i64 0]) ∧ Own 3 w' w.heap.size (.slice (some ⟨g, 0, none⟩) 16 cap) ((xs.set c.toNat (xs.getD c.toNat 0 + 1)).map (Value.int .i64)) ∧ Below w.heap.size w w')

set_option maxHeartbeats 4000000 in
set_option maxRecDepth 100000 in
theorem l03Write_any (C : Nat) (w : World) (v : Value) (xs : List Int) (c : Int) (s : ByteArray) (hs : s.size ≤ 9223372036854775807) (hC : C ≤ w.heap.size) (hvk : vecOK xs = true) (hv : Rd C w v (xs.map (Value.int .i64))) :
    Calls Try.prog 31 #[.agg #[v], .int .i64 c, .string s] w (LwAns xs c s w) := by
  obtain ⟨h16, hxb⟩ := vecOK_get hvk
  have hB0 : Below w.heap.size w (((w.alloc (.cells #[v] 29)).alloc (.cells #[.slice none 0 0] 29)).alloc (.cells #[.int .i64 0, .int .i64 0, .string ⟨#[]⟩] 60)) := below_then (below_then (below_alloc _ _) _) _
  have hv0 := hv
  obtain ⟨ao, cap, rfl, hcap, hmax, hnil, hrd⟩ := hv0
  have e16 : (List.map (Value.int .i64) xs).length = 16 := by simp [h16]
  rw [e16] at hv hB0 hcap hrd ⊢
  clear e16
  obtain ⟨g, off, rfl, hgC, hcell⟩ := hrd (by omega)
  by_cases hin : (0 ≤ c ∧ c < 16) ∧ s.size ≤ 200
  · have hin' := hin
    obtain ⟨hc, hs200⟩ := hin
    obtain ⟨k, rfl⟩ : ∃ k : Nat, c = (k : Int) := ⟨c.toNat, by omega⟩
    have hk : k < 16 := by omega
    have hgd : xs.getD k 0 = xs[k] := by simp [List.getD, h16, hk]
    have hxk := hxb k (by omega)
    have cK := hcell k (.int .i64 xs[k]) (by simp [h16, hk])
    have cK0 := (hB0.cell (p := ⟨g, off + k, none⟩) (by show g < w.heap.size; omega)).trans cK
    have HQ : Hid (∀ e w', LwAns xs (k : Int) s w e w' ↔ (xs[k] = 1000000000000 ∧ e = .returned (.tuple #[.agg #[.slice none 0 0], .agg #[.int .i64 0, .int .i64 0, .string ByteArray.empty], .int .i64 11]) ∧ Below w.heap.size w w') ∨ (¬ xs[k] = 1000000000000 ∧ ∃ g cap, e = .returned (.tuple #[.agg #[.slice (some ⟨g, 0, none⟩) 16 cap], .agg #[.int .i64 (xs[k] + 1), .int .i64 (k : Int), .string s], .int .i64 0]) ∧ Own 3 w' w.heap.size (.slice (some ⟨g, 0, none⟩) 16 cap) ((xs.set k (xs[k] + 1)).map (Value.int .i64)) ∧ Below w.heap.size w w')) := by
      intro e w'
      unfold LwAns
      rw [Int.toNat_natCast, hgd]
      simp only [hin', not_true_eq_false, false_and, false_or, true_and]
    have i0 : ¬ (k : Int) < 0 := by omega
    have i1 : ¬ (16 : Int) ≤ (k : Int) := by omega
    have i2 : ¬ (200 : Int) < (s.size : Int) := by omega
    have j0 : (0 : Int) ≤ (k : Int) := by omega
    have j1 : (k : Int) < 16 := by omega
    have hcp := l02Copy_any C _ _ xs (by omega : xs.length ≤ 1048576) (Nat.le_trans hC hB0.size) (hv.belowW hB0 hC)
    rw [h16] at hcp
    have hget : xs[k]? = some xs[k] := List.getElem?_eq_getElem (by omega)
    generalize xs[k] = x at *
    by_cases hx : x = 1000000000000
    · subst hx
      clear hcp
      go_enter Try.func31, Try.ntmps31
      go_wp2_with fail
      refine bodyPost_ret (v := .tuple #[.agg #[.slice none 0 0], .agg #[.int .i64 0, .int .i64 0, .string ByteArray.empty], .int .i64 11]) ?_ rfl ((HQ.out _ _).2 (.inl ⟨by first | rfl | trivial, rfl, hB0⟩))
      simp [results, Try.results31, go_sem]; rfl
    · have hxd : decide (x = 1000000000000) = false := by simp [hx]
      have hxw : IntKind.i64.wrap (x + 1) = x + 1 := by rw [IntKind.wrap_i64]; omega
      go_enter Try.func31, Try.ntmps31
      go_wp2_with fail
      refine hcp.mono ?_
      rintro e w3 ⟨a3, k3, rfl, ho3, hb3⟩
      obtain ⟨g3, qq, hq3, hbg, hlg, hc3⟩ := ho3.some (by simp [h16])
      simp only [Value.slice.injEq] at hq3
      obtain ⟨rfl, -, rfl⟩ := hq3
      have ck3 := hc3 k (.int .i64 x) (by simp [hget])
      rw [Addr.add_lit, Nat.zero_add] at ck3
      have fk3 := own_free ho3 k
      have hz3 := hb3.size
      simp only [World.size_alloc] at hz3 hbg

      clear hcp cK0 hc3
      have hT0 : (((w.alloc (.cells #[.slice (some ⟨g, off, none⟩) 16 cap] 29)).alloc (.cells #[.slice none 0 0] 29)).alloc (.cells #[.int .i64 0, .int .i64 0, .string ⟨#[]⟩] 60)).heap[w.heap.size + 1 + 1]? = some (.cells #[.int .i64 0, .int .i64 0, .string ⟨#[]⟩] 60 (0, 0)) := by
        have := heap_alloc_new ((w.alloc (.cells #[.slice (some ⟨g, off, none⟩) 16 cap] 29)).alloc (.cells #[.slice none 0 0] 29)) (.cells #[.int .i64 0, .int .i64 0, .string ⟨#[]⟩] 60)
        rw [World.size_alloc, World.size_alloc] at this
        exact this
      have hV0 : (((w.alloc (.cells #[.slice (some ⟨g, off, none⟩) 16 cap] 29)).alloc (.cells #[.slice none 0 0] 29)).alloc (.cells #[.int .i64 0, .int .i64 0, .string ⟨#[]⟩] 60)).heap[w.heap.size + 1]? = some (.cells #[.slice none 0 0] 29 (0, 0)) := by
        rw [(below_alloc _ _).block _ (by simp)]
        have := heap_alloc_new (w.alloc (.cells #[.slice (some ⟨g, off, none⟩) 16 cap] 29)) (.cells #[.slice none 0 0] 29)
        rw [World.size_alloc] at this
        exact this
      have hT3 := (hb3.block (w.heap.size + 1 + 1) (by simp)).trans hT0
      have hV3 := (hb3.block (w.heap.size + 1) (by simp)).trans hV0
      go_upto_region 7 with fail
      have hgen : ∃ w5, (w3.setCell ⟨g3, k, none⟩ (.int .i64 (x + 1))).alloc (.cells #[.slice (some ⟨g3, 0, none⟩) 16 k3] 29) = w5 := ⟨_, rfl⟩
      obtain ⟨w5, hw5⟩ := hgen
      have hbx : w5.cell? ⟨w3.heap.size, 0, none⟩ = some (.slice (some ⟨g3, 0, none⟩) 16 k3) := by
        rw [← hw5]
        have := cell_made1 (Below.refl ((w3.setCell ⟨g3, k, none⟩ (.int .i64 (x + 1))).alloc (.cells #[.slice (some ⟨g3, 0, none⟩) 16 k3] 29)).heap.size ((w3.setCell ⟨g3, k, none⟩ (.int .i64 (x + 1))).alloc (.cells #[.slice (some ⟨g3, 0, none⟩) 16 k3] 29)))
        simpa using this
      have hck : w5.cell? ⟨g3, k, none⟩ = some (.int .i64 (x + 1)) := by
        rw [← hw5]
        exact alloc_keep (World.cell?_setCell_same' w3 ⟨g3, k, none⟩ (.int .i64 (x + 1)) (by rw [ck3]; rfl)) _
      have ho5 : Own 3 w5 (w.heap.size + 1 + 1 + 1) (.slice (some ⟨g3, 0, none⟩) 16 k3) ((xs.set k (x + 1)).map (Value.int .i64)) := by
        rw [← hw5, List.map_set]
        exact World.ownsRow.alloc (own_set (ho3.mono (B' := w.heap.size + 1 + 1 + 1) (by simp)) k (.int .i64 (x + 1))) _
      have hT5 : Tr w5 (w.heap.size + 1 + 1) (.int .i64 0) (.int .i64 0) (.string ⟨#[]⟩) := by
        have hE5 : w5.heap[w.heap.size + 1 + 1]? = some (.cells #[.int .i64 0, .int .i64 0, .string ⟨#[]⟩] 60 (0, 0)) := by
          rw [← hw5]
          exact ((below_alloc _ _).block _ (by simp; omega)).trans ((heap_setCell_other w3 ⟨g3, k, none⟩ (w.heap.size + 1 + 1) _ (by show w.heap.size + 1 + 1 ≠ g3; omega)).trans hT3)
        exact ⟨⟨by simp [World.cell?, hE5], by simp [World.cell?, hE5], by simp [World.cell?, hE5]⟩, fun j => by simp [World.frozen?, hE5]⟩
      have hV5 : w5.heap[w.heap.size + 1]? = some (.cells #[.slice none 0 0] 29 (0, 0)) := by
        rw [← hw5]
        exact ((below_alloc _ _).block _ (by simp; omega)).trans ((heap_setCell_other w3 ⟨g3, k, none⟩ (w.heap.size + 1) _ (by show w.heap.size + 1 ≠ g3; omega)).trans hV3)
      have hB5 : Below w.heap.size w w5 := by
        rw [← hw5]
        exact below_then ((below_seq hB0 hb3).setCell (p := ⟨g3, k, none⟩) (by show w.heap.size ≤ g3; omega) _) _
      change Code.wp _ _ _ _ ((w3.setCell ⟨g3, k, none⟩ (.int .i64 (x + 1))).alloc (.cells #[.slice (some ⟨g3, 0, none⟩) 16 k3] 29))
      rw [hw5]
      have hz5 : w3.heap.size < w5.heap.size := cell_lt hbx
      clear hw5 ck3 fk3 hT0 hV0 hT3 hV3 ho3 hb3
      refine wp_region_held_drew (S := fun w' => w'.cell? ⟨w3.heap.size, 0, none⟩ = some (.slice (some ⟨g3, 0, none⟩) 16 k3) ∧ w'.cell? ⟨g3, k, none⟩ = some (.int .i64 (x + 1))) (by kernel_rfl) ⟨hbx, hck⟩ (fun hHeld => ?_)
      refine tkH 0 ((.agg #[.slice (some ⟨g3, 0, none⟩) 16 k3])) rfl (Or.inl ⟨by rfl, by intro w hSw; obtain ⟨s0, s1⟩ := hSw; go_simp⟩) hHeld ?_
      simp only [tkS, Act.put]
      refine tkH 1 ((.pointer (some ⟨w3.heap.size, 0, none⟩))) rfl (Or.inl ⟨by rfl, by intro w hSw; obtain ⟨s0, s1⟩ := hSw; go_simp⟩) hHeld ?_
      simp only [tkS, Act.put]
      refine tkH 2 ((.slice (some ⟨g3, 0, none⟩) 16 k3)) rfl (Or.inl ⟨by rfl, by intro w hSw; obtain ⟨s0, s1⟩ := hSw; go_simp⟩) hHeld ?_
      simp only [tkS, Act.put]
      refine tkH 3 ((.int .i64 (k : Int))) rfl (Or.inl ⟨by rfl, by intro w hSw; obtain ⟨s0, s1⟩ := hSw; go_simp⟩) hHeld ?_
      simp only [tkS, Act.put]
      refine tkH 4 ((.pointer (some ⟨g3, k, none⟩))) rfl (Or.inl ⟨by rfl, by intro w hSw; obtain ⟨s0, s1⟩ := hSw; go_simp⟩) hHeld ?_
      simp only [tkS, Act.put]
      refine tkH 5 ((.int .i64 (x + 1))) rfl (Or.inl ⟨by rfl, by intro w hSw; obtain ⟨s0, s1⟩ := hSw; go_simp⟩) hHeld ?_
      simp only [tkS, Act.put]
      refine tkH 6 ((.int .i64 (k : Int))) rfl (Or.inl ⟨by rfl, by intro w hSw; obtain ⟨s0, s1⟩ := hSw; go_simp⟩) hHeld ?_
      simp only [tkS, Act.put]
      refine tkH 7 ((.agg #[.int .i64 (x + 1), .int .i64 (k : Int)])) rfl (Or.inl ⟨by rfl, by intro w hSw; obtain ⟨s0, s1⟩ := hSw; go_simp⟩) hHeld ?_
      simp only [tkS, Act.put]
      refine tkH 8 ((.string s)) rfl (Or.inl ⟨by rfl, by intro w hSw; obtain ⟨s0, s1⟩ := hSw; go_simp⟩) hHeld ?_
      simp only [tkS, Act.put]
      refine tkH 9 ((.agg #[.int .i64 (x + 1), .int .i64 (k : Int), .string s])) rfl (Or.inl ⟨by rfl, by intro w hSw; obtain ⟨s0, s1⟩ := hSw; go_simp⟩) hHeld ?_
      simp only [tkS, Act.put]
      have hvc : w5.drew.cell? ⟨w.heap.size + 1, 0, none⟩ = some (.slice none 0 0) := by
        show w5.cell? _ = _
        simp [World.cell?, hV5]
      have hvf : w5.drew.frozen? ⟨w.heap.size + 1, 0, none⟩ = false := by
        show w5.frozen? _ = _
        simp [World.frozen?, hV5]
      refine wpAnyH_ready (rs := [10]) (by kernel_rfl) (by simp) ?_
      refine AllReadyH.cons rfl (fun K hK => ?_) AllReadyH.nil
      go_simp
      have hset : ∀ (z : World) (m j p q : Nat) (u y : Value), m ≠ p → z.cell? ⟨m, j, none⟩ = some y → (z.setCell ⟨p, q, none⟩ u).cell? ⟨m, j, none⟩ = some y := fun z m j p q u y hne h => by
        rw [← h]
        exact World.cell?_of_block (a := ⟨m, j, none⟩) (heap_setCell_other z ⟨p, q, none⟩ m u hne)
      refine hK.out _ _ ⟨hset _ _ _ _ _ _ _ (by omega) hHeld.1, hset _ _ _ _ _ _ _ (by omega) hHeld.2⟩ (fun hHeld1 => ?_)
      clear hK K
      have hT6 : Tr (w5.setCell ⟨w.heap.size + 1, 0, none⟩ (.slice (some ⟨g3, 0, none⟩) 16 k3)).drew (w.heap.size + 1 + 1) (.int .i64 0) (.int .i64 0) (.string ⟨#[]⟩) := ⟨⟨hset _ _ _ _ _ _ _ (by omega) hT5.1.1, hset _ _ _ _ _ _ _ (by omega) hT5.1.2.1, hset _ _ _ _ _ _ _ (by omega) hT5.1.2.2⟩, fun j => by show (w5.setCell _ _).frozen? _ = false; rw [World.frozen?_setCell]; exact hT5.2 j⟩
      have hv6 : (w5.setCell ⟨w.heap.size + 1, 0, none⟩ (.slice (some ⟨g3, 0, none⟩) 16 k3)).drew.cell? ⟨w.heap.size + 1, 0, none⟩ = some (.slice (some ⟨g3, 0, none⟩) 16 k3) := World.cell?_setCell_same' w5 ⟨w.heap.size + 1, 0, none⟩ _ (by rw [show w5.cell? ⟨w.heap.size + 1, 0, none⟩ = _ from hvc]; rfl)
      have ho6 : Own 3 (w5.setCell ⟨w.heap.size + 1, 0, none⟩ (.slice (some ⟨g3, 0, none⟩) 16 k3)).drew (w.heap.size + 1 + 1 + 1) (.slice (some ⟨g3, 0, none⟩) 16 k3) ((xs.set k (x + 1)).map (Value.int .i64)) := Own.setK ho5 0 _ (by omega)
      have hB6 : Below w.heap.size w (w5.setCell ⟨w.heap.size + 1, 0, none⟩ (.slice (some ⟨g3, 0, none⟩) 16 k3)).drew := (hB5.setCell (p := ⟨w.heap.size + 1, 0, none⟩) (by show w.heap.size ≤ w.heap.size + 1; omega) _).drew
      clear hT5 ho5 hB5 hV5 hvc hvf hbx hck
      change wpAnyH _ _ _ _ _ _ _ _ (w5.setCell ⟨w.heap.size + 1, 0, none⟩ (.slice (some ⟨g3, 0, none⟩) 16 k3)).drew
      generalize (w5.setCell ⟨w.heap.size + 1, 0, none⟩ (.slice (some ⟨g3, 0, none⟩) 16 k3)).drew = w6 at *
      obtain ⟨⟨t0, t1, t2⟩, tf⟩ := hT6
      have tf0 := tf 0
      have tf1 := tf 1
      have tf2 := tf 2
      refine wpAnyH_ready (rs := [11]) (by kernel_rfl) (by simp) ?_
      refine AllReadyH.cons rfl (fun K hK => ?_) AllReadyH.nil
      go_simp
      refine hK.out _ _ ⟨hset _ _ _ _ _ _ _ (by omega) (hset _ _ _ _ _ _ _ (by omega) (hset _ _ _ _ _ _ _ (by omega) hHeld1.1)), hset _ _ _ _ _ _ _ (by omega) (hset _ _ _ _ _ _ _ (by omega) (hset _ _ _ _ _ _ _ (by omega) hHeld1.2))⟩ (fun hHeld2 => ?_)
      clear hK K
      refine wpAnyH_take (i := 12) (v := .int .i64 0) rfl (by kernel_rfl) (by kernel_rfl) (by kernel_rfl) (fun _ _ _ h => h) (Or.inl ⟨by rfl, by intro w hSw; go_simp⟩) hHeld2 ?_
      simp only [tkS, Act.put]
      refine wpAnyH_done (by kernel_rfl) ?_ _
      have hT7 := Tr.put (show Tr w6 (w.heap.size + 1 + 1) _ _ _ from ⟨⟨t0, t1, t2⟩, tf⟩) (.int .i64 (x + 1)) (.int .i64 (k : Int)) (.string s)
      have HT7 : Hid _ := hT7.1
      have hv7 : (((w6.setCell ⟨w.heap.size + 1 + 1, 0, none⟩ (.int .i64 (x + 1))).setCell ⟨w.heap.size + 1 + 1, 1, none⟩ (.int .i64 (k : Int))).setCell ⟨w.heap.size + 1 + 1, 2, none⟩ (.string s)).cell? ⟨w.heap.size + 1, 0, none⟩ = some (.slice (some ⟨g3, 0, none⟩) 16 k3) := hset _ _ _ _ _ _ _ (by omega) (hset _ _ _ _ _ _ _ (by omega) (hset _ _ _ _ _ _ _ (by omega) hv6))
      have ho7 : Own 3 (((w6.setCell ⟨w.heap.size + 1 + 1, 0, none⟩ (.int .i64 (x + 1))).setCell ⟨w.heap.size + 1 + 1, 1, none⟩ (.int .i64 (k : Int))).setCell ⟨w.heap.size + 1 + 1, 2, none⟩ (.string s)) w.heap.size (.slice (some ⟨g3, 0, none⟩) 16 k3) ((xs.set k (x + 1)).map (Value.int .i64)) := (Own.setK (Own.setK (Own.setK ho6 0 _ (by omega)) 1 _ (by omega)) 2 _ (by omega)).mono (by omega)
      have hB7 : Below w.heap.size w (((w6.setCell ⟨w.heap.size + 1 + 1, 0, none⟩ (.int .i64 (x + 1))).setCell ⟨w.heap.size + 1 + 1, 1, none⟩ (.int .i64 (k : Int))).setCell ⟨w.heap.size + 1 + 1, 2, none⟩ (.string s)) := below_put hB6 (by omega) _ _ _
      clear hT7 ho6 hB6 hv6 t0 t1 t2 tf tf0 tf1 tf2 hHeld hHeld1 hHeld2 hset
      generalize (((w6.setCell ⟨w.heap.size + 1 + 1, 0, none⟩ (.int .i64 (x + 1))).setCell ⟨w.heap.size + 1 + 1, 1, none⟩ (.int .i64 (k : Int))).setCell ⟨w.heap.size + 1 + 1, 2, none⟩ (.string s)) = w7 at *
      obtain ⟨u0, u1, u2⟩ := HT7.out
      go_wp2_with fail
      refine bodyPost_ret (v := .tuple #[.agg #[.slice (some ⟨g3, 0, none⟩) 16 k3], .agg #[.int .i64 (x + 1), .int .i64 (k : Int), .string s], .int .i64 0]) ?_ rfl ((HQ.out _ _).2 (.inr ⟨hx, g3, k3, rfl, ho7, hB7⟩))
      simp [results, Try.results31, go_sem, hv7, u0, u1, u2]
  · have HQ : Hid (∀ e w', e = .returned (.tuple #[.agg #[.slice none 0 0], .agg #[.int .i64 0, .int .i64 0, .string ByteArray.empty], .int .i64 4]) → Below w.heap.size w w' → LwAns xs c s w e w') := fun e w' h1 h2 => .inl ⟨hin, h1, h2⟩
    by_cases h0 : c < 0
    · clear hin
      go_enter Try.func31, Try.ntmps31
      go_wp2_with fail
      refine bodyPost_ret (v := .tuple #[.agg #[.slice none 0 0], .agg #[.int .i64 0, .int .i64 0, .string ByteArray.empty], .int .i64 4]) ?_ rfl (HQ.out _ _ rfl hB0)
      simp [results, Try.results31, go_sem]; rfl
    · by_cases h1 : (16 : Int) ≤ c
      · clear hin
        go_enter Try.func31, Try.ntmps31
        go_wp2_with fail
        refine bodyPost_ret (v := .tuple #[.agg #[.slice none 0 0], .agg #[.int .i64 0, .int .i64 0, .string ByteArray.empty], .int .i64 4]) ?_ rfl (HQ.out _ _ rfl hB0)
        simp [results, Try.results31, go_sem]; rfl
      · have h2 : (200 : Int) < (s.size : Int) := by
          have : ¬ s.size ≤ 200 := fun e => hin ⟨⟨by omega, by omega⟩, e⟩
          omega
        clear hin
        go_enter Try.func31, Try.ntmps31
        go_wp2_with fail
        refine bodyPost_ret (v := .tuple #[.agg #[.slice none 0 0], .agg #[.int .i64 0, .int .i64 0, .string ByteArray.empty], .int .i64 4]) ?_ rfl (HQ.out _ _ rfl hB0)
        simp [results, Try.results31, go_sem]; rfl

end Go.Proofs.Ytdkfeabpnikedaa
