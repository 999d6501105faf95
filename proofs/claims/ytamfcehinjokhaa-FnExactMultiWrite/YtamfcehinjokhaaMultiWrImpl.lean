/- What the code's MultiWrite does; over the contract of slices.SortFunc at one stamp. -/
import Derived.Test.YtamfcehinjokhaaMultiOf
import Derived.Test.YtamfcehinjokhaaMultiTold
import Derived.Test.YtamfcehinjokhaaNextImpl
namespace Go.Proofs.Ytamfcehinjokhaa
open Go.RowKit
open Go.ChangeMaps (setBlock heap_setBlock_same)
open Go.MapKept (Stamped)
set_option linter.unusedVariables false

theorem Mp.clear {P : Program} {k t e : TypeId} {w : World} {b : Nat} {L : List (Value × Value)} (h : Mp P k w b L) (ht : P.underlying t = some (.map k e)) (ty : TypeId) :
    ∃ w', (Builtin.clear_ #[t] ty #[.map (some b)]).run P w = .ok (.tuple #[]) w' ∧ Mp P k w' b [] ∧ w.grownBy w' (some b) := by
  obtain ⟨es, clock, hb, hs, rfl, hK⟩ := h
  refine ⟨_, by simp [Builtin.clear_, run_underlying ht, MapKept.run_getObj_map hb, MapKept.run_setObj_map _ hb, Result.andThen]; rfl, ⟨#[], clock, heap_setBlock_same hb _, MapKept.stamped_empty clock, rfl, by simp⟩, grown_setBlock hb _⟩
theorem wpList_clear_mp {P : Program} {ops : Array Oper} {rest : List Oper} {o : Oper} {a : Act} {w : World} {Q : Exit → Act → World → Prop} (hg : o.guard = none) (m : Operand) (t : TypeId) (hop : o.op = Op.call { callee := Callee.builtin Builtin.clear, args := #[m], argTypes := #[t] })
    (k e : TypeId) (ht : P.underlying t = some (.map k e)) (b : Nat) (L : List (Value × Value)) (hm : a.eval m = .map (some b)) (hM : Mp P k w b L)
    (hK : ∀ w', Mp P k w' b [] → w.grownBy w' (some b) → wpList P ops Q rest (a.put o.dst (.tuple #[])) w') : wpList P ops Q (o :: rest) a w := by
  refine wpList_plain hg fun K' hK' => ?_
  obtain ⟨w', hrun, h1, h2⟩ := hM.clear ht o.type
  unfold Oper.wp
  simp [execOp, hop, resolve, invoke, builtin, hm, hrun, Result.andThen]
  exact hK' _ _ (hK w' h1 h2)
/-- The code of a writing; the counts and the entries behind it. -/
def inA (c : Int) : Prop := 0 ≤ c ∧ c < 16
def wrC (xs : List Int) (ls : List En) (c : Int) (s : ByteArray) : Int :=
  if okJ xs ls = true then (if (0 ≤ c ∧ c < 16) ∧ s.size ≤ 200 then (if xs.getD c.toNat 0 = 1000000000000 then 11 else 0) else 4) else 1
def wrV (xs : List Int) (ls : List En) (c : Int) (s : ByteArray) : List Int := if wrC xs ls c s = 0 then xs.set c.toNat (xs.getD c.toNat 0 + 1) else []
def wrE (xs : List Int) (ls : List En) (c : Int) (s : ByteArray) : List En := if wrC xs ls c s = 0 then [(xs.getD c.toNat 0 + 1, c, s)] else []
theorem wr_bad {xs : List Int} {ls : List En} (c : Int) (s : ByteArray) (h : okJ xs ls = false) : wrC xs ls c s = 1 ∧ wrV xs ls c s = [] ∧ wrE xs ls c s = [] := by
  have : wrC xs ls c s = 1 := by simp [wrC, h]
  simp [wrV, wrE, this]
theorem wr_out {xs : List Int} {ls : List En} {c : Int} {s : ByteArray} (h : okJ xs ls = true) (hc : ¬ ((0 ≤ c ∧ c < 16) ∧ s.size ≤ 200)) : wrC xs ls c s = 4 ∧ wrV xs ls c s = [] ∧ wrE xs ls c s = [] := by
  have : wrC xs ls c s = 4 := by unfold wrC; rw [if_pos h, if_neg hc]
  simp [wrV, wrE, this]
theorem wr_full {xs : List Int} {ls : List En} {c : Int} {s : ByteArray} (h : okJ xs ls = true) (hc : (0 ≤ c ∧ c < 16) ∧ s.size ≤ 200) (hx : xs.getD c.toNat 0 = 1000000000000) : wrC xs ls c s = 11 ∧ wrV xs ls c s = [] ∧ wrE xs ls c s = [] := by
  have : wrC xs ls c s = 11 := by unfold wrC; rw [if_pos h, if_pos hc, if_pos hx]
  simp [wrV, wrE, this]
theorem wr_done {xs : List Int} {ls : List En} {c : Int} {s : ByteArray} (h : okJ xs ls = true) (hc : (0 ≤ c ∧ c < 16) ∧ s.size ≤ 200) (hx : ¬ xs.getD c.toNat 0 = 1000000000000) : wrC xs ls c s = 0 ∧ wrV xs ls c s = xs.set c.toNat (xs.getD c.toNat 0 + 1) ∧ wrE xs ls c s = [(xs.getD c.toNat 0 + 1, c, s)] := by
  have : wrC xs ls c s = 0 := by unfold wrC; rw [if_pos h, if_pos hc, if_neg hx]
  simp [wrV, wrE, this]
theorem vecOK_of {xs : List Int} {ls : List En} (h : okJ xs ls = true) : vecOK xs = true ∧ ls.length ≤ 256 := by
  unfold okJ at h
  simp only [Bool.and_eq_true, decide_eq_true_eq] at h
  exact ⟨h.1, h.2.1⟩
/-- What multiOf answered at a valid value, laid into a new block. -/
theorem jm_laid {w w2 : World} {b : Nat} {xs : List Int} {ls : List En} {T : TypeId} (h16 : xs.length = 16) (hM : Mp Try.prog 58 w2 b (ls.map kvE)) :
    Jm ((w2.alloc (.cells zeroJ.toArray T)).setCells w2.heap.size 0 (arrC xs ++ [Value.map (some b)])) w2.heap.size xs b ∧ Mp Try.prog 58 ((w2.alloc (.cells zeroJ.toArray T)).setCells w2.heap.size 0 (arrC xs ++ [Value.map (some b)])) b (ls.map kvE) := by
  have hl : (arrC xs ++ [Value.map (some b)]).length = 17 := by simp [arrC_len, h16]
  have ht : (w2.alloc (.cells zeroJ.toArray T)).there w2.heap.size 0 17 := there_new (n := 17) (by rw [zeroJ_size]; exact Nat.le_refl _)
  have hlt := hM.lt
  exact ⟨⟨World.rangeAt_setCells_same _ _ _ _ (by rw [hl]; exact ht), World.there_setCells ht _ _ _⟩, mp_setCells (hM.alloc _) (by omega) _ _⟩

set_option maxHeartbeats 4000000 in
set_option maxRecDepth 100000 in
theorem implMultiWrite_any (C : Nat) (w : World) (v ve : Value) (xs : List Int) (ls : List En) (c : Int) (s : ByteArray) (hs : s.size ≤ 9223372036854775807) (hC : C ≤ w.heap.size) (hv : Rd C w v (xs.map (Value.int .i64))) (he : RdE C w ve ls) :
    Calls Try.prog 11 #[.agg #[v, ve], .int .i64 c, .string s] w (SvAns (wrV xs ls c s) (wrE xs ls c s) (wrC xs ls c s) w) := by
  have hxx : xs.length = 16 ∨ okJ xs ls = false := by
    cases hk : vecOK xs with
    | true => exact .inl (vecOK_get hk).1
    | false => exact .inr (okJ_vec hk)
  have hB0 : Below w.heap.size w ((w.alloc (.cells #[v, ve] 32)).alloc (.cells #[.slice none 0 0, .slice none 0 0] 32)) := below_then (below_alloc _ _) _
  have hS := multiOf_any C ((w.alloc (.cells #[v, ve] 32)).alloc (.cells #[.slice none 0 0, .slice none 0 0] 32)) v ve xs ls (Nat.le_trans hC hB0.size) (hv.belowW hB0 hC) (he.below (hB0.mono hC))
  have hsl : ∃ ao len cap, v = .slice ao len cap := by
    obtain ⟨ao, cap, rfl, _⟩ := hv
    exact ⟨_, _, _, rfl⟩
  obtain ⟨ao, la, ca, rfl⟩ := hsl
  have he0 := he
  obtain ⟨eo, ec, rfl, _⟩ := he0
  have hD0 : Dy ((w.alloc (.cells #[.slice ao la ca, .slice eo ls.length ec] 32)).alloc (.cells #[.slice none 0 0, .slice none 0 0] 32)) w.heap.size (.slice ao la ca) (.slice eo ls.length ec) := (Dy.made w (.slice ao la ca) (.slice eo ls.length ec) 32).on (below_alloc _ _)
  have hR0 : Dy ((w.alloc (.cells #[.slice ao la ca, .slice eo ls.length ec] 32)).alloc (.cells #[.slice none 0 0, .slice none 0 0] 32)) (w.heap.size + 1) (.slice none 0 0) (.slice none 0 0) := by
    have := Dy.made (w.alloc (.cells #[.slice ao la ca, .slice eo ls.length ec] 32)) (.slice none 0 0) (.slice none 0 0) 32
    rw [World.size_alloc] at this
    exact this
  obtain ⟨⟨e0, e1⟩, _⟩ := hD0
  go_enter Try.func11, Try.ntmps11
  go_wp2_with fail
  refine hS.mono ?_
  rintro e w2 (⟨hok, b, rfl, hb, hM, hB⟩ | ⟨hok, rfl, hB⟩)
  · have h16 : xs.length = 16 := hxx.resolve_right (by rw [hok]; decide)
    obtain ⟨hJ3, hM3⟩ := jm_laid (w := w) (T := 71) h16 hM
    have hZ : (arrC xs ++ [Value.map (some b)]).length = 17 := by simp [arrC_len, h16]
    have hsz : (arrC xs ++ [Value.map (some b)]).toArray.size = 17 := by rw [List.size_toArray]; exact hZ
    have hone : (arrC xs ++ [Value.map (some b)]).toArray.all (·.oneCell') = true := all_oneCell_toArray (fun v hv => by rcases List.mem_append.1 hv with h | h; exact arrC_one xs v h; rw [List.mem_singleton.1 h]; rfl)
    have hiS : (Try.prog.info? 71).map (·.size) = some (arrC xs ++ [Value.map (some b)]).toArray.size := by rw [List.size_toArray, hZ]; exact multiMap_info
    have h3 : (w2.alloc (.cells zeroJ.toArray 71)).there w2.heap.size 0 (arrC xs ++ [Value.map (some b)]).toArray.size := by rw [hsz]; exact there_new (n := 17) (by rw [zeroJ_size]; exact Nat.le_refl _)
    have hR2 := hR0.on hB
    have hb3 : Below w2.heap.size w2 ((w2.alloc (.cells zeroJ.toArray 71)).setCells w2.heap.size 0 (arrC xs ++ [Value.map (some b)])) := below_setCells (Nat.le_refl _) _ _ _ (below_alloc _ _)
    have hR3 := hR2.on hb3
    have hB3 := below_seq (below_seq hB0 hB) hb3
    have hb' : w.heap.size + 1 + 1 ≤ b := by simpa using hb
    have hblt := hM.lt
    have hvk := vecOK_of hok
    clear hS e0 e1 hR0 hsz hZ hb3
    have hgen : ∃ Z, arrC xs ++ [Value.map (some b)] = Z := ⟨_, rfl⟩
    obtain ⟨Z, hZZ⟩ := hgen
    rw [hZZ] at hJ3 hM3 hone hiS h3 hR3 hB3
    have hE : (Value.agg (arrC xs ++ [Value.map (some b)]).toArray) = .agg Z.toArray := by rw [hZZ]
    rw [hE]
    clear hE hZZ
    go_upto_region 2 with (first | (refine wpList_store_mid rfl 71 _ _ rfl w2.heap.size 0 Z.toArray rfl rfl h3 hiS hone ?_))
    have hgen : ∃ w3, ((w2.alloc (.cells zeroJ.toArray 71)).setCells w2.heap.size 0 Z) = w3 := ⟨_, rfl⟩
    obtain ⟨w3, hw3⟩ := hgen
    rw [hw3] at hJ3 hM3 hR3 hB3
    change Code.wp _ _ _ _ ((w2.alloc (.cells zeroJ.toArray 71)).setCells w2.heap.size 0 Z)
    rw [hw3]
    clear hw3 h3 hiS hone
    by_cases hin : (0 ≤ c ∧ c < 16) ∧ s.size ≤ 200
    · have hin' := hin
      obtain ⟨hc, hs200⟩ := hin
      obtain ⟨k, rfl⟩ : ∃ k : Nat, c = (k : Int) := ⟨c.toNat, by omega⟩
      have hk : k < 16 := by omega
      have hA := fun w => isActor_any (k : Int) w
      rw [decide_eq_true hc] at hA
      have hW := fun w => isWord_any s w
      rw [decide_eq_true hs200] at hW
      have hgd : xs.getD k 0 = xs[k] := by simp [List.getD, h16, hk]
      have hxb := (vecOK_get hvk.1).2 k (by omega)
      have hN := next_any w3 w2.heap.size b xs k hJ3 h16 hk (by rw [hgd]; exact hxb.1) (by rw [hgd]; exact hxb.2)
      have hx0 : 0 ≤ xs.getD k 0 := by rw [hgd]; exact hxb.1
      have hx1 : xs.getD k 0 ≤ 1000000000000 := by rw [hgd]; exact hxb.2
      have hn3 := hJ3.lt
      have hne := jm_ne hJ3 hM3
      have HQ : Hid ((xs.getD k 0 = 1000000000000 → wrC xs ls (k : Int) s = 11 ∧ wrV xs ls (k : Int) s = [] ∧ wrE xs ls (k : Int) s = []) ∧ (¬ xs.getD k 0 = 1000000000000 → wrC xs ls (k : Int) s = 0 ∧ wrV xs ls (k : Int) s = xs.set k (xs.getD k 0 + 1) ∧ wrE xs ls (k : Int) s = [(xs.getD k 0 + 1, (k : Int), s)])) := ⟨fun h => wr_full hok hin' (by simpa using h), fun h => by simpa using wr_done hok hin' (by simpa using h)⟩
      clear hgd hxb hc hs200 hin' hok hvk
      generalize xs.getD k 0 = x at hN HQ hx0 hx1
      go_wp2_with (first | (go_at_call 35; refine (hA _).mono ?_; rintro e w' ⟨rfl, rfl⟩) | (go_at_call 36; refine (hW _).mono ?_; rintro e w' ⟨rfl, rfl⟩))
      refine hN.mono ?_
      rintro e w4 (⟨hx, rfl, hb4⟩ | ⟨hx, rfl, hJ4, hg4⟩)
      · obtain ⟨q1, q2, q3⟩ := HQ.out.1 hx
        have HA : Hid _ := And.intro q1 (And.intro q2 q3)
        have hR4 := hR3.on hb4
        have hB4 := below_seq hB3 hb4
        have hlt4 := hR4.lt
        obtain ⟨⟨r0, r1⟩, rf⟩ := hR4
        have f0 := rf 0
        have f1 := rf 1
        have HR : Hid _ := ((Dy.set1 (Dy.set0 (show Dy w4 (w.heap.size + 1) _ _ from ⟨⟨r0, r1⟩, rf⟩) (.slice none 0 0)) (.slice none 0 0)).on (below_alloc _ (.cells #[.int .i64 0, .int .i64 0] 58))).1
        have hBf := below_then ((hB4.setCell (p := ⟨w.heap.size + 1, 0, none⟩) (by show w.heap.size ≤ w.heap.size + 1; omega) (.slice none 0 0)).setCell (p := ⟨w.heap.size + 1, 1, none⟩) (by show w.heap.size ≤ w.heap.size + 1; omega) (.slice none 0 0)) (.cells #[.int .i64 0, .int .i64 0] 58)
        clear q1 q2 q3 HQ hN hR3 hJ3 hM3 hB3 hb4 hB4
        go_wp2_with fail
        refine bodyPost_ret (v := .tuple #[.agg #[.slice none 0 0, .slice none 0 0], .int .i64 11]) ?_ rfl ⟨_, _, by rw [HA.out.1], by rw [HA.out.2.1, HA.out.2.2]; exact svNone _ _ _, hBf⟩
        simp [results, Try.results11, go_sem, HR.out.1, HR.out.2]
      · obtain ⟨q1, q2, q3⟩ := HQ.out.2 hx
        have HA : Hid _ := And.intro q1 (And.intro q2 q3)
        have hX' : (xs.set k (x + 1)).length = 16 := by simp [h16]
        have hM4 := hM3.kept hg4 (fun e => hne (by simpa using e))
        have hn2 : w.heap.size + 1 + 1 ≤ w2.heap.size := by have := hB.size; simpa using this
        have hR4 := hR3.grown hg4 (by simp; omega)
        have hB4 : Below w.heap.size w w4 := below_grownE hB3 (Nat.le_refl _) hg4 (fun g hg => by cases hg; omega)
        have hb5 := below_alloc w4 (.cells #[.int .i64 (x + 1), .int .i64 (k : Int)] 58)
        have hJ5 := hJ4.on hb5
        have hM5 := hM4.on hb5
        have hR5 := hR4.on hb5
        have hB5 := below_seq hB4 hb5
        have m5 := hJ5.map hX'
        have hS5 := Dy.made w4 (.int .i64 (x + 1)) (.int .i64 (k : Int)) 58
        have hM4lt := hM4.lt
        have hn4 := hJ4.lt
        clear q1 q2 q3 HQ hN hR3 hJ3 hM3 hB3 hg4 hB4 hR4 hJ4
        obtain ⟨w6, hrun6, hM6, hg6⟩ := hM5.clear Try.underlying67 0
        go_upto_region 10 with fail
        have hJ6 := hJ5.kept hg6 (fun e => hne (by simpa using e.symm))
        have hR6 := hR5.grown hg6 (by simp; omega)
        have hS6 := hS5.grown hg6 (by simp; omega)
        have hB6 : Below w.heap.size w w6 := below_grownE hB5 (Nat.le_refl _) hg6 (fun g hg => by cases hg; omega)
        obtain ⟨⟨s0, s1⟩, _⟩ := hS6
        clear hg6 hM5 hJ5 hR5 hS5 hB5 m5 hrun6
        obtain ⟨l, hl⟩ := stKey (t := x + 1) (a := (k : Int)) (by omega) (by omega) (by omega) (by omega)
        have hP := put_any w6 w2.heap.size b (xs.set k (x + 1)) [] ([] ++ [(.agg #[.int .i64 (x + 1), .int .i64 (k : Int)], .agg #[.int .i64 (x + 1), .int .i64 (k : Int), .string s])]) (x + 1) (k : Int) s hJ6 hX' hM6 (fun w1 h1 => h1.new stKeyed Try.underlying67 hl (by simp) _)
        go_wp2_with fail
        refine hP.mono ?_
        rintro e w7 ⟨rfl, hM7, hg7⟩
        have hJ7 := hJ6.kept hg7 (fun e => hne (by simpa using e.symm))
        have hR7 := hR6.grown hg7 (by simp; omega)
        have hB7 : Below w.heap.size w w7 := below_grownE hB6 (Nat.le_refl _) hg7 (fun g hg => by cases hg; omega)
        have hT := toldMulti_any 1 sortsOne (by omega) w7 w2.heap.size b (xs.set k (x + 1)) [(x + 1, (k : Int), s)] hJ7 hX' hM7 (.inl rfl)
        clear hP hM6 hJ6 hR6 hB6 hg7 s0 s1
        go_wp2_with fail
        refine hT.mono ?_
        rintro e w8 (⟨_, es, hpe, _, u, v, rfl, hSv, hb8⟩ | ⟨hno, _⟩)
        · obtain rfl := List.perm_singleton.1 hpe
          have hR8 := hR7.on hb8
          have hB8 := below_seq hB7 hb8
          have hlt8 := hR7.lt
          obtain ⟨ua, un, uc, va, vn, vc, rfl, rfl⟩ := hSv.shape
          obtain ⟨⟨r0, r1⟩, rf⟩ := hR8
          have f0 := rf 0
          have f1 := rf 1
          have HR : Hid _ := (Dy.set1 (Dy.set0 (show Dy w8 (w.heap.size + 1) _ _ from ⟨⟨r0, r1⟩, rf⟩) (.slice ua un uc)) (.slice va vn vc)).1
          have hBf := (hB8.setCell (p := ⟨w.heap.size + 1, 0, none⟩) (by show w.heap.size ≤ w.heap.size + 1; omega) (.slice ua un uc)).setCell (p := ⟨w.heap.size + 1, 1, none⟩) (by show w.heap.size ≤ w.heap.size + 1; omega) (.slice va vn vc)
          have hSf := (sv_put hSv (w.heap.size + 1) hlt8 (.slice ua un uc) (.slice va vn vc)).mono (B' := w.heap.size) (E' := ((w8.setCell ⟨w.heap.size + 1, 0, none⟩ (.slice ua un uc)).setCell ⟨w.heap.size + 1, 1, none⟩ (.slice va vn vc)).heap.size) (by omega) (by simp)
          clear hT hM7 hJ7 hR7 hB7 hb8 hSv
          go_wp2_with fail
          refine bodyPost_ret (v := .tuple #[.agg #[.slice ua un uc, .slice va vn vc], .int .i64 0]) ?_ rfl ⟨_, _, by rw [HA.out.1], by rw [HA.out.2.1, HA.out.2.2]; exact hSf, hBf⟩
          simp [results, Try.results11, go_sem, HR.out.1, HR.out.2]
        · exact absurd (by simp) hno
    · obtain ⟨q1, q2, q3⟩ := wr_out hok hin
      have HA : Hid _ := And.intro q1 (And.intro q2 q3)
      clear q1 q2 q3 hok
      by_cases hc : 0 ≤ c ∧ c < 16
      · have hA := fun w => isActor_any c w
        rw [decide_eq_true hc] at hA
        have hW := fun w => isWord_any s w
        rw [decide_eq_false (fun h => hin ⟨hc, h⟩)] at hW
        clear hin
        obtain ⟨⟨r0, r1⟩, rf⟩ := hR3
        have f0 := rf 0
        have f1 := rf 1
        have HR : Hid _ := (Dy.set1 (Dy.set0 (show Dy w3 (w.heap.size + 1) _ _ from ⟨⟨r0, r1⟩, rf⟩) (.slice none 0 0)) (.slice none 0 0)).1
        have hBf := (hB3.setCell (p := ⟨w.heap.size + 1, 0, none⟩) (by show w.heap.size ≤ w.heap.size + 1; omega) (.slice none 0 0)).setCell (p := ⟨w.heap.size + 1, 1, none⟩) (by show w.heap.size ≤ w.heap.size + 1; omega) (.slice none 0 0)
        go_wp2_with (first | (go_at_call 35; refine (hA _).mono ?_; rintro e w' ⟨rfl, rfl⟩) | (go_at_call 36; refine (hW _).mono ?_; rintro e w' ⟨rfl, rfl⟩))
        refine bodyPost_ret (v := .tuple #[.agg #[.slice none 0 0, .slice none 0 0], .int .i64 4]) ?_ rfl ⟨_, _, by rw [HA.out.1], by rw [HA.out.2.1, HA.out.2.2]; exact svNone _ _ _, hBf⟩
        simp [results, Try.results11, go_sem, HR.out.1, HR.out.2]
      · have hA := fun w => isActor_any c w
        rw [decide_eq_false hc] at hA
        clear hin
        obtain ⟨⟨r0, r1⟩, rf⟩ := hR3
        have f0 := rf 0
        have f1 := rf 1
        have HR : Hid _ := (Dy.set1 (Dy.set0 (show Dy w3 (w.heap.size + 1) _ _ from ⟨⟨r0, r1⟩, rf⟩) (.slice none 0 0)) (.slice none 0 0)).1
        have hBf := (hB3.setCell (p := ⟨w.heap.size + 1, 0, none⟩) (by show w.heap.size ≤ w.heap.size + 1; omega) (.slice none 0 0)).setCell (p := ⟨w.heap.size + 1, 1, none⟩) (by show w.heap.size ≤ w.heap.size + 1; omega) (.slice none 0 0)
        go_wp2_with (first | (go_at_call 35; refine (hA _).mono ?_; rintro e w' ⟨rfl, rfl⟩))
        refine bodyPost_ret (v := .tuple #[.agg #[.slice none 0 0, .slice none 0 0], .int .i64 4]) ?_ rfl ⟨_, _, by rw [HA.out.1], by rw [HA.out.2.1, HA.out.2.2]; exact svNone _ _ _, hBf⟩
        simp [results, Try.results11, go_sem, HR.out.1, HR.out.2]
  · obtain ⟨q1, q2, q3⟩ := wr_bad c s hok
    have HA : Hid _ := And.intro q1 (And.intro q2 q3)
    clear q1 q2 q3 hS e0 e1
    have hR2 := hR0.on hB
    have hB2 := below_seq hB0 hB
    have hgen : ∃ Z, zeroJ = Z ∧ Z.toArray.size = 17 ∧ Z.toArray.all (·.oneCell') = true := ⟨_, rfl, zeroJ_size, zeroJ_one⟩
    obtain ⟨Z, hZZ, hsz, hone⟩ := hgen
    have hiS : (Try.prog.info? 71).map (·.size) = some Z.toArray.size := by rw [hsz]; exact multiMap_info
    have h3 : (w2.alloc (.cells zeroJ.toArray 71)).there w2.heap.size 0 Z.toArray.size := by rw [hsz]; exact there_new (n := 17) (by rw [zeroJ_size]; exact Nat.le_refl _)
    have hb3 : Below w2.heap.size w2 ((w2.alloc (.cells zeroJ.toArray 71)).setCells w2.heap.size 0 Z) := below_setCells (Nat.le_refl _) _ _ _ (below_alloc _ _)
    have hR3 := hR2.on hb3
    have hB3 := below_seq hB2 hb3
    have hE : (Value.agg zeroJ.toArray) = .agg Z.toArray := by rw [hZZ]
    rw [hE]
    clear hR0 hR2 hB2 hB hB0 hb3 hsz hE hZZ
    go_upto_region 2 with (first | (refine wpList_store_mid rfl 71 _ _ rfl w2.heap.size 0 Z.toArray rfl rfl h3 hiS hone ?_))
    have hgen : ∃ w3, ((w2.alloc (.cells zeroJ.toArray 71)).setCells w2.heap.size 0 Z) = w3 := ⟨_, rfl⟩
    obtain ⟨w3, hw3⟩ := hgen
    rw [hw3] at hR3 hB3
    change Code.wp _ _ _ _ ((w2.alloc (.cells zeroJ.toArray 71)).setCells w2.heap.size 0 Z)
    rw [hw3]
    clear hw3 h3 hiS hone
    obtain ⟨⟨r0, r1⟩, rf⟩ := hR3
    have f0 := rf 0
    have f1 := rf 1
    have HR : Hid _ := (Dy.set1 (Dy.set0 (show Dy w3 (w.heap.size + 1) _ _ from ⟨⟨r0, r1⟩, rf⟩) (.slice none 0 0)) (.slice none 0 0)).1
    have hBf := (hB3.setCell (p := ⟨w.heap.size + 1, 0, none⟩) (by show w.heap.size ≤ w.heap.size + 1; omega) (.slice none 0 0)).setCell (p := ⟨w.heap.size + 1, 1, none⟩) (by show w.heap.size ≤ w.heap.size + 1; omega) (.slice none 0 0)
    go_wp2_with (fail)
    refine bodyPost_ret (v := .tuple #[.agg #[.slice none 0 0, .slice none 0 0], .int .i64 1]) ?_ rfl ⟨_, _, by rw [HA.out.1], by rw [HA.out.2.1, HA.out.2.2]; exact svNone _ _ _, hBf⟩
    simp [results, Try.results11, go_sem, HR.out.1, HR.out.2]

end Go.Proofs.Ytamfcehinjokhaa
