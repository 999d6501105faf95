/- What the code's SetAdd does. -/
import Derived.Test.YtdkfeabpnikedaaQSetRemImpl
import Derived.Test.YtdkfeabpnikedaaQNextImpl
import Derived.Test.YtdkfeabpnikedaaQEntInsertToSetRemSpec
namespace Go.Proofs.Ytdkfeabpnikedaa
open Go.RowKit
set_option linter.unusedVariables false

theorem insE_nil (e : En) : insE [] e = [e] := rfl
theorem insE_cons (y : En) (ys : List En) (e : En) : insE (y :: ys) e = if lessS y.1 y.2.1 e.1 e.2.1 = true then y :: insE ys e else e :: y :: ys := by
  unfold insE posE
  by_cases h : lessS y.1 y.2.1 e.1 e.2.1 = true
  · rw [if_pos h]
    simp [posP, h]
  · rw [if_neg h]
    simp [posP, h]
theorem insE_perm (L : List En) (e : En) : (insE L e).Perm (L ++ [e]) := by
  unfold insE
  refine List.perm_middle.trans ?_
  rw [List.take_append_drop]
  exact (List.perm_append_singleton e L).symm
theorem insE_up {L : List En} {e : En} (h : L.Pairwise upE) (hn : ∀ y ∈ L, ¬ (y.1 = e.1 ∧ y.2.1 = e.2.1)) : (insE L e).Pairwise upE := by
  induction L with
  | nil => rw [insE_nil]; simp
  | cons y ys ih =>
    obtain ⟨h1, h2⟩ := List.pairwise_cons.1 h
    rw [insE_cons]
    by_cases hl : lessS y.1 y.2.1 e.1 e.2.1 = true
    · rw [if_pos hl]
      refine List.pairwise_cons.2 ⟨fun z hz => ?_, ih h2 (fun z hz => hn z (List.mem_cons_of_mem _ hz))⟩
      have := (insE_perm ys e).subset hz
      rcases List.mem_append.1 this with h3 | h3
      · exact h1 z h3
      · rw [List.mem_singleton.1 h3]
        exact hl
    · rw [if_neg hl]
      have hy : upE e y := by
        have h3 := hn y (by simp)
        unfold upE
        rw [lessS_iff] at hl ⊢
        omega
      refine List.pairwise_cons.2 ⟨fun z hz => ?_, h⟩
      rcases List.mem_cons.1 hz with rfl | h3
      · exact hy
      · exact lessS_trans hy (h1 z h3)
theorem insE_len (L : List En) (e : En) : (insE L e).length = L.length + 1 := by
  have := (insE_perm L e).length_eq
  simpa using this
theorem seen_le {xs : List Int} {ls : List En} (h : okJ xs ls = true) : ∀ e ∈ ls, e.1 ≤ xs.getD e.2.1.toNat 0 := by
  unfold okJ at h
  simp only [Bool.and_eq_true, decide_eq_true_eq] at h
  intro e he
  obtain ⟨j, hj, rfl⟩ := List.getElem_of_mem he
  have h1 := allOne_mono (k := j + 1) (by omega) h.2.2
  simp only [allOne, Bool.and_eq_true] at h1
  have h2 := (one_parts h1.2).2.2.2
  rw [show enAt ls j = ls[j] by simp [enAt, hj]] at h2
  exact h2
/-- The code of an adding; the counts and the entries behind it. -/
def adC (xs : List Int) (ls : List En) (c : Int) (s : ByteArray) : Int :=
  if okJ xs ls = true then (if (0 ≤ c ∧ c < 16) ∧ s.size ≤ 200 then (if xs.getD c.toNat 0 = 1000000000000 then 11 else if (without ls s).length + 1 ≤ 256 then 0 else 11) else 4) else 1
def adV (xs : List Int) (ls : List En) (c : Int) (s : ByteArray) : List Int := if adC xs ls c s = 0 then xs.set c.toNat (xs.getD c.toNat 0 + 1) else []
def adE (xs : List Int) (ls : List En) (c : Int) (s : ByteArray) : List En := if adC xs ls c s = 0 then insE (without ls s) (xs.getD c.toNat 0 + 1, c, s) else []
theorem ad_bad {xs : List Int} {ls : List En} (c : Int) (s : ByteArray) (h : okJ xs ls = false) : adC xs ls c s = 1 ∧ adV xs ls c s = [] ∧ adE xs ls c s = [] := by
  have : adC xs ls c s = 1 := by simp [adC, h]
  simp [adV, adE, this]
theorem ad_out {xs : List Int} {ls : List En} {c : Int} {s : ByteArray} (h : okJ xs ls = true) (hc : ¬ ((0 ≤ c ∧ c < 16) ∧ s.size ≤ 200)) : adC xs ls c s = 4 ∧ adV xs ls c s = [] ∧ adE xs ls c s = [] := by
  have : adC xs ls c s = 4 := by unfold adC; rw [if_pos h, if_neg hc]
  simp [adV, adE, this]
theorem ad_full {xs : List Int} {ls : List En} {c : Int} {s : ByteArray} (h : okJ xs ls = true) (hc : (0 ≤ c ∧ c < 16) ∧ s.size ≤ 200) (hx : xs.getD c.toNat 0 = 1000000000000) : adC xs ls c s = 11 ∧ adV xs ls c s = [] ∧ adE xs ls c s = [] := by
  have : adC xs ls c s = 11 := by unfold adC; rw [if_pos h, if_pos hc, if_pos hx]
  simp [adV, adE, this]
theorem ad_many {xs : List Int} {ls : List En} {c : Int} {s : ByteArray} (h : okJ xs ls = true) (hc : (0 ≤ c ∧ c < 16) ∧ s.size ≤ 200) (hx : ¬ xs.getD c.toNat 0 = 1000000000000) (hl : ¬ (without ls s).length + 1 ≤ 256) : adC xs ls c s = 11 ∧ adV xs ls c s = [] ∧ adE xs ls c s = [] := by
  have : adC xs ls c s = 11 := by unfold adC; rw [if_pos h, if_pos hc, if_neg hx, if_neg hl]
  simp [adV, adE, this]
theorem ad_done {xs : List Int} {ls : List En} {c : Int} {s : ByteArray} (h : okJ xs ls = true) (hc : (0 ≤ c ∧ c < 16) ∧ s.size ≤ 200) (hx : ¬ xs.getD c.toNat 0 = 1000000000000) (hl : (without ls s).length + 1 ≤ 256) : adC xs ls c s = 0 ∧ adV xs ls c s = xs.set c.toNat (xs.getD c.toNat 0 + 1) ∧ adE xs ls c s = insE (without ls s) (xs.getD c.toNat 0 + 1, c, s) := by
  have : adC xs ls c s = 0 := by unfold adC; rw [if_pos h, if_pos hc, if_neg hx, if_pos hl]
  simp [adV, adE, this]

set_option maxHeartbeats 4000000 in
set_option maxRecDepth 100000 in
theorem implSetAdd_any (C : Nat) (w : World) (v ve : Value) (xs : List Int) (ls : List En) (c : Int) (s : ByteArray) (hs : s.size ≤ 9223372036854775807) (hC : C ≤ w.heap.size) (hv : Rd C w v (xs.map (Value.int .i64))) (he : RdE C w ve ls) :
    Calls Try.prog 20 #[.agg #[v, ve], .int .i64 c, .string s] w (SvAns (adV xs ls c s) (adE xs ls c s) (adC xs ls c s) w) := by
  have hxx : xs.length = 16 ∨ okJ xs ls = false := by
    cases hk : vecOK xs with
    | true => exact .inl (vecOK_get hk).1
    | false => exact .inr (okJ_vec hk)
  have hB0 : Below w.heap.size w ((w.alloc (.cells #[v, ve] 43)).alloc (.cells #[.slice none 0 0, .slice none 0 0] 43)) := below_then (below_alloc _ _) _
  have hS := setOf_any C ((w.alloc (.cells #[v, ve] 43)).alloc (.cells #[.slice none 0 0, .slice none 0 0] 43)) v ve xs ls (Nat.le_trans hC hB0.size) (hv.belowW hB0 hC) (he.below (hB0.mono hC))
  have hsl : ∃ ao len cap, v = .slice ao len cap := by
    obtain ⟨ao, cap, rfl, _⟩ := hv
    exact ⟨_, _, _, rfl⟩
  obtain ⟨ao, la, ca, rfl⟩ := hsl
  have he0 := he
  obtain ⟨eo, ec, rfl, _⟩ := he0
  have hD0 : Dy ((w.alloc (.cells #[.slice ao la ca, .slice eo ls.length ec] 43)).alloc (.cells #[.slice none 0 0, .slice none 0 0] 43)) w.heap.size (.slice ao la ca) (.slice eo ls.length ec) := (Dy.made w (.slice ao la ca) (.slice eo ls.length ec) 43).on (below_alloc _ _)
  have hR0 : Dy ((w.alloc (.cells #[.slice ao la ca, .slice eo ls.length ec] 43)).alloc (.cells #[.slice none 0 0, .slice none 0 0] 43)) (w.heap.size + 1) (.slice none 0 0) (.slice none 0 0) := by
    have := Dy.made (w.alloc (.cells #[.slice ao la ca, .slice eo ls.length ec] 43)) (.slice none 0 0) (.slice none 0 0) 43
    rw [World.size_alloc] at this
    exact this
  obtain ⟨⟨e0, e1⟩, _⟩ := hD0
  go_enter Try.func20, Try.ntmps20
  go_wp2_with fail
  refine hS.mono ?_
  rintro e w2 (⟨hok, b, rfl, hb, hM, hB⟩ | ⟨hok, rfl, hB⟩)
  · have h16 : xs.length = 16 := hxx.resolve_right (by rw [hok]; decide)
    obtain ⟨hJ3, hM3⟩ := jm_laidS (T := 90) h16 hM
    have hZ : (arrC xs ++ [Value.map (some b)]).length = 17 := by simp [arrC_len, h16]
    have hsz : (arrC xs ++ [Value.map (some b)]).toArray.size = 17 := by rw [List.size_toArray]; exact hZ
    have hone : (arrC xs ++ [Value.map (some b)]).toArray.all (·.oneCell') = true := all_oneCell_toArray (fun v hv => by rcases List.mem_append.1 hv with h | h; exact arrC_one xs v h; rw [List.mem_singleton.1 h]; rfl)
    have hiS : (Try.prog.info? 90).map (·.size) = some (arrC xs ++ [Value.map (some b)]).toArray.size := by rw [List.size_toArray, hZ]; exact setMap_info
    have h3 : (w2.alloc (.cells zeroJ.toArray 90)).there w2.heap.size 0 (arrC xs ++ [Value.map (some b)]).toArray.size := by rw [hsz]; exact there_new (n := 17) (by rw [zeroJ_size]; exact Nat.le_refl _)
    have hR2 := hR0.on hB
    have hb3 : Below w2.heap.size w2 ((w2.alloc (.cells zeroJ.toArray 90)).setCells w2.heap.size 0 (arrC xs ++ [Value.map (some b)])) := below_setCells (Nat.le_refl _) _ _ _ (below_alloc _ _)
    have hR3 := hR2.on hb3
    have hB3 := below_seq (below_seq hB0 hB) hb3
    have hb' : w.heap.size + 1 + 1 ≤ b := by simpa using hb
    have hblt := hM.lt
    have hvk := vecOK_ofS hok
    clear hS e0 e1 hR0 hsz hZ hb3
    have hgen : ∃ Z, arrC xs ++ [Value.map (some b)] = Z := ⟨_, rfl⟩
    obtain ⟨Z, hZZ⟩ := hgen
    rw [hZZ] at hJ3 hM3 hone hiS h3 hR3 hB3
    have hE : (Value.agg (arrC xs ++ [Value.map (some b)]).toArray) = .agg Z.toArray := by rw [hZZ]
    rw [hE]
    clear hE hZZ
    go_upto_region 2 with (first | (refine wpList_store_mid rfl 90 _ _ rfl w2.heap.size 0 Z.toArray rfl rfl h3 hiS hone ?_))
    have hgen : ∃ w3, ((w2.alloc (.cells zeroJ.toArray 90)).setCells w2.heap.size 0 Z) = w3 := ⟨_, rfl⟩
    obtain ⟨w3, hw3⟩ := hgen
    rw [hw3] at hJ3 hM3 hR3 hB3
    change Code.wp _ _ _ _ ((w2.alloc (.cells zeroJ.toArray 90)).setCells w2.heap.size 0 Z)
    rw [hw3]
    clear hw3 h3 hiS hone
    by_cases hin : (0 ≤ c ∧ c < 16) ∧ s.size ≤ 200
    · have hin' := hin
      obtain ⟨hc, hs200⟩ := hin
      obtain ⟨k, rfl⟩ : ∃ k : Nat, c = (k : Int) := ⟨c.toNat, by omega⟩
      have hk : k < 16 := by omega
      have hA := fun w => isActor_any (k : Int) w
      rw [decide_eq_true hc] at hA
      have hW := fun w => isWord_any s w
      rw [decide_eq_true hs200] at hW
      have hgd : xs.getD k 0 = xs[k] := by simp [List.getD, h16, hk]
      have hxb := (vecOK_get hvk.1).2 k (by omega)
      have hN := next_any w3 w2.heap.size b xs k hJ3 h16 hk (by rw [hgd]; exact hxb.1) (by rw [hgd]; exact hxb.2)
      have hx0 : 0 ≤ xs.getD k 0 := by rw [hgd]; exact hxb.1
      have hx1 : xs.getD k 0 ≤ 1000000000000 := by rw [hgd]; exact hxb.2
      have hn3 := hJ3.lt
      have hne := jm_ne hJ3 hM3
      have HQ : Hid ((xs.getD k 0 = 1000000000000 → adC xs ls (k : Int) s = 11 ∧ adV xs ls (k : Int) s = [] ∧ adE xs ls (k : Int) s = []) ∧ (¬ xs.getD k 0 = 1000000000000 → ((without ls s).length + 1 ≤ 256 → adC xs ls (k : Int) s = 0 ∧ adV xs ls (k : Int) s = xs.set k (xs.getD k 0 + 1) ∧ adE xs ls (k : Int) s = insE (without ls s) (xs.getD k 0 + 1, (k : Int), s)) ∧ (¬ (without ls s).length + 1 ≤ 256 → adC xs ls (k : Int) s = 11 ∧ adV xs ls (k : Int) s = [] ∧ adE xs ls (k : Int) s = []))) := ⟨fun h => ad_full hok hin' (by simpa using h), fun h => ⟨fun h2 => by simpa using ad_done hok hin' (by simpa using h) h2, fun h2 => ad_many hok hin' (by simpa using h) h2⟩⟩
      have hup := without_up s (okJ_up hok)
      have hno : ∀ e ∈ without ls s, ¬ (e.1 = xs.getD k 0 + 1 ∧ e.2.1 = (k : Int)) := by
        intro e hm ⟨h1, h2⟩
        have h3 := seen_le hok e (List.mem_filter.1 (show e ∈ ls.filter _ from hm)).1
        rw [h2, Int.toNat_natCast] at h3
        omega
      clear hgd hxb hc hs200 hin' hok
      generalize xs.getD k 0 = x at hN HQ hx0 hx1 hno
      go_wp2_with (first | (go_at_call 35; refine (hA _).mono ?_; rintro e w' ⟨rfl, rfl⟩) | (go_at_call 36; refine (hW _).mono ?_; rintro e w' ⟨rfl, rfl⟩))
      refine hN.mono ?_
      rintro e w4 (⟨hx, rfl, hb4⟩ | ⟨hx, rfl, hJ4, hg4⟩)
      · obtain ⟨q1, q2, q3⟩ := HQ.out.1 hx
        have HA : Hid _ := And.intro q1 (And.intro q2 q3)
        have hR4 := hR3.on hb4
        have hB4 := below_seq hB3 hb4
        have hlt4 := hR4.lt
        obtain ⟨⟨r0, r1⟩, rf⟩ := hR4
        have f0 := rf 0
        have f1 := rf 1
        have HR : Hid _ := ((Dy.set1 (Dy.set0 (show Dy w4 (w.heap.size + 1) _ _ from ⟨⟨r0, r1⟩, rf⟩) (.slice none 0 0)) (.slice none 0 0)).on (below_alloc _ (.cells #[.int .i64 0, .int .i64 0] 58))).1
        have hBf := below_then ((hB4.setCell (p := ⟨w.heap.size + 1, 0, none⟩) (by show w.heap.size ≤ w.heap.size + 1; omega) (.slice none 0 0)).setCell (p := ⟨w.heap.size + 1, 1, none⟩) (by show w.heap.size ≤ w.heap.size + 1; omega) (.slice none 0 0)) (.cells #[.int .i64 0, .int .i64 0] 58)
        clear q1 q2 q3 HQ hN hR3 hJ3 hM3 hB3 hb4 hB4
        go_wp2_with fail
        refine bodyPost_ret (v := .tuple #[.agg #[.slice none 0 0, .slice none 0 0], .int .i64 11]) ?_ rfl ⟨_, _, by rw [HA.out.1], by rw [HA.out.2.1, HA.out.2.2]; exact svNone _ _ _, hBf⟩
        simp [results, Try.results20, go_sem, HR.out.1, HR.out.2]
      · have HZ : Hid _ := HQ.out.2 hx
        have hX' : (xs.set k (x + 1)).length = 16 := by simp [h16]
        have hM4 := hM3.kept hg4 (fun e => hne (by simpa using e))
        have hn2 : w.heap.size + 1 + 1 ≤ w2.heap.size := by have := hB.size; simpa using this
        have hR4 := hR3.grown hg4 (by simp; omega)
        have hB4 : Below w.heap.size w w4 := below_grownE hB3 (Nat.le_refl _) hg4 (fun g hg => by cases hg; omega)
        have hb5 := below_alloc w4 (.cells #[.int .i64 (x + 1), .int .i64 (k : Int)] 58)
        have hJ5 := hJ4.on hb5
        have hM5 := hM4.on hb5
        have hR5 := hR4.on hb5
        have hB5 := below_seq hB4 hb5
        have hS5 := Dy.made w4 (.int .i64 (x + 1)) (.int .i64 (k : Int)) 58
        have hM4lt := hM4.lt
        have hn4 := hJ4.lt
        have hRm := remove_any _ w2.heap.size b (xs.set k (x + 1)) ls s hJ5 hX' hM5
        clear HQ hN hR3 hJ3 hM3 hB3 hg4 hB4 hR4 hJ4
        go_upto_region 10 with (first | (go_at_call 52; refine hRm.mono ?_; rintro e w6 ⟨rfl, hM6, hg6⟩))
        have hJ6 := hJ5.kept hg6 (fun e => hne (by simpa using e.symm))
        have hR6 := hR5.grown hg6 (by simp; omega)
        have hS6 := hS5.grown hg6 (by simp; omega)
        have hB6 : Below w.heap.size w w6 := below_grownE hB5 (Nat.le_refl _) hg6 (fun g hg => by cases hg; omega)
        obtain ⟨⟨s0, s1⟩, _⟩ := hS6
        clear hg6 hM5 hJ5 hR5 hS5 hB5 hRm
        obtain ⟨l, hl⟩ := stKey (t := x + 1) (a := (k : Int)) (by omega) (by omega) (by omega) (by omega)
        have hP := put_any w6 w2.heap.size b (xs.set k (x + 1)) ((without ls s).map kvE) ((without ls s).map kvE ++ [(.agg #[.int .i64 (x + 1), .int .i64 (k : Int)], .agg #[.int .i64 (x + 1), .int .i64 (k : Int), .string s])]) (x + 1) (k : Int) s hJ6 hX' hM6 (fun w1 h1 => h1.new stKeyed Try.underlying67 hl (fun p hp he => by
          obtain ⟨e, hm, rfl⟩ := List.mem_map.1 hp
          simp only [kvE, Value.agg.injEq] at he
          exact hno e hm (by simpa using he)) _)
        have hwl := without_len ls s
        have hlen : (without ls s ++ [(x + 1, (k : Int), s)]).length = (without ls s).length + 1 := by simp
        have hll : ls.length ≤ 256 := hvk.2
        clear hvk
        go_wp2_with fail
        refine hP.mono ?_
        rintro e w7 ⟨rfl, hM7, hg7⟩
        have hJ7 := hJ6.kept hg7 (fun e => hne (by simpa using e.symm))
        have hR7 := hR6.grown hg7 (by simp; omega)
        have hB7 : Below w.heap.size w w7 := below_grownE hB6 (Nat.le_refl _) hg7 (fun g hg => by cases hg; omega)
        rw [show (without ls s).map kvE ++ [(Value.agg #[.int .i64 (x + 1), .int .i64 (k : Int)], Value.agg #[.int .i64 (x + 1), .int .i64 (k : Int), .string s])] = (without ls s ++ [(x + 1, (k : Int), s)]).map kvE by simp [kvE]] at hM7
        have hT := toldSet_any (without ls s ++ [(x + 1, (k : Int), s)]).length (sortsAll.le (by omega)) (by omega) w7 w2.heap.size b (xs.set k (x + 1)) (without ls s ++ [(x + 1, (k : Int), s)]) hJ7 hX' hM7 (.inl rfl)
        clear hP hM6 hJ6 hR6 hB6 hg7 s0 s1
        go_wp2_with fail
        refine hT.mono ?_
        have hans : ∀ (e : Ending) (w8 : World), ToSet (xs.set k (x + 1)) (without ls s ++ [(x + 1, (k : Int), s)]) w7 e w8 → SvAns (adV xs ls (k : Int) s) (adE xs ls (k : Int) s) (adC xs ls (k : Int) s) w7 e w8 := by
          rintro e w8 (⟨h256, es, hpe, hue, h⟩ | ⟨hnot, h⟩)
          · obtain ⟨q1, q2, q3⟩ := HZ.out.1 (by omega)
            have := up_eq (hpe.trans (insE_perm (without ls s) (x + 1, (k : Int), s)).symm) hue (insE_up hup hno)
            rw [q1, q2, q3, ← this]
            exact h
          · obtain ⟨q1, q2, q3⟩ := HZ.out.2 (by omega)
            rw [q1, q2, q3]
            exact h
        intro e w8 hto
        obtain ⟨u, v, rfl, hSv, hb8⟩ := hans e w8 hto
        have hR8 := hR7.on hb8
        have hB8 := below_seq hB7 hb8
        have hlt8 := hR7.lt
        obtain ⟨ua, un, uc, va, vn, vc, rfl, rfl⟩ := hSv.shape
        obtain ⟨⟨r0, r1⟩, rf⟩ := hR8
        have f0 := rf 0
        have f1 := rf 1
        have HR : Hid _ := (Dy.set1 (Dy.set0 (show Dy w8 (w.heap.size + 1) _ _ from ⟨⟨r0, r1⟩, rf⟩) (.slice ua un uc)) (.slice va vn vc)).1
        have hBf := (hB8.setCell (p := ⟨w.heap.size + 1, 0, none⟩) (by show w.heap.size ≤ w.heap.size + 1; omega) (.slice ua un uc)).setCell (p := ⟨w.heap.size + 1, 1, none⟩) (by show w.heap.size ≤ w.heap.size + 1; omega) (.slice va vn vc)
        have hSf := (sv_put hSv (w.heap.size + 1) hlt8 (.slice ua un uc) (.slice va vn vc)).mono (B' := w.heap.size) (E' := ((w8.setCell ⟨w.heap.size + 1, 0, none⟩ (.slice ua un uc)).setCell ⟨w.heap.size + 1, 1, none⟩ (.slice va vn vc)).heap.size) (by omega) (by simp)
        clear hT hM7 hJ7 hR7 hB7 hb8 hSv hans hto HZ
        go_wp2_with fail
        refine bodyPost_ret (v := .tuple #[.agg #[.slice ua un uc, .slice va vn vc], .int .i64 (adC xs ls (k : Int) s)]) ?_ rfl ⟨_, _, rfl, hSf, hBf⟩
        simp [results, Try.results20, go_sem, HR.out.1, HR.out.2]
    · obtain ⟨q1, q2, q3⟩ := ad_out hok hin
      have HA : Hid _ := And.intro q1 (And.intro q2 q3)
      clear q1 q2 q3 hok
      by_cases hc : 0 ≤ c ∧ c < 16
      · have hA := fun w => isActor_any c w
        rw [decide_eq_true hc] at hA
        have hW := fun w => isWord_any s w
        rw [decide_eq_false (fun h => hin ⟨hc, h⟩)] at hW
        clear hin
        obtain ⟨⟨r0, r1⟩, rf⟩ := hR3
        have f0 := rf 0
        have f1 := rf 1
        have HR : Hid _ := (Dy.set1 (Dy.set0 (show Dy w3 (w.heap.size + 1) _ _ from ⟨⟨r0, r1⟩, rf⟩) (.slice none 0 0)) (.slice none 0 0)).1
        have hBf := (hB3.setCell (p := ⟨w.heap.size + 1, 0, none⟩) (by show w.heap.size ≤ w.heap.size + 1; omega) (.slice none 0 0)).setCell (p := ⟨w.heap.size + 1, 1, none⟩) (by show w.heap.size ≤ w.heap.size + 1; omega) (.slice none 0 0)
        go_wp2_with (first | (go_at_call 35; refine (hA _).mono ?_; rintro e w' ⟨rfl, rfl⟩) | (go_at_call 36; refine (hW _).mono ?_; rintro e w' ⟨rfl, rfl⟩))
        refine bodyPost_ret (v := .tuple #[.agg #[.slice none 0 0, .slice none 0 0], .int .i64 4]) ?_ rfl ⟨_, _, by rw [HA.out.1], by rw [HA.out.2.1, HA.out.2.2]; exact svNone _ _ _, hBf⟩
        simp [results, Try.results20, go_sem, HR.out.1, HR.out.2]
      · have hA := fun w => isActor_any c w
        rw [decide_eq_false hc] at hA
        clear hin
        obtain ⟨⟨r0, r1⟩, rf⟩ := hR3
        have f0 := rf 0
        have f1 := rf 1
        have HR : Hid _ := (Dy.set1 (Dy.set0 (show Dy w3 (w.heap.size + 1) _ _ from ⟨⟨r0, r1⟩, rf⟩) (.slice none 0 0)) (.slice none 0 0)).1
        have hBf := (hB3.setCell (p := ⟨w.heap.size + 1, 0, none⟩) (by show w.heap.size ≤ w.heap.size + 1; omega) (.slice none 0 0)).setCell (p := ⟨w.heap.size + 1, 1, none⟩) (by show w.heap.size ≤ w.heap.size + 1; omega) (.slice none 0 0)
        go_wp2_with (first | (go_at_call 35; refine (hA _).mono ?_; rintro e w' ⟨rfl, rfl⟩))
        refine bodyPost_ret (v := .tuple #[.agg #[.slice none 0 0, .slice none 0 0], .int .i64 4]) ?_ rfl ⟨_, _, by rw [HA.out.1], by rw [HA.out.2.1, HA.out.2.2]; exact svNone _ _ _, hBf⟩
        simp [results, Try.results20, go_sem, HR.out.1, HR.out.2]
  · obtain ⟨q1, q2, q3⟩ := ad_bad c s hok
    have HA : Hid _ := And.intro q1 (And.intro q2 q3)
    clear q1 q2 q3 hS e0 e1
    have hR2 := hR0.on hB
    have hB2 := below_seq hB0 hB
    have hgen : ∃ Z, zeroJ = Z ∧ Z.toArray.size = 17 ∧ Z.toArray.all (·.oneCell') = true := ⟨_, rfl, zeroJ_size, zeroJ_one⟩
    obtain ⟨Z, hZZ, hsz, hone⟩ := hgen
    have hiS : (Try.prog.info? 90).map (·.size) = some Z.toArray.size := by rw [hsz]; exact setMap_info
    have h3 : (w2.alloc (.cells zeroJ.toArray 90)).there w2.heap.size 0 Z.toArray.size := by rw [hsz]; exact there_new (n := 17) (by rw [zeroJ_size]; exact Nat.le_refl _)
    have hb3 : Below w2.heap.size w2 ((w2.alloc (.cells zeroJ.toArray 90)).setCells w2.heap.size 0 Z) := below_setCells (Nat.le_refl _) _ _ _ (below_alloc _ _)
    have hR3 := hR2.on hb3
    have hB3 := below_seq hB2 hb3
    have hE : (Value.agg zeroJ.toArray) = .agg Z.toArray := by rw [hZZ]
    rw [hE]
    clear hR0 hR2 hB2 hB hB0 hb3 hsz hE hZZ
    go_upto_region 2 with (first | (refine wpList_store_mid rfl 90 _ _ rfl w2.heap.size 0 Z.toArray rfl rfl h3 hiS hone ?_))
    have hgen : ∃ w3, ((w2.alloc (.cells zeroJ.toArray 90)).setCells w2.heap.size 0 Z) = w3 := ⟨_, rfl⟩
    obtain ⟨w3, hw3⟩ := hgen
    rw [hw3] at hR3 hB3
    change Code.wp _ _ _ _ ((w2.alloc (.cells zeroJ.toArray 90)).setCells w2.heap.size 0 Z)
    rw [hw3]
    clear hw3 h3 hiS hone
    obtain ⟨⟨r0, r1⟩, rf⟩ := hR3
    have f0 := rf 0
    have f1 := rf 1
    have HR : Hid _ := (Dy.set1 (Dy.set0 (show Dy w3 (w.heap.size + 1) _ _ from ⟨⟨r0, r1⟩, rf⟩) (.slice none 0 0)) (.slice none 0 0)).1
    have hBf := (hB3.setCell (p := ⟨w.heap.size + 1, 0, none⟩) (by show w.heap.size ≤ w.heap.size + 1; omega) (.slice none 0 0)).setCell (p := ⟨w.heap.size + 1, 1, none⟩) (by show w.heap.size ≤ w.heap.size + 1; omega) (.slice none 0 0)
    go_wp2_with (fail)
    refine bodyPost_ret (v := .tuple #[.agg #[.slice none 0 0, .slice none 0 0], .int .i64 1]) ?_ rfl ⟨_, _, by rw [HA.out.1], by rw [HA.out.2.1, HA.out.2.2]; exact svNone _ _ _, hBf⟩
    simp [results, Try.results20, go_sem, HR.out.1, HR.out.2]

end Go.Proofs.Ytdkfeabpnikedaa
