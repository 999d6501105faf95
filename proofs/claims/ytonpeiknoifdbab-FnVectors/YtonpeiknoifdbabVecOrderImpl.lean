/- What the code's order and VecOrder do. -/
import Derived.Test.YtonpeiknoifdbabVecOrderSpec
import Derived.Test.YtonpeiknoifdbabVecEq
import Derived.Test.YtonpeiknoifdbabVecMeetImpl
namespace Go.Proofs.Ytonpeiknoifdbab
open Go.RowKit
set_option linter.unusedVariables false

theorem covers_iff {xs ys : List Int} : covers xs ys = true ↔ ∀ k, k < 16 → ys.getD k 0 ≤ xs.getD k 0 := by
  unfold covers
  rw [List.all_eq_true]
  exact ⟨fun h k hk => by simpa using h k (List.mem_range.2 hk), fun h k hk => by simpa using h k (List.mem_range.1 hk)⟩
theorem zip_getD {X Y : List Int} (hx : X.length = 16) (hy : Y.length = 16) {k : Nat} (hk : k < 16) : (List.zipWith mnI X Y).getD k 0 = mnI (X.getD k 0) (Y.getD k 0) := by
  simp [List.getD, hx, hy, hk]
theorem ext16 {X Y : List Int} (hx : X.length = 16) (hy : Y.length = 16) (h : ∀ k, k < 16 → X.getD k 0 = Y.getD k 0) : X = Y := by
  apply List.ext_getElem (by omega)
  intro k h1 h2
  have := h k (by omega)
  simpa [h1, h2] using this
theorem ordV_of {X Y : List Int} (hx : X.length = 16) (hy : Y.length = 16) : ordV X Y = if X = Y then 0 else if List.zipWith mnI X Y = X then 1 else if List.zipWith mnI X Y = Y then 2 else 3 := by
  have hz : (List.zipWith mnI X Y).length = 16 := by simp [hx, hy]
  have h1 : (covers X Y = true ∧ covers Y X = true) ↔ X = Y := by
    rw [covers_iff, covers_iff]
    exact ⟨fun h => ext16 hx hy (fun k hk => by have := h.1 k hk; have := h.2 k hk; omega), fun h => by subst h; simp⟩
  have h2 : covers Y X = true ↔ List.zipWith mnI X Y = X := by
    rw [covers_iff]
    constructor
    · intro h
      apply ext16 hz hx
      intro k hk
      rw [zip_getD hx hy hk]
      unfold mnI
      have := h k hk
      split <;> omega
    · intro h k hk
      have := zip_getD hx hy hk
      rw [h] at this
      unfold mnI at this
      split at this <;> omega
  have h3 : covers X Y = true ↔ List.zipWith mnI X Y = Y := by
    rw [covers_iff]
    constructor
    · intro h
      apply ext16 hz hy
      intro k hk
      rw [zip_getD hx hy hk]
      unfold mnI
      have := h k hk
      split <;> omega
    · intro h k hk
      have := zip_getD hx hy hk
      rw [h] at this
      unfold mnI at this
      split at this <;> omega
  unfold ordV
  by_cases a : X = Y
  · rw [if_pos (h1.2 a), if_pos a]
  · rw [if_neg (fun h => a (h1.1 h)), if_neg a]
    by_cases b : List.zipWith mnI X Y = X
    · rw [if_pos (h2.2 b), if_pos b]
    · rw [if_neg (fun h => b (h2.1 h)), if_neg b]
      by_cases c : List.zipWith mnI X Y = Y
      · rw [if_pos (h3.2 c), if_pos c]
      · rw [if_neg (fun h => c (h3.1 h)), if_neg c]

theorem eq_guard : Try.prog.eqGuardType Try.prog.depth 68 = false := by kernel_rfl

set_option maxHeartbeats 1000000 in
set_option maxRecDepth 100000 in
theorem order_any (w : World) (X Y : List Int) (hx : X.length = 16) (hy : Y.length = 16) :
    Calls Try.prog 55 #[.agg (arrC X).toArray, .agg (arrC Y).toArray] w fun e w' => e = .returned (.int .i64 (ordV X Y)) ∧ Below w.heap.size w w' := by
  have HO : Hid _ := ordV_of hx hy
  have hz : (List.zipWith mnI X Y).length = 16 := by simp [hx, hy]
  have HX : Hid _ := arr_info hx
  have HY : Hid _ := arr_info hy
  have hmg := eq_guard
  have HB := Below.refl ((w.alloc (.cells (arrC X).toArray 68)).alloc (.cells (arrC Y).toArray 68)).heap.size ((w.alloc (.cells (arrC X).toArray 68)).alloc (.cells (arrC Y).toArray 68))
  have hry := own_range (own_arr (block_made HB) hy (Nat.le_refl _))
  have hrx := own_range (own_arr (block_made (below_seq (below_alloc _ _) HB)) hx (Nat.le_refl _))
  rw [World.size_alloc] at hry
  have hq : ∀ w', (Op.equalIn 10000 68 (.agg (arrC X).toArray) (.agg (arrC Y).toArray)).run Try.prog w' = .ok (decide (X = Y)) w' := fun w' => run_equalArr 9998 w' X Y hx hy
  have hq1 : ∀ w', (Op.equalIn 10000 68 (.agg (arrC (List.zipWith mnI X Y)).toArray) (.agg (arrC X).toArray)).run Try.prog w' = .ok (decide (List.zipWith mnI X Y = X)) w' := fun w' => run_equalArr 9998 w' _ X hz hx
  have hq2 : ∀ w', (Op.equalIn 10000 68 (.agg (arrC (List.zipWith mnI X Y)).toArray) (.agg (arrC Y).toArray)).run Try.prog w' = .ok (decide (List.zipWith mnI X Y = Y)) w' := fun w' => run_equalArr 9998 w' _ Y hz hy
  have hbw : Below w.heap.size w ((w.alloc (.cells (arrC X).toArray 68)).alloc (.cells (arrC Y).toArray 68)) := below_then (below_alloc _ _) _
  by_cases hXY : X = Y
  · have HE : Hid (ordV X Y = 0) := by unfold Hid; rw [HO.out, if_pos hXY]
    rw [decide_eq_true hXY] at hq
    clear hXY HO hq1 hq2
    go_enter Try.func55, Try.ntmps55
    go_wp2_with (first | (refine wpList_load_mid rfl 68 _ rfl w.heap.size 0 rfl (arrC X) _ hrx Try.underlying68 rfl HX.out ?_) | (refine wpList_load_mid rfl 68 _ rfl (w.heap.size + 1) 0 rfl (arrC Y) _ hry Try.underlying68 rfl HY.out ?_))
    go_ret
    exact ⟨by rw [HE.out]; rfl, hbw⟩
  · rw [decide_eq_false hXY] at hq
    by_cases hZX : List.zipWith mnI X Y = X
    · rw [decide_eq_true hZX] at hq1
      clear hq2
      have HE : Hid (ordV X Y = 1) := by unfold Hid; rw [HO.out, if_neg hXY, if_pos hZX]
      clear hXY HO hZX
      go_enter Try.func55, Try.ntmps55
      go_wp2_with (first | (refine wpList_load_mid rfl 68 _ rfl w.heap.size 0 rfl (arrC X) _ hrx Try.underlying68 rfl HX.out ?_) | (refine wpList_load_mid rfl 68 _ rfl (w.heap.size + 1) 0 rfl (arrC Y) _ hry Try.underlying68 rfl HY.out ?_))
      refine (meet_any _ X Y hx hy).mono ?_
      rintro e w3 ⟨rfl, hb3⟩
      replace hrx := range_below hb3 (by simp only [World.size_alloc]; omega) hrx
      replace hry := range_below hb3 (by simp only [World.size_alloc]; omega) hry
      go_wp2_with (first | (refine wpList_load_mid rfl 68 _ rfl w.heap.size 0 rfl (arrC X) _ hrx Try.underlying68 rfl HX.out ?_) | (refine wpList_load_mid rfl 68 _ rfl (w.heap.size + 1) 0 rfl (arrC Y) _ hry Try.underlying68 rfl HY.out ?_))
      go_ret
      exact ⟨by rw [HE.out]; rfl, below_seq hbw hb3⟩
    · rw [decide_eq_false hZX] at hq1
      by_cases hZY : List.zipWith mnI X Y = Y
      · rw [decide_eq_true hZY] at hq2
        have HE : Hid (ordV X Y = 2) := by unfold Hid; rw [HO.out, if_neg hXY, if_neg hZX, if_pos hZY]
        clear hXY HO hZX hZY
        go_enter Try.func55, Try.ntmps55
        go_wp2_with (first | (refine wpList_load_mid rfl 68 _ rfl w.heap.size 0 rfl (arrC X) _ hrx Try.underlying68 rfl HX.out ?_) | (refine wpList_load_mid rfl 68 _ rfl (w.heap.size + 1) 0 rfl (arrC Y) _ hry Try.underlying68 rfl HY.out ?_))
        refine (meet_any _ X Y hx hy).mono ?_
        rintro e w3 ⟨rfl, hb3⟩
        replace hrx := range_below hb3 (by simp only [World.size_alloc]; omega) hrx
        replace hry := range_below hb3 (by simp only [World.size_alloc]; omega) hry
        go_wp2_with (first | (refine wpList_load_mid rfl 68 _ rfl w.heap.size 0 rfl (arrC X) _ hrx Try.underlying68 rfl HX.out ?_) | (refine wpList_load_mid rfl 68 _ rfl (w.heap.size + 1) 0 rfl (arrC Y) _ hry Try.underlying68 rfl HY.out ?_))
        go_ret
        exact ⟨by rw [HE.out]; rfl, below_seq hbw hb3⟩
      · rw [decide_eq_false hZY] at hq2
        have HE : Hid (ordV X Y = 3) := by unfold Hid; rw [HO.out, if_neg hXY, if_neg hZX, if_neg hZY]
        clear hXY HO hZX hZY
        go_enter Try.func55, Try.ntmps55
        go_wp2_with (first | (refine wpList_load_mid rfl 68 _ rfl w.heap.size 0 rfl (arrC X) _ hrx Try.underlying68 rfl HX.out ?_) | (refine wpList_load_mid rfl 68 _ rfl (w.heap.size + 1) 0 rfl (arrC Y) _ hry Try.underlying68 rfl HY.out ?_))
        refine (meet_any _ X Y hx hy).mono ?_
        rintro e w3 ⟨rfl, hb3⟩
        replace hrx := range_below hb3 (by simp only [World.size_alloc]; omega) hrx
        replace hry := range_below hb3 (by simp only [World.size_alloc]; omega) hry
        go_wp2_with (first | (refine wpList_load_mid rfl 68 _ rfl w.heap.size 0 rfl (arrC X) _ hrx Try.underlying68 rfl HX.out ?_) | (refine wpList_load_mid rfl 68 _ rfl (w.heap.size + 1) 0 rfl (arrC Y) _ hry Try.underlying68 rfl HY.out ?_))
        go_ret
        exact ⟨by rw [HE.out]; rfl, below_seq hbw hb3⟩

set_option maxHeartbeats 1000000 in
set_option maxRecDepth 100000 in
theorem implVecOrder_any (C D : Nat) (w : World) (va vb : Value) (xs ys : List Int) (hC : C ≤ w.heap.size) (hD : D ≤ w.heap.size) (ha : Rd C w va (xs.map (Value.int .i64))) (hb : Rd D w vb (ys.map (Value.int .i64))) :
    Calls Try.prog 26 #[.agg #[va], .agg #[vb]] w fun e w' => e = .returned (.tuple #[.int .i64 (ordB xs ys), .int .i64 (ordC xs ys)]) ∧ Below w.heap.size w w' := by
  have hlx := cnt_len xs
  have hly := cnt_len ys
  have h1 := fun w' (h : Rd C w' va (xs.map (Value.int .i64))) (h' : C ≤ w'.heap.size) (k : Rd D w' vb (ys.map (Value.int .i64))) (k' : D ≤ w'.heap.size) => countsOfBoth_any C D w' va vb xs ys h' k' h k
  obtain ⟨ao, la, ca, rfl⟩ : ∃ ao len cap, va = .slice ao len cap := by
    obtain ⟨ao, cap, rfl, _⟩ := ha
    exact ⟨_, _, _, rfl⟩
  obtain ⟨bo, lb, cb, rfl⟩ : ∃ ao len cap, vb = .slice ao len cap := by
    obtain ⟨ao, cap, rfl, _⟩ := hb
    exact ⟨_, _, _, rfl⟩
  have ha3 := (ha.alloc (.cells #[.slice ao la ca] 34) hC).alloc (.cells #[.slice bo lb cb] 34) (by simp; omega)
  have hb3 := (hb.alloc (.cells #[.slice ao la ca] 34) hD).alloc (.cells #[.slice bo lb cb] 34) (by simp; omega)
  obtain ⟨ok, hok⟩ : ∃ ok, (vecOK xs && vecOK ys) = ok := ⟨_, rfl⟩
  rw [hok] at h1
  have HP : Hid ((ok = true → ordB xs ys = ordV (cnt xs) (cnt ys) ∧ ordC xs ys = 0) ∧ (ok = false → ordB xs ys = 0 ∧ ordC xs ys = 1)) := by
    refine ⟨fun h => ?_, fun h => ord_no (hok.trans h)⟩
    have h2 := hok.trans h
    have h3 := h2
    rw [Bool.and_eq_true] at h3
    obtain ⟨e1, e2⟩ := ord_yes h2
    refine ⟨?_, e2⟩
    rw [e1]
    unfold cnt
    rw [if_pos h3.1, if_pos h3.2]
  clear hok
  generalize cnt xs = X at hlx h1 HP
  generalize cnt ys = Y at hly h1 HP
  have HI : Hid _ := arr_info hlx
  have HJ : Hid _ := arr_info hly
  have HI' : Hid _ := arr_info' hlx
  have HJ' : Hid _ := arr_info' hly
  go_enter Try.func26, Try.ntmps26
  go_wp2_with fail
  refine (h1 _ ha3 (by simp; omega) hb3 (by simp; omega)).mono ?_
  rintro e w1 ⟨rfl, hB⟩
  obtain ⟨t1, t2, hB1, r1, r2⟩ := arr_two hB hB.size #[.int .i64 0, .int .i64 0, .int .i64 0, .int .i64 0, .int .i64 0, .int .i64 0, .int .i64 0, .int .i64 0, .int .i64 0, .int .i64 0, .int .i64 0, .int .i64 0, .int .i64 0, .int .i64 0, .int .i64 0, .int .i64 0] rfl 68 X Y hlx hly
  have hbw := below_seq (below_alloc _ _) (below_seq (below_alloc _ _) hB1)
  clear h1 ha3 hb3 ha hb
  cases ok with
  | true =>
    obtain ⟨e1, e2⟩ := HP.out.1 rfl
    have E1 : Hid _ := e1
    have E2 : Hid _ := e2
    clear e1 e2 HP
    go_wp2_with (first | (refine wpList_store_mid rfl 68 _ _ rfl w1.heap.size 0 (arrC X).toArray rfl rfl t1 HI'.out (arrC_all X) ?_) | (refine wpList_store_mid rfl 68 _ _ rfl (w1.heap.size + 1) 0 (arrC Y).toArray rfl rfl t2 HJ'.out (arrC_all Y) ?_) | (refine wpList_load_mid rfl 68 _ rfl w1.heap.size 0 rfl (arrC X) _ r1 Try.underlying68 rfl HI.out ?_) | (refine wpList_load_mid rfl 68 _ rfl (w1.heap.size + 1) 0 rfl (arrC Y) _ r2 Try.underlying68 rfl HJ.out ?_))
    refine (order_any _ X Y hlx hly).mono ?_
    rintro e w4 ⟨rfl, hb4⟩
    have hbf := below_seq hbw hb4
    clear hB1 hb4 t1 t2 r1 r2 hbw
    go_wp2_with fail
    go_ret2
    exact ⟨by rw [E1.out, E2.out]; rfl, hbf⟩
  | false =>
    obtain ⟨e1, e2⟩ := HP.out.2 rfl
    have E1 : Hid _ := e1
    have E2 : Hid _ := e2
    clear e1 e2 HP r1 r2
    go_wp2_with (first | (refine wpList_store_mid rfl 68 _ _ rfl w1.heap.size 0 (arrC X).toArray rfl rfl t1 HI'.out (arrC_all X) ?_) | (refine wpList_store_mid rfl 68 _ _ rfl (w1.heap.size + 1) 0 (arrC Y).toArray rfl rfl t2 HJ'.out (arrC_all Y) ?_))
    go_ret2
    exact ⟨by rw [E1.out, E2.out]; rfl, hbw⟩
end Go.Proofs.Ytonpeiknoifdbab
