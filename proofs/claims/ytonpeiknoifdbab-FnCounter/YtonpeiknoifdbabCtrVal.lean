/- What both functions CounterValue answer. -/
import Derived.Test.YtonpeiknoifdbabCtrBase
import Derived.Test.YtonpeiknoifdbabVecArr
namespace Go.Proofs.Ytonpeiknoifdbab
open Go.RowKit
set_option linter.unusedVariables false

/-- All of the first k of Plus less those of Minus; what both functions CounterValue answer. -/
def valTo (X Y : List Int) : Nat → Int
  | 0 => 0
  | k + 1 => valTo X Y k + (X.getD k 0 - Y.getD k 0)
def cVal (xs ys : List Int) : Value := if (vecOK xs && vecOK ys) = true then .tuple #[.int .i64 (valTo xs ys 16), .int .i64 0] else .tuple #[.int .i64 0, .int .i64 1]
theorem okGet {xs : List Int} (h : vecOK xs = true) (k : Nat) : 0 ≤ xs.getD k 0 ∧ xs.getD k 0 ≤ 1000000000000 := by
  obtain ⟨_, h⟩ := vecOK_get h
  by_cases hk : k < xs.length
  · have := h k hk
    simpa [hk] using this
  · simp [hk]
theorem valTo_bd {xs ys : List Int} (hx : vecOK xs = true) (hy : vecOK ys = true) (k : Nat) : -((k : Int) * 1000000000000) ≤ valTo xs ys k ∧ valTo xs ys k ≤ (k : Int) * 1000000000000 := by
  induction k with
  | zero => simp [valTo]
  | succ k ih =>
    have := okGet hx k
    have := okGet hy k
    unfold valTo
    omega

set_option maxHeartbeats 2000000 in
set_option maxRecDepth 100000 in
theorem implCounterValue_any (C D : Nat) (w : World) (va vb : Value) (xs ys : List Int) (hC : C ≤ w.heap.size) (hD : D ≤ w.heap.size) (ha : Rd C w va (xs.map (Value.int .i64))) (hb : Rd D w vb (ys.map (Value.int .i64))) :
    Calls Try.prog 13 #[.agg #[va, vb]] w fun e w' => e = .returned (cVal xs ys) ∧ Below w.heap.size w w' := by
  have hlx := cnt_len xs
  have hly := cnt_len ys
  have h1 := countsOfBoth_any C D (w.alloc (.cells #[va, vb] 36)) va vb xs ys (by simp; omega) (by simp; omega) (ha.alloc _ hC) (hb.alloc _ hD)
  cases hok : (vecOK xs && vecOK ys) with
  | false =>
    have HV : Hid (cVal xs ys = .tuple #[.int .i64 0, .int .i64 1]) := if_neg (by simp [hok])
    rw [hok] at h1
    clear hok
    generalize cnt xs = X at hlx h1
    generalize cnt ys = Y at hly h1
    have HI : Hid _ := arr_info' hlx
    have HJ : Hid _ := arr_info' hly
    go_enter Try.func13, Try.ntmps13
    go_wp2_with fail
    refine h1.mono ?_
    rintro e w1 ⟨rfl, hB⟩
    have t1 : ((w1.alloc (.cells #[.int .i64 0, .int .i64 0, .int .i64 0, .int .i64 0, .int .i64 0, .int .i64 0, .int .i64 0, .int .i64 0, .int .i64 0, .int .i64 0, .int .i64 0, .int .i64 0, .int .i64 0, .int .i64 0, .int .i64 0, .int .i64 0] 68)).alloc (.cells #[.int .i64 0, .int .i64 0, .int .i64 0, .int .i64 0, .int .i64 0, .int .i64 0, .int .i64 0, .int .i64 0, .int .i64 0, .int .i64 0, .int .i64 0, .int .i64 0, .int .i64 0, .int .i64 0, .int .i64 0, .int .i64 0] 68)).there w1.heap.size 0 (arrC X).toArray.size := by
      rw [show (arrC X).toArray.size = 16 by simp [arrC_len, hlx]]
      exact there_made (below_alloc _ _) (by simp)
    have t2 : ((w1.alloc (.cells #[.int .i64 0, .int .i64 0, .int .i64 0, .int .i64 0, .int .i64 0, .int .i64 0, .int .i64 0, .int .i64 0, .int .i64 0, .int .i64 0, .int .i64 0, .int .i64 0, .int .i64 0, .int .i64 0, .int .i64 0, .int .i64 0] 68)).alloc (.cells #[.int .i64 0, .int .i64 0, .int .i64 0, .int .i64 0, .int .i64 0, .int .i64 0, .int .i64 0, .int .i64 0, .int .i64 0, .int .i64 0, .int .i64 0, .int .i64 0, .int .i64 0, .int .i64 0, .int .i64 0, .int .i64 0] 68)).there (w1.heap.size + 1) 0 (arrC Y).toArray.size := by
      rw [show (arrC Y).toArray.size = 16 by simp [arrC_len, hly]]
      have := there_made (n := 16) (Below.refl ((w1.alloc (.cells #[.int .i64 0, .int .i64 0, .int .i64 0, .int .i64 0, .int .i64 0, .int .i64 0, .int .i64 0, .int .i64 0, .int .i64 0, .int .i64 0, .int .i64 0, .int .i64 0, .int .i64 0, .int .i64 0, .int .i64 0, .int .i64 0] 68)).alloc (.cells #[.int .i64 0, .int .i64 0, .int .i64 0, .int .i64 0, .int .i64 0, .int .i64 0, .int .i64 0, .int .i64 0, .int .i64 0, .int .i64 0, .int .i64 0, .int .i64 0, .int .i64 0, .int .i64 0, .int .i64 0, .int .i64 0] 68)).heap.size _) (by simp)
      rw [World.size_alloc] at this
      exact this
    have t2' := World.there_setCells t2 w1.heap.size 0 (arrC X)
    have hle := (below_seq (below_alloc _ _) hB).size
    go_wp2_with (first | (refine wpList_store_mid rfl 68 _ _ rfl w1.heap.size 0 (arrC X).toArray rfl rfl t1 HI.out (arrC_all _) ?_) | (refine wpList_store_mid rfl 68 _ _ rfl (w1.heap.size + 1) 0 (arrC Y).toArray rfl rfl t2' HJ.out (arrC_all _) ?_))
    refine bodyPost_ret (v := cVal xs ys) ?_ rfl ⟨rfl, below_setCells (by omega) _ _ _ (below_setCells (by omega) _ _ _ (below_then (below_then (below_seq (below_alloc _ _) hB) _) _))⟩
    rw [HV.out]
    simp [results, Try.results13, go_sem]
  | true =>
    have HV : Hid (cVal xs ys = .tuple #[.int .i64 (valTo xs ys 16), .int .i64 0]) := if_pos hok
    rw [hok] at h1
    rw [Bool.and_eq_true] at hok
    obtain ⟨okx, oky⟩ := hok
    rw [show cnt xs = xs from if_pos okx] at h1 hlx
    rw [show cnt ys = ys from if_pos oky] at h1 hly
    have HI : Hid _ := arr_info' hlx
    have HJ : Hid _ := arr_info' hly
    have HX : Hid (∀ k, 0 ≤ xs.getD k 0 ∧ xs.getD k 0 ≤ 1000000000000) := okGet okx
    have HY : Hid (∀ k, 0 ≤ ys.getD k 0 ∧ ys.getD k 0 ≤ 1000000000000) := okGet oky
    have HB : Hid (∀ k : Nat, -((k : Int) * 1000000000000) ≤ valTo xs ys k ∧ valTo xs ys k ≤ (k : Int) * 1000000000000) := valTo_bd okx oky
    clear okx oky
    go_enter Try.func13, Try.ntmps13
    go_wp2_with fail
    refine h1.mono ?_
    rintro e w1 ⟨rfl, hB⟩
    have t1 : ((w1.alloc (.cells #[.int .i64 0, .int .i64 0, .int .i64 0, .int .i64 0, .int .i64 0, .int .i64 0, .int .i64 0, .int .i64 0, .int .i64 0, .int .i64 0, .int .i64 0, .int .i64 0, .int .i64 0, .int .i64 0, .int .i64 0, .int .i64 0] 68)).alloc (.cells #[.int .i64 0, .int .i64 0, .int .i64 0, .int .i64 0, .int .i64 0, .int .i64 0, .int .i64 0, .int .i64 0, .int .i64 0, .int .i64 0, .int .i64 0, .int .i64 0, .int .i64 0, .int .i64 0, .int .i64 0, .int .i64 0] 68)).there w1.heap.size 0 (arrC xs).toArray.size := by
      rw [show (arrC xs).toArray.size = 16 by simp [arrC_len, hlx]]
      exact there_made (below_alloc _ _) (by simp)
    have t2 : ((w1.alloc (.cells #[.int .i64 0, .int .i64 0, .int .i64 0, .int .i64 0, .int .i64 0, .int .i64 0, .int .i64 0, .int .i64 0, .int .i64 0, .int .i64 0, .int .i64 0, .int .i64 0, .int .i64 0, .int .i64 0, .int .i64 0, .int .i64 0] 68)).alloc (.cells #[.int .i64 0, .int .i64 0, .int .i64 0, .int .i64 0, .int .i64 0, .int .i64 0, .int .i64 0, .int .i64 0, .int .i64 0, .int .i64 0, .int .i64 0, .int .i64 0, .int .i64 0, .int .i64 0, .int .i64 0, .int .i64 0] 68)).there (w1.heap.size + 1) 0 (arrC ys).toArray.size := by
      rw [show (arrC ys).toArray.size = 16 by simp [arrC_len, hly]]
      have := there_made (n := 16) (Below.refl ((w1.alloc (.cells #[.int .i64 0, .int .i64 0, .int .i64 0, .int .i64 0, .int .i64 0, .int .i64 0, .int .i64 0, .int .i64 0, .int .i64 0, .int .i64 0, .int .i64 0, .int .i64 0, .int .i64 0, .int .i64 0, .int .i64 0, .int .i64 0] 68)).alloc (.cells #[.int .i64 0, .int .i64 0, .int .i64 0, .int .i64 0, .int .i64 0, .int .i64 0, .int .i64 0, .int .i64 0, .int .i64 0, .int .i64 0, .int .i64 0, .int .i64 0, .int .i64 0, .int .i64 0, .int .i64 0, .int .i64 0] 68)).heap.size _) (by simp)
      rw [World.size_alloc] at this
      exact this
    have t2' := World.there_setCells t2 w1.heap.size 0 (arrC xs)
    have hle := (below_seq (below_alloc _ _) hB).size
    have r1 := World.rangeAt_setCells_apart (World.rangeAt_setCells_same _ w1.heap.size 0 (arrC xs) (by rw [List.size_toArray] at t1; exact t1)) (w1.heap.size + 1) 0 (arrC ys) (.inl (by omega))
    have r2 := World.rangeAt_setCells_same _ (w1.heap.size + 1) 0 (arrC ys) (by rw [List.size_toArray] at t2'; exact t2')
    have hB2 : Below w.heap.size w ((((w1.alloc (.cells #[.int .i64 0, .int .i64 0, .int .i64 0, .int .i64 0, .int .i64 0, .int .i64 0, .int .i64 0, .int .i64 0, .int .i64 0, .int .i64 0, .int .i64 0, .int .i64 0, .int .i64 0, .int .i64 0, .int .i64 0, .int .i64 0] 68)).alloc (.cells #[.int .i64 0, .int .i64 0, .int .i64 0, .int .i64 0, .int .i64 0, .int .i64 0, .int .i64 0, .int .i64 0, .int .i64 0, .int .i64 0, .int .i64 0, .int .i64 0, .int .i64 0, .int .i64 0, .int .i64 0, .int .i64 0] 68)).setCells w1.heap.size 0 (arrC xs)).setCells (w1.heap.size + 1) 0 (arrC ys)) := below_setCells (by omega) _ _ _ (below_setCells (by omega) _ _ _ (below_then (below_then (below_seq (below_alloc _ _) hB) _) _))
    go_wp2_with (first | (refine wpList_store_mid rfl 68 _ _ rfl w1.heap.size 0 (arrC xs).toArray rfl rfl t1 HI.out (arrC_all _) ?_) | (refine wpList_store_mid rfl 68 _ _ rfl (w1.heap.size + 1) 0 (arrC ys).toArray rfl rfl t2' HJ.out (arrC_all _) ?_))
    clear t1 t2 t2'
    generalize (((w1.alloc (.cells #[.int .i64 0, .int .i64 0, .int .i64 0, .int .i64 0, .int .i64 0, .int .i64 0, .int .i64 0, .int .i64 0, .int .i64 0, .int .i64 0, .int .i64 0, .int .i64 0, .int .i64 0, .int .i64 0, .int .i64 0, .int .i64 0] 68)).alloc (.cells #[.int .i64 0, .int .i64 0, .int .i64 0, .int .i64 0, .int .i64 0, .int .i64 0, .int .i64 0, .int .i64 0, .int .i64 0, .int .i64 0, .int .i64 0, .int .i64 0, .int .i64 0, .int .i64 0, .int .i64 0, .int .i64 0] 68)).setCells w1.heap.size 0 (arrC xs)).setCells (w1.heap.size + 1) 0 (arrC ys) = w3 at *
    have HC : Hid (∀ k, k < 16 → w3.cell? ⟨w1.heap.size, k, none⟩ = some (.int .i64 (xs.getD k 0)) ∧ w3.cell? ⟨w1.heap.size + 1, k, none⟩ = some (.int .i64 (ys.getD k 0))) := fun k hk => by
      have e1 := r1 k (.int .i64 (xs.getD k 0)) (by simp [arrC, hlx, hk])
      have e2 := r2 k (.int .i64 (ys.getD k 0)) (by simp [arrC, hly, hk])
      rw [Nat.zero_add] at e1 e2
      exact ⟨e1, e2⟩
    clear r1 r2
    go_loopw [7, 20] (fun v i wr => ∃ k : Nat, k ≤ 16 ∧ i = .int .i64 (k : Int) ∧ v = .int .i64 (valTo xs ys k) ∧ ∃ n, wr = w3.drewN n) (fun _ i _ => 16 - (intOf i).toNat)
    case atStart => exact ⟨0, by omega, rfl, rfl, 0, rfl⟩
    case round =>
      obtain ⟨k, hk, rfl, rfl, n, rfl⟩ := hrel
      by_cases hlt : k < 16
      · obtain ⟨c0, c1⟩ := HC.out k hlt
        have b0 := HX.out k
        have b1 := HY.out k
        have b2 := HB.out k
        have HT : Hid (valTo xs ys (k + 1) = valTo xs ys k + (xs.getD k 0 - ys.getD k 0)) := rfl
        generalize xs.getD k 0 = x at c0 b0 HT
        generalize ys.getD k 0 = y at c1 b1 HT
        generalize valTo xs ys k = v at b2 HT
        have j0 : (0 : Int) ≤ (k : Int) := by omega
        have j1 : (k : Int) < 16 := by omega
        have a0 : -9223372036854775808 ≤ x - y := by omega
        have a1 : x - y < 9223372036854775808 := by omega
        have a2 : -9223372036854775808 ≤ v + (x - y) := by omega
        have a3 : v + (x - y) < 9223372036854775808 := by omega
        clear b0 b1 b2
        go_wp2_with fail
        go_quiet (fail)
        go_wp2_with fail
        go_roundw
        case rel => exact ⟨k + 1, by omega, by go_num, by rw [HT.out], _, rfl⟩
        case measure => simp [intOf]; omega
      · obtain rfl : k = 16 := by omega
        go_wp2_with fail
        refine bodyPost_ret (v := cVal xs ys) ?_ rfl ⟨rfl, below_drewN hB2 n⟩
        rw [HV.out]
        simp [results, Try.results13, go_sem]

set_option maxHeartbeats 1000000 in
set_option maxRecDepth 100000 in
theorem counterOK_any (C D : Nat) (w : World) (va vb : Value) (xs ys : List Int) (hC : C ≤ w.heap.size) (hD : D ≤ w.heap.size) (ha : Rd C w va (xs.map (Value.int .i64))) (hb : Rd D w vb (ys.map (Value.int .i64))) :
    Calls Try.prog 39 #[.agg #[va, vb]] w fun e w' => e = .returned (.bool (vecOK xs && vecOK ys)) ∧ Below w.heap.size w w' := by
  have h1 := specVecOK_any C (w.alloc (.cells #[va, vb] 36)) va xs (by simp; omega) (ha.alloc _ hC)
  have hV := fun w (h : D ≤ w.heap.size) hb => specVecOK_any D w vb ys h hb
  generalize vecOK ys = b2 at hV
  cases e1 : vecOK xs
  all_goals
    rw [e1] at h1
    go_enter Try.func39, Try.ntmps39
    go_wp2_with fail
    refine h1.mono ?_
    rintro e w1 ⟨rfl, hB⟩
    obtain ⟨c0, c1⟩ := two_cells hB
    have hBw := below_seq (below_alloc _ _) hB
    go_wp2_with ((go_at_call 56; refine (hV _ (Nat.le_trans hD hBw.size) (hb.belowW hBw hD)).mono ?_; rintro e w2 ⟨rfl, hb2⟩; replace hBw := below_seq hBw hb2))
    go_ret
    exact ⟨by simp, hBw⟩

set_option maxHeartbeats 2000000 in
set_option maxRecDepth 100000 in
theorem specCounterValue_any (C D : Nat) (w : World) (va vb : Value) (xs ys : List Int) (hC : C ≤ w.heap.size) (hD : D ≤ w.heap.size) (ha : Rd C w va (xs.map (Value.int .i64))) (hb : Rd D w vb (ys.map (Value.int .i64))) :
    Calls Try.prog 14 #[.agg #[va, vb]] w fun e w' => e = .returned (cVal xs ys) ∧ Below w.heap.size w w' := by
  have h1 := counterOK_any C D (w.alloc (.cells #[va, vb] 36)) va vb xs ys (by simp; omega) (by simp; omega) (ha.alloc _ hC) (hb.alloc _ hD)
  cases hok : (vecOK xs && vecOK ys) with
  | false =>
    have HV : Hid (cVal xs ys = .tuple #[.int .i64 0, .int .i64 1]) := if_neg (by simp [hok])
    rw [hok] at h1
    clear hok
    go_enter Try.func14, Try.ntmps14
    go_wp2_with fail
    refine h1.mono ?_
    rintro e w1 ⟨rfl, hB⟩
    go_wp2_with fail
    refine bodyPost_ret (v := cVal xs ys) ?_ rfl ⟨rfl, below_seq (below_alloc _ _) hB⟩
    rw [HV.out]
    simp [results, Try.results14, go_sem]
  | true =>
    have HV : Hid (cVal xs ys = .tuple #[.int .i64 (valTo xs ys 16), .int .i64 0]) := if_pos hok
    rw [hok] at h1
    rw [Bool.and_eq_true] at hok
    obtain ⟨okx, oky⟩ := hok
    have hlx := (vecOK_get okx).1
    have hly := (vecOK_get oky).1
    have HX : Hid (∀ k, 0 ≤ xs.getD k 0 ∧ xs.getD k 0 ≤ 1000000000000) := okGet okx
    have HY : Hid (∀ k, 0 ≤ ys.getD k 0 ∧ ys.getD k 0 ≤ 1000000000000) := okGet oky
    have HB : Hid (∀ k : Nat, -((k : Int) * 1000000000000) ≤ valTo xs ys k ∧ valTo xs ys k ≤ (k : Int) * 1000000000000) := valTo_bd okx oky
    clear okx oky
    obtain ⟨ao, ca, rfl, hca, hma, _, hra⟩ := ha
    obtain ⟨bo, cb, rfl, hcb, hmb, _, hrb⟩ := hb
    obtain ⟨g, off, rfl, hg, hcg⟩ := hra (by simp; omega)
    obtain ⟨g', off', rfl, hg', hcg'⟩ := hrb (by simp; omega)
    clear hra hrb
    rw [List.length_map] at hca hcb h1 ⊢
    rw [List.length_map] at h1 ⊢
    rw [hlx] at hca h1 ⊢
    rw [hly] at hcb h1 ⊢
    go_enter Try.func14, Try.ntmps14
    go_wp2_with fail
    refine h1.mono ?_
    rintro e w1 ⟨rfl, hB⟩
    obtain ⟨d0, d1⟩ := two_cells hB
    have hBw := below_seq (below_alloc _ _) hB
    have HC : Hid (∀ k, k < 16 → w1.cell? ⟨g, off + k, none⟩ = some (.int .i64 (xs.getD k 0)) ∧ w1.cell? ⟨g', off' + k, none⟩ = some (.int .i64 (ys.getD k 0))) := fun k hk =>
      ⟨(hBw.cell (p := ⟨g, off + k, none⟩) (by show g < _; omega)).trans (hcg k _ (by simp [hlx, hk])), (hBw.cell (p := ⟨g', off' + k, none⟩) (by show g' < _; omega)).trans (hcg' k _ (by simp [hly, hk]))⟩
    clear hcg hcg' h1
    go_wp2_with fail
    go_loopw [4, 5] (fun v i wr => ∃ k : Nat, k ≤ 16 ∧ i = .int .i64 (k : Int) ∧ v = .int .i64 (valTo xs ys k) ∧ ∃ n, wr = w1.drewN n) (fun _ i _ => 16 - (intOf i).toNat)
    case atStart => exact ⟨0, by omega, rfl, rfl, 0, rfl⟩
    case round =>
      obtain ⟨k, hk, rfl, rfl, n, rfl⟩ := hrel
      by_cases hlt : k < 16
      · obtain ⟨c0, c1⟩ := HC.out k hlt
        have b0 := HX.out k
        have b1 := HY.out k
        have b2 := HB.out k
        have HT : Hid (valTo xs ys (k + 1) = valTo xs ys k + (xs.getD k 0 - ys.getD k 0)) := rfl
        generalize xs.getD k 0 = x at c0 b0 HT
        generalize ys.getD k 0 = y at c1 b1 HT
        generalize valTo xs ys k = v at b2 HT
        have j0 : (0 : Int) ≤ (k : Int) := by omega
        have j1 : (k : Int) < 16 := by omega
        have a0 : -9223372036854775808 ≤ v + x := by omega
        have a1 : v + x < 9223372036854775808 := by omega
        have a2 : -9223372036854775808 ≤ v + x - y := by omega
        have a3 : v + x - y < 9223372036854775808 := by omega
        clear b0 b1 b2
        go_wp2_with fail
        go_quiet (fail)
        go_wp2_with fail
        go_roundw
        case rel => exact ⟨k + 1, by omega, by go_num, by rw [HT.out, ← Int.add_sub_assoc], _, rfl⟩
        case measure => simp [intOf]; omega
      · obtain rfl : k = 16 := by omega
        go_wp2_with fail
        refine bodyPost_ret (v := cVal xs ys) ?_ rfl ⟨rfl, below_drewN hBw n⟩
        rw [HV.out]
        simp [results, Try.results14, go_sem]

end Go.Proofs.Ytonpeiknoifdbab
