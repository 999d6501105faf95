/- What the specification's l02Covers and VecOrder do. -/
import Derived.Test.YtonpeiknoifdbabVecOKs
namespace Go.Proofs.Ytonpeiknoifdbab
open Go.RowKit
set_option linter.unusedVariables false

/-- No count of the second is above that of the first. -/
def covers (xs ys : List Int) : Bool := (List.range 16).all fun k => decide (ys.getD k 0 ≤ xs.getD k 0)
theorem covers_no {xs ys : List Int} {k : Nat} (hk : k < 16) (h : xs.getD k 0 < ys.getD k 0) : covers xs ys = false := by
  unfold covers
  rw [List.all_eq_false]
  refine ⟨k, List.mem_range.2 hk, ?_⟩
  rw [decide_eq_true_eq]
  omega
theorem covers_yes {xs ys : List Int} (h : ∀ k, k < 16 → ys.getD k 0 ≤ xs.getD k 0) : covers xs ys = true := by
  unfold covers
  rw [List.all_eq_true]
  intro k hk
  exact decide_eq_true (h k (List.mem_range.1 hk))
/-- What VecOrder answers, of valid ones; and the code. -/
def ordV (xs ys : List Int) : Int := if covers xs ys = true ∧ covers ys xs = true then 0 else if covers ys xs = true then 1 else if covers xs ys = true then 2 else 3
def ordB (xs ys : List Int) : Int := if (vecOK xs && vecOK ys) = true then ordV xs ys else 0
def ordC (xs ys : List Int) : Int := if (vecOK xs && vecOK ys) = true then 0 else 1

set_option maxHeartbeats 1000000 in
theorem l02Covers_any (C D : Nat) (w : World) (va vb : Value) (xs ys : List Int) (hx : xs.length = 16) (hy : ys.length = 16) (hC : C ≤ w.heap.size) (hD : D ≤ w.heap.size) (ha : Rd C w va (xs.map (Value.int .i64))) (hb : Rd D w vb (ys.map (Value.int .i64))) :
    Calls Try.prog 57 #[.agg #[va], .agg #[vb]] w fun e w' => e = .returned (.bool (covers xs ys)) ∧ Below w.heap.size w w' := by
  obtain ⟨ao, ca, rfl, _, _, _, ha⟩ := ha
  obtain ⟨bo, cb, rfl, _, _, _, hb⟩ := hb
  rw [List.length_map] at ha hb ⊢
  rw [List.length_map]
  obtain ⟨ga, oa, rfl, hga, hca⟩ := ha (by omega)
  obtain ⟨gb, ob, rfl, hgb, hcb⟩ := hb (by omega)
  have HA : Hid (∀ k, k < 16 → ∀ w' : World, Below w.heap.size w w' → w'.cell? ⟨ga, oa + k, none⟩ = some (.int .i64 (xs.getD k 0))) := fun k hk w' h => (h.cell (p := ⟨ga, oa + k, none⟩) (by show ga < _; omega)).trans (hca k _ (by simp [show k < xs.length by omega]))
  have HB : Hid (∀ k, k < 16 → ∀ w' : World, Below w.heap.size w w' → w'.cell? ⟨gb, ob + k, none⟩ = some (.int .i64 (ys.getD k 0))) := fun k hk w' h => (h.cell (p := ⟨gb, ob + k, none⟩) (by show gb < _; omega)).trans (hcb k _ (by simp [show k < ys.length by omega]))
  rw [hx, hy]
  clear ha hb hca hcb hx hy
  have hB0 : Below w.heap.size w ((w.alloc (.cells #[.slice (some ⟨ga, oa, none⟩) 16 ca] 34)).alloc (.cells #[.slice (some ⟨gb, ob, none⟩) 16 cb] 34)) := below_then (below_alloc _ _) _
  have cB0 := cell_made1 (Below.refl ((w.alloc (.cells #[.slice (some ⟨ga, oa, none⟩) 16 ca] 34)).alloc (.cells #[.slice (some ⟨gb, ob, none⟩) 16 cb] 34)).heap.size _)
  have cA0 := cell_made1 (below_alloc (w.alloc (.cells #[.slice (some ⟨ga, oa, none⟩) 16 ca] 34)) (.cells #[.slice (some ⟨gb, ob, none⟩) 16 cb] 34))
  rw [World.size_alloc] at cB0
  go_enter Try.func57, Try.ntmps57
  go_wp2_with fail
  generalize (w.alloc (.cells #[.slice (some ⟨ga, oa, none⟩) 16 ca] 34)).alloc (.cells #[.slice (some ⟨gb, ob, none⟩) 16 cb] 34) = W at hB0 cA0 cB0 ⊢
  go_loopw [5] (fun ti wr => ∃ k nn : Nat, k ≤ 16 ∧ ti = .int .i64 (k : Int) ∧ wr = W.drewN nn ∧ Hid (∀ j, j < k → ys.getD j 0 ≤ xs.getD j 0)) (fun ti _ => 16 - (intOf ti).toNat)
  case atStart => exact ⟨0, 0, by omega, rfl, rfl, fun j hj => absurd hj (by omega)⟩
  case round =>
    obtain ⟨k, nn, hk, rfl, rfl, HK⟩ := hrel
    have hBn : Below w.heap.size w (W.drewN nn) := below_drewN hB0 nn
    by_cases hlt : k < 16
    · have cX := HA.out k hlt W hB0
      have cY := HB.out k hlt W hB0
      have i1 : (0 : Int) ≤ (k : Int) := by omega
      have i2 : (k : Int) < 16 := by omega
      by_cases hgt : xs.getD k 0 < ys.getD k 0
      · have HN : Hid _ := covers_no hlt hgt
        generalize xs.getD k 0 = x at cX hgt
        generalize ys.getD k 0 = y at cY hgt
        go_wp2_with fail
        go_quiet (fail)
        go_wp2_with fail
        go_ret
        exact ⟨by rw [HN.out]; rfl, below_drewN hBn _⟩
      · have HN : Hid (∀ j, j < k + 1 → ys.getD j 0 ≤ xs.getD j 0) := fun j hj => by
          by_cases e : j = k
          · subst e; omega
          · exact HK.out j (by omega)
        generalize xs.getD k 0 = x at cX hgt
        generalize ys.getD k 0 = y at cY hgt
        go_wp2_with fail
        go_quiet (fail)
        go_wp2_with fail
        go_roundw
        case rel => exact ⟨k + 1, nn + nq, by omega, by go_num, by simp, HN⟩
        case measure => simp [intOf]; omega
    · obtain rfl : k = 16 := by omega
      have HN : Hid _ := covers_yes (xs := xs) (ys := ys) HK.out
      go_wp2_with fail
      go_ret
      exact ⟨by rw [HN.out]; rfl, hBn⟩
theorem ord_yes {xs ys : List Int} (h : (vecOK xs && vecOK ys) = true) : ordB xs ys = ordV xs ys ∧ ordC xs ys = 0 := by
  unfold ordB ordC
  rw [if_pos h, if_pos h]
  exact ⟨rfl, rfl⟩
theorem ord_no {xs ys : List Int} (h : (vecOK xs && vecOK ys) = false) : ordB xs ys = 0 ∧ ordC xs ys = 1 := by
  unfold ordB ordC
  rw [if_neg (by rw [h]; decide), if_neg (by rw [h]; decide)]
  exact ⟨rfl, rfl⟩

set_option maxHeartbeats 1000000 in
set_option maxRecDepth 100000 in
theorem specVecOrder_any (C D : Nat) (w : World) (va vb : Value) (xs ys : List Int) (hC : C ≤ w.heap.size) (hD : D ≤ w.heap.size) (ha : Rd C w va (xs.map (Value.int .i64))) (hb : Rd D w vb (ys.map (Value.int .i64))) :
    Calls Try.prog 27 #[.agg #[va], .agg #[vb]] w fun e w' => e = .returned (.tuple #[.int .i64 (ordB xs ys), .int .i64 (ordC xs ys)]) ∧ Below w.heap.size w w' := by
  have h1 := fun w' (h : Rd C w' va (xs.map (Value.int .i64))) (h' : C ≤ w'.heap.size) => specVecOK_any C w' va xs h' h
  have h2 := fun w' (h : Rd D w' vb (ys.map (Value.int .i64))) (h' : D ≤ w'.heap.size) => specVecOK_any D w' vb ys h' h
  have h3 := fun (p : xs.length = 16) (q : ys.length = 16) w' (h : Rd C w' va (xs.map (Value.int .i64))) (h' : C ≤ w'.heap.size) (k : Rd D w' vb (ys.map (Value.int .i64))) (k' : D ≤ w'.heap.size) => l02Covers_any C D w' va vb xs ys p q h' k' h k
  have h4 := fun (p : xs.length = 16) (q : ys.length = 16) w' (h : Rd C w' va (xs.map (Value.int .i64))) (h' : C ≤ w'.heap.size) (k : Rd D w' vb (ys.map (Value.int .i64))) (k' : D ≤ w'.heap.size) => l02Covers_any D C w' vb va ys xs q p k' h' k h
  obtain ⟨ao, la, ca, rfl⟩ : ∃ ao len cap, va = .slice ao len cap := by
    obtain ⟨ao, cap, rfl, _⟩ := ha
    exact ⟨_, _, _, rfl⟩
  obtain ⟨bo, lb, cb, rfl⟩ : ∃ ao len cap, vb = .slice ao len cap := by
    obtain ⟨ao, cap, rfl, _⟩ := hb
    exact ⟨_, _, _, rfl⟩
  have ha3 := (ha.alloc (.cells #[.slice ao la ca] 34) hC).alloc (.cells #[.slice bo lb cb] 34) (by simp; omega)
  have hb3 := (hb.alloc (.cells #[.slice ao la ca] 34) hD).alloc (.cells #[.slice bo lb cb] 34) (by simp; omega)
  have hs3 : w.heap.size ≤ ((w.alloc (.cells #[.slice ao la ca] 34)).alloc (.cells #[.slice bo lb cb] 34)).heap.size := by simp; omega
  have hB0 := Below.refl ((w.alloc (.cells #[.slice ao la ca] 34)).alloc (.cells #[.slice bo lb cb] 34)).heap.size ((w.alloc (.cells #[.slice ao la ca] 34)).alloc (.cells #[.slice bo lb cb] 34))
  go_enter Try.func27, Try.ntmps27
  go_wp2_with fail
  refine (h1 _ ha3 (by omega)).mono ?_
  rintro e w1 ⟨rfl, hB⟩
  have cb1 := cell_made1 hB
  rw [World.size_alloc] at cb1
  have hbw := below_seq (below_alloc _ _) (below_seq (below_alloc _ _) hB)
  cases hX : vecOK xs with
  | false =>
    obtain ⟨e1, e2⟩ := ord_no (xs := xs) (ys := ys) (by rw [hX]; rfl)
    have E1 : Hid _ := e1
    have E2 : Hid _ := e2
    clear e1 e2 hX h1 h2 h3 h4 ha hb ha3 hb3
    go_wp2_with fail
    go_ret2
    exact ⟨by rw [E1.out, E2.out]; rfl, hbw⟩
  | true =>
    have hb1 := hb3.belowW hB (by omega)
    have HX : Hid _ := hX
    clear hX
    go_wp2_with fail
    refine (h2 _ hb1 (by have := hB.size; omega)).mono ?_
    rintro e w2 ⟨rfl, hb2⟩
    replace hB := below_seq hB hb2
    have ca2 := cell_made1 (below_seq (below_alloc _ _) hB)
    have cb2 := cell_made1 hB
    rw [World.size_alloc] at cb2
    replace hbw := below_seq hbw hb2
    cases hY : vecOK ys with
    | false =>
      obtain ⟨e1, e2⟩ := ord_no (xs := xs) (ys := ys) (by rw [hY]; simp)
      have E1 : Hid _ := e1
      have E2 : Hid _ := e2
      clear e1 e2 hY h1 h2 h3 h4 ha hb ha3 hb3 hb1 cb1
      go_wp2_with fail
      go_ret2
      exact ⟨by rw [E1.out, E2.out]; rfl, hbw⟩
    | true =>
      obtain ⟨e1, e2⟩ := ord_yes (xs := xs) (ys := ys) (by rw [HX.out, hY]; rfl)
      have k3 := h3 (vecOK_get HX.out).1 (vecOK_get hY).1
      have k4 := h4 (vecOK_get HX.out).1 (vecOK_get hY).1
      have hord : ordB xs ys = ordV xs ys := e1
      have E2 : Hid _ := e2
      clear e1 e2 hY h1 h2 h3 h4 ha hb hb1 cb1 HX
      unfold ordV at hord
      cases hc1 : covers xs ys
      · cases hc2 : covers ys xs
        · rw [hc1] at k3
          rw [hc2] at k4
          simp only [hc1, hc2] at hord
          have E1 : Hid _ := hord
          clear hord hc1 hc2
          go_wp2_with fail
          refine (k3 _ (ha3.belowW hB (by omega)) (by have := hB.size; omega) (hb3.belowW hB (by omega)) (by have := hB.size; omega)).mono ?_
          rintro e w10 ⟨rfl, hb10⟩
          replace hB := below_seq hB hb10
          replace hbw := below_seq hbw hb10
          have ca10 := cell_made1 (below_seq (below_alloc _ _) hB)
          have cb10 := cell_made1 hB
          rw [World.size_alloc] at cb10
          go_wp2_with fail
          refine (k4 _ (ha3.belowW hB (by omega)) (by have := hB.size; omega) (hb3.belowW hB (by omega)) (by have := hB.size; omega)).mono ?_
          rintro e w11 ⟨rfl, hb11⟩
          replace hB := below_seq hB hb11
          replace hbw := below_seq hbw hb11
          have ca11 := cell_made1 (below_seq (below_alloc _ _) hB)
          have cb11 := cell_made1 hB
          rw [World.size_alloc] at cb11
          go_wp2_with fail
          refine (k3 _ (ha3.belowW hB (by omega)) (by have := hB.size; omega) (hb3.belowW hB (by omega)) (by have := hB.size; omega)).mono ?_
          rintro e w12 ⟨rfl, hb12⟩
          replace hB := below_seq hB hb12
          replace hbw := below_seq hbw hb12
          have ca12 := cell_made1 (below_seq (below_alloc _ _) hB)
          have cb12 := cell_made1 hB
          rw [World.size_alloc] at cb12
          go_wp2_with fail
          go_ret2
          exact ⟨by rw [E1.out, E2.out]; simp, hbw⟩
        · rw [hc1] at k3
          rw [hc2] at k4
          simp only [hc1, hc2] at hord
          have E1 : Hid _ := hord
          clear hord hc1 hc2
          go_wp2_with fail
          refine (k3 _ (ha3.belowW hB (by omega)) (by have := hB.size; omega) (hb3.belowW hB (by omega)) (by have := hB.size; omega)).mono ?_
          rintro e w10 ⟨rfl, hb10⟩
          replace hB := below_seq hB hb10
          replace hbw := below_seq hbw hb10
          have ca10 := cell_made1 (below_seq (below_alloc _ _) hB)
          have cb10 := cell_made1 hB
          rw [World.size_alloc] at cb10
          go_wp2_with fail
          refine (k4 _ (ha3.belowW hB (by omega)) (by have := hB.size; omega) (hb3.belowW hB (by omega)) (by have := hB.size; omega)).mono ?_
          rintro e w11 ⟨rfl, hb11⟩
          replace hB := below_seq hB hb11
          replace hbw := below_seq hbw hb11
          have ca11 := cell_made1 (below_seq (below_alloc _ _) hB)
          have cb11 := cell_made1 hB
          rw [World.size_alloc] at cb11
          go_wp2_with fail
          go_ret2
          exact ⟨by rw [E1.out, E2.out]; simp, hbw⟩
      · cases hc2 : covers ys xs
        · rw [hc1] at k3
          rw [hc2] at k4
          simp only [hc1, hc2] at hord
          have E1 : Hid _ := hord
          clear hord hc1 hc2
          go_wp2_with fail
          refine (k3 _ (ha3.belowW hB (by omega)) (by have := hB.size; omega) (hb3.belowW hB (by omega)) (by have := hB.size; omega)).mono ?_
          rintro e w10 ⟨rfl, hb10⟩
          replace hB := below_seq hB hb10
          replace hbw := below_seq hbw hb10
          have ca10 := cell_made1 (below_seq (below_alloc _ _) hB)
          have cb10 := cell_made1 hB
          rw [World.size_alloc] at cb10
          go_wp2_with fail
          refine (k4 _ (ha3.belowW hB (by omega)) (by have := hB.size; omega) (hb3.belowW hB (by omega)) (by have := hB.size; omega)).mono ?_
          rintro e w11 ⟨rfl, hb11⟩
          replace hB := below_seq hB hb11
          replace hbw := below_seq hbw hb11
          have ca11 := cell_made1 (below_seq (below_alloc _ _) hB)
          have cb11 := cell_made1 hB
          rw [World.size_alloc] at cb11
          go_wp2_with fail
          refine (k4 _ (ha3.belowW hB (by omega)) (by have := hB.size; omega) (hb3.belowW hB (by omega)) (by have := hB.size; omega)).mono ?_
          rintro e w12 ⟨rfl, hb12⟩
          replace hB := below_seq hB hb12
          replace hbw := below_seq hbw hb12
          have ca12 := cell_made1 (below_seq (below_alloc _ _) hB)
          have cb12 := cell_made1 hB
          rw [World.size_alloc] at cb12
          go_wp2_with fail
          refine (k3 _ (ha3.belowW hB (by omega)) (by have := hB.size; omega) (hb3.belowW hB (by omega)) (by have := hB.size; omega)).mono ?_
          rintro e w13 ⟨rfl, hb13⟩
          replace hB := below_seq hB hb13
          replace hbw := below_seq hbw hb13
          have ca13 := cell_made1 (below_seq (below_alloc _ _) hB)
          have cb13 := cell_made1 hB
          rw [World.size_alloc] at cb13
          go_wp2_with fail
          go_ret2
          exact ⟨by rw [E1.out, E2.out]; simp, hbw⟩
        · rw [hc1] at k3
          rw [hc2] at k4
          simp only [hc1, hc2] at hord
          have E1 : Hid _ := hord
          clear hord hc1 hc2
          go_wp2_with fail
          refine (k3 _ (ha3.belowW hB (by omega)) (by have := hB.size; omega) (hb3.belowW hB (by omega)) (by have := hB.size; omega)).mono ?_
          rintro e w10 ⟨rfl, hb10⟩
          replace hB := below_seq hB hb10
          replace hbw := below_seq hbw hb10
          have ca10 := cell_made1 (below_seq (below_alloc _ _) hB)
          have cb10 := cell_made1 hB
          rw [World.size_alloc] at cb10
          go_wp2_with fail
          refine (k4 _ (ha3.belowW hB (by omega)) (by have := hB.size; omega) (hb3.belowW hB (by omega)) (by have := hB.size; omega)).mono ?_
          rintro e w11 ⟨rfl, hb11⟩
          replace hB := below_seq hB hb11
          replace hbw := below_seq hbw hb11
          have ca11 := cell_made1 (below_seq (below_alloc _ _) hB)
          have cb11 := cell_made1 hB
          rw [World.size_alloc] at cb11
          go_wp2_with fail
          go_ret2
          exact ⟨by rw [E1.out, E2.out]; simp, hbw⟩
end Go.Proofs.Ytonpeiknoifdbab
