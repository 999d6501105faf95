/- What the specification's CounterJoin does. -/
import Derived.Test.YtonpeiknoifdbabCtrJoinImpl
import Derived.Test.YtonpeiknoifdbabCtrVal
import Derived.Test.YtonpeiknoifdbabVecJoinSpec
import Derived.Deep.RegionHeld3
namespace Go.Proofs.Ytonpeiknoifdbab
open Go.RowKit
set_option linter.unusedVariables false

theorem four_set {w : World} {n m : Nat} {x y z u : Value} (h : w.cell? ⟨n, 0, none⟩ = some x ∧ w.cell? ⟨n, 1, none⟩ = some y ∧ w.cell? ⟨n + 1, 0, none⟩ = some z ∧ w.cell? ⟨n + 1, 1, none⟩ = some u) (hm : n + 1 + 1 ≤ m) (a b : Value) :
    ((w.setCell ⟨m, 0, none⟩ a).setCell ⟨m, 1, none⟩ b).cell? ⟨n, 0, none⟩ = some x ∧ ((w.setCell ⟨m, 0, none⟩ a).setCell ⟨m, 1, none⟩ b).cell? ⟨n, 1, none⟩ = some y ∧ ((w.setCell ⟨m, 0, none⟩ a).setCell ⟨m, 1, none⟩ b).cell? ⟨n + 1, 0, none⟩ = some z ∧ ((w.setCell ⟨m, 0, none⟩ a).setCell ⟨m, 1, none⟩ b).cell? ⟨n + 1, 1, none⟩ = some u := by
  have o : ∀ (w : World) (i j : Nat) (u : Value), (w.setCell ⟨m, j, none⟩ u).cell? ⟨n, i, none⟩ = w.cell? ⟨n, i, none⟩ := fun w i j u => World.cell?_setCells_out m [u] j w _ (fun e => absurd e (by show n ≠ m; omega))
  have o' : ∀ (w : World) (i j : Nat) (u : Value), (w.setCell ⟨m, j, none⟩ u).cell? ⟨n + 1, i, none⟩ = w.cell? ⟨n + 1, i, none⟩ := fun w i j u => World.cell?_setCells_out m [u] j w _ (fun e => absurd e (by show n + 1 ≠ m; omega))
  rw [o, o, o, o, o', o', o', o']
  exact h

set_option maxHeartbeats 8000000 in
set_option maxRecDepth 100000 in
theorem specCounterJoin_any (C D C' D' : Nat) (w : World) (va vb va' vb' : Value) (xs ys xs' ys' : List Int) (hC : C ≤ w.heap.size) (hD : D ≤ w.heap.size) (hC' : C' ≤ w.heap.size) (hD' : D' ≤ w.heap.size)
    (ha : Rd C w va (xs.map (Value.int .i64))) (hb : Rd D w vb (ys.map (Value.int .i64))) (ha' : Rd C' w va' (xs'.map (Value.int .i64))) (hb' : Rd D' w vb' (ys'.map (Value.int .i64))) :
    Calls Try.prog 12 #[.agg #[va, vb], .agg #[va', vb']] w (TwoAns (jnA (jnOK xs ys xs' ys') xs xs') (jnA (jnOK xs ys xs' ys') ys ys') (jnC (jnOK xs ys xs' ys')) w) := by
  have hB0 : Below w.heap.size w (((w.alloc (.cells #[va, vb] 36)).alloc (.cells #[va', vb'] 36)).alloc (.cells #[.slice none 0 0, .slice none 0 0] 36)) := below_then (below_then (below_alloc _ _) _) _
  have h1 := counterOK_any C D (((w.alloc (.cells #[va, vb] 36)).alloc (.cells #[va', vb'] 36)).alloc (.cells #[.slice none 0 0, .slice none 0 0] 36)) va vb xs ys (Nat.le_trans hC hB0.size) (Nat.le_trans hD hB0.size) (ha.belowW hB0 hC) (hb.belowW hB0 hD)
  have h2 := fun w1 (hw : Below w.heap.size w w1) => counterOK_any C' D' w1 va' vb' xs' ys' (Nat.le_trans hC' hw.size) (Nat.le_trans hD' hw.size) (ha'.belowW hw hC') (hb'.belowW hw hD')
  have hj : jnOK xs ys xs' ys' = ((vecOK xs && vecOK ys) && (vecOK xs' && vecOK ys')) := rfl
  cases e1 : (vecOK xs && vecOK ys) with
  | false =>
    rw [e1, Bool.false_and] at hj
    rw [hj]
    rw [e1] at h1
    go_enter Try.func12, Try.ntmps12
    go_wp2_with fail
    refine h1.mono ?_
    rintro e w1 ⟨rfl, hB⟩
    have HR : Hid (Dy w1 (w.heap.size + 1 + 1) (.slice none 0 0) (.slice none 0 0)) := (base6 hB).2
    obtain ⟨⟨u0, u1⟩, hf⟩ := HR.out
    have f0 := hf 0
    have f1 := hf 1
    have hBw := below_seq hB0 hB
    go_wp2_with fail
    have hp := (Dy.set1 (Dy.set0 HR.out (.slice none 0 0)) (.slice none 0 0)).1
    refine bodyPost_ret (v := .tuple #[.agg #[.slice none 0 0, .slice none 0 0], .int .i64 1]) ?_ rfl (twoNone ((hBw.setCell (p := ⟨w.heap.size + 1 + 1, 0, none⟩) (by show w.heap.size ≤ w.heap.size + 1 + 1; omega) _).setCell (p := ⟨w.heap.size + 1 + 1, 1, none⟩) (by show w.heap.size ≤ w.heap.size + 1 + 1; omega) _))
    simp [results, Try.results12, go_sem, hp.1, hp.2]
  | true =>
    cases e2 : (vecOK xs' && vecOK ys') with
    | false =>
      rw [e1, e2, Bool.and_false] at hj
      rw [hj]
      rw [e1] at h1
      rw [e2] at h2
      go_enter Try.func12, Try.ntmps12
      go_wp2_with fail
      refine h1.mono ?_
      rintro e w1 ⟨rfl, hB⟩
      obtain ⟨⟨c0, c1, d0, d1⟩, _⟩ := base6 hB
      go_wp2_with fail
      refine (h2 _ (below_seq hB0 hB)).mono ?_
      rintro e w2 ⟨rfl, hb2⟩
      replace hB := below_seq hB hb2
      have HR : Hid (Dy w2 (w.heap.size + 1 + 1) (.slice none 0 0) (.slice none 0 0)) := (base6 hB).2
      obtain ⟨⟨u0, u1⟩, hf⟩ := HR.out
      have f0 := hf 0
      have f1 := hf 1
      have hBw := below_seq hB0 hB
      clear c0 c1 d0 d1 hb2
      go_wp2_with fail
      have hp := (Dy.set1 (Dy.set0 HR.out (.slice none 0 0)) (.slice none 0 0)).1
      refine bodyPost_ret (v := .tuple #[.agg #[.slice none 0 0, .slice none 0 0], .int .i64 1]) ?_ rfl (twoNone ((hBw.setCell (p := ⟨w.heap.size + 1 + 1, 0, none⟩) (by show w.heap.size ≤ w.heap.size + 1 + 1; omega) _).setCell (p := ⟨w.heap.size + 1 + 1, 1, none⟩) (by show w.heap.size ≤ w.heap.size + 1 + 1; omega) _))
      simp [results, Try.results12, go_sem, hp.1, hp.2]
    | true =>
      rw [e1, e2, Bool.and_self] at hj
      rw [hj]
      rw [e1] at h1
      rw [e2] at h2
      rw [Bool.and_eq_true] at e1 e2
      obtain ⟨okx, oky⟩ := e1
      obtain ⟨okx', oky'⟩ := e2
      have m1 : Hid True := trivial
      clear hj
      go_enter Try.func12, Try.ntmps12
      go_wp2_with fail
      refine h1.mono ?_
      rintro e w1 ⟨rfl, hB⟩
      obtain ⟨⟨c0, c1, d0, d1⟩, _⟩ := base6 hB
      go_wp2_with fail
      refine (h2 _ (below_seq hB0 hB)).mono ?_
      rintro e w2 ⟨rfl, hb2⟩
      replace hB := (below_seq hB hb2).drew
      have hS := (base6 hB).1
      clear c0 c1 d0 d1 hb2 h1 h2
      go_wp2_with fail
      have hz2 := hB.size
      simp only [World.size_alloc] at hz2
      have hz2' : w.heap.size + 1 + 1 + 1 ≤ w2.heap.size := hz2
      go_region_held3 (fun w' => w'.cell? ⟨w.heap.size, 0, none⟩ = some va ∧ w'.cell? ⟨w.heap.size, 1, none⟩ = some vb ∧ w'.cell? ⟨w.heap.size + 1, 0, none⟩ = some va' ∧ w'.cell? ⟨w.heap.size + 1, 1, none⟩ = some vb') (first | exact hS | exact four_set hS (by omega) _ _) (first | (go_at_call 40; clear m1; refine Calls.mono (l02Join_any C C' _ va va' xs xs' (vecOK_get okx).1 (vecOK_get okx').1 (Nat.le_trans hC (below_seq hB0 hB).size) (Nat.le_trans hC' (below_seq hB0 hB).size) (ha.belowW (below_seq hB0 hB) hC) (ha'.belowW (below_seq hB0 hB) hC')) ?_; rintro e w3 ⟨a3, n3, k3, rfl, hq3, hb3⟩; replace hB := below_seq hB hb3; replace hS := (base6 hB).1; clear hb3) | (go_at_call 40; refine Calls.mono (l02Join_any D D' _ vb vb' ys ys' (vecOK_get oky).1 (vecOK_get oky').1 (Nat.le_trans hD (below_seq hB0 hB).size) (Nat.le_trans hD' (below_seq hB0 hB).size) (hb.belowW (below_seq hB0 hB) hD) (hb'.belowW (below_seq hB0 hB) hD')) ?_; rintro e w4 ⟨a4, n4, k4, rfl, hq4, hb4⟩; have hap : Apart (.slice a3 n3 k3) (.slice a4 n4 k4) := apart_of hq3 hq4; replace hq3 := hq3.below hb4 (Nat.le_refl _); have z4 := hB.size; have z3 := z4; (try simp only [World.size_alloc] at z3); replace hB := below_seq hB hb4; replace hS := (base6 hB).1; have hR4 := (base6 hB).2; have hR4' := hR4; obtain ⟨⟨u0, u1⟩, hf⟩ := hR4'; have f0 := hf 0; have f1 := hf 1; clear hb4))
      have hR5 := (Dy.set1 (Dy.set0 hR4 (.slice a3 n3 k3)) (.slice a4 n4 k4)).1
      have l3 := hq3.mono (show w.heap.size + 1 + 1 + 1 ≤ _ from hz2')
      have l4 := hq4.mono z3
      have k1 := Own.setK (Own.setK l3 (P := w.heap.size + 1 + 1) 0 (.slice a3 n3 k3) (by omega)) (P := w.heap.size + 1 + 1) 1 (.slice a4 n4 k4) (by omega)
      have k2 := Own.setK (Own.setK l4 (P := w.heap.size + 1 + 1) 0 (.slice a3 n3 k3) (by omega)) (P := w.heap.size + 1 + 1) 1 (.slice a4 n4 k4) (by omega)
      have hB9 := ((below_seq hB0 hB).setCell (p := ⟨w.heap.size + 1 + 1, 0, none⟩) (by show w.heap.size ≤ w.heap.size + 1 + 1; omega) (.slice a3 n3 k3)).setCell (p := ⟨w.heap.size + 1 + 1, 1, none⟩) (by show w.heap.size ≤ w.heap.size + 1 + 1; omega) (.slice a4 n4 k4)
      clear hS u0 u1 hf f0 f1 hR4 l3 l4 hq3 hq4
      go_wp2_with fail
      refine bodyPost_ret (v := .tuple #[.agg #[.slice a3 n3 k3, .slice a4 n4 k4], .int .i64 0]) ?_ rfl ⟨a3, n3, k3, a4, n4, k4, 3, rfl, k1.mono (by omega), k2.mono (by omega), hap, hB9⟩
      simp [results, Try.results12, go_sem, hR5.1, hR5.2]
end Go.Proofs.Ytonpeiknoifdbab
