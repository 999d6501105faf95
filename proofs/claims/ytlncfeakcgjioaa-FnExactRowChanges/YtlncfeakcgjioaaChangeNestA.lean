/- The laws' own functions over lists of changes: their size, their copy, that two alike are alike. No condition: they are lemmas. -/
import Derived.Test.YtlncfeakcgjioaaChangeNest
namespace Go.Proofs.Ytlncfeakcgjioaa
open Go.RowKit
set_option linter.unusedVariables false

set_option maxHeartbeats 2000000 in
set_option maxRecDepth 100000 in
theorem eqChangeS_same (C C' : Nat) (w : World) (va vb : Value) (P : List Cg) (hl : P.length ≤ 140737488355328) (hd : ∀ x ∈ P, x.2.1.length ≤ 140737488355328 ∧ x.2.2.length ≤ 140737488355328) (hC : C ≤ w.heap.size) (hC' : C' ≤ w.heap.size) (ha : RdCg C w va P) (hb : RdCg C' w vb P) :
    Calls Try.prog 10 #[va, vb] w fun e w' => e = .returned (.bool true) ∧ Below w.heap.size w w' := by
  obtain ⟨ao, ca, rfl, _, _, _, ha⟩ := ha
  obtain ⟨bo, cb, rfl, _, _, _, hb⟩ := hb
  go_enter Try.func10, Try.ntmps10
  go_wp2_with fail
  go_loopw [5] (fun ti wr => ∃ k : Nat, k ≤ P.length ∧ ti = .int .i64 (k : Int) ∧ Below w.heap.size w wr) (fun ti _ => P.length - (intOf ti).toNat)
  case atStart => exact ⟨0, Nat.zero_le _, rfl, Below.refl _ _⟩
  case round =>
    obtain ⟨k, hk, rfl, hB⟩ := hrel
    by_cases hlt : k < P.length
    · obtain ⟨g, off, rfl, hg, hc⟩ := ha (by omega)
      obtain ⟨g', off', rfl, hg', hc'⟩ := hb (by omega)
      obtain ⟨x, hx⟩ : ∃ x, P[k]? = some x := ⟨P[k], by simp [hlt]⟩
      have hxl := hd x (List.mem_of_getElem? hx)
      obtain ⟨d0, u, v, d1, d2, r1, r2⟩ := (hc k x hx).below (hB.mono hC) hg
      obtain ⟨b0, u', v', b1, b2, q1, q2⟩ := (hc' k x hx).below (hB.mono hC') hg'
      have j0 : (0 : Int) ≤ (k : Int) := by omega
      have j1 : (k : Int) < (P.length : Int) := by omega
      have j2 : (k : Int) + 1 < 9223372036854775808 := by omega
      have hsz := hB.size
      clear hx hc hc' ha hb hd
      obtain ⟨xk, a, b⟩ := x
      simp only at d0 d1 d2 b0 b1 b2 r1 r2 q1 q2 hxl
      have hE := fun (w9 : World) (h : Below wr.heap.size wr w9) => eqChange_same C C' w9 xk a b u v u' v' hxl.1 hxl.2 (by have := h.size; omega) (by have := h.size; omega) (r1.below (h.mono (by omega))) (q1.below (h.mono (by omega))) (r2.below (h.mono (by omega))) (q2.below (h.mono (by omega)))
      clear r1 r2 q1 q2
      go_wp2_with fail
      go_region_held2 (fun w' => w'.cell? ⟨g, off + k * 3, none⟩ = some (.string xk) ∧ w'.cell? ⟨g, off + k * 3 + 1, none⟩ = some u ∧ w'.cell? ⟨g, off + k * 3 + 2, none⟩ = some v ∧ w'.cell? ⟨g', off' + k * 3, none⟩ = some (.string xk) ∧ w'.cell? ⟨g', off' + k * 3 + 1, none⟩ = some u' ∧ w'.cell? ⟨g', off' + k * 3 + 2, none⟩ = some v') (exact ⟨d0, d1, d2, b0, b1, b2⟩) ((go_at_call 27; refine (hE _ (Below.refl _ _).drew).mono ?_; rintro e w' ⟨rfl, hb⟩; replace d0 := cell_on hb d0; replace d1 := cell_on hb d1; replace d2 := cell_on hb d2; replace b0 := cell_on hb b0; replace b1 := cell_on hb b1; replace b2 := cell_on hb b2; replace hB := below_seq hB.drew hb; clear hb))
      go_wp2_with fail
      go_roundw
      case rel => exact ⟨k + 1, by omega, by go_num, hB⟩
      case measure => simp [intOf]; omega
    · obtain rfl : k = P.length := by omega
      go_wp2_with fail
      go_ret
      exact ⟨rfl, hB⟩

end Go.Proofs.Ytlncfeakcgjioaa
