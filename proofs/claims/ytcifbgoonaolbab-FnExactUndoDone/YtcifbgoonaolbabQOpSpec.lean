/- Operations of a log: what the specification's l08OpOK answers. -/
import Derived.Test.YtcifbgoonaolbabQOpSpecA
import Derived.Test.YtcifbgoonaolbabQOpSpecB
import Derived.Test.YtcifbgoonaolbabQOpSpecCToOpSpecD
namespace Go.Proofs.Ytcifbgoonaolbab
open Go.RowKit
set_option linter.unusedVariables false

set_option maxHeartbeats 4000000 in
set_option maxRecDepth 100000 in
theorem specOpOK_any (C : Nat) (a s t k o n u pt pa : Int) (dv : Value) (ky tx : ByteArray) (ds : List Int) (w : World) (hC : C ≤ w.heap.size) (hr : Rd C w dv (ds.map (Value.int .i64))) :
    Calls Try.prog 25 #[.agg #[.int .i64 a, .int .i64 s, .int .i64 t, dv, .int .i64 k, .int .i64 o, .int .i64 n, .int .i64 u, .int .i64 pt, .int .i64 pa, .string ky, .string tx]] w fun e w' => e = .returned (.bool (opB a s t k o n u pt pa ky tx ds)) ∧ Below w.heap.size w w' := by
  rw [← opS_eq]
  obtain ⟨r, HR⟩ : ∃ r, Hid (opS a s t k o n u pt pa ky tx ds = r) := ⟨_, rfl⟩
  rw [HR.out]
  have NO : (opS a s t k o n u pt pa ky tx ds = false) → r = false := fun h => HR.out.symm.trans h
  cases h1 : stOK t a with
  | false => exact opSpec_a a s t k o n u pt pa dv ky tx w r h1 (NO (by unfold opS; rw [comes_1 h1, Bool.false_and]))
  | true =>
    cases h4 : vecOK ds with
    | false => exact opSpec_b C a s t k o n u pt pa dv ky tx ds w hC hr r h1 h4 (NO (by unfold opS; rw [comes_4 h4, Bool.false_and])) (fun h => NO (by unfold opS; rw [comes_2 h, Bool.false_and])) (fun h => NO (by unfold opS; rw [comes_3 h, Bool.false_and]))
    | true =>
      have hV : ∀ w1, Below w.heap.size w w1 → Calls Try.prog 47 #[.agg #[dv]] w1 fun e w' => e = .returned (.bool true) ∧ Below w1.heap.size w1 w' := fun w1 hb => h4 ▸ specVecOK_any C w1 dv ds (by have := hb.size; omega) (hr.below (hb.mono hC))
      have hO := fun w => h1 ▸ specStampOK_any t a w
      have ha : 0 ≤ a ∧ a < 16 := by unfold stOK at h1; simp at h1; omega
      obtain ⟨j, rfl⟩ := Int.eq_ofNat_of_zero_le ha.1
      obtain ⟨ao, cap, rfl, hcap, hmax, hnil, hrr⟩ := hr
      have hl : ds.length = 16 := vec_16 h4
      rw [List.length_map] at hrr hcap
      obtain ⟨g, off, rfl, hg, hc⟩ := hrr (by omega)
      have hj : j < 16 := by omega
      have hg' : g < w.heap.size := by omega
      have HC : Hid (w.cell? ⟨g, off + j, none⟩ = some (.int .i64 (ds.getD j 0))) := hc j _ (by rw [List.getElem?_map, List.getD_eq_getElem?_getD, List.getElem?_eq_getElem (by omega)]; rfl)
      have HC5 : 1 ≤ s → s ≤ 1000000000000 → comesOK j s t ds = decide (ds.getD j 0 = s - 1) := fun h2 h3 => by rw [comes_5 h1 h2 h3 h4, Int.toNat_natCast]
      rw [List.length_map, hl] at *
      by_cases b01 : s < 1 ∨ 1000000000000 < s
      · exact opSpec_c C s t k o n u pt pa ky tx j g off cap _ w r hj hg' HC hO hV (fun h => NO (by unfold opS; rw [comes_2 h, Bool.false_and])) (fun h => NO (by unfold opS; rw [comes_3 h, Bool.false_and])) (fun h => by omega)
      · by_cases b24 : ¬ ds.getD j 0 = s - 1 ∨ o < 1 ∨ 100 < o
        · exact opSpec_d C s t k o n u pt pa ky tx j g off cap _ w r hj hg' HC hO hV (by omega) (by omega) (fun h => NO (by unfold opS; rw [HC5 (by omega) (by omega), decide_eq_false h, Bool.false_and])) (fun h => NO (by unfold opS; simp [show ¬ 1 ≤ o by omega])) (fun h => NO (by unfold opS; simp [show ¬ o ≤ 100 by omega])) (fun h h' => by omega)
        · by_cases b58 : n < -1000000000000 ∨ 1000000000000 < n ∨ u < 0 ∨ s ≤ u
          · exact opSpec_e C s t k o n u pt pa ky tx j g off cap _ w r hj hg' HC hO hV (by omega) (by omega) (by omega) (by omega) (by omega) (fun h => NO (by unfold opS; simp [show ¬ -1000000000000 ≤ n by omega])) (fun h => NO (by unfold opS; simp [show ¬ n ≤ 1000000000000 by omega])) (fun h => NO (by unfold opS; simp [show ¬ 0 ≤ u by omega])) (fun h => NO (by unfold opS; simp [show ¬ u < s by omega])) (fun h h' h'' => by omega)
          · refine opSpec_f C s t k o n u pt pa ky tx j g off cap _ w r hj hg' HC hO hV (by omega) (by omega) (by omega) (by omega) (by omega) (by omega) (by omega) (by omega) (by omega) (fun h => NO (by unfold opS; simp [show ¬ ky.size ≤ 200 by omega])) (fun h => NO (by unfold opS; simp [show ¬ tx.size ≤ 200 by omega])) (fun h h' => ?_)
            rw [← HR.out]
            unfold opS
            rw [HC5 (by omega) (by omega), decide_eq_true (by omega : ds.getD j 0 = s - 1), decide_eq_true (by omega : 1 ≤ o), decide_eq_true (by omega : o ≤ 100), decide_eq_true (by omega : -1000000000000 ≤ n), decide_eq_true (by omega : n ≤ 1000000000000), decide_eq_true (by omega : 0 ≤ u), decide_eq_true (by omega : u < s), decide_eq_true (by omega : ky.size ≤ 200), decide_eq_true (by omega : tx.size ≤ 200)]
            simp only [Bool.true_and]

end Go.Proofs.Ytcifbgoonaolbab
