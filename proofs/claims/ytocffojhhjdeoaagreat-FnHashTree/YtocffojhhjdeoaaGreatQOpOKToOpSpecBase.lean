/- Operations of a log: what the code's opOK answers. The set of an actor's undone Seqs, as a list. Operations of a log: what the specification's l08OpOK answers. -/
import Derived.Test.YtocffojhhjdeoaaGreatQOpComesToOpBase
import Derived.Test.YtocffojhhjdeoaaGreatQTakeKitToBigKit
namespace Go.Proofs.YtocffojhhjdeoaaGreat
open Go.RowKit
set_option linter.unusedVariables false

set_option maxHeartbeats 1000000 in
theorem isObj_any (o : Int) (w : World) :
    Calls Tryz.prog 62 #[.int .i64 o] w fun e w' => e = .returned (.bool (decide (1 ≤ o) && decide (o ≤ 100))) ∧ Below w.heap.size w w' := by
  have hc : (o < 1) ∨ (¬ o < 1 ∧ 100 < o) ∨ (¬ o < 1 ∧ ¬ 100 < o) := by omega
  rcases hc with h | ⟨h, h'⟩ | ⟨h, h'⟩
  · rw [decide_eq_false (by omega : ¬ 1 ≤ o), Bool.false_and]
    go_enter Tryz.func62, Tryz.ntmps62
    go_wp2_with fail
    go_ret
    exact ⟨rfl, Below.refl _ _⟩
  · go_enter Tryz.func62, Tryz.ntmps62
    go_wp2_with fail
    go_ret
    refine ⟨?_, Below.refl _ _⟩
    simp <;> omega
  · go_enter Tryz.func62, Tryz.ntmps62
    go_wp2_with fail
    go_ret
    refine ⟨?_, Below.refl _ _⟩
    simp <;> omega

set_option maxHeartbeats 4000000 in
set_option maxRecDepth 100000 in
theorem opOK_any (C : Nat) (a s t k o n u pt pa : Int) (dv : Value) (ky tx : ByteArray) (ds : List Int) (w : World) (hC : C ≤ w.heap.size) (hr : Rd C w dv (ds.map (Value.int .i64))) :
    Calls Tryz.prog 39 #[.agg #[.int .i64 a, .int .i64 s, .int .i64 t, dv, .int .i64 k, .int .i64 o, .int .i64 n, .int .i64 u, .int .i64 pt, .int .i64 pa, .string ky, .string tx]] w fun e w' => e = .returned (.bool (opB a s t k o n u pt pa ky tx ds)) ∧ Below w.heap.size w w' := by
  have hB := (Below.refl (w.alloc (.cells #[.int .i64 a, .int .i64 s, .int .i64 t, dv, .int .i64 k, .int .i64 o, .int .i64 n, .int .i64 u, .int .i64 pt, .int .i64 pa, .string ky, .string tx] 37)).heap.size (w.alloc (.cells #[.int .i64 a, .int .i64 s, .int .i64 t, dv, .int .i64 k, .int .i64 o, .int .i64 n, .int .i64 u, .int .i64 pt, .int .i64 pa, .string ky, .string tx] 37))).drew
  have hA : ∀ w1, Below (w.alloc (.cells #[.int .i64 a, .int .i64 s, .int .i64 t, dv, .int .i64 k, .int .i64 o, .int .i64 n, .int .i64 u, .int .i64 pt, .int .i64 pa, .string ky, .string tx] 37)).heap.size (w.alloc (.cells #[.int .i64 a, .int .i64 s, .int .i64 t, dv, .int .i64 k, .int .i64 o, .int .i64 n, .int .i64 u, .int .i64 pt, .int .i64 pa, .string ky, .string tx] 37)) w1 → Calls Tryz.prog 61 #[.agg #[.int .i64 a, .int .i64 s, .int .i64 t, dv, .int .i64 k, .int .i64 o, .int .i64 n, .int .i64 u, .int .i64 pt, .int .i64 pa, .string ky, .string tx]] w1 fun e w' => e = .returned (.bool (comesOK a s t ds)) ∧ Below w1.heap.size w1 w' := fun w1 hb => opComesOK_any C a s t k o n u pt pa dv ky tx ds w1 (by have := (below_seq (below_alloc w _) hb).size; omega) (hr.below ((below_seq (below_alloc w _) hb).mono hC))
  have hI := fun w => isObj_any o w
  have hN := fun w => stampOrNone_any pt pa w
  have hL := fun w => implStampLess_any pt pa t a w
  have HF : Hid (∀ wx, Below (w.alloc (.cells #[.int .i64 a, .int .i64 s, .int .i64 t, dv, .int .i64 k, .int .i64 o, .int .i64 n, .int .i64 u, .int .i64 pt, .int .i64 pa, .string ky, .string tx] 37)).heap.size (w.alloc (.cells #[.int .i64 a, .int .i64 s, .int .i64 t, dv, .int .i64 k, .int .i64 o, .int .i64 n, .int .i64 u, .int .i64 pt, .int .i64 pa, .string ky, .string tx] 37)) wx → wx.cell? ⟨w.heap.size, 0, none⟩ = some (.int .i64 a) ∧ wx.cell? ⟨w.heap.size, 1, none⟩ = some (.int .i64 s) ∧ wx.cell? ⟨w.heap.size, 2, none⟩ = some (.int .i64 t) ∧ wx.cell? ⟨w.heap.size, 3, none⟩ = some (dv) ∧ wx.cell? ⟨w.heap.size, 4, none⟩ = some (.int .i64 k) ∧ wx.cell? ⟨w.heap.size, 5, none⟩ = some (.int .i64 o) ∧ wx.cell? ⟨w.heap.size, 6, none⟩ = some (.int .i64 n) ∧ wx.cell? ⟨w.heap.size, 7, none⟩ = some (.int .i64 u) ∧ wx.cell? ⟨w.heap.size, 8, none⟩ = some (.int .i64 pt) ∧ wx.cell? ⟨w.heap.size, 9, none⟩ = some (.int .i64 pa) ∧ wx.cell? ⟨w.heap.size, 10, none⟩ = some (.string ky) ∧ wx.cell? ⟨w.heap.size, 11, none⟩ = some (.string tx)) := fun wx h => by
    exact op_cells h
  clear hr
  unfold opB
  cases h1 : comesOK a s t ds with
  | false =>
    rw [h1] at hA
    clear h1
    rw [Bool.false_and]
    go_enter Tryz.func39, Tryz.ntmps39
    go_wp2_with fail
    refine wp_region_held_drew (S := fun w' => w'.cell? ⟨w.heap.size, 0, none⟩ = some (.int .i64 a) ∧ w'.cell? ⟨w.heap.size, 1, none⟩ = some (.int .i64 s) ∧ w'.cell? ⟨w.heap.size, 2, none⟩ = some (.int .i64 t) ∧ w'.cell? ⟨w.heap.size, 3, none⟩ = some (dv) ∧ w'.cell? ⟨w.heap.size, 4, none⟩ = some (.int .i64 k) ∧ w'.cell? ⟨w.heap.size, 5, none⟩ = some (.int .i64 o) ∧ w'.cell? ⟨w.heap.size, 6, none⟩ = some (.int .i64 n) ∧ w'.cell? ⟨w.heap.size, 7, none⟩ = some (.int .i64 u) ∧ w'.cell? ⟨w.heap.size, 8, none⟩ = some (.int .i64 pt) ∧ w'.cell? ⟨w.heap.size, 9, none⟩ = some (.int .i64 pa) ∧ w'.cell? ⟨w.heap.size, 10, none⟩ = some (.string ky) ∧ w'.cell? ⟨w.heap.size, 11, none⟩ = some (.string tx)) (by kernel_rfl) (HF.out _ hB) (fun hHeld => ?_)
    refine tkH 0 (.agg #[.int .i64 a, .int .i64 s, .int .i64 t, dv, .int .i64 k, .int .i64 o, .int .i64 n, .int .i64 u, .int .i64 pt, .int .i64 pa, .string ky, .string tx]) rfl (Or.inl ⟨by kernel_rfl, by intro w hSw; obtain ⟨s0, s1, s2, s3, s4, s5, s6, s7, s8, s9, s10, s11⟩ := hSw; go_simp⟩) hHeld ?_
    simp only [tkS, Act.put]
    refine wpAnyH_ready (rs := [1]) (by kernel_rfl) (by simp) ?_
    refine AllReadyH.cons rfl (fun K hK => ?_) AllReadyH.nil
    go_simp
    refine (hA _ hB).mono ?_
    rintro e wn ⟨rfl, hbn⟩
    replace hB := below_seq hB hbn
    clear hbn
    go_wp2_with fail
    refine hK.out _ _ (HF.out _ hB) (fun hHeld => ?_)
    clear hK K
    refine tkH 2 (.bool false) rfl (Or.inl ⟨by kernel_rfl, by intro w hSw; obtain ⟨s0, s1, s2, s3, s4, s5, s6, s7, s8, s9, s10, s11⟩ := hSw; go_simp⟩) hHeld ?_
    simp only [tkS, Act.put]
    refine tkH 3 (undef) rfl (Or.inr ⟨by kernel_rfl, rfl⟩) hHeld ?_
    simp only [tkS, Act.put]
    refine tkH 4 (undef) rfl (Or.inr ⟨by kernel_rfl, rfl⟩) hHeld ?_
    simp only [tkS, Act.put]
    refine wpAnyH_ready (rs := [5]) (by kernel_rfl) (by simp) ?_
    refine AllReadyH.cons rfl (fun K hK => ?_) AllReadyH.nil
    go_simp
    refine hK.out _ _ (HF.out _ hB) (fun hHeld => ?_)
    clear hK K
    refine tkH 6 (.bool false) rfl (Or.inl ⟨by kernel_rfl, by intro w hSw; obtain ⟨s0, s1, s2, s3, s4, s5, s6, s7, s8, s9, s10, s11⟩ := hSw; go_simp⟩) hHeld ?_
    simp only [tkS, Act.put]
    refine tkH 7 (.bool false) rfl (Or.inl ⟨by kernel_rfl, by intro w hSw; obtain ⟨s0, s1, s2, s3, s4, s5, s6, s7, s8, s9, s10, s11⟩ := hSw; go_simp⟩) hHeld ?_
    simp only [tkS, Act.put]
    refine tkH 8 (undef) rfl (Or.inr ⟨by kernel_rfl, rfl⟩) hHeld ?_
    simp only [tkS, Act.put]
    refine tkH 9 (undef) rfl (Or.inr ⟨by kernel_rfl, rfl⟩) hHeld ?_
    simp only [tkS, Act.put]
    refine tkH 10 (undef) rfl (Or.inr ⟨by kernel_rfl, rfl⟩) hHeld ?_
    simp only [tkS, Act.put]
    refine tkH 11 (.bool false) rfl (Or.inl ⟨by kernel_rfl, by intro w hSw; obtain ⟨s0, s1, s2, s3, s4, s5, s6, s7, s8, s9, s10, s11⟩ := hSw; go_simp⟩) hHeld ?_
    simp only [tkS, Act.put]
    refine tkH 12 (.bool false) rfl (Or.inl ⟨by kernel_rfl, by intro w hSw; obtain ⟨s0, s1, s2, s3, s4, s5, s6, s7, s8, s9, s10, s11⟩ := hSw; go_simp⟩) hHeld ?_
    simp only [tkS, Act.put]
    refine tkH 13 (undef) rfl (Or.inr ⟨by kernel_rfl, rfl⟩) hHeld ?_
    simp only [tkS, Act.put]
    refine tkH 14 (undef) rfl (Or.inr ⟨by kernel_rfl, rfl⟩) hHeld ?_
    simp only [tkS, Act.put]
    refine tkH 15 (undef) rfl (Or.inr ⟨by kernel_rfl, rfl⟩) hHeld ?_
    simp only [tkS, Act.put]
    refine tkH 16 (undef) rfl (Or.inr ⟨by kernel_rfl, rfl⟩) hHeld ?_
    simp only [tkS, Act.put]
    refine tkH 17 (undef) rfl (Or.inr ⟨by kernel_rfl, rfl⟩) hHeld ?_
    simp only [tkS, Act.put]
    refine tkH 18 (.bool false) rfl (Or.inl ⟨by kernel_rfl, by intro w hSw; obtain ⟨s0, s1, s2, s3, s4, s5, s6, s7, s8, s9, s10, s11⟩ := hSw; go_simp⟩) hHeld ?_
    simp only [tkS, Act.put]
    refine tkH 19 (.bool false) rfl (Or.inl ⟨by kernel_rfl, by intro w hSw; obtain ⟨s0, s1, s2, s3, s4, s5, s6, s7, s8, s9, s10, s11⟩ := hSw; go_simp⟩) hHeld ?_
    simp only [tkS, Act.put]
    refine tkH 20 (undef) rfl (Or.inr ⟨by kernel_rfl, rfl⟩) hHeld ?_
    simp only [tkS, Act.put]
    refine tkH 21 (undef) rfl (Or.inr ⟨by kernel_rfl, rfl⟩) hHeld ?_
    simp only [tkS, Act.put]
    refine wpAnyH_ready (rs := [22]) (by kernel_rfl) (by simp) ?_
    refine AllReadyH.cons rfl (fun K hK => ?_) AllReadyH.nil
    go_simp
    refine hK.out _ _ (HF.out _ hB) (fun hHeld => ?_)
    clear hK K
    refine tkH 23 (.bool false) rfl (Or.inl ⟨by kernel_rfl, by intro w hSw; obtain ⟨s0, s1, s2, s3, s4, s5, s6, s7, s8, s9, s10, s11⟩ := hSw; go_simp⟩) hHeld ?_
    simp only [tkS, Act.put]
    refine tkH 24 (.bool false) rfl (Or.inl ⟨by kernel_rfl, by intro w hSw; obtain ⟨s0, s1, s2, s3, s4, s5, s6, s7, s8, s9, s10, s11⟩ := hSw; go_simp⟩) hHeld ?_
    simp only [tkS, Act.put]
    refine tkH 25 (undef) rfl (Or.inr ⟨by kernel_rfl, rfl⟩) hHeld ?_
    simp only [tkS, Act.put]
    refine tkH 26 (undef) rfl (Or.inr ⟨by kernel_rfl, rfl⟩) hHeld ?_
    simp only [tkS, Act.put]
    refine tkH 27 (undef) rfl (Or.inr ⟨by kernel_rfl, rfl⟩) hHeld ?_
    simp only [tkS, Act.put]
    refine wpAnyH_ready (rs := [28]) (by kernel_rfl) (by simp) ?_
    refine AllReadyH.cons rfl (fun K hK => ?_) AllReadyH.nil
    go_simp
    refine hK.out _ _ (HF.out _ hB) (fun hHeld => ?_)
    clear hK K
    refine wpAnyH_ready (rs := [29]) (by kernel_rfl) (by simp) ?_
    refine AllReadyH.cons rfl (fun K hK => ?_) AllReadyH.nil
    go_simp
    refine hK.out _ _ (HF.out _ hB) (fun hHeld => ?_)
    clear hK K
    refine tkH 30 (.bool false) rfl (Or.inl ⟨by kernel_rfl, by intro w hSw; obtain ⟨s0, s1, s2, s3, s4, s5, s6, s7, s8, s9, s10, s11⟩ := hSw; go_simp⟩) hHeld ?_
    simp only [tkS, Act.put]
    refine tkH 31 (.bool false) rfl (Or.inl ⟨by kernel_rfl, by intro w hSw; obtain ⟨s0, s1, s2, s3, s4, s5, s6, s7, s8, s9, s10, s11⟩ := hSw; go_simp⟩) hHeld ?_
    simp only [tkS, Act.put]
    refine tkH 32 (undef) rfl (Or.inr ⟨by kernel_rfl, rfl⟩) hHeld ?_
    simp only [tkS, Act.put]
    refine wpAnyH_ready (rs := [33]) (by kernel_rfl) (by simp) ?_
    refine AllReadyH.cons rfl (fun K hK => ?_) AllReadyH.nil
    go_simp
    refine hK.out _ _ (HF.out _ hB) (fun hHeld => ?_)
    clear hK K
    refine tkH 34 (.bool false) rfl (Or.inl ⟨by kernel_rfl, by intro w hSw; obtain ⟨s0, s1, s2, s3, s4, s5, s6, s7, s8, s9, s10, s11⟩ := hSw; go_simp⟩) hHeld ?_
    simp only [tkS, Act.put]
    refine tkH 35 (.bool false) rfl (Or.inl ⟨by kernel_rfl, by intro w hSw; obtain ⟨s0, s1, s2, s3, s4, s5, s6, s7, s8, s9, s10, s11⟩ := hSw; go_simp⟩) hHeld ?_
    simp only [tkS, Act.put]
    refine wpAnyH_done (by kernel_rfl) ?_ _
    go_wp2_with fail
    go_ret
    exact ⟨rfl, below_seq (below_alloc _ _) hB⟩
  | true =>
    rw [h1] at hA
    clear h1
    rw [Bool.true_and]
    by_cases h2 : o < 1
    · rw [decide_eq_false (by omega : ¬ 1 ≤ o), Bool.false_and] at hI ⊢
      go_enter Tryz.func39, Tryz.ntmps39
      go_wp2_with fail
      refine wp_region_held_drew (S := fun w' => w'.cell? ⟨w.heap.size, 0, none⟩ = some (.int .i64 a) ∧ w'.cell? ⟨w.heap.size, 1, none⟩ = some (.int .i64 s) ∧ w'.cell? ⟨w.heap.size, 2, none⟩ = some (.int .i64 t) ∧ w'.cell? ⟨w.heap.size, 3, none⟩ = some (dv) ∧ w'.cell? ⟨w.heap.size, 4, none⟩ = some (.int .i64 k) ∧ w'.cell? ⟨w.heap.size, 5, none⟩ = some (.int .i64 o) ∧ w'.cell? ⟨w.heap.size, 6, none⟩ = some (.int .i64 n) ∧ w'.cell? ⟨w.heap.size, 7, none⟩ = some (.int .i64 u) ∧ w'.cell? ⟨w.heap.size, 8, none⟩ = some (.int .i64 pt) ∧ w'.cell? ⟨w.heap.size, 9, none⟩ = some (.int .i64 pa) ∧ w'.cell? ⟨w.heap.size, 10, none⟩ = some (.string ky) ∧ w'.cell? ⟨w.heap.size, 11, none⟩ = some (.string tx)) (by kernel_rfl) (HF.out _ hB) (fun hHeld => ?_)
      refine tkH 0 (.agg #[.int .i64 a, .int .i64 s, .int .i64 t, dv, .int .i64 k, .int .i64 o, .int .i64 n, .int .i64 u, .int .i64 pt, .int .i64 pa, .string ky, .string tx]) rfl (Or.inl ⟨by kernel_rfl, by intro w hSw; obtain ⟨s0, s1, s2, s3, s4, s5, s6, s7, s8, s9, s10, s11⟩ := hSw; go_simp⟩) hHeld ?_
      simp only [tkS, Act.put]
      refine wpAnyH_ready (rs := [1]) (by kernel_rfl) (by simp) ?_
      refine AllReadyH.cons rfl (fun K hK => ?_) AllReadyH.nil
      go_simp
      refine (hA _ hB).mono ?_
      rintro e wn ⟨rfl, hbn⟩
      replace hB := below_seq hB hbn
      clear hbn
      go_wp2_with fail
      refine hK.out _ _ (HF.out _ hB) (fun hHeld => ?_)
      clear hK K
      refine tkH 2 (.bool true) rfl (Or.inl ⟨by kernel_rfl, by intro w hSw; obtain ⟨s0, s1, s2, s3, s4, s5, s6, s7, s8, s9, s10, s11⟩ := hSw; go_simp⟩) hHeld ?_
      simp only [tkS, Act.put]
      refine tkH 3 (.pointer (some ⟨w.heap.size, 5, none⟩)) rfl (Or.inl ⟨by kernel_rfl, by intro w hSw; obtain ⟨s0, s1, s2, s3, s4, s5, s6, s7, s8, s9, s10, s11⟩ := hSw; go_simp⟩) hHeld ?_
      simp only [tkS, Act.put]
      refine tkH 4 (.int .i64 o) rfl (Or.inl ⟨by kernel_rfl, by intro w hSw; obtain ⟨s0, s1, s2, s3, s4, s5, s6, s7, s8, s9, s10, s11⟩ := hSw; go_simp⟩) hHeld ?_
      simp only [tkS, Act.put]
      refine wpAnyH_ready (rs := [5]) (by kernel_rfl) (by simp) ?_
      refine AllReadyH.cons rfl (fun K hK => ?_) AllReadyH.nil
      go_simp
      refine (hI _).mono ?_
      rintro e wn ⟨rfl, hbn⟩
      replace hB := below_seq hB hbn
      clear hbn
      go_wp2_with fail
      refine hK.out _ _ (HF.out _ hB) (fun hHeld => ?_)
      clear hK K
      refine tkH 6 (.bool false) rfl (Or.inl ⟨by kernel_rfl, by intro w hSw; obtain ⟨s0, s1, s2, s3, s4, s5, s6, s7, s8, s9, s10, s11⟩ := hSw; go_simp⟩) hHeld ?_
      simp only [tkS, Act.put]
      refine tkH 7 (.bool false) rfl (Or.inl ⟨by kernel_rfl, by intro w hSw; obtain ⟨s0, s1, s2, s3, s4, s5, s6, s7, s8, s9, s10, s11⟩ := hSw; go_simp⟩) hHeld ?_
      simp only [tkS, Act.put]
      refine tkH 8 (undef) rfl (Or.inr ⟨by kernel_rfl, rfl⟩) hHeld ?_
      simp only [tkS, Act.put]
      refine tkH 9 (undef) rfl (Or.inr ⟨by kernel_rfl, rfl⟩) hHeld ?_
      simp only [tkS, Act.put]
      refine tkH 10 (undef) rfl (Or.inr ⟨by kernel_rfl, rfl⟩) hHeld ?_
      simp only [tkS, Act.put]
      refine tkH 11 (.bool false) rfl (Or.inl ⟨by kernel_rfl, by intro w hSw; obtain ⟨s0, s1, s2, s3, s4, s5, s6, s7, s8, s9, s10, s11⟩ := hSw; go_simp⟩) hHeld ?_
      simp only [tkS, Act.put]
      refine tkH 12 (.bool false) rfl (Or.inl ⟨by kernel_rfl, by intro w hSw; obtain ⟨s0, s1, s2, s3, s4, s5, s6, s7, s8, s9, s10, s11⟩ := hSw; go_simp⟩) hHeld ?_
      simp only [tkS, Act.put]
      refine tkH 13 (undef) rfl (Or.inr ⟨by kernel_rfl, rfl⟩) hHeld ?_
      simp only [tkS, Act.put]
      refine tkH 14 (undef) rfl (Or.inr ⟨by kernel_rfl, rfl⟩) hHeld ?_
      simp only [tkS, Act.put]
      refine tkH 15 (undef) rfl (Or.inr ⟨by kernel_rfl, rfl⟩) hHeld ?_
      simp only [tkS, Act.put]
      refine tkH 16 (undef) rfl (Or.inr ⟨by kernel_rfl, rfl⟩) hHeld ?_
      simp only [tkS, Act.put]
      refine tkH 17 (undef) rfl (Or.inr ⟨by kernel_rfl, rfl⟩) hHeld ?_
      simp only [tkS, Act.put]
      refine tkH 18 (.bool false) rfl (Or.inl ⟨by kernel_rfl, by intro w hSw; obtain ⟨s0, s1, s2, s3, s4, s5, s6, s7, s8, s9, s10, s11⟩ := hSw; go_simp⟩) hHeld ?_
      simp only [tkS, Act.put]
      refine tkH 19 (.bool false) rfl (Or.inl ⟨by kernel_rfl, by intro w hSw; obtain ⟨s0, s1, s2, s3, s4, s5, s6, s7, s8, s9, s10, s11⟩ := hSw; go_simp⟩) hHeld ?_
      simp only [tkS, Act.put]
      refine tkH 20 (undef) rfl (Or.inr ⟨by kernel_rfl, rfl⟩) hHeld ?_
      simp only [tkS, Act.put]
      refine tkH 21 (undef) rfl (Or.inr ⟨by kernel_rfl, rfl⟩) hHeld ?_
      simp only [tkS, Act.put]
      refine wpAnyH_ready (rs := [22]) (by kernel_rfl) (by simp) ?_
      refine AllReadyH.cons rfl (fun K hK => ?_) AllReadyH.nil
      go_simp
      refine hK.out _ _ (HF.out _ hB) (fun hHeld => ?_)
      clear hK K
      refine tkH 23 (.bool false) rfl (Or.inl ⟨by kernel_rfl, by intro w hSw; obtain ⟨s0, s1, s2, s3, s4, s5, s6, s7, s8, s9, s10, s11⟩ := hSw; go_simp⟩) hHeld ?_
      simp only [tkS, Act.put]
      refine tkH 24 (.bool false) rfl (Or.inl ⟨by kernel_rfl, by intro w hSw; obtain ⟨s0, s1, s2, s3, s4, s5, s6, s7, s8, s9, s10, s11⟩ := hSw; go_simp⟩) hHeld ?_
      simp only [tkS, Act.put]
      refine tkH 25 (undef) rfl (Or.inr ⟨by kernel_rfl, rfl⟩) hHeld ?_
      simp only [tkS, Act.put]
      refine tkH 26 (undef) rfl (Or.inr ⟨by kernel_rfl, rfl⟩) hHeld ?_
      simp only [tkS, Act.put]
      refine tkH 27 (undef) rfl (Or.inr ⟨by kernel_rfl, rfl⟩) hHeld ?_
      simp only [tkS, Act.put]
      refine wpAnyH_ready (rs := [28]) (by kernel_rfl) (by simp) ?_
      refine AllReadyH.cons rfl (fun K hK => ?_) AllReadyH.nil
      go_simp
      refine hK.out _ _ (HF.out _ hB) (fun hHeld => ?_)
      clear hK K
      refine wpAnyH_ready (rs := [29]) (by kernel_rfl) (by simp) ?_
      refine AllReadyH.cons rfl (fun K hK => ?_) AllReadyH.nil
      go_simp
      refine hK.out _ _ (HF.out _ hB) (fun hHeld => ?_)
      clear hK K
      refine tkH 30 (.bool false) rfl (Or.inl ⟨by kernel_rfl, by intro w hSw; obtain ⟨s0, s1, s2, s3, s4, s5, s6, s7, s8, s9, s10, s11⟩ := hSw; go_simp⟩) hHeld ?_
      simp only [tkS, Act.put]
      refine tkH 31 (.bool false) rfl (Or.inl ⟨by kernel_rfl, by intro w hSw; obtain ⟨s0, s1, s2, s3, s4, s5, s6, s7, s8, s9, s10, s11⟩ := hSw; go_simp⟩) hHeld ?_
      simp only [tkS, Act.put]
      refine tkH 32 (undef) rfl (Or.inr ⟨by kernel_rfl, rfl⟩) hHeld ?_
      simp only [tkS, Act.put]
      refine wpAnyH_ready (rs := [33]) (by kernel_rfl) (by simp) ?_
      refine AllReadyH.cons rfl (fun K hK => ?_) AllReadyH.nil
      go_simp
      refine hK.out _ _ (HF.out _ hB) (fun hHeld => ?_)
      clear hK K
      refine tkH 34 (.bool false) rfl (Or.inl ⟨by kernel_rfl, by intro w hSw; obtain ⟨s0, s1, s2, s3, s4, s5, s6, s7, s8, s9, s10, s11⟩ := hSw; go_simp⟩) hHeld ?_
      simp only [tkS, Act.put]
      refine tkH 35 (.bool false) rfl (Or.inl ⟨by kernel_rfl, by intro w hSw; obtain ⟨s0, s1, s2, s3, s4, s5, s6, s7, s8, s9, s10, s11⟩ := hSw; go_simp⟩) hHeld ?_
      simp only [tkS, Act.put]
      refine wpAnyH_done (by kernel_rfl) ?_ _
      go_wp2_with fail
      go_ret
      exact ⟨rfl, below_seq (below_alloc _ _) hB⟩
    · rw [decide_eq_true (by omega : 1 ≤ o), Bool.true_and] at hI ⊢
      by_cases h3 : 100 < o
      · rw [decide_eq_false (by omega : ¬ o ≤ 100), Bool.false_and]
        rw [decide_eq_false (by omega : ¬ o ≤ 100)] at hI
        go_enter Tryz.func39, Tryz.ntmps39
        go_wp2_with fail
        refine wp_region_held_drew (S := fun w' => w'.cell? ⟨w.heap.size, 0, none⟩ = some (.int .i64 a) ∧ w'.cell? ⟨w.heap.size, 1, none⟩ = some (.int .i64 s) ∧ w'.cell? ⟨w.heap.size, 2, none⟩ = some (.int .i64 t) ∧ w'.cell? ⟨w.heap.size, 3, none⟩ = some (dv) ∧ w'.cell? ⟨w.heap.size, 4, none⟩ = some (.int .i64 k) ∧ w'.cell? ⟨w.heap.size, 5, none⟩ = some (.int .i64 o) ∧ w'.cell? ⟨w.heap.size, 6, none⟩ = some (.int .i64 n) ∧ w'.cell? ⟨w.heap.size, 7, none⟩ = some (.int .i64 u) ∧ w'.cell? ⟨w.heap.size, 8, none⟩ = some (.int .i64 pt) ∧ w'.cell? ⟨w.heap.size, 9, none⟩ = some (.int .i64 pa) ∧ w'.cell? ⟨w.heap.size, 10, none⟩ = some (.string ky) ∧ w'.cell? ⟨w.heap.size, 11, none⟩ = some (.string tx)) (by kernel_rfl) (HF.out _ hB) (fun hHeld => ?_)
        refine tkH 0 (.agg #[.int .i64 a, .int .i64 s, .int .i64 t, dv, .int .i64 k, .int .i64 o, .int .i64 n, .int .i64 u, .int .i64 pt, .int .i64 pa, .string ky, .string tx]) rfl (Or.inl ⟨by kernel_rfl, by intro w hSw; obtain ⟨s0, s1, s2, s3, s4, s5, s6, s7, s8, s9, s10, s11⟩ := hSw; go_simp⟩) hHeld ?_
        simp only [tkS, Act.put]
        refine wpAnyH_ready (rs := [1]) (by kernel_rfl) (by simp) ?_
        refine AllReadyH.cons rfl (fun K hK => ?_) AllReadyH.nil
        go_simp
        refine (hA _ hB).mono ?_
        rintro e wn ⟨rfl, hbn⟩
        replace hB := below_seq hB hbn
        clear hbn
        go_wp2_with fail
        refine hK.out _ _ (HF.out _ hB) (fun hHeld => ?_)
        clear hK K
        refine tkH 2 (.bool true) rfl (Or.inl ⟨by kernel_rfl, by intro w hSw; obtain ⟨s0, s1, s2, s3, s4, s5, s6, s7, s8, s9, s10, s11⟩ := hSw; go_simp⟩) hHeld ?_
        simp only [tkS, Act.put]
        refine tkH 3 (.pointer (some ⟨w.heap.size, 5, none⟩)) rfl (Or.inl ⟨by kernel_rfl, by intro w hSw; obtain ⟨s0, s1, s2, s3, s4, s5, s6, s7, s8, s9, s10, s11⟩ := hSw; go_simp⟩) hHeld ?_
        simp only [tkS, Act.put]
        refine tkH 4 (.int .i64 o) rfl (Or.inl ⟨by kernel_rfl, by intro w hSw; obtain ⟨s0, s1, s2, s3, s4, s5, s6, s7, s8, s9, s10, s11⟩ := hSw; go_simp⟩) hHeld ?_
        simp only [tkS, Act.put]
        refine wpAnyH_ready (rs := [5]) (by kernel_rfl) (by simp) ?_
        refine AllReadyH.cons rfl (fun K hK => ?_) AllReadyH.nil
        go_simp
        refine (hI _).mono ?_
        rintro e wn ⟨rfl, hbn⟩
        replace hB := below_seq hB hbn
        clear hbn
        go_wp2_with fail
        refine hK.out _ _ (HF.out _ hB) (fun hHeld => ?_)
        clear hK K
        refine tkH 6 (.bool false) rfl (Or.inl ⟨by kernel_rfl, by intro w hSw; obtain ⟨s0, s1, s2, s3, s4, s5, s6, s7, s8, s9, s10, s11⟩ := hSw; go_simp⟩) hHeld ?_
        simp only [tkS, Act.put]
        refine tkH 7 (.bool false) rfl (Or.inl ⟨by kernel_rfl, by intro w hSw; obtain ⟨s0, s1, s2, s3, s4, s5, s6, s7, s8, s9, s10, s11⟩ := hSw; go_simp⟩) hHeld ?_
        simp only [tkS, Act.put]
        refine tkH 8 (undef) rfl (Or.inr ⟨by kernel_rfl, rfl⟩) hHeld ?_
        simp only [tkS, Act.put]
        refine tkH 9 (undef) rfl (Or.inr ⟨by kernel_rfl, rfl⟩) hHeld ?_
        simp only [tkS, Act.put]
        refine tkH 10 (undef) rfl (Or.inr ⟨by kernel_rfl, rfl⟩) hHeld ?_
        simp only [tkS, Act.put]
        refine tkH 11 (.bool false) rfl (Or.inl ⟨by kernel_rfl, by intro w hSw; obtain ⟨s0, s1, s2, s3, s4, s5, s6, s7, s8, s9, s10, s11⟩ := hSw; go_simp⟩) hHeld ?_
        simp only [tkS, Act.put]
        refine tkH 12 (.bool false) rfl (Or.inl ⟨by kernel_rfl, by intro w hSw; obtain ⟨s0, s1, s2, s3, s4, s5, s6, s7, s8, s9, s10, s11⟩ := hSw; go_simp⟩) hHeld ?_
        simp only [tkS, Act.put]
        refine tkH 13 (undef) rfl (Or.inr ⟨by kernel_rfl, rfl⟩) hHeld ?_
        simp only [tkS, Act.put]
        refine tkH 14 (undef) rfl (Or.inr ⟨by kernel_rfl, rfl⟩) hHeld ?_
        simp only [tkS, Act.put]
        refine tkH 15 (undef) rfl (Or.inr ⟨by kernel_rfl, rfl⟩) hHeld ?_
        simp only [tkS, Act.put]
        refine tkH 16 (undef) rfl (Or.inr ⟨by kernel_rfl, rfl⟩) hHeld ?_
        simp only [tkS, Act.put]
        refine tkH 17 (undef) rfl (Or.inr ⟨by kernel_rfl, rfl⟩) hHeld ?_
        simp only [tkS, Act.put]
        refine tkH 18 (.bool false) rfl (Or.inl ⟨by kernel_rfl, by intro w hSw; obtain ⟨s0, s1, s2, s3, s4, s5, s6, s7, s8, s9, s10, s11⟩ := hSw; go_simp⟩) hHeld ?_
        simp only [tkS, Act.put]
        refine tkH 19 (.bool false) rfl (Or.inl ⟨by kernel_rfl, by intro w hSw; obtain ⟨s0, s1, s2, s3, s4, s5, s6, s7, s8, s9, s10, s11⟩ := hSw; go_simp⟩) hHeld ?_
        simp only [tkS, Act.put]
        refine tkH 20 (undef) rfl (Or.inr ⟨by kernel_rfl, rfl⟩) hHeld ?_
        simp only [tkS, Act.put]
        refine tkH 21 (undef) rfl (Or.inr ⟨by kernel_rfl, rfl⟩) hHeld ?_
        simp only [tkS, Act.put]
        refine wpAnyH_ready (rs := [22]) (by kernel_rfl) (by simp) ?_
        refine AllReadyH.cons rfl (fun K hK => ?_) AllReadyH.nil
        go_simp
        refine hK.out _ _ (HF.out _ hB) (fun hHeld => ?_)
        clear hK K
        refine tkH 23 (.bool false) rfl (Or.inl ⟨by kernel_rfl, by intro w hSw; obtain ⟨s0, s1, s2, s3, s4, s5, s6, s7, s8, s9, s10, s11⟩ := hSw; go_simp⟩) hHeld ?_
        simp only [tkS, Act.put]
        refine tkH 24 (.bool false) rfl (Or.inl ⟨by kernel_rfl, by intro w hSw; obtain ⟨s0, s1, s2, s3, s4, s5, s6, s7, s8, s9, s10, s11⟩ := hSw; go_simp⟩) hHeld ?_
        simp only [tkS, Act.put]
        refine tkH 25 (undef) rfl (Or.inr ⟨by kernel_rfl, rfl⟩) hHeld ?_
        simp only [tkS, Act.put]
        refine tkH 26 (undef) rfl (Or.inr ⟨by kernel_rfl, rfl⟩) hHeld ?_
        simp only [tkS, Act.put]
        refine tkH 27 (undef) rfl (Or.inr ⟨by kernel_rfl, rfl⟩) hHeld ?_
        simp only [tkS, Act.put]
        refine wpAnyH_ready (rs := [28]) (by kernel_rfl) (by simp) ?_
        refine AllReadyH.cons rfl (fun K hK => ?_) AllReadyH.nil
        go_simp
        refine hK.out _ _ (HF.out _ hB) (fun hHeld => ?_)
        clear hK K
        refine wpAnyH_ready (rs := [29]) (by kernel_rfl) (by simp) ?_
        refine AllReadyH.cons rfl (fun K hK => ?_) AllReadyH.nil
        go_simp
        refine hK.out _ _ (HF.out _ hB) (fun hHeld => ?_)
        clear hK K
        refine tkH 30 (.bool false) rfl (Or.inl ⟨by kernel_rfl, by intro w hSw; obtain ⟨s0, s1, s2, s3, s4, s5, s6, s7, s8, s9, s10, s11⟩ := hSw; go_simp⟩) hHeld ?_
        simp only [tkS, Act.put]
        refine tkH 31 (.bool false) rfl (Or.inl ⟨by kernel_rfl, by intro w hSw; obtain ⟨s0, s1, s2, s3, s4, s5, s6, s7, s8, s9, s10, s11⟩ := hSw; go_simp⟩) hHeld ?_
        simp only [tkS, Act.put]
        refine tkH 32 (undef) rfl (Or.inr ⟨by kernel_rfl, rfl⟩) hHeld ?_
        simp only [tkS, Act.put]
        refine wpAnyH_ready (rs := [33]) (by kernel_rfl) (by simp) ?_
        refine AllReadyH.cons rfl (fun K hK => ?_) AllReadyH.nil
        go_simp
        refine hK.out _ _ (HF.out _ hB) (fun hHeld => ?_)
        clear hK K
        refine tkH 34 (.bool false) rfl (Or.inl ⟨by kernel_rfl, by intro w hSw; obtain ⟨s0, s1, s2, s3, s4, s5, s6, s7, s8, s9, s10, s11⟩ := hSw; go_simp⟩) hHeld ?_
        simp only [tkS, Act.put]
        refine tkH 35 (.bool false) rfl (Or.inl ⟨by kernel_rfl, by intro w hSw; obtain ⟨s0, s1, s2, s3, s4, s5, s6, s7, s8, s9, s10, s11⟩ := hSw; go_simp⟩) hHeld ?_
        simp only [tkS, Act.put]
        refine wpAnyH_done (by kernel_rfl) ?_ _
        go_wp2_with fail
        go_ret
        exact ⟨rfl, below_seq (below_alloc _ _) hB⟩
      · rw [decide_eq_true (by omega : o ≤ 100), Bool.true_and]
        rw [decide_eq_true (by omega : o ≤ 100)] at hI
        by_cases h4 : u < 0
        · rw [decide_eq_false (by omega), Bool.false_and]
          go_enter Tryz.func39, Tryz.ntmps39
          go_wp2_with fail
          refine wp_region_held_drew (S := fun w' => w'.cell? ⟨w.heap.size, 0, none⟩ = some (.int .i64 a) ∧ w'.cell? ⟨w.heap.size, 1, none⟩ = some (.int .i64 s) ∧ w'.cell? ⟨w.heap.size, 2, none⟩ = some (.int .i64 t) ∧ w'.cell? ⟨w.heap.size, 3, none⟩ = some (dv) ∧ w'.cell? ⟨w.heap.size, 4, none⟩ = some (.int .i64 k) ∧ w'.cell? ⟨w.heap.size, 5, none⟩ = some (.int .i64 o) ∧ w'.cell? ⟨w.heap.size, 6, none⟩ = some (.int .i64 n) ∧ w'.cell? ⟨w.heap.size, 7, none⟩ = some (.int .i64 u) ∧ w'.cell? ⟨w.heap.size, 8, none⟩ = some (.int .i64 pt) ∧ w'.cell? ⟨w.heap.size, 9, none⟩ = some (.int .i64 pa) ∧ w'.cell? ⟨w.heap.size, 10, none⟩ = some (.string ky) ∧ w'.cell? ⟨w.heap.size, 11, none⟩ = some (.string tx)) (by kernel_rfl) (HF.out _ hB) (fun hHeld => ?_)
          refine tkH 0 (.agg #[.int .i64 a, .int .i64 s, .int .i64 t, dv, .int .i64 k, .int .i64 o, .int .i64 n, .int .i64 u, .int .i64 pt, .int .i64 pa, .string ky, .string tx]) rfl (Or.inl ⟨by kernel_rfl, by intro w hSw; obtain ⟨s0, s1, s2, s3, s4, s5, s6, s7, s8, s9, s10, s11⟩ := hSw; go_simp⟩) hHeld ?_
          simp only [tkS, Act.put]
          refine wpAnyH_ready (rs := [1]) (by kernel_rfl) (by simp) ?_
          refine AllReadyH.cons rfl (fun K hK => ?_) AllReadyH.nil
          go_simp
          refine (hA _ hB).mono ?_
          rintro e wn ⟨rfl, hbn⟩
          replace hB := below_seq hB hbn
          clear hbn
          go_wp2_with fail
          refine hK.out _ _ (HF.out _ hB) (fun hHeld => ?_)
          clear hK K
          refine tkH 2 (.bool true) rfl (Or.inl ⟨by kernel_rfl, by intro w hSw; obtain ⟨s0, s1, s2, s3, s4, s5, s6, s7, s8, s9, s10, s11⟩ := hSw; go_simp⟩) hHeld ?_
          simp only [tkS, Act.put]
          refine tkH 3 (.pointer (some ⟨w.heap.size, 5, none⟩)) rfl (Or.inl ⟨by kernel_rfl, by intro w hSw; obtain ⟨s0, s1, s2, s3, s4, s5, s6, s7, s8, s9, s10, s11⟩ := hSw; go_simp⟩) hHeld ?_
          simp only [tkS, Act.put]
          refine tkH 4 (.int .i64 o) rfl (Or.inl ⟨by kernel_rfl, by intro w hSw; obtain ⟨s0, s1, s2, s3, s4, s5, s6, s7, s8, s9, s10, s11⟩ := hSw; go_simp⟩) hHeld ?_
          simp only [tkS, Act.put]
          refine wpAnyH_ready (rs := [5]) (by kernel_rfl) (by simp) ?_
          refine AllReadyH.cons rfl (fun K hK => ?_) AllReadyH.nil
          go_simp
          refine (hI _).mono ?_
          rintro e wn ⟨rfl, hbn⟩
          replace hB := below_seq hB hbn
          clear hbn
          go_wp2_with fail
          refine hK.out _ _ (HF.out _ hB) (fun hHeld => ?_)
          clear hK K
          refine tkH 6 (.bool true) rfl (Or.inl ⟨by kernel_rfl, by intro w hSw; obtain ⟨s0, s1, s2, s3, s4, s5, s6, s7, s8, s9, s10, s11⟩ := hSw; go_simp⟩) hHeld ?_
          simp only [tkS, Act.put]
          refine tkH 7 (.bool true) rfl (Or.inl ⟨by kernel_rfl, by intro w hSw; obtain ⟨s0, s1, s2, s3, s4, s5, s6, s7, s8, s9, s10, s11⟩ := hSw; go_simp⟩) hHeld ?_
          simp only [tkS, Act.put]
          refine tkH 8 (.pointer (some ⟨w.heap.size, 7, none⟩)) rfl (Or.inl ⟨by kernel_rfl, by intro w hSw; obtain ⟨s0, s1, s2, s3, s4, s5, s6, s7, s8, s9, s10, s11⟩ := hSw; go_simp⟩) hHeld ?_
          simp only [tkS, Act.put]
          refine tkH 9 (.int .i64 u) rfl (Or.inl ⟨by kernel_rfl, by intro w hSw; obtain ⟨s0, s1, s2, s3, s4, s5, s6, s7, s8, s9, s10, s11⟩ := hSw; go_simp⟩) hHeld ?_
          simp only [tkS, Act.put]
          refine tkH 10 (.bool false) rfl (Or.inl ⟨by kernel_rfl, by intro w hSw; obtain ⟨s0, s1, s2, s3, s4, s5, s6, s7, s8, s9, s10, s11⟩ := hSw; go_simp⟩) hHeld ?_
          simp only [tkS, Act.put]
          refine tkH 11 (.bool false) rfl (Or.inl ⟨by kernel_rfl, by intro w hSw; obtain ⟨s0, s1, s2, s3, s4, s5, s6, s7, s8, s9, s10, s11⟩ := hSw; go_simp⟩) hHeld ?_
          simp only [tkS, Act.put]
          refine tkH 12 (.bool false) rfl (Or.inl ⟨by kernel_rfl, by intro w hSw; obtain ⟨s0, s1, s2, s3, s4, s5, s6, s7, s8, s9, s10, s11⟩ := hSw; go_simp⟩) hHeld ?_
          simp only [tkS, Act.put]
          refine tkH 13 (undef) rfl (Or.inr ⟨by kernel_rfl, rfl⟩) hHeld ?_
          simp only [tkS, Act.put]
          refine tkH 14 (undef) rfl (Or.inr ⟨by kernel_rfl, rfl⟩) hHeld ?_
          simp only [tkS, Act.put]
          refine tkH 15 (undef) rfl (Or.inr ⟨by kernel_rfl, rfl⟩) hHeld ?_
          simp only [tkS, Act.put]
          refine tkH 16 (undef) rfl (Or.inr ⟨by kernel_rfl, rfl⟩) hHeld ?_
          simp only [tkS, Act.put]
          refine tkH 17 (undef) rfl (Or.inr ⟨by kernel_rfl, rfl⟩) hHeld ?_
          simp only [tkS, Act.put]
          refine tkH 18 (.bool false) rfl (Or.inl ⟨by kernel_rfl, by intro w hSw; obtain ⟨s0, s1, s2, s3, s4, s5, s6, s7, s8, s9, s10, s11⟩ := hSw; go_simp⟩) hHeld ?_
          simp only [tkS, Act.put]
          refine tkH 19 (.bool false) rfl (Or.inl ⟨by kernel_rfl, by intro w hSw; obtain ⟨s0, s1, s2, s3, s4, s5, s6, s7, s8, s9, s10, s11⟩ := hSw; go_simp⟩) hHeld ?_
          simp only [tkS, Act.put]
          refine tkH 20 (undef) rfl (Or.inr ⟨by kernel_rfl, rfl⟩) hHeld ?_
          simp only [tkS, Act.put]
          refine tkH 21 (undef) rfl (Or.inr ⟨by kernel_rfl, rfl⟩) hHeld ?_
          simp only [tkS, Act.put]
          refine wpAnyH_ready (rs := [22]) (by kernel_rfl) (by simp) ?_
          refine AllReadyH.cons rfl (fun K hK => ?_) AllReadyH.nil
          go_simp
          refine hK.out _ _ (HF.out _ hB) (fun hHeld => ?_)
          clear hK K
          refine tkH 23 (.bool false) rfl (Or.inl ⟨by kernel_rfl, by intro w hSw; obtain ⟨s0, s1, s2, s3, s4, s5, s6, s7, s8, s9, s10, s11⟩ := hSw; go_simp⟩) hHeld ?_
          simp only [tkS, Act.put]
          refine tkH 24 (.bool false) rfl (Or.inl ⟨by kernel_rfl, by intro w hSw; obtain ⟨s0, s1, s2, s3, s4, s5, s6, s7, s8, s9, s10, s11⟩ := hSw; go_simp⟩) hHeld ?_
          simp only [tkS, Act.put]
          refine tkH 25 (undef) rfl (Or.inr ⟨by kernel_rfl, rfl⟩) hHeld ?_
          simp only [tkS, Act.put]
          refine tkH 26 (undef) rfl (Or.inr ⟨by kernel_rfl, rfl⟩) hHeld ?_
          simp only [tkS, Act.put]
          refine tkH 27 (undef) rfl (Or.inr ⟨by kernel_rfl, rfl⟩) hHeld ?_
          simp only [tkS, Act.put]
          refine wpAnyH_ready (rs := [28]) (by kernel_rfl) (by simp) ?_
          refine AllReadyH.cons rfl (fun K hK => ?_) AllReadyH.nil
          go_simp
          refine hK.out _ _ (HF.out _ hB) (fun hHeld => ?_)
          clear hK K
          refine wpAnyH_ready (rs := [29]) (by kernel_rfl) (by simp) ?_
          refine AllReadyH.cons rfl (fun K hK => ?_) AllReadyH.nil
          go_simp
          refine hK.out _ _ (HF.out _ hB) (fun hHeld => ?_)
          clear hK K
          refine tkH 30 (.bool false) rfl (Or.inl ⟨by kernel_rfl, by intro w hSw; obtain ⟨s0, s1, s2, s3, s4, s5, s6, s7, s8, s9, s10, s11⟩ := hSw; go_simp⟩) hHeld ?_
          simp only [tkS, Act.put]
          refine tkH 31 (.bool false) rfl (Or.inl ⟨by kernel_rfl, by intro w hSw; obtain ⟨s0, s1, s2, s3, s4, s5, s6, s7, s8, s9, s10, s11⟩ := hSw; go_simp⟩) hHeld ?_
          simp only [tkS, Act.put]
          refine tkH 32 (undef) rfl (Or.inr ⟨by kernel_rfl, rfl⟩) hHeld ?_
          simp only [tkS, Act.put]
          refine wpAnyH_ready (rs := [33]) (by kernel_rfl) (by simp) ?_
          refine AllReadyH.cons rfl (fun K hK => ?_) AllReadyH.nil
          go_simp
          refine hK.out _ _ (HF.out _ hB) (fun hHeld => ?_)
          clear hK K
          refine tkH 34 (.bool false) rfl (Or.inl ⟨by kernel_rfl, by intro w hSw; obtain ⟨s0, s1, s2, s3, s4, s5, s6, s7, s8, s9, s10, s11⟩ := hSw; go_simp⟩) hHeld ?_
          simp only [tkS, Act.put]
          refine tkH 35 (.bool false) rfl (Or.inl ⟨by kernel_rfl, by intro w hSw; obtain ⟨s0, s1, s2, s3, s4, s5, s6, s7, s8, s9, s10, s11⟩ := hSw; go_simp⟩) hHeld ?_
          simp only [tkS, Act.put]
          refine wpAnyH_done (by kernel_rfl) ?_ _
          go_wp2_with fail
          go_ret
          exact ⟨rfl, below_seq (below_alloc _ _) hB⟩
        · rw [decide_eq_true (by omega : 0 ≤ u), Bool.true_and]
          by_cases h5 : u < s
          · rw [decide_eq_true h5, Bool.true_and]
            cases h6 : okS pt pa with
            | false =>
              rw [h6] at hN
              clear h6
              rw [Bool.false_and]
              go_enter Tryz.func39, Tryz.ntmps39
              go_wp2_with fail
              refine wp_region_held_drew (S := fun w' => w'.cell? ⟨w.heap.size, 0, none⟩ = some (.int .i64 a) ∧ w'.cell? ⟨w.heap.size, 1, none⟩ = some (.int .i64 s) ∧ w'.cell? ⟨w.heap.size, 2, none⟩ = some (.int .i64 t) ∧ w'.cell? ⟨w.heap.size, 3, none⟩ = some (dv) ∧ w'.cell? ⟨w.heap.size, 4, none⟩ = some (.int .i64 k) ∧ w'.cell? ⟨w.heap.size, 5, none⟩ = some (.int .i64 o) ∧ w'.cell? ⟨w.heap.size, 6, none⟩ = some (.int .i64 n) ∧ w'.cell? ⟨w.heap.size, 7, none⟩ = some (.int .i64 u) ∧ w'.cell? ⟨w.heap.size, 8, none⟩ = some (.int .i64 pt) ∧ w'.cell? ⟨w.heap.size, 9, none⟩ = some (.int .i64 pa) ∧ w'.cell? ⟨w.heap.size, 10, none⟩ = some (.string ky) ∧ w'.cell? ⟨w.heap.size, 11, none⟩ = some (.string tx)) (by kernel_rfl) (HF.out _ hB) (fun hHeld => ?_)
              refine tkH 0 (.agg #[.int .i64 a, .int .i64 s, .int .i64 t, dv, .int .i64 k, .int .i64 o, .int .i64 n, .int .i64 u, .int .i64 pt, .int .i64 pa, .string ky, .string tx]) rfl (Or.inl ⟨by kernel_rfl, by intro w hSw; obtain ⟨s0, s1, s2, s3, s4, s5, s6, s7, s8, s9, s10, s11⟩ := hSw; go_simp⟩) hHeld ?_
              simp only [tkS, Act.put]
              refine wpAnyH_ready (rs := [1]) (by kernel_rfl) (by simp) ?_
              refine AllReadyH.cons rfl (fun K hK => ?_) AllReadyH.nil
              go_simp
              refine (hA _ hB).mono ?_
              rintro e wn ⟨rfl, hbn⟩
              replace hB := below_seq hB hbn
              clear hbn
              go_wp2_with fail
              refine hK.out _ _ (HF.out _ hB) (fun hHeld => ?_)
              clear hK K
              refine tkH 2 (.bool true) rfl (Or.inl ⟨by kernel_rfl, by intro w hSw; obtain ⟨s0, s1, s2, s3, s4, s5, s6, s7, s8, s9, s10, s11⟩ := hSw; go_simp⟩) hHeld ?_
              simp only [tkS, Act.put]
              refine tkH 3 (.pointer (some ⟨w.heap.size, 5, none⟩)) rfl (Or.inl ⟨by kernel_rfl, by intro w hSw; obtain ⟨s0, s1, s2, s3, s4, s5, s6, s7, s8, s9, s10, s11⟩ := hSw; go_simp⟩) hHeld ?_
              simp only [tkS, Act.put]
              refine tkH 4 (.int .i64 o) rfl (Or.inl ⟨by kernel_rfl, by intro w hSw; obtain ⟨s0, s1, s2, s3, s4, s5, s6, s7, s8, s9, s10, s11⟩ := hSw; go_simp⟩) hHeld ?_
              simp only [tkS, Act.put]
              refine wpAnyH_ready (rs := [5]) (by kernel_rfl) (by simp) ?_
              refine AllReadyH.cons rfl (fun K hK => ?_) AllReadyH.nil
              go_simp
              refine (hI _).mono ?_
              rintro e wn ⟨rfl, hbn⟩
              replace hB := below_seq hB hbn
              clear hbn
              go_wp2_with fail
              refine hK.out _ _ (HF.out _ hB) (fun hHeld => ?_)
              clear hK K
              refine tkH 6 (.bool true) rfl (Or.inl ⟨by kernel_rfl, by intro w hSw; obtain ⟨s0, s1, s2, s3, s4, s5, s6, s7, s8, s9, s10, s11⟩ := hSw; go_simp⟩) hHeld ?_
              simp only [tkS, Act.put]
              refine tkH 7 (.bool true) rfl (Or.inl ⟨by kernel_rfl, by intro w hSw; obtain ⟨s0, s1, s2, s3, s4, s5, s6, s7, s8, s9, s10, s11⟩ := hSw; go_simp⟩) hHeld ?_
              simp only [tkS, Act.put]
              refine tkH 8 (.pointer (some ⟨w.heap.size, 7, none⟩)) rfl (Or.inl ⟨by kernel_rfl, by intro w hSw; obtain ⟨s0, s1, s2, s3, s4, s5, s6, s7, s8, s9, s10, s11⟩ := hSw; go_simp⟩) hHeld ?_
              simp only [tkS, Act.put]
              refine tkH 9 (.int .i64 u) rfl (Or.inl ⟨by kernel_rfl, by intro w hSw; obtain ⟨s0, s1, s2, s3, s4, s5, s6, s7, s8, s9, s10, s11⟩ := hSw; go_simp⟩) hHeld ?_
              simp only [tkS, Act.put]
              refine tkH 10 (.bool true) rfl (Or.inl ⟨by kernel_rfl, by intro w hSw; obtain ⟨s0, s1, s2, s3, s4, s5, s6, s7, s8, s9, s10, s11⟩ := hSw; go_simp⟩) hHeld ?_
              simp only [tkS, Act.put]
              refine tkH 11 (.bool true) rfl (Or.inl ⟨by kernel_rfl, by intro w hSw; obtain ⟨s0, s1, s2, s3, s4, s5, s6, s7, s8, s9, s10, s11⟩ := hSw; go_simp⟩) hHeld ?_
              simp only [tkS, Act.put]
              refine tkH 12 (.bool true) rfl (Or.inl ⟨by kernel_rfl, by intro w hSw; obtain ⟨s0, s1, s2, s3, s4, s5, s6, s7, s8, s9, s10, s11⟩ := hSw; go_simp⟩) hHeld ?_
              simp only [tkS, Act.put]
              refine tkH 13 (.pointer (some ⟨w.heap.size, 7, none⟩)) rfl (Or.inl ⟨by kernel_rfl, by intro w hSw; obtain ⟨s0, s1, s2, s3, s4, s5, s6, s7, s8, s9, s10, s11⟩ := hSw; go_simp⟩) hHeld ?_
              simp only [tkS, Act.put]
              refine tkH 14 (.int .i64 u) rfl (Or.inl ⟨by kernel_rfl, by intro w hSw; obtain ⟨s0, s1, s2, s3, s4, s5, s6, s7, s8, s9, s10, s11⟩ := hSw; go_simp⟩) hHeld ?_
              simp only [tkS, Act.put]
              refine tkH 15 (.pointer (some ⟨w.heap.size, 1, none⟩)) rfl (Or.inl ⟨by kernel_rfl, by intro w hSw; obtain ⟨s0, s1, s2, s3, s4, s5, s6, s7, s8, s9, s10, s11⟩ := hSw; go_simp⟩) hHeld ?_
              simp only [tkS, Act.put]
              refine tkH 16 (.int .i64 s) rfl (Or.inl ⟨by kernel_rfl, by intro w hSw; obtain ⟨s0, s1, s2, s3, s4, s5, s6, s7, s8, s9, s10, s11⟩ := hSw; go_simp⟩) hHeld ?_
              simp only [tkS, Act.put]
              refine tkH 17 (.bool true) rfl (Or.inl ⟨by kernel_rfl, by intro w hSw; obtain ⟨s0, s1, s2, s3, s4, s5, s6, s7, s8, s9, s10, s11⟩ := hSw; go_simp⟩) hHeld ?_
              simp only [tkS, Act.put]
              refine tkH 18 (.bool true) rfl (Or.inl ⟨by kernel_rfl, by intro w hSw; obtain ⟨s0, s1, s2, s3, s4, s5, s6, s7, s8, s9, s10, s11⟩ := hSw; go_simp⟩) hHeld ?_
              simp only [tkS, Act.put]
              refine tkH 19 (.bool true) rfl (Or.inl ⟨by kernel_rfl, by intro w hSw; obtain ⟨s0, s1, s2, s3, s4, s5, s6, s7, s8, s9, s10, s11⟩ := hSw; go_simp⟩) hHeld ?_
              simp only [tkS, Act.put]
              refine tkH 20 (.pointer (some ⟨w.heap.size, 8, none⟩)) rfl (Or.inl ⟨by kernel_rfl, by intro w hSw; obtain ⟨s0, s1, s2, s3, s4, s5, s6, s7, s8, s9, s10, s11⟩ := hSw; go_simp⟩) hHeld ?_
              simp only [tkS, Act.put]
              refine tkH 21 (.agg #[.int .i64 pt, .int .i64 pa]) rfl (Or.inl ⟨by kernel_rfl, by intro w hSw; obtain ⟨s0, s1, s2, s3, s4, s5, s6, s7, s8, s9, s10, s11⟩ := hSw; go_simp⟩) hHeld ?_
              simp only [tkS, Act.put]
              refine wpAnyH_ready (rs := [22]) (by kernel_rfl) (by simp) ?_
              refine AllReadyH.cons rfl (fun K hK => ?_) AllReadyH.nil
              go_simp
              refine (hN _).mono ?_
              rintro e wn ⟨rfl, hbn⟩
              replace hB := below_seq hB hbn
              clear hbn
              go_wp2_with fail
              refine hK.out _ _ (HF.out _ hB) (fun hHeld => ?_)
              clear hK K
              refine tkH 23 (.bool false) rfl (Or.inl ⟨by kernel_rfl, by intro w hSw; obtain ⟨s0, s1, s2, s3, s4, s5, s6, s7, s8, s9, s10, s11⟩ := hSw; go_simp⟩) hHeld ?_
              simp only [tkS, Act.put]
              refine tkH 24 (.bool false) rfl (Or.inl ⟨by kernel_rfl, by intro w hSw; obtain ⟨s0, s1, s2, s3, s4, s5, s6, s7, s8, s9, s10, s11⟩ := hSw; go_simp⟩) hHeld ?_
              simp only [tkS, Act.put]
              refine tkH 25 (undef) rfl (Or.inr ⟨by kernel_rfl, rfl⟩) hHeld ?_
              simp only [tkS, Act.put]
              refine tkH 26 (undef) rfl (Or.inr ⟨by kernel_rfl, rfl⟩) hHeld ?_
              simp only [tkS, Act.put]
              refine tkH 27 (undef) rfl (Or.inr ⟨by kernel_rfl, rfl⟩) hHeld ?_
              simp only [tkS, Act.put]
              refine wpAnyH_ready (rs := [28]) (by kernel_rfl) (by simp) ?_
              refine AllReadyH.cons rfl (fun K hK => ?_) AllReadyH.nil
              go_simp
              refine hK.out _ _ (HF.out _ hB) (fun hHeld => ?_)
              clear hK K
              refine wpAnyH_ready (rs := [29]) (by kernel_rfl) (by simp) ?_
              refine AllReadyH.cons rfl (fun K hK => ?_) AllReadyH.nil
              go_simp
              refine hK.out _ _ (HF.out _ hB) (fun hHeld => ?_)
              clear hK K
              refine tkH 30 (.bool false) rfl (Or.inl ⟨by kernel_rfl, by intro w hSw; obtain ⟨s0, s1, s2, s3, s4, s5, s6, s7, s8, s9, s10, s11⟩ := hSw; go_simp⟩) hHeld ?_
              simp only [tkS, Act.put]
              refine tkH 31 (.bool false) rfl (Or.inl ⟨by kernel_rfl, by intro w hSw; obtain ⟨s0, s1, s2, s3, s4, s5, s6, s7, s8, s9, s10, s11⟩ := hSw; go_simp⟩) hHeld ?_
              simp only [tkS, Act.put]
              refine tkH 32 (undef) rfl (Or.inr ⟨by kernel_rfl, rfl⟩) hHeld ?_
              simp only [tkS, Act.put]
              refine wpAnyH_ready (rs := [33]) (by kernel_rfl) (by simp) ?_
              refine AllReadyH.cons rfl (fun K hK => ?_) AllReadyH.nil
              go_simp
              refine hK.out _ _ (HF.out _ hB) (fun hHeld => ?_)
              clear hK K
              refine tkH 34 (.bool false) rfl (Or.inl ⟨by kernel_rfl, by intro w hSw; obtain ⟨s0, s1, s2, s3, s4, s5, s6, s7, s8, s9, s10, s11⟩ := hSw; go_simp⟩) hHeld ?_
              simp only [tkS, Act.put]
              refine tkH 35 (.bool false) rfl (Or.inl ⟨by kernel_rfl, by intro w hSw; obtain ⟨s0, s1, s2, s3, s4, s5, s6, s7, s8, s9, s10, s11⟩ := hSw; go_simp⟩) hHeld ?_
              simp only [tkS, Act.put]
              refine wpAnyH_done (by kernel_rfl) ?_ _
              go_wp2_with fail
              go_ret
              exact ⟨rfl, below_seq (below_alloc _ _) hB⟩
            | true =>
              rw [h6] at hN
              clear h6
              rw [Bool.true_and]
              cases h7 : lessS pt pa t a with
              | false =>
                rw [h7] at hL
                clear h7
                rw [Bool.false_and]
                go_enter Tryz.func39, Tryz.ntmps39
                go_wp2_with fail
                refine wp_region_held_drew (S := fun w' => w'.cell? ⟨w.heap.size, 0, none⟩ = some (.int .i64 a) ∧ w'.cell? ⟨w.heap.size, 1, none⟩ = some (.int .i64 s) ∧ w'.cell? ⟨w.heap.size, 2, none⟩ = some (.int .i64 t) ∧ w'.cell? ⟨w.heap.size, 3, none⟩ = some (dv) ∧ w'.cell? ⟨w.heap.size, 4, none⟩ = some (.int .i64 k) ∧ w'.cell? ⟨w.heap.size, 5, none⟩ = some (.int .i64 o) ∧ w'.cell? ⟨w.heap.size, 6, none⟩ = some (.int .i64 n) ∧ w'.cell? ⟨w.heap.size, 7, none⟩ = some (.int .i64 u) ∧ w'.cell? ⟨w.heap.size, 8, none⟩ = some (.int .i64 pt) ∧ w'.cell? ⟨w.heap.size, 9, none⟩ = some (.int .i64 pa) ∧ w'.cell? ⟨w.heap.size, 10, none⟩ = some (.string ky) ∧ w'.cell? ⟨w.heap.size, 11, none⟩ = some (.string tx)) (by kernel_rfl) (HF.out _ hB) (fun hHeld => ?_)
                refine tkH 0 (.agg #[.int .i64 a, .int .i64 s, .int .i64 t, dv, .int .i64 k, .int .i64 o, .int .i64 n, .int .i64 u, .int .i64 pt, .int .i64 pa, .string ky, .string tx]) rfl (Or.inl ⟨by kernel_rfl, by intro w hSw; obtain ⟨s0, s1, s2, s3, s4, s5, s6, s7, s8, s9, s10, s11⟩ := hSw; go_simp⟩) hHeld ?_
                simp only [tkS, Act.put]
                refine wpAnyH_ready (rs := [1]) (by kernel_rfl) (by simp) ?_
                refine AllReadyH.cons rfl (fun K hK => ?_) AllReadyH.nil
                go_simp
                refine (hA _ hB).mono ?_
                rintro e wn ⟨rfl, hbn⟩
                replace hB := below_seq hB hbn
                clear hbn
                go_wp2_with fail
                refine hK.out _ _ (HF.out _ hB) (fun hHeld => ?_)
                clear hK K
                refine tkH 2 (.bool true) rfl (Or.inl ⟨by kernel_rfl, by intro w hSw; obtain ⟨s0, s1, s2, s3, s4, s5, s6, s7, s8, s9, s10, s11⟩ := hSw; go_simp⟩) hHeld ?_
                simp only [tkS, Act.put]
                refine tkH 3 (.pointer (some ⟨w.heap.size, 5, none⟩)) rfl (Or.inl ⟨by kernel_rfl, by intro w hSw; obtain ⟨s0, s1, s2, s3, s4, s5, s6, s7, s8, s9, s10, s11⟩ := hSw; go_simp⟩) hHeld ?_
                simp only [tkS, Act.put]
                refine tkH 4 (.int .i64 o) rfl (Or.inl ⟨by kernel_rfl, by intro w hSw; obtain ⟨s0, s1, s2, s3, s4, s5, s6, s7, s8, s9, s10, s11⟩ := hSw; go_simp⟩) hHeld ?_
                simp only [tkS, Act.put]
                refine wpAnyH_ready (rs := [5]) (by kernel_rfl) (by simp) ?_
                refine AllReadyH.cons rfl (fun K hK => ?_) AllReadyH.nil
                go_simp
                refine (hI _).mono ?_
                rintro e wn ⟨rfl, hbn⟩
                replace hB := below_seq hB hbn
                clear hbn
                go_wp2_with fail
                refine hK.out _ _ (HF.out _ hB) (fun hHeld => ?_)
                clear hK K
                refine tkH 6 (.bool true) rfl (Or.inl ⟨by kernel_rfl, by intro w hSw; obtain ⟨s0, s1, s2, s3, s4, s5, s6, s7, s8, s9, s10, s11⟩ := hSw; go_simp⟩) hHeld ?_
                simp only [tkS, Act.put]
                refine tkH 7 (.bool true) rfl (Or.inl ⟨by kernel_rfl, by intro w hSw; obtain ⟨s0, s1, s2, s3, s4, s5, s6, s7, s8, s9, s10, s11⟩ := hSw; go_simp⟩) hHeld ?_
                simp only [tkS, Act.put]
                refine tkH 8 (.pointer (some ⟨w.heap.size, 7, none⟩)) rfl (Or.inl ⟨by kernel_rfl, by intro w hSw; obtain ⟨s0, s1, s2, s3, s4, s5, s6, s7, s8, s9, s10, s11⟩ := hSw; go_simp⟩) hHeld ?_
                simp only [tkS, Act.put]
                refine tkH 9 (.int .i64 u) rfl (Or.inl ⟨by kernel_rfl, by intro w hSw; obtain ⟨s0, s1, s2, s3, s4, s5, s6, s7, s8, s9, s10, s11⟩ := hSw; go_simp⟩) hHeld ?_
                simp only [tkS, Act.put]
                refine tkH 10 (.bool true) rfl (Or.inl ⟨by kernel_rfl, by intro w hSw; obtain ⟨s0, s1, s2, s3, s4, s5, s6, s7, s8, s9, s10, s11⟩ := hSw; go_simp⟩) hHeld ?_
                simp only [tkS, Act.put]
                refine tkH 11 (.bool true) rfl (Or.inl ⟨by kernel_rfl, by intro w hSw; obtain ⟨s0, s1, s2, s3, s4, s5, s6, s7, s8, s9, s10, s11⟩ := hSw; go_simp⟩) hHeld ?_
                simp only [tkS, Act.put]
                refine tkH 12 (.bool true) rfl (Or.inl ⟨by kernel_rfl, by intro w hSw; obtain ⟨s0, s1, s2, s3, s4, s5, s6, s7, s8, s9, s10, s11⟩ := hSw; go_simp⟩) hHeld ?_
                simp only [tkS, Act.put]
                refine tkH 13 (.pointer (some ⟨w.heap.size, 7, none⟩)) rfl (Or.inl ⟨by kernel_rfl, by intro w hSw; obtain ⟨s0, s1, s2, s3, s4, s5, s6, s7, s8, s9, s10, s11⟩ := hSw; go_simp⟩) hHeld ?_
                simp only [tkS, Act.put]
                refine tkH 14 (.int .i64 u) rfl (Or.inl ⟨by kernel_rfl, by intro w hSw; obtain ⟨s0, s1, s2, s3, s4, s5, s6, s7, s8, s9, s10, s11⟩ := hSw; go_simp⟩) hHeld ?_
                simp only [tkS, Act.put]
                refine tkH 15 (.pointer (some ⟨w.heap.size, 1, none⟩)) rfl (Or.inl ⟨by kernel_rfl, by intro w hSw; obtain ⟨s0, s1, s2, s3, s4, s5, s6, s7, s8, s9, s10, s11⟩ := hSw; go_simp⟩) hHeld ?_
                simp only [tkS, Act.put]
                refine tkH 16 (.int .i64 s) rfl (Or.inl ⟨by kernel_rfl, by intro w hSw; obtain ⟨s0, s1, s2, s3, s4, s5, s6, s7, s8, s9, s10, s11⟩ := hSw; go_simp⟩) hHeld ?_
                simp only [tkS, Act.put]
                refine tkH 17 (.bool true) rfl (Or.inl ⟨by kernel_rfl, by intro w hSw; obtain ⟨s0, s1, s2, s3, s4, s5, s6, s7, s8, s9, s10, s11⟩ := hSw; go_simp⟩) hHeld ?_
                simp only [tkS, Act.put]
                refine tkH 18 (.bool true) rfl (Or.inl ⟨by kernel_rfl, by intro w hSw; obtain ⟨s0, s1, s2, s3, s4, s5, s6, s7, s8, s9, s10, s11⟩ := hSw; go_simp⟩) hHeld ?_
                simp only [tkS, Act.put]
                refine tkH 19 (.bool true) rfl (Or.inl ⟨by kernel_rfl, by intro w hSw; obtain ⟨s0, s1, s2, s3, s4, s5, s6, s7, s8, s9, s10, s11⟩ := hSw; go_simp⟩) hHeld ?_
                simp only [tkS, Act.put]
                refine tkH 20 (.pointer (some ⟨w.heap.size, 8, none⟩)) rfl (Or.inl ⟨by kernel_rfl, by intro w hSw; obtain ⟨s0, s1, s2, s3, s4, s5, s6, s7, s8, s9, s10, s11⟩ := hSw; go_simp⟩) hHeld ?_
                simp only [tkS, Act.put]
                refine tkH 21 (.agg #[.int .i64 pt, .int .i64 pa]) rfl (Or.inl ⟨by kernel_rfl, by intro w hSw; obtain ⟨s0, s1, s2, s3, s4, s5, s6, s7, s8, s9, s10, s11⟩ := hSw; go_simp⟩) hHeld ?_
                simp only [tkS, Act.put]
                refine wpAnyH_ready (rs := [22]) (by kernel_rfl) (by simp) ?_
                refine AllReadyH.cons rfl (fun K hK => ?_) AllReadyH.nil
                go_simp
                refine (hN _).mono ?_
                rintro e wn ⟨rfl, hbn⟩
                replace hB := below_seq hB hbn
                clear hbn
                go_wp2_with fail
                refine hK.out _ _ (HF.out _ hB) (fun hHeld => ?_)
                clear hK K
                refine tkH 23 (.bool true) rfl (Or.inl ⟨by kernel_rfl, by intro w hSw; obtain ⟨s0, s1, s2, s3, s4, s5, s6, s7, s8, s9, s10, s11⟩ := hSw; go_simp⟩) hHeld ?_
                simp only [tkS, Act.put]
                refine tkH 24 (.bool true) rfl (Or.inl ⟨by kernel_rfl, by intro w hSw; obtain ⟨s0, s1, s2, s3, s4, s5, s6, s7, s8, s9, s10, s11⟩ := hSw; go_simp⟩) hHeld ?_
                simp only [tkS, Act.put]
                refine tkH 25 (.pointer (some ⟨w.heap.size, 8, none⟩)) rfl (Or.inl ⟨by kernel_rfl, by intro w hSw; obtain ⟨s0, s1, s2, s3, s4, s5, s6, s7, s8, s9, s10, s11⟩ := hSw; go_simp⟩) hHeld ?_
                simp only [tkS, Act.put]
                refine tkH 26 (.agg #[.int .i64 pt, .int .i64 pa]) rfl (Or.inl ⟨by kernel_rfl, by intro w hSw; obtain ⟨s0, s1, s2, s3, s4, s5, s6, s7, s8, s9, s10, s11⟩ := hSw; go_simp⟩) hHeld ?_
                simp only [tkS, Act.put]
                refine tkH 27 (.agg #[.int .i64 a, .int .i64 s, .int .i64 t, dv, .int .i64 k, .int .i64 o, .int .i64 n, .int .i64 u, .int .i64 pt, .int .i64 pa, .string ky, .string tx]) rfl (Or.inl ⟨by kernel_rfl, by intro w hSw; obtain ⟨s0, s1, s2, s3, s4, s5, s6, s7, s8, s9, s10, s11⟩ := hSw; go_simp⟩) hHeld ?_
                simp only [tkS, Act.put]
                refine wpAnyH_ready (rs := [28]) (by kernel_rfl) (by simp) ?_
                refine AllReadyH.cons rfl (fun K hK => ?_) AllReadyH.nil
                go_simp
                refine (opStamp_any _ _ _ _ _ _ _ _ _ _ _ _ _).mono ?_
                rintro e wn ⟨rfl, hbn⟩
                replace hB := below_seq hB hbn
                clear hbn
                go_wp2_with fail
                refine hK.out _ _ (HF.out _ hB) (fun hHeld => ?_)
                clear hK K
                refine wpAnyH_ready (rs := [29]) (by kernel_rfl) (by simp) ?_
                refine AllReadyH.cons rfl (fun K hK => ?_) AllReadyH.nil
                go_simp
                refine (hL _).mono ?_
                rintro e wn ⟨rfl, hbn⟩
                replace hB := below_seq hB hbn
                clear hbn
                go_wp2_with fail
                refine hK.out _ _ (HF.out _ hB) (fun hHeld => ?_)
                clear hK K
                refine tkH 30 (.bool false) rfl (Or.inl ⟨by kernel_rfl, by intro w hSw; obtain ⟨s0, s1, s2, s3, s4, s5, s6, s7, s8, s9, s10, s11⟩ := hSw; go_simp⟩) hHeld ?_
                simp only [tkS, Act.put]
                refine tkH 31 (.bool false) rfl (Or.inl ⟨by kernel_rfl, by intro w hSw; obtain ⟨s0, s1, s2, s3, s4, s5, s6, s7, s8, s9, s10, s11⟩ := hSw; go_simp⟩) hHeld ?_
                simp only [tkS, Act.put]
                refine tkH 32 (undef) rfl (Or.inr ⟨by kernel_rfl, rfl⟩) hHeld ?_
                simp only [tkS, Act.put]
                refine wpAnyH_ready (rs := [33]) (by kernel_rfl) (by simp) ?_
                refine AllReadyH.cons rfl (fun K hK => ?_) AllReadyH.nil
                go_simp
                refine hK.out _ _ (HF.out _ hB) (fun hHeld => ?_)
                clear hK K
                refine tkH 34 (.bool false) rfl (Or.inl ⟨by kernel_rfl, by intro w hSw; obtain ⟨s0, s1, s2, s3, s4, s5, s6, s7, s8, s9, s10, s11⟩ := hSw; go_simp⟩) hHeld ?_
                simp only [tkS, Act.put]
                refine tkH 35 (.bool false) rfl (Or.inl ⟨by kernel_rfl, by intro w hSw; obtain ⟨s0, s1, s2, s3, s4, s5, s6, s7, s8, s9, s10, s11⟩ := hSw; go_simp⟩) hHeld ?_
                simp only [tkS, Act.put]
                refine wpAnyH_done (by kernel_rfl) ?_ _
                go_wp2_with fail
                go_ret
                exact ⟨rfl, below_seq (below_alloc _ _) hB⟩
              | true =>
                rw [h7] at hL
                clear h7
                rw [Bool.true_and]
                go_enter Tryz.func39, Tryz.ntmps39
                go_wp2_with fail
                refine wp_region_held_drew (S := fun w' => w'.cell? ⟨w.heap.size, 0, none⟩ = some (.int .i64 a) ∧ w'.cell? ⟨w.heap.size, 1, none⟩ = some (.int .i64 s) ∧ w'.cell? ⟨w.heap.size, 2, none⟩ = some (.int .i64 t) ∧ w'.cell? ⟨w.heap.size, 3, none⟩ = some (dv) ∧ w'.cell? ⟨w.heap.size, 4, none⟩ = some (.int .i64 k) ∧ w'.cell? ⟨w.heap.size, 5, none⟩ = some (.int .i64 o) ∧ w'.cell? ⟨w.heap.size, 6, none⟩ = some (.int .i64 n) ∧ w'.cell? ⟨w.heap.size, 7, none⟩ = some (.int .i64 u) ∧ w'.cell? ⟨w.heap.size, 8, none⟩ = some (.int .i64 pt) ∧ w'.cell? ⟨w.heap.size, 9, none⟩ = some (.int .i64 pa) ∧ w'.cell? ⟨w.heap.size, 10, none⟩ = some (.string ky) ∧ w'.cell? ⟨w.heap.size, 11, none⟩ = some (.string tx)) (by kernel_rfl) (HF.out _ hB) (fun hHeld => ?_)
                refine tkH 0 (.agg #[.int .i64 a, .int .i64 s, .int .i64 t, dv, .int .i64 k, .int .i64 o, .int .i64 n, .int .i64 u, .int .i64 pt, .int .i64 pa, .string ky, .string tx]) rfl (Or.inl ⟨by kernel_rfl, by intro w hSw; obtain ⟨s0, s1, s2, s3, s4, s5, s6, s7, s8, s9, s10, s11⟩ := hSw; go_simp⟩) hHeld ?_
                simp only [tkS, Act.put]
                refine wpAnyH_ready (rs := [1]) (by kernel_rfl) (by simp) ?_
                refine AllReadyH.cons rfl (fun K hK => ?_) AllReadyH.nil
                go_simp
                refine (hA _ hB).mono ?_
                rintro e wn ⟨rfl, hbn⟩
                replace hB := below_seq hB hbn
                clear hbn
                go_wp2_with fail
                refine hK.out _ _ (HF.out _ hB) (fun hHeld => ?_)
                clear hK K
                refine tkH 2 (.bool true) rfl (Or.inl ⟨by kernel_rfl, by intro w hSw; obtain ⟨s0, s1, s2, s3, s4, s5, s6, s7, s8, s9, s10, s11⟩ := hSw; go_simp⟩) hHeld ?_
                simp only [tkS, Act.put]
                refine tkH 3 (.pointer (some ⟨w.heap.size, 5, none⟩)) rfl (Or.inl ⟨by kernel_rfl, by intro w hSw; obtain ⟨s0, s1, s2, s3, s4, s5, s6, s7, s8, s9, s10, s11⟩ := hSw; go_simp⟩) hHeld ?_
                simp only [tkS, Act.put]
                refine tkH 4 (.int .i64 o) rfl (Or.inl ⟨by kernel_rfl, by intro w hSw; obtain ⟨s0, s1, s2, s3, s4, s5, s6, s7, s8, s9, s10, s11⟩ := hSw; go_simp⟩) hHeld ?_
                simp only [tkS, Act.put]
                refine wpAnyH_ready (rs := [5]) (by kernel_rfl) (by simp) ?_
                refine AllReadyH.cons rfl (fun K hK => ?_) AllReadyH.nil
                go_simp
                refine (hI _).mono ?_
                rintro e wn ⟨rfl, hbn⟩
                replace hB := below_seq hB hbn
                clear hbn
                go_wp2_with fail
                refine hK.out _ _ (HF.out _ hB) (fun hHeld => ?_)
                clear hK K
                refine tkH 6 (.bool true) rfl (Or.inl ⟨by kernel_rfl, by intro w hSw; obtain ⟨s0, s1, s2, s3, s4, s5, s6, s7, s8, s9, s10, s11⟩ := hSw; go_simp⟩) hHeld ?_
                simp only [tkS, Act.put]
                refine tkH 7 (.bool true) rfl (Or.inl ⟨by kernel_rfl, by intro w hSw; obtain ⟨s0, s1, s2, s3, s4, s5, s6, s7, s8, s9, s10, s11⟩ := hSw; go_simp⟩) hHeld ?_
                simp only [tkS, Act.put]
                refine tkH 8 (.pointer (some ⟨w.heap.size, 7, none⟩)) rfl (Or.inl ⟨by kernel_rfl, by intro w hSw; obtain ⟨s0, s1, s2, s3, s4, s5, s6, s7, s8, s9, s10, s11⟩ := hSw; go_simp⟩) hHeld ?_
                simp only [tkS, Act.put]
                refine tkH 9 (.int .i64 u) rfl (Or.inl ⟨by kernel_rfl, by intro w hSw; obtain ⟨s0, s1, s2, s3, s4, s5, s6, s7, s8, s9, s10, s11⟩ := hSw; go_simp⟩) hHeld ?_
                simp only [tkS, Act.put]
                refine tkH 10 (.bool true) rfl (Or.inl ⟨by kernel_rfl, by intro w hSw; obtain ⟨s0, s1, s2, s3, s4, s5, s6, s7, s8, s9, s10, s11⟩ := hSw; go_simp⟩) hHeld ?_
                simp only [tkS, Act.put]
                refine tkH 11 (.bool true) rfl (Or.inl ⟨by kernel_rfl, by intro w hSw; obtain ⟨s0, s1, s2, s3, s4, s5, s6, s7, s8, s9, s10, s11⟩ := hSw; go_simp⟩) hHeld ?_
                simp only [tkS, Act.put]
                refine tkH 12 (.bool true) rfl (Or.inl ⟨by kernel_rfl, by intro w hSw; obtain ⟨s0, s1, s2, s3, s4, s5, s6, s7, s8, s9, s10, s11⟩ := hSw; go_simp⟩) hHeld ?_
                simp only [tkS, Act.put]
                refine tkH 13 (.pointer (some ⟨w.heap.size, 7, none⟩)) rfl (Or.inl ⟨by kernel_rfl, by intro w hSw; obtain ⟨s0, s1, s2, s3, s4, s5, s6, s7, s8, s9, s10, s11⟩ := hSw; go_simp⟩) hHeld ?_
                simp only [tkS, Act.put]
                refine tkH 14 (.int .i64 u) rfl (Or.inl ⟨by kernel_rfl, by intro w hSw; obtain ⟨s0, s1, s2, s3, s4, s5, s6, s7, s8, s9, s10, s11⟩ := hSw; go_simp⟩) hHeld ?_
                simp only [tkS, Act.put]
                refine tkH 15 (.pointer (some ⟨w.heap.size, 1, none⟩)) rfl (Or.inl ⟨by kernel_rfl, by intro w hSw; obtain ⟨s0, s1, s2, s3, s4, s5, s6, s7, s8, s9, s10, s11⟩ := hSw; go_simp⟩) hHeld ?_
                simp only [tkS, Act.put]
                refine tkH 16 (.int .i64 s) rfl (Or.inl ⟨by kernel_rfl, by intro w hSw; obtain ⟨s0, s1, s2, s3, s4, s5, s6, s7, s8, s9, s10, s11⟩ := hSw; go_simp⟩) hHeld ?_
                simp only [tkS, Act.put]
                refine tkH 17 (.bool true) rfl (Or.inl ⟨by kernel_rfl, by intro w hSw; obtain ⟨s0, s1, s2, s3, s4, s5, s6, s7, s8, s9, s10, s11⟩ := hSw; go_simp⟩) hHeld ?_
                simp only [tkS, Act.put]
                refine tkH 18 (.bool true) rfl (Or.inl ⟨by kernel_rfl, by intro w hSw; obtain ⟨s0, s1, s2, s3, s4, s5, s6, s7, s8, s9, s10, s11⟩ := hSw; go_simp⟩) hHeld ?_
                simp only [tkS, Act.put]
                refine tkH 19 (.bool true) rfl (Or.inl ⟨by kernel_rfl, by intro w hSw; obtain ⟨s0, s1, s2, s3, s4, s5, s6, s7, s8, s9, s10, s11⟩ := hSw; go_simp⟩) hHeld ?_
                simp only [tkS, Act.put]
                refine tkH 20 (.pointer (some ⟨w.heap.size, 8, none⟩)) rfl (Or.inl ⟨by kernel_rfl, by intro w hSw; obtain ⟨s0, s1, s2, s3, s4, s5, s6, s7, s8, s9, s10, s11⟩ := hSw; go_simp⟩) hHeld ?_
                simp only [tkS, Act.put]
                refine tkH 21 (.agg #[.int .i64 pt, .int .i64 pa]) rfl (Or.inl ⟨by kernel_rfl, by intro w hSw; obtain ⟨s0, s1, s2, s3, s4, s5, s6, s7, s8, s9, s10, s11⟩ := hSw; go_simp⟩) hHeld ?_
                simp only [tkS, Act.put]
                refine wpAnyH_ready (rs := [22]) (by kernel_rfl) (by simp) ?_
                refine AllReadyH.cons rfl (fun K hK => ?_) AllReadyH.nil
                go_simp
                refine (hN _).mono ?_
                rintro e wn ⟨rfl, hbn⟩
                replace hB := below_seq hB hbn
                clear hbn
                go_wp2_with fail
                refine hK.out _ _ (HF.out _ hB) (fun hHeld => ?_)
                clear hK K
                refine tkH 23 (.bool true) rfl (Or.inl ⟨by kernel_rfl, by intro w hSw; obtain ⟨s0, s1, s2, s3, s4, s5, s6, s7, s8, s9, s10, s11⟩ := hSw; go_simp⟩) hHeld ?_
                simp only [tkS, Act.put]
                refine tkH 24 (.bool true) rfl (Or.inl ⟨by kernel_rfl, by intro w hSw; obtain ⟨s0, s1, s2, s3, s4, s5, s6, s7, s8, s9, s10, s11⟩ := hSw; go_simp⟩) hHeld ?_
                simp only [tkS, Act.put]
                refine tkH 25 (.pointer (some ⟨w.heap.size, 8, none⟩)) rfl (Or.inl ⟨by kernel_rfl, by intro w hSw; obtain ⟨s0, s1, s2, s3, s4, s5, s6, s7, s8, s9, s10, s11⟩ := hSw; go_simp⟩) hHeld ?_
                simp only [tkS, Act.put]
                refine tkH 26 (.agg #[.int .i64 pt, .int .i64 pa]) rfl (Or.inl ⟨by kernel_rfl, by intro w hSw; obtain ⟨s0, s1, s2, s3, s4, s5, s6, s7, s8, s9, s10, s11⟩ := hSw; go_simp⟩) hHeld ?_
                simp only [tkS, Act.put]
                refine tkH 27 (.agg #[.int .i64 a, .int .i64 s, .int .i64 t, dv, .int .i64 k, .int .i64 o, .int .i64 n, .int .i64 u, .int .i64 pt, .int .i64 pa, .string ky, .string tx]) rfl (Or.inl ⟨by kernel_rfl, by intro w hSw; obtain ⟨s0, s1, s2, s3, s4, s5, s6, s7, s8, s9, s10, s11⟩ := hSw; go_simp⟩) hHeld ?_
                simp only [tkS, Act.put]
                refine wpAnyH_ready (rs := [28]) (by kernel_rfl) (by simp) ?_
                refine AllReadyH.cons rfl (fun K hK => ?_) AllReadyH.nil
                go_simp
                refine (opStamp_any _ _ _ _ _ _ _ _ _ _ _ _ _).mono ?_
                rintro e wn ⟨rfl, hbn⟩
                replace hB := below_seq hB hbn
                clear hbn
                go_wp2_with fail
                refine hK.out _ _ (HF.out _ hB) (fun hHeld => ?_)
                clear hK K
                refine wpAnyH_ready (rs := [29]) (by kernel_rfl) (by simp) ?_
                refine AllReadyH.cons rfl (fun K hK => ?_) AllReadyH.nil
                go_simp
                refine (hL _).mono ?_
                rintro e wn ⟨rfl, hbn⟩
                replace hB := below_seq hB hbn
                clear hbn
                go_wp2_with fail
                refine hK.out _ _ (HF.out _ hB) (fun hHeld => ?_)
                clear hK K
                refine tkH 30 (.bool true) rfl (Or.inl ⟨by kernel_rfl, by intro w hSw; obtain ⟨s0, s1, s2, s3, s4, s5, s6, s7, s8, s9, s10, s11⟩ := hSw; go_simp⟩) hHeld ?_
                simp only [tkS, Act.put]
                refine tkH 31 (.bool true) rfl (Or.inl ⟨by kernel_rfl, by intro w hSw; obtain ⟨s0, s1, s2, s3, s4, s5, s6, s7, s8, s9, s10, s11⟩ := hSw; go_simp⟩) hHeld ?_
                simp only [tkS, Act.put]
                refine tkH 32 (.agg #[.int .i64 a, .int .i64 s, .int .i64 t, dv, .int .i64 k, .int .i64 o, .int .i64 n, .int .i64 u, .int .i64 pt, .int .i64 pa, .string ky, .string tx]) rfl (Or.inl ⟨by kernel_rfl, by intro w hSw; obtain ⟨s0, s1, s2, s3, s4, s5, s6, s7, s8, s9, s10, s11⟩ := hSw; go_simp⟩) hHeld ?_
                simp only [tkS, Act.put]
                refine wpAnyH_ready (rs := [33]) (by kernel_rfl) (by simp) ?_
                refine AllReadyH.cons rfl (fun K hK => ?_) AllReadyH.nil
                go_simp
                refine (opSaysOK_any _ _ _ _ _ _ _ _ _ _ _ _ _).mono ?_
                rintro e wn ⟨rfl, hbn⟩
                replace hB := below_seq hB hbn
                clear hbn
                go_wp2_with fail
                refine hK.out _ _ (HF.out _ hB) (fun hHeld => ?_)
                clear hK K
                refine tkH 34 (.bool (saysOK k n pt pa ky tx)) rfl (Or.inl ⟨by kernel_rfl, by intro w hSw; obtain ⟨s0, s1, s2, s3, s4, s5, s6, s7, s8, s9, s10, s11⟩ := hSw; go_simp⟩) hHeld ?_
                simp only [tkS, Act.put]
                refine tkH 35 (.bool (saysOK k n pt pa ky tx)) rfl (Or.inl ⟨by kernel_rfl, by intro w hSw; obtain ⟨s0, s1, s2, s3, s4, s5, s6, s7, s8, s9, s10, s11⟩ := hSw; go_simp⟩) hHeld ?_
                simp only [tkS, Act.put]
                refine wpAnyH_done (by kernel_rfl) ?_ _
                go_wp2_with fail
                go_ret
                exact ⟨rfl, below_seq (below_alloc _ _) hB⟩
          · rw [decide_eq_false h5, Bool.false_and]
            go_enter Tryz.func39, Tryz.ntmps39
            go_wp2_with fail
            refine wp_region_held_drew (S := fun w' => w'.cell? ⟨w.heap.size, 0, none⟩ = some (.int .i64 a) ∧ w'.cell? ⟨w.heap.size, 1, none⟩ = some (.int .i64 s) ∧ w'.cell? ⟨w.heap.size, 2, none⟩ = some (.int .i64 t) ∧ w'.cell? ⟨w.heap.size, 3, none⟩ = some (dv) ∧ w'.cell? ⟨w.heap.size, 4, none⟩ = some (.int .i64 k) ∧ w'.cell? ⟨w.heap.size, 5, none⟩ = some (.int .i64 o) ∧ w'.cell? ⟨w.heap.size, 6, none⟩ = some (.int .i64 n) ∧ w'.cell? ⟨w.heap.size, 7, none⟩ = some (.int .i64 u) ∧ w'.cell? ⟨w.heap.size, 8, none⟩ = some (.int .i64 pt) ∧ w'.cell? ⟨w.heap.size, 9, none⟩ = some (.int .i64 pa) ∧ w'.cell? ⟨w.heap.size, 10, none⟩ = some (.string ky) ∧ w'.cell? ⟨w.heap.size, 11, none⟩ = some (.string tx)) (by kernel_rfl) (HF.out _ hB) (fun hHeld => ?_)
            refine tkH 0 (.agg #[.int .i64 a, .int .i64 s, .int .i64 t, dv, .int .i64 k, .int .i64 o, .int .i64 n, .int .i64 u, .int .i64 pt, .int .i64 pa, .string ky, .string tx]) rfl (Or.inl ⟨by kernel_rfl, by intro w hSw; obtain ⟨s0, s1, s2, s3, s4, s5, s6, s7, s8, s9, s10, s11⟩ := hSw; go_simp⟩) hHeld ?_
            simp only [tkS, Act.put]
            refine wpAnyH_ready (rs := [1]) (by kernel_rfl) (by simp) ?_
            refine AllReadyH.cons rfl (fun K hK => ?_) AllReadyH.nil
            go_simp
            refine (hA _ hB).mono ?_
            rintro e wn ⟨rfl, hbn⟩
            replace hB := below_seq hB hbn
            clear hbn
            go_wp2_with fail
            refine hK.out _ _ (HF.out _ hB) (fun hHeld => ?_)
            clear hK K
            refine tkH 2 (.bool true) rfl (Or.inl ⟨by kernel_rfl, by intro w hSw; obtain ⟨s0, s1, s2, s3, s4, s5, s6, s7, s8, s9, s10, s11⟩ := hSw; go_simp⟩) hHeld ?_
            simp only [tkS, Act.put]
            refine tkH 3 (.pointer (some ⟨w.heap.size, 5, none⟩)) rfl (Or.inl ⟨by kernel_rfl, by intro w hSw; obtain ⟨s0, s1, s2, s3, s4, s5, s6, s7, s8, s9, s10, s11⟩ := hSw; go_simp⟩) hHeld ?_
            simp only [tkS, Act.put]
            refine tkH 4 (.int .i64 o) rfl (Or.inl ⟨by kernel_rfl, by intro w hSw; obtain ⟨s0, s1, s2, s3, s4, s5, s6, s7, s8, s9, s10, s11⟩ := hSw; go_simp⟩) hHeld ?_
            simp only [tkS, Act.put]
            refine wpAnyH_ready (rs := [5]) (by kernel_rfl) (by simp) ?_
            refine AllReadyH.cons rfl (fun K hK => ?_) AllReadyH.nil
            go_simp
            refine (hI _).mono ?_
            rintro e wn ⟨rfl, hbn⟩
            replace hB := below_seq hB hbn
            clear hbn
            go_wp2_with fail
            refine hK.out _ _ (HF.out _ hB) (fun hHeld => ?_)
            clear hK K
            refine tkH 6 (.bool true) rfl (Or.inl ⟨by kernel_rfl, by intro w hSw; obtain ⟨s0, s1, s2, s3, s4, s5, s6, s7, s8, s9, s10, s11⟩ := hSw; go_simp⟩) hHeld ?_
            simp only [tkS, Act.put]
            refine tkH 7 (.bool true) rfl (Or.inl ⟨by kernel_rfl, by intro w hSw; obtain ⟨s0, s1, s2, s3, s4, s5, s6, s7, s8, s9, s10, s11⟩ := hSw; go_simp⟩) hHeld ?_
            simp only [tkS, Act.put]
            refine tkH 8 (.pointer (some ⟨w.heap.size, 7, none⟩)) rfl (Or.inl ⟨by kernel_rfl, by intro w hSw; obtain ⟨s0, s1, s2, s3, s4, s5, s6, s7, s8, s9, s10, s11⟩ := hSw; go_simp⟩) hHeld ?_
            simp only [tkS, Act.put]
            refine tkH 9 (.int .i64 u) rfl (Or.inl ⟨by kernel_rfl, by intro w hSw; obtain ⟨s0, s1, s2, s3, s4, s5, s6, s7, s8, s9, s10, s11⟩ := hSw; go_simp⟩) hHeld ?_
            simp only [tkS, Act.put]
            refine tkH 10 (.bool true) rfl (Or.inl ⟨by kernel_rfl, by intro w hSw; obtain ⟨s0, s1, s2, s3, s4, s5, s6, s7, s8, s9, s10, s11⟩ := hSw; go_simp⟩) hHeld ?_
            simp only [tkS, Act.put]
            refine tkH 11 (.bool true) rfl (Or.inl ⟨by kernel_rfl, by intro w hSw; obtain ⟨s0, s1, s2, s3, s4, s5, s6, s7, s8, s9, s10, s11⟩ := hSw; go_simp⟩) hHeld ?_
            simp only [tkS, Act.put]
            refine tkH 12 (.bool true) rfl (Or.inl ⟨by kernel_rfl, by intro w hSw; obtain ⟨s0, s1, s2, s3, s4, s5, s6, s7, s8, s9, s10, s11⟩ := hSw; go_simp⟩) hHeld ?_
            simp only [tkS, Act.put]
            refine tkH 13 (.pointer (some ⟨w.heap.size, 7, none⟩)) rfl (Or.inl ⟨by kernel_rfl, by intro w hSw; obtain ⟨s0, s1, s2, s3, s4, s5, s6, s7, s8, s9, s10, s11⟩ := hSw; go_simp⟩) hHeld ?_
            simp only [tkS, Act.put]
            refine tkH 14 (.int .i64 u) rfl (Or.inl ⟨by kernel_rfl, by intro w hSw; obtain ⟨s0, s1, s2, s3, s4, s5, s6, s7, s8, s9, s10, s11⟩ := hSw; go_simp⟩) hHeld ?_
            simp only [tkS, Act.put]
            refine tkH 15 (.pointer (some ⟨w.heap.size, 1, none⟩)) rfl (Or.inl ⟨by kernel_rfl, by intro w hSw; obtain ⟨s0, s1, s2, s3, s4, s5, s6, s7, s8, s9, s10, s11⟩ := hSw; go_simp⟩) hHeld ?_
            simp only [tkS, Act.put]
            refine tkH 16 (.int .i64 s) rfl (Or.inl ⟨by kernel_rfl, by intro w hSw; obtain ⟨s0, s1, s2, s3, s4, s5, s6, s7, s8, s9, s10, s11⟩ := hSw; go_simp⟩) hHeld ?_
            simp only [tkS, Act.put]
            refine tkH 17 (.bool false) rfl (Or.inl ⟨by kernel_rfl, by intro w hSw; obtain ⟨s0, s1, s2, s3, s4, s5, s6, s7, s8, s9, s10, s11⟩ := hSw; go_simp⟩) hHeld ?_
            simp only [tkS, Act.put]
            refine tkH 18 (.bool false) rfl (Or.inl ⟨by kernel_rfl, by intro w hSw; obtain ⟨s0, s1, s2, s3, s4, s5, s6, s7, s8, s9, s10, s11⟩ := hSw; go_simp⟩) hHeld ?_
            simp only [tkS, Act.put]
            refine tkH 19 (.bool false) rfl (Or.inl ⟨by kernel_rfl, by intro w hSw; obtain ⟨s0, s1, s2, s3, s4, s5, s6, s7, s8, s9, s10, s11⟩ := hSw; go_simp⟩) hHeld ?_
            simp only [tkS, Act.put]
            refine tkH 20 (undef) rfl (Or.inr ⟨by kernel_rfl, rfl⟩) hHeld ?_
            simp only [tkS, Act.put]
            refine tkH 21 (undef) rfl (Or.inr ⟨by kernel_rfl, rfl⟩) hHeld ?_
            simp only [tkS, Act.put]
            refine wpAnyH_ready (rs := [22]) (by kernel_rfl) (by simp) ?_
            refine AllReadyH.cons rfl (fun K hK => ?_) AllReadyH.nil
            go_simp
            refine hK.out _ _ (HF.out _ hB) (fun hHeld => ?_)
            clear hK K
            refine tkH 23 (.bool false) rfl (Or.inl ⟨by kernel_rfl, by intro w hSw; obtain ⟨s0, s1, s2, s3, s4, s5, s6, s7, s8, s9, s10, s11⟩ := hSw; go_simp⟩) hHeld ?_
            simp only [tkS, Act.put]
            refine tkH 24 (.bool false) rfl (Or.inl ⟨by kernel_rfl, by intro w hSw; obtain ⟨s0, s1, s2, s3, s4, s5, s6, s7, s8, s9, s10, s11⟩ := hSw; go_simp⟩) hHeld ?_
            simp only [tkS, Act.put]
            refine tkH 25 (undef) rfl (Or.inr ⟨by kernel_rfl, rfl⟩) hHeld ?_
            simp only [tkS, Act.put]
            refine tkH 26 (undef) rfl (Or.inr ⟨by kernel_rfl, rfl⟩) hHeld ?_
            simp only [tkS, Act.put]
            refine tkH 27 (undef) rfl (Or.inr ⟨by kernel_rfl, rfl⟩) hHeld ?_
            simp only [tkS, Act.put]
            refine wpAnyH_ready (rs := [28]) (by kernel_rfl) (by simp) ?_
            refine AllReadyH.cons rfl (fun K hK => ?_) AllReadyH.nil
            go_simp
            refine hK.out _ _ (HF.out _ hB) (fun hHeld => ?_)
            clear hK K
            refine wpAnyH_ready (rs := [29]) (by kernel_rfl) (by simp) ?_
            refine AllReadyH.cons rfl (fun K hK => ?_) AllReadyH.nil
            go_simp
            refine hK.out _ _ (HF.out _ hB) (fun hHeld => ?_)
            clear hK K
            refine tkH 30 (.bool false) rfl (Or.inl ⟨by kernel_rfl, by intro w hSw; obtain ⟨s0, s1, s2, s3, s4, s5, s6, s7, s8, s9, s10, s11⟩ := hSw; go_simp⟩) hHeld ?_
            simp only [tkS, Act.put]
            refine tkH 31 (.bool false) rfl (Or.inl ⟨by kernel_rfl, by intro w hSw; obtain ⟨s0, s1, s2, s3, s4, s5, s6, s7, s8, s9, s10, s11⟩ := hSw; go_simp⟩) hHeld ?_
            simp only [tkS, Act.put]
            refine tkH 32 (undef) rfl (Or.inr ⟨by kernel_rfl, rfl⟩) hHeld ?_
            simp only [tkS, Act.put]
            refine wpAnyH_ready (rs := [33]) (by kernel_rfl) (by simp) ?_
            refine AllReadyH.cons rfl (fun K hK => ?_) AllReadyH.nil
            go_simp
            refine hK.out _ _ (HF.out _ hB) (fun hHeld => ?_)
            clear hK K
            refine tkH 34 (.bool false) rfl (Or.inl ⟨by kernel_rfl, by intro w hSw; obtain ⟨s0, s1, s2, s3, s4, s5, s6, s7, s8, s9, s10, s11⟩ := hSw; go_simp⟩) hHeld ?_
            simp only [tkS, Act.put]
            refine tkH 35 (.bool false) rfl (Or.inl ⟨by kernel_rfl, by intro w hSw; obtain ⟨s0, s1, s2, s3, s4, s5, s6, s7, s8, s9, s10, s11⟩ := hSw; go_simp⟩) hHeld ?_
            simp only [tkS, Act.put]
            refine wpAnyH_done (by kernel_rfl) ?_ _
            go_wp2_with fail
            go_ret
            exact ⟨rfl, below_seq (below_alloc _ _) hB⟩

end Go.Proofs.YtocffojhhjdeoaaGreat

namespace Go.Proofs.YtocffojhhjdeoaaGreat
set_option linter.unusedVariables false

/-- One operation more, from the last one on. -/
def stepU (x : Ov) (U : List Int) : List Int := if x.u ≠ 0 ∧ x.s ∉ U then x.u :: U else U
/-- The Seqs that the code's set has behind these operations of an actor. -/
def undS (M : List Ov) : List Int := M.foldr stepU []
theorem undS_nil : undS [] = [] := rfl
theorem undS_cons (x : Ov) (M : List Ov) : undS (x :: M) = stepU x (undS M) := rfl
theorem undS_nz : ∀ (M : List Ov), ∀ s ∈ undS M, s ≠ 0
  | [], s, h => by simp [undS] at h
  | x :: M, s, h => by
    rw [undS_cons] at h
    unfold stepU at h
    split at h
    · rename_i hx
      rcases List.mem_cons.1 h with rfl | h
      · exact hx.1
      · exact undS_nz M s h
    · exact undS_nz M s h
/-- What the set has behind the places of a list. -/
def undP (L : List Ov) (xs : List Nat) : List Int := xs.foldl (fun U i => stepU (ovAt L i) U) []
theorem undP_snoc (L : List Ov) (xs : List Nat) (i : Nat) : undP L (xs ++ [i]) = stepU (ovAt L i) (undP L xs) := by simp [undP]
theorem range_ovAt (L : List Ov) : (List.range L.length).map (ovAt L) = L := by
  refine List.ext_getElem (by simp) fun i h1 h2 => ?_
  rw [List.getElem_map, List.getElem_range]
  have := ovAt_get h2
  rw [List.getElem?_eq_getElem h2] at this
  exact (Option.some.inj this).symm
theorem undP_all (L : List Ov) : undP L ((List.range L.length).drop 0).reverse = undS L := by
  unfold undP undS
  rw [List.drop_zero, List.foldl_reverse]
  conv => rhs; rw [← range_ovAt L, List.foldr_map]

end Go.Proofs.YtocffojhhjdeoaaGreat

namespace Go.Proofs.YtocffojhhjdeoaaGreat
open Go.RowKit
set_option linter.unusedVariables false

set_option maxHeartbeats 400000 in
theorem l08Stamp_any (a s t k o n u pt pa : Int) (dv : Value) (ky tx : ByteArray) (w : World) :
    Calls Tryz.prog 46 #[.agg #[.int .i64 a, .int .i64 s, .int .i64 t, dv, .int .i64 k, .int .i64 o, .int .i64 n, .int .i64 u, .int .i64 pt, .int .i64 pa, .string ky, .string tx]] w fun e w' => e = .returned (.agg #[.int .i64 t, .int .i64 a]) ∧ Below w.heap.size w w' := by
  go_enter Tryz.func46, Tryz.ntmps46
  go_wp2_with fail
  exact bodyPost_ret (v := .agg #[.int .i64 t, .int .i64 a]) (by simp [results, Tryz.results46, go_sem]) rfl ⟨rfl, below_then (below_alloc _ _) _⟩

set_option maxHeartbeats 400000 in
theorem noneO_any (t a : Int) (w : World) :
    Calls Tryz.prog 49 #[.agg #[.int .i64 t, .int .i64 a]] w fun e w' => e = .returned (.bool (decide (t = 0 ∧ a = 0))) ∧ Below w.heap.size w w' := by
  go_enter Tryz.func49, Tryz.ntmps49
  go_wp2_with fail
  all_goals go_ret
  all_goals refine ⟨?_, below_alloc _ _⟩
  all_goals first | (simp [*]; done) | (simp [*]; rw [Bool.eq_iff_iff]; simp)

set_option maxHeartbeats 1000000 in
theorem l04Char_any (c : Int) (w : World) :
    Calls Tryz.prog 51 #[.int .i64 c] w fun e w' => e = .returned (.bool (chOK c)) ∧ w' = w := by
  obtain ⟨r, hr⟩ : ∃ r, chOK c = r := ⟨_, rfl⟩
  rw [hr]
  have hc : (r = false ∧ c < 0) ∨ (r = false ∧ ¬ c < 0 ∧ 1114111 < c) ∨ (r = true ∧ ¬ c < 0 ∧ ¬ 1114111 < c ∧ c < 55296) ∨ (r = decide (57343 < c) ∧ ¬ c < 0 ∧ ¬ 1114111 < c ∧ ¬ c < 55296) := by
    subst hr
    unfold chOK
    by_cases h1 : c < 0
    · exact .inl ⟨decide_eq_false (by omega), h1⟩
    · by_cases h2 : 1114111 < c
      · exact .inr (.inl ⟨decide_eq_false (by omega), h1, h2⟩)
      · by_cases h3 : c < 55296
        · exact .inr (.inr (.inl ⟨decide_eq_true (by omega), h1, h2, h3⟩))
        · exact .inr (.inr (.inr ⟨by rw [Bool.eq_iff_iff]; simp only [decide_eq_true_eq]; omega, h1, h2, h3⟩))
  clear hr
  rcases hc with ⟨rfl, h1⟩ | ⟨rfl, h1, h2⟩ | ⟨rfl, h1, h2, h3⟩ | ⟨rfl, h1, h2, h3⟩
  all_goals
    go_enter Tryz.func51, Tryz.ntmps51
    go_wp2_with fail
    go_ret
    exact ⟨by simp, rfl⟩

/-- The specification's tests, in its own order. -/
def opS (a s t k o n u pt pa : Int) (ky tx : ByteArray) (ds : List Int) : Bool :=
  comesOK a s t ds && (decide (1 ≤ o) && (decide (o ≤ 100) && (decide (-1000000000000 ≤ n) && (decide (n ≤ 1000000000000) && (decide (0 ≤ u) && (decide (u < s) && (decide (ky.size ≤ 200) && (decide (tx.size ≤ 200) && ((decide (pt = 0 ∧ pa = 0) || (stOK pt pa && lessS pt pa t a)) &&
    (if k = 1 then decide (n = 0) && decide (pt = 0 ∧ pa = 0)
     else if k = 2 then (decide (ky.toList = []) && decide (tx.toList = [])) && chOK n
     else if k = 3 then (decide (ky.toList = []) && decide (tx.toList = [])) && (decide (n = 0) && !decide (pt = 0 ∧ pa = 0))
     else if k = 4 then (decide (ky.toList = []) && decide (tx.toList = [])) && decide (pt = 0 ∧ pa = 0)
     else false))))))))))
theorem toList_loopO (s : ByteArray) : ∀ n i r, s.size - i = n → ByteArray.toList.loop s i r = r.reverse ++ s.data.toList.drop i := by
  have hs : s.data.toList.length = s.size := by rw [Array.length_toList]; rfl
  intro n
  induction n with
  | zero =>
    intro i r h
    rw [ByteArray.toList.loop, if_neg (by omega), List.drop_of_length_le (by omega)]
    simp
  | succ n ih =>
    intro i r h
    have hi : i < s.data.toList.length := by omega
    rw [ByteArray.toList.loop, if_pos (by omega), ih (i + 1) _ (by omega), List.drop_eq_getElem_cons hi]
    have : s.get! i = s.data.toList[i] := by
      show s.data[i]! = _
      rw [getElem!_pos s.data i (by rw [← Array.length_toList]; exact hi)]
      simp
    rw [this]
    simp
theorem toList_sameO (s : ByteArray) : s.toList = s.data.toList := by
  have := toList_loopO s s.size 0 [] (by omega)
  simpa [ByteArray.toList] using this
theorem toList_inj {a b : ByteArray} (h : a.toList = b.toList) : a = b := by
  rw [toList_sameO, toList_sameO] at h
  cases a with | mk x => cases b with | mk y => 
    simp only [ByteArray.mk.injEq]
    exact Array.toList_inj.1 h
theorem size_nil {b : ByteArray} (h : b.toList = []) : b.size = 0 := by
  have h1 : b.data.toList = [] := by rw [← toList_sameO]; exact h
  have h2 := congrArg List.length h1
  rw [Array.length_toList] at h2
  exact h2
theorem opS_eq (a s t k o n u pt pa : Int) (ky tx : ByteArray) (ds : List Int) : opS a s t k o n u pt pa ky tx ds = opB a s t k o n u pt pa ky tx ds := by
  rw [Bool.eq_iff_iff]
  unfold opS opB
  simp only [Bool.and_eq_true, decide_eq_true_eq, Bool.or_eq_true]
  constructor
  · rintro ⟨h1, h2, h3, h4, h5, h6, h7, h8, h9, h10, h11⟩
    have ht : 1 ≤ t := by
      unfold comesOK at h1
      simp only [Bool.and_eq_true] at h1
      have := h1.1.1.1.1
      unfold stOK at this
      simp only [decide_eq_true_eq] at this
      exact this.1
    refine ⟨h1, h2, h3, h6, h7, ?_, ?_, ?_⟩
    · unfold okS
      rcases h10 with h | h
      · simp [h]
      · simp [h.1]
    · rcases h10 with ⟨rfl, rfl⟩ | h
      · simp [lessS]; omega
      · exact h.2
    · unfold saysOK
      by_cases k1 : k = 1
      · simp [k1] at h11 ⊢
        exact ⟨h8, h9, h11⟩
      · by_cases k2 : k = 2
        · simp [k2] at h11 ⊢
          exact ⟨h11.2, h11.1⟩
        · by_cases k3 : k = 3
          · simp [k3] at h11 ⊢
            exact ⟨h11.2.2, h11.2.1, h11.1⟩
          · by_cases k4 : k = 4
            · simp [k4] at h11 ⊢
              exact ⟨h4, h5, h11.2, h11.1⟩
            · simp [k1, k2, k3, k4] at h11
  · rintro ⟨h1, h2, h3, h6, h7, h8, h9, h10⟩
    have hat : (pt = 0 ∧ pa = 0) ∨ stOK pt pa = true ∧ lessS pt pa t a = true := by
      unfold okS at h8
      simp only [Bool.or_eq_true, decide_eq_true_eq] at h8
      rcases h8 with h | h
      · exact .inl h
      · exact .inr ⟨h, h9⟩
    unfold saysOK at h10
    by_cases k1 : k = 1
    · simp [k1] at h10 ⊢
      exact ⟨h1, h2, h3, by omega, by omega, h6, h7, h10.1, h10.2.1, hat, h10.2.2⟩
    · by_cases k2 : k = 2
      · simp [k2] at h10 ⊢
        have hn := h10.1
        unfold chOK at hn
        simp only [decide_eq_true_eq] at hn
        exact ⟨h1, h2, h3, by omega, by omega, h6, h7, by rw [size_nil h10.2.1]; omega, by rw [size_nil h10.2.2]; omega, hat, h10.2, h10.1⟩
      · by_cases k3 : k = 3
        · simp [k3] at h10 ⊢
          exact ⟨h1, h2, h3, by omega, by omega, h6, h7, by rw [size_nil h10.2.2.1]; omega, by rw [size_nil h10.2.2.2]; omega, hat, h10.2.2, h10.2.1, h10.1⟩
        · by_cases k4 : k = 4
          · simp [k4] at h10 ⊢
            exact ⟨h1, h2, h3, h10.1, h10.2.1, h6, h7, by rw [size_nil h10.2.2.2.1]; omega, by rw [size_nil h10.2.2.2.2]; omega, hat, h10.2.2.2, h10.2.2.1⟩
          · simp [k1, k2, k3, k4] at h10

end Go.Proofs.YtocffojhhjdeoaaGreat
