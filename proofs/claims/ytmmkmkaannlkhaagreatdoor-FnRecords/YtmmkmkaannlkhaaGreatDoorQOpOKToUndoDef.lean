/- Operations of a log: what the code's opOK answers. The set of an actor's undone Seqs, as a list. -/
import Derived.Test.YtmmkmkaannlkhaaGreatDoorQOpComesToOpSpecBase
namespace Go.Proofs.YtmmkmkaannlkhaaGreatDoor
open Go.RowKit
set_option linter.unusedVariables false

set_option maxHeartbeats 1000000 in
theorem isObj_any (o : Int) (w : World) :
    Calls Tryz.prog 20 #[.int .i64 o] w fun e w' => e = .returned (.bool (decide (1 ≤ o) && decide (o ≤ 100))) ∧ Below w.heap.size w w' := by
  have hc : (o < 1) ∨ (¬ o < 1 ∧ 100 < o) ∨ (¬ o < 1 ∧ ¬ 100 < o) := by omega
  rcases hc with h | ⟨h, h'⟩ | ⟨h, h'⟩
  · rw [decide_eq_false (by omega : ¬ 1 ≤ o), Bool.false_and]
    go_enter Tryz.func20, Tryz.ntmps20
    go_wp2_with fail
    go_ret
    exact ⟨rfl, Below.refl _ _⟩
  · go_enter Tryz.func20, Tryz.ntmps20
    go_wp2_with fail
    go_ret
    refine ⟨?_, Below.refl _ _⟩
    simp <;> omega
  · go_enter Tryz.func20, Tryz.ntmps20
    go_wp2_with fail
    go_ret
    refine ⟨?_, Below.refl _ _⟩
    simp <;> omega

set_option maxHeartbeats 4000000 in
set_option maxRecDepth 100000 in
theorem opOK_any (C : Nat) (a s t k o n u pt pa : Int) (dv : Value) (ky tx : ByteArray) (ds : List Int) (w : World) (hC : C ≤ w.heap.size) (hr : Rd C w dv (ds.map (Value.int .i64))) :
    Calls Tryz.prog 10 #[.agg #[.int .i64 a, .int .i64 s, .int .i64 t, dv, .int .i64 k, .int .i64 o, .int .i64 n, .int .i64 u, .int .i64 pt, .int .i64 pa, .string ky, .string tx]] w fun e w' => e = .returned (.bool (opB a s t k o n u pt pa ky tx ds)) ∧ Below w.heap.size w w' := by
  have hB := (Below.refl (w.alloc (.cells #[.int .i64 a, .int .i64 s, .int .i64 t, dv, .int .i64 k, .int .i64 o, .int .i64 n, .int .i64 u, .int .i64 pt, .int .i64 pa, .string ky, .string tx] 29)).heap.size (w.alloc (.cells #[.int .i64 a, .int .i64 s, .int .i64 t, dv, .int .i64 k, .int .i64 o, .int .i64 n, .int .i64 u, .int .i64 pt, .int .i64 pa, .string ky, .string tx] 29))).drew
  have hA : ∀ w1, Below (w.alloc (.cells #[.int .i64 a, .int .i64 s, .int .i64 t, dv, .int .i64 k, .int .i64 o, .int .i64 n, .int .i64 u, .int .i64 pt, .int .i64 pa, .string ky, .string tx] 29)).heap.size (w.alloc (.cells #[.int .i64 a, .int .i64 s, .int .i64 t, dv, .int .i64 k, .int .i64 o, .int .i64 n, .int .i64 u, .int .i64 pt, .int .i64 pa, .string ky, .string tx] 29)) w1 → Calls Tryz.prog 19 #[.agg #[.int .i64 a, .int .i64 s, .int .i64 t, dv, .int .i64 k, .int .i64 o, .int .i64 n, .int .i64 u, .int .i64 pt, .int .i64 pa, .string ky, .string tx]] w1 fun e w' => e = .returned (.bool (comesOK a s t ds)) ∧ Below w1.heap.size w1 w' := fun w1 hb => opComesOK_any C a s t k o n u pt pa dv ky tx ds w1 (by have := (below_seq (below_alloc w _) hb).size; omega) (hr.below ((below_seq (below_alloc w _) hb).mono hC))
  have hI := fun w => isObj_any o w
  have hN := fun w => stampOrNone_any pt pa w
  have hL := fun w => implStampLess_any pt pa t a w
  have HF : Hid (∀ wx, Below (w.alloc (.cells #[.int .i64 a, .int .i64 s, .int .i64 t, dv, .int .i64 k, .int .i64 o, .int .i64 n, .int .i64 u, .int .i64 pt, .int .i64 pa, .string ky, .string tx] 29)).heap.size (w.alloc (.cells #[.int .i64 a, .int .i64 s, .int .i64 t, dv, .int .i64 k, .int .i64 o, .int .i64 n, .int .i64 u, .int .i64 pt, .int .i64 pa, .string ky, .string tx] 29)) wx → wx.cell? ⟨w.heap.size, 0, none⟩ = some (.int .i64 a) ∧ wx.cell? ⟨w.heap.size, 1, none⟩ = some (.int .i64 s) ∧ wx.cell? ⟨w.heap.size, 2, none⟩ = some (.int .i64 t) ∧ wx.cell? ⟨w.heap.size, 3, none⟩ = some (dv) ∧ wx.cell? ⟨w.heap.size, 4, none⟩ = some (.int .i64 k) ∧ wx.cell? ⟨w.heap.size, 5, none⟩ = some (.int .i64 o) ∧ wx.cell? ⟨w.heap.size, 6, none⟩ = some (.int .i64 n) ∧ wx.cell? ⟨w.heap.size, 7, none⟩ = some (.int .i64 u) ∧ wx.cell? ⟨w.heap.size, 8, none⟩ = some (.int .i64 pt) ∧ wx.cell? ⟨w.heap.size, 9, none⟩ = some (.int .i64 pa) ∧ wx.cell? ⟨w.heap.size, 10, none⟩ = some (.string ky) ∧ wx.cell? ⟨w.heap.size, 11, none⟩ = some (.string tx)) := fun wx h => by
    exact op_cells h
  clear hr
  unfold opB
  cases h1 : comesOK a s t ds with
  | false =>
    rw [h1] at hA
    clear h1
    rw [Bool.false_and]
    go_enter Tryz.func10, Tryz.ntmps10
    go_wp2_with fail
    refine wp_region_held_drew (S := fun w' => w'.cell? ⟨w.heap.size, 0, none⟩ = some (.int .i64 a) ∧ w'.cell? ⟨w.heap.size, 1, none⟩ = some (.int .i64 s) ∧ w'.cell? ⟨w.heap.size, 2, none⟩ = some (.int .i64 t) ∧ w'.cell? ⟨w.heap.size, 3, none⟩ = some (dv) ∧ w'.cell? ⟨w.heap.size, 4, none⟩ = some (.int .i64 k) ∧ w'.cell? ⟨w.heap.size, 5, none⟩ = some (.int .i64 o) ∧ w'.cell? ⟨w.heap.size, 6, none⟩ = some (.int .i64 n) ∧ w'.cell? ⟨w.heap.size, 7, none⟩ = some (.int .i64 u) ∧ w'.cell? ⟨w.heap.size, 8, none⟩ = some (.int .i64 pt) ∧ w'.cell? ⟨w.heap.size, 9, none⟩ = some (.int .i64 pa) ∧ w'.cell? ⟨w.heap.size, 10, none⟩ = some (.string ky) ∧ w'.cell? ⟨w.heap.size, 11, none⟩ = some (.string tx)) (by kernel_rfl) (HF.out _ hB) (fun hHeld => ?_)
    refine tkH 0 (.agg #[.int .i64 a, .int .i64 s, .int .i64 t, dv, .int .i64 k, .int .i64 o, .int .i64 n, .int .i64 u, .int .i64 pt, .int .i64 pa, .string ky, .string tx]) rfl (Or.inl ⟨by kernel_rfl, by intro w hSw; obtain ⟨s0, s1, s2, s3, s4, s5, s6, s7, s8, s9, s10, s11⟩ := hSw; go_simp⟩) hHeld ?_
    simp only [tkS, Act.put]
    refine wpAnyH_ready (rs := [1]) (by kernel_rfl) (by simp) ?_
    refine AllReadyH.cons rfl (fun K hK => ?_) AllReadyH.nil
    go_simp
    refine (hA _ hB).mono ?_
    rintro e wn ⟨rfl, hbn⟩
    replace hB := below_seq hB hbn
    clear hbn
    go_wp2_with fail
    refine hK.out _ _ (HF.out _ hB) (fun hHeld => ?_)
    clear hK K
    refine tkH 2 (.bool false) rfl (Or.inl ⟨by kernel_rfl, by intro w hSw; obtain ⟨s0, s1, s2, s3, s4, s5, s6, s7, s8, s9, s10, s11⟩ := hSw; go_simp⟩) hHeld ?_
    simp only [tkS, Act.put]
    refine tkH 3 (undef) rfl (Or.inr ⟨by kernel_rfl, rfl⟩) hHeld ?_
    simp only [tkS, Act.put]
    refine tkH 4 (undef) rfl (Or.inr ⟨by kernel_rfl, rfl⟩) hHeld ?_
    simp only [tkS, Act.put]
    refine wpAnyH_ready (rs := [5]) (by kernel_rfl) (by simp) ?_
    refine AllReadyH.cons rfl (fun K hK => ?_) AllReadyH.nil
    go_simp
    refine hK.out _ _ (HF.out _ hB) (fun hHeld => ?_)
    clear hK K
    refine tkH 6 (.bool false) rfl (Or.inl ⟨by kernel_rfl, by intro w hSw; obtain ⟨s0, s1, s2, s3, s4, s5, s6, s7, s8, s9, s10, s11⟩ := hSw; go_simp⟩) hHeld ?_
    simp only [tkS, Act.put]
    refine tkH 7 (.bool false) rfl (Or.inl ⟨by kernel_rfl, by intro w hSw; obtain ⟨s0, s1, s2, s3, s4, s5, s6, s7, s8, s9, s10, s11⟩ := hSw; go_simp⟩) hHeld ?_
    simp only [tkS, Act.put]
    refine tkH 8 (undef) rfl (Or.inr ⟨by kernel_rfl, rfl⟩) hHeld ?_
    simp only [tkS, Act.put]
    refine tkH 9 (undef) rfl (Or.inr ⟨by kernel_rfl, rfl⟩) hHeld ?_
    simp only [tkS, Act.put]
    refine tkH 10 (undef) rfl (Or.inr ⟨by kernel_rfl, rfl⟩) hHeld ?_
    simp only [tkS, Act.put]
    refine tkH 11 (.bool false) rfl (Or.inl ⟨by kernel_rfl, by intro w hSw; obtain ⟨s0, s1, s2, s3, s4, s5, s6, s7, s8, s9, s10, s11⟩ := hSw; go_simp⟩) hHeld ?_
    simp only [tkS, Act.put]
    refine tkH 12 (.bool false) rfl (Or.inl ⟨by kernel_rfl, by intro w hSw; obtain ⟨s0, s1, s2, s3, s4, s5, s6, s7, s8, s9, s10, s11⟩ := hSw; go_simp⟩) hHeld ?_
    simp only [tkS, Act.put]
    refine tkH 13 (undef) rfl (Or.inr ⟨by kernel_rfl, rfl⟩) hHeld ?_
    simp only [tkS, Act.put]
    refine tkH 14 (undef) rfl (Or.inr ⟨by kernel_rfl, rfl⟩) hHeld ?_
    simp only [tkS, Act.put]
    refine tkH 15 (undef) rfl (Or.inr ⟨by kernel_rfl, rfl⟩) hHeld ?_
    simp only [tkS, Act.put]
    refine tkH 16 (undef) rfl (Or.inr ⟨by kernel_rfl, rfl⟩) hHeld ?_
    simp only [tkS, Act.put]
    refine tkH 17 (undef) rfl (Or.inr ⟨by kernel_rfl, rfl⟩) hHeld ?_
    simp only [tkS, Act.put]
    refine tkH 18 (.bool false) rfl (Or.inl ⟨by kernel_rfl, by intro w hSw; obtain ⟨s0, s1, s2, s3, s4, s5, s6, s7, s8, s9, s10, s11⟩ := hSw; go_simp⟩) hHeld ?_
    simp only [tkS, Act.put]
    refine tkH 19 (.bool false) rfl (Or.inl ⟨by kernel_rfl, by intro w hSw; obtain ⟨s0, s1, s2, s3, s4, s5, s6, s7, s8, s9, s10, s11⟩ := hSw; go_simp⟩) hHeld ?_
    simp only [tkS, Act.put]
    refine tkH 20 (undef) rfl (Or.inr ⟨by kernel_rfl, rfl⟩) hHeld ?_
    simp only [tkS, Act.put]
    refine tkH 21 (undef) rfl (Or.inr ⟨by kernel_rfl, rfl⟩) hHeld ?_
    simp only [tkS, Act.put]
    refine wpAnyH_ready (rs := [22]) (by kernel_rfl) (by simp) ?_
    refine AllReadyH.cons rfl (fun K hK => ?_) AllReadyH.nil
    go_simp
    refine hK.out _ _ (HF.out _ hB) (fun hHeld => ?_)
    clear hK K
    refine tkH 23 (.bool false) rfl (Or.inl ⟨by kernel_rfl, by intro w hSw; obtain ⟨s0, s1, s2, s3, s4, s5, s6, s7, s8, s9, s10, s11⟩ := hSw; go_simp⟩) hHeld ?_
    simp only [tkS, Act.put]
    refine tkH 24 (.bool false) rfl (Or.inl ⟨by kernel_rfl, by intro w hSw; obtain ⟨s0, s1, s2, s3, s4, s5, s6, s7, s8, s9, s10, s11⟩ := hSw; go_simp⟩) hHeld ?_
    simp only [tkS, Act.put]
    refine tkH 25 (undef) rfl (Or.inr ⟨by kernel_rfl, rfl⟩) hHeld ?_
    simp only [tkS, Act.put]
    refine tkH 26 (undef) rfl (Or.inr ⟨by kernel_rfl, rfl⟩) hHeld ?_
    simp only [tkS, Act.put]
    refine tkH 27 (undef) rfl (Or.inr ⟨by kernel_rfl, rfl⟩) hHeld ?_
    simp only [tkS, Act.put]
    refine wpAnyH_ready (rs := [28]) (by kernel_rfl) (by simp) ?_
    refine AllReadyH.cons rfl (fun K hK => ?_) AllReadyH.nil
    go_simp
    refine hK.out _ _ (HF.out _ hB) (fun hHeld => ?_)
    clear hK K
    refine wpAnyH_ready (rs := [29]) (by kernel_rfl) (by simp) ?_
    refine AllReadyH.cons rfl (fun K hK => ?_) AllReadyH.nil
    go_simp
    refine hK.out _ _ (HF.out _ hB) (fun hHeld => ?_)
    clear hK K
    refine tkH 30 (.bool false) rfl (Or.inl ⟨by kernel_rfl, by intro w hSw; obtain ⟨s0, s1, s2, s3, s4, s5, s6, s7, s8, s9, s10, s11⟩ := hSw; go_simp⟩) hHeld ?_
    simp only [tkS, Act.put]
    refine tkH 31 (.bool false) rfl (Or.inl ⟨by kernel_rfl, by intro w hSw; obtain ⟨s0, s1, s2, s3, s4, s5, s6, s7, s8, s9, s10, s11⟩ := hSw; go_simp⟩) hHeld ?_
    simp only [tkS, Act.put]
    refine tkH 32 (undef) rfl (Or.inr ⟨by kernel_rfl, rfl⟩) hHeld ?_
    simp only [tkS, Act.put]
    refine wpAnyH_ready (rs := [33]) (by kernel_rfl) (by simp) ?_
    refine AllReadyH.cons rfl (fun K hK => ?_) AllReadyH.nil
    go_simp
    refine hK.out _ _ (HF.out _ hB) (fun hHeld => ?_)
    clear hK K
    refine tkH 34 (.bool false) rfl (Or.inl ⟨by kernel_rfl, by intro w hSw; obtain ⟨s0, s1, s2, s3, s4, s5, s6, s7, s8, s9, s10, s11⟩ := hSw; go_simp⟩) hHeld ?_
    simp only [tkS, Act.put]
    refine tkH 35 (.bool false) rfl (Or.inl ⟨by kernel_rfl, by intro w hSw; obtain ⟨s0, s1, s2, s3, s4, s5, s6, s7, s8, s9, s10, s11⟩ := hSw; go_simp⟩) hHeld ?_
    simp only [tkS, Act.put]
    refine wpAnyH_done (by kernel_rfl) ?_ _
    go_wp2_with fail
    go_ret
    exact ⟨rfl, below_seq (below_alloc _ _) hB⟩
  | true =>
    rw [h1] at hA
    clear h1
    rw [Bool.true_and]
    by_cases h2 : o < 1
    · rw [decide_eq_false (by omega : ¬ 1 ≤ o), Bool.false_and] at hI ⊢
      go_enter Tryz.func10, Tryz.ntmps10
      go_wp2_with fail
      refine wp_region_held_drew (S := fun w' => w'.cell? ⟨w.heap.size, 0, none⟩ = some (.int .i64 a) ∧ w'.cell? ⟨w.heap.size, 1, none⟩ = some (.int .i64 s) ∧ w'.cell? ⟨w.heap.size, 2, none⟩ = some (.int .i64 t) ∧ w'.cell? ⟨w.heap.size, 3, none⟩ = some (dv) ∧ w'.cell? ⟨w.heap.size, 4, none⟩ = some (.int .i64 k) ∧ w'.cell? ⟨w.heap.size, 5, none⟩ = some (.int .i64 o) ∧ w'.cell? ⟨w.heap.size, 6, none⟩ = some (.int .i64 n) ∧ w'.cell? ⟨w.heap.size, 7, none⟩ = some (.int .i64 u) ∧ w'.cell? ⟨w.heap.size, 8, none⟩ = some (.int .i64 pt) ∧ w'.cell? ⟨w.heap.size, 9, none⟩ = some (.int .i64 pa) ∧ w'.cell? ⟨w.heap.size, 10, none⟩ = some (.string ky) ∧ w'.cell? ⟨w.heap.size, 11, none⟩ = some (.string tx)) (by kernel_rfl) (HF.out _ hB) (fun hHeld => ?_)
      refine tkH 0 (.agg #[.int .i64 a, .int .i64 s, .int .i64 t, dv, .int .i64 k, .int .i64 o, .int .i64 n, .int .i64 u, .int .i64 pt, .int .i64 pa, .string ky, .string tx]) rfl (Or.inl ⟨by kernel_rfl, by intro w hSw; obtain ⟨s0, s1, s2, s3, s4, s5, s6, s7, s8, s9, s10, s11⟩ := hSw; go_simp⟩) hHeld ?_
      simp only [tkS, Act.put]
      refine wpAnyH_ready (rs := [1]) (by kernel_rfl) (by simp) ?_
      refine AllReadyH.cons rfl (fun K hK => ?_) AllReadyH.nil
      go_simp
      refine (hA _ hB).mono ?_
      rintro e wn ⟨rfl, hbn⟩
      replace hB := below_seq hB hbn
      clear hbn
      go_wp2_with fail
      refine hK.out _ _ (HF.out _ hB) (fun hHeld => ?_)
      clear hK K
      refine tkH 2 (.bool true) rfl (Or.inl ⟨by kernel_rfl, by intro w hSw; obtain ⟨s0, s1, s2, s3, s4, s5, s6, s7, s8, s9, s10, s11⟩ := hSw; go_simp⟩) hHeld ?_
      simp only [tkS, Act.put]
      refine tkH 3 (.pointer (some ⟨w.heap.size, 5, none⟩)) rfl (Or.inl ⟨by kernel_rfl, by intro w hSw; obtain ⟨s0, s1, s2, s3, s4, s5, s6, s7, s8, s9, s10, s11⟩ := hSw; go_simp⟩) hHeld ?_
      simp only [tkS, Act.put]
      refine tkH 4 (.int .i64 o) rfl (Or.inl ⟨by kernel_rfl, by intro w hSw; obtain ⟨s0, s1, s2, s3, s4, s5, s6, s7, s8, s9, s10, s11⟩ := hSw; go_simp⟩) hHeld ?_
      simp only [tkS, Act.put]
      refine wpAnyH_ready (rs := [5]) (by kernel_rfl) (by simp) ?_
      refine AllReadyH.cons rfl (fun K hK => ?_) AllReadyH.nil
      go_simp
      refine (hI _).mono ?_
      rintro e wn ⟨rfl, hbn⟩
      replace hB := below_seq hB hbn
      clear hbn
      go_wp2_with fail
      refine hK.out _ _ (HF.out _ hB) (fun hHeld => ?_)
      clear hK K
      refine tkH 6 (.bool false) rfl (Or.inl ⟨by kernel_rfl, by intro w hSw; obtain ⟨s0, s1, s2, s3, s4, s5, s6, s7, s8, s9, s10, s11⟩ := hSw; go_simp⟩) hHeld ?_
      simp only [tkS, Act.put]
      refine tkH 7 (.bool false) rfl (Or.inl ⟨by kernel_rfl, by intro w hSw; obtain ⟨s0, s1, s2, s3, s4, s5, s6, s7, s8, s9, s10, s11⟩ := hSw; go_simp⟩) hHeld ?_
      simp only [tkS, Act.put]
      refine tkH 8 (undef) rfl (Or.inr ⟨by kernel_rfl, rfl⟩) hHeld ?_
      simp only [tkS, Act.put]
      refine tkH 9 (undef) rfl (Or.inr ⟨by kernel_rfl, rfl⟩) hHeld ?_
      simp only [tkS, Act.put]
      refine tkH 10 (undef) rfl (Or.inr ⟨by kernel_rfl, rfl⟩) hHeld ?_
      simp only [tkS, Act.put]
      refine tkH 11 (.bool false) rfl (Or.inl ⟨by kernel_rfl, by intro w hSw; obtain ⟨s0, s1, s2, s3, s4, s5, s6, s7, s8, s9, s10, s11⟩ := hSw; go_simp⟩) hHeld ?_
      simp only [tkS, Act.put]
      refine tkH 12 (.bool false) rfl (Or.inl ⟨by kernel_rfl, by intro w hSw; obtain ⟨s0, s1, s2, s3, s4, s5, s6, s7, s8, s9, s10, s11⟩ := hSw; go_simp⟩) hHeld ?_
      simp only [tkS, Act.put]
      refine tkH 13 (undef) rfl (Or.inr ⟨by kernel_rfl, rfl⟩) hHeld ?_
      simp only [tkS, Act.put]
      refine tkH 14 (undef) rfl (Or.inr ⟨by kernel_rfl, rfl⟩) hHeld ?_
      simp only [tkS, Act.put]
      refine tkH 15 (undef) rfl (Or.inr ⟨by kernel_rfl, rfl⟩) hHeld ?_
      simp only [tkS, Act.put]
      refine tkH 16 (undef) rfl (Or.inr ⟨by kernel_rfl, rfl⟩) hHeld ?_
      simp only [tkS, Act.put]
      refine tkH 17 (undef) rfl (Or.inr ⟨by kernel_rfl, rfl⟩) hHeld ?_
      simp only [tkS, Act.put]
      refine tkH 18 (.bool false) rfl (Or.inl ⟨by kernel_rfl, by intro w hSw; obtain ⟨s0, s1, s2, s3, s4, s5, s6, s7, s8, s9, s10, s11⟩ := hSw; go_simp⟩) hHeld ?_
      simp only [tkS, Act.put]
      refine tkH 19 (.bool false) rfl (Or.inl ⟨by kernel_rfl, by intro w hSw; obtain ⟨s0, s1, s2, s3, s4, s5, s6, s7, s8, s9, s10, s11⟩ := hSw; go_simp⟩) hHeld ?_
      simp only [tkS, Act.put]
      refine tkH 20 (undef) rfl (Or.inr ⟨by kernel_rfl, rfl⟩) hHeld ?_
      simp only [tkS, Act.put]
      refine tkH 21 (undef) rfl (Or.inr ⟨by kernel_rfl, rfl⟩) hHeld ?_
      simp only [tkS, Act.put]
      refine wpAnyH_ready (rs := [22]) (by kernel_rfl) (by simp) ?_
      refine AllReadyH.cons rfl (fun K hK => ?_) AllReadyH.nil
      go_simp
      refine hK.out _ _ (HF.out _ hB) (fun hHeld => ?_)
      clear hK K
      refine tkH 23 (.bool false) rfl (Or.inl ⟨by kernel_rfl, by intro w hSw; obtain ⟨s0, s1, s2, s3, s4, s5, s6, s7, s8, s9, s10, s11⟩ := hSw; go_simp⟩) hHeld ?_
      simp only [tkS, Act.put]
      refine tkH 24 (.bool false) rfl (Or.inl ⟨by kernel_rfl, by intro w hSw; obtain ⟨s0, s1, s2, s3, s4, s5, s6, s7, s8, s9, s10, s11⟩ := hSw; go_simp⟩) hHeld ?_
      simp only [tkS, Act.put]
      refine tkH 25 (undef) rfl (Or.inr ⟨by kernel_rfl, rfl⟩) hHeld ?_
      simp only [tkS, Act.put]
      refine tkH 26 (undef) rfl (Or.inr ⟨by kernel_rfl, rfl⟩) hHeld ?_
      simp only [tkS, Act.put]
      refine tkH 27 (undef) rfl (Or.inr ⟨by kernel_rfl, rfl⟩) hHeld ?_
      simp only [tkS, Act.put]
      refine wpAnyH_ready (rs := [28]) (by kernel_rfl) (by simp) ?_
      refine AllReadyH.cons rfl (fun K hK => ?_) AllReadyH.nil
      go_simp
      refine hK.out _ _ (HF.out _ hB) (fun hHeld => ?_)
      clear hK K
      refine wpAnyH_ready (rs := [29]) (by kernel_rfl) (by simp) ?_
      refine AllReadyH.cons rfl (fun K hK => ?_) AllReadyH.nil
      go_simp
      refine hK.out _ _ (HF.out _ hB) (fun hHeld => ?_)
      clear hK K
      refine tkH 30 (.bool false) rfl (Or.inl ⟨by kernel_rfl, by intro w hSw; obtain ⟨s0, s1, s2, s3, s4, s5, s6, s7, s8, s9, s10, s11⟩ := hSw; go_simp⟩) hHeld ?_
      simp only [tkS, Act.put]
      refine tkH 31 (.bool false) rfl (Or.inl ⟨by kernel_rfl, by intro w hSw; obtain ⟨s0, s1, s2, s3, s4, s5, s6, s7, s8, s9, s10, s11⟩ := hSw; go_simp⟩) hHeld ?_
      simp only [tkS, Act.put]
      refine tkH 32 (undef) rfl (Or.inr ⟨by kernel_rfl, rfl⟩) hHeld ?_
      simp only [tkS, Act.put]
      refine wpAnyH_ready (rs := [33]) (by kernel_rfl) (by simp) ?_
      refine AllReadyH.cons rfl (fun K hK => ?_) AllReadyH.nil
      go_simp
      refine hK.out _ _ (HF.out _ hB) (fun hHeld => ?_)
      clear hK K
      refine tkH 34 (.bool false) rfl (Or.inl ⟨by kernel_rfl, by intro w hSw; obtain ⟨s0, s1, s2, s3, s4, s5, s6, s7, s8, s9, s10, s11⟩ := hSw; go_simp⟩) hHeld ?_
      simp only [tkS, Act.put]
      refine tkH 35 (.bool false) rfl (Or.inl ⟨by kernel_rfl, by intro w hSw; obtain ⟨s0, s1, s2, s3, s4, s5, s6, s7, s8, s9, s10, s11⟩ := hSw; go_simp⟩) hHeld ?_
      simp only [tkS, Act.put]
      refine wpAnyH_done (by kernel_rfl) ?_ _
      go_wp2_with fail
      go_ret
      exact ⟨rfl, below_seq (below_alloc _ _) hB⟩
    · rw [decide_eq_true (by omega : 1 ≤ o), Bool.true_and] at hI ⊢
      by_cases h3 : 100 < o
      · rw [decide_eq_false (by omega : ¬ o ≤ 100), Bool.false_and]
        rw [decide_eq_false (by omega : ¬ o ≤ 100)] at hI
        go_enter Tryz.func10, Tryz.ntmps10
        go_wp2_with fail
        refine wp_region_held_drew (S := fun w' => w'.cell? ⟨w.heap.size, 0, none⟩ = some (.int .i64 a) ∧ w'.cell? ⟨w.heap.size, 1, none⟩ = some (.int .i64 s) ∧ w'.cell? ⟨w.heap.size, 2, none⟩ = some (.int .i64 t) ∧ w'.cell? ⟨w.heap.size, 3, none⟩ = some (dv) ∧ w'.cell? ⟨w.heap.size, 4, none⟩ = some (.int .i64 k) ∧ w'.cell? ⟨w.heap.size, 5, none⟩ = some (.int .i64 o) ∧ w'.cell? ⟨w.heap.size, 6, none⟩ = some (.int .i64 n) ∧ w'.cell? ⟨w.heap.size, 7, none⟩ = some (.int .i64 u) ∧ w'.cell? ⟨w.heap.size, 8, none⟩ = some (.int .i64 pt) ∧ w'.cell? ⟨w.heap.size, 9, none⟩ = some (.int .i64 pa) ∧ w'.cell? ⟨w.heap.size, 10, none⟩ = some (.string ky) ∧ w'.cell? ⟨w.heap.size, 11, none⟩ = some (.string tx)) (by kernel_rfl) (HF.out _ hB) (fun hHeld => ?_)
        refine tkH 0 (.agg #[.int .i64 a, .int .i64 s, .int .i64 t, dv, .int .i64 k, .int .i64 o, .int .i64 n, .int .i64 u, .int .i64 pt, .int .i64 pa, .string ky, .string tx]) rfl (Or.inl ⟨by kernel_rfl, by intro w hSw; obtain ⟨s0, s1, s2, s3, s4, s5, s6, s7, s8, s9, s10, s11⟩ := hSw; go_simp⟩) hHeld ?_
        simp only [tkS, Act.put]
        refine wpAnyH_ready (rs := [1]) (by kernel_rfl) (by simp) ?_
        refine AllReadyH.cons rfl (fun K hK => ?_) AllReadyH.nil
        go_simp
        refine (hA _ hB).mono ?_
        rintro e wn ⟨rfl, hbn⟩
        replace hB := below_seq hB hbn
        clear hbn
        go_wp2_with fail
        refine hK.out _ _ (HF.out _ hB) (fun hHeld => ?_)
        clear hK K
        refine tkH 2 (.bool true) rfl (Or.inl ⟨by kernel_rfl, by intro w hSw; obtain ⟨s0, s1, s2, s3, s4, s5, s6, s7, s8, s9, s10, s11⟩ := hSw; go_simp⟩) hHeld ?_
        simp only [tkS, Act.put]
        refine tkH 3 (.pointer (some ⟨w.heap.size, 5, none⟩)) rfl (Or.inl ⟨by kernel_rfl, by intro w hSw; obtain ⟨s0, s1, s2, s3, s4, s5, s6, s7, s8, s9, s10, s11⟩ := hSw; go_simp⟩) hHeld ?_
        simp only [tkS, Act.put]
        refine tkH 4 (.int .i64 o) rfl (Or.inl ⟨by kernel_rfl, by intro w hSw; obtain ⟨s0, s1, s2, s3, s4, s5, s6, s7, s8, s9, s10, s11⟩ := hSw; go_simp⟩) hHeld ?_
        simp only [tkS, Act.put]
        refine wpAnyH_ready (rs := [5]) (by kernel_rfl) (by simp) ?_
        refine AllReadyH.cons rfl (fun K hK => ?_) AllReadyH.nil
        go_simp
        refine (hI _).mono ?_
        rintro e wn ⟨rfl, hbn⟩
        replace hB := below_seq hB hbn
        clear hbn
        go_wp2_with fail
        refine hK.out _ _ (HF.out _ hB) (fun hHeld => ?_)
        clear hK K
        refine tkH 6 (.bool false) rfl (Or.inl ⟨by kernel_rfl, by intro w hSw; obtain ⟨s0, s1, s2, s3, s4, s5, s6, s7, s8, s9, s10, s11⟩ := hSw; go_simp⟩) hHeld ?_
        simp only [tkS, Act.put]
        refine tkH 7 (.bool false) rfl (Or.inl ⟨by kernel_rfl, by intro w hSw; obtain ⟨s0, s1, s2, s3, s4, s5, s6, s7, s8, s9, s10, s11⟩ := hSw; go_simp⟩) hHeld ?_
        simp only [tkS, Act.put]
        refine tkH 8 (undef) rfl (Or.inr ⟨by kernel_rfl, rfl⟩) hHeld ?_
        simp only [tkS, Act.put]
        refine tkH 9 (undef) rfl (Or.inr ⟨by kernel_rfl, rfl⟩) hHeld ?_
        simp only [tkS, Act.put]
        refine tkH 10 (undef) rfl (Or.inr ⟨by kernel_rfl, rfl⟩) hHeld ?_
        simp only [tkS, Act.put]
        refine tkH 11 (.bool false) rfl (Or.inl ⟨by kernel_rfl, by intro w hSw; obtain ⟨s0, s1, s2, s3, s4, s5, s6, s7, s8, s9, s10, s11⟩ := hSw; go_simp⟩) hHeld ?_
        simp only [tkS, Act.put]
        refine tkH 12 (.bool false) rfl (Or.inl ⟨by kernel_rfl, by intro w hSw; obtain ⟨s0, s1, s2, s3, s4, s5, s6, s7, s8, s9, s10, s11⟩ := hSw; go_simp⟩) hHeld ?_
        simp only [tkS, Act.put]
        refine tkH 13 (undef) rfl (Or.inr ⟨by kernel_rfl, rfl⟩) hHeld ?_
        simp only [tkS, Act.put]
        refine tkH 14 (undef) rfl (Or.inr ⟨by kernel_rfl, rfl⟩) hHeld ?_
        simp only [tkS, Act.put]
        refine tkH 15 (undef) rfl (Or.inr ⟨by kernel_rfl, rfl⟩) hHeld ?_
        simp only [tkS, Act.put]
        refine tkH 16 (undef) rfl (Or.inr ⟨by kernel_rfl, rfl⟩) hHeld ?_
        simp only [tkS, Act.put]
        refine tkH 17 (undef) rfl (Or.inr ⟨by kernel_rfl, rfl⟩) hHeld ?_
        simp only [tkS, Act.put]
        refine tkH 18 (.bool false) rfl (Or.inl ⟨by kernel_rfl, by intro w hSw; obtain ⟨s0, s1, s2, s3, s4, s5, s6, s7, s8, s9, s10, s11⟩ := hSw; go_simp⟩) hHeld ?_
        simp only [tkS, Act.put]
        refine tkH 19 (.bool false) rfl (Or.inl ⟨by kernel_rfl, by intro w hSw; obtain ⟨s0, s1, s2, s3, s4, s5, s6, s7, s8, s9, s10, s11⟩ := hSw; go_simp⟩) hHeld ?_
        simp only [tkS, Act.put]
        refine tkH 20 (undef) rfl (Or.inr ⟨by kernel_rfl, rfl⟩) hHeld ?_
        simp only [tkS, Act.put]
        refine tkH 21 (undef) rfl (Or.inr ⟨by kernel_rfl, rfl⟩) hHeld ?_
        simp only [tkS, Act.put]
        refine wpAnyH_ready (rs := [22]) (by kernel_rfl) (by simp) ?_
        refine AllReadyH.cons rfl (fun K hK => ?_) AllReadyH.nil
        go_simp
        refine hK.out _ _ (HF.out _ hB) (fun hHeld => ?_)
        clear hK K
        refine tkH 23 (.bool false) rfl (Or.inl ⟨by kernel_rfl, by intro w hSw; obtain ⟨s0, s1, s2, s3, s4, s5, s6, s7, s8, s9, s10, s11⟩ := hSw; go_simp⟩) hHeld ?_
        simp only [tkS, Act.put]
        refine tkH 24 (.bool false) rfl (Or.inl ⟨by kernel_rfl, by intro w hSw; obtain ⟨s0, s1, s2, s3, s4, s5, s6, s7, s8, s9, s10, s11⟩ := hSw; go_simp⟩) hHeld ?_
        simp only [tkS, Act.put]
        refine tkH 25 (undef) rfl (Or.inr ⟨by kernel_rfl, rfl⟩) hHeld ?_
        simp only [tkS, Act.put]
        refine tkH 26 (undef) rfl (Or.inr ⟨by kernel_rfl, rfl⟩) hHeld ?_
        simp only [tkS, Act.put]
        refine tkH 27 (undef) rfl (Or.inr ⟨by kernel_rfl, rfl⟩) hHeld ?_
        simp only [tkS, Act.put]
        refine wpAnyH_ready (rs := [28]) (by kernel_rfl) (by simp) ?_
        refine AllReadyH.cons rfl (fun K hK => ?_) AllReadyH.nil
        go_simp
        refine hK.out _ _ (HF.out _ hB) (fun hHeld => ?_)
        clear hK K
        refine wpAnyH_ready (rs := [29]) (by kernel_rfl) (by simp) ?_
        refine AllReadyH.cons rfl (fun K hK => ?_) AllReadyH.nil
        go_simp
        refine hK.out _ _ (HF.out _ hB) (fun hHeld => ?_)
        clear hK K
        refine tkH 30 (.bool false) rfl (Or.inl ⟨by kernel_rfl, by intro w hSw; obtain ⟨s0, s1, s2, s3, s4, s5, s6, s7, s8, s9, s10, s11⟩ := hSw; go_simp⟩) hHeld ?_
        simp only [tkS, Act.put]
        refine tkH 31 (.bool false) rfl (Or.inl ⟨by kernel_rfl, by intro w hSw; obtain ⟨s0, s1, s2, s3, s4, s5, s6, s7, s8, s9, s10, s11⟩ := hSw; go_simp⟩) hHeld ?_
        simp only [tkS, Act.put]
        refine tkH 32 (undef) rfl (Or.inr ⟨by kernel_rfl, rfl⟩) hHeld ?_
        simp only [tkS, Act.put]
        refine wpAnyH_ready (rs := [33]) (by kernel_rfl) (by simp) ?_
        refine AllReadyH.cons rfl (fun K hK => ?_) AllReadyH.nil
        go_simp
        refine hK.out _ _ (HF.out _ hB) (fun hHeld => ?_)
        clear hK K
        refine tkH 34 (.bool false) rfl (Or.inl ⟨by kernel_rfl, by intro w hSw; obtain ⟨s0, s1, s2, s3, s4, s5, s6, s7, s8, s9, s10, s11⟩ := hSw; go_simp⟩) hHeld ?_
        simp only [tkS, Act.put]
        refine tkH 35 (.bool false) rfl (Or.inl ⟨by kernel_rfl, by intro w hSw; obtain ⟨s0, s1, s2, s3, s4, s5, s6, s7, s8, s9, s10, s11⟩ := hSw; go_simp⟩) hHeld ?_
        simp only [tkS, Act.put]
        refine wpAnyH_done (by kernel_rfl) ?_ _
        go_wp2_with fail
        go_ret
        exact ⟨rfl, below_seq (below_alloc _ _) hB⟩
      · rw [decide_eq_true (by omega : o ≤ 100), Bool.true_and]
        rw [decide_eq_true (by omega : o ≤ 100)] at hI
        by_cases h4 : u < 0
        · rw [decide_eq_false (by omega), Bool.false_and]
          go_enter Tryz.func10, Tryz.ntmps10
          go_wp2_with fail
          refine wp_region_held_drew (S := fun w' => w'.cell? ⟨w.heap.size, 0, none⟩ = some (.int .i64 a) ∧ w'.cell? ⟨w.heap.size, 1, none⟩ = some (.int .i64 s) ∧ w'.cell? ⟨w.heap.size, 2, none⟩ = some (.int .i64 t) ∧ w'.cell? ⟨w.heap.size, 3, none⟩ = some (dv) ∧ w'.cell? ⟨w.heap.size, 4, none⟩ = some (.int .i64 k) ∧ w'.cell? ⟨w.heap.size, 5, none⟩ = some (.int .i64 o) ∧ w'.cell? ⟨w.heap.size, 6, none⟩ = some (.int .i64 n) ∧ w'.cell? ⟨w.heap.size, 7, none⟩ = some (.int .i64 u) ∧ w'.cell? ⟨w.heap.size, 8, none⟩ = some (.int .i64 pt) ∧ w'.cell? ⟨w.heap.size, 9, none⟩ = some (.int .i64 pa) ∧ w'.cell? ⟨w.heap.size, 10, none⟩ = some (.string ky) ∧ w'.cell? ⟨w.heap.size, 11, none⟩ = some (.string tx)) (by kernel_rfl) (HF.out _ hB) (fun hHeld => ?_)
          refine tkH 0 (.agg #[.int .i64 a, .int .i64 s, .int .i64 t, dv, .int .i64 k, .int .i64 o, .int .i64 n, .int .i64 u, .int .i64 pt, .int .i64 pa, .string ky, .string tx]) rfl (Or.inl ⟨by kernel_rfl, by intro w hSw; obtain ⟨s0, s1, s2, s3, s4, s5, s6, s7, s8, s9, s10, s11⟩ := hSw; go_simp⟩) hHeld ?_
          simp only [tkS, Act.put]
          refine wpAnyH_ready (rs := [1]) (by kernel_rfl) (by simp) ?_
          refine AllReadyH.cons rfl (fun K hK => ?_) AllReadyH.nil
          go_simp
          refine (hA _ hB).mono ?_
          rintro e wn ⟨rfl, hbn⟩
          replace hB := below_seq hB hbn
          clear hbn
          go_wp2_with fail
          refine hK.out _ _ (HF.out _ hB) (fun hHeld => ?_)
          clear hK K
          refine tkH 2 (.bool true) rfl (Or.inl ⟨by kernel_rfl, by intro w hSw; obtain ⟨s0, s1, s2, s3, s4, s5, s6, s7, s8, s9, s10, s11⟩ := hSw; go_simp⟩) hHeld ?_
          simp only [tkS, Act.put]
          refine tkH 3 (.pointer (some ⟨w.heap.size, 5, none⟩)) rfl (Or.inl ⟨by kernel_rfl, by intro w hSw; obtain ⟨s0, s1, s2, s3, s4, s5, s6, s7, s8, s9, s10, s11⟩ := hSw; go_simp⟩) hHeld ?_
          simp only [tkS, Act.put]
          refine tkH 4 (.int .i64 o) rfl (Or.inl ⟨by kernel_rfl, by intro w hSw; obtain ⟨s0, s1, s2, s3, s4, s5, s6, s7, s8, s9, s10, s11⟩ := hSw; go_simp⟩) hHeld ?_
          simp only [tkS, Act.put]
          refine wpAnyH_ready (rs := [5]) (by kernel_rfl) (by simp) ?_
          refine AllReadyH.cons rfl (fun K hK => ?_) AllReadyH.nil
          go_simp
          refine (hI _).mono ?_
          rintro e wn ⟨rfl, hbn⟩
          replace hB := below_seq hB hbn
          clear hbn
          go_wp2_with fail
          refine hK.out _ _ (HF.out _ hB) (fun hHeld => ?_)
          clear hK K
          refine tkH 6 (.bool true) rfl (Or.inl ⟨by kernel_rfl, by intro w hSw; obtain ⟨s0, s1, s2, s3, s4, s5, s6, s7, s8, s9, s10, s11⟩ := hSw; go_simp⟩) hHeld ?_
          simp only [tkS, Act.put]
          refine tkH 7 (.bool true) rfl (Or.inl ⟨by kernel_rfl, by intro w hSw; obtain ⟨s0, s1, s2, s3, s4, s5, s6, s7, s8, s9, s10, s11⟩ := hSw; go_simp⟩) hHeld ?_
          simp only [tkS, Act.put]
          refine tkH 8 (.pointer (some ⟨w.heap.size, 7, none⟩)) rfl (Or.inl ⟨by kernel_rfl, by intro w hSw; obtain ⟨s0, s1, s2, s3, s4, s5, s6, s7, s8, s9, s10, s11⟩ := hSw; go_simp⟩) hHeld ?_
          simp only [tkS, Act.put]
          refine tkH 9 (.int .i64 u) rfl (Or.inl ⟨by kernel_rfl, by intro w hSw; obtain ⟨s0, s1, s2, s3, s4, s5, s6, s7, s8, s9, s10, s11⟩ := hSw; go_simp⟩) hHeld ?_
          simp only [tkS, Act.put]
          refine tkH 10 (.bool false) rfl (Or.inl ⟨by kernel_rfl, by intro w hSw; obtain ⟨s0, s1, s2, s3, s4, s5, s6, s7, s8, s9, s10, s11⟩ := hSw; go_simp⟩) hHeld ?_
          simp only [tkS, Act.put]
          refine tkH 11 (.bool false) rfl (Or.inl ⟨by kernel_rfl, by intro w hSw; obtain ⟨s0, s1, s2, s3, s4, s5, s6, s7, s8, s9, s10, s11⟩ := hSw; go_simp⟩) hHeld ?_
          simp only [tkS, Act.put]
          refine tkH 12 (.bool false) rfl (Or.inl ⟨by kernel_rfl, by intro w hSw; obtain ⟨s0, s1, s2, s3, s4, s5, s6, s7, s8, s9, s10, s11⟩ := hSw; go_simp⟩) hHeld ?_
          simp only [tkS, Act.put]
          refine tkH 13 (undef) rfl (Or.inr ⟨by kernel_rfl, rfl⟩) hHeld ?_
          simp only [tkS, Act.put]
          refine tkH 14 (undef) rfl (Or.inr ⟨by kernel_rfl, rfl⟩) hHeld ?_
          simp only [tkS, Act.put]
          refine tkH 15 (undef) rfl (Or.inr ⟨by kernel_rfl, rfl⟩) hHeld ?_
          simp only [tkS, Act.put]
          refine tkH 16 (undef) rfl (Or.inr ⟨by kernel_rfl, rfl⟩) hHeld ?_
          simp only [tkS, Act.put]
          refine tkH 17 (undef) rfl (Or.inr ⟨by kernel_rfl, rfl⟩) hHeld ?_
          simp only [tkS, Act.put]
          refine tkH 18 (.bool false) rfl (Or.inl ⟨by kernel_rfl, by intro w hSw; obtain ⟨s0, s1, s2, s3, s4, s5, s6, s7, s8, s9, s10, s11⟩ := hSw; go_simp⟩) hHeld ?_
          simp only [tkS, Act.put]
          refine tkH 19 (.bool false) rfl (Or.inl ⟨by kernel_rfl, by intro w hSw; obtain ⟨s0, s1, s2, s3, s4, s5, s6, s7, s8, s9, s10, s11⟩ := hSw; go_simp⟩) hHeld ?_
          simp only [tkS, Act.put]
          refine tkH 20 (undef) rfl (Or.inr ⟨by kernel_rfl, rfl⟩) hHeld ?_
          simp only [tkS, Act.put]
          refine tkH 21 (undef) rfl (Or.inr ⟨by kernel_rfl, rfl⟩) hHeld ?_
          simp only [tkS, Act.put]
          refine wpAnyH_ready (rs := [22]) (by kernel_rfl) (by simp) ?_
          refine AllReadyH.cons rfl (fun K hK => ?_) AllReadyH.nil
          go_simp
          refine hK.out _ _ (HF.out _ hB) (fun hHeld => ?_)
          clear hK K
          refine tkH 23 (.bool false) rfl (Or.inl ⟨by kernel_rfl, by intro w hSw; obtain ⟨s0, s1, s2, s3, s4, s5, s6, s7, s8, s9, s10, s11⟩ := hSw; go_simp⟩) hHeld ?_
          simp only [tkS, Act.put]
          refine tkH 24 (.bool false) rfl (Or.inl ⟨by kernel_rfl, by intro w hSw; obtain ⟨s0, s1, s2, s3, s4, s5, s6, s7, s8, s9, s10, s11⟩ := hSw; go_simp⟩) hHeld ?_
          simp only [tkS, Act.put]
          refine tkH 25 (undef) rfl (Or.inr ⟨by kernel_rfl, rfl⟩) hHeld ?_
          simp only [tkS, Act.put]
          refine tkH 26 (undef) rfl (Or.inr ⟨by kernel_rfl, rfl⟩) hHeld ?_
          simp only [tkS, Act.put]
          refine tkH 27 (undef) rfl (Or.inr ⟨by kernel_rfl, rfl⟩) hHeld ?_
          simp only [tkS, Act.put]
          refine wpAnyH_ready (rs := [28]) (by kernel_rfl) (by simp) ?_
          refine AllReadyH.cons rfl (fun K hK => ?_) AllReadyH.nil
          go_simp
          refine hK.out _ _ (HF.out _ hB) (fun hHeld => ?_)
          clear hK K
          refine wpAnyH_ready (rs := [29]) (by kernel_rfl) (by simp) ?_
          refine AllReadyH.cons rfl (fun K hK => ?_) AllReadyH.nil
          go_simp
          refine hK.out _ _ (HF.out _ hB) (fun hHeld => ?_)
          clear hK K
          refine tkH 30 (.bool false) rfl (Or.inl ⟨by kernel_rfl, by intro w hSw; obtain ⟨s0, s1, s2, s3, s4, s5, s6, s7, s8, s9, s10, s11⟩ := hSw; go_simp⟩) hHeld ?_
          simp only [tkS, Act.put]
          refine tkH 31 (.bool false) rfl (Or.inl ⟨by kernel_rfl, by intro w hSw; obtain ⟨s0, s1, s2, s3, s4, s5, s6, s7, s8, s9, s10, s11⟩ := hSw; go_simp⟩) hHeld ?_
          simp only [tkS, Act.put]
          refine tkH 32 (undef) rfl (Or.inr ⟨by kernel_rfl, rfl⟩) hHeld ?_
          simp only [tkS, Act.put]
          refine wpAnyH_ready (rs := [33]) (by kernel_rfl) (by simp) ?_
          refine AllReadyH.cons rfl (fun K hK => ?_) AllReadyH.nil
          go_simp
          refine hK.out _ _ (HF.out _ hB) (fun hHeld => ?_)
          clear hK K
          refine tkH 34 (.bool false) rfl (Or.inl ⟨by kernel_rfl, by intro w hSw; obtain ⟨s0, s1, s2, s3, s4, s5, s6, s7, s8, s9, s10, s11⟩ := hSw; go_simp⟩) hHeld ?_
          simp only [tkS, Act.put]
          refine tkH 35 (.bool false) rfl (Or.inl ⟨by kernel_rfl, by intro w hSw; obtain ⟨s0, s1, s2, s3, s4, s5, s6, s7, s8, s9, s10, s11⟩ := hSw; go_simp⟩) hHeld ?_
          simp only [tkS, Act.put]
          refine wpAnyH_done (by kernel_rfl) ?_ _
          go_wp2_with fail
          go_ret
          exact ⟨rfl, below_seq (below_alloc _ _) hB⟩
        · rw [decide_eq_true (by omega : 0 ≤ u), Bool.true_and]
          by_cases h5 : u < s
          · rw [decide_eq_true h5, Bool.true_and]
            cases h6 : okS pt pa with
            | false =>
              rw [h6] at hN
              clear h6
              rw [Bool.false_and]
              go_enter Tryz.func10, Tryz.ntmps10
              go_wp2_with fail
              refine wp_region_held_drew (S := fun w' => w'.cell? ⟨w.heap.size, 0, none⟩ = some (.int .i64 a) ∧ w'.cell? ⟨w.heap.size, 1, none⟩ = some (.int .i64 s) ∧ w'.cell? ⟨w.heap.size, 2, none⟩ = some (.int .i64 t) ∧ w'.cell? ⟨w.heap.size, 3, none⟩ = some (dv) ∧ w'.cell? ⟨w.heap.size, 4, none⟩ = some (.int .i64 k) ∧ w'.cell? ⟨w.heap.size, 5, none⟩ = some (.int .i64 o) ∧ w'.cell? ⟨w.heap.size, 6, none⟩ = some (.int .i64 n) ∧ w'.cell? ⟨w.heap.size, 7, none⟩ = some (.int .i64 u) ∧ w'.cell? ⟨w.heap.size, 8, none⟩ = some (.int .i64 pt) ∧ w'.cell? ⟨w.heap.size, 9, none⟩ = some (.int .i64 pa) ∧ w'.cell? ⟨w.heap.size, 10, none⟩ = some (.string ky) ∧ w'.cell? ⟨w.heap.size, 11, none⟩ = some (.string tx)) (by kernel_rfl) (HF.out _ hB) (fun hHeld => ?_)
              refine tkH 0 (.agg #[.int .i64 a, .int .i64 s, .int .i64 t, dv, .int .i64 k, .int .i64 o, .int .i64 n, .int .i64 u, .int .i64 pt, .int .i64 pa, .string ky, .string tx]) rfl (Or.inl ⟨by kernel_rfl, by intro w hSw; obtain ⟨s0, s1, s2, s3, s4, s5, s6, s7, s8, s9, s10, s11⟩ := hSw; go_simp⟩) hHeld ?_
              simp only [tkS, Act.put]
              refine wpAnyH_ready (rs := [1]) (by kernel_rfl) (by simp) ?_
              refine AllReadyH.cons rfl (fun K hK => ?_) AllReadyH.nil
              go_simp
              refine (hA _ hB).mono ?_
              rintro e wn ⟨rfl, hbn⟩
              replace hB := below_seq hB hbn
              clear hbn
              go_wp2_with fail
              refine hK.out _ _ (HF.out _ hB) (fun hHeld => ?_)
              clear hK K
              refine tkH 2 (.bool true) rfl (Or.inl ⟨by kernel_rfl, by intro w hSw; obtain ⟨s0, s1, s2, s3, s4, s5, s6, s7, s8, s9, s10, s11⟩ := hSw; go_simp⟩) hHeld ?_
              simp only [tkS, Act.put]
              refine tkH 3 (.pointer (some ⟨w.heap.size, 5, none⟩)) rfl (Or.inl ⟨by kernel_rfl, by intro w hSw; obtain ⟨s0, s1, s2, s3, s4, s5, s6, s7, s8, s9, s10, s11⟩ := hSw; go_simp⟩) hHeld ?_
              simp only [tkS, Act.put]
              refine tkH 4 (.int .i64 o) rfl (Or.inl ⟨by kernel_rfl, by intro w hSw; obtain ⟨s0, s1, s2, s3, s4, s5, s6, s7, s8, s9, s10, s11⟩ := hSw; go_simp⟩) hHeld ?_
              simp only [tkS, Act.put]
              refine wpAnyH_ready (rs := [5]) (by kernel_rfl) (by simp) ?_
              refine AllReadyH.cons rfl (fun K hK => ?_) AllReadyH.nil
              go_simp
              refine (hI _).mono ?_
              rintro e wn ⟨rfl, hbn⟩
              replace hB := below_seq hB hbn
              clear hbn
              go_wp2_with fail
              refine hK.out _ _ (HF.out _ hB) (fun hHeld => ?_)
              clear hK K
              refine tkH 6 (.bool true) rfl (Or.inl ⟨by kernel_rfl, by intro w hSw; obtain ⟨s0, s1, s2, s3, s4, s5, s6, s7, s8, s9, s10, s11⟩ := hSw; go_simp⟩) hHeld ?_
              simp only [tkS, Act.put]
              refine tkH 7 (.bool true) rfl (Or.inl ⟨by kernel_rfl, by intro w hSw; obtain ⟨s0, s1, s2, s3, s4, s5, s6, s7, s8, s9, s10, s11⟩ := hSw; go_simp⟩) hHeld ?_
              simp only [tkS, Act.put]
              refine tkH 8 (.pointer (some ⟨w.heap.size, 7, none⟩)) rfl (Or.inl ⟨by kernel_rfl, by intro w hSw; obtain ⟨s0, s1, s2, s3, s4, s5, s6, s7, s8, s9, s10, s11⟩ := hSw; go_simp⟩) hHeld ?_
              simp only [tkS, Act.put]
              refine tkH 9 (.int .i64 u) rfl (Or.inl ⟨by kernel_rfl, by intro w hSw; obtain ⟨s0, s1, s2, s3, s4, s5, s6, s7, s8, s9, s10, s11⟩ := hSw; go_simp⟩) hHeld ?_
              simp only [tkS, Act.put]
              refine tkH 10 (.bool true) rfl (Or.inl ⟨by kernel_rfl, by intro w hSw; obtain ⟨s0, s1, s2, s3, s4, s5, s6, s7, s8, s9, s10, s11⟩ := hSw; go_simp⟩) hHeld ?_
              simp only [tkS, Act.put]
              refine tkH 11 (.bool true) rfl (Or.inl ⟨by kernel_rfl, by intro w hSw; obtain ⟨s0, s1, s2, s3, s4, s5, s6, s7, s8, s9, s10, s11⟩ := hSw; go_simp⟩) hHeld ?_
              simp only [tkS, Act.put]
              refine tkH 12 (.bool true) rfl (Or.inl ⟨by kernel_rfl, by intro w hSw; obtain ⟨s0, s1, s2, s3, s4, s5, s6, s7, s8, s9, s10, s11⟩ := hSw; go_simp⟩) hHeld ?_
              simp only [tkS, Act.put]
              refine tkH 13 (.pointer (some ⟨w.heap.size, 7, none⟩)) rfl (Or.inl ⟨by kernel_rfl, by intro w hSw; obtain ⟨s0, s1, s2, s3, s4, s5, s6, s7, s8, s9, s10, s11⟩ := hSw; go_simp⟩) hHeld ?_
              simp only [tkS, Act.put]
              refine tkH 14 (.int .i64 u) rfl (Or.inl ⟨by kernel_rfl, by intro w hSw; obtain ⟨s0, s1, s2, s3, s4, s5, s6, s7, s8, s9, s10, s11⟩ := hSw; go_simp⟩) hHeld ?_
              simp only [tkS, Act.put]
              refine tkH 15 (.pointer (some ⟨w.heap.size, 1, none⟩)) rfl (Or.inl ⟨by kernel_rfl, by intro w hSw; obtain ⟨s0, s1, s2, s3, s4, s5, s6, s7, s8, s9, s10, s11⟩ := hSw; go_simp⟩) hHeld ?_
              simp only [tkS, Act.put]
              refine tkH 16 (.int .i64 s) rfl (Or.inl ⟨by kernel_rfl, by intro w hSw; obtain ⟨s0, s1, s2, s3, s4, s5, s6, s7, s8, s9, s10, s11⟩ := hSw; go_simp⟩) hHeld ?_
              simp only [tkS, Act.put]
              refine tkH 17 (.bool true) rfl (Or.inl ⟨by kernel_rfl, by intro w hSw; obtain ⟨s0, s1, s2, s3, s4, s5, s6, s7, s8, s9, s10, s11⟩ := hSw; go_simp⟩) hHeld ?_
              simp only [tkS, Act.put]
              refine tkH 18 (.bool true) rfl (Or.inl ⟨by kernel_rfl, by intro w hSw; obtain ⟨s0, s1, s2, s3, s4, s5, s6, s7, s8, s9, s10, s11⟩ := hSw; go_simp⟩) hHeld ?_
              simp only [tkS, Act.put]
              refine tkH 19 (.bool true) rfl (Or.inl ⟨by kernel_rfl, by intro w hSw; obtain ⟨s0, s1, s2, s3, s4, s5, s6, s7, s8, s9, s10, s11⟩ := hSw; go_simp⟩) hHeld ?_
              simp only [tkS, Act.put]
              refine tkH 20 (.pointer (some ⟨w.heap.size, 8, none⟩)) rfl (Or.inl ⟨by kernel_rfl, by intro w hSw; obtain ⟨s0, s1, s2, s3, s4, s5, s6, s7, s8, s9, s10, s11⟩ := hSw; go_simp⟩) hHeld ?_
              simp only [tkS, Act.put]
              refine tkH 21 (.agg #[.int .i64 pt, .int .i64 pa]) rfl (Or.inl ⟨by kernel_rfl, by intro w hSw; obtain ⟨s0, s1, s2, s3, s4, s5, s6, s7, s8, s9, s10, s11⟩ := hSw; go_simp⟩) hHeld ?_
              simp only [tkS, Act.put]
              refine wpAnyH_ready (rs := [22]) (by kernel_rfl) (by simp) ?_
              refine AllReadyH.cons rfl (fun K hK => ?_) AllReadyH.nil
              go_simp
              refine (hN _).mono ?_
              rintro e wn ⟨rfl, hbn⟩
              replace hB := below_seq hB hbn
              clear hbn
              go_wp2_with fail
              refine hK.out _ _ (HF.out _ hB) (fun hHeld => ?_)
              clear hK K
              refine tkH 23 (.bool false) rfl (Or.inl ⟨by kernel_rfl, by intro w hSw; obtain ⟨s0, s1, s2, s3, s4, s5, s6, s7, s8, s9, s10, s11⟩ := hSw; go_simp⟩) hHeld ?_
              simp only [tkS, Act.put]
              refine tkH 24 (.bool false) rfl (Or.inl ⟨by kernel_rfl, by intro w hSw; obtain ⟨s0, s1, s2, s3, s4, s5, s6, s7, s8, s9, s10, s11⟩ := hSw; go_simp⟩) hHeld ?_
              simp only [tkS, Act.put]
              refine tkH 25 (undef) rfl (Or.inr ⟨by kernel_rfl, rfl⟩) hHeld ?_
              simp only [tkS, Act.put]
              refine tkH 26 (undef) rfl (Or.inr ⟨by kernel_rfl, rfl⟩) hHeld ?_
              simp only [tkS, Act.put]
              refine tkH 27 (undef) rfl (Or.inr ⟨by kernel_rfl, rfl⟩) hHeld ?_
              simp only [tkS, Act.put]
              refine wpAnyH_ready (rs := [28]) (by kernel_rfl) (by simp) ?_
              refine AllReadyH.cons rfl (fun K hK => ?_) AllReadyH.nil
              go_simp
              refine hK.out _ _ (HF.out _ hB) (fun hHeld => ?_)
              clear hK K
              refine wpAnyH_ready (rs := [29]) (by kernel_rfl) (by simp) ?_
              refine AllReadyH.cons rfl (fun K hK => ?_) AllReadyH.nil
              go_simp
              refine hK.out _ _ (HF.out _ hB) (fun hHeld => ?_)
              clear hK K
              refine tkH 30 (.bool false) rfl (Or.inl ⟨by kernel_rfl, by intro w hSw; obtain ⟨s0, s1, s2, s3, s4, s5, s6, s7, s8, s9, s10, s11⟩ := hSw; go_simp⟩) hHeld ?_
              simp only [tkS, Act.put]
              refine tkH 31 (.bool false) rfl (Or.inl ⟨by kernel_rfl, by intro w hSw; obtain ⟨s0, s1, s2, s3, s4, s5, s6, s7, s8, s9, s10, s11⟩ := hSw; go_simp⟩) hHeld ?_
              simp only [tkS, Act.put]
              refine tkH 32 (undef) rfl (Or.inr ⟨by kernel_rfl, rfl⟩) hHeld ?_
              simp only [tkS, Act.put]
              refine wpAnyH_ready (rs := [33]) (by kernel_rfl) (by simp) ?_
              refine AllReadyH.cons rfl (fun K hK => ?_) AllReadyH.nil
              go_simp
              refine hK.out _ _ (HF.out _ hB) (fun hHeld => ?_)
              clear hK K
              refine tkH 34 (.bool false) rfl (Or.inl ⟨by kernel_rfl, by intro w hSw; obtain ⟨s0, s1, s2, s3, s4, s5, s6, s7, s8, s9, s10, s11⟩ := hSw; go_simp⟩) hHeld ?_
              simp only [tkS, Act.put]
              refine tkH 35 (.bool false) rfl (Or.inl ⟨by kernel_rfl, by intro w hSw; obtain ⟨s0, s1, s2, s3, s4, s5, s6, s7, s8, s9, s10, s11⟩ := hSw; go_simp⟩) hHeld ?_
              simp only [tkS, Act.put]
              refine wpAnyH_done (by kernel_rfl) ?_ _
              go_wp2_with fail
              go_ret
              exact ⟨rfl, below_seq (below_alloc _ _) hB⟩
            | true =>
              rw [h6] at hN
              clear h6
              rw [Bool.true_and]
              cases h7 : lessS pt pa t a with
              | false =>
                rw [h7] at hL
                clear h7
                rw [Bool.false_and]
                go_enter Tryz.func10, Tryz.ntmps10
                go_wp2_with fail
                refine wp_region_held_drew (S := fun w' => w'.cell? ⟨w.heap.size, 0, none⟩ = some (.int .i64 a) ∧ w'.cell? ⟨w.heap.size, 1, none⟩ = some (.int .i64 s) ∧ w'.cell? ⟨w.heap.size, 2, none⟩ = some (.int .i64 t) ∧ w'.cell? ⟨w.heap.size, 3, none⟩ = some (dv) ∧ w'.cell? ⟨w.heap.size, 4, none⟩ = some (.int .i64 k) ∧ w'.cell? ⟨w.heap.size, 5, none⟩ = some (.int .i64 o) ∧ w'.cell? ⟨w.heap.size, 6, none⟩ = some (.int .i64 n) ∧ w'.cell? ⟨w.heap.size, 7, none⟩ = some (.int .i64 u) ∧ w'.cell? ⟨w.heap.size, 8, none⟩ = some (.int .i64 pt) ∧ w'.cell? ⟨w.heap.size, 9, none⟩ = some (.int .i64 pa) ∧ w'.cell? ⟨w.heap.size, 10, none⟩ = some (.string ky) ∧ w'.cell? ⟨w.heap.size, 11, none⟩ = some (.string tx)) (by kernel_rfl) (HF.out _ hB) (fun hHeld => ?_)
                refine tkH 0 (.agg #[.int .i64 a, .int .i64 s, .int .i64 t, dv, .int .i64 k, .int .i64 o, .int .i64 n, .int .i64 u, .int .i64 pt, .int .i64 pa, .string ky, .string tx]) rfl (Or.inl ⟨by kernel_rfl, by intro w hSw; obtain ⟨s0, s1, s2, s3, s4, s5, s6, s7, s8, s9, s10, s11⟩ := hSw; go_simp⟩) hHeld ?_
                simp only [tkS, Act.put]
                refine wpAnyH_ready (rs := [1]) (by kernel_rfl) (by simp) ?_
                refine AllReadyH.cons rfl (fun K hK => ?_) AllReadyH.nil
                go_simp
                refine (hA _ hB).mono ?_
                rintro e wn ⟨rfl, hbn⟩
                replace hB := below_seq hB hbn
                clear hbn
                go_wp2_with fail
                refine hK.out _ _ (HF.out _ hB) (fun hHeld => ?_)
                clear hK K
                refine tkH 2 (.bool true) rfl (Or.inl ⟨by kernel_rfl, by intro w hSw; obtain ⟨s0, s1, s2, s3, s4, s5, s6, s7, s8, s9, s10, s11⟩ := hSw; go_simp⟩) hHeld ?_
                simp only [tkS, Act.put]
                refine tkH 3 (.pointer (some ⟨w.heap.size, 5, none⟩)) rfl (Or.inl ⟨by kernel_rfl, by intro w hSw; obtain ⟨s0, s1, s2, s3, s4, s5, s6, s7, s8, s9, s10, s11⟩ := hSw; go_simp⟩) hHeld ?_
                simp only [tkS, Act.put]
                refine tkH 4 (.int .i64 o) rfl (Or.inl ⟨by kernel_rfl, by intro w hSw; obtain ⟨s0, s1, s2, s3, s4, s5, s6, s7, s8, s9, s10, s11⟩ := hSw; go_simp⟩) hHeld ?_
                simp only [tkS, Act.put]
                refine wpAnyH_ready (rs := [5]) (by kernel_rfl) (by simp) ?_
                refine AllReadyH.cons rfl (fun K hK => ?_) AllReadyH.nil
                go_simp
                refine (hI _).mono ?_
                rintro e wn ⟨rfl, hbn⟩
                replace hB := below_seq hB hbn
                clear hbn
                go_wp2_with fail
                refine hK.out _ _ (HF.out _ hB) (fun hHeld => ?_)
                clear hK K
                refine tkH 6 (.bool true) rfl (Or.inl ⟨by kernel_rfl, by intro w hSw; obtain ⟨s0, s1, s2, s3, s4, s5, s6, s7, s8, s9, s10, s11⟩ := hSw; go_simp⟩) hHeld ?_
                simp only [tkS, Act.put]
                refine tkH 7 (.bool true) rfl (Or.inl ⟨by kernel_rfl, by intro w hSw; obtain ⟨s0, s1, s2, s3, s4, s5, s6, s7, s8, s9, s10, s11⟩ := hSw; go_simp⟩) hHeld ?_
                simp only [tkS, Act.put]
                refine tkH 8 (.pointer (some ⟨w.heap.size, 7, none⟩)) rfl (Or.inl ⟨by kernel_rfl, by intro w hSw; obtain ⟨s0, s1, s2, s3, s4, s5, s6, s7, s8, s9, s10, s11⟩ := hSw; go_simp⟩) hHeld ?_
                simp only [tkS, Act.put]
                refine tkH 9 (.int .i64 u) rfl (Or.inl ⟨by kernel_rfl, by intro w hSw; obtain ⟨s0, s1, s2, s3, s4, s5, s6, s7, s8, s9, s10, s11⟩ := hSw; go_simp⟩) hHeld ?_
                simp only [tkS, Act.put]
                refine tkH 10 (.bool true) rfl (Or.inl ⟨by kernel_rfl, by intro w hSw; obtain ⟨s0, s1, s2, s3, s4, s5, s6, s7, s8, s9, s10, s11⟩ := hSw; go_simp⟩) hHeld ?_
                simp only [tkS, Act.put]
                refine tkH 11 (.bool true) rfl (Or.inl ⟨by kernel_rfl, by intro w hSw; obtain ⟨s0, s1, s2, s3, s4, s5, s6, s7, s8, s9, s10, s11⟩ := hSw; go_simp⟩) hHeld ?_
                simp only [tkS, Act.put]
                refine tkH 12 (.bool true) rfl (Or.inl ⟨by kernel_rfl, by intro w hSw; obtain ⟨s0, s1, s2, s3, s4, s5, s6, s7, s8, s9, s10, s11⟩ := hSw; go_simp⟩) hHeld ?_
                simp only [tkS, Act.put]
                refine tkH 13 (.pointer (some ⟨w.heap.size, 7, none⟩)) rfl (Or.inl ⟨by kernel_rfl, by intro w hSw; obtain ⟨s0, s1, s2, s3, s4, s5, s6, s7, s8, s9, s10, s11⟩ := hSw; go_simp⟩) hHeld ?_
                simp only [tkS, Act.put]
                refine tkH 14 (.int .i64 u) rfl (Or.inl ⟨by kernel_rfl, by intro w hSw; obtain ⟨s0, s1, s2, s3, s4, s5, s6, s7, s8, s9, s10, s11⟩ := hSw; go_simp⟩) hHeld ?_
                simp only [tkS, Act.put]
                refine tkH 15 (.pointer (some ⟨w.heap.size, 1, none⟩)) rfl (Or.inl ⟨by kernel_rfl, by intro w hSw; obtain ⟨s0, s1, s2, s3, s4, s5, s6, s7, s8, s9, s10, s11⟩ := hSw; go_simp⟩) hHeld ?_
                simp only [tkS, Act.put]
                refine tkH 16 (.int .i64 s) rfl (Or.inl ⟨by kernel_rfl, by intro w hSw; obtain ⟨s0, s1, s2, s3, s4, s5, s6, s7, s8, s9, s10, s11⟩ := hSw; go_simp⟩) hHeld ?_
                simp only [tkS, Act.put]
                refine tkH 17 (.bool true) rfl (Or.inl ⟨by kernel_rfl, by intro w hSw; obtain ⟨s0, s1, s2, s3, s4, s5, s6, s7, s8, s9, s10, s11⟩ := hSw; go_simp⟩) hHeld ?_
                simp only [tkS, Act.put]
                refine tkH 18 (.bool true) rfl (Or.inl ⟨by kernel_rfl, by intro w hSw; obtain ⟨s0, s1, s2, s3, s4, s5, s6, s7, s8, s9, s10, s11⟩ := hSw; go_simp⟩) hHeld ?_
                simp only [tkS, Act.put]
                refine tkH 19 (.bool true) rfl (Or.inl ⟨by kernel_rfl, by intro w hSw; obtain ⟨s0, s1, s2, s3, s4, s5, s6, s7, s8, s9, s10, s11⟩ := hSw; go_simp⟩) hHeld ?_
                simp only [tkS, Act.put]
                refine tkH 20 (.pointer (some ⟨w.heap.size, 8, none⟩)) rfl (Or.inl ⟨by kernel_rfl, by intro w hSw; obtain ⟨s0, s1, s2, s3, s4, s5, s6, s7, s8, s9, s10, s11⟩ := hSw; go_simp⟩) hHeld ?_
                simp only [tkS, Act.put]
                refine tkH 21 (.agg #[.int .i64 pt, .int .i64 pa]) rfl (Or.inl ⟨by kernel_rfl, by intro w hSw; obtain ⟨s0, s1, s2, s3, s4, s5, s6, s7, s8, s9, s10, s11⟩ := hSw; go_simp⟩) hHeld ?_
                simp only [tkS, Act.put]
                refine wpAnyH_ready (rs := [22]) (by kernel_rfl) (by simp) ?_
                refine AllReadyH.cons rfl (fun K hK => ?_) AllReadyH.nil
                go_simp
                refine (hN _).mono ?_
                rintro e wn ⟨rfl, hbn⟩
                replace hB := below_seq hB hbn
                clear hbn
                go_wp2_with fail
                refine hK.out _ _ (HF.out _ hB) (fun hHeld => ?_)
                clear hK K
                refine tkH 23 (.bool true) rfl (Or.inl ⟨by kernel_rfl, by intro w hSw; obtain ⟨s0, s1, s2, s3, s4, s5, s6, s7, s8, s9, s10, s11⟩ := hSw; go_simp⟩) hHeld ?_
                simp only [tkS, Act.put]
                refine tkH 24 (.bool true) rfl (Or.inl ⟨by kernel_rfl, by intro w hSw; obtain ⟨s0, s1, s2, s3, s4, s5, s6, s7, s8, s9, s10, s11⟩ := hSw; go_simp⟩) hHeld ?_
                simp only [tkS, Act.put]
                refine tkH 25 (.pointer (some ⟨w.heap.size, 8, none⟩)) rfl (Or.inl ⟨by kernel_rfl, by intro w hSw; obtain ⟨s0, s1, s2, s3, s4, s5, s6, s7, s8, s9, s10, s11⟩ := hSw; go_simp⟩) hHeld ?_
                simp only [tkS, Act.put]
                refine tkH 26 (.agg #[.int .i64 pt, .int .i64 pa]) rfl (Or.inl ⟨by kernel_rfl, by intro w hSw; obtain ⟨s0, s1, s2, s3, s4, s5, s6, s7, s8, s9, s10, s11⟩ := hSw; go_simp⟩) hHeld ?_
                simp only [tkS, Act.put]
                refine tkH 27 (.agg #[.int .i64 a, .int .i64 s, .int .i64 t, dv, .int .i64 k, .int .i64 o, .int .i64 n, .int .i64 u, .int .i64 pt, .int .i64 pa, .string ky, .string tx]) rfl (Or.inl ⟨by kernel_rfl, by intro w hSw; obtain ⟨s0, s1, s2, s3, s4, s5, s6, s7, s8, s9, s10, s11⟩ := hSw; go_simp⟩) hHeld ?_
                simp only [tkS, Act.put]
                refine wpAnyH_ready (rs := [28]) (by kernel_rfl) (by simp) ?_
                refine AllReadyH.cons rfl (fun K hK => ?_) AllReadyH.nil
                go_simp
                refine (opStamp_any _ _ _ _ _ _ _ _ _ _ _ _ _).mono ?_
                rintro e wn ⟨rfl, hbn⟩
                replace hB := below_seq hB hbn
                clear hbn
                go_wp2_with fail
                refine hK.out _ _ (HF.out _ hB) (fun hHeld => ?_)
                clear hK K
                refine wpAnyH_ready (rs := [29]) (by kernel_rfl) (by simp) ?_
                refine AllReadyH.cons rfl (fun K hK => ?_) AllReadyH.nil
                go_simp
                refine (hL _).mono ?_
                rintro e wn ⟨rfl, hbn⟩
                replace hB := below_seq hB hbn
                clear hbn
                go_wp2_with fail
                refine hK.out _ _ (HF.out _ hB) (fun hHeld => ?_)
                clear hK K
                refine tkH 30 (.bool false) rfl (Or.inl ⟨by kernel_rfl, by intro w hSw; obtain ⟨s0, s1, s2, s3, s4, s5, s6, s7, s8, s9, s10, s11⟩ := hSw; go_simp⟩) hHeld ?_
                simp only [tkS, Act.put]
                refine tkH 31 (.bool false) rfl (Or.inl ⟨by kernel_rfl, by intro w hSw; obtain ⟨s0, s1, s2, s3, s4, s5, s6, s7, s8, s9, s10, s11⟩ := hSw; go_simp⟩) hHeld ?_
                simp only [tkS, Act.put]
                refine tkH 32 (undef) rfl (Or.inr ⟨by kernel_rfl, rfl⟩) hHeld ?_
                simp only [tkS, Act.put]
                refine wpAnyH_ready (rs := [33]) (by kernel_rfl) (by simp) ?_
                refine AllReadyH.cons rfl (fun K hK => ?_) AllReadyH.nil
                go_simp
                refine hK.out _ _ (HF.out _ hB) (fun hHeld => ?_)
                clear hK K
                refine tkH 34 (.bool false) rfl (Or.inl ⟨by kernel_rfl, by intro w hSw; obtain ⟨s0, s1, s2, s3, s4, s5, s6, s7, s8, s9, s10, s11⟩ := hSw; go_simp⟩) hHeld ?_
                simp only [tkS, Act.put]
                refine tkH 35 (.bool false) rfl (Or.inl ⟨by kernel_rfl, by intro w hSw; obtain ⟨s0, s1, s2, s3, s4, s5, s6, s7, s8, s9, s10, s11⟩ := hSw; go_simp⟩) hHeld ?_
                simp only [tkS, Act.put]
                refine wpAnyH_done (by kernel_rfl) ?_ _
                go_wp2_with fail
                go_ret
                exact ⟨rfl, below_seq (below_alloc _ _) hB⟩
              | true =>
                rw [h7] at hL
                clear h7
                rw [Bool.true_and]
                go_enter Tryz.func10, Tryz.ntmps10
                go_wp2_with fail
                refine wp_region_held_drew (S := fun w' => w'.cell? ⟨w.heap.size, 0, none⟩ = some (.int .i64 a) ∧ w'.cell? ⟨w.heap.size, 1, none⟩ = some (.int .i64 s) ∧ w'.cell? ⟨w.heap.size, 2, none⟩ = some (.int .i64 t) ∧ w'.cell? ⟨w.heap.size, 3, none⟩ = some (dv) ∧ w'.cell? ⟨w.heap.size, 4, none⟩ = some (.int .i64 k) ∧ w'.cell? ⟨w.heap.size, 5, none⟩ = some (.int .i64 o) ∧ w'.cell? ⟨w.heap.size, 6, none⟩ = some (.int .i64 n) ∧ w'.cell? ⟨w.heap.size, 7, none⟩ = some (.int .i64 u) ∧ w'.cell? ⟨w.heap.size, 8, none⟩ = some (.int .i64 pt) ∧ w'.cell? ⟨w.heap.size, 9, none⟩ = some (.int .i64 pa) ∧ w'.cell? ⟨w.heap.size, 10, none⟩ = some (.string ky) ∧ w'.cell? ⟨w.heap.size, 11, none⟩ = some (.string tx)) (by kernel_rfl) (HF.out _ hB) (fun hHeld => ?_)
                refine tkH 0 (.agg #[.int .i64 a, .int .i64 s, .int .i64 t, dv, .int .i64 k, .int .i64 o, .int .i64 n, .int .i64 u, .int .i64 pt, .int .i64 pa, .string ky, .string tx]) rfl (Or.inl ⟨by kernel_rfl, by intro w hSw; obtain ⟨s0, s1, s2, s3, s4, s5, s6, s7, s8, s9, s10, s11⟩ := hSw; go_simp⟩) hHeld ?_
                simp only [tkS, Act.put]
                refine wpAnyH_ready (rs := [1]) (by kernel_rfl) (by simp) ?_
                refine AllReadyH.cons rfl (fun K hK => ?_) AllReadyH.nil
                go_simp
                refine (hA _ hB).mono ?_
                rintro e wn ⟨rfl, hbn⟩
                replace hB := below_seq hB hbn
                clear hbn
                go_wp2_with fail
                refine hK.out _ _ (HF.out _ hB) (fun hHeld => ?_)
                clear hK K
                refine tkH 2 (.bool true) rfl (Or.inl ⟨by kernel_rfl, by intro w hSw; obtain ⟨s0, s1, s2, s3, s4, s5, s6, s7, s8, s9, s10, s11⟩ := hSw; go_simp⟩) hHeld ?_
                simp only [tkS, Act.put]
                refine tkH 3 (.pointer (some ⟨w.heap.size, 5, none⟩)) rfl (Or.inl ⟨by kernel_rfl, by intro w hSw; obtain ⟨s0, s1, s2, s3, s4, s5, s6, s7, s8, s9, s10, s11⟩ := hSw; go_simp⟩) hHeld ?_
                simp only [tkS, Act.put]
                refine tkH 4 (.int .i64 o) rfl (Or.inl ⟨by kernel_rfl, by intro w hSw; obtain ⟨s0, s1, s2, s3, s4, s5, s6, s7, s8, s9, s10, s11⟩ := hSw; go_simp⟩) hHeld ?_
                simp only [tkS, Act.put]
                refine wpAnyH_ready (rs := [5]) (by kernel_rfl) (by simp) ?_
                refine AllReadyH.cons rfl (fun K hK => ?_) AllReadyH.nil
                go_simp
                refine (hI _).mono ?_
                rintro e wn ⟨rfl, hbn⟩
                replace hB := below_seq hB hbn
                clear hbn
                go_wp2_with fail
                refine hK.out _ _ (HF.out _ hB) (fun hHeld => ?_)
                clear hK K
                refine tkH 6 (.bool true) rfl (Or.inl ⟨by kernel_rfl, by intro w hSw; obtain ⟨s0, s1, s2, s3, s4, s5, s6, s7, s8, s9, s10, s11⟩ := hSw; go_simp⟩) hHeld ?_
                simp only [tkS, Act.put]
                refine tkH 7 (.bool true) rfl (Or.inl ⟨by kernel_rfl, by intro w hSw; obtain ⟨s0, s1, s2, s3, s4, s5, s6, s7, s8, s9, s10, s11⟩ := hSw; go_simp⟩) hHeld ?_
                simp only [tkS, Act.put]
                refine tkH 8 (.pointer (some ⟨w.heap.size, 7, none⟩)) rfl (Or.inl ⟨by kernel_rfl, by intro w hSw; obtain ⟨s0, s1, s2, s3, s4, s5, s6, s7, s8, s9, s10, s11⟩ := hSw; go_simp⟩) hHeld ?_
                simp only [tkS, Act.put]
                refine tkH 9 (.int .i64 u) rfl (Or.inl ⟨by kernel_rfl, by intro w hSw; obtain ⟨s0, s1, s2, s3, s4, s5, s6, s7, s8, s9, s10, s11⟩ := hSw; go_simp⟩) hHeld ?_
                simp only [tkS, Act.put]
                refine tkH 10 (.bool true) rfl (Or.inl ⟨by kernel_rfl, by intro w hSw; obtain ⟨s0, s1, s2, s3, s4, s5, s6, s7, s8, s9, s10, s11⟩ := hSw; go_simp⟩) hHeld ?_
                simp only [tkS, Act.put]
                refine tkH 11 (.bool true) rfl (Or.inl ⟨by kernel_rfl, by intro w hSw; obtain ⟨s0, s1, s2, s3, s4, s5, s6, s7, s8, s9, s10, s11⟩ := hSw; go_simp⟩) hHeld ?_
                simp only [tkS, Act.put]
                refine tkH 12 (.bool true) rfl (Or.inl ⟨by kernel_rfl, by intro w hSw; obtain ⟨s0, s1, s2, s3, s4, s5, s6, s7, s8, s9, s10, s11⟩ := hSw; go_simp⟩) hHeld ?_
                simp only [tkS, Act.put]
                refine tkH 13 (.pointer (some ⟨w.heap.size, 7, none⟩)) rfl (Or.inl ⟨by kernel_rfl, by intro w hSw; obtain ⟨s0, s1, s2, s3, s4, s5, s6, s7, s8, s9, s10, s11⟩ := hSw; go_simp⟩) hHeld ?_
                simp only [tkS, Act.put]
                refine tkH 14 (.int .i64 u) rfl (Or.inl ⟨by kernel_rfl, by intro w hSw; obtain ⟨s0, s1, s2, s3, s4, s5, s6, s7, s8, s9, s10, s11⟩ := hSw; go_simp⟩) hHeld ?_
                simp only [tkS, Act.put]
                refine tkH 15 (.pointer (some ⟨w.heap.size, 1, none⟩)) rfl (Or.inl ⟨by kernel_rfl, by intro w hSw; obtain ⟨s0, s1, s2, s3, s4, s5, s6, s7, s8, s9, s10, s11⟩ := hSw; go_simp⟩) hHeld ?_
                simp only [tkS, Act.put]
                refine tkH 16 (.int .i64 s) rfl (Or.inl ⟨by kernel_rfl, by intro w hSw; obtain ⟨s0, s1, s2, s3, s4, s5, s6, s7, s8, s9, s10, s11⟩ := hSw; go_simp⟩) hHeld ?_
                simp only [tkS, Act.put]
                refine tkH 17 (.bool true) rfl (Or.inl ⟨by kernel_rfl, by intro w hSw; obtain ⟨s0, s1, s2, s3, s4, s5, s6, s7, s8, s9, s10, s11⟩ := hSw; go_simp⟩) hHeld ?_
                simp only [tkS, Act.put]
                refine tkH 18 (.bool true) rfl (Or.inl ⟨by kernel_rfl, by intro w hSw; obtain ⟨s0, s1, s2, s3, s4, s5, s6, s7, s8, s9, s10, s11⟩ := hSw; go_simp⟩) hHeld ?_
                simp only [tkS, Act.put]
                refine tkH 19 (.bool true) rfl (Or.inl ⟨by kernel_rfl, by intro w hSw; obtain ⟨s0, s1, s2, s3, s4, s5, s6, s7, s8, s9, s10, s11⟩ := hSw; go_simp⟩) hHeld ?_
                simp only [tkS, Act.put]
                refine tkH 20 (.pointer (some ⟨w.heap.size, 8, none⟩)) rfl (Or.inl ⟨by kernel_rfl, by intro w hSw; obtain ⟨s0, s1, s2, s3, s4, s5, s6, s7, s8, s9, s10, s11⟩ := hSw; go_simp⟩) hHeld ?_
                simp only [tkS, Act.put]
                refine tkH 21 (.agg #[.int .i64 pt, .int .i64 pa]) rfl (Or.inl ⟨by kernel_rfl, by intro w hSw; obtain ⟨s0, s1, s2, s3, s4, s5, s6, s7, s8, s9, s10, s11⟩ := hSw; go_simp⟩) hHeld ?_
                simp only [tkS, Act.put]
                refine wpAnyH_ready (rs := [22]) (by kernel_rfl) (by simp) ?_
                refine AllReadyH.cons rfl (fun K hK => ?_) AllReadyH.nil
                go_simp
                refine (hN _).mono ?_
                rintro e wn ⟨rfl, hbn⟩
                replace hB := below_seq hB hbn
                clear hbn
                go_wp2_with fail
                refine hK.out _ _ (HF.out _ hB) (fun hHeld => ?_)
                clear hK K
                refine tkH 23 (.bool true) rfl (Or.inl ⟨by kernel_rfl, by intro w hSw; obtain ⟨s0, s1, s2, s3, s4, s5, s6, s7, s8, s9, s10, s11⟩ := hSw; go_simp⟩) hHeld ?_
                simp only [tkS, Act.put]
                refine tkH 24 (.bool true) rfl (Or.inl ⟨by kernel_rfl, by intro w hSw; obtain ⟨s0, s1, s2, s3, s4, s5, s6, s7, s8, s9, s10, s11⟩ := hSw; go_simp⟩) hHeld ?_
                simp only [tkS, Act.put]
                refine tkH 25 (.pointer (some ⟨w.heap.size, 8, none⟩)) rfl (Or.inl ⟨by kernel_rfl, by intro w hSw; obtain ⟨s0, s1, s2, s3, s4, s5, s6, s7, s8, s9, s10, s11⟩ := hSw; go_simp⟩) hHeld ?_
                simp only [tkS, Act.put]
                refine tkH 26 (.agg #[.int .i64 pt, .int .i64 pa]) rfl (Or.inl ⟨by kernel_rfl, by intro w hSw; obtain ⟨s0, s1, s2, s3, s4, s5, s6, s7, s8, s9, s10, s11⟩ := hSw; go_simp⟩) hHeld ?_
                simp only [tkS, Act.put]
                refine tkH 27 (.agg #[.int .i64 a, .int .i64 s, .int .i64 t, dv, .int .i64 k, .int .i64 o, .int .i64 n, .int .i64 u, .int .i64 pt, .int .i64 pa, .string ky, .string tx]) rfl (Or.inl ⟨by kernel_rfl, by intro w hSw; obtain ⟨s0, s1, s2, s3, s4, s5, s6, s7, s8, s9, s10, s11⟩ := hSw; go_simp⟩) hHeld ?_
                simp only [tkS, Act.put]
                refine wpAnyH_ready (rs := [28]) (by kernel_rfl) (by simp) ?_
                refine AllReadyH.cons rfl (fun K hK => ?_) AllReadyH.nil
                go_simp
                refine (opStamp_any _ _ _ _ _ _ _ _ _ _ _ _ _).mono ?_
                rintro e wn ⟨rfl, hbn⟩
                replace hB := below_seq hB hbn
                clear hbn
                go_wp2_with fail
                refine hK.out _ _ (HF.out _ hB) (fun hHeld => ?_)
                clear hK K
                refine wpAnyH_ready (rs := [29]) (by kernel_rfl) (by simp) ?_
                refine AllReadyH.cons rfl (fun K hK => ?_) AllReadyH.nil
                go_simp
                refine (hL _).mono ?_
                rintro e wn ⟨rfl, hbn⟩
                replace hB := below_seq hB hbn
                clear hbn
                go_wp2_with fail
                refine hK.out _ _ (HF.out _ hB) (fun hHeld => ?_)
                clear hK K
                refine tkH 30 (.bool true) rfl (Or.inl ⟨by kernel_rfl, by intro w hSw; obtain ⟨s0, s1, s2, s3, s4, s5, s6, s7, s8, s9, s10, s11⟩ := hSw; go_simp⟩) hHeld ?_
                simp only [tkS, Act.put]
                refine tkH 31 (.bool true) rfl (Or.inl ⟨by kernel_rfl, by intro w hSw; obtain ⟨s0, s1, s2, s3, s4, s5, s6, s7, s8, s9, s10, s11⟩ := hSw; go_simp⟩) hHeld ?_
                simp only [tkS, Act.put]
                refine tkH 32 (.agg #[.int .i64 a, .int .i64 s, .int .i64 t, dv, .int .i64 k, .int .i64 o, .int .i64 n, .int .i64 u, .int .i64 pt, .int .i64 pa, .string ky, .string tx]) rfl (Or.inl ⟨by kernel_rfl, by intro w hSw; obtain ⟨s0, s1, s2, s3, s4, s5, s6, s7, s8, s9, s10, s11⟩ := hSw; go_simp⟩) hHeld ?_
                simp only [tkS, Act.put]
                refine wpAnyH_ready (rs := [33]) (by kernel_rfl) (by simp) ?_
                refine AllReadyH.cons rfl (fun K hK => ?_) AllReadyH.nil
                go_simp
                refine (opSaysOK_any _ _ _ _ _ _ _ _ _ _ _ _ _).mono ?_
                rintro e wn ⟨rfl, hbn⟩
                replace hB := below_seq hB hbn
                clear hbn
                go_wp2_with fail
                refine hK.out _ _ (HF.out _ hB) (fun hHeld => ?_)
                clear hK K
                refine tkH 34 (.bool (saysOK k n pt pa ky tx)) rfl (Or.inl ⟨by kernel_rfl, by intro w hSw; obtain ⟨s0, s1, s2, s3, s4, s5, s6, s7, s8, s9, s10, s11⟩ := hSw; go_simp⟩) hHeld ?_
                simp only [tkS, Act.put]
                refine tkH 35 (.bool (saysOK k n pt pa ky tx)) rfl (Or.inl ⟨by kernel_rfl, by intro w hSw; obtain ⟨s0, s1, s2, s3, s4, s5, s6, s7, s8, s9, s10, s11⟩ := hSw; go_simp⟩) hHeld ?_
                simp only [tkS, Act.put]
                refine wpAnyH_done (by kernel_rfl) ?_ _
                go_wp2_with fail
                go_ret
                exact ⟨rfl, below_seq (below_alloc _ _) hB⟩
          · rw [decide_eq_false h5, Bool.false_and]
            go_enter Tryz.func10, Tryz.ntmps10
            go_wp2_with fail
            refine wp_region_held_drew (S := fun w' => w'.cell? ⟨w.heap.size, 0, none⟩ = some (.int .i64 a) ∧ w'.cell? ⟨w.heap.size, 1, none⟩ = some (.int .i64 s) ∧ w'.cell? ⟨w.heap.size, 2, none⟩ = some (.int .i64 t) ∧ w'.cell? ⟨w.heap.size, 3, none⟩ = some (dv) ∧ w'.cell? ⟨w.heap.size, 4, none⟩ = some (.int .i64 k) ∧ w'.cell? ⟨w.heap.size, 5, none⟩ = some (.int .i64 o) ∧ w'.cell? ⟨w.heap.size, 6, none⟩ = some (.int .i64 n) ∧ w'.cell? ⟨w.heap.size, 7, none⟩ = some (.int .i64 u) ∧ w'.cell? ⟨w.heap.size, 8, none⟩ = some (.int .i64 pt) ∧ w'.cell? ⟨w.heap.size, 9, none⟩ = some (.int .i64 pa) ∧ w'.cell? ⟨w.heap.size, 10, none⟩ = some (.string ky) ∧ w'.cell? ⟨w.heap.size, 11, none⟩ = some (.string tx)) (by kernel_rfl) (HF.out _ hB) (fun hHeld => ?_)
            refine tkH 0 (.agg #[.int .i64 a, .int .i64 s, .int .i64 t, dv, .int .i64 k, .int .i64 o, .int .i64 n, .int .i64 u, .int .i64 pt, .int .i64 pa, .string ky, .string tx]) rfl (Or.inl ⟨by kernel_rfl, by intro w hSw; obtain ⟨s0, s1, s2, s3, s4, s5, s6, s7, s8, s9, s10, s11⟩ := hSw; go_simp⟩) hHeld ?_
            simp only [tkS, Act.put]
            refine wpAnyH_ready (rs := [1]) (by kernel_rfl) (by simp) ?_
            refine AllReadyH.cons rfl (fun K hK => ?_) AllReadyH.nil
            go_simp
            refine (hA _ hB).mono ?_
            rintro e wn ⟨rfl, hbn⟩
            replace hB := below_seq hB hbn
            clear hbn
            go_wp2_with fail
            refine hK.out _ _ (HF.out _ hB) (fun hHeld => ?_)
            clear hK K
            refine tkH 2 (.bool true) rfl (Or.inl ⟨by kernel_rfl, by intro w hSw; obtain ⟨s0, s1, s2, s3, s4, s5, s6, s7, s8, s9, s10, s11⟩ := hSw; go_simp⟩) hHeld ?_
            simp only [tkS, Act.put]
            refine tkH 3 (.pointer (some ⟨w.heap.size, 5, none⟩)) rfl (Or.inl ⟨by kernel_rfl, by intro w hSw; obtain ⟨s0, s1, s2, s3, s4, s5, s6, s7, s8, s9, s10, s11⟩ := hSw; go_simp⟩) hHeld ?_
            simp only [tkS, Act.put]
            refine tkH 4 (.int .i64 o) rfl (Or.inl ⟨by kernel_rfl, by intro w hSw; obtain ⟨s0, s1, s2, s3, s4, s5, s6, s7, s8, s9, s10, s11⟩ := hSw; go_simp⟩) hHeld ?_
            simp only [tkS, Act.put]
            refine wpAnyH_ready (rs := [5]) (by kernel_rfl) (by simp) ?_
            refine AllReadyH.cons rfl (fun K hK => ?_) AllReadyH.nil
            go_simp
            refine (hI _).mono ?_
            rintro e wn ⟨rfl, hbn⟩
            replace hB := below_seq hB hbn
            clear hbn
            go_wp2_with fail
            refine hK.out _ _ (HF.out _ hB) (fun hHeld => ?_)
            clear hK K
            refine tkH 6 (.bool true) rfl (Or.inl ⟨by kernel_rfl, by intro w hSw; obtain ⟨s0, s1, s2, s3, s4, s5, s6, s7, s8, s9, s10, s11⟩ := hSw; go_simp⟩) hHeld ?_
            simp only [tkS, Act.put]
            refine tkH 7 (.bool true) rfl (Or.inl ⟨by kernel_rfl, by intro w hSw; obtain ⟨s0, s1, s2, s3, s4, s5, s6, s7, s8, s9, s10, s11⟩ := hSw; go_simp⟩) hHeld ?_
            simp only [tkS, Act.put]
            refine tkH 8 (.pointer (some ⟨w.heap.size, 7, none⟩)) rfl (Or.inl ⟨by kernel_rfl, by intro w hSw; obtain ⟨s0, s1, s2, s3, s4, s5, s6, s7, s8, s9, s10, s11⟩ := hSw; go_simp⟩) hHeld ?_
            simp only [tkS, Act.put]
            refine tkH 9 (.int .i64 u) rfl (Or.inl ⟨by kernel_rfl, by intro w hSw; obtain ⟨s0, s1, s2, s3, s4, s5, s6, s7, s8, s9, s10, s11⟩ := hSw; go_simp⟩) hHeld ?_
            simp only [tkS, Act.put]
            refine tkH 10 (.bool true) rfl (Or.inl ⟨by kernel_rfl, by intro w hSw; obtain ⟨s0, s1, s2, s3, s4, s5, s6, s7, s8, s9, s10, s11⟩ := hSw; go_simp⟩) hHeld ?_
            simp only [tkS, Act.put]
            refine tkH 11 (.bool true) rfl (Or.inl ⟨by kernel_rfl, by intro w hSw; obtain ⟨s0, s1, s2, s3, s4, s5, s6, s7, s8, s9, s10, s11⟩ := hSw; go_simp⟩) hHeld ?_
            simp only [tkS, Act.put]
            refine tkH 12 (.bool true) rfl (Or.inl ⟨by kernel_rfl, by intro w hSw; obtain ⟨s0, s1, s2, s3, s4, s5, s6, s7, s8, s9, s10, s11⟩ := hSw; go_simp⟩) hHeld ?_
            simp only [tkS, Act.put]
            refine tkH 13 (.pointer (some ⟨w.heap.size, 7, none⟩)) rfl (Or.inl ⟨by kernel_rfl, by intro w hSw; obtain ⟨s0, s1, s2, s3, s4, s5, s6, s7, s8, s9, s10, s11⟩ := hSw; go_simp⟩) hHeld ?_
            simp only [tkS, Act.put]
            refine tkH 14 (.int .i64 u) rfl (Or.inl ⟨by kernel_rfl, by intro w hSw; obtain ⟨s0, s1, s2, s3, s4, s5, s6, s7, s8, s9, s10, s11⟩ := hSw; go_simp⟩) hHeld ?_
            simp only [tkS, Act.put]
            refine tkH 15 (.pointer (some ⟨w.heap.size, 1, none⟩)) rfl (Or.inl ⟨by kernel_rfl, by intro w hSw; obtain ⟨s0, s1, s2, s3, s4, s5, s6, s7, s8, s9, s10, s11⟩ := hSw; go_simp⟩) hHeld ?_
            simp only [tkS, Act.put]
            refine tkH 16 (.int .i64 s) rfl (Or.inl ⟨by kernel_rfl, by intro w hSw; obtain ⟨s0, s1, s2, s3, s4, s5, s6, s7, s8, s9, s10, s11⟩ := hSw; go_simp⟩) hHeld ?_
            simp only [tkS, Act.put]
            refine tkH 17 (.bool false) rfl (Or.inl ⟨by kernel_rfl, by intro w hSw; obtain ⟨s0, s1, s2, s3, s4, s5, s6, s7, s8, s9, s10, s11⟩ := hSw; go_simp⟩) hHeld ?_
            simp only [tkS, Act.put]
            refine tkH 18 (.bool false) rfl (Or.inl ⟨by kernel_rfl, by intro w hSw; obtain ⟨s0, s1, s2, s3, s4, s5, s6, s7, s8, s9, s10, s11⟩ := hSw; go_simp⟩) hHeld ?_
            simp only [tkS, Act.put]
            refine tkH 19 (.bool false) rfl (Or.inl ⟨by kernel_rfl, by intro w hSw; obtain ⟨s0, s1, s2, s3, s4, s5, s6, s7, s8, s9, s10, s11⟩ := hSw; go_simp⟩) hHeld ?_
            simp only [tkS, Act.put]
            refine tkH 20 (undef) rfl (Or.inr ⟨by kernel_rfl, rfl⟩) hHeld ?_
            simp only [tkS, Act.put]
            refine tkH 21 (undef) rfl (Or.inr ⟨by kernel_rfl, rfl⟩) hHeld ?_
            simp only [tkS, Act.put]
            refine wpAnyH_ready (rs := [22]) (by kernel_rfl) (by simp) ?_
            refine AllReadyH.cons rfl (fun K hK => ?_) AllReadyH.nil
            go_simp
            refine hK.out _ _ (HF.out _ hB) (fun hHeld => ?_)
            clear hK K
            refine tkH 23 (.bool false) rfl (Or.inl ⟨by kernel_rfl, by intro w hSw; obtain ⟨s0, s1, s2, s3, s4, s5, s6, s7, s8, s9, s10, s11⟩ := hSw; go_simp⟩) hHeld ?_
            simp only [tkS, Act.put]
            refine tkH 24 (.bool false) rfl (Or.inl ⟨by kernel_rfl, by intro w hSw; obtain ⟨s0, s1, s2, s3, s4, s5, s6, s7, s8, s9, s10, s11⟩ := hSw; go_simp⟩) hHeld ?_
            simp only [tkS, Act.put]
            refine tkH 25 (undef) rfl (Or.inr ⟨by kernel_rfl, rfl⟩) hHeld ?_
            simp only [tkS, Act.put]
            refine tkH 26 (undef) rfl (Or.inr ⟨by kernel_rfl, rfl⟩) hHeld ?_
            simp only [tkS, Act.put]
            refine tkH 27 (undef) rfl (Or.inr ⟨by kernel_rfl, rfl⟩) hHeld ?_
            simp only [tkS, Act.put]
            refine wpAnyH_ready (rs := [28]) (by kernel_rfl) (by simp) ?_
            refine AllReadyH.cons rfl (fun K hK => ?_) AllReadyH.nil
            go_simp
            refine hK.out _ _ (HF.out _ hB) (fun hHeld => ?_)
            clear hK K
            refine wpAnyH_ready (rs := [29]) (by kernel_rfl) (by simp) ?_
            refine AllReadyH.cons rfl (fun K hK => ?_) AllReadyH.nil
            go_simp
            refine hK.out _ _ (HF.out _ hB) (fun hHeld => ?_)
            clear hK K
            refine tkH 30 (.bool false) rfl (Or.inl ⟨by kernel_rfl, by intro w hSw; obtain ⟨s0, s1, s2, s3, s4, s5, s6, s7, s8, s9, s10, s11⟩ := hSw; go_simp⟩) hHeld ?_
            simp only [tkS, Act.put]
            refine tkH 31 (.bool false) rfl (Or.inl ⟨by kernel_rfl, by intro w hSw; obtain ⟨s0, s1, s2, s3, s4, s5, s6, s7, s8, s9, s10, s11⟩ := hSw; go_simp⟩) hHeld ?_
            simp only [tkS, Act.put]
            refine tkH 32 (undef) rfl (Or.inr ⟨by kernel_rfl, rfl⟩) hHeld ?_
            simp only [tkS, Act.put]
            refine wpAnyH_ready (rs := [33]) (by kernel_rfl) (by simp) ?_
            refine AllReadyH.cons rfl (fun K hK => ?_) AllReadyH.nil
            go_simp
            refine hK.out _ _ (HF.out _ hB) (fun hHeld => ?_)
            clear hK K
            refine tkH 34 (.bool false) rfl (Or.inl ⟨by kernel_rfl, by intro w hSw; obtain ⟨s0, s1, s2, s3, s4, s5, s6, s7, s8, s9, s10, s11⟩ := hSw; go_simp⟩) hHeld ?_
            simp only [tkS, Act.put]
            refine tkH 35 (.bool false) rfl (Or.inl ⟨by kernel_rfl, by intro w hSw; obtain ⟨s0, s1, s2, s3, s4, s5, s6, s7, s8, s9, s10, s11⟩ := hSw; go_simp⟩) hHeld ?_
            simp only [tkS, Act.put]
            refine wpAnyH_done (by kernel_rfl) ?_ _
            go_wp2_with fail
            go_ret
            exact ⟨rfl, below_seq (below_alloc _ _) hB⟩

end Go.Proofs.YtmmkmkaannlkhaaGreatDoor

namespace Go.Proofs.YtmmkmkaannlkhaaGreatDoor
set_option linter.unusedVariables false

/-- One operation more, from the last one on. -/
def stepU (x : Ov) (U : List Int) : List Int := if x.u ≠ 0 ∧ x.s ∉ U then x.u :: U else U
/-- The Seqs that the code's set has behind these operations of an actor. -/
def undS (M : List Ov) : List Int := M.foldr stepU []
theorem undS_nil : undS [] = [] := rfl
theorem undS_cons (x : Ov) (M : List Ov) : undS (x :: M) = stepU x (undS M) := rfl
theorem undS_nz : ∀ (M : List Ov), ∀ s ∈ undS M, s ≠ 0
  | [], s, h => by simp [undS] at h
  | x :: M, s, h => by
    rw [undS_cons] at h
    unfold stepU at h
    split at h
    · rename_i hx
      rcases List.mem_cons.1 h with rfl | h
      · exact hx.1
      · exact undS_nz M s h
    · exact undS_nz M s h
/-- What the set has behind the places of a list. -/
def undP (L : List Ov) (xs : List Nat) : List Int := xs.foldl (fun U i => stepU (ovAt L i) U) []
theorem undP_snoc (L : List Ov) (xs : List Nat) (i : Nat) : undP L (xs ++ [i]) = stepU (ovAt L i) (undP L xs) := by simp [undP]
theorem range_ovAt (L : List Ov) : (List.range L.length).map (ovAt L) = L := by
  refine List.ext_getElem (by simp) fun i h1 h2 => ?_
  rw [List.getElem_map, List.getElem_range]
  have := ovAt_get h2
  rw [List.getElem?_eq_getElem h2] at this
  exact (Option.some.inj this).symm
theorem undP_all (L : List Ov) : undP L ((List.range L.length).drop 0).reverse = undS L := by
  unfold undP undS
  rw [List.drop_zero, List.foldl_reverse]
  conv => rhs; rw [← range_ovAt L, List.foldr_map]

end Go.Proofs.YtmmkmkaannlkhaaGreatDoor
