/- The specification's l08Draw and DrawLogSince: a drawn log, and a vector. -/
import Derived.Test.YtfjekbfejbgneaaQDrawGrow
import Derived.Test.YtfjekbfejbgneaaQBentOp
import Derived.Test.YtfjekbfejbgneaaQSrcVec2
namespace Go.Proofs.Ytfjekbfejbgneaa
open Go.RowKit
set_option linter.unusedVariables false

set_option maxHeartbeats 2000000 in
set_option maxRecDepth 100000 in
theorem l08Draw_any (C b A : Nat) (w : World) (h : Src C w b A) (hA : A ≤ 1000000) :
    Calls Try.prog 10 #[.pointer (some ⟨b, 0, none⟩)] w fun e w' => ∃ r M, e = .returned r ∧ RdO w'.heap.size w' r M ∧ BtL 2120 M ∧ Src C w' b (A + 4100) ∧ w.grownBy w' (some b) := by
  have hgw := l08Grow_any C b A 24 w h hA (by omega) (by omega)
  rw [show ((24 : Nat) : Int) = 24 from rfl] at hgw
  go_enter Try.func10, Try.ntmps10
  go_wp2_with fail
  refine hgw.mono ?_
  rintro e w1 ⟨gl, V, LL, rfl, hG⟩
  clear hgw
  go_wp2_with fail
  refine (srcNext_any C b _ 3 w1 hG.src (by omega) (by omega) (by omega)).mono ?_
  rintro e w2 ⟨k, rfl, hk0, hk1, hS2, hG2⟩
  obtain ⟨k, rfl⟩ := Int.eq_ofNat_of_zero_le hk0
  have hk : k < 3 := by omega
  have hW := hG.next hS2 hG2
  have ck := hW.at hk
  clear hG hS2 hG2
  go_wp2_with fail
  refine (l08Bent_any C b _ w2 (V k) (LL k) 72 2120 hW.src (by omega) (hW.log k hk) (hW.dr k hk) (by omega)).mono ?_
  rintro e w3 ⟨r, M, rfl, hR, hB, hS3, hG3⟩
  go_wp2_with fail
  go_ret
  exact ⟨_, M, rfl, hR, hB, hS3.mono (by omega), grownBy_trans hW.gr hG3⟩

set_option maxHeartbeats 2000000 in
set_option maxRecDepth 100000 in
theorem drawLogSince_any (C : Nat) (w : World) (v : Value) (xs : List Int) (hC : C ≤ w.heap.size) (hr : Rd C w v (xs.map (Value.int .u8))) (hX : ∀ x ∈ xs, 0 ≤ x ∧ x ≤ 255) (hl : xs.length ≤ 1048576) :
    Calls Try.prog 4 #[v] w fun e w' => ∃ (r : Value) (M : List Ov) (g n c : Nat) (ys : List Int), e = .returned (.tuple #[r, .agg #[.slice (some ⟨g, 0, none⟩) n c]]) ∧ RdO w'.heap.size w' r M ∧ BtL 2120 M ∧ n = ys.length ∧ ys.length ≤ 17 ∧ Rd w'.heap.size w' (.slice (some ⟨g, 0, none⟩) n c) (ys.map (Value.int .i64)) ∧ Below w.heap.size w w' := by
  have hr1 := Rd.alloc hr (.cells #[.slice none 0 0] 26) hC
  have hso := source_any C (w.alloc (.cells #[.slice none 0 0] 26)) v xs (by rw [World.size_alloc]; omega) hr1 hX hl
  have hba := below_alloc w (.cells #[.slice none 0 0] 26)
  have hv0 : (w.alloc (.cells #[.slice none 0 0] 26)).heap[w.heap.size]? = some (.cells #[.slice none 0 0] 26 (0, 0)) := heap_alloc_new w _
  have hsz : (w.alloc (.cells #[.slice none 0 0] 26)).heap.size = w.heap.size + 1 := World.size_alloc _ _
  clear hr hr1
  go_enter Try.func4, Try.ntmps4
  go_wp2_with fail
  generalize w.alloc (.cells #[.slice none 0 0] 26) = w0 at *
  refine hso.mono ?_
  rintro e w1 ⟨rfl, hS1, hb1⟩
  have hB1 := below_seq hba hb1
  replace hv0 := (hb1.block w.heap.size (by omega)).trans hv0
  have hv1 := hv0
  have hdr := l08Draw_any C w0.heap.size 0 w1 hS1 (by omega)
  have hlt0 : w.heap.size < w0.heap.size := by omega
  clear hso hba hb1 hS1 hsz
  generalize w0.heap.size = b at *
  go_wp2_with fail
  refine hdr.mono ?_
  rintro e w2 ⟨r, M, rfl, hR, hM, hS2, hG2⟩
  replace hv0 := blk_on hv0 hG2 (by omega)
  clear hdr
  go_wp2_with fail
  refine (oddVector_any C b _ w2 hS2 (by omega)).mono ?_
  rintro e w3 ⟨g, n, c, ys, rfl, hn, hy17, -, hO, hS3, hG3⟩
  replace hv0 := blk_on hv0 hG3 (by omega)
  have hR3 := (hR.aside (fun x hx => (hM.2 x hx).2.1) hS2 hG3 (Nat.le_refl _)).mono hG3.size
  have c0 := blk_cell hv0 0 rfl
  have f0 := blk_free hv0 0
  have HN : Hid (n = ys.length) := hn
  have hsh : ∀ k, 3 ≤ k → w3.cell? ⟨w.heap.size, k, none⟩ = none := fun k hk => by
    unfold World.cell?
    rw [show w3.heap[(⟨w.heap.size, k, none⟩ : Addr).block]? = _ from hv0]
    simp
    omega
  have hg := grownBy_set w3 w.heap.size 0 (.slice (some ⟨g, 0, none⟩) n c)
  have hR4 := (hR3.beside (fun x hx => (hM.2 x hx).2.1) hsh hg (Nat.le_refl _)).mono hg.size
  have hsz2 := hG2.size
  have hsz1 := hB1.size
  have hbl : w.heap.size < w1.heap.size := by have := blk_loG hv1; omega
  have hO4 := (hO.apart hg (fun k hk => by cases hk; omega)).rd
  have hBB : Below w.heap.size w w3 := (hB1.grown hG2 hsz1 (fun k hk => by cases hk; omega)).grown hG3 (by omega) (fun k hk => by cases hk; omega)
  have hB4 := hBB.setCell (p := ⟨w.heap.size, 0, none⟩) (Nat.le_refl _) (.slice (some ⟨g, 0, none⟩) n c)
  have q0 : (w3.setCell ⟨w.heap.size, 0, none⟩ (.slice (some ⟨g, 0, none⟩) n c)).cell? ⟨w.heap.size, 0, none⟩ = some (.slice (some ⟨g, 0, none⟩) n c) := World.cell?_setCell_same _ _ _ c0
  clear hR hR3 hsh hS2 hS3 hG2 hG3 hO hB1 hBB hn hv0 hv1
  go_wp2_with fail
  exact bodyPost_ret (v := .tuple #[r, .agg #[.slice (some ⟨g, 0, none⟩) n c]]) (by simp [results, Try.results4, go_sem, q0]) rfl ⟨r, M, g, n, c, ys, rfl, hR4, hM, HN.out, hy17, hO4, hB4⟩
end Go.Proofs.Ytfjekbfejbgneaa
