/- Operations of a log: the specification's l08OpOK, some of its ways. Operations of a log: the specification's l08OpOK, some of its ways. Operations of a log: what the specification's l08OpOK answers. The set of an actor's undone Seqs, as a list. -/
import Derived.Test.YtjbjkamlgcnmaaaQOpOKToOpSpecBase
import Derived.Test.YtjbjkamlgcnmaaaQOpSpecAToOpSpecB
import Derived.Test.YtjbjkamlgcnmaaaQOpComesToOpBase
namespace Go.Proofs.Ytjbjkamlgcnmaaa
open Go.RowKit
set_option linter.unusedVariables false

set_option maxHeartbeats 4000000 in
set_option maxRecDepth 100000 in
theorem opSpec_e (C : Nat) (s t k o n u pt pa : Int) (ky tx : ByteArray) (j g off cap : Nat) (dj : Int) (w : World) (r : Bool) (hj : j < 16) (hg' : g < w.heap.size) (HC : Hid (w.cell? ⟨g, off + j, none⟩ = some (.int .i64 dj))) (hO : ∀ w, Calls Try.prog 37 #[.agg #[.int .i64 t, .int .i64 (j : Int)]] w fun e w' => e = .returned (.bool true) ∧ Below w.heap.size w w') (hV : ∀ w1, Below w.heap.size w w1 → Calls Try.prog 38 #[.agg #[.slice (some ⟨g, off, none⟩) 16 cap]] w1 fun e w' => e = .returned (.bool true) ∧ Below w1.heap.size w1 w') (kn0 : ¬ (s < 1)) (kn1 : ¬ (1000000000000 < s)) (kn2 : ¬ (¬ dj = s - 1)) (kn3 : ¬ (o < 1)) (kn4 : ¬ (100 < o)) (HT5 : Hid (n < -1000000000000 → r = false)) (HT6 : Hid (1000000000000 < n → r = false)) (HT7 : Hid (u < 0 → r = false)) (HT8 : Hid (s ≤ u → r = false)) (HBAD : Hid (¬ (n < -1000000000000) → ¬ (1000000000000 < n) → ¬ (u < 0) → s ≤ u)) :
    Calls Try.prog 13 #[.agg #[.int .i64 ((j : Int)), .int .i64 s, .int .i64 t, .slice (some ⟨g, off, none⟩) 16 cap, .int .i64 k, .int .i64 o, .int .i64 n, .int .i64 u, .int .i64 pt, .int .i64 pa, .string ky, .string tx]] w fun e w' => e = .returned (.bool r) ∧ Below w.heap.size w w' := by
  have hj' : (j : Int) < 16 := by omega
  have hsw : IntKind.i64.wrap (s - 1) = s - 1 := by rw [IntKind.wrap_i64]; omega
  have kn2' : dj = s - 1 := by omega
  go_enter Try.func13, Try.ntmps13
  go_wp2_with (go_at_call 36; refine (l08Stamp_any _ _ _ _ _ _ _ _ _ _ _ _ _).mono ?_; rintro e w1 ⟨rfl, hb1⟩)
  have hB := (Below.refl (w1.alloc (.cells #[.int .i64 t, .int .i64 (j : Int)] 42)).heap.size (w1.alloc (.cells #[.int .i64 t, .int .i64 (j : Int)] 42))).drew
  have HF : Hid (∀ wx, Below (w1.alloc (.cells #[.int .i64 t, .int .i64 (j : Int)] 42)).heap.size (w1.alloc (.cells #[.int .i64 t, .int .i64 (j : Int)] 42)) wx → wx.cell? ⟨w.heap.size, 0, none⟩ = some (.int .i64 ((j : Int))) ∧ wx.cell? ⟨w.heap.size, 1, none⟩ = some (.int .i64 s) ∧ wx.cell? ⟨w.heap.size, 2, none⟩ = some (.int .i64 t) ∧ wx.cell? ⟨w.heap.size, 3, none⟩ = some (.slice (some ⟨g, off, none⟩) 16 cap) ∧ wx.cell? ⟨w.heap.size, 4, none⟩ = some (.int .i64 k) ∧ wx.cell? ⟨w.heap.size, 5, none⟩ = some (.int .i64 o) ∧ wx.cell? ⟨w.heap.size, 6, none⟩ = some (.int .i64 n) ∧ wx.cell? ⟨w.heap.size, 7, none⟩ = some (.int .i64 u) ∧ wx.cell? ⟨w.heap.size, 8, none⟩ = some (.int .i64 pt) ∧ wx.cell? ⟨w.heap.size, 9, none⟩ = some (.int .i64 pa) ∧ wx.cell? ⟨w.heap.size, 10, none⟩ = some (.string ky) ∧ wx.cell? ⟨w.heap.size, 11, none⟩ = some (.string tx) ∧ wx.cell? ⟨w1.heap.size, 0, none⟩ = some (.int .i64 t) ∧ wx.cell? ⟨w1.heap.size, 1, none⟩ = some (.int .i64 ((j : Int))) ∧ wx.cell? ⟨g, off + j, none⟩ = some (.int .i64 dj)) := fun wx h => by
    have h2 := below_seq (below_alloc w1 _) h
    obtain ⟨q0, q1, q2, q3, q4, q5, q6, q7, q8, q9, q10, q11⟩ := op_cells (below_seq hb1 h2)
    exact ⟨q0, q1, q2, q3, q4, q5, q6, q7, q8, q9, q10, q11, cell_made h (k := 0) rfl, cell_made h (k := 1) rfl, ((below_seq (below_alloc w _) (below_seq hb1 h2)).cell (p := ⟨g, off + j, none⟩) (by show g < w.heap.size; omega)).trans HC.out⟩
  refine wp_region_held_drew (S := fun w' => w'.cell? ⟨w.heap.size, 0, none⟩ = some (.int .i64 ((j : Int))) ∧ w'.cell? ⟨w.heap.size, 1, none⟩ = some (.int .i64 s) ∧ w'.cell? ⟨w.heap.size, 2, none⟩ = some (.int .i64 t) ∧ w'.cell? ⟨w.heap.size, 3, none⟩ = some (.slice (some ⟨g, off, none⟩) 16 cap) ∧ w'.cell? ⟨w.heap.size, 4, none⟩ = some (.int .i64 k) ∧ w'.cell? ⟨w.heap.size, 5, none⟩ = some (.int .i64 o) ∧ w'.cell? ⟨w.heap.size, 6, none⟩ = some (.int .i64 n) ∧ w'.cell? ⟨w.heap.size, 7, none⟩ = some (.int .i64 u) ∧ w'.cell? ⟨w.heap.size, 8, none⟩ = some (.int .i64 pt) ∧ w'.cell? ⟨w.heap.size, 9, none⟩ = some (.int .i64 pa) ∧ w'.cell? ⟨w.heap.size, 10, none⟩ = some (.string ky) ∧ w'.cell? ⟨w.heap.size, 11, none⟩ = some (.string tx) ∧ w'.cell? ⟨w1.heap.size, 0, none⟩ = some (.int .i64 t) ∧ w'.cell? ⟨w1.heap.size, 1, none⟩ = some (.int .i64 ((j : Int))) ∧ w'.cell? ⟨g, off + j, none⟩ = some (.int .i64 dj)) (by kernel_rfl) (HF.out _ hB) (fun hHeld => ?_)
  refine tkB 0 (.agg #[.int .i64 t, .int .i64 ((j : Int))]) [(3, .pointer (some ⟨w1.heap.size, 0, none⟩))] rfl (by rintro ρ ⟨e3, ec⟩ w hSw; obtain ⟨s0, s1, s2, s3, s4, s5, s6, s7, s8, s9, s10, s11, s12, s13, s14⟩ := hSw; go_simp) hHeld ?_
  refine actH ⟨#[.agg #[.int .i64 ((j : Int)), .int .i64 s, .int .i64 t, .slice (some ⟨g, off, none⟩) 16 cap, .int .i64 k, .int .i64 o, .int .i64 n, .int .i64 u, .int .i64 pt, .int .i64 pa, .string ky, .string tx], .pointer (some ⟨w.heap.size, 0, none⟩), .bool false, .pointer (some ⟨w1.heap.size, 0, none⟩), undef, .agg #[.int .i64 ((j : Int)), .int .i64 s, .int .i64 t, .slice (some ⟨g, off, none⟩) 16 cap, .int .i64 k, .int .i64 o, .int .i64 n, .int .i64 u, .int .i64 pt, .int .i64 pa, .string ky, .string tx], .agg #[.int .i64 t, .int .i64 ((j : Int))], .agg #[.int .i64 t, .int .i64 ((j : Int))], undef, undef, undef, undef, undef, undef, undef, undef, undef, undef, undef, undef, undef, undef, undef, undef, undef, undef, undef, undef, undef, undef, undef, undef, undef, undef, undef, undef, undef, undef, undef, undef, undef, undef, undef, undef, undef, undef, undef, undef, undef, undef, undef, undef, undef, undef, undef, undef, undef, undef, undef, undef, undef, undef, undef, undef, undef, undef, undef, undef, undef, undef, undef, undef, undef, undef, undef, undef, undef, undef, undef, undef, undef, undef, undef, undef, undef, undef, undef, undef, undef, undef, undef, undef, undef, undef, undef, undef, undef, undef, undef, undef, undef, undef, undef, undef, undef, undef, undef, undef, undef, undef, undef, undef, undef, undef, undef, undef, undef, undef, undef, undef, undef, undef, undef, undef, undef, undef, undef, undef, undef, undef, undef, undef, undef, undef, undef, undef, undef, undef, undef, undef, undef, undef, undef, undef, undef, undef, undef, undef, undef, undef], []⟩ #[true, false, false, false, false, false, false, false, false, false, false, false, false, false, false, false, false, false, false, false, false, false, false, false, false, false, false, false, false, false, false, false, false, false, false, false, false, false, false, false, false, false, false, false, false, false, false, false, false, false, false, false, false, false, false, false, false, false, false, false, false, false, false, false, false, false, false, false, false, false, false, false, false, false, false, false] ?_
  refine wpAnyH_ready (rs := [1]) (by kernel_rfl) (by simp) ?_
  refine AllReadyH.cons rfl (fun K hK => ?_) AllReadyH.nil
  go_simp
  refine (hO _).mono ?_
  rintro e wn ⟨rfl, hbn⟩
  replace hB := below_seq hB hbn
  clear hbn
  go_wp2_with fail
  refine hK.out _ _ (HF.out _ hB) (fun hHeld => ?_)
  clear hK K
  refine tkB 2 (.bool false) [(8, .bool true)] rfl (by rintro ρ ⟨e8, ec⟩ w hSw; obtain ⟨s0, s1, s2, s3, s4, s5, s6, s7, s8, s9, s10, s11, s12, s13, s14⟩ := hSw; go_simp) hHeld ?_
  refine tkB 3 (.bool false) [(9, .bool false)] rfl (by rintro ρ ⟨e9, ec⟩ w hSw; obtain ⟨s0, s1, s2, s3, s4, s5, s6, s7, s8, s9, s10, s11, s12, s13, s14⟩ := hSw; go_simp) hHeld ?_
  refine tkB 4 (.pointer (some ⟨w.heap.size, 1, none⟩)) [(1, .pointer (some ⟨w.heap.size, 0, none⟩))] rfl (by rintro ρ ⟨e1, ec⟩ w hSw; obtain ⟨s0, s1, s2, s3, s4, s5, s6, s7, s8, s9, s10, s11, s12, s13, s14⟩ := hSw; go_simp) hHeld ?_
  refine tkB 5 (.int .i64 s) [(11, .pointer (some ⟨w.heap.size, 1, none⟩))] rfl (by rintro ρ ⟨e11, ec⟩ w hSw; obtain ⟨s0, s1, s2, s3, s4, s5, s6, s7, s8, s9, s10, s11, s12, s13, s14⟩ := hSw; go_simp) hHeld ?_
  refine tkB 6 (.bool false) [(12, .int .i64 s)] rfl (by rintro ρ ⟨e12, ec⟩ w hSw; obtain ⟨s0, s1, s2, s3, s4, s5, s6, s7, s8, s9, s10, s11, s12, s13, s14⟩ := hSw; have k0 := ec (Value.int IntKind.i64 1); go_simp) hHeld ?_
  refine tkB 7 (.bool false) [(10, .bool false), (13, .bool false)] rfl (by rintro ρ ⟨e10, e13, ec⟩ w hSw; obtain ⟨s0, s1, s2, s3, s4, s5, s6, s7, s8, s9, s10, s11, s12, s13, s14⟩ := hSw; have k0 := ec (Value.bool true); go_simp) hHeld ?_
  refine tkB 8 (.bool false) [(14, .bool false)] rfl (by rintro ρ ⟨e14, ec⟩ w hSw; obtain ⟨s0, s1, s2, s3, s4, s5, s6, s7, s8, s9, s10, s11, s12, s13, s14⟩ := hSw; go_simp) hHeld ?_
  refine tkB 9 (.pointer (some ⟨w.heap.size, 1, none⟩)) [(1, .pointer (some ⟨w.heap.size, 0, none⟩))] rfl (by rintro ρ ⟨e1, ec⟩ w hSw; obtain ⟨s0, s1, s2, s3, s4, s5, s6, s7, s8, s9, s10, s11, s12, s13, s14⟩ := hSw; go_simp) hHeld ?_
  refine tkB 10 (.int .i64 s) [(16, .pointer (some ⟨w.heap.size, 1, none⟩))] rfl (by rintro ρ ⟨e16, ec⟩ w hSw; obtain ⟨s0, s1, s2, s3, s4, s5, s6, s7, s8, s9, s10, s11, s12, s13, s14⟩ := hSw; go_simp) hHeld ?_
  refine tkB 11 (.bool false) [(17, .int .i64 s)] rfl (by rintro ρ ⟨e17, ec⟩ w hSw; obtain ⟨s0, s1, s2, s3, s4, s5, s6, s7, s8, s9, s10, s11, s12, s13, s14⟩ := hSw; have k0 := ec (Value.int IntKind.i64 1000000000000); go_simp) hHeld ?_
  refine tkB 12 (.bool false) [(15, .bool false), (18, .bool false)] rfl (by rintro ρ ⟨e15, e18, ec⟩ w hSw; obtain ⟨s0, s1, s2, s3, s4, s5, s6, s7, s8, s9, s10, s11, s12, s13, s14⟩ := hSw; have k0 := ec (Value.bool true); go_simp) hHeld ?_
  refine tkB 13 (.bool false) [(19, .bool false)] rfl (by rintro ρ ⟨e19, ec⟩ w hSw; obtain ⟨s0, s1, s2, s3, s4, s5, s6, s7, s8, s9, s10, s11, s12, s13, s14⟩ := hSw; go_simp) hHeld ?_
  refine tkB 14 (.pointer (some ⟨w.heap.size, 3, none⟩)) [(1, .pointer (some ⟨w.heap.size, 0, none⟩))] rfl (by rintro ρ ⟨e1, ec⟩ w hSw; obtain ⟨s0, s1, s2, s3, s4, s5, s6, s7, s8, s9, s10, s11, s12, s13, s14⟩ := hSw; go_simp) hHeld ?_
  refine tkB 15 (.agg #[.slice (some ⟨g, off, none⟩) 16 cap]) [(21, .pointer (some ⟨w.heap.size, 3, none⟩))] rfl (by rintro ρ ⟨e21, ec⟩ w hSw; obtain ⟨s0, s1, s2, s3, s4, s5, s6, s7, s8, s9, s10, s11, s12, s13, s14⟩ := hSw; go_simp) hHeld ?_
  refine actH ⟨#[.agg #[.int .i64 ((j : Int)), .int .i64 s, .int .i64 t, .slice (some ⟨g, off, none⟩) 16 cap, .int .i64 k, .int .i64 o, .int .i64 n, .int .i64 u, .int .i64 pt, .int .i64 pa, .string ky, .string tx], .pointer (some ⟨w.heap.size, 0, none⟩), .bool false, .pointer (some ⟨w1.heap.size, 0, none⟩), undef, .agg #[.int .i64 ((j : Int)), .int .i64 s, .int .i64 t, .slice (some ⟨g, off, none⟩) 16 cap, .int .i64 k, .int .i64 o, .int .i64 n, .int .i64 u, .int .i64 pt, .int .i64 pa, .string ky, .string tx], .agg #[.int .i64 t, .int .i64 ((j : Int))], .agg #[.int .i64 t, .int .i64 ((j : Int))], .bool true, .bool false, .bool false, .pointer (some ⟨w.heap.size, 1, none⟩), .int .i64 s, .bool false, .bool false, .bool false, .pointer (some ⟨w.heap.size, 1, none⟩), .int .i64 s, .bool false, .bool false, .bool false, .pointer (some ⟨w.heap.size, 3, none⟩), .agg #[.slice (some ⟨g, off, none⟩) 16 cap], undef, undef, undef, undef, undef, undef, undef, undef, undef, undef, undef, undef, undef, undef, undef, undef, undef, undef, undef, undef, undef, undef, undef, undef, undef, undef, undef, undef, undef, undef, undef, undef, undef, undef, undef, undef, undef, undef, undef, undef, undef, undef, undef, undef, undef, undef, undef, undef, undef, undef, undef, undef, undef, undef, undef, undef, undef, undef, undef, undef, undef, undef, undef, undef, undef, undef, undef, undef, undef, undef, undef, undef, undef, undef, undef, undef, undef, undef, undef, undef, undef, undef, undef, undef, undef, undef, undef, undef, undef, undef, undef, undef, undef, undef, undef, undef, undef, undef, undef, undef, undef, undef, undef, undef, undef, undef, undef, undef, undef, undef, undef, undef, undef, undef, undef, undef, undef, undef, undef, undef, undef, undef, undef, undef, undef, undef, undef], []⟩ #[true, true, true, true, true, true, true, true, true, true, true, true, true, true, true, true, false, false, false, false, false, false, false, false, false, false, false, false, false, false, false, false, false, false, false, false, false, false, false, false, false, false, false, false, false, false, false, false, false, false, false, false, false, false, false, false, false, false, false, false, false, false, false, false, false, false, false, false, false, false, false, false, false, false, false, false] ?_
  refine wpAnyH_ready (rs := [16]) (by kernel_rfl) (by simp) ?_
  refine AllReadyH.cons rfl (fun K hK => ?_) AllReadyH.nil
  go_simp
  refine (hV _ (below_seq (below_seq (below_alloc _ _) hb1) (below_seq (below_alloc _ _) hB))).mono ?_
  rintro e wn ⟨rfl, hbn⟩
  replace hB := below_seq hB hbn
  clear hbn
  go_wp2_with fail
  refine hK.out _ _ (HF.out _ hB) (fun hHeld => ?_)
  clear hK K
  refine tkB 17 (.bool false) [(23, .bool true)] rfl (by rintro ρ ⟨e23, ec⟩ w hSw; obtain ⟨s0, s1, s2, s3, s4, s5, s6, s7, s8, s9, s10, s11, s12, s13, s14⟩ := hSw; go_simp) hHeld ?_
  refine tkB 18 (.bool false) [(20, .bool false), (24, .bool false)] rfl (by rintro ρ ⟨e20, e24, ec⟩ w hSw; obtain ⟨s0, s1, s2, s3, s4, s5, s6, s7, s8, s9, s10, s11, s12, s13, s14⟩ := hSw; have k0 := ec (Value.bool true); go_simp) hHeld ?_
  refine tkB 19 (.bool false) [(25, .bool false)] rfl (by rintro ρ ⟨e25, ec⟩ w hSw; obtain ⟨s0, s1, s2, s3, s4, s5, s6, s7, s8, s9, s10, s11, s12, s13, s14⟩ := hSw; go_simp) hHeld ?_
  refine tkB 20 (.pointer (some ⟨w.heap.size, 3, none⟩)) [(1, .pointer (some ⟨w.heap.size, 0, none⟩))] rfl (by rintro ρ ⟨e1, ec⟩ w hSw; obtain ⟨s0, s1, s2, s3, s4, s5, s6, s7, s8, s9, s10, s11, s12, s13, s14⟩ := hSw; go_simp) hHeld ?_
  refine tkB 21 (.pointer (some ⟨w.heap.size, 3, none⟩)) [(27, .pointer (some ⟨w.heap.size, 3, none⟩))] rfl (by rintro ρ ⟨e27, ec⟩ w hSw; obtain ⟨s0, s1, s2, s3, s4, s5, s6, s7, s8, s9, s10, s11, s12, s13, s14⟩ := hSw; go_simp) hHeld ?_
  refine tkB 22 (.slice (some ⟨g, off, none⟩) 16 cap) [(28, .pointer (some ⟨w.heap.size, 3, none⟩))] rfl (by rintro ρ ⟨e28, ec⟩ w hSw; obtain ⟨s0, s1, s2, s3, s4, s5, s6, s7, s8, s9, s10, s11, s12, s13, s14⟩ := hSw; go_simp) hHeld ?_
  refine tkB 23 (.pointer (some ⟨w.heap.size, 0, none⟩)) [(1, .pointer (some ⟨w.heap.size, 0, none⟩))] rfl (by rintro ρ ⟨e1, ec⟩ w hSw; obtain ⟨s0, s1, s2, s3, s4, s5, s6, s7, s8, s9, s10, s11, s12, s13, s14⟩ := hSw; go_simp) hHeld ?_
  refine tkB 24 (.int .i64 ((j : Int))) [(30, .pointer (some ⟨w.heap.size, 0, none⟩))] rfl (by rintro ρ ⟨e30, ec⟩ w hSw; obtain ⟨s0, s1, s2, s3, s4, s5, s6, s7, s8, s9, s10, s11, s12, s13, s14⟩ := hSw; go_simp) hHeld ?_
  refine tkB 25 (.pointer (some ⟨g, off + j, none⟩)) [(29, .slice (some ⟨g, off, none⟩) 16 cap), (31, .int .i64 ((j : Int)))] rfl (by rintro ρ ⟨e29, e31, ec⟩ w hSw; obtain ⟨s0, s1, s2, s3, s4, s5, s6, s7, s8, s9, s10, s11, s12, s13, s14⟩ := hSw; go_simp) hHeld ?_
  refine tkB 26 (.int .i64 dj) [(32, .pointer (some ⟨g, off + j, none⟩))] rfl (by rintro ρ ⟨e32, ec⟩ w hSw; obtain ⟨s0, s1, s2, s3, s4, s5, s6, s7, s8, s9, s10, s11, s12, s13, s14⟩ := hSw; go_simp) hHeld ?_
  refine tkB 27 (.pointer (some ⟨w.heap.size, 1, none⟩)) [(1, .pointer (some ⟨w.heap.size, 0, none⟩))] rfl (by rintro ρ ⟨e1, ec⟩ w hSw; obtain ⟨s0, s1, s2, s3, s4, s5, s6, s7, s8, s9, s10, s11, s12, s13, s14⟩ := hSw; go_simp) hHeld ?_
  refine tkB 28 (.int .i64 s) [(34, .pointer (some ⟨w.heap.size, 1, none⟩))] rfl (by rintro ρ ⟨e34, ec⟩ w hSw; obtain ⟨s0, s1, s2, s3, s4, s5, s6, s7, s8, s9, s10, s11, s12, s13, s14⟩ := hSw; go_simp) hHeld ?_
  refine tkB 29 (.int .i64 (s - 1)) [(35, .int .i64 s)] rfl (by rintro ρ ⟨e35, ec⟩ w hSw; obtain ⟨s0, s1, s2, s3, s4, s5, s6, s7, s8, s9, s10, s11, s12, s13, s14⟩ := hSw; have k0 := ec (Value.int IntKind.i64 1); go_simp) hHeld ?_
  refine tkB 30 (.bool false) [(33, .int .i64 dj), (36, .int .i64 (s - 1))] rfl (by rintro ρ ⟨e33, e36, ec⟩ w hSw; obtain ⟨s0, s1, s2, s3, s4, s5, s6, s7, s8, s9, s10, s11, s12, s13, s14⟩ := hSw; go_simp) hHeld ?_
  refine tkB 31 (.bool false) [(26, .bool false), (37, .bool false)] rfl (by rintro ρ ⟨e26, e37, ec⟩ w hSw; obtain ⟨s0, s1, s2, s3, s4, s5, s6, s7, s8, s9, s10, s11, s12, s13, s14⟩ := hSw; have k0 := ec (Value.bool true); go_simp) hHeld ?_
  refine tkB 32 (.bool false) [(38, .bool false)] rfl (by rintro ρ ⟨e38, ec⟩ w hSw; obtain ⟨s0, s1, s2, s3, s4, s5, s6, s7, s8, s9, s10, s11, s12, s13, s14⟩ := hSw; go_simp) hHeld ?_
  refine tkB 33 (.pointer (some ⟨w.heap.size, 5, none⟩)) [(1, .pointer (some ⟨w.heap.size, 0, none⟩))] rfl (by rintro ρ ⟨e1, ec⟩ w hSw; obtain ⟨s0, s1, s2, s3, s4, s5, s6, s7, s8, s9, s10, s11, s12, s13, s14⟩ := hSw; go_simp) hHeld ?_
  refine tkB 34 (.int .i64 o) [(40, .pointer (some ⟨w.heap.size, 5, none⟩))] rfl (by rintro ρ ⟨e40, ec⟩ w hSw; obtain ⟨s0, s1, s2, s3, s4, s5, s6, s7, s8, s9, s10, s11, s12, s13, s14⟩ := hSw; go_simp) hHeld ?_
  refine tkB 35 (.bool false) [(41, .int .i64 o)] rfl (by rintro ρ ⟨e41, ec⟩ w hSw; obtain ⟨s0, s1, s2, s3, s4, s5, s6, s7, s8, s9, s10, s11, s12, s13, s14⟩ := hSw; have k0 := ec (Value.int IntKind.i64 1); go_simp) hHeld ?_
  refine tkB 36 (.bool false) [(39, .bool false), (42, .bool false)] rfl (by rintro ρ ⟨e39, e42, ec⟩ w hSw; obtain ⟨s0, s1, s2, s3, s4, s5, s6, s7, s8, s9, s10, s11, s12, s13, s14⟩ := hSw; have k0 := ec (Value.bool true); go_simp) hHeld ?_
  refine tkB 37 (.bool false) [(43, .bool false)] rfl (by rintro ρ ⟨e43, ec⟩ w hSw; obtain ⟨s0, s1, s2, s3, s4, s5, s6, s7, s8, s9, s10, s11, s12, s13, s14⟩ := hSw; go_simp) hHeld ?_
  refine tkB 38 (.pointer (some ⟨w.heap.size, 5, none⟩)) [(1, .pointer (some ⟨w.heap.size, 0, none⟩))] rfl (by rintro ρ ⟨e1, ec⟩ w hSw; obtain ⟨s0, s1, s2, s3, s4, s5, s6, s7, s8, s9, s10, s11, s12, s13, s14⟩ := hSw; go_simp) hHeld ?_
  refine tkB 39 (.int .i64 o) [(45, .pointer (some ⟨w.heap.size, 5, none⟩))] rfl (by rintro ρ ⟨e45, ec⟩ w hSw; obtain ⟨s0, s1, s2, s3, s4, s5, s6, s7, s8, s9, s10, s11, s12, s13, s14⟩ := hSw; go_simp) hHeld ?_
  refine tkB 40 (.bool false) [(46, .int .i64 o)] rfl (by rintro ρ ⟨e46, ec⟩ w hSw; obtain ⟨s0, s1, s2, s3, s4, s5, s6, s7, s8, s9, s10, s11, s12, s13, s14⟩ := hSw; have k0 := ec (Value.int IntKind.i64 100); go_simp) hHeld ?_
  refine tkB 41 (.bool false) [(44, .bool false), (47, .bool false)] rfl (by rintro ρ ⟨e44, e47, ec⟩ w hSw; obtain ⟨s0, s1, s2, s3, s4, s5, s6, s7, s8, s9, s10, s11, s12, s13, s14⟩ := hSw; have k0 := ec (Value.bool true); go_simp) hHeld ?_
  refine tkB 42 (.bool false) [(48, .bool false)] rfl (by rintro ρ ⟨e48, ec⟩ w hSw; obtain ⟨s0, s1, s2, s3, s4, s5, s6, s7, s8, s9, s10, s11, s12, s13, s14⟩ := hSw; go_simp) hHeld ?_
  refine tkB 43 (.pointer (some ⟨w.heap.size, 6, none⟩)) [(1, .pointer (some ⟨w.heap.size, 0, none⟩))] rfl (by rintro ρ ⟨e1, ec⟩ w hSw; obtain ⟨s0, s1, s2, s3, s4, s5, s6, s7, s8, s9, s10, s11, s12, s13, s14⟩ := hSw; go_simp) hHeld ?_
  refine tkB 44 (.int .i64 n) [(50, .pointer (some ⟨w.heap.size, 6, none⟩))] rfl (by rintro ρ ⟨e50, ec⟩ w hSw; obtain ⟨s0, s1, s2, s3, s4, s5, s6, s7, s8, s9, s10, s11, s12, s13, s14⟩ := hSw; go_simp) hHeld ?_
  by_cases tq5 : n < -1000000000000
  · have HE : Hid (r = false) := HT5.out (by omega)
    refine tkB 45 (.bool true) [(51, .int .i64 n)] rfl (by rintro ρ ⟨e51, ec⟩ w hSw; obtain ⟨s0, s1, s2, s3, s4, s5, s6, s7, s8, s9, s10, s11, s12, s13, s14⟩ := hSw; have k0 := ec (Value.int IntKind.i64 (-1000000000000)); go_simp) hHeld ?_
    refine tkB 46 (.bool true) [(49, .bool false), (52, .bool true)] rfl (by rintro ρ ⟨e49, e52, ec⟩ w hSw; obtain ⟨s0, s1, s2, s3, s4, s5, s6, s7, s8, s9, s10, s11, s12, s13, s14⟩ := hSw; have k0 := ec (Value.bool true); go_simp) hHeld ?_
    refine tkB 47 (.bool true) [(53, .bool true)] rfl (by rintro ρ ⟨e53, ec⟩ w hSw; obtain ⟨s0, s1, s2, s3, s4, s5, s6, s7, s8, s9, s10, s11, s12, s13, s14⟩ := hSw; go_simp) hHeld ?_
    refine tkN 48 rfl hHeld ?_
    refine tkN 49 rfl hHeld ?_
    refine tkN 50 rfl hHeld ?_
    refine tkB 51 (.bool true) [(54, .bool true), (57, undef)] rfl (by rintro ρ ⟨e54, e57, ec⟩ w hSw; obtain ⟨s0, s1, s2, s3, s4, s5, s6, s7, s8, s9, s10, s11, s12, s13, s14⟩ := hSw; have k0 := ec (Value.bool true); go_simp) hHeld ?_
    refine tkB 52 (.bool true) [(58, .bool true)] rfl (by rintro ρ ⟨e58, ec⟩ w hSw; obtain ⟨s0, s1, s2, s3, s4, s5, s6, s7, s8, s9, s10, s11, s12, s13, s14⟩ := hSw; go_simp) hHeld ?_
    refine tkN 53 rfl hHeld ?_
    refine tkN 54 rfl hHeld ?_
    refine tkN 55 rfl hHeld ?_
    refine tkB 56 (.bool true) [(59, .bool true), (62, undef)] rfl (by rintro ρ ⟨e59, e62, ec⟩ w hSw; obtain ⟨s0, s1, s2, s3, s4, s5, s6, s7, s8, s9, s10, s11, s12, s13, s14⟩ := hSw; have k0 := ec (Value.bool true); go_simp) hHeld ?_
    refine tkB 57 (.bool true) [(63, .bool true)] rfl (by rintro ρ ⟨e63, ec⟩ w hSw; obtain ⟨s0, s1, s2, s3, s4, s5, s6, s7, s8, s9, s10, s11, s12, s13, s14⟩ := hSw; go_simp) hHeld ?_
    refine tkN 58 rfl hHeld ?_
    refine tkN 59 rfl hHeld ?_
    refine tkN 60 rfl hHeld ?_
    refine tkN 61 rfl hHeld ?_
    refine tkN 62 rfl hHeld ?_
    refine tkB 63 (.bool true) [(64, .bool true), (69, undef)] rfl (by rintro ρ ⟨e64, e69, ec⟩ w hSw; obtain ⟨s0, s1, s2, s3, s4, s5, s6, s7, s8, s9, s10, s11, s12, s13, s14⟩ := hSw; have k0 := ec (Value.bool true); go_simp) hHeld ?_
    refine tkB 64 (.bool true) [(70, .bool true)] rfl (by rintro ρ ⟨e70, ec⟩ w hSw; obtain ⟨s0, s1, s2, s3, s4, s5, s6, s7, s8, s9, s10, s11, s12, s13, s14⟩ := hSw; go_simp) hHeld ?_
    refine tkN 65 rfl hHeld ?_
    refine tkN 66 rfl hHeld ?_
    refine tkN 67 rfl hHeld ?_
    refine tkN 68 rfl hHeld ?_
    refine tkB 69 (.bool true) [(71, .bool true), (75, undef)] rfl (by rintro ρ ⟨e71, e75, ec⟩ w hSw; obtain ⟨s0, s1, s2, s3, s4, s5, s6, s7, s8, s9, s10, s11, s12, s13, s14⟩ := hSw; have k0 := ec (Value.bool true); go_simp) hHeld ?_
    refine tkB 70 (.bool true) [(76, .bool true)] rfl (by rintro ρ ⟨e76, ec⟩ w hSw; obtain ⟨s0, s1, s2, s3, s4, s5, s6, s7, s8, s9, s10, s11, s12, s13, s14⟩ := hSw; go_simp) hHeld ?_
    refine tkN 71 rfl hHeld ?_
    refine tkN 72 rfl hHeld ?_
    refine tkN 73 rfl hHeld ?_
    refine tkN 74 rfl hHeld ?_
    refine tkB 75 (.bool true) [(77, .bool true), (81, undef)] rfl (by rintro ρ ⟨e77, e81, ec⟩ w hSw; obtain ⟨s0, s1, s2, s3, s4, s5, s6, s7, s8, s9, s10, s11, s12, s13, s14⟩ := hSw; have k0 := ec (Value.bool true); go_simp) hHeld ?_
    refine wpAnyH_done (by kernel_rfl) ?_ _
    refine actN ⟨#[.agg #[.int .i64 ((j : Int)), .int .i64 s, .int .i64 t, .slice (some ⟨g, off, none⟩) 16 cap, .int .i64 k, .int .i64 o, .int .i64 n, .int .i64 u, .int .i64 pt, .int .i64 pa, .string ky, .string tx], .pointer (some ⟨w.heap.size, 0, none⟩), .bool false, .pointer (some ⟨w1.heap.size, 0, none⟩), undef, .agg #[.int .i64 ((j : Int)), .int .i64 s, .int .i64 t, .slice (some ⟨g, off, none⟩) 16 cap, .int .i64 k, .int .i64 o, .int .i64 n, .int .i64 u, .int .i64 pt, .int .i64 pa, .string ky, .string tx], .agg #[.int .i64 t, .int .i64 ((j : Int))], .agg #[.int .i64 t, .int .i64 ((j : Int))], .bool true, .bool false, .bool false, .pointer (some ⟨w.heap.size, 1, none⟩), .int .i64 s, .bool false, .bool false, .bool false, .pointer (some ⟨w.heap.size, 1, none⟩), .int .i64 s, .bool false, .bool false, .bool false, .pointer (some ⟨w.heap.size, 3, none⟩), .agg #[.slice (some ⟨g, off, none⟩) 16 cap], .bool true, .bool false, .bool false, .bool false, .pointer (some ⟨w.heap.size, 3, none⟩), .pointer (some ⟨w.heap.size, 3, none⟩), .slice (some ⟨g, off, none⟩) 16 cap, .pointer (some ⟨w.heap.size, 0, none⟩), .int .i64 ((j : Int)), .pointer (some ⟨g, off + j, none⟩), .int .i64 dj, .pointer (some ⟨w.heap.size, 1, none⟩), .int .i64 s, .int .i64 (s - 1), .bool false, .bool false, .bool false, .pointer (some ⟨w.heap.size, 5, none⟩), .int .i64 o, .bool false, .bool false, .bool false, .pointer (some ⟨w.heap.size, 5, none⟩), .int .i64 o, .bool false, .bool false, .bool false, .pointer (some ⟨w.heap.size, 6, none⟩), .int .i64 n, .bool true, .bool true, .bool true, undef, undef, undef, .bool true, .bool true, undef, undef, undef, .bool true, .bool true, undef, undef, undef, undef, undef, .bool true, .bool true, undef, undef, undef, undef, .bool true, .bool true, undef, undef, undef, undef, .bool true, undef, undef, undef, undef, undef, undef, undef, undef, undef, undef, undef, undef, undef, undef, undef, undef, undef, undef, undef, undef, undef, undef, undef, undef, undef, undef, undef, undef, undef, undef, undef, undef, undef, undef, undef, undef, undef, undef, undef, undef, undef, undef, undef, undef, undef, undef, undef, undef, undef, undef, undef, undef, undef, undef, undef, undef, undef, undef, undef, undef, undef, undef, undef, undef, undef, undef, undef], []⟩ ?_
    go_wp2_with fail
    go_ret
    exact ⟨by rw [HE.out]; rfl, below_seq (below_seq (below_alloc _ _) hb1) (below_seq (below_alloc _ _) hB)⟩
  · skip
    refine tkB 45 (.bool false) [(51, .int .i64 n)] rfl (by rintro ρ ⟨e51, ec⟩ w hSw; obtain ⟨s0, s1, s2, s3, s4, s5, s6, s7, s8, s9, s10, s11, s12, s13, s14⟩ := hSw; have k0 := ec (Value.int IntKind.i64 (-1000000000000)); go_simp) hHeld ?_
    refine tkB 46 (.bool false) [(49, .bool false), (52, .bool false)] rfl (by rintro ρ ⟨e49, e52, ec⟩ w hSw; obtain ⟨s0, s1, s2, s3, s4, s5, s6, s7, s8, s9, s10, s11, s12, s13, s14⟩ := hSw; have k0 := ec (Value.bool true); go_simp) hHeld ?_
    refine tkB 47 (.bool false) [(53, .bool false)] rfl (by rintro ρ ⟨e53, ec⟩ w hSw; obtain ⟨s0, s1, s2, s3, s4, s5, s6, s7, s8, s9, s10, s11, s12, s13, s14⟩ := hSw; go_simp) hHeld ?_
    refine tkB 48 (.pointer (some ⟨w.heap.size, 6, none⟩)) [(1, .pointer (some ⟨w.heap.size, 0, none⟩))] rfl (by rintro ρ ⟨e1, ec⟩ w hSw; obtain ⟨s0, s1, s2, s3, s4, s5, s6, s7, s8, s9, s10, s11, s12, s13, s14⟩ := hSw; go_simp) hHeld ?_
    refine tkB 49 (.int .i64 n) [(55, .pointer (some ⟨w.heap.size, 6, none⟩))] rfl (by rintro ρ ⟨e55, ec⟩ w hSw; obtain ⟨s0, s1, s2, s3, s4, s5, s6, s7, s8, s9, s10, s11, s12, s13, s14⟩ := hSw; go_simp) hHeld ?_
    by_cases tq6 : 1000000000000 < n
    · have HE : Hid (r = false) := HT6.out (by omega)
      refine tkB 50 (.bool true) [(56, .int .i64 n)] rfl (by rintro ρ ⟨e56, ec⟩ w hSw; obtain ⟨s0, s1, s2, s3, s4, s5, s6, s7, s8, s9, s10, s11, s12, s13, s14⟩ := hSw; have k0 := ec (Value.int IntKind.i64 1000000000000); go_simp) hHeld ?_
      refine tkB 51 (.bool true) [(54, .bool false), (57, .bool true)] rfl (by rintro ρ ⟨e54, e57, ec⟩ w hSw; obtain ⟨s0, s1, s2, s3, s4, s5, s6, s7, s8, s9, s10, s11, s12, s13, s14⟩ := hSw; have k0 := ec (Value.bool true); go_simp) hHeld ?_
      refine tkB 52 (.bool true) [(58, .bool true)] rfl (by rintro ρ ⟨e58, ec⟩ w hSw; obtain ⟨s0, s1, s2, s3, s4, s5, s6, s7, s8, s9, s10, s11, s12, s13, s14⟩ := hSw; go_simp) hHeld ?_
      refine tkN 53 rfl hHeld ?_
      refine tkN 54 rfl hHeld ?_
      refine tkN 55 rfl hHeld ?_
      refine tkB 56 (.bool true) [(59, .bool true), (62, undef)] rfl (by rintro ρ ⟨e59, e62, ec⟩ w hSw; obtain ⟨s0, s1, s2, s3, s4, s5, s6, s7, s8, s9, s10, s11, s12, s13, s14⟩ := hSw; have k0 := ec (Value.bool true); go_simp) hHeld ?_
      refine tkB 57 (.bool true) [(63, .bool true)] rfl (by rintro ρ ⟨e63, ec⟩ w hSw; obtain ⟨s0, s1, s2, s3, s4, s5, s6, s7, s8, s9, s10, s11, s12, s13, s14⟩ := hSw; go_simp) hHeld ?_
      refine tkN 58 rfl hHeld ?_
      refine tkN 59 rfl hHeld ?_
      refine tkN 60 rfl hHeld ?_
      refine tkN 61 rfl hHeld ?_
      refine tkN 62 rfl hHeld ?_
      refine tkB 63 (.bool true) [(64, .bool true), (69, undef)] rfl (by rintro ρ ⟨e64, e69, ec⟩ w hSw; obtain ⟨s0, s1, s2, s3, s4, s5, s6, s7, s8, s9, s10, s11, s12, s13, s14⟩ := hSw; have k0 := ec (Value.bool true); go_simp) hHeld ?_
      refine tkB 64 (.bool true) [(70, .bool true)] rfl (by rintro ρ ⟨e70, ec⟩ w hSw; obtain ⟨s0, s1, s2, s3, s4, s5, s6, s7, s8, s9, s10, s11, s12, s13, s14⟩ := hSw; go_simp) hHeld ?_
      refine tkN 65 rfl hHeld ?_
      refine tkN 66 rfl hHeld ?_
      refine tkN 67 rfl hHeld ?_
      refine tkN 68 rfl hHeld ?_
      refine tkB 69 (.bool true) [(71, .bool true), (75, undef)] rfl (by rintro ρ ⟨e71, e75, ec⟩ w hSw; obtain ⟨s0, s1, s2, s3, s4, s5, s6, s7, s8, s9, s10, s11, s12, s13, s14⟩ := hSw; have k0 := ec (Value.bool true); go_simp) hHeld ?_
      refine tkB 70 (.bool true) [(76, .bool true)] rfl (by rintro ρ ⟨e76, ec⟩ w hSw; obtain ⟨s0, s1, s2, s3, s4, s5, s6, s7, s8, s9, s10, s11, s12, s13, s14⟩ := hSw; go_simp) hHeld ?_
      refine tkN 71 rfl hHeld ?_
      refine tkN 72 rfl hHeld ?_
      refine tkN 73 rfl hHeld ?_
      refine tkN 74 rfl hHeld ?_
      refine tkB 75 (.bool true) [(77, .bool true), (81, undef)] rfl (by rintro ρ ⟨e77, e81, ec⟩ w hSw; obtain ⟨s0, s1, s2, s3, s4, s5, s6, s7, s8, s9, s10, s11, s12, s13, s14⟩ := hSw; have k0 := ec (Value.bool true); go_simp) hHeld ?_
      refine wpAnyH_done (by kernel_rfl) ?_ _
      refine actN ⟨#[.agg #[.int .i64 ((j : Int)), .int .i64 s, .int .i64 t, .slice (some ⟨g, off, none⟩) 16 cap, .int .i64 k, .int .i64 o, .int .i64 n, .int .i64 u, .int .i64 pt, .int .i64 pa, .string ky, .string tx], .pointer (some ⟨w.heap.size, 0, none⟩), .bool false, .pointer (some ⟨w1.heap.size, 0, none⟩), undef, .agg #[.int .i64 ((j : Int)), .int .i64 s, .int .i64 t, .slice (some ⟨g, off, none⟩) 16 cap, .int .i64 k, .int .i64 o, .int .i64 n, .int .i64 u, .int .i64 pt, .int .i64 pa, .string ky, .string tx], .agg #[.int .i64 t, .int .i64 ((j : Int))], .agg #[.int .i64 t, .int .i64 ((j : Int))], .bool true, .bool false, .bool false, .pointer (some ⟨w.heap.size, 1, none⟩), .int .i64 s, .bool false, .bool false, .bool false, .pointer (some ⟨w.heap.size, 1, none⟩), .int .i64 s, .bool false, .bool false, .bool false, .pointer (some ⟨w.heap.size, 3, none⟩), .agg #[.slice (some ⟨g, off, none⟩) 16 cap], .bool true, .bool false, .bool false, .bool false, .pointer (some ⟨w.heap.size, 3, none⟩), .pointer (some ⟨w.heap.size, 3, none⟩), .slice (some ⟨g, off, none⟩) 16 cap, .pointer (some ⟨w.heap.size, 0, none⟩), .int .i64 ((j : Int)), .pointer (some ⟨g, off + j, none⟩), .int .i64 dj, .pointer (some ⟨w.heap.size, 1, none⟩), .int .i64 s, .int .i64 (s - 1), .bool false, .bool false, .bool false, .pointer (some ⟨w.heap.size, 5, none⟩), .int .i64 o, .bool false, .bool false, .bool false, .pointer (some ⟨w.heap.size, 5, none⟩), .int .i64 o, .bool false, .bool false, .bool false, .pointer (some ⟨w.heap.size, 6, none⟩), .int .i64 n, .bool false, .bool false, .bool false, .pointer (some ⟨w.heap.size, 6, none⟩), .int .i64 n, .bool true, .bool true, .bool true, undef, undef, undef, .bool true, .bool true, undef, undef, undef, undef, undef, .bool true, .bool true, undef, undef, undef, undef, .bool true, .bool true, undef, undef, undef, undef, .bool true, undef, undef, undef, undef, undef, undef, undef, undef, undef, undef, undef, undef, undef, undef, undef, undef, undef, undef, undef, undef, undef, undef, undef, undef, undef, undef, undef, undef, undef, undef, undef, undef, undef, undef, undef, undef, undef, undef, undef, undef, undef, undef, undef, undef, undef, undef, undef, undef, undef, undef, undef, undef, undef, undef, undef, undef, undef, undef, undef, undef, undef, undef, undef, undef, undef, undef, undef], []⟩ ?_
      go_wp2_with fail
      go_ret
      exact ⟨by rw [HE.out]; rfl, below_seq (below_seq (below_alloc _ _) hb1) (below_seq (below_alloc _ _) hB)⟩
    · skip
      refine tkB 50 (.bool false) [(56, .int .i64 n)] rfl (by rintro ρ ⟨e56, ec⟩ w hSw; obtain ⟨s0, s1, s2, s3, s4, s5, s6, s7, s8, s9, s10, s11, s12, s13, s14⟩ := hSw; have k0 := ec (Value.int IntKind.i64 1000000000000); go_simp) hHeld ?_
      refine tkB 51 (.bool false) [(54, .bool false), (57, .bool false)] rfl (by rintro ρ ⟨e54, e57, ec⟩ w hSw; obtain ⟨s0, s1, s2, s3, s4, s5, s6, s7, s8, s9, s10, s11, s12, s13, s14⟩ := hSw; have k0 := ec (Value.bool true); go_simp) hHeld ?_
      refine tkB 52 (.bool false) [(58, .bool false)] rfl (by rintro ρ ⟨e58, ec⟩ w hSw; obtain ⟨s0, s1, s2, s3, s4, s5, s6, s7, s8, s9, s10, s11, s12, s13, s14⟩ := hSw; go_simp) hHeld ?_
      refine tkB 53 (.pointer (some ⟨w.heap.size, 7, none⟩)) [(1, .pointer (some ⟨w.heap.size, 0, none⟩))] rfl (by rintro ρ ⟨e1, ec⟩ w hSw; obtain ⟨s0, s1, s2, s3, s4, s5, s6, s7, s8, s9, s10, s11, s12, s13, s14⟩ := hSw; go_simp) hHeld ?_
      refine tkB 54 (.int .i64 u) [(60, .pointer (some ⟨w.heap.size, 7, none⟩))] rfl (by rintro ρ ⟨e60, ec⟩ w hSw; obtain ⟨s0, s1, s2, s3, s4, s5, s6, s7, s8, s9, s10, s11, s12, s13, s14⟩ := hSw; go_simp) hHeld ?_
      by_cases tq7 : u < 0
      · have HE : Hid (r = false) := HT7.out (by omega)
        refine tkB 55 (.bool true) [(61, .int .i64 u)] rfl (by rintro ρ ⟨e61, ec⟩ w hSw; obtain ⟨s0, s1, s2, s3, s4, s5, s6, s7, s8, s9, s10, s11, s12, s13, s14⟩ := hSw; have k0 := ec (Value.int IntKind.i64 0); go_simp) hHeld ?_
        refine tkB 56 (.bool true) [(59, .bool false), (62, .bool true)] rfl (by rintro ρ ⟨e59, e62, ec⟩ w hSw; obtain ⟨s0, s1, s2, s3, s4, s5, s6, s7, s8, s9, s10, s11, s12, s13, s14⟩ := hSw; have k0 := ec (Value.bool true); go_simp) hHeld ?_
        refine tkB 57 (.bool true) [(63, .bool true)] rfl (by rintro ρ ⟨e63, ec⟩ w hSw; obtain ⟨s0, s1, s2, s3, s4, s5, s6, s7, s8, s9, s10, s11, s12, s13, s14⟩ := hSw; go_simp) hHeld ?_
        refine tkN 58 rfl hHeld ?_
        refine tkN 59 rfl hHeld ?_
        refine tkN 60 rfl hHeld ?_
        refine tkN 61 rfl hHeld ?_
        refine tkN 62 rfl hHeld ?_
        refine tkB 63 (.bool true) [(64, .bool true), (69, undef)] rfl (by rintro ρ ⟨e64, e69, ec⟩ w hSw; obtain ⟨s0, s1, s2, s3, s4, s5, s6, s7, s8, s9, s10, s11, s12, s13, s14⟩ := hSw; have k0 := ec (Value.bool true); go_simp) hHeld ?_
        refine tkB 64 (.bool true) [(70, .bool true)] rfl (by rintro ρ ⟨e70, ec⟩ w hSw; obtain ⟨s0, s1, s2, s3, s4, s5, s6, s7, s8, s9, s10, s11, s12, s13, s14⟩ := hSw; go_simp) hHeld ?_
        refine tkN 65 rfl hHeld ?_
        refine tkN 66 rfl hHeld ?_
        refine tkN 67 rfl hHeld ?_
        refine tkN 68 rfl hHeld ?_
        refine tkB 69 (.bool true) [(71, .bool true), (75, undef)] rfl (by rintro ρ ⟨e71, e75, ec⟩ w hSw; obtain ⟨s0, s1, s2, s3, s4, s5, s6, s7, s8, s9, s10, s11, s12, s13, s14⟩ := hSw; have k0 := ec (Value.bool true); go_simp) hHeld ?_
        refine tkB 70 (.bool true) [(76, .bool true)] rfl (by rintro ρ ⟨e76, ec⟩ w hSw; obtain ⟨s0, s1, s2, s3, s4, s5, s6, s7, s8, s9, s10, s11, s12, s13, s14⟩ := hSw; go_simp) hHeld ?_
        refine tkN 71 rfl hHeld ?_
        refine tkN 72 rfl hHeld ?_
        refine tkN 73 rfl hHeld ?_
        refine tkN 74 rfl hHeld ?_
        refine tkB 75 (.bool true) [(77, .bool true), (81, undef)] rfl (by rintro ρ ⟨e77, e81, ec⟩ w hSw; obtain ⟨s0, s1, s2, s3, s4, s5, s6, s7, s8, s9, s10, s11, s12, s13, s14⟩ := hSw; have k0 := ec (Value.bool true); go_simp) hHeld ?_
        refine wpAnyH_done (by kernel_rfl) ?_ _
        refine actN ⟨#[.agg #[.int .i64 ((j : Int)), .int .i64 s, .int .i64 t, .slice (some ⟨g, off, none⟩) 16 cap, .int .i64 k, .int .i64 o, .int .i64 n, .int .i64 u, .int .i64 pt, .int .i64 pa, .string ky, .string tx], .pointer (some ⟨w.heap.size, 0, none⟩), .bool false, .pointer (some ⟨w1.heap.size, 0, none⟩), undef, .agg #[.int .i64 ((j : Int)), .int .i64 s, .int .i64 t, .slice (some ⟨g, off, none⟩) 16 cap, .int .i64 k, .int .i64 o, .int .i64 n, .int .i64 u, .int .i64 pt, .int .i64 pa, .string ky, .string tx], .agg #[.int .i64 t, .int .i64 ((j : Int))], .agg #[.int .i64 t, .int .i64 ((j : Int))], .bool true, .bool false, .bool false, .pointer (some ⟨w.heap.size, 1, none⟩), .int .i64 s, .bool false, .bool false, .bool false, .pointer (some ⟨w.heap.size, 1, none⟩), .int .i64 s, .bool false, .bool false, .bool false, .pointer (some ⟨w.heap.size, 3, none⟩), .agg #[.slice (some ⟨g, off, none⟩) 16 cap], .bool true, .bool false, .bool false, .bool false, .pointer (some ⟨w.heap.size, 3, none⟩), .pointer (some ⟨w.heap.size, 3, none⟩), .slice (some ⟨g, off, none⟩) 16 cap, .pointer (some ⟨w.heap.size, 0, none⟩), .int .i64 ((j : Int)), .pointer (some ⟨g, off + j, none⟩), .int .i64 dj, .pointer (some ⟨w.heap.size, 1, none⟩), .int .i64 s, .int .i64 (s - 1), .bool false, .bool false, .bool false, .pointer (some ⟨w.heap.size, 5, none⟩), .int .i64 o, .bool false, .bool false, .bool false, .pointer (some ⟨w.heap.size, 5, none⟩), .int .i64 o, .bool false, .bool false, .bool false, .pointer (some ⟨w.heap.size, 6, none⟩), .int .i64 n, .bool false, .bool false, .bool false, .pointer (some ⟨w.heap.size, 6, none⟩), .int .i64 n, .bool false, .bool false, .bool false, .pointer (some ⟨w.heap.size, 7, none⟩), .int .i64 u, .bool true, .bool true, .bool true, undef, undef, undef, undef, undef, .bool true, .bool true, undef, undef, undef, undef, .bool true, .bool true, undef, undef, undef, undef, .bool true, undef, undef, undef, undef, undef, undef, undef, undef, undef, undef, undef, undef, undef, undef, undef, undef, undef, undef, undef, undef, undef, undef, undef, undef, undef, undef, undef, undef, undef, undef, undef, undef, undef, undef, undef, undef, undef, undef, undef, undef, undef, undef, undef, undef, undef, undef, undef, undef, undef, undef, undef, undef, undef, undef, undef, undef, undef, undef, undef, undef, undef, undef, undef, undef, undef, undef, undef], []⟩ ?_
        go_wp2_with fail
        go_ret
        exact ⟨by rw [HE.out]; rfl, below_seq (below_seq (below_alloc _ _) hb1) (below_seq (below_alloc _ _) hB)⟩
      · skip
        refine tkB 55 (.bool false) [(61, .int .i64 u)] rfl (by rintro ρ ⟨e61, ec⟩ w hSw; obtain ⟨s0, s1, s2, s3, s4, s5, s6, s7, s8, s9, s10, s11, s12, s13, s14⟩ := hSw; have k0 := ec (Value.int IntKind.i64 0); go_simp) hHeld ?_
        refine tkB 56 (.bool false) [(59, .bool false), (62, .bool false)] rfl (by rintro ρ ⟨e59, e62, ec⟩ w hSw; obtain ⟨s0, s1, s2, s3, s4, s5, s6, s7, s8, s9, s10, s11, s12, s13, s14⟩ := hSw; have k0 := ec (Value.bool true); go_simp) hHeld ?_
        refine tkB 57 (.bool false) [(63, .bool false)] rfl (by rintro ρ ⟨e63, ec⟩ w hSw; obtain ⟨s0, s1, s2, s3, s4, s5, s6, s7, s8, s9, s10, s11, s12, s13, s14⟩ := hSw; go_simp) hHeld ?_
        refine tkB 58 (.pointer (some ⟨w.heap.size, 7, none⟩)) [(1, .pointer (some ⟨w.heap.size, 0, none⟩))] rfl (by rintro ρ ⟨e1, ec⟩ w hSw; obtain ⟨s0, s1, s2, s3, s4, s5, s6, s7, s8, s9, s10, s11, s12, s13, s14⟩ := hSw; go_simp) hHeld ?_
        refine tkB 59 (.int .i64 u) [(65, .pointer (some ⟨w.heap.size, 7, none⟩))] rfl (by rintro ρ ⟨e65, ec⟩ w hSw; obtain ⟨s0, s1, s2, s3, s4, s5, s6, s7, s8, s9, s10, s11, s12, s13, s14⟩ := hSw; go_simp) hHeld ?_
        refine tkB 60 (.pointer (some ⟨w.heap.size, 1, none⟩)) [(1, .pointer (some ⟨w.heap.size, 0, none⟩))] rfl (by rintro ρ ⟨e1, ec⟩ w hSw; obtain ⟨s0, s1, s2, s3, s4, s5, s6, s7, s8, s9, s10, s11, s12, s13, s14⟩ := hSw; go_simp) hHeld ?_
        refine tkB 61 (.int .i64 s) [(67, .pointer (some ⟨w.heap.size, 1, none⟩))] rfl (by rintro ρ ⟨e67, ec⟩ w hSw; obtain ⟨s0, s1, s2, s3, s4, s5, s6, s7, s8, s9, s10, s11, s12, s13, s14⟩ := hSw; go_simp) hHeld ?_
        have tq8 := HBAD.out (by omega) (by omega) (by omega)
        have HE : Hid (r = false) := HT8.out (by omega)
        · skip
          refine tkB 62 (.bool true) [(66, .int .i64 u), (68, .int .i64 s)] rfl (by rintro ρ ⟨e66, e68, ec⟩ w hSw; obtain ⟨s0, s1, s2, s3, s4, s5, s6, s7, s8, s9, s10, s11, s12, s13, s14⟩ := hSw; go_simp) hHeld ?_
          refine tkB 63 (.bool true) [(64, .bool false), (69, .bool true)] rfl (by rintro ρ ⟨e64, e69, ec⟩ w hSw; obtain ⟨s0, s1, s2, s3, s4, s5, s6, s7, s8, s9, s10, s11, s12, s13, s14⟩ := hSw; have k0 := ec (Value.bool true); go_simp) hHeld ?_
          refine tkB 64 (.bool true) [(70, .bool true)] rfl (by rintro ρ ⟨e70, ec⟩ w hSw; obtain ⟨s0, s1, s2, s3, s4, s5, s6, s7, s8, s9, s10, s11, s12, s13, s14⟩ := hSw; go_simp) hHeld ?_
          refine tkN 65 rfl hHeld ?_
          refine tkN 66 rfl hHeld ?_
          refine tkN 67 rfl hHeld ?_
          refine tkN 68 rfl hHeld ?_
          refine tkB 69 (.bool true) [(71, .bool true), (75, undef)] rfl (by rintro ρ ⟨e71, e75, ec⟩ w hSw; obtain ⟨s0, s1, s2, s3, s4, s5, s6, s7, s8, s9, s10, s11, s12, s13, s14⟩ := hSw; have k0 := ec (Value.bool true); go_simp) hHeld ?_
          refine tkB 70 (.bool true) [(76, .bool true)] rfl (by rintro ρ ⟨e76, ec⟩ w hSw; obtain ⟨s0, s1, s2, s3, s4, s5, s6, s7, s8, s9, s10, s11, s12, s13, s14⟩ := hSw; go_simp) hHeld ?_
          refine tkN 71 rfl hHeld ?_
          refine tkN 72 rfl hHeld ?_
          refine tkN 73 rfl hHeld ?_
          refine tkN 74 rfl hHeld ?_
          refine tkB 75 (.bool true) [(77, .bool true), (81, undef)] rfl (by rintro ρ ⟨e77, e81, ec⟩ w hSw; obtain ⟨s0, s1, s2, s3, s4, s5, s6, s7, s8, s9, s10, s11, s12, s13, s14⟩ := hSw; have k0 := ec (Value.bool true); go_simp) hHeld ?_
          refine wpAnyH_done (by kernel_rfl) ?_ _
          refine actN ⟨#[.agg #[.int .i64 ((j : Int)), .int .i64 s, .int .i64 t, .slice (some ⟨g, off, none⟩) 16 cap, .int .i64 k, .int .i64 o, .int .i64 n, .int .i64 u, .int .i64 pt, .int .i64 pa, .string ky, .string tx], .pointer (some ⟨w.heap.size, 0, none⟩), .bool false, .pointer (some ⟨w1.heap.size, 0, none⟩), undef, .agg #[.int .i64 ((j : Int)), .int .i64 s, .int .i64 t, .slice (some ⟨g, off, none⟩) 16 cap, .int .i64 k, .int .i64 o, .int .i64 n, .int .i64 u, .int .i64 pt, .int .i64 pa, .string ky, .string tx], .agg #[.int .i64 t, .int .i64 ((j : Int))], .agg #[.int .i64 t, .int .i64 ((j : Int))], .bool true, .bool false, .bool false, .pointer (some ⟨w.heap.size, 1, none⟩), .int .i64 s, .bool false, .bool false, .bool false, .pointer (some ⟨w.heap.size, 1, none⟩), .int .i64 s, .bool false, .bool false, .bool false, .pointer (some ⟨w.heap.size, 3, none⟩), .agg #[.slice (some ⟨g, off, none⟩) 16 cap], .bool true, .bool false, .bool false, .bool false, .pointer (some ⟨w.heap.size, 3, none⟩), .pointer (some ⟨w.heap.size, 3, none⟩), .slice (some ⟨g, off, none⟩) 16 cap, .pointer (some ⟨w.heap.size, 0, none⟩), .int .i64 ((j : Int)), .pointer (some ⟨g, off + j, none⟩), .int .i64 dj, .pointer (some ⟨w.heap.size, 1, none⟩), .int .i64 s, .int .i64 (s - 1), .bool false, .bool false, .bool false, .pointer (some ⟨w.heap.size, 5, none⟩), .int .i64 o, .bool false, .bool false, .bool false, .pointer (some ⟨w.heap.size, 5, none⟩), .int .i64 o, .bool false, .bool false, .bool false, .pointer (some ⟨w.heap.size, 6, none⟩), .int .i64 n, .bool false, .bool false, .bool false, .pointer (some ⟨w.heap.size, 6, none⟩), .int .i64 n, .bool false, .bool false, .bool false, .pointer (some ⟨w.heap.size, 7, none⟩), .int .i64 u, .bool false, .bool false, .bool false, .pointer (some ⟨w.heap.size, 7, none⟩), .int .i64 u, .pointer (some ⟨w.heap.size, 1, none⟩), .int .i64 s, .bool true, .bool true, .bool true, undef, undef, undef, undef, .bool true, .bool true, undef, undef, undef, undef, .bool true, undef, undef, undef, undef, undef, undef, undef, undef, undef, undef, undef, undef, undef, undef, undef, undef, undef, undef, undef, undef, undef, undef, undef, undef, undef, undef, undef, undef, undef, undef, undef, undef, undef, undef, undef, undef, undef, undef, undef, undef, undef, undef, undef, undef, undef, undef, undef, undef, undef, undef, undef, undef, undef, undef, undef, undef, undef, undef, undef, undef, undef, undef, undef, undef, undef, undef, undef], []⟩ ?_
          go_wp2_with fail
          go_ret
          exact ⟨by rw [HE.out]; rfl, below_seq (below_seq (below_alloc _ _) hb1) (below_seq (below_alloc _ _) hB)⟩

end Go.Proofs.Ytjbjkamlgcnmaaa

namespace Go.Proofs.Ytjbjkamlgcnmaaa
open Go.RowKit
set_option linter.unusedVariables false

set_option maxHeartbeats 4000000 in
set_option maxRecDepth 100000 in
theorem opSpec_f (C : Nat) (s t k o n u pt pa : Int) (ky tx : ByteArray) (j g off cap : Nat) (dj : Int) (w : World) (r : Bool) (hj : j < 16) (hg' : g < w.heap.size) (HC : Hid (w.cell? ⟨g, off + j, none⟩ = some (.int .i64 dj))) (hO : ∀ w, Calls Try.prog 37 #[.agg #[.int .i64 t, .int .i64 (j : Int)]] w fun e w' => e = .returned (.bool true) ∧ Below w.heap.size w w') (hV : ∀ w1, Below w.heap.size w w1 → Calls Try.prog 38 #[.agg #[.slice (some ⟨g, off, none⟩) 16 cap]] w1 fun e w' => e = .returned (.bool true) ∧ Below w1.heap.size w1 w') (kn0 : ¬ (s < 1)) (kn1 : ¬ (1000000000000 < s)) (kn2 : ¬ (¬ dj = s - 1)) (kn3 : ¬ (o < 1)) (kn4 : ¬ (100 < o)) (kn5 : ¬ (n < -1000000000000)) (kn6 : ¬ (1000000000000 < n)) (kn7 : ¬ (u < 0)) (kn8 : ¬ (s ≤ u)) (HT9 : Hid (200 < (ky.size : Int) → r = false)) (HT10 : Hid (200 < (tx.size : Int) → r = false)) (HRE : Hid (¬ 200 < (ky.size : Int) → ¬ 200 < (tx.size : Int) → r = ((decide (pt = 0 ∧ pa = 0) || (stOK pt pa && lessS pt pa t j)) && (if k = 1 then decide (n = 0) && decide (pt = 0 ∧ pa = 0) else if k = 2 then (decide (ky.toList = []) && decide (tx.toList = [])) && chOK n else if k = 3 then (decide (ky.toList = []) && decide (tx.toList = [])) && (decide (n = 0) && !decide (pt = 0 ∧ pa = 0)) else if k = 4 then (decide (ky.toList = []) && decide (tx.toList = [])) && decide (pt = 0 ∧ pa = 0) else false)))) :
    Calls Try.prog 13 #[.agg #[.int .i64 ((j : Int)), .int .i64 s, .int .i64 t, .slice (some ⟨g, off, none⟩) 16 cap, .int .i64 k, .int .i64 o, .int .i64 n, .int .i64 u, .int .i64 pt, .int .i64 pa, .string ky, .string tx]] w fun e w' => e = .returned (.bool r) ∧ Below w.heap.size w w' := by
  have hj' : (j : Int) < 16 := by omega
  have hsw : IntKind.i64.wrap (s - 1) = s - 1 := by rw [IntKind.wrap_i64]; omega
  have kn2' : dj = s - 1 := by omega
  have hP := fun w => specStampOK_any pt pa w
  have hL := fun w => specStampLess_any pt pa t j w
  have hch := fun w => l04Char_any n w
  go_enter Try.func13, Try.ntmps13
  go_wp2_with (go_at_call 36; refine (l08Stamp_any _ _ _ _ _ _ _ _ _ _ _ _ _).mono ?_; rintro e w1 ⟨rfl, hb1⟩)
  have hB := (Below.refl (w1.alloc (.cells #[.int .i64 t, .int .i64 (j : Int)] 42)).heap.size (w1.alloc (.cells #[.int .i64 t, .int .i64 (j : Int)] 42))).drew
  have HF : Hid (∀ wx, Below (w1.alloc (.cells #[.int .i64 t, .int .i64 (j : Int)] 42)).heap.size (w1.alloc (.cells #[.int .i64 t, .int .i64 (j : Int)] 42)) wx → wx.cell? ⟨w.heap.size, 0, none⟩ = some (.int .i64 ((j : Int))) ∧ wx.cell? ⟨w.heap.size, 1, none⟩ = some (.int .i64 s) ∧ wx.cell? ⟨w.heap.size, 2, none⟩ = some (.int .i64 t) ∧ wx.cell? ⟨w.heap.size, 3, none⟩ = some (.slice (some ⟨g, off, none⟩) 16 cap) ∧ wx.cell? ⟨w.heap.size, 4, none⟩ = some (.int .i64 k) ∧ wx.cell? ⟨w.heap.size, 5, none⟩ = some (.int .i64 o) ∧ wx.cell? ⟨w.heap.size, 6, none⟩ = some (.int .i64 n) ∧ wx.cell? ⟨w.heap.size, 7, none⟩ = some (.int .i64 u) ∧ wx.cell? ⟨w.heap.size, 8, none⟩ = some (.int .i64 pt) ∧ wx.cell? ⟨w.heap.size, 9, none⟩ = some (.int .i64 pa) ∧ wx.cell? ⟨w.heap.size, 10, none⟩ = some (.string ky) ∧ wx.cell? ⟨w.heap.size, 11, none⟩ = some (.string tx) ∧ wx.cell? ⟨w1.heap.size, 0, none⟩ = some (.int .i64 t) ∧ wx.cell? ⟨w1.heap.size, 1, none⟩ = some (.int .i64 ((j : Int))) ∧ wx.cell? ⟨g, off + j, none⟩ = some (.int .i64 dj)) := fun wx h => by
    have h2 := below_seq (below_alloc w1 _) h
    obtain ⟨q0, q1, q2, q3, q4, q5, q6, q7, q8, q9, q10, q11⟩ := op_cells (below_seq hb1 h2)
    exact ⟨q0, q1, q2, q3, q4, q5, q6, q7, q8, q9, q10, q11, cell_made h (k := 0) rfl, cell_made h (k := 1) rfl, ((below_seq (below_alloc w _) (below_seq hb1 h2)).cell (p := ⟨g, off + j, none⟩) (by show g < w.heap.size; omega)).trans HC.out⟩
  refine wp_region_held_drew (S := fun w' => w'.cell? ⟨w.heap.size, 0, none⟩ = some (.int .i64 ((j : Int))) ∧ w'.cell? ⟨w.heap.size, 1, none⟩ = some (.int .i64 s) ∧ w'.cell? ⟨w.heap.size, 2, none⟩ = some (.int .i64 t) ∧ w'.cell? ⟨w.heap.size, 3, none⟩ = some (.slice (some ⟨g, off, none⟩) 16 cap) ∧ w'.cell? ⟨w.heap.size, 4, none⟩ = some (.int .i64 k) ∧ w'.cell? ⟨w.heap.size, 5, none⟩ = some (.int .i64 o) ∧ w'.cell? ⟨w.heap.size, 6, none⟩ = some (.int .i64 n) ∧ w'.cell? ⟨w.heap.size, 7, none⟩ = some (.int .i64 u) ∧ w'.cell? ⟨w.heap.size, 8, none⟩ = some (.int .i64 pt) ∧ w'.cell? ⟨w.heap.size, 9, none⟩ = some (.int .i64 pa) ∧ w'.cell? ⟨w.heap.size, 10, none⟩ = some (.string ky) ∧ w'.cell? ⟨w.heap.size, 11, none⟩ = some (.string tx) ∧ w'.cell? ⟨w1.heap.size, 0, none⟩ = some (.int .i64 t) ∧ w'.cell? ⟨w1.heap.size, 1, none⟩ = some (.int .i64 ((j : Int))) ∧ w'.cell? ⟨g, off + j, none⟩ = some (.int .i64 dj)) (by kernel_rfl) (HF.out _ hB) (fun hHeld => ?_)
  refine tkB 0 (.agg #[.int .i64 t, .int .i64 ((j : Int))]) [(3, .pointer (some ⟨w1.heap.size, 0, none⟩))] rfl (by rintro ρ ⟨e3, ec⟩ w hSw; obtain ⟨s0, s1, s2, s3, s4, s5, s6, s7, s8, s9, s10, s11, s12, s13, s14⟩ := hSw; go_simp) hHeld ?_
  refine actH ⟨#[.agg #[.int .i64 ((j : Int)), .int .i64 s, .int .i64 t, .slice (some ⟨g, off, none⟩) 16 cap, .int .i64 k, .int .i64 o, .int .i64 n, .int .i64 u, .int .i64 pt, .int .i64 pa, .string ky, .string tx], .pointer (some ⟨w.heap.size, 0, none⟩), .bool false, .pointer (some ⟨w1.heap.size, 0, none⟩), undef, .agg #[.int .i64 ((j : Int)), .int .i64 s, .int .i64 t, .slice (some ⟨g, off, none⟩) 16 cap, .int .i64 k, .int .i64 o, .int .i64 n, .int .i64 u, .int .i64 pt, .int .i64 pa, .string ky, .string tx], .agg #[.int .i64 t, .int .i64 ((j : Int))], .agg #[.int .i64 t, .int .i64 ((j : Int))], undef, undef, undef, undef, undef, undef, undef, undef, undef, undef, undef, undef, undef, undef, undef, undef, undef, undef, undef, undef, undef, undef, undef, undef, undef, undef, undef, undef, undef, undef, undef, undef, undef, undef, undef, undef, undef, undef, undef, undef, undef, undef, undef, undef, undef, undef, undef, undef, undef, undef, undef, undef, undef, undef, undef, undef, undef, undef, undef, undef, undef, undef, undef, undef, undef, undef, undef, undef, undef, undef, undef, undef, undef, undef, undef, undef, undef, undef, undef, undef, undef, undef, undef, undef, undef, undef, undef, undef, undef, undef, undef, undef, undef, undef, undef, undef, undef, undef, undef, undef, undef, undef, undef, undef, undef, undef, undef, undef, undef, undef, undef, undef, undef, undef, undef, undef, undef, undef, undef, undef, undef, undef, undef, undef, undef, undef, undef, undef, undef, undef, undef, undef, undef, undef, undef, undef, undef, undef, undef, undef, undef, undef], []⟩ #[true, false, false, false, false, false, false, false, false, false, false, false, false, false, false, false, false, false, false, false, false, false, false, false, false, false, false, false, false, false, false, false, false, false, false, false, false, false, false, false, false, false, false, false, false, false, false, false, false, false, false, false, false, false, false, false, false, false, false, false, false, false, false, false, false, false, false, false, false, false, false, false, false, false, false, false] ?_
  refine wpAnyH_ready (rs := [1]) (by kernel_rfl) (by simp) ?_
  refine AllReadyH.cons rfl (fun K hK => ?_) AllReadyH.nil
  go_simp
  refine (hO _).mono ?_
  rintro e wn ⟨rfl, hbn⟩
  replace hB := below_seq hB hbn
  clear hbn
  go_wp2_with fail
  refine hK.out _ _ (HF.out _ hB) (fun hHeld => ?_)
  clear hK K
  refine tkB 2 (.bool false) [(8, .bool true)] rfl (by rintro ρ ⟨e8, ec⟩ w hSw; obtain ⟨s0, s1, s2, s3, s4, s5, s6, s7, s8, s9, s10, s11, s12, s13, s14⟩ := hSw; go_simp) hHeld ?_
  refine tkB 3 (.bool false) [(9, .bool false)] rfl (by rintro ρ ⟨e9, ec⟩ w hSw; obtain ⟨s0, s1, s2, s3, s4, s5, s6, s7, s8, s9, s10, s11, s12, s13, s14⟩ := hSw; go_simp) hHeld ?_
  refine tkB 4 (.pointer (some ⟨w.heap.size, 1, none⟩)) [(1, .pointer (some ⟨w.heap.size, 0, none⟩))] rfl (by rintro ρ ⟨e1, ec⟩ w hSw; obtain ⟨s0, s1, s2, s3, s4, s5, s6, s7, s8, s9, s10, s11, s12, s13, s14⟩ := hSw; go_simp) hHeld ?_
  refine tkB 5 (.int .i64 s) [(11, .pointer (some ⟨w.heap.size, 1, none⟩))] rfl (by rintro ρ ⟨e11, ec⟩ w hSw; obtain ⟨s0, s1, s2, s3, s4, s5, s6, s7, s8, s9, s10, s11, s12, s13, s14⟩ := hSw; go_simp) hHeld ?_
  refine tkB 6 (.bool false) [(12, .int .i64 s)] rfl (by rintro ρ ⟨e12, ec⟩ w hSw; obtain ⟨s0, s1, s2, s3, s4, s5, s6, s7, s8, s9, s10, s11, s12, s13, s14⟩ := hSw; have k0 := ec (Value.int IntKind.i64 1); go_simp) hHeld ?_
  refine tkB 7 (.bool false) [(10, .bool false), (13, .bool false)] rfl (by rintro ρ ⟨e10, e13, ec⟩ w hSw; obtain ⟨s0, s1, s2, s3, s4, s5, s6, s7, s8, s9, s10, s11, s12, s13, s14⟩ := hSw; have k0 := ec (Value.bool true); go_simp) hHeld ?_
  refine tkB 8 (.bool false) [(14, .bool false)] rfl (by rintro ρ ⟨e14, ec⟩ w hSw; obtain ⟨s0, s1, s2, s3, s4, s5, s6, s7, s8, s9, s10, s11, s12, s13, s14⟩ := hSw; go_simp) hHeld ?_
  refine tkB 9 (.pointer (some ⟨w.heap.size, 1, none⟩)) [(1, .pointer (some ⟨w.heap.size, 0, none⟩))] rfl (by rintro ρ ⟨e1, ec⟩ w hSw; obtain ⟨s0, s1, s2, s3, s4, s5, s6, s7, s8, s9, s10, s11, s12, s13, s14⟩ := hSw; go_simp) hHeld ?_
  refine tkB 10 (.int .i64 s) [(16, .pointer (some ⟨w.heap.size, 1, none⟩))] rfl (by rintro ρ ⟨e16, ec⟩ w hSw; obtain ⟨s0, s1, s2, s3, s4, s5, s6, s7, s8, s9, s10, s11, s12, s13, s14⟩ := hSw; go_simp) hHeld ?_
  refine tkB 11 (.bool false) [(17, .int .i64 s)] rfl (by rintro ρ ⟨e17, ec⟩ w hSw; obtain ⟨s0, s1, s2, s3, s4, s5, s6, s7, s8, s9, s10, s11, s12, s13, s14⟩ := hSw; have k0 := ec (Value.int IntKind.i64 1000000000000); go_simp) hHeld ?_
  refine tkB 12 (.bool false) [(15, .bool false), (18, .bool false)] rfl (by rintro ρ ⟨e15, e18, ec⟩ w hSw; obtain ⟨s0, s1, s2, s3, s4, s5, s6, s7, s8, s9, s10, s11, s12, s13, s14⟩ := hSw; have k0 := ec (Value.bool true); go_simp) hHeld ?_
  refine tkB 13 (.bool false) [(19, .bool false)] rfl (by rintro ρ ⟨e19, ec⟩ w hSw; obtain ⟨s0, s1, s2, s3, s4, s5, s6, s7, s8, s9, s10, s11, s12, s13, s14⟩ := hSw; go_simp) hHeld ?_
  refine tkB 14 (.pointer (some ⟨w.heap.size, 3, none⟩)) [(1, .pointer (some ⟨w.heap.size, 0, none⟩))] rfl (by rintro ρ ⟨e1, ec⟩ w hSw; obtain ⟨s0, s1, s2, s3, s4, s5, s6, s7, s8, s9, s10, s11, s12, s13, s14⟩ := hSw; go_simp) hHeld ?_
  refine tkB 15 (.agg #[.slice (some ⟨g, off, none⟩) 16 cap]) [(21, .pointer (some ⟨w.heap.size, 3, none⟩))] rfl (by rintro ρ ⟨e21, ec⟩ w hSw; obtain ⟨s0, s1, s2, s3, s4, s5, s6, s7, s8, s9, s10, s11, s12, s13, s14⟩ := hSw; go_simp) hHeld ?_
  refine actH ⟨#[.agg #[.int .i64 ((j : Int)), .int .i64 s, .int .i64 t, .slice (some ⟨g, off, none⟩) 16 cap, .int .i64 k, .int .i64 o, .int .i64 n, .int .i64 u, .int .i64 pt, .int .i64 pa, .string ky, .string tx], .pointer (some ⟨w.heap.size, 0, none⟩), .bool false, .pointer (some ⟨w1.heap.size, 0, none⟩), undef, .agg #[.int .i64 ((j : Int)), .int .i64 s, .int .i64 t, .slice (some ⟨g, off, none⟩) 16 cap, .int .i64 k, .int .i64 o, .int .i64 n, .int .i64 u, .int .i64 pt, .int .i64 pa, .string ky, .string tx], .agg #[.int .i64 t, .int .i64 ((j : Int))], .agg #[.int .i64 t, .int .i64 ((j : Int))], .bool true, .bool false, .bool false, .pointer (some ⟨w.heap.size, 1, none⟩), .int .i64 s, .bool false, .bool false, .bool false, .pointer (some ⟨w.heap.size, 1, none⟩), .int .i64 s, .bool false, .bool false, .bool false, .pointer (some ⟨w.heap.size, 3, none⟩), .agg #[.slice (some ⟨g, off, none⟩) 16 cap], undef, undef, undef, undef, undef, undef, undef, undef, undef, undef, undef, undef, undef, undef, undef, undef, undef, undef, undef, undef, undef, undef, undef, undef, undef, undef, undef, undef, undef, undef, undef, undef, undef, undef, undef, undef, undef, undef, undef, undef, undef, undef, undef, undef, undef, undef, undef, undef, undef, undef, undef, undef, undef, undef, undef, undef, undef, undef, undef, undef, undef, undef, undef, undef, undef, undef, undef, undef, undef, undef, undef, undef, undef, undef, undef, undef, undef, undef, undef, undef, undef, undef, undef, undef, undef, undef, undef, undef, undef, undef, undef, undef, undef, undef, undef, undef, undef, undef, undef, undef, undef, undef, undef, undef, undef, undef, undef, undef, undef, undef, undef, undef, undef, undef, undef, undef, undef, undef, undef, undef, undef, undef, undef, undef, undef, undef, undef], []⟩ #[true, true, true, true, true, true, true, true, true, true, true, true, true, true, true, true, false, false, false, false, false, false, false, false, false, false, false, false, false, false, false, false, false, false, false, false, false, false, false, false, false, false, false, false, false, false, false, false, false, false, false, false, false, false, false, false, false, false, false, false, false, false, false, false, false, false, false, false, false, false, false, false, false, false, false, false] ?_
  refine wpAnyH_ready (rs := [16]) (by kernel_rfl) (by simp) ?_
  refine AllReadyH.cons rfl (fun K hK => ?_) AllReadyH.nil
  go_simp
  refine (hV _ (below_seq (below_seq (below_alloc _ _) hb1) (below_seq (below_alloc _ _) hB))).mono ?_
  rintro e wn ⟨rfl, hbn⟩
  replace hB := below_seq hB hbn
  clear hbn
  go_wp2_with fail
  refine hK.out _ _ (HF.out _ hB) (fun hHeld => ?_)
  clear hK K
  refine tkB 17 (.bool false) [(23, .bool true)] rfl (by rintro ρ ⟨e23, ec⟩ w hSw; obtain ⟨s0, s1, s2, s3, s4, s5, s6, s7, s8, s9, s10, s11, s12, s13, s14⟩ := hSw; go_simp) hHeld ?_
  refine tkB 18 (.bool false) [(20, .bool false), (24, .bool false)] rfl (by rintro ρ ⟨e20, e24, ec⟩ w hSw; obtain ⟨s0, s1, s2, s3, s4, s5, s6, s7, s8, s9, s10, s11, s12, s13, s14⟩ := hSw; have k0 := ec (Value.bool true); go_simp) hHeld ?_
  refine tkB 19 (.bool false) [(25, .bool false)] rfl (by rintro ρ ⟨e25, ec⟩ w hSw; obtain ⟨s0, s1, s2, s3, s4, s5, s6, s7, s8, s9, s10, s11, s12, s13, s14⟩ := hSw; go_simp) hHeld ?_
  refine tkB 20 (.pointer (some ⟨w.heap.size, 3, none⟩)) [(1, .pointer (some ⟨w.heap.size, 0, none⟩))] rfl (by rintro ρ ⟨e1, ec⟩ w hSw; obtain ⟨s0, s1, s2, s3, s4, s5, s6, s7, s8, s9, s10, s11, s12, s13, s14⟩ := hSw; go_simp) hHeld ?_
  refine tkB 21 (.pointer (some ⟨w.heap.size, 3, none⟩)) [(27, .pointer (some ⟨w.heap.size, 3, none⟩))] rfl (by rintro ρ ⟨e27, ec⟩ w hSw; obtain ⟨s0, s1, s2, s3, s4, s5, s6, s7, s8, s9, s10, s11, s12, s13, s14⟩ := hSw; go_simp) hHeld ?_
  refine tkB 22 (.slice (some ⟨g, off, none⟩) 16 cap) [(28, .pointer (some ⟨w.heap.size, 3, none⟩))] rfl (by rintro ρ ⟨e28, ec⟩ w hSw; obtain ⟨s0, s1, s2, s3, s4, s5, s6, s7, s8, s9, s10, s11, s12, s13, s14⟩ := hSw; go_simp) hHeld ?_
  refine tkB 23 (.pointer (some ⟨w.heap.size, 0, none⟩)) [(1, .pointer (some ⟨w.heap.size, 0, none⟩))] rfl (by rintro ρ ⟨e1, ec⟩ w hSw; obtain ⟨s0, s1, s2, s3, s4, s5, s6, s7, s8, s9, s10, s11, s12, s13, s14⟩ := hSw; go_simp) hHeld ?_
  refine tkB 24 (.int .i64 ((j : Int))) [(30, .pointer (some ⟨w.heap.size, 0, none⟩))] rfl (by rintro ρ ⟨e30, ec⟩ w hSw; obtain ⟨s0, s1, s2, s3, s4, s5, s6, s7, s8, s9, s10, s11, s12, s13, s14⟩ := hSw; go_simp) hHeld ?_
  refine tkB 25 (.pointer (some ⟨g, off + j, none⟩)) [(29, .slice (some ⟨g, off, none⟩) 16 cap), (31, .int .i64 ((j : Int)))] rfl (by rintro ρ ⟨e29, e31, ec⟩ w hSw; obtain ⟨s0, s1, s2, s3, s4, s5, s6, s7, s8, s9, s10, s11, s12, s13, s14⟩ := hSw; go_simp) hHeld ?_
  refine tkB 26 (.int .i64 dj) [(32, .pointer (some ⟨g, off + j, none⟩))] rfl (by rintro ρ ⟨e32, ec⟩ w hSw; obtain ⟨s0, s1, s2, s3, s4, s5, s6, s7, s8, s9, s10, s11, s12, s13, s14⟩ := hSw; go_simp) hHeld ?_
  refine tkB 27 (.pointer (some ⟨w.heap.size, 1, none⟩)) [(1, .pointer (some ⟨w.heap.size, 0, none⟩))] rfl (by rintro ρ ⟨e1, ec⟩ w hSw; obtain ⟨s0, s1, s2, s3, s4, s5, s6, s7, s8, s9, s10, s11, s12, s13, s14⟩ := hSw; go_simp) hHeld ?_
  refine tkB 28 (.int .i64 s) [(34, .pointer (some ⟨w.heap.size, 1, none⟩))] rfl (by rintro ρ ⟨e34, ec⟩ w hSw; obtain ⟨s0, s1, s2, s3, s4, s5, s6, s7, s8, s9, s10, s11, s12, s13, s14⟩ := hSw; go_simp) hHeld ?_
  refine tkB 29 (.int .i64 (s - 1)) [(35, .int .i64 s)] rfl (by rintro ρ ⟨e35, ec⟩ w hSw; obtain ⟨s0, s1, s2, s3, s4, s5, s6, s7, s8, s9, s10, s11, s12, s13, s14⟩ := hSw; have k0 := ec (Value.int IntKind.i64 1); go_simp) hHeld ?_
  refine tkB 30 (.bool false) [(33, .int .i64 dj), (36, .int .i64 (s - 1))] rfl (by rintro ρ ⟨e33, e36, ec⟩ w hSw; obtain ⟨s0, s1, s2, s3, s4, s5, s6, s7, s8, s9, s10, s11, s12, s13, s14⟩ := hSw; go_simp) hHeld ?_
  refine tkB 31 (.bool false) [(26, .bool false), (37, .bool false)] rfl (by rintro ρ ⟨e26, e37, ec⟩ w hSw; obtain ⟨s0, s1, s2, s3, s4, s5, s6, s7, s8, s9, s10, s11, s12, s13, s14⟩ := hSw; have k0 := ec (Value.bool true); go_simp) hHeld ?_
  refine tkB 32 (.bool false) [(38, .bool false)] rfl (by rintro ρ ⟨e38, ec⟩ w hSw; obtain ⟨s0, s1, s2, s3, s4, s5, s6, s7, s8, s9, s10, s11, s12, s13, s14⟩ := hSw; go_simp) hHeld ?_
  refine tkB 33 (.pointer (some ⟨w.heap.size, 5, none⟩)) [(1, .pointer (some ⟨w.heap.size, 0, none⟩))] rfl (by rintro ρ ⟨e1, ec⟩ w hSw; obtain ⟨s0, s1, s2, s3, s4, s5, s6, s7, s8, s9, s10, s11, s12, s13, s14⟩ := hSw; go_simp) hHeld ?_
  refine tkB 34 (.int .i64 o) [(40, .pointer (some ⟨w.heap.size, 5, none⟩))] rfl (by rintro ρ ⟨e40, ec⟩ w hSw; obtain ⟨s0, s1, s2, s3, s4, s5, s6, s7, s8, s9, s10, s11, s12, s13, s14⟩ := hSw; go_simp) hHeld ?_
  refine tkB 35 (.bool false) [(41, .int .i64 o)] rfl (by rintro ρ ⟨e41, ec⟩ w hSw; obtain ⟨s0, s1, s2, s3, s4, s5, s6, s7, s8, s9, s10, s11, s12, s13, s14⟩ := hSw; have k0 := ec (Value.int IntKind.i64 1); go_simp) hHeld ?_
  refine tkB 36 (.bool false) [(39, .bool false), (42, .bool false)] rfl (by rintro ρ ⟨e39, e42, ec⟩ w hSw; obtain ⟨s0, s1, s2, s3, s4, s5, s6, s7, s8, s9, s10, s11, s12, s13, s14⟩ := hSw; have k0 := ec (Value.bool true); go_simp) hHeld ?_
  refine tkB 37 (.bool false) [(43, .bool false)] rfl (by rintro ρ ⟨e43, ec⟩ w hSw; obtain ⟨s0, s1, s2, s3, s4, s5, s6, s7, s8, s9, s10, s11, s12, s13, s14⟩ := hSw; go_simp) hHeld ?_
  refine tkB 38 (.pointer (some ⟨w.heap.size, 5, none⟩)) [(1, .pointer (some ⟨w.heap.size, 0, none⟩))] rfl (by rintro ρ ⟨e1, ec⟩ w hSw; obtain ⟨s0, s1, s2, s3, s4, s5, s6, s7, s8, s9, s10, s11, s12, s13, s14⟩ := hSw; go_simp) hHeld ?_
  refine tkB 39 (.int .i64 o) [(45, .pointer (some ⟨w.heap.size, 5, none⟩))] rfl (by rintro ρ ⟨e45, ec⟩ w hSw; obtain ⟨s0, s1, s2, s3, s4, s5, s6, s7, s8, s9, s10, s11, s12, s13, s14⟩ := hSw; go_simp) hHeld ?_
  refine tkB 40 (.bool false) [(46, .int .i64 o)] rfl (by rintro ρ ⟨e46, ec⟩ w hSw; obtain ⟨s0, s1, s2, s3, s4, s5, s6, s7, s8, s9, s10, s11, s12, s13, s14⟩ := hSw; have k0 := ec (Value.int IntKind.i64 100); go_simp) hHeld ?_
  refine tkB 41 (.bool false) [(44, .bool false), (47, .bool false)] rfl (by rintro ρ ⟨e44, e47, ec⟩ w hSw; obtain ⟨s0, s1, s2, s3, s4, s5, s6, s7, s8, s9, s10, s11, s12, s13, s14⟩ := hSw; have k0 := ec (Value.bool true); go_simp) hHeld ?_
  refine tkB 42 (.bool false) [(48, .bool false)] rfl (by rintro ρ ⟨e48, ec⟩ w hSw; obtain ⟨s0, s1, s2, s3, s4, s5, s6, s7, s8, s9, s10, s11, s12, s13, s14⟩ := hSw; go_simp) hHeld ?_
  refine tkB 43 (.pointer (some ⟨w.heap.size, 6, none⟩)) [(1, .pointer (some ⟨w.heap.size, 0, none⟩))] rfl (by rintro ρ ⟨e1, ec⟩ w hSw; obtain ⟨s0, s1, s2, s3, s4, s5, s6, s7, s8, s9, s10, s11, s12, s13, s14⟩ := hSw; go_simp) hHeld ?_
  refine tkB 44 (.int .i64 n) [(50, .pointer (some ⟨w.heap.size, 6, none⟩))] rfl (by rintro ρ ⟨e50, ec⟩ w hSw; obtain ⟨s0, s1, s2, s3, s4, s5, s6, s7, s8, s9, s10, s11, s12, s13, s14⟩ := hSw; go_simp) hHeld ?_
  refine tkB 45 (.bool false) [(51, .int .i64 n)] rfl (by rintro ρ ⟨e51, ec⟩ w hSw; obtain ⟨s0, s1, s2, s3, s4, s5, s6, s7, s8, s9, s10, s11, s12, s13, s14⟩ := hSw; have k0 := ec (Value.int IntKind.i64 (-1000000000000)); go_simp) hHeld ?_
  refine tkB 46 (.bool false) [(49, .bool false), (52, .bool false)] rfl (by rintro ρ ⟨e49, e52, ec⟩ w hSw; obtain ⟨s0, s1, s2, s3, s4, s5, s6, s7, s8, s9, s10, s11, s12, s13, s14⟩ := hSw; have k0 := ec (Value.bool true); go_simp) hHeld ?_
  refine tkB 47 (.bool false) [(53, .bool false)] rfl (by rintro ρ ⟨e53, ec⟩ w hSw; obtain ⟨s0, s1, s2, s3, s4, s5, s6, s7, s8, s9, s10, s11, s12, s13, s14⟩ := hSw; go_simp) hHeld ?_
  refine tkB 48 (.pointer (some ⟨w.heap.size, 6, none⟩)) [(1, .pointer (some ⟨w.heap.size, 0, none⟩))] rfl (by rintro ρ ⟨e1, ec⟩ w hSw; obtain ⟨s0, s1, s2, s3, s4, s5, s6, s7, s8, s9, s10, s11, s12, s13, s14⟩ := hSw; go_simp) hHeld ?_
  refine tkB 49 (.int .i64 n) [(55, .pointer (some ⟨w.heap.size, 6, none⟩))] rfl (by rintro ρ ⟨e55, ec⟩ w hSw; obtain ⟨s0, s1, s2, s3, s4, s5, s6, s7, s8, s9, s10, s11, s12, s13, s14⟩ := hSw; go_simp) hHeld ?_
  refine tkB 50 (.bool false) [(56, .int .i64 n)] rfl (by rintro ρ ⟨e56, ec⟩ w hSw; obtain ⟨s0, s1, s2, s3, s4, s5, s6, s7, s8, s9, s10, s11, s12, s13, s14⟩ := hSw; have k0 := ec (Value.int IntKind.i64 1000000000000); go_simp) hHeld ?_
  refine tkB 51 (.bool false) [(54, .bool false), (57, .bool false)] rfl (by rintro ρ ⟨e54, e57, ec⟩ w hSw; obtain ⟨s0, s1, s2, s3, s4, s5, s6, s7, s8, s9, s10, s11, s12, s13, s14⟩ := hSw; have k0 := ec (Value.bool true); go_simp) hHeld ?_
  refine tkB 52 (.bool false) [(58, .bool false)] rfl (by rintro ρ ⟨e58, ec⟩ w hSw; obtain ⟨s0, s1, s2, s3, s4, s5, s6, s7, s8, s9, s10, s11, s12, s13, s14⟩ := hSw; go_simp) hHeld ?_
  refine tkB 53 (.pointer (some ⟨w.heap.size, 7, none⟩)) [(1, .pointer (some ⟨w.heap.size, 0, none⟩))] rfl (by rintro ρ ⟨e1, ec⟩ w hSw; obtain ⟨s0, s1, s2, s3, s4, s5, s6, s7, s8, s9, s10, s11, s12, s13, s14⟩ := hSw; go_simp) hHeld ?_
  refine tkB 54 (.int .i64 u) [(60, .pointer (some ⟨w.heap.size, 7, none⟩))] rfl (by rintro ρ ⟨e60, ec⟩ w hSw; obtain ⟨s0, s1, s2, s3, s4, s5, s6, s7, s8, s9, s10, s11, s12, s13, s14⟩ := hSw; go_simp) hHeld ?_
  refine tkB 55 (.bool false) [(61, .int .i64 u)] rfl (by rintro ρ ⟨e61, ec⟩ w hSw; obtain ⟨s0, s1, s2, s3, s4, s5, s6, s7, s8, s9, s10, s11, s12, s13, s14⟩ := hSw; have k0 := ec (Value.int IntKind.i64 0); go_simp) hHeld ?_
  refine tkB 56 (.bool false) [(59, .bool false), (62, .bool false)] rfl (by rintro ρ ⟨e59, e62, ec⟩ w hSw; obtain ⟨s0, s1, s2, s3, s4, s5, s6, s7, s8, s9, s10, s11, s12, s13, s14⟩ := hSw; have k0 := ec (Value.bool true); go_simp) hHeld ?_
  refine tkB 57 (.bool false) [(63, .bool false)] rfl (by rintro ρ ⟨e63, ec⟩ w hSw; obtain ⟨s0, s1, s2, s3, s4, s5, s6, s7, s8, s9, s10, s11, s12, s13, s14⟩ := hSw; go_simp) hHeld ?_
  refine tkB 58 (.pointer (some ⟨w.heap.size, 7, none⟩)) [(1, .pointer (some ⟨w.heap.size, 0, none⟩))] rfl (by rintro ρ ⟨e1, ec⟩ w hSw; obtain ⟨s0, s1, s2, s3, s4, s5, s6, s7, s8, s9, s10, s11, s12, s13, s14⟩ := hSw; go_simp) hHeld ?_
  refine tkB 59 (.int .i64 u) [(65, .pointer (some ⟨w.heap.size, 7, none⟩))] rfl (by rintro ρ ⟨e65, ec⟩ w hSw; obtain ⟨s0, s1, s2, s3, s4, s5, s6, s7, s8, s9, s10, s11, s12, s13, s14⟩ := hSw; go_simp) hHeld ?_
  refine tkB 60 (.pointer (some ⟨w.heap.size, 1, none⟩)) [(1, .pointer (some ⟨w.heap.size, 0, none⟩))] rfl (by rintro ρ ⟨e1, ec⟩ w hSw; obtain ⟨s0, s1, s2, s3, s4, s5, s6, s7, s8, s9, s10, s11, s12, s13, s14⟩ := hSw; go_simp) hHeld ?_
  refine tkB 61 (.int .i64 s) [(67, .pointer (some ⟨w.heap.size, 1, none⟩))] rfl (by rintro ρ ⟨e67, ec⟩ w hSw; obtain ⟨s0, s1, s2, s3, s4, s5, s6, s7, s8, s9, s10, s11, s12, s13, s14⟩ := hSw; go_simp) hHeld ?_
  refine tkB 62 (.bool false) [(66, .int .i64 u), (68, .int .i64 s)] rfl (by rintro ρ ⟨e66, e68, ec⟩ w hSw; obtain ⟨s0, s1, s2, s3, s4, s5, s6, s7, s8, s9, s10, s11, s12, s13, s14⟩ := hSw; go_simp) hHeld ?_
  refine tkB 63 (.bool false) [(64, .bool false), (69, .bool false)] rfl (by rintro ρ ⟨e64, e69, ec⟩ w hSw; obtain ⟨s0, s1, s2, s3, s4, s5, s6, s7, s8, s9, s10, s11, s12, s13, s14⟩ := hSw; have k0 := ec (Value.bool true); go_simp) hHeld ?_
  refine tkB 64 (.bool false) [(70, .bool false)] rfl (by rintro ρ ⟨e70, ec⟩ w hSw; obtain ⟨s0, s1, s2, s3, s4, s5, s6, s7, s8, s9, s10, s11, s12, s13, s14⟩ := hSw; go_simp) hHeld ?_
  refine tkB 65 (.pointer (some ⟨w.heap.size, 10, none⟩)) [(1, .pointer (some ⟨w.heap.size, 0, none⟩))] rfl (by rintro ρ ⟨e1, ec⟩ w hSw; obtain ⟨s0, s1, s2, s3, s4, s5, s6, s7, s8, s9, s10, s11, s12, s13, s14⟩ := hSw; go_simp) hHeld ?_
  refine tkB 66 (.string ky) [(72, .pointer (some ⟨w.heap.size, 10, none⟩))] rfl (by rintro ρ ⟨e72, ec⟩ w hSw; obtain ⟨s0, s1, s2, s3, s4, s5, s6, s7, s8, s9, s10, s11, s12, s13, s14⟩ := hSw; go_simp) hHeld ?_
  refine tkB 67 (.int .i64 ((ky.size : Int))) [(73, .string ky)] rfl (by rintro ρ ⟨e73, ec⟩ w hSw; obtain ⟨s0, s1, s2, s3, s4, s5, s6, s7, s8, s9, s10, s11, s12, s13, s14⟩ := hSw; go_simp) hHeld ?_
  by_cases tq9 : 200 < (ky.size : Int)
  · have HE : Hid (r = false) := HT9.out (by omega)
    refine tkB 68 (.bool true) [(74, .int .i64 ((ky.size : Int)))] rfl (by rintro ρ ⟨e74, ec⟩ w hSw; obtain ⟨s0, s1, s2, s3, s4, s5, s6, s7, s8, s9, s10, s11, s12, s13, s14⟩ := hSw; have k0 := ec (Value.int IntKind.i64 200); go_simp) hHeld ?_
    refine tkB 69 (.bool true) [(71, .bool false), (75, .bool true)] rfl (by rintro ρ ⟨e71, e75, ec⟩ w hSw; obtain ⟨s0, s1, s2, s3, s4, s5, s6, s7, s8, s9, s10, s11, s12, s13, s14⟩ := hSw; have k0 := ec (Value.bool true); go_simp) hHeld ?_
    refine tkB 70 (.bool true) [(76, .bool true)] rfl (by rintro ρ ⟨e76, ec⟩ w hSw; obtain ⟨s0, s1, s2, s3, s4, s5, s6, s7, s8, s9, s10, s11, s12, s13, s14⟩ := hSw; go_simp) hHeld ?_
    refine tkN 71 rfl hHeld ?_
    refine tkN 72 rfl hHeld ?_
    refine tkN 73 rfl hHeld ?_
    refine tkN 74 rfl hHeld ?_
    refine tkB 75 (.bool true) [(77, .bool true), (81, undef)] rfl (by rintro ρ ⟨e77, e81, ec⟩ w hSw; obtain ⟨s0, s1, s2, s3, s4, s5, s6, s7, s8, s9, s10, s11, s12, s13, s14⟩ := hSw; have k0 := ec (Value.bool true); go_simp) hHeld ?_
    refine wpAnyH_done (by kernel_rfl) ?_ _
    refine actN ⟨#[.agg #[.int .i64 ((j : Int)), .int .i64 s, .int .i64 t, .slice (some ⟨g, off, none⟩) 16 cap, .int .i64 k, .int .i64 o, .int .i64 n, .int .i64 u, .int .i64 pt, .int .i64 pa, .string ky, .string tx], .pointer (some ⟨w.heap.size, 0, none⟩), .bool false, .pointer (some ⟨w1.heap.size, 0, none⟩), undef, .agg #[.int .i64 ((j : Int)), .int .i64 s, .int .i64 t, .slice (some ⟨g, off, none⟩) 16 cap, .int .i64 k, .int .i64 o, .int .i64 n, .int .i64 u, .int .i64 pt, .int .i64 pa, .string ky, .string tx], .agg #[.int .i64 t, .int .i64 ((j : Int))], .agg #[.int .i64 t, .int .i64 ((j : Int))], .bool true, .bool false, .bool false, .pointer (some ⟨w.heap.size, 1, none⟩), .int .i64 s, .bool false, .bool false, .bool false, .pointer (some ⟨w.heap.size, 1, none⟩), .int .i64 s, .bool false, .bool false, .bool false, .pointer (some ⟨w.heap.size, 3, none⟩), .agg #[.slice (some ⟨g, off, none⟩) 16 cap], .bool true, .bool false, .bool false, .bool false, .pointer (some ⟨w.heap.size, 3, none⟩), .pointer (some ⟨w.heap.size, 3, none⟩), .slice (some ⟨g, off, none⟩) 16 cap, .pointer (some ⟨w.heap.size, 0, none⟩), .int .i64 ((j : Int)), .pointer (some ⟨g, off + j, none⟩), .int .i64 dj, .pointer (some ⟨w.heap.size, 1, none⟩), .int .i64 s, .int .i64 (s - 1), .bool false, .bool false, .bool false, .pointer (some ⟨w.heap.size, 5, none⟩), .int .i64 o, .bool false, .bool false, .bool false, .pointer (some ⟨w.heap.size, 5, none⟩), .int .i64 o, .bool false, .bool false, .bool false, .pointer (some ⟨w.heap.size, 6, none⟩), .int .i64 n, .bool false, .bool false, .bool false, .pointer (some ⟨w.heap.size, 6, none⟩), .int .i64 n, .bool false, .bool false, .bool false, .pointer (some ⟨w.heap.size, 7, none⟩), .int .i64 u, .bool false, .bool false, .bool false, .pointer (some ⟨w.heap.size, 7, none⟩), .int .i64 u, .pointer (some ⟨w.heap.size, 1, none⟩), .int .i64 s, .bool false, .bool false, .bool false, .pointer (some ⟨w.heap.size, 10, none⟩), .string ky, .int .i64 ((ky.size : Int)), .bool true, .bool true, .bool true, undef, undef, undef, undef, .bool true, undef, undef, undef, undef, undef, undef, undef, undef, undef, undef, undef, undef, undef, undef, undef, undef, undef, undef, undef, undef, undef, undef, undef, undef, undef, undef, undef, undef, undef, undef, undef, undef, undef, undef, undef, undef, undef, undef, undef, undef, undef, undef, undef, undef, undef, undef, undef, undef, undef, undef, undef, undef, undef, undef, undef, undef, undef, undef, undef, undef, undef, undef, undef, undef, undef, undef, undef], []⟩ ?_
    go_wp2_with fail
    go_ret
    exact ⟨by rw [HE.out]; rfl, below_seq (below_seq (below_alloc _ _) hb1) (below_seq (below_alloc _ _) hB)⟩
  · skip
    refine tkB 68 (.bool false) [(74, .int .i64 ((ky.size : Int)))] rfl (by rintro ρ ⟨e74, ec⟩ w hSw; obtain ⟨s0, s1, s2, s3, s4, s5, s6, s7, s8, s9, s10, s11, s12, s13, s14⟩ := hSw; have k0 := ec (Value.int IntKind.i64 200); go_simp) hHeld ?_
    refine tkB 69 (.bool false) [(71, .bool false), (75, .bool false)] rfl (by rintro ρ ⟨e71, e75, ec⟩ w hSw; obtain ⟨s0, s1, s2, s3, s4, s5, s6, s7, s8, s9, s10, s11, s12, s13, s14⟩ := hSw; have k0 := ec (Value.bool true); go_simp) hHeld ?_
    refine tkB 70 (.bool false) [(76, .bool false)] rfl (by rintro ρ ⟨e76, ec⟩ w hSw; obtain ⟨s0, s1, s2, s3, s4, s5, s6, s7, s8, s9, s10, s11, s12, s13, s14⟩ := hSw; go_simp) hHeld ?_
    refine tkB 71 (.pointer (some ⟨w.heap.size, 11, none⟩)) [(1, .pointer (some ⟨w.heap.size, 0, none⟩))] rfl (by rintro ρ ⟨e1, ec⟩ w hSw; obtain ⟨s0, s1, s2, s3, s4, s5, s6, s7, s8, s9, s10, s11, s12, s13, s14⟩ := hSw; go_simp) hHeld ?_
    refine tkB 72 (.string tx) [(78, .pointer (some ⟨w.heap.size, 11, none⟩))] rfl (by rintro ρ ⟨e78, ec⟩ w hSw; obtain ⟨s0, s1, s2, s3, s4, s5, s6, s7, s8, s9, s10, s11, s12, s13, s14⟩ := hSw; go_simp) hHeld ?_
    refine tkB 73 (.int .i64 ((tx.size : Int))) [(79, .string tx)] rfl (by rintro ρ ⟨e79, ec⟩ w hSw; obtain ⟨s0, s1, s2, s3, s4, s5, s6, s7, s8, s9, s10, s11, s12, s13, s14⟩ := hSw; go_simp) hHeld ?_
    by_cases tq10 : 200 < (tx.size : Int)
    · have HE : Hid (r = false) := HT10.out (by omega)
      refine tkB 74 (.bool true) [(80, .int .i64 ((tx.size : Int)))] rfl (by rintro ρ ⟨e80, ec⟩ w hSw; obtain ⟨s0, s1, s2, s3, s4, s5, s6, s7, s8, s9, s10, s11, s12, s13, s14⟩ := hSw; have k0 := ec (Value.int IntKind.i64 200); go_simp) hHeld ?_
      refine tkB 75 (.bool true) [(77, .bool false), (81, .bool true)] rfl (by rintro ρ ⟨e77, e81, ec⟩ w hSw; obtain ⟨s0, s1, s2, s3, s4, s5, s6, s7, s8, s9, s10, s11, s12, s13, s14⟩ := hSw; have k0 := ec (Value.bool true); go_simp) hHeld ?_
      refine wpAnyH_done (by kernel_rfl) ?_ _
      refine actN ⟨#[.agg #[.int .i64 ((j : Int)), .int .i64 s, .int .i64 t, .slice (some ⟨g, off, none⟩) 16 cap, .int .i64 k, .int .i64 o, .int .i64 n, .int .i64 u, .int .i64 pt, .int .i64 pa, .string ky, .string tx], .pointer (some ⟨w.heap.size, 0, none⟩), .bool false, .pointer (some ⟨w1.heap.size, 0, none⟩), undef, .agg #[.int .i64 ((j : Int)), .int .i64 s, .int .i64 t, .slice (some ⟨g, off, none⟩) 16 cap, .int .i64 k, .int .i64 o, .int .i64 n, .int .i64 u, .int .i64 pt, .int .i64 pa, .string ky, .string tx], .agg #[.int .i64 t, .int .i64 ((j : Int))], .agg #[.int .i64 t, .int .i64 ((j : Int))], .bool true, .bool false, .bool false, .pointer (some ⟨w.heap.size, 1, none⟩), .int .i64 s, .bool false, .bool false, .bool false, .pointer (some ⟨w.heap.size, 1, none⟩), .int .i64 s, .bool false, .bool false, .bool false, .pointer (some ⟨w.heap.size, 3, none⟩), .agg #[.slice (some ⟨g, off, none⟩) 16 cap], .bool true, .bool false, .bool false, .bool false, .pointer (some ⟨w.heap.size, 3, none⟩), .pointer (some ⟨w.heap.size, 3, none⟩), .slice (some ⟨g, off, none⟩) 16 cap, .pointer (some ⟨w.heap.size, 0, none⟩), .int .i64 ((j : Int)), .pointer (some ⟨g, off + j, none⟩), .int .i64 dj, .pointer (some ⟨w.heap.size, 1, none⟩), .int .i64 s, .int .i64 (s - 1), .bool false, .bool false, .bool false, .pointer (some ⟨w.heap.size, 5, none⟩), .int .i64 o, .bool false, .bool false, .bool false, .pointer (some ⟨w.heap.size, 5, none⟩), .int .i64 o, .bool false, .bool false, .bool false, .pointer (some ⟨w.heap.size, 6, none⟩), .int .i64 n, .bool false, .bool false, .bool false, .pointer (some ⟨w.heap.size, 6, none⟩), .int .i64 n, .bool false, .bool false, .bool false, .pointer (some ⟨w.heap.size, 7, none⟩), .int .i64 u, .bool false, .bool false, .bool false, .pointer (some ⟨w.heap.size, 7, none⟩), .int .i64 u, .pointer (some ⟨w.heap.size, 1, none⟩), .int .i64 s, .bool false, .bool false, .bool false, .pointer (some ⟨w.heap.size, 10, none⟩), .string ky, .int .i64 ((ky.size : Int)), .bool false, .bool false, .bool false, .pointer (some ⟨w.heap.size, 11, none⟩), .string tx, .int .i64 ((tx.size : Int)), .bool true, .bool true, undef, undef, undef, undef, undef, undef, undef, undef, undef, undef, undef, undef, undef, undef, undef, undef, undef, undef, undef, undef, undef, undef, undef, undef, undef, undef, undef, undef, undef, undef, undef, undef, undef, undef, undef, undef, undef, undef, undef, undef, undef, undef, undef, undef, undef, undef, undef, undef, undef, undef, undef, undef, undef, undef, undef, undef, undef, undef, undef, undef, undef, undef, undef, undef, undef, undef, undef], []⟩ ?_
      go_wp2_with fail
      go_ret
      exact ⟨by rw [HE.out]; rfl, below_seq (below_seq (below_alloc _ _) hb1) (below_seq (below_alloc _ _) hB)⟩
    · skip
      refine tkB 74 (.bool false) [(80, .int .i64 ((tx.size : Int)))] rfl (by rintro ρ ⟨e80, ec⟩ w hSw; obtain ⟨s0, s1, s2, s3, s4, s5, s6, s7, s8, s9, s10, s11, s12, s13, s14⟩ := hSw; have k0 := ec (Value.int IntKind.i64 200); go_simp) hHeld ?_
      refine tkB 75 (.bool false) [(77, .bool false), (81, .bool false)] rfl (by rintro ρ ⟨e77, e81, ec⟩ w hSw; obtain ⟨s0, s1, s2, s3, s4, s5, s6, s7, s8, s9, s10, s11, s12, s13, s14⟩ := hSw; have k0 := ec (Value.bool true); go_simp) hHeld ?_
      refine wpAnyH_done (by kernel_rfl) ?_ _
      refine actN ⟨#[.agg #[.int .i64 ((j : Int)), .int .i64 s, .int .i64 t, .slice (some ⟨g, off, none⟩) 16 cap, .int .i64 k, .int .i64 o, .int .i64 n, .int .i64 u, .int .i64 pt, .int .i64 pa, .string ky, .string tx], .pointer (some ⟨w.heap.size, 0, none⟩), .bool false, .pointer (some ⟨w1.heap.size, 0, none⟩), undef, .agg #[.int .i64 ((j : Int)), .int .i64 s, .int .i64 t, .slice (some ⟨g, off, none⟩) 16 cap, .int .i64 k, .int .i64 o, .int .i64 n, .int .i64 u, .int .i64 pt, .int .i64 pa, .string ky, .string tx], .agg #[.int .i64 t, .int .i64 ((j : Int))], .agg #[.int .i64 t, .int .i64 ((j : Int))], .bool true, .bool false, .bool false, .pointer (some ⟨w.heap.size, 1, none⟩), .int .i64 s, .bool false, .bool false, .bool false, .pointer (some ⟨w.heap.size, 1, none⟩), .int .i64 s, .bool false, .bool false, .bool false, .pointer (some ⟨w.heap.size, 3, none⟩), .agg #[.slice (some ⟨g, off, none⟩) 16 cap], .bool true, .bool false, .bool false, .bool false, .pointer (some ⟨w.heap.size, 3, none⟩), .pointer (some ⟨w.heap.size, 3, none⟩), .slice (some ⟨g, off, none⟩) 16 cap, .pointer (some ⟨w.heap.size, 0, none⟩), .int .i64 ((j : Int)), .pointer (some ⟨g, off + j, none⟩), .int .i64 dj, .pointer (some ⟨w.heap.size, 1, none⟩), .int .i64 s, .int .i64 (s - 1), .bool false, .bool false, .bool false, .pointer (some ⟨w.heap.size, 5, none⟩), .int .i64 o, .bool false, .bool false, .bool false, .pointer (some ⟨w.heap.size, 5, none⟩), .int .i64 o, .bool false, .bool false, .bool false, .pointer (some ⟨w.heap.size, 6, none⟩), .int .i64 n, .bool false, .bool false, .bool false, .pointer (some ⟨w.heap.size, 6, none⟩), .int .i64 n, .bool false, .bool false, .bool false, .pointer (some ⟨w.heap.size, 7, none⟩), .int .i64 u, .bool false, .bool false, .bool false, .pointer (some ⟨w.heap.size, 7, none⟩), .int .i64 u, .pointer (some ⟨w.heap.size, 1, none⟩), .int .i64 s, .bool false, .bool false, .bool false, .pointer (some ⟨w.heap.size, 10, none⟩), .string ky, .int .i64 ((ky.size : Int)), .bool false, .bool false, .bool false, .pointer (some ⟨w.heap.size, 11, none⟩), .string tx, .int .i64 ((tx.size : Int)), .bool false, .bool false, undef, undef, undef, undef, undef, undef, undef, undef, undef, undef, undef, undef, undef, undef, undef, undef, undef, undef, undef, undef, undef, undef, undef, undef, undef, undef, undef, undef, undef, undef, undef, undef, undef, undef, undef, undef, undef, undef, undef, undef, undef, undef, undef, undef, undef, undef, undef, undef, undef, undef, undef, undef, undef, undef, undef, undef, undef, undef, undef, undef, undef, undef, undef, undef, undef, undef, undef], []⟩ ?_
      have hZn := fun w => noneO_any pt pa w
      by_cases hz : pt = 0 ∧ pa = 0
      · have HE : Hid _ := HRE.out (by omega) (by omega)
        clear HRE
        have hE := HE.out
        rw [decide_eq_true hz] at hE hZn
        clear HE
        obtain ⟨q0, q1, q2, q3, q4, q5, q6, q7, q8, q9, q10, q11, z0, z1, -⟩ := HF.out _ hB
        clear hz
        go_wp2_with (first | (go_at_call 39; refine (hZn _).mono ?_; clear q0 q1 q2 q3 q4 q5 q6 q7 q8 q9 q10 q11 z0 z1; rintro e wn ⟨rfl, hbn⟩; replace hB := below_seq hB hbn; clear hbn; obtain ⟨q0, q1, q2, q3, q4, q5, q6, q7, q8, q9, q10, q11, z0, z1, -⟩ := HF.out _ hB) | (go_at_call 37; refine (hP _).mono ?_; clear q0 q1 q2 q3 q4 q5 q6 q7 q8 q9 q10 q11 z0 z1; rintro e wn ⟨rfl, hbn⟩; replace hB := below_seq hB hbn; clear hbn; obtain ⟨q0, q1, q2, q3, q4, q5, q6, q7, q8, q9, q10, q11, z0, z1, -⟩ := HF.out _ hB) | (go_at_call 40; refine (hL _).mono ?_; clear q0 q1 q2 q3 q4 q5 q6 q7 q8 q9 q10 q11 z0 z1; rintro e wn ⟨rfl, hbn⟩; replace hB := below_seq hB hbn; clear hbn; obtain ⟨q0, q1, q2, q3, q4, q5, q6, q7, q8, q9, q10, q11, z0, z1, -⟩ := HF.out _ hB) | (go_at_call 41; refine (hch _).mono ?_; rintro e wn ⟨rfl, hw⟩; obtain rfl := hw.symm))
        all_goals go_ret
        all_goals refine ⟨?_, below_seq (below_seq (below_alloc _ _) hb1) (below_seq (below_alloc _ _) hB)⟩
        all_goals rw [hE]
        all_goals clear hB HF hE q0 q1 q2 q3 q4 q5 q6 q7 q8 q9 q10 q11 z0 z1 hP hL hch hZn
        all_goals first | (simp_all; done) | (simp_all; rw [Bool.eq_iff_iff]; simp) | (simp_all; rw [Bool.eq_iff_iff]; simp; omega)
      · have HE : Hid _ := HRE.out (by omega) (by omega)
        clear HRE
        have hE := HE.out
        rw [decide_eq_false hz] at hE hZn
        clear HE
        obtain ⟨q0, q1, q2, q3, q4, q5, q6, q7, q8, q9, q10, q11, z0, z1, -⟩ := HF.out _ hB
        clear hz
        go_wp2_with (first | (go_at_call 39; refine (hZn _).mono ?_; clear q0 q1 q2 q3 q4 q5 q6 q7 q8 q9 q10 q11 z0 z1; rintro e wn ⟨rfl, hbn⟩; replace hB := below_seq hB hbn; clear hbn; obtain ⟨q0, q1, q2, q3, q4, q5, q6, q7, q8, q9, q10, q11, z0, z1, -⟩ := HF.out _ hB) | (go_at_call 37; refine (hP _).mono ?_; clear q0 q1 q2 q3 q4 q5 q6 q7 q8 q9 q10 q11 z0 z1; rintro e wn ⟨rfl, hbn⟩; replace hB := below_seq hB hbn; clear hbn; obtain ⟨q0, q1, q2, q3, q4, q5, q6, q7, q8, q9, q10, q11, z0, z1, -⟩ := HF.out _ hB) | (go_at_call 40; refine (hL _).mono ?_; clear q0 q1 q2 q3 q4 q5 q6 q7 q8 q9 q10 q11 z0 z1; rintro e wn ⟨rfl, hbn⟩; replace hB := below_seq hB hbn; clear hbn; obtain ⟨q0, q1, q2, q3, q4, q5, q6, q7, q8, q9, q10, q11, z0, z1, -⟩ := HF.out _ hB) | (go_at_call 41; refine (hch _).mono ?_; rintro e wn ⟨rfl, hw⟩; obtain rfl := hw.symm))
        all_goals go_ret
        all_goals refine ⟨?_, below_seq (below_seq (below_alloc _ _) hb1) (below_seq (below_alloc _ _) hB)⟩
        all_goals rw [hE]
        all_goals clear hB HF hE q0 q1 q2 q3 q4 q5 q6 q7 q8 q9 q10 q11 z0 z1 hP hL hch hZn
        all_goals first | (simp_all; done) | (simp_all; rw [Bool.eq_iff_iff]; simp) | (simp_all; rw [Bool.eq_iff_iff]; simp; omega)

end Go.Proofs.Ytjbjkamlgcnmaaa

namespace Go.Proofs.Ytjbjkamlgcnmaaa
open Go.RowKit
set_option linter.unusedVariables false

set_option maxHeartbeats 4000000 in
set_option maxRecDepth 100000 in
theorem specOpOK_any (C : Nat) (a s t k o n u pt pa : Int) (dv : Value) (ky tx : ByteArray) (ds : List Int) (w : World) (hC : C ≤ w.heap.size) (hr : Rd C w dv (ds.map (Value.int .i64))) :
    Calls Try.prog 13 #[.agg #[.int .i64 a, .int .i64 s, .int .i64 t, dv, .int .i64 k, .int .i64 o, .int .i64 n, .int .i64 u, .int .i64 pt, .int .i64 pa, .string ky, .string tx]] w fun e w' => e = .returned (.bool (opB a s t k o n u pt pa ky tx ds)) ∧ Below w.heap.size w w' := by
  rw [← opS_eq]
  obtain ⟨r, HR⟩ : ∃ r, Hid (opS a s t k o n u pt pa ky tx ds = r) := ⟨_, rfl⟩
  rw [HR.out]
  have NO : (opS a s t k o n u pt pa ky tx ds = false) → r = false := fun h => HR.out.symm.trans h
  cases h1 : stOK t a with
  | false => exact opSpec_a a s t k o n u pt pa dv ky tx w r h1 (NO (by unfold opS; rw [comes_1 h1, Bool.false_and]))
  | true =>
    cases h4 : vecOK ds with
    | false => exact opSpec_b C a s t k o n u pt pa dv ky tx ds w hC hr r h1 h4 (NO (by unfold opS; rw [comes_4 h4, Bool.false_and])) (fun h => NO (by unfold opS; rw [comes_2 h, Bool.false_and])) (fun h => NO (by unfold opS; rw [comes_3 h, Bool.false_and]))
    | true =>
      have hV : ∀ w1, Below w.heap.size w w1 → Calls Try.prog 38 #[.agg #[dv]] w1 fun e w' => e = .returned (.bool true) ∧ Below w1.heap.size w1 w' := fun w1 hb => h4 ▸ specVecOK_any C w1 dv ds (by have := hb.size; omega) (hr.below (hb.mono hC))
      have hO := fun w => h1 ▸ specStampOK_any t a w
      have ha : 0 ≤ a ∧ a < 16 := by unfold stOK at h1; simp at h1; omega
      obtain ⟨j, rfl⟩ := Int.eq_ofNat_of_zero_le ha.1
      obtain ⟨ao, cap, rfl, hcap, hmax, hnil, hrr⟩ := hr
      have hl : ds.length = 16 := vec_16 h4
      rw [List.length_map] at hrr hcap
      obtain ⟨g, off, rfl, hg, hc⟩ := hrr (by omega)
      have hj : j < 16 := by omega
      have hg' : g < w.heap.size := by omega
      have HC : Hid (w.cell? ⟨g, off + j, none⟩ = some (.int .i64 (ds.getD j 0))) := hc j _ (by rw [List.getElem?_map, List.getD_eq_getElem?_getD, List.getElem?_eq_getElem (by omega)]; rfl)
      have HC5 : 1 ≤ s → s ≤ 1000000000000 → comesOK j s t ds = decide (ds.getD j 0 = s - 1) := fun h2 h3 => by rw [comes_5 h1 h2 h3 h4, Int.toNat_natCast]
      rw [List.length_map, hl] at *
      by_cases b01 : s < 1 ∨ 1000000000000 < s
      · exact opSpec_c C s t k o n u pt pa ky tx j g off cap _ w r hj hg' HC hO hV (fun h => NO (by unfold opS; rw [comes_2 h, Bool.false_and])) (fun h => NO (by unfold opS; rw [comes_3 h, Bool.false_and])) (fun h => by omega)
      · by_cases b24 : ¬ ds.getD j 0 = s - 1 ∨ o < 1 ∨ 100 < o
        · exact opSpec_d C s t k o n u pt pa ky tx j g off cap _ w r hj hg' HC hO hV (by omega) (by omega) (fun h => NO (by unfold opS; rw [HC5 (by omega) (by omega), decide_eq_false h, Bool.false_and])) (fun h => NO (by unfold opS; simp [show ¬ 1 ≤ o by omega])) (fun h => NO (by unfold opS; simp [show ¬ o ≤ 100 by omega])) (fun h h' => by omega)
        · by_cases b58 : n < -1000000000000 ∨ 1000000000000 < n ∨ u < 0 ∨ s ≤ u
          · exact opSpec_e C s t k o n u pt pa ky tx j g off cap _ w r hj hg' HC hO hV (by omega) (by omega) (by omega) (by omega) (by omega) (fun h => NO (by unfold opS; simp [show ¬ -1000000000000 ≤ n by omega])) (fun h => NO (by unfold opS; simp [show ¬ n ≤ 1000000000000 by omega])) (fun h => NO (by unfold opS; simp [show ¬ 0 ≤ u by omega])) (fun h => NO (by unfold opS; simp [show ¬ u < s by omega])) (fun h h' h'' => by omega)
          · refine opSpec_f C s t k o n u pt pa ky tx j g off cap _ w r hj hg' HC hO hV (by omega) (by omega) (by omega) (by omega) (by omega) (by omega) (by omega) (by omega) (by omega) (fun h => NO (by unfold opS; simp [show ¬ ky.size ≤ 200 by omega])) (fun h => NO (by unfold opS; simp [show ¬ tx.size ≤ 200 by omega])) (fun h h' => ?_)
            rw [← HR.out]
            unfold opS
            rw [HC5 (by omega) (by omega), decide_eq_true (by omega : ds.getD j 0 = s - 1), decide_eq_true (by omega : 1 ≤ o), decide_eq_true (by omega : o ≤ 100), decide_eq_true (by omega : -1000000000000 ≤ n), decide_eq_true (by omega : n ≤ 1000000000000), decide_eq_true (by omega : 0 ≤ u), decide_eq_true (by omega : u < s), decide_eq_true (by omega : ky.size ≤ 200), decide_eq_true (by omega : tx.size ≤ 200)]
            simp only [Bool.true_and]

end Go.Proofs.Ytjbjkamlgcnmaaa

namespace Go.Proofs.Ytjbjkamlgcnmaaa
set_option linter.unusedVariables false

/-- One operation more, from the last one on. -/
def stepU (x : Ov) (U : List Int) : List Int := if x.u ≠ 0 ∧ x.s ∉ U then x.u :: U else U
/-- The Seqs that the code's set has behind these operations of an actor. -/
def undS (M : List Ov) : List Int := M.foldr stepU []
theorem undS_nil : undS [] = [] := rfl
theorem undS_cons (x : Ov) (M : List Ov) : undS (x :: M) = stepU x (undS M) := rfl
theorem undS_nz : ∀ (M : List Ov), ∀ s ∈ undS M, s ≠ 0
  | [], s, h => by simp [undS] at h
  | x :: M, s, h => by
    rw [undS_cons] at h
    unfold stepU at h
    split at h
    · rename_i hx
      rcases List.mem_cons.1 h with rfl | h
      · exact hx.1
      · exact undS_nz M s h
    · exact undS_nz M s h
/-- What the set has behind the places of a list. -/
def undP (L : List Ov) (xs : List Nat) : List Int := xs.foldl (fun U i => stepU (ovAt L i) U) []
theorem undP_snoc (L : List Ov) (xs : List Nat) (i : Nat) : undP L (xs ++ [i]) = stepU (ovAt L i) (undP L xs) := by simp [undP]
theorem range_ovAt (L : List Ov) : (List.range L.length).map (ovAt L) = L := by
  refine List.ext_getElem (by simp) fun i h1 h2 => ?_
  rw [List.getElem_map, List.getElem_range]
  have := ovAt_get h2
  rw [List.getElem?_eq_getElem h2] at this
  exact (Option.some.inj this).symm
theorem undP_all (L : List Ov) : undP L ((List.range L.length).drop 0).reverse = undS L := by
  unfold undP undS
  rw [List.drop_zero, List.foldl_reverse]
  conv => rhs; rw [← range_ovAt L, List.foldr_map]

end Go.Proofs.Ytjbjkamlgcnmaaa
