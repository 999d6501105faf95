/- Operations of a log: the specification's l08OpOK, some of its ways. Operations of a log: the specification's l08OpOK, some of its ways. -/
import Derived.Test.YtjbjkamlgcnmaaaQOpOKToOpSpecBase
namespace Go.Proofs.Ytjbjkamlgcnmaaa
open Go.RowKit
set_option linter.unusedVariables false

set_option maxHeartbeats 4000000 in
set_option maxRecDepth 100000 in
theorem opSpec_a (a s t k o n u pt pa : Int) (dv : Value) (ky tx : ByteArray) (w : World) (r : Bool) (h1 : stOK t a = false) (HE : Hid (r = false)) :
    Calls Try.prog 13 #[.agg #[.int .i64 a, .int .i64 s, .int .i64 t, dv, .int .i64 k, .int .i64 o, .int .i64 n, .int .i64 u, .int .i64 pt, .int .i64 pa, .string ky, .string tx]] w fun e w' => e = .returned (.bool r) ∧ Below w.heap.size w w' := by
  have hO := fun w => specStampOK_any t a w
  rw [h1] at hO
  clear h1
  go_enter Try.func13, Try.ntmps13
  go_wp2_with (go_at_call 36; refine (l08Stamp_any _ _ _ _ _ _ _ _ _ _ _ _ _).mono ?_; rintro e w1 ⟨rfl, hb1⟩)
  have hB := (Below.refl (w1.alloc (.cells #[.int .i64 t, .int .i64 a] 42)).heap.size (w1.alloc (.cells #[.int .i64 t, .int .i64 a] 42))).drew
  have HF : Hid (∀ wx, Below (w1.alloc (.cells #[.int .i64 t, .int .i64 a] 42)).heap.size (w1.alloc (.cells #[.int .i64 t, .int .i64 a] 42)) wx → wx.cell? ⟨w.heap.size, 0, none⟩ = some (.int .i64 a) ∧ wx.cell? ⟨w.heap.size, 1, none⟩ = some (.int .i64 s) ∧ wx.cell? ⟨w.heap.size, 2, none⟩ = some (.int .i64 t) ∧ wx.cell? ⟨w.heap.size, 3, none⟩ = some (dv) ∧ wx.cell? ⟨w.heap.size, 4, none⟩ = some (.int .i64 k) ∧ wx.cell? ⟨w.heap.size, 5, none⟩ = some (.int .i64 o) ∧ wx.cell? ⟨w.heap.size, 6, none⟩ = some (.int .i64 n) ∧ wx.cell? ⟨w.heap.size, 7, none⟩ = some (.int .i64 u) ∧ wx.cell? ⟨w.heap.size, 8, none⟩ = some (.int .i64 pt) ∧ wx.cell? ⟨w.heap.size, 9, none⟩ = some (.int .i64 pa) ∧ wx.cell? ⟨w.heap.size, 10, none⟩ = some (.string ky) ∧ wx.cell? ⟨w.heap.size, 11, none⟩ = some (.string tx) ∧ wx.cell? ⟨w1.heap.size, 0, none⟩ = some (.int .i64 t) ∧ wx.cell? ⟨w1.heap.size, 1, none⟩ = some (.int .i64 a)) := fun wx h => by
    have h2 := below_seq (below_alloc w1 _) h
    obtain ⟨q0, q1, q2, q3, q4, q5, q6, q7, q8, q9, q10, q11⟩ := op_cells (below_seq hb1 h2)
    exact ⟨q0, q1, q2, q3, q4, q5, q6, q7, q8, q9, q10, q11, cell_made h (k := 0) rfl, cell_made h (k := 1) rfl⟩
  refine wp_region_held_drew (S := fun w' => w'.cell? ⟨w.heap.size, 0, none⟩ = some (.int .i64 a) ∧ w'.cell? ⟨w.heap.size, 1, none⟩ = some (.int .i64 s) ∧ w'.cell? ⟨w.heap.size, 2, none⟩ = some (.int .i64 t) ∧ w'.cell? ⟨w.heap.size, 3, none⟩ = some (dv) ∧ w'.cell? ⟨w.heap.size, 4, none⟩ = some (.int .i64 k) ∧ w'.cell? ⟨w.heap.size, 5, none⟩ = some (.int .i64 o) ∧ w'.cell? ⟨w.heap.size, 6, none⟩ = some (.int .i64 n) ∧ w'.cell? ⟨w.heap.size, 7, none⟩ = some (.int .i64 u) ∧ w'.cell? ⟨w.heap.size, 8, none⟩ = some (.int .i64 pt) ∧ w'.cell? ⟨w.heap.size, 9, none⟩ = some (.int .i64 pa) ∧ w'.cell? ⟨w.heap.size, 10, none⟩ = some (.string ky) ∧ w'.cell? ⟨w.heap.size, 11, none⟩ = some (.string tx) ∧ w'.cell? ⟨w1.heap.size, 0, none⟩ = some (.int .i64 t) ∧ w'.cell? ⟨w1.heap.size, 1, none⟩ = some (.int .i64 a)) (by kernel_rfl) (HF.out _ hB) (fun hHeld => ?_)
  refine tkB 0 (.agg #[.int .i64 t, .int .i64 a]) [(3, .pointer (some ⟨w1.heap.size, 0, none⟩))] rfl (by rintro ρ ⟨e3, ec⟩ w hSw; obtain ⟨s0, s1, s2, s3, s4, s5, s6, s7, s8, s9, s10, s11, s12, s13⟩ := hSw; go_simp) hHeld ?_
  refine actH ⟨#[.agg #[.int .i64 a, .int .i64 s, .int .i64 t, dv, .int .i64 k, .int .i64 o, .int .i64 n, .int .i64 u, .int .i64 pt, .int .i64 pa, .string ky, .string tx], .pointer (some ⟨w.heap.size, 0, none⟩), .bool false, .pointer (some ⟨w1.heap.size, 0, none⟩), undef, .agg #[.int .i64 a, .int .i64 s, .int .i64 t, dv, .int .i64 k, .int .i64 o, .int .i64 n, .int .i64 u, .int .i64 pt, .int .i64 pa, .string ky, .string tx], .agg #[.int .i64 t, .int .i64 a], .agg #[.int .i64 t, .int .i64 a], undef, undef, undef, undef, undef, undef, undef, undef, undef, undef, undef, undef, undef, undef, undef, undef, undef, undef, undef, undef, undef, undef, undef, undef, undef, undef, undef, undef, undef, undef, undef, undef, undef, undef, undef, undef, undef, undef, undef, undef, undef, undef, undef, undef, undef, undef, undef, undef, undef, undef, undef, undef, undef, undef, undef, undef, undef, undef, undef, undef, undef, undef, undef, undef, undef, undef, undef, undef, undef, undef, undef, undef, undef, undef, undef, undef, undef, undef, undef, undef, undef, undef, undef, undef, undef, undef, undef, undef, undef, undef, undef, undef, undef, undef, undef, undef, undef, undef, undef, undef, undef, undef, undef, undef, undef, undef, undef, undef, undef, undef, undef, undef, undef, undef, undef, undef, undef, undef, undef, undef, undef, undef, undef, undef, undef, undef, undef, undef, undef, undef, undef, undef, undef, undef, undef, undef, undef, undef, undef, undef, undef, undef], []⟩ #[true, false, false, false, false, false, false, false, false, false, false, false, false, false, false, false, false, false, false, false, false, false, false, false, false, false, false, false, false, false, false, false, false, false, false, false, false, false, false, false, false, false, false, false, false, false, false, false, false, false, false, false, false, false, false, false, false, false, false, false, false, false, false, false, false, false, false, false, false, false, false, false, false, false, false, false] ?_
  refine wpAnyH_ready (rs := [1]) (by kernel_rfl) (by simp) ?_
  refine AllReadyH.cons rfl (fun K hK => ?_) AllReadyH.nil
  go_simp
  refine (hO _).mono ?_
  rintro e wn ⟨rfl, hbn⟩
  replace hB := below_seq hB hbn
  clear hbn
  go_wp2_with fail
  refine hK.out _ _ (HF.out _ hB) (fun hHeld => ?_)
  clear hK K
  refine tkB 2 (.bool true) [(8, .bool false)] rfl (by rintro ρ ⟨e8, ec⟩ w hSw; obtain ⟨s0, s1, s2, s3, s4, s5, s6, s7, s8, s9, s10, s11, s12, s13⟩ := hSw; go_simp) hHeld ?_
  refine tkB 3 (.bool true) [(9, .bool true)] rfl (by rintro ρ ⟨e9, ec⟩ w hSw; obtain ⟨s0, s1, s2, s3, s4, s5, s6, s7, s8, s9, s10, s11, s12, s13⟩ := hSw; go_simp) hHeld ?_
  refine tkN 4 rfl hHeld ?_
  refine tkN 5 rfl hHeld ?_
  refine tkN 6 rfl hHeld ?_
  refine tkB 7 (.bool true) [(10, .bool true), (13, undef)] rfl (by rintro ρ ⟨e10, e13, ec⟩ w hSw; obtain ⟨s0, s1, s2, s3, s4, s5, s6, s7, s8, s9, s10, s11, s12, s13⟩ := hSw; have k0 := ec (Value.bool true); go_simp) hHeld ?_
  refine tkB 8 (.bool true) [(14, .bool true)] rfl (by rintro ρ ⟨e14, ec⟩ w hSw; obtain ⟨s0, s1, s2, s3, s4, s5, s6, s7, s8, s9, s10, s11, s12, s13⟩ := hSw; go_simp) hHeld ?_
  refine tkN 9 rfl hHeld ?_
  refine tkN 10 rfl hHeld ?_
  refine tkN 11 rfl hHeld ?_
  refine tkB 12 (.bool true) [(15, .bool true), (18, undef)] rfl (by rintro ρ ⟨e15, e18, ec⟩ w hSw; obtain ⟨s0, s1, s2, s3, s4, s5, s6, s7, s8, s9, s10, s11, s12, s13⟩ := hSw; have k0 := ec (Value.bool true); go_simp) hHeld ?_
  refine tkB 13 (.bool true) [(19, .bool true)] rfl (by rintro ρ ⟨e19, ec⟩ w hSw; obtain ⟨s0, s1, s2, s3, s4, s5, s6, s7, s8, s9, s10, s11, s12, s13⟩ := hSw; go_simp) hHeld ?_
  refine tkN 14 rfl hHeld ?_
  refine tkN 15 rfl hHeld ?_
  refine actH ⟨#[.agg #[.int .i64 a, .int .i64 s, .int .i64 t, dv, .int .i64 k, .int .i64 o, .int .i64 n, .int .i64 u, .int .i64 pt, .int .i64 pa, .string ky, .string tx], .pointer (some ⟨w.heap.size, 0, none⟩), .bool false, .pointer (some ⟨w1.heap.size, 0, none⟩), undef, .agg #[.int .i64 a, .int .i64 s, .int .i64 t, dv, .int .i64 k, .int .i64 o, .int .i64 n, .int .i64 u, .int .i64 pt, .int .i64 pa, .string ky, .string tx], .agg #[.int .i64 t, .int .i64 a], .agg #[.int .i64 t, .int .i64 a], .bool false, .bool true, .bool true, undef, undef, undef, .bool true, .bool true, undef, undef, undef, .bool true, .bool true, undef, undef, undef, undef, undef, undef, undef, undef, undef, undef, undef, undef, undef, undef, undef, undef, undef, undef, undef, undef, undef, undef, undef, undef, undef, undef, undef, undef, undef, undef, undef, undef, undef, undef, undef, undef, undef, undef, undef, undef, undef, undef, undef, undef, undef, undef, undef, undef, undef, undef, undef, undef, undef, undef, undef, undef, undef, undef, undef, undef, undef, undef, undef, undef, undef, undef, undef, undef, undef, undef, undef, undef, undef, undef, undef, undef, undef, undef, undef, undef, undef, undef, undef, undef, undef, undef, undef, undef, undef, undef, undef, undef, undef, undef, undef, undef, undef, undef, undef, undef, undef, undef, undef, undef, undef, undef, undef, undef, undef, undef, undef, undef, undef, undef, undef, undef, undef, undef, undef, undef, undef, undef, undef, undef, undef, undef, undef, undef, undef], []⟩ #[true, true, true, true, true, true, true, true, true, true, true, true, true, true, true, true, false, false, false, false, false, false, false, false, false, false, false, false, false, false, false, false, false, false, false, false, false, false, false, false, false, false, false, false, false, false, false, false, false, false, false, false, false, false, false, false, false, false, false, false, false, false, false, false, false, false, false, false, false, false, false, false, false, false, false, false] ?_
  refine wpAnyH_ready (rs := [16]) (by kernel_rfl) (by simp) ?_
  refine AllReadyH.cons rfl (fun K hK => ?_) AllReadyH.nil
  go_simp
  refine hK.out _ _ (HF.out _ hB) (fun hHeld => ?_)
  clear hK K
  refine tkN 17 rfl hHeld ?_
  refine tkB 18 (.bool true) [(20, .bool true), (24, undef)] rfl (by rintro ρ ⟨e20, e24, ec⟩ w hSw; obtain ⟨s0, s1, s2, s3, s4, s5, s6, s7, s8, s9, s10, s11, s12, s13⟩ := hSw; have k0 := ec (Value.bool true); go_simp) hHeld ?_
  refine tkB 19 (.bool true) [(25, .bool true)] rfl (by rintro ρ ⟨e25, ec⟩ w hSw; obtain ⟨s0, s1, s2, s3, s4, s5, s6, s7, s8, s9, s10, s11, s12, s13⟩ := hSw; go_simp) hHeld ?_
  refine tkN 20 rfl hHeld ?_
  refine tkN 21 rfl hHeld ?_
  refine tkN 22 rfl hHeld ?_
  refine tkN 23 rfl hHeld ?_
  refine tkN 24 rfl hHeld ?_
  refine tkN 25 rfl hHeld ?_
  refine tkN 26 rfl hHeld ?_
  refine tkN 27 rfl hHeld ?_
  refine tkN 28 rfl hHeld ?_
  refine tkN 29 rfl hHeld ?_
  refine tkN 30 rfl hHeld ?_
  refine tkB 31 (.bool true) [(26, .bool true), (37, undef)] rfl (by rintro ρ ⟨e26, e37, ec⟩ w hSw; obtain ⟨s0, s1, s2, s3, s4, s5, s6, s7, s8, s9, s10, s11, s12, s13⟩ := hSw; have k0 := ec (Value.bool true); go_simp) hHeld ?_
  refine tkB 32 (.bool true) [(38, .bool true)] rfl (by rintro ρ ⟨e38, ec⟩ w hSw; obtain ⟨s0, s1, s2, s3, s4, s5, s6, s7, s8, s9, s10, s11, s12, s13⟩ := hSw; go_simp) hHeld ?_
  refine tkN 33 rfl hHeld ?_
  refine tkN 34 rfl hHeld ?_
  refine tkN 35 rfl hHeld ?_
  refine tkB 36 (.bool true) [(39, .bool true), (42, undef)] rfl (by rintro ρ ⟨e39, e42, ec⟩ w hSw; obtain ⟨s0, s1, s2, s3, s4, s5, s6, s7, s8, s9, s10, s11, s12, s13⟩ := hSw; have k0 := ec (Value.bool true); go_simp) hHeld ?_
  refine tkB 37 (.bool true) [(43, .bool true)] rfl (by rintro ρ ⟨e43, ec⟩ w hSw; obtain ⟨s0, s1, s2, s3, s4, s5, s6, s7, s8, s9, s10, s11, s12, s13⟩ := hSw; go_simp) hHeld ?_
  refine tkN 38 rfl hHeld ?_
  refine tkN 39 rfl hHeld ?_
  refine tkN 40 rfl hHeld ?_
  refine tkB 41 (.bool true) [(44, .bool true), (47, undef)] rfl (by rintro ρ ⟨e44, e47, ec⟩ w hSw; obtain ⟨s0, s1, s2, s3, s4, s5, s6, s7, s8, s9, s10, s11, s12, s13⟩ := hSw; have k0 := ec (Value.bool true); go_simp) hHeld ?_
  refine tkB 42 (.bool true) [(48, .bool true)] rfl (by rintro ρ ⟨e48, ec⟩ w hSw; obtain ⟨s0, s1, s2, s3, s4, s5, s6, s7, s8, s9, s10, s11, s12, s13⟩ := hSw; go_simp) hHeld ?_
  refine tkN 43 rfl hHeld ?_
  refine tkN 44 rfl hHeld ?_
  refine tkN 45 rfl hHeld ?_
  refine tkB 46 (.bool true) [(49, .bool true), (52, undef)] rfl (by rintro ρ ⟨e49, e52, ec⟩ w hSw; obtain ⟨s0, s1, s2, s3, s4, s5, s6, s7, s8, s9, s10, s11, s12, s13⟩ := hSw; have k0 := ec (Value.bool true); go_simp) hHeld ?_
  refine tkB 47 (.bool true) [(53, .bool true)] rfl (by rintro ρ ⟨e53, ec⟩ w hSw; obtain ⟨s0, s1, s2, s3, s4, s5, s6, s7, s8, s9, s10, s11, s12, s13⟩ := hSw; go_simp) hHeld ?_
  refine tkN 48 rfl hHeld ?_
  refine tkN 49 rfl hHeld ?_
  refine tkN 50 rfl hHeld ?_
  refine tkB 51 (.bool true) [(54, .bool true), (57, undef)] rfl (by rintro ρ ⟨e54, e57, ec⟩ w hSw; obtain ⟨s0, s1, s2, s3, s4, s5, s6, s7, s8, s9, s10, s11, s12, s13⟩ := hSw; have k0 := ec (Value.bool true); go_simp) hHeld ?_
  refine tkB 52 (.bool true) [(58, .bool true)] rfl (by rintro ρ ⟨e58, ec⟩ w hSw; obtain ⟨s0, s1, s2, s3, s4, s5, s6, s7, s8, s9, s10, s11, s12, s13⟩ := hSw; go_simp) hHeld ?_
  refine tkN 53 rfl hHeld ?_
  refine tkN 54 rfl hHeld ?_
  refine tkN 55 rfl hHeld ?_
  refine tkB 56 (.bool true) [(59, .bool true), (62, undef)] rfl (by rintro ρ ⟨e59, e62, ec⟩ w hSw; obtain ⟨s0, s1, s2, s3, s4, s5, s6, s7, s8, s9, s10, s11, s12, s13⟩ := hSw; have k0 := ec (Value.bool true); go_simp) hHeld ?_
  refine tkB 57 (.bool true) [(63, .bool true)] rfl (by rintro ρ ⟨e63, ec⟩ w hSw; obtain ⟨s0, s1, s2, s3, s4, s5, s6, s7, s8, s9, s10, s11, s12, s13⟩ := hSw; go_simp) hHeld ?_
  refine tkN 58 rfl hHeld ?_
  refine tkN 59 rfl hHeld ?_
  refine tkN 60 rfl hHeld ?_
  refine tkN 61 rfl hHeld ?_
  refine tkN 62 rfl hHeld ?_
  refine tkB 63 (.bool true) [(64, .bool true), (69, undef)] rfl (by rintro ρ ⟨e64, e69, ec⟩ w hSw; obtain ⟨s0, s1, s2, s3, s4, s5, s6, s7, s8, s9, s10, s11, s12, s13⟩ := hSw; have k0 := ec (Value.bool true); go_simp) hHeld ?_
  refine tkB 64 (.bool true) [(70, .bool true)] rfl (by rintro ρ ⟨e70, ec⟩ w hSw; obtain ⟨s0, s1, s2, s3, s4, s5, s6, s7, s8, s9, s10, s11, s12, s13⟩ := hSw; go_simp) hHeld ?_
  refine tkN 65 rfl hHeld ?_
  refine tkN 66 rfl hHeld ?_
  refine tkN 67 rfl hHeld ?_
  refine tkN 68 rfl hHeld ?_
  refine tkB 69 (.bool true) [(71, .bool true), (75, undef)] rfl (by rintro ρ ⟨e71, e75, ec⟩ w hSw; obtain ⟨s0, s1, s2, s3, s4, s5, s6, s7, s8, s9, s10, s11, s12, s13⟩ := hSw; have k0 := ec (Value.bool true); go_simp) hHeld ?_
  refine tkB 70 (.bool true) [(76, .bool true)] rfl (by rintro ρ ⟨e76, ec⟩ w hSw; obtain ⟨s0, s1, s2, s3, s4, s5, s6, s7, s8, s9, s10, s11, s12, s13⟩ := hSw; go_simp) hHeld ?_
  refine tkN 71 rfl hHeld ?_
  refine tkN 72 rfl hHeld ?_
  refine tkN 73 rfl hHeld ?_
  refine tkN 74 rfl hHeld ?_
  refine tkB 75 (.bool true) [(77, .bool true), (81, undef)] rfl (by rintro ρ ⟨e77, e81, ec⟩ w hSw; obtain ⟨s0, s1, s2, s3, s4, s5, s6, s7, s8, s9, s10, s11, s12, s13⟩ := hSw; have k0 := ec (Value.bool true); go_simp) hHeld ?_
  refine wpAnyH_done (by kernel_rfl) ?_ _
  refine actN ⟨#[.agg #[.int .i64 a, .int .i64 s, .int .i64 t, dv, .int .i64 k, .int .i64 o, .int .i64 n, .int .i64 u, .int .i64 pt, .int .i64 pa, .string ky, .string tx], .pointer (some ⟨w.heap.size, 0, none⟩), .bool false, .pointer (some ⟨w1.heap.size, 0, none⟩), undef, .agg #[.int .i64 a, .int .i64 s, .int .i64 t, dv, .int .i64 k, .int .i64 o, .int .i64 n, .int .i64 u, .int .i64 pt, .int .i64 pa, .string ky, .string tx], .agg #[.int .i64 t, .int .i64 a], .agg #[.int .i64 t, .int .i64 a], .bool false, .bool true, .bool true, undef, undef, undef, .bool true, .bool true, undef, undef, undef, .bool true, .bool true, undef, undef, undef, undef, .bool true, .bool true, undef, undef, undef, undef, undef, undef, undef, undef, undef, undef, undef, .bool true, .bool true, undef, undef, undef, .bool true, .bool true, undef, undef, undef, .bool true, .bool true, undef, undef, undef, .bool true, .bool true, undef, undef, undef, .bool true, .bool true, undef, undef, undef, .bool true, .bool true, undef, undef, undef, undef, undef, .bool true, .bool true, undef, undef, undef, undef, .bool true, .bool true, undef, undef, undef, undef, .bool true, undef, undef, undef, undef, undef, undef, undef, undef, undef, undef, undef, undef, undef, undef, undef, undef, undef, undef, undef, undef, undef, undef, undef, undef, undef, undef, undef, undef, undef, undef, undef, undef, undef, undef, undef, undef, undef, undef, undef, undef, undef, undef, undef, undef, undef, undef, undef, undef, undef, undef, undef, undef, undef, undef, undef, undef, undef, undef, undef, undef, undef, undef, undef, undef, undef, undef, undef], []⟩ ?_
  go_wp2_with fail
  go_ret
  exact ⟨by rw [HE.out]; rfl, below_seq (below_seq (below_alloc _ _) hb1) (below_seq (below_alloc _ _) hB)⟩

set_option maxHeartbeats 4000000 in
set_option maxRecDepth 100000 in
theorem opSpec_b (C : Nat) (a s t k o n u pt pa : Int) (dv : Value) (ky tx : ByteArray) (ds : List Int) (w : World) (hC : C ≤ w.heap.size) (hr : Rd C w dv (ds.map (Value.int .i64))) (r : Bool) (h1 : stOK t a = true) (h4 : vecOK ds = false) (HE : Hid (r = false)) (HT0 : Hid (s < 1 → r = false)) (HT1 : Hid (1000000000000 < s → r = false)) :
    Calls Try.prog 13 #[.agg #[.int .i64 a, .int .i64 s, .int .i64 t, dv, .int .i64 k, .int .i64 o, .int .i64 n, .int .i64 u, .int .i64 pt, .int .i64 pa, .string ky, .string tx]] w fun e w' => e = .returned (.bool r) ∧ Below w.heap.size w w' := by
  have hV : ∀ w1, Below w.heap.size w w1 → Calls Try.prog 38 #[.agg #[dv]] w1 fun e w' => e = .returned (.bool (vecOK ds)) ∧ Below w1.heap.size w1 w' := fun w1 hb => specVecOK_any C w1 dv ds (by have := hb.size; omega) (hr.below (hb.mono hC))
  have hO := fun w => specStampOK_any t a w
  rw [h1] at hO
  rw [h4] at hV
  clear h1 h4 hr
  go_enter Try.func13, Try.ntmps13
  go_wp2_with (go_at_call 36; refine (l08Stamp_any _ _ _ _ _ _ _ _ _ _ _ _ _).mono ?_; rintro e w1 ⟨rfl, hb1⟩)
  have hB := (Below.refl (w1.alloc (.cells #[.int .i64 t, .int .i64 a] 42)).heap.size (w1.alloc (.cells #[.int .i64 t, .int .i64 a] 42))).drew
  have HF : Hid (∀ wx, Below (w1.alloc (.cells #[.int .i64 t, .int .i64 a] 42)).heap.size (w1.alloc (.cells #[.int .i64 t, .int .i64 a] 42)) wx → wx.cell? ⟨w.heap.size, 0, none⟩ = some (.int .i64 a) ∧ wx.cell? ⟨w.heap.size, 1, none⟩ = some (.int .i64 s) ∧ wx.cell? ⟨w.heap.size, 2, none⟩ = some (.int .i64 t) ∧ wx.cell? ⟨w.heap.size, 3, none⟩ = some (dv) ∧ wx.cell? ⟨w.heap.size, 4, none⟩ = some (.int .i64 k) ∧ wx.cell? ⟨w.heap.size, 5, none⟩ = some (.int .i64 o) ∧ wx.cell? ⟨w.heap.size, 6, none⟩ = some (.int .i64 n) ∧ wx.cell? ⟨w.heap.size, 7, none⟩ = some (.int .i64 u) ∧ wx.cell? ⟨w.heap.size, 8, none⟩ = some (.int .i64 pt) ∧ wx.cell? ⟨w.heap.size, 9, none⟩ = some (.int .i64 pa) ∧ wx.cell? ⟨w.heap.size, 10, none⟩ = some (.string ky) ∧ wx.cell? ⟨w.heap.size, 11, none⟩ = some (.string tx) ∧ wx.cell? ⟨w1.heap.size, 0, none⟩ = some (.int .i64 t) ∧ wx.cell? ⟨w1.heap.size, 1, none⟩ = some (.int .i64 a)) := fun wx h => by
    have h2 := below_seq (below_alloc w1 _) h
    obtain ⟨q0, q1, q2, q3, q4, q5, q6, q7, q8, q9, q10, q11⟩ := op_cells (below_seq hb1 h2)
    exact ⟨q0, q1, q2, q3, q4, q5, q6, q7, q8, q9, q10, q11, cell_made h (k := 0) rfl, cell_made h (k := 1) rfl⟩
  refine wp_region_held_drew (S := fun w' => w'.cell? ⟨w.heap.size, 0, none⟩ = some (.int .i64 a) ∧ w'.cell? ⟨w.heap.size, 1, none⟩ = some (.int .i64 s) ∧ w'.cell? ⟨w.heap.size, 2, none⟩ = some (.int .i64 t) ∧ w'.cell? ⟨w.heap.size, 3, none⟩ = some (dv) ∧ w'.cell? ⟨w.heap.size, 4, none⟩ = some (.int .i64 k) ∧ w'.cell? ⟨w.heap.size, 5, none⟩ = some (.int .i64 o) ∧ w'.cell? ⟨w.heap.size, 6, none⟩ = some (.int .i64 n) ∧ w'.cell? ⟨w.heap.size, 7, none⟩ = some (.int .i64 u) ∧ w'.cell? ⟨w.heap.size, 8, none⟩ = some (.int .i64 pt) ∧ w'.cell? ⟨w.heap.size, 9, none⟩ = some (.int .i64 pa) ∧ w'.cell? ⟨w.heap.size, 10, none⟩ = some (.string ky) ∧ w'.cell? ⟨w.heap.size, 11, none⟩ = some (.string tx) ∧ w'.cell? ⟨w1.heap.size, 0, none⟩ = some (.int .i64 t) ∧ w'.cell? ⟨w1.heap.size, 1, none⟩ = some (.int .i64 a)) (by kernel_rfl) (HF.out _ hB) (fun hHeld => ?_)
  refine tkB 0 (.agg #[.int .i64 t, .int .i64 a]) [(3, .pointer (some ⟨w1.heap.size, 0, none⟩))] rfl (by rintro ρ ⟨e3, ec⟩ w hSw; obtain ⟨s0, s1, s2, s3, s4, s5, s6, s7, s8, s9, s10, s11, s12, s13⟩ := hSw; go_simp) hHeld ?_
  refine actH ⟨#[.agg #[.int .i64 a, .int .i64 s, .int .i64 t, dv, .int .i64 k, .int .i64 o, .int .i64 n, .int .i64 u, .int .i64 pt, .int .i64 pa, .string ky, .string tx], .pointer (some ⟨w.heap.size, 0, none⟩), .bool false, .pointer (some ⟨w1.heap.size, 0, none⟩), undef, .agg #[.int .i64 a, .int .i64 s, .int .i64 t, dv, .int .i64 k, .int .i64 o, .int .i64 n, .int .i64 u, .int .i64 pt, .int .i64 pa, .string ky, .string tx], .agg #[.int .i64 t, .int .i64 a], .agg #[.int .i64 t, .int .i64 a], undef, undef, undef, undef, undef, undef, undef, undef, undef, undef, undef, undef, undef, undef, undef, undef, undef, undef, undef, undef, undef, undef, undef, undef, undef, undef, undef, undef, undef, undef, undef, undef, undef, undef, undef, undef, undef, undef, undef, undef, undef, undef, undef, undef, undef, undef, undef, undef, undef, undef, undef, undef, undef, undef, undef, undef, undef, undef, undef, undef, undef, undef, undef, undef, undef, undef, undef, undef, undef, undef, undef, undef, undef, undef, undef, undef, undef, undef, undef, undef, undef, undef, undef, undef, undef, undef, undef, undef, undef, undef, undef, undef, undef, undef, undef, undef, undef, undef, undef, undef, undef, undef, undef, undef, undef, undef, undef, undef, undef, undef, undef, undef, undef, undef, undef, undef, undef, undef, undef, undef, undef, undef, undef, undef, undef, undef, undef, undef, undef, undef, undef, undef, undef, undef, undef, undef, undef, undef, undef, undef, undef, undef], []⟩ #[true, false, false, false, false, false, false, false, false, false, false, false, false, false, false, false, false, false, false, false, false, false, false, false, false, false, false, false, false, false, false, false, false, false, false, false, false, false, false, false, false, false, false, false, false, false, false, false, false, false, false, false, false, false, false, false, false, false, false, false, false, false, false, false, false, false, false, false, false, false, false, false, false, false, false, false] ?_
  refine wpAnyH_ready (rs := [1]) (by kernel_rfl) (by simp) ?_
  refine AllReadyH.cons rfl (fun K hK => ?_) AllReadyH.nil
  go_simp
  refine (hO _).mono ?_
  rintro e wn ⟨rfl, hbn⟩
  replace hB := below_seq hB hbn
  clear hbn
  go_wp2_with fail
  refine hK.out _ _ (HF.out _ hB) (fun hHeld => ?_)
  clear hK K
  refine tkB 2 (.bool false) [(8, .bool true)] rfl (by rintro ρ ⟨e8, ec⟩ w hSw; obtain ⟨s0, s1, s2, s3, s4, s5, s6, s7, s8, s9, s10, s11, s12, s13⟩ := hSw; go_simp) hHeld ?_
  refine tkB 3 (.bool false) [(9, .bool false)] rfl (by rintro ρ ⟨e9, ec⟩ w hSw; obtain ⟨s0, s1, s2, s3, s4, s5, s6, s7, s8, s9, s10, s11, s12, s13⟩ := hSw; go_simp) hHeld ?_
  refine tkB 4 (.pointer (some ⟨w.heap.size, 1, none⟩)) [(1, .pointer (some ⟨w.heap.size, 0, none⟩))] rfl (by rintro ρ ⟨e1, ec⟩ w hSw; obtain ⟨s0, s1, s2, s3, s4, s5, s6, s7, s8, s9, s10, s11, s12, s13⟩ := hSw; go_simp) hHeld ?_
  refine tkB 5 (.int .i64 s) [(11, .pointer (some ⟨w.heap.size, 1, none⟩))] rfl (by rintro ρ ⟨e11, ec⟩ w hSw; obtain ⟨s0, s1, s2, s3, s4, s5, s6, s7, s8, s9, s10, s11, s12, s13⟩ := hSw; go_simp) hHeld ?_
  by_cases tq0 : s < 1
  · have HE : Hid (r = false) := HT0.out (by omega)
    refine tkB 6 (.bool true) [(12, .int .i64 s)] rfl (by rintro ρ ⟨e12, ec⟩ w hSw; obtain ⟨s0, s1, s2, s3, s4, s5, s6, s7, s8, s9, s10, s11, s12, s13⟩ := hSw; have k0 := ec (Value.int IntKind.i64 1); go_simp) hHeld ?_
    refine tkB 7 (.bool true) [(10, .bool false), (13, .bool true)] rfl (by rintro ρ ⟨e10, e13, ec⟩ w hSw; obtain ⟨s0, s1, s2, s3, s4, s5, s6, s7, s8, s9, s10, s11, s12, s13⟩ := hSw; have k0 := ec (Value.bool true); go_simp) hHeld ?_
    refine tkB 8 (.bool true) [(14, .bool true)] rfl (by rintro ρ ⟨e14, ec⟩ w hSw; obtain ⟨s0, s1, s2, s3, s4, s5, s6, s7, s8, s9, s10, s11, s12, s13⟩ := hSw; go_simp) hHeld ?_
    refine tkN 9 rfl hHeld ?_
    refine tkN 10 rfl hHeld ?_
    refine tkN 11 rfl hHeld ?_
    refine tkB 12 (.bool true) [(15, .bool true), (18, undef)] rfl (by rintro ρ ⟨e15, e18, ec⟩ w hSw; obtain ⟨s0, s1, s2, s3, s4, s5, s6, s7, s8, s9, s10, s11, s12, s13⟩ := hSw; have k0 := ec (Value.bool true); go_simp) hHeld ?_
    refine tkB 13 (.bool true) [(19, .bool true)] rfl (by rintro ρ ⟨e19, ec⟩ w hSw; obtain ⟨s0, s1, s2, s3, s4, s5, s6, s7, s8, s9, s10, s11, s12, s13⟩ := hSw; go_simp) hHeld ?_
    refine tkN 14 rfl hHeld ?_
    refine tkN 15 rfl hHeld ?_
    refine actH ⟨#[.agg #[.int .i64 a, .int .i64 s, .int .i64 t, dv, .int .i64 k, .int .i64 o, .int .i64 n, .int .i64 u, .int .i64 pt, .int .i64 pa, .string ky, .string tx], .pointer (some ⟨w.heap.size, 0, none⟩), .bool false, .pointer (some ⟨w1.heap.size, 0, none⟩), undef, .agg #[.int .i64 a, .int .i64 s, .int .i64 t, dv, .int .i64 k, .int .i64 o, .int .i64 n, .int .i64 u, .int .i64 pt, .int .i64 pa, .string ky, .string tx], .agg #[.int .i64 t, .int .i64 a], .agg #[.int .i64 t, .int .i64 a], .bool true, .bool false, .bool false, .pointer (some ⟨w.heap.size, 1, none⟩), .int .i64 s, .bool true, .bool true, .bool true, undef, undef, undef, .bool true, .bool true, undef, undef, undef, undef, undef, undef, undef, undef, undef, undef, undef, undef, undef, undef, undef, undef, undef, undef, undef, undef, undef, undef, undef, undef, undef, undef, undef, undef, undef, undef, undef, undef, undef, undef, undef, undef, undef, undef, undef, undef, undef, undef, undef, undef, undef, undef, undef, undef, undef, undef, undef, undef, undef, undef, undef, undef, undef, undef, undef, undef, undef, undef, undef, undef, undef, undef, undef, undef, undef, undef, undef, undef, undef, undef, undef, undef, undef, undef, undef, undef, undef, undef, undef, undef, undef, undef, undef, undef, undef, undef, undef, undef, undef, undef, undef, undef, undef, undef, undef, undef, undef, undef, undef, undef, undef, undef, undef, undef, undef, undef, undef, undef, undef, undef, undef, undef, undef, undef, undef, undef, undef, undef, undef, undef, undef, undef, undef, undef, undef], []⟩ #[true, true, true, true, true, true, true, true, true, true, true, true, true, true, true, true, false, false, false, false, false, false, false, false, false, false, false, false, false, false, false, false, false, false, false, false, false, false, false, false, false, false, false, false, false, false, false, false, false, false, false, false, false, false, false, false, false, false, false, false, false, false, false, false, false, false, false, false, false, false, false, false, false, false, false, false] ?_
    refine wpAnyH_ready (rs := [16]) (by kernel_rfl) (by simp) ?_
    refine AllReadyH.cons rfl (fun K hK => ?_) AllReadyH.nil
    go_simp
    refine hK.out _ _ (HF.out _ hB) (fun hHeld => ?_)
    clear hK K
    refine tkN 17 rfl hHeld ?_
    refine tkB 18 (.bool true) [(20, .bool true), (24, undef)] rfl (by rintro ρ ⟨e20, e24, ec⟩ w hSw; obtain ⟨s0, s1, s2, s3, s4, s5, s6, s7, s8, s9, s10, s11, s12, s13⟩ := hSw; have k0 := ec (Value.bool true); go_simp) hHeld ?_
    refine tkB 19 (.bool true) [(25, .bool true)] rfl (by rintro ρ ⟨e25, ec⟩ w hSw; obtain ⟨s0, s1, s2, s3, s4, s5, s6, s7, s8, s9, s10, s11, s12, s13⟩ := hSw; go_simp) hHeld ?_
    refine tkN 20 rfl hHeld ?_
    refine tkN 21 rfl hHeld ?_
    refine tkN 22 rfl hHeld ?_
    refine tkN 23 rfl hHeld ?_
    refine tkN 24 rfl hHeld ?_
    refine tkN 25 rfl hHeld ?_
    refine tkN 26 rfl hHeld ?_
    refine tkN 27 rfl hHeld ?_
    refine tkN 28 rfl hHeld ?_
    refine tkN 29 rfl hHeld ?_
    refine tkN 30 rfl hHeld ?_
    refine tkB 31 (.bool true) [(26, .bool true), (37, undef)] rfl (by rintro ρ ⟨e26, e37, ec⟩ w hSw; obtain ⟨s0, s1, s2, s3, s4, s5, s6, s7, s8, s9, s10, s11, s12, s13⟩ := hSw; have k0 := ec (Value.bool true); go_simp) hHeld ?_
    refine tkB 32 (.bool true) [(38, .bool true)] rfl (by rintro ρ ⟨e38, ec⟩ w hSw; obtain ⟨s0, s1, s2, s3, s4, s5, s6, s7, s8, s9, s10, s11, s12, s13⟩ := hSw; go_simp) hHeld ?_
    refine tkN 33 rfl hHeld ?_
    refine tkN 34 rfl hHeld ?_
    refine tkN 35 rfl hHeld ?_
    refine tkB 36 (.bool true) [(39, .bool true), (42, undef)] rfl (by rintro ρ ⟨e39, e42, ec⟩ w hSw; obtain ⟨s0, s1, s2, s3, s4, s5, s6, s7, s8, s9, s10, s11, s12, s13⟩ := hSw; have k0 := ec (Value.bool true); go_simp) hHeld ?_
    refine tkB 37 (.bool true) [(43, .bool true)] rfl (by rintro ρ ⟨e43, ec⟩ w hSw; obtain ⟨s0, s1, s2, s3, s4, s5, s6, s7, s8, s9, s10, s11, s12, s13⟩ := hSw; go_simp) hHeld ?_
    refine tkN 38 rfl hHeld ?_
    refine tkN 39 rfl hHeld ?_
    refine tkN 40 rfl hHeld ?_
    refine tkB 41 (.bool true) [(44, .bool true), (47, undef)] rfl (by rintro ρ ⟨e44, e47, ec⟩ w hSw; obtain ⟨s0, s1, s2, s3, s4, s5, s6, s7, s8, s9, s10, s11, s12, s13⟩ := hSw; have k0 := ec (Value.bool true); go_simp) hHeld ?_
    refine tkB 42 (.bool true) [(48, .bool true)] rfl (by rintro ρ ⟨e48, ec⟩ w hSw; obtain ⟨s0, s1, s2, s3, s4, s5, s6, s7, s8, s9, s10, s11, s12, s13⟩ := hSw; go_simp) hHeld ?_
    refine tkN 43 rfl hHeld ?_
    refine tkN 44 rfl hHeld ?_
    refine tkN 45 rfl hHeld ?_
    refine tkB 46 (.bool true) [(49, .bool true), (52, undef)] rfl (by rintro ρ ⟨e49, e52, ec⟩ w hSw; obtain ⟨s0, s1, s2, s3, s4, s5, s6, s7, s8, s9, s10, s11, s12, s13⟩ := hSw; have k0 := ec (Value.bool true); go_simp) hHeld ?_
    refine tkB 47 (.bool true) [(53, .bool true)] rfl (by rintro ρ ⟨e53, ec⟩ w hSw; obtain ⟨s0, s1, s2, s3, s4, s5, s6, s7, s8, s9, s10, s11, s12, s13⟩ := hSw; go_simp) hHeld ?_
    refine tkN 48 rfl hHeld ?_
    refine tkN 49 rfl hHeld ?_
    refine tkN 50 rfl hHeld ?_
    refine tkB 51 (.bool true) [(54, .bool true), (57, undef)] rfl (by rintro ρ ⟨e54, e57, ec⟩ w hSw; obtain ⟨s0, s1, s2, s3, s4, s5, s6, s7, s8, s9, s10, s11, s12, s13⟩ := hSw; have k0 := ec (Value.bool true); go_simp) hHeld ?_
    refine tkB 52 (.bool true) [(58, .bool true)] rfl (by rintro ρ ⟨e58, ec⟩ w hSw; obtain ⟨s0, s1, s2, s3, s4, s5, s6, s7, s8, s9, s10, s11, s12, s13⟩ := hSw; go_simp) hHeld ?_
    refine tkN 53 rfl hHeld ?_
    refine tkN 54 rfl hHeld ?_
    refine tkN 55 rfl hHeld ?_
    refine tkB 56 (.bool true) [(59, .bool true), (62, undef)] rfl (by rintro ρ ⟨e59, e62, ec⟩ w hSw; obtain ⟨s0, s1, s2, s3, s4, s5, s6, s7, s8, s9, s10, s11, s12, s13⟩ := hSw; have k0 := ec (Value.bool true); go_simp) hHeld ?_
    refine tkB 57 (.bool true) [(63, .bool true)] rfl (by rintro ρ ⟨e63, ec⟩ w hSw; obtain ⟨s0, s1, s2, s3, s4, s5, s6, s7, s8, s9, s10, s11, s12, s13⟩ := hSw; go_simp) hHeld ?_
    refine tkN 58 rfl hHeld ?_
    refine tkN 59 rfl hHeld ?_
    refine tkN 60 rfl hHeld ?_
    refine tkN 61 rfl hHeld ?_
    refine tkN 62 rfl hHeld ?_
    refine tkB 63 (.bool true) [(64, .bool true), (69, undef)] rfl (by rintro ρ ⟨e64, e69, ec⟩ w hSw; obtain ⟨s0, s1, s2, s3, s4, s5, s6, s7, s8, s9, s10, s11, s12, s13⟩ := hSw; have k0 := ec (Value.bool true); go_simp) hHeld ?_
    refine tkB 64 (.bool true) [(70, .bool true)] rfl (by rintro ρ ⟨e70, ec⟩ w hSw; obtain ⟨s0, s1, s2, s3, s4, s5, s6, s7, s8, s9, s10, s11, s12, s13⟩ := hSw; go_simp) hHeld ?_
    refine tkN 65 rfl hHeld ?_
    refine tkN 66 rfl hHeld ?_
    refine tkN 67 rfl hHeld ?_
    refine tkN 68 rfl hHeld ?_
    refine tkB 69 (.bool true) [(71, .bool true), (75, undef)] rfl (by rintro ρ ⟨e71, e75, ec⟩ w hSw; obtain ⟨s0, s1, s2, s3, s4, s5, s6, s7, s8, s9, s10, s11, s12, s13⟩ := hSw; have k0 := ec (Value.bool true); go_simp) hHeld ?_
    refine tkB 70 (.bool true) [(76, .bool true)] rfl (by rintro ρ ⟨e76, ec⟩ w hSw; obtain ⟨s0, s1, s2, s3, s4, s5, s6, s7, s8, s9, s10, s11, s12, s13⟩ := hSw; go_simp) hHeld ?_
    refine tkN 71 rfl hHeld ?_
    refine tkN 72 rfl hHeld ?_
    refine tkN 73 rfl hHeld ?_
    refine tkN 74 rfl hHeld ?_
    refine tkB 75 (.bool true) [(77, .bool true), (81, undef)] rfl (by rintro ρ ⟨e77, e81, ec⟩ w hSw; obtain ⟨s0, s1, s2, s3, s4, s5, s6, s7, s8, s9, s10, s11, s12, s13⟩ := hSw; have k0 := ec (Value.bool true); go_simp) hHeld ?_
    refine wpAnyH_done (by kernel_rfl) ?_ _
    refine actN ⟨#[.agg #[.int .i64 a, .int .i64 s, .int .i64 t, dv, .int .i64 k, .int .i64 o, .int .i64 n, .int .i64 u, .int .i64 pt, .int .i64 pa, .string ky, .string tx], .pointer (some ⟨w.heap.size, 0, none⟩), .bool false, .pointer (some ⟨w1.heap.size, 0, none⟩), undef, .agg #[.int .i64 a, .int .i64 s, .int .i64 t, dv, .int .i64 k, .int .i64 o, .int .i64 n, .int .i64 u, .int .i64 pt, .int .i64 pa, .string ky, .string tx], .agg #[.int .i64 t, .int .i64 a], .agg #[.int .i64 t, .int .i64 a], .bool true, .bool false, .bool false, .pointer (some ⟨w.heap.size, 1, none⟩), .int .i64 s, .bool true, .bool true, .bool true, undef, undef, undef, .bool true, .bool true, undef, undef, undef, undef, .bool true, .bool true, undef, undef, undef, undef, undef, undef, undef, undef, undef, undef, undef, .bool true, .bool true, undef, undef, undef, .bool true, .bool true, undef, undef, undef, .bool true, .bool true, undef, undef, undef, .bool true, .bool true, undef, undef, undef, .bool true, .bool true, undef, undef, undef, .bool true, .bool true, undef, undef, undef, undef, undef, .bool true, .bool true, undef, undef, undef, undef, .bool true, .bool true, undef, undef, undef, undef, .bool true, undef, undef, undef, undef, undef, undef, undef, undef, undef, undef, undef, undef, undef, undef, undef, undef, undef, undef, undef, undef, undef, undef, undef, undef, undef, undef, undef, undef, undef, undef, undef, undef, undef, undef, undef, undef, undef, undef, undef, undef, undef, undef, undef, undef, undef, undef, undef, undef, undef, undef, undef, undef, undef, undef, undef, undef, undef, undef, undef, undef, undef, undef, undef, undef, undef, undef, undef], []⟩ ?_
    go_wp2_with fail
    go_ret
    exact ⟨by rw [HE.out]; rfl, below_seq (below_seq (below_alloc _ _) hb1) (below_seq (below_alloc _ _) hB)⟩
  · skip
    refine tkB 6 (.bool false) [(12, .int .i64 s)] rfl (by rintro ρ ⟨e12, ec⟩ w hSw; obtain ⟨s0, s1, s2, s3, s4, s5, s6, s7, s8, s9, s10, s11, s12, s13⟩ := hSw; have k0 := ec (Value.int IntKind.i64 1); go_simp) hHeld ?_
    refine tkB 7 (.bool false) [(10, .bool false), (13, .bool false)] rfl (by rintro ρ ⟨e10, e13, ec⟩ w hSw; obtain ⟨s0, s1, s2, s3, s4, s5, s6, s7, s8, s9, s10, s11, s12, s13⟩ := hSw; have k0 := ec (Value.bool true); go_simp) hHeld ?_
    refine tkB 8 (.bool false) [(14, .bool false)] rfl (by rintro ρ ⟨e14, ec⟩ w hSw; obtain ⟨s0, s1, s2, s3, s4, s5, s6, s7, s8, s9, s10, s11, s12, s13⟩ := hSw; go_simp) hHeld ?_
    refine tkB 9 (.pointer (some ⟨w.heap.size, 1, none⟩)) [(1, .pointer (some ⟨w.heap.size, 0, none⟩))] rfl (by rintro ρ ⟨e1, ec⟩ w hSw; obtain ⟨s0, s1, s2, s3, s4, s5, s6, s7, s8, s9, s10, s11, s12, s13⟩ := hSw; go_simp) hHeld ?_
    refine tkB 10 (.int .i64 s) [(16, .pointer (some ⟨w.heap.size, 1, none⟩))] rfl (by rintro ρ ⟨e16, ec⟩ w hSw; obtain ⟨s0, s1, s2, s3, s4, s5, s6, s7, s8, s9, s10, s11, s12, s13⟩ := hSw; go_simp) hHeld ?_
    by_cases tq1 : 1000000000000 < s
    · have HE : Hid (r = false) := HT1.out (by omega)
      refine tkB 11 (.bool true) [(17, .int .i64 s)] rfl (by rintro ρ ⟨e17, ec⟩ w hSw; obtain ⟨s0, s1, s2, s3, s4, s5, s6, s7, s8, s9, s10, s11, s12, s13⟩ := hSw; have k0 := ec (Value.int IntKind.i64 1000000000000); go_simp) hHeld ?_
      refine tkB 12 (.bool true) [(15, .bool false), (18, .bool true)] rfl (by rintro ρ ⟨e15, e18, ec⟩ w hSw; obtain ⟨s0, s1, s2, s3, s4, s5, s6, s7, s8, s9, s10, s11, s12, s13⟩ := hSw; have k0 := ec (Value.bool true); go_simp) hHeld ?_
      refine tkB 13 (.bool true) [(19, .bool true)] rfl (by rintro ρ ⟨e19, ec⟩ w hSw; obtain ⟨s0, s1, s2, s3, s4, s5, s6, s7, s8, s9, s10, s11, s12, s13⟩ := hSw; go_simp) hHeld ?_
      refine tkN 14 rfl hHeld ?_
      refine tkN 15 rfl hHeld ?_
      refine actH ⟨#[.agg #[.int .i64 a, .int .i64 s, .int .i64 t, dv, .int .i64 k, .int .i64 o, .int .i64 n, .int .i64 u, .int .i64 pt, .int .i64 pa, .string ky, .string tx], .pointer (some ⟨w.heap.size, 0, none⟩), .bool false, .pointer (some ⟨w1.heap.size, 0, none⟩), undef, .agg #[.int .i64 a, .int .i64 s, .int .i64 t, dv, .int .i64 k, .int .i64 o, .int .i64 n, .int .i64 u, .int .i64 pt, .int .i64 pa, .string ky, .string tx], .agg #[.int .i64 t, .int .i64 a], .agg #[.int .i64 t, .int .i64 a], .bool true, .bool false, .bool false, .pointer (some ⟨w.heap.size, 1, none⟩), .int .i64 s, .bool false, .bool false, .bool false, .pointer (some ⟨w.heap.size, 1, none⟩), .int .i64 s, .bool true, .bool true, .bool true, undef, undef, undef, undef, undef, undef, undef, undef, undef, undef, undef, undef, undef, undef, undef, undef, undef, undef, undef, undef, undef, undef, undef, undef, undef, undef, undef, undef, undef, undef, undef, undef, undef, undef, undef, undef, undef, undef, undef, undef, undef, undef, undef, undef, undef, undef, undef, undef, undef, undef, undef, undef, undef, undef, undef, undef, undef, undef, undef, undef, undef, undef, undef, undef, undef, undef, undef, undef, undef, undef, undef, undef, undef, undef, undef, undef, undef, undef, undef, undef, undef, undef, undef, undef, undef, undef, undef, undef, undef, undef, undef, undef, undef, undef, undef, undef, undef, undef, undef, undef, undef, undef, undef, undef, undef, undef, undef, undef, undef, undef, undef, undef, undef, undef, undef, undef, undef, undef, undef, undef, undef, undef, undef, undef, undef, undef, undef, undef, undef], []⟩ #[true, true, true, true, true, true, true, true, true, true, true, true, true, true, true, true, false, false, false, false, false, false, false, false, false, false, false, false, false, false, false, false, false, false, false, false, false, false, false, false, false, false, false, false, false, false, false, false, false, false, false, false, false, false, false, false, false, false, false, false, false, false, false, false, false, false, false, false, false, false, false, false, false, false, false, false] ?_
      refine wpAnyH_ready (rs := [16]) (by kernel_rfl) (by simp) ?_
      refine AllReadyH.cons rfl (fun K hK => ?_) AllReadyH.nil
      go_simp
      refine hK.out _ _ (HF.out _ hB) (fun hHeld => ?_)
      clear hK K
      refine tkN 17 rfl hHeld ?_
      refine tkB 18 (.bool true) [(20, .bool true), (24, undef)] rfl (by rintro ρ ⟨e20, e24, ec⟩ w hSw; obtain ⟨s0, s1, s2, s3, s4, s5, s6, s7, s8, s9, s10, s11, s12, s13⟩ := hSw; have k0 := ec (Value.bool true); go_simp) hHeld ?_
      refine tkB 19 (.bool true) [(25, .bool true)] rfl (by rintro ρ ⟨e25, ec⟩ w hSw; obtain ⟨s0, s1, s2, s3, s4, s5, s6, s7, s8, s9, s10, s11, s12, s13⟩ := hSw; go_simp) hHeld ?_
      refine tkN 20 rfl hHeld ?_
      refine tkN 21 rfl hHeld ?_
      refine tkN 22 rfl hHeld ?_
      refine tkN 23 rfl hHeld ?_
      refine tkN 24 rfl hHeld ?_
      refine tkN 25 rfl hHeld ?_
      refine tkN 26 rfl hHeld ?_
      refine tkN 27 rfl hHeld ?_
      refine tkN 28 rfl hHeld ?_
      refine tkN 29 rfl hHeld ?_
      refine tkN 30 rfl hHeld ?_
      refine tkB 31 (.bool true) [(26, .bool true), (37, undef)] rfl (by rintro ρ ⟨e26, e37, ec⟩ w hSw; obtain ⟨s0, s1, s2, s3, s4, s5, s6, s7, s8, s9, s10, s11, s12, s13⟩ := hSw; have k0 := ec (Value.bool true); go_simp) hHeld ?_
      refine tkB 32 (.bool true) [(38, .bool true)] rfl (by rintro ρ ⟨e38, ec⟩ w hSw; obtain ⟨s0, s1, s2, s3, s4, s5, s6, s7, s8, s9, s10, s11, s12, s13⟩ := hSw; go_simp) hHeld ?_
      refine tkN 33 rfl hHeld ?_
      refine tkN 34 rfl hHeld ?_
      refine tkN 35 rfl hHeld ?_
      refine tkB 36 (.bool true) [(39, .bool true), (42, undef)] rfl (by rintro ρ ⟨e39, e42, ec⟩ w hSw; obtain ⟨s0, s1, s2, s3, s4, s5, s6, s7, s8, s9, s10, s11, s12, s13⟩ := hSw; have k0 := ec (Value.bool true); go_simp) hHeld ?_
      refine tkB 37 (.bool true) [(43, .bool true)] rfl (by rintro ρ ⟨e43, ec⟩ w hSw; obtain ⟨s0, s1, s2, s3, s4, s5, s6, s7, s8, s9, s10, s11, s12, s13⟩ := hSw; go_simp) hHeld ?_
      refine tkN 38 rfl hHeld ?_
      refine tkN 39 rfl hHeld ?_
      refine tkN 40 rfl hHeld ?_
      refine tkB 41 (.bool true) [(44, .bool true), (47, undef)] rfl (by rintro ρ ⟨e44, e47, ec⟩ w hSw; obtain ⟨s0, s1, s2, s3, s4, s5, s6, s7, s8, s9, s10, s11, s12, s13⟩ := hSw; have k0 := ec (Value.bool true); go_simp) hHeld ?_
      refine tkB 42 (.bool true) [(48, .bool true)] rfl (by rintro ρ ⟨e48, ec⟩ w hSw; obtain ⟨s0, s1, s2, s3, s4, s5, s6, s7, s8, s9, s10, s11, s12, s13⟩ := hSw; go_simp) hHeld ?_
      refine tkN 43 rfl hHeld ?_
      refine tkN 44 rfl hHeld ?_
      refine tkN 45 rfl hHeld ?_
      refine tkB 46 (.bool true) [(49, .bool true), (52, undef)] rfl (by rintro ρ ⟨e49, e52, ec⟩ w hSw; obtain ⟨s0, s1, s2, s3, s4, s5, s6, s7, s8, s9, s10, s11, s12, s13⟩ := hSw; have k0 := ec (Value.bool true); go_simp) hHeld ?_
      refine tkB 47 (.bool true) [(53, .bool true)] rfl (by rintro ρ ⟨e53, ec⟩ w hSw; obtain ⟨s0, s1, s2, s3, s4, s5, s6, s7, s8, s9, s10, s11, s12, s13⟩ := hSw; go_simp) hHeld ?_
      refine tkN 48 rfl hHeld ?_
      refine tkN 49 rfl hHeld ?_
      refine tkN 50 rfl hHeld ?_
      refine tkB 51 (.bool true) [(54, .bool true), (57, undef)] rfl (by rintro ρ ⟨e54, e57, ec⟩ w hSw; obtain ⟨s0, s1, s2, s3, s4, s5, s6, s7, s8, s9, s10, s11, s12, s13⟩ := hSw; have k0 := ec (Value.bool true); go_simp) hHeld ?_
      refine tkB 52 (.bool true) [(58, .bool true)] rfl (by rintro ρ ⟨e58, ec⟩ w hSw; obtain ⟨s0, s1, s2, s3, s4, s5, s6, s7, s8, s9, s10, s11, s12, s13⟩ := hSw; go_simp) hHeld ?_
      refine tkN 53 rfl hHeld ?_
      refine tkN 54 rfl hHeld ?_
      refine tkN 55 rfl hHeld ?_
      refine tkB 56 (.bool true) [(59, .bool true), (62, undef)] rfl (by rintro ρ ⟨e59, e62, ec⟩ w hSw; obtain ⟨s0, s1, s2, s3, s4, s5, s6, s7, s8, s9, s10, s11, s12, s13⟩ := hSw; have k0 := ec (Value.bool true); go_simp) hHeld ?_
      refine tkB 57 (.bool true) [(63, .bool true)] rfl (by rintro ρ ⟨e63, ec⟩ w hSw; obtain ⟨s0, s1, s2, s3, s4, s5, s6, s7, s8, s9, s10, s11, s12, s13⟩ := hSw; go_simp) hHeld ?_
      refine tkN 58 rfl hHeld ?_
      refine tkN 59 rfl hHeld ?_
      refine tkN 60 rfl hHeld ?_
      refine tkN 61 rfl hHeld ?_
      refine tkN 62 rfl hHeld ?_
      refine tkB 63 (.bool true) [(64, .bool true), (69, undef)] rfl (by rintro ρ ⟨e64, e69, ec⟩ w hSw; obtain ⟨s0, s1, s2, s3, s4, s5, s6, s7, s8, s9, s10, s11, s12, s13⟩ := hSw; have k0 := ec (Value.bool true); go_simp) hHeld ?_
      refine tkB 64 (.bool true) [(70, .bool true)] rfl (by rintro ρ ⟨e70, ec⟩ w hSw; obtain ⟨s0, s1, s2, s3, s4, s5, s6, s7, s8, s9, s10, s11, s12, s13⟩ := hSw; go_simp) hHeld ?_
      refine tkN 65 rfl hHeld ?_
      refine tkN 66 rfl hHeld ?_
      refine tkN 67 rfl hHeld ?_
      refine tkN 68 rfl hHeld ?_
      refine tkB 69 (.bool true) [(71, .bool true), (75, undef)] rfl (by rintro ρ ⟨e71, e75, ec⟩ w hSw; obtain ⟨s0, s1, s2, s3, s4, s5, s6, s7, s8, s9, s10, s11, s12, s13⟩ := hSw; have k0 := ec (Value.bool true); go_simp) hHeld ?_
      refine tkB 70 (.bool true) [(76, .bool true)] rfl (by rintro ρ ⟨e76, ec⟩ w hSw; obtain ⟨s0, s1, s2, s3, s4, s5, s6, s7, s8, s9, s10, s11, s12, s13⟩ := hSw; go_simp) hHeld ?_
      refine tkN 71 rfl hHeld ?_
      refine tkN 72 rfl hHeld ?_
      refine tkN 73 rfl hHeld ?_
      refine tkN 74 rfl hHeld ?_
      refine tkB 75 (.bool true) [(77, .bool true), (81, undef)] rfl (by rintro ρ ⟨e77, e81, ec⟩ w hSw; obtain ⟨s0, s1, s2, s3, s4, s5, s6, s7, s8, s9, s10, s11, s12, s13⟩ := hSw; have k0 := ec (Value.bool true); go_simp) hHeld ?_
      refine wpAnyH_done (by kernel_rfl) ?_ _
      refine actN ⟨#[.agg #[.int .i64 a, .int .i64 s, .int .i64 t, dv, .int .i64 k, .int .i64 o, .int .i64 n, .int .i64 u, .int .i64 pt, .int .i64 pa, .string ky, .string tx], .pointer (some ⟨w.heap.size, 0, none⟩), .bool false, .pointer (some ⟨w1.heap.size, 0, none⟩), undef, .agg #[.int .i64 a, .int .i64 s, .int .i64 t, dv, .int .i64 k, .int .i64 o, .int .i64 n, .int .i64 u, .int .i64 pt, .int .i64 pa, .string ky, .string tx], .agg #[.int .i64 t, .int .i64 a], .agg #[.int .i64 t, .int .i64 a], .bool true, .bool false, .bool false, .pointer (some ⟨w.heap.size, 1, none⟩), .int .i64 s, .bool false, .bool false, .bool false, .pointer (some ⟨w.heap.size, 1, none⟩), .int .i64 s, .bool true, .bool true, .bool true, undef, undef, undef, undef, .bool true, .bool true, undef, undef, undef, undef, undef, undef, undef, undef, undef, undef, undef, .bool true, .bool true, undef, undef, undef, .bool true, .bool true, undef, undef, undef, .bool true, .bool true, undef, undef, undef, .bool true, .bool true, undef, undef, undef, .bool true, .bool true, undef, undef, undef, .bool true, .bool true, undef, undef, undef, undef, undef, .bool true, .bool true, undef, undef, undef, undef, .bool true, .bool true, undef, undef, undef, undef, .bool true, undef, undef, undef, undef, undef, undef, undef, undef, undef, undef, undef, undef, undef, undef, undef, undef, undef, undef, undef, undef, undef, undef, undef, undef, undef, undef, undef, undef, undef, undef, undef, undef, undef, undef, undef, undef, undef, undef, undef, undef, undef, undef, undef, undef, undef, undef, undef, undef, undef, undef, undef, undef, undef, undef, undef, undef, undef, undef, undef, undef, undef, undef, undef, undef, undef, undef, undef], []⟩ ?_
      go_wp2_with fail
      go_ret
      exact ⟨by rw [HE.out]; rfl, below_seq (below_seq (below_alloc _ _) hb1) (below_seq (below_alloc _ _) hB)⟩
    · skip
      refine tkB 11 (.bool false) [(17, .int .i64 s)] rfl (by rintro ρ ⟨e17, ec⟩ w hSw; obtain ⟨s0, s1, s2, s3, s4, s5, s6, s7, s8, s9, s10, s11, s12, s13⟩ := hSw; have k0 := ec (Value.int IntKind.i64 1000000000000); go_simp) hHeld ?_
      refine tkB 12 (.bool false) [(15, .bool false), (18, .bool false)] rfl (by rintro ρ ⟨e15, e18, ec⟩ w hSw; obtain ⟨s0, s1, s2, s3, s4, s5, s6, s7, s8, s9, s10, s11, s12, s13⟩ := hSw; have k0 := ec (Value.bool true); go_simp) hHeld ?_
      refine tkB 13 (.bool false) [(19, .bool false)] rfl (by rintro ρ ⟨e19, ec⟩ w hSw; obtain ⟨s0, s1, s2, s3, s4, s5, s6, s7, s8, s9, s10, s11, s12, s13⟩ := hSw; go_simp) hHeld ?_
      refine tkB 14 (.pointer (some ⟨w.heap.size, 3, none⟩)) [(1, .pointer (some ⟨w.heap.size, 0, none⟩))] rfl (by rintro ρ ⟨e1, ec⟩ w hSw; obtain ⟨s0, s1, s2, s3, s4, s5, s6, s7, s8, s9, s10, s11, s12, s13⟩ := hSw; go_simp) hHeld ?_
      refine tkB 15 (.agg #[dv]) [(21, .pointer (some ⟨w.heap.size, 3, none⟩))] rfl (by rintro ρ ⟨e21, ec⟩ w hSw; obtain ⟨s0, s1, s2, s3, s4, s5, s6, s7, s8, s9, s10, s11, s12, s13⟩ := hSw; go_simp) hHeld ?_
      refine actH ⟨#[.agg #[.int .i64 a, .int .i64 s, .int .i64 t, dv, .int .i64 k, .int .i64 o, .int .i64 n, .int .i64 u, .int .i64 pt, .int .i64 pa, .string ky, .string tx], .pointer (some ⟨w.heap.size, 0, none⟩), .bool false, .pointer (some ⟨w1.heap.size, 0, none⟩), undef, .agg #[.int .i64 a, .int .i64 s, .int .i64 t, dv, .int .i64 k, .int .i64 o, .int .i64 n, .int .i64 u, .int .i64 pt, .int .i64 pa, .string ky, .string tx], .agg #[.int .i64 t, .int .i64 a], .agg #[.int .i64 t, .int .i64 a], .bool true, .bool false, .bool false, .pointer (some ⟨w.heap.size, 1, none⟩), .int .i64 s, .bool false, .bool false, .bool false, .pointer (some ⟨w.heap.size, 1, none⟩), .int .i64 s, .bool false, .bool false, .bool false, .pointer (some ⟨w.heap.size, 3, none⟩), .agg #[dv], undef, undef, undef, undef, undef, undef, undef, undef, undef, undef, undef, undef, undef, undef, undef, undef, undef, undef, undef, undef, undef, undef, undef, undef, undef, undef, undef, undef, undef, undef, undef, undef, undef, undef, undef, undef, undef, undef, undef, undef, undef, undef, undef, undef, undef, undef, undef, undef, undef, undef, undef, undef, undef, undef, undef, undef, undef, undef, undef, undef, undef, undef, undef, undef, undef, undef, undef, undef, undef, undef, undef, undef, undef, undef, undef, undef, undef, undef, undef, undef, undef, undef, undef, undef, undef, undef, undef, undef, undef, undef, undef, undef, undef, undef, undef, undef, undef, undef, undef, undef, undef, undef, undef, undef, undef, undef, undef, undef, undef, undef, undef, undef, undef, undef, undef, undef, undef, undef, undef, undef, undef, undef, undef, undef, undef, undef, undef], []⟩ #[true, true, true, true, true, true, true, true, true, true, true, true, true, true, true, true, false, false, false, false, false, false, false, false, false, false, false, false, false, false, false, false, false, false, false, false, false, false, false, false, false, false, false, false, false, false, false, false, false, false, false, false, false, false, false, false, false, false, false, false, false, false, false, false, false, false, false, false, false, false, false, false, false, false, false, false] ?_
      refine wpAnyH_ready (rs := [16]) (by kernel_rfl) (by simp) ?_
      refine AllReadyH.cons rfl (fun K hK => ?_) AllReadyH.nil
      go_simp
      refine (hV _ (below_seq (below_seq (below_alloc _ _) hb1) (below_seq (below_alloc _ _) hB))).mono ?_
      rintro e wn ⟨rfl, hbn⟩
      replace hB := below_seq hB hbn
      clear hbn
      go_wp2_with fail
      refine hK.out _ _ (HF.out _ hB) (fun hHeld => ?_)
      clear hK K
      refine tkB 17 (.bool true) [(23, .bool false)] rfl (by rintro ρ ⟨e23, ec⟩ w hSw; obtain ⟨s0, s1, s2, s3, s4, s5, s6, s7, s8, s9, s10, s11, s12, s13⟩ := hSw; go_simp) hHeld ?_
      refine tkB 18 (.bool true) [(20, .bool false), (24, .bool true)] rfl (by rintro ρ ⟨e20, e24, ec⟩ w hSw; obtain ⟨s0, s1, s2, s3, s4, s5, s6, s7, s8, s9, s10, s11, s12, s13⟩ := hSw; have k0 := ec (Value.bool true); go_simp) hHeld ?_
      refine tkB 19 (.bool true) [(25, .bool true)] rfl (by rintro ρ ⟨e25, ec⟩ w hSw; obtain ⟨s0, s1, s2, s3, s4, s5, s6, s7, s8, s9, s10, s11, s12, s13⟩ := hSw; go_simp) hHeld ?_
      refine tkN 20 rfl hHeld ?_
      refine tkN 21 rfl hHeld ?_
      refine tkN 22 rfl hHeld ?_
      refine tkN 23 rfl hHeld ?_
      refine tkN 24 rfl hHeld ?_
      refine tkN 25 rfl hHeld ?_
      refine tkN 26 rfl hHeld ?_
      refine tkN 27 rfl hHeld ?_
      refine tkN 28 rfl hHeld ?_
      refine tkN 29 rfl hHeld ?_
      refine tkN 30 rfl hHeld ?_
      refine tkB 31 (.bool true) [(26, .bool true), (37, undef)] rfl (by rintro ρ ⟨e26, e37, ec⟩ w hSw; obtain ⟨s0, s1, s2, s3, s4, s5, s6, s7, s8, s9, s10, s11, s12, s13⟩ := hSw; have k0 := ec (Value.bool true); go_simp) hHeld ?_
      refine tkB 32 (.bool true) [(38, .bool true)] rfl (by rintro ρ ⟨e38, ec⟩ w hSw; obtain ⟨s0, s1, s2, s3, s4, s5, s6, s7, s8, s9, s10, s11, s12, s13⟩ := hSw; go_simp) hHeld ?_
      refine tkN 33 rfl hHeld ?_
      refine tkN 34 rfl hHeld ?_
      refine tkN 35 rfl hHeld ?_
      refine tkB 36 (.bool true) [(39, .bool true), (42, undef)] rfl (by rintro ρ ⟨e39, e42, ec⟩ w hSw; obtain ⟨s0, s1, s2, s3, s4, s5, s6, s7, s8, s9, s10, s11, s12, s13⟩ := hSw; have k0 := ec (Value.bool true); go_simp) hHeld ?_
      refine tkB 37 (.bool true) [(43, .bool true)] rfl (by rintro ρ ⟨e43, ec⟩ w hSw; obtain ⟨s0, s1, s2, s3, s4, s5, s6, s7, s8, s9, s10, s11, s12, s13⟩ := hSw; go_simp) hHeld ?_
      refine tkN 38 rfl hHeld ?_
      refine tkN 39 rfl hHeld ?_
      refine tkN 40 rfl hHeld ?_
      refine tkB 41 (.bool true) [(44, .bool true), (47, undef)] rfl (by rintro ρ ⟨e44, e47, ec⟩ w hSw; obtain ⟨s0, s1, s2, s3, s4, s5, s6, s7, s8, s9, s10, s11, s12, s13⟩ := hSw; have k0 := ec (Value.bool true); go_simp) hHeld ?_
      refine tkB 42 (.bool true) [(48, .bool true)] rfl (by rintro ρ ⟨e48, ec⟩ w hSw; obtain ⟨s0, s1, s2, s3, s4, s5, s6, s7, s8, s9, s10, s11, s12, s13⟩ := hSw; go_simp) hHeld ?_
      refine tkN 43 rfl hHeld ?_
      refine tkN 44 rfl hHeld ?_
      refine tkN 45 rfl hHeld ?_
      refine tkB 46 (.bool true) [(49, .bool true), (52, undef)] rfl (by rintro ρ ⟨e49, e52, ec⟩ w hSw; obtain ⟨s0, s1, s2, s3, s4, s5, s6, s7, s8, s9, s10, s11, s12, s13⟩ := hSw; have k0 := ec (Value.bool true); go_simp) hHeld ?_
      refine tkB 47 (.bool true) [(53, .bool true)] rfl (by rintro ρ ⟨e53, ec⟩ w hSw; obtain ⟨s0, s1, s2, s3, s4, s5, s6, s7, s8, s9, s10, s11, s12, s13⟩ := hSw; go_simp) hHeld ?_
      refine tkN 48 rfl hHeld ?_
      refine tkN 49 rfl hHeld ?_
      refine tkN 50 rfl hHeld ?_
      refine tkB 51 (.bool true) [(54, .bool true), (57, undef)] rfl (by rintro ρ ⟨e54, e57, ec⟩ w hSw; obtain ⟨s0, s1, s2, s3, s4, s5, s6, s7, s8, s9, s10, s11, s12, s13⟩ := hSw; have k0 := ec (Value.bool true); go_simp) hHeld ?_
      refine tkB 52 (.bool true) [(58, .bool true)] rfl (by rintro ρ ⟨e58, ec⟩ w hSw; obtain ⟨s0, s1, s2, s3, s4, s5, s6, s7, s8, s9, s10, s11, s12, s13⟩ := hSw; go_simp) hHeld ?_
      refine tkN 53 rfl hHeld ?_
      refine tkN 54 rfl hHeld ?_
      refine tkN 55 rfl hHeld ?_
      refine tkB 56 (.bool true) [(59, .bool true), (62, undef)] rfl (by rintro ρ ⟨e59, e62, ec⟩ w hSw; obtain ⟨s0, s1, s2, s3, s4, s5, s6, s7, s8, s9, s10, s11, s12, s13⟩ := hSw; have k0 := ec (Value.bool true); go_simp) hHeld ?_
      refine tkB 57 (.bool true) [(63, .bool true)] rfl (by rintro ρ ⟨e63, ec⟩ w hSw; obtain ⟨s0, s1, s2, s3, s4, s5, s6, s7, s8, s9, s10, s11, s12, s13⟩ := hSw; go_simp) hHeld ?_
      refine tkN 58 rfl hHeld ?_
      refine tkN 59 rfl hHeld ?_
      refine tkN 60 rfl hHeld ?_
      refine tkN 61 rfl hHeld ?_
      refine tkN 62 rfl hHeld ?_
      refine tkB 63 (.bool true) [(64, .bool true), (69, undef)] rfl (by rintro ρ ⟨e64, e69, ec⟩ w hSw; obtain ⟨s0, s1, s2, s3, s4, s5, s6, s7, s8, s9, s10, s11, s12, s13⟩ := hSw; have k0 := ec (Value.bool true); go_simp) hHeld ?_
      refine tkB 64 (.bool true) [(70, .bool true)] rfl (by rintro ρ ⟨e70, ec⟩ w hSw; obtain ⟨s0, s1, s2, s3, s4, s5, s6, s7, s8, s9, s10, s11, s12, s13⟩ := hSw; go_simp) hHeld ?_
      refine tkN 65 rfl hHeld ?_
      refine tkN 66 rfl hHeld ?_
      refine tkN 67 rfl hHeld ?_
      refine tkN 68 rfl hHeld ?_
      refine tkB 69 (.bool true) [(71, .bool true), (75, undef)] rfl (by rintro ρ ⟨e71, e75, ec⟩ w hSw; obtain ⟨s0, s1, s2, s3, s4, s5, s6, s7, s8, s9, s10, s11, s12, s13⟩ := hSw; have k0 := ec (Value.bool true); go_simp) hHeld ?_
      refine tkB 70 (.bool true) [(76, .bool true)] rfl (by rintro ρ ⟨e76, ec⟩ w hSw; obtain ⟨s0, s1, s2, s3, s4, s5, s6, s7, s8, s9, s10, s11, s12, s13⟩ := hSw; go_simp) hHeld ?_
      refine tkN 71 rfl hHeld ?_
      refine tkN 72 rfl hHeld ?_
      refine tkN 73 rfl hHeld ?_
      refine tkN 74 rfl hHeld ?_
      refine tkB 75 (.bool true) [(77, .bool true), (81, undef)] rfl (by rintro ρ ⟨e77, e81, ec⟩ w hSw; obtain ⟨s0, s1, s2, s3, s4, s5, s6, s7, s8, s9, s10, s11, s12, s13⟩ := hSw; have k0 := ec (Value.bool true); go_simp) hHeld ?_
      refine wpAnyH_done (by kernel_rfl) ?_ _
      refine actN ⟨#[.agg #[.int .i64 a, .int .i64 s, .int .i64 t, dv, .int .i64 k, .int .i64 o, .int .i64 n, .int .i64 u, .int .i64 pt, .int .i64 pa, .string ky, .string tx], .pointer (some ⟨w.heap.size, 0, none⟩), .bool false, .pointer (some ⟨w1.heap.size, 0, none⟩), undef, .agg #[.int .i64 a, .int .i64 s, .int .i64 t, dv, .int .i64 k, .int .i64 o, .int .i64 n, .int .i64 u, .int .i64 pt, .int .i64 pa, .string ky, .string tx], .agg #[.int .i64 t, .int .i64 a], .agg #[.int .i64 t, .int .i64 a], .bool true, .bool false, .bool false, .pointer (some ⟨w.heap.size, 1, none⟩), .int .i64 s, .bool false, .bool false, .bool false, .pointer (some ⟨w.heap.size, 1, none⟩), .int .i64 s, .bool false, .bool false, .bool false, .pointer (some ⟨w.heap.size, 3, none⟩), .agg #[dv], .bool false, .bool true, .bool true, .bool true, undef, undef, undef, undef, undef, undef, undef, undef, undef, undef, undef, .bool true, .bool true, undef, undef, undef, .bool true, .bool true, undef, undef, undef, .bool true, .bool true, undef, undef, undef, .bool true, .bool true, undef, undef, undef, .bool true, .bool true, undef, undef, undef, .bool true, .bool true, undef, undef, undef, undef, undef, .bool true, .bool true, undef, undef, undef, undef, .bool true, .bool true, undef, undef, undef, undef, .bool true, undef, undef, undef, undef, undef, undef, undef, undef, undef, undef, undef, undef, undef, undef, undef, undef, undef, undef, undef, undef, undef, undef, undef, undef, undef, undef, undef, undef, undef, undef, undef, undef, undef, undef, undef, undef, undef, undef, undef, undef, undef, undef, undef, undef, undef, undef, undef, undef, undef, undef, undef, undef, undef, undef, undef, undef, undef, undef, undef, undef, undef, undef, undef, undef, undef, undef, undef], []⟩ ?_
      go_wp2_with fail
      go_ret
      exact ⟨by rw [HE.out]; rfl, below_seq (below_seq (below_alloc _ _) hb1) (below_seq (below_alloc _ _) hB)⟩

end Go.Proofs.Ytjbjkamlgcnmaaa

namespace Go.Proofs.Ytjbjkamlgcnmaaa
open Go.RowKit
set_option linter.unusedVariables false

set_option maxHeartbeats 4000000 in
set_option maxRecDepth 100000 in
theorem opSpec_c (C : Nat) (s t k o n u pt pa : Int) (ky tx : ByteArray) (j g off cap : Nat) (dj : Int) (w : World) (r : Bool) (hj : j < 16) (hg' : g < w.heap.size) (HC : Hid (w.cell? ⟨g, off + j, none⟩ = some (.int .i64 dj))) (hO : ∀ w, Calls Try.prog 37 #[.agg #[.int .i64 t, .int .i64 (j : Int)]] w fun e w' => e = .returned (.bool true) ∧ Below w.heap.size w w') (hV : ∀ w1, Below w.heap.size w w1 → Calls Try.prog 38 #[.agg #[.slice (some ⟨g, off, none⟩) 16 cap]] w1 fun e w' => e = .returned (.bool true) ∧ Below w1.heap.size w1 w') (HT0 : Hid (s < 1 → r = false)) (HT1 : Hid (1000000000000 < s → r = false)) (HBAD : Hid (¬ (s < 1) → 1000000000000 < s)) :
    Calls Try.prog 13 #[.agg #[.int .i64 ((j : Int)), .int .i64 s, .int .i64 t, .slice (some ⟨g, off, none⟩) 16 cap, .int .i64 k, .int .i64 o, .int .i64 n, .int .i64 u, .int .i64 pt, .int .i64 pa, .string ky, .string tx]] w fun e w' => e = .returned (.bool r) ∧ Below w.heap.size w w' := by
  have hj' : (j : Int) < 16 := by omega
  go_enter Try.func13, Try.ntmps13
  go_wp2_with (go_at_call 36; refine (l08Stamp_any _ _ _ _ _ _ _ _ _ _ _ _ _).mono ?_; rintro e w1 ⟨rfl, hb1⟩)
  have hB := (Below.refl (w1.alloc (.cells #[.int .i64 t, .int .i64 (j : Int)] 42)).heap.size (w1.alloc (.cells #[.int .i64 t, .int .i64 (j : Int)] 42))).drew
  have HF : Hid (∀ wx, Below (w1.alloc (.cells #[.int .i64 t, .int .i64 (j : Int)] 42)).heap.size (w1.alloc (.cells #[.int .i64 t, .int .i64 (j : Int)] 42)) wx → wx.cell? ⟨w.heap.size, 0, none⟩ = some (.int .i64 ((j : Int))) ∧ wx.cell? ⟨w.heap.size, 1, none⟩ = some (.int .i64 s) ∧ wx.cell? ⟨w.heap.size, 2, none⟩ = some (.int .i64 t) ∧ wx.cell? ⟨w.heap.size, 3, none⟩ = some (.slice (some ⟨g, off, none⟩) 16 cap) ∧ wx.cell? ⟨w.heap.size, 4, none⟩ = some (.int .i64 k) ∧ wx.cell? ⟨w.heap.size, 5, none⟩ = some (.int .i64 o) ∧ wx.cell? ⟨w.heap.size, 6, none⟩ = some (.int .i64 n) ∧ wx.cell? ⟨w.heap.size, 7, none⟩ = some (.int .i64 u) ∧ wx.cell? ⟨w.heap.size, 8, none⟩ = some (.int .i64 pt) ∧ wx.cell? ⟨w.heap.size, 9, none⟩ = some (.int .i64 pa) ∧ wx.cell? ⟨w.heap.size, 10, none⟩ = some (.string ky) ∧ wx.cell? ⟨w.heap.size, 11, none⟩ = some (.string tx) ∧ wx.cell? ⟨w1.heap.size, 0, none⟩ = some (.int .i64 t) ∧ wx.cell? ⟨w1.heap.size, 1, none⟩ = some (.int .i64 ((j : Int))) ∧ wx.cell? ⟨g, off + j, none⟩ = some (.int .i64 dj)) := fun wx h => by
    have h2 := below_seq (below_alloc w1 _) h
    obtain ⟨q0, q1, q2, q3, q4, q5, q6, q7, q8, q9, q10, q11⟩ := op_cells (below_seq hb1 h2)
    exact ⟨q0, q1, q2, q3, q4, q5, q6, q7, q8, q9, q10, q11, cell_made h (k := 0) rfl, cell_made h (k := 1) rfl, ((below_seq (below_alloc w _) (below_seq hb1 h2)).cell (p := ⟨g, off + j, none⟩) (by show g < w.heap.size; omega)).trans HC.out⟩
  refine wp_region_held_drew (S := fun w' => w'.cell? ⟨w.heap.size, 0, none⟩ = some (.int .i64 ((j : Int))) ∧ w'.cell? ⟨w.heap.size, 1, none⟩ = some (.int .i64 s) ∧ w'.cell? ⟨w.heap.size, 2, none⟩ = some (.int .i64 t) ∧ w'.cell? ⟨w.heap.size, 3, none⟩ = some (.slice (some ⟨g, off, none⟩) 16 cap) ∧ w'.cell? ⟨w.heap.size, 4, none⟩ = some (.int .i64 k) ∧ w'.cell? ⟨w.heap.size, 5, none⟩ = some (.int .i64 o) ∧ w'.cell? ⟨w.heap.size, 6, none⟩ = some (.int .i64 n) ∧ w'.cell? ⟨w.heap.size, 7, none⟩ = some (.int .i64 u) ∧ w'.cell? ⟨w.heap.size, 8, none⟩ = some (.int .i64 pt) ∧ w'.cell? ⟨w.heap.size, 9, none⟩ = some (.int .i64 pa) ∧ w'.cell? ⟨w.heap.size, 10, none⟩ = some (.string ky) ∧ w'.cell? ⟨w.heap.size, 11, none⟩ = some (.string tx) ∧ w'.cell? ⟨w1.heap.size, 0, none⟩ = some (.int .i64 t) ∧ w'.cell? ⟨w1.heap.size, 1, none⟩ = some (.int .i64 ((j : Int))) ∧ w'.cell? ⟨g, off + j, none⟩ = some (.int .i64 dj)) (by kernel_rfl) (HF.out _ hB) (fun hHeld => ?_)
  refine tkB 0 (.agg #[.int .i64 t, .int .i64 ((j : Int))]) [(3, .pointer (some ⟨w1.heap.size, 0, none⟩))] rfl (by rintro ρ ⟨e3, ec⟩ w hSw; obtain ⟨s0, s1, s2, s3, s4, s5, s6, s7, s8, s9, s10, s11, s12, s13, s14⟩ := hSw; go_simp) hHeld ?_
  refine actH ⟨#[.agg #[.int .i64 ((j : Int)), .int .i64 s, .int .i64 t, .slice (some ⟨g, off, none⟩) 16 cap, .int .i64 k, .int .i64 o, .int .i64 n, .int .i64 u, .int .i64 pt, .int .i64 pa, .string ky, .string tx], .pointer (some ⟨w.heap.size, 0, none⟩), .bool false, .pointer (some ⟨w1.heap.size, 0, none⟩), undef, .agg #[.int .i64 ((j : Int)), .int .i64 s, .int .i64 t, .slice (some ⟨g, off, none⟩) 16 cap, .int .i64 k, .int .i64 o, .int .i64 n, .int .i64 u, .int .i64 pt, .int .i64 pa, .string ky, .string tx], .agg #[.int .i64 t, .int .i64 ((j : Int))], .agg #[.int .i64 t, .int .i64 ((j : Int))], undef, undef, undef, undef, undef, undef, undef, undef, undef, undef, undef, undef, undef, undef, undef, undef, undef, undef, undef, undef, undef, undef, undef, undef, undef, undef, undef, undef, undef, undef, undef, undef, undef, undef, undef, undef, undef, undef, undef, undef, undef, undef, undef, undef, undef, undef, undef, undef, undef, undef, undef, undef, undef, undef, undef, undef, undef, undef, undef, undef, undef, undef, undef, undef, undef, undef, undef, undef, undef, undef, undef, undef, undef, undef, undef, undef, undef, undef, undef, undef, undef, undef, undef, undef, undef, undef, undef, undef, undef, undef, undef, undef, undef, undef, undef, undef, undef, undef, undef, undef, undef, undef, undef, undef, undef, undef, undef, undef, undef, undef, undef, undef, undef, undef, undef, undef, undef, undef, undef, undef, undef, undef, undef, undef, undef, undef, undef, undef, undef, undef, undef, undef, undef, undef, undef, undef, undef, undef, undef, undef, undef, undef], []⟩ #[true, false, false, false, false, false, false, false, false, false, false, false, false, false, false, false, false, false, false, false, false, false, false, false, false, false, false, false, false, false, false, false, false, false, false, false, false, false, false, false, false, false, false, false, false, false, false, false, false, false, false, false, false, false, false, false, false, false, false, false, false, false, false, false, false, false, false, false, false, false, false, false, false, false, false, false] ?_
  refine wpAnyH_ready (rs := [1]) (by kernel_rfl) (by simp) ?_
  refine AllReadyH.cons rfl (fun K hK => ?_) AllReadyH.nil
  go_simp
  refine (hO _).mono ?_
  rintro e wn ⟨rfl, hbn⟩
  replace hB := below_seq hB hbn
  clear hbn
  go_wp2_with fail
  refine hK.out _ _ (HF.out _ hB) (fun hHeld => ?_)
  clear hK K
  refine tkB 2 (.bool false) [(8, .bool true)] rfl (by rintro ρ ⟨e8, ec⟩ w hSw; obtain ⟨s0, s1, s2, s3, s4, s5, s6, s7, s8, s9, s10, s11, s12, s13, s14⟩ := hSw; go_simp) hHeld ?_
  refine tkB 3 (.bool false) [(9, .bool false)] rfl (by rintro ρ ⟨e9, ec⟩ w hSw; obtain ⟨s0, s1, s2, s3, s4, s5, s6, s7, s8, s9, s10, s11, s12, s13, s14⟩ := hSw; go_simp) hHeld ?_
  refine tkB 4 (.pointer (some ⟨w.heap.size, 1, none⟩)) [(1, .pointer (some ⟨w.heap.size, 0, none⟩))] rfl (by rintro ρ ⟨e1, ec⟩ w hSw; obtain ⟨s0, s1, s2, s3, s4, s5, s6, s7, s8, s9, s10, s11, s12, s13, s14⟩ := hSw; go_simp) hHeld ?_
  refine tkB 5 (.int .i64 s) [(11, .pointer (some ⟨w.heap.size, 1, none⟩))] rfl (by rintro ρ ⟨e11, ec⟩ w hSw; obtain ⟨s0, s1, s2, s3, s4, s5, s6, s7, s8, s9, s10, s11, s12, s13, s14⟩ := hSw; go_simp) hHeld ?_
  by_cases tq0 : s < 1
  · have HE : Hid (r = false) := HT0.out (by omega)
    refine tkB 6 (.bool true) [(12, .int .i64 s)] rfl (by rintro ρ ⟨e12, ec⟩ w hSw; obtain ⟨s0, s1, s2, s3, s4, s5, s6, s7, s8, s9, s10, s11, s12, s13, s14⟩ := hSw; have k0 := ec (Value.int IntKind.i64 1); go_simp) hHeld ?_
    refine tkB 7 (.bool true) [(10, .bool false), (13, .bool true)] rfl (by rintro ρ ⟨e10, e13, ec⟩ w hSw; obtain ⟨s0, s1, s2, s3, s4, s5, s6, s7, s8, s9, s10, s11, s12, s13, s14⟩ := hSw; have k0 := ec (Value.bool true); go_simp) hHeld ?_
    refine tkB 8 (.bool true) [(14, .bool true)] rfl (by rintro ρ ⟨e14, ec⟩ w hSw; obtain ⟨s0, s1, s2, s3, s4, s5, s6, s7, s8, s9, s10, s11, s12, s13, s14⟩ := hSw; go_simp) hHeld ?_
    refine tkN 9 rfl hHeld ?_
    refine tkN 10 rfl hHeld ?_
    refine tkN 11 rfl hHeld ?_
    refine tkB 12 (.bool true) [(15, .bool true), (18, undef)] rfl (by rintro ρ ⟨e15, e18, ec⟩ w hSw; obtain ⟨s0, s1, s2, s3, s4, s5, s6, s7, s8, s9, s10, s11, s12, s13, s14⟩ := hSw; have k0 := ec (Value.bool true); go_simp) hHeld ?_
    refine tkB 13 (.bool true) [(19, .bool true)] rfl (by rintro ρ ⟨e19, ec⟩ w hSw; obtain ⟨s0, s1, s2, s3, s4, s5, s6, s7, s8, s9, s10, s11, s12, s13, s14⟩ := hSw; go_simp) hHeld ?_
    refine tkN 14 rfl hHeld ?_
    refine tkN 15 rfl hHeld ?_
    refine actH ⟨#[.agg #[.int .i64 ((j : Int)), .int .i64 s, .int .i64 t, .slice (some ⟨g, off, none⟩) 16 cap, .int .i64 k, .int .i64 o, .int .i64 n, .int .i64 u, .int .i64 pt, .int .i64 pa, .string ky, .string tx], .pointer (some ⟨w.heap.size, 0, none⟩), .bool false, .pointer (some ⟨w1.heap.size, 0, none⟩), undef, .agg #[.int .i64 ((j : Int)), .int .i64 s, .int .i64 t, .slice (some ⟨g, off, none⟩) 16 cap, .int .i64 k, .int .i64 o, .int .i64 n, .int .i64 u, .int .i64 pt, .int .i64 pa, .string ky, .string tx], .agg #[.int .i64 t, .int .i64 ((j : Int))], .agg #[.int .i64 t, .int .i64 ((j : Int))], .bool true, .bool false, .bool false, .pointer (some ⟨w.heap.size, 1, none⟩), .int .i64 s, .bool true, .bool true, .bool true, undef, undef, undef, .bool true, .bool true, undef, undef, undef, undef, undef, undef, undef, undef, undef, undef, undef, undef, undef, undef, undef, undef, undef, undef, undef, undef, undef, undef, undef, undef, undef, undef, undef, undef, undef, undef, undef, undef, undef, undef, undef, undef, undef, undef, undef, undef, undef, undef, undef, undef, undef, undef, undef, undef, undef, undef, undef, undef, undef, undef, undef, undef, undef, undef, undef, undef, undef, undef, undef, undef, undef, undef, undef, undef, undef, undef, undef, undef, undef, undef, undef, undef, undef, undef, undef, undef, undef, undef, undef, undef, undef, undef, undef, undef, undef, undef, undef, undef, undef, undef, undef, undef, undef, undef, undef, undef, undef, undef, undef, undef, undef, undef, undef, undef, undef, undef, undef, undef, undef, undef, undef, undef, undef, undef, undef, undef, undef, undef, undef, undef, undef, undef, undef, undef, undef], []⟩ #[true, true, true, true, true, true, true, true, true, true, true, true, true, true, true, true, false, false, false, false, false, false, false, false, false, false, false, false, false, false, false, false, false, false, false, false, false, false, false, false, false, false, false, false, false, false, false, false, false, false, false, false, false, false, false, false, false, false, false, false, false, false, false, false, false, false, false, false, false, false, false, false, false, false, false, false] ?_
    refine wpAnyH_ready (rs := [16]) (by kernel_rfl) (by simp) ?_
    refine AllReadyH.cons rfl (fun K hK => ?_) AllReadyH.nil
    go_simp
    refine hK.out _ _ (HF.out _ hB) (fun hHeld => ?_)
    clear hK K
    refine tkN 17 rfl hHeld ?_
    refine tkB 18 (.bool true) [(20, .bool true), (24, undef)] rfl (by rintro ρ ⟨e20, e24, ec⟩ w hSw; obtain ⟨s0, s1, s2, s3, s4, s5, s6, s7, s8, s9, s10, s11, s12, s13, s14⟩ := hSw; have k0 := ec (Value.bool true); go_simp) hHeld ?_
    refine tkB 19 (.bool true) [(25, .bool true)] rfl (by rintro ρ ⟨e25, ec⟩ w hSw; obtain ⟨s0, s1, s2, s3, s4, s5, s6, s7, s8, s9, s10, s11, s12, s13, s14⟩ := hSw; go_simp) hHeld ?_
    refine tkN 20 rfl hHeld ?_
    refine tkN 21 rfl hHeld ?_
    refine tkN 22 rfl hHeld ?_
    refine tkN 23 rfl hHeld ?_
    refine tkN 24 rfl hHeld ?_
    refine tkN 25 rfl hHeld ?_
    refine tkN 26 rfl hHeld ?_
    refine tkN 27 rfl hHeld ?_
    refine tkN 28 rfl hHeld ?_
    refine tkN 29 rfl hHeld ?_
    refine tkN 30 rfl hHeld ?_
    refine tkB 31 (.bool true) [(26, .bool true), (37, undef)] rfl (by rintro ρ ⟨e26, e37, ec⟩ w hSw; obtain ⟨s0, s1, s2, s3, s4, s5, s6, s7, s8, s9, s10, s11, s12, s13, s14⟩ := hSw; have k0 := ec (Value.bool true); go_simp) hHeld ?_
    refine tkB 32 (.bool true) [(38, .bool true)] rfl (by rintro ρ ⟨e38, ec⟩ w hSw; obtain ⟨s0, s1, s2, s3, s4, s5, s6, s7, s8, s9, s10, s11, s12, s13, s14⟩ := hSw; go_simp) hHeld ?_
    refine tkN 33 rfl hHeld ?_
    refine tkN 34 rfl hHeld ?_
    refine tkN 35 rfl hHeld ?_
    refine tkB 36 (.bool true) [(39, .bool true), (42, undef)] rfl (by rintro ρ ⟨e39, e42, ec⟩ w hSw; obtain ⟨s0, s1, s2, s3, s4, s5, s6, s7, s8, s9, s10, s11, s12, s13, s14⟩ := hSw; have k0 := ec (Value.bool true); go_simp) hHeld ?_
    refine tkB 37 (.bool true) [(43, .bool true)] rfl (by rintro ρ ⟨e43, ec⟩ w hSw; obtain ⟨s0, s1, s2, s3, s4, s5, s6, s7, s8, s9, s10, s11, s12, s13, s14⟩ := hSw; go_simp) hHeld ?_
    refine tkN 38 rfl hHeld ?_
    refine tkN 39 rfl hHeld ?_
    refine tkN 40 rfl hHeld ?_
    refine tkB 41 (.bool true) [(44, .bool true), (47, undef)] rfl (by rintro ρ ⟨e44, e47, ec⟩ w hSw; obtain ⟨s0, s1, s2, s3, s4, s5, s6, s7, s8, s9, s10, s11, s12, s13, s14⟩ := hSw; have k0 := ec (Value.bool true); go_simp) hHeld ?_
    refine tkB 42 (.bool true) [(48, .bool true)] rfl (by rintro ρ ⟨e48, ec⟩ w hSw; obtain ⟨s0, s1, s2, s3, s4, s5, s6, s7, s8, s9, s10, s11, s12, s13, s14⟩ := hSw; go_simp) hHeld ?_
    refine tkN 43 rfl hHeld ?_
    refine tkN 44 rfl hHeld ?_
    refine tkN 45 rfl hHeld ?_
    refine tkB 46 (.bool true) [(49, .bool true), (52, undef)] rfl (by rintro ρ ⟨e49, e52, ec⟩ w hSw; obtain ⟨s0, s1, s2, s3, s4, s5, s6, s7, s8, s9, s10, s11, s12, s13, s14⟩ := hSw; have k0 := ec (Value.bool true); go_simp) hHeld ?_
    refine tkB 47 (.bool true) [(53, .bool true)] rfl (by rintro ρ ⟨e53, ec⟩ w hSw; obtain ⟨s0, s1, s2, s3, s4, s5, s6, s7, s8, s9, s10, s11, s12, s13, s14⟩ := hSw; go_simp) hHeld ?_
    refine tkN 48 rfl hHeld ?_
    refine tkN 49 rfl hHeld ?_
    refine tkN 50 rfl hHeld ?_
    refine tkB 51 (.bool true) [(54, .bool true), (57, undef)] rfl (by rintro ρ ⟨e54, e57, ec⟩ w hSw; obtain ⟨s0, s1, s2, s3, s4, s5, s6, s7, s8, s9, s10, s11, s12, s13, s14⟩ := hSw; have k0 := ec (Value.bool true); go_simp) hHeld ?_
    refine tkB 52 (.bool true) [(58, .bool true)] rfl (by rintro ρ ⟨e58, ec⟩ w hSw; obtain ⟨s0, s1, s2, s3, s4, s5, s6, s7, s8, s9, s10, s11, s12, s13, s14⟩ := hSw; go_simp) hHeld ?_
    refine tkN 53 rfl hHeld ?_
    refine tkN 54 rfl hHeld ?_
    refine tkN 55 rfl hHeld ?_
    refine tkB 56 (.bool true) [(59, .bool true), (62, undef)] rfl (by rintro ρ ⟨e59, e62, ec⟩ w hSw; obtain ⟨s0, s1, s2, s3, s4, s5, s6, s7, s8, s9, s10, s11, s12, s13, s14⟩ := hSw; have k0 := ec (Value.bool true); go_simp) hHeld ?_
    refine tkB 57 (.bool true) [(63, .bool true)] rfl (by rintro ρ ⟨e63, ec⟩ w hSw; obtain ⟨s0, s1, s2, s3, s4, s5, s6, s7, s8, s9, s10, s11, s12, s13, s14⟩ := hSw; go_simp) hHeld ?_
    refine tkN 58 rfl hHeld ?_
    refine tkN 59 rfl hHeld ?_
    refine tkN 60 rfl hHeld ?_
    refine tkN 61 rfl hHeld ?_
    refine tkN 62 rfl hHeld ?_
    refine tkB 63 (.bool true) [(64, .bool true), (69, undef)] rfl (by rintro ρ ⟨e64, e69, ec⟩ w hSw; obtain ⟨s0, s1, s2, s3, s4, s5, s6, s7, s8, s9, s10, s11, s12, s13, s14⟩ := hSw; have k0 := ec (Value.bool true); go_simp) hHeld ?_
    refine tkB 64 (.bool true) [(70, .bool true)] rfl (by rintro ρ ⟨e70, ec⟩ w hSw; obtain ⟨s0, s1, s2, s3, s4, s5, s6, s7, s8, s9, s10, s11, s12, s13, s14⟩ := hSw; go_simp) hHeld ?_
    refine tkN 65 rfl hHeld ?_
    refine tkN 66 rfl hHeld ?_
    refine tkN 67 rfl hHeld ?_
    refine tkN 68 rfl hHeld ?_
    refine tkB 69 (.bool true) [(71, .bool true), (75, undef)] rfl (by rintro ρ ⟨e71, e75, ec⟩ w hSw; obtain ⟨s0, s1, s2, s3, s4, s5, s6, s7, s8, s9, s10, s11, s12, s13, s14⟩ := hSw; have k0 := ec (Value.bool true); go_simp) hHeld ?_
    refine tkB 70 (.bool true) [(76, .bool true)] rfl (by rintro ρ ⟨e76, ec⟩ w hSw; obtain ⟨s0, s1, s2, s3, s4, s5, s6, s7, s8, s9, s10, s11, s12, s13, s14⟩ := hSw; go_simp) hHeld ?_
    refine tkN 71 rfl hHeld ?_
    refine tkN 72 rfl hHeld ?_
    refine tkN 73 rfl hHeld ?_
    refine tkN 74 rfl hHeld ?_
    refine tkB 75 (.bool true) [(77, .bool true), (81, undef)] rfl (by rintro ρ ⟨e77, e81, ec⟩ w hSw; obtain ⟨s0, s1, s2, s3, s4, s5, s6, s7, s8, s9, s10, s11, s12, s13, s14⟩ := hSw; have k0 := ec (Value.bool true); go_simp) hHeld ?_
    refine wpAnyH_done (by kernel_rfl) ?_ _
    refine actN ⟨#[.agg #[.int .i64 ((j : Int)), .int .i64 s, .int .i64 t, .slice (some ⟨g, off, none⟩) 16 cap, .int .i64 k, .int .i64 o, .int .i64 n, .int .i64 u, .int .i64 pt, .int .i64 pa, .string ky, .string tx], .pointer (some ⟨w.heap.size, 0, none⟩), .bool false, .pointer (some ⟨w1.heap.size, 0, none⟩), undef, .agg #[.int .i64 ((j : Int)), .int .i64 s, .int .i64 t, .slice (some ⟨g, off, none⟩) 16 cap, .int .i64 k, .int .i64 o, .int .i64 n, .int .i64 u, .int .i64 pt, .int .i64 pa, .string ky, .string tx], .agg #[.int .i64 t, .int .i64 ((j : Int))], .agg #[.int .i64 t, .int .i64 ((j : Int))], .bool true, .bool false, .bool false, .pointer (some ⟨w.heap.size, 1, none⟩), .int .i64 s, .bool true, .bool true, .bool true, undef, undef, undef, .bool true, .bool true, undef, undef, undef, undef, .bool true, .bool true, undef, undef, undef, undef, undef, undef, undef, undef, undef, undef, undef, .bool true, .bool true, undef, undef, undef, .bool true, .bool true, undef, undef, undef, .bool true, .bool true, undef, undef, undef, .bool true, .bool true, undef, undef, undef, .bool true, .bool true, undef, undef, undef, .bool true, .bool true, undef, undef, undef, undef, undef, .bool true, .bool true, undef, undef, undef, undef, .bool true, .bool true, undef, undef, undef, undef, .bool true, undef, undef, undef, undef, undef, undef, undef, undef, undef, undef, undef, undef, undef, undef, undef, undef, undef, undef, undef, undef, undef, undef, undef, undef, undef, undef, undef, undef, undef, undef, undef, undef, undef, undef, undef, undef, undef, undef, undef, undef, undef, undef, undef, undef, undef, undef, undef, undef, undef, undef, undef, undef, undef, undef, undef, undef, undef, undef, undef, undef, undef, undef, undef, undef, undef, undef, undef], []⟩ ?_
    go_wp2_with fail
    go_ret
    exact ⟨by rw [HE.out]; rfl, below_seq (below_seq (below_alloc _ _) hb1) (below_seq (below_alloc _ _) hB)⟩
  · skip
    refine tkB 6 (.bool false) [(12, .int .i64 s)] rfl (by rintro ρ ⟨e12, ec⟩ w hSw; obtain ⟨s0, s1, s2, s3, s4, s5, s6, s7, s8, s9, s10, s11, s12, s13, s14⟩ := hSw; have k0 := ec (Value.int IntKind.i64 1); go_simp) hHeld ?_
    refine tkB 7 (.bool false) [(10, .bool false), (13, .bool false)] rfl (by rintro ρ ⟨e10, e13, ec⟩ w hSw; obtain ⟨s0, s1, s2, s3, s4, s5, s6, s7, s8, s9, s10, s11, s12, s13, s14⟩ := hSw; have k0 := ec (Value.bool true); go_simp) hHeld ?_
    refine tkB 8 (.bool false) [(14, .bool false)] rfl (by rintro ρ ⟨e14, ec⟩ w hSw; obtain ⟨s0, s1, s2, s3, s4, s5, s6, s7, s8, s9, s10, s11, s12, s13, s14⟩ := hSw; go_simp) hHeld ?_
    refine tkB 9 (.pointer (some ⟨w.heap.size, 1, none⟩)) [(1, .pointer (some ⟨w.heap.size, 0, none⟩))] rfl (by rintro ρ ⟨e1, ec⟩ w hSw; obtain ⟨s0, s1, s2, s3, s4, s5, s6, s7, s8, s9, s10, s11, s12, s13, s14⟩ := hSw; go_simp) hHeld ?_
    refine tkB 10 (.int .i64 s) [(16, .pointer (some ⟨w.heap.size, 1, none⟩))] rfl (by rintro ρ ⟨e16, ec⟩ w hSw; obtain ⟨s0, s1, s2, s3, s4, s5, s6, s7, s8, s9, s10, s11, s12, s13, s14⟩ := hSw; go_simp) hHeld ?_
    have tq1 := HBAD.out (by omega)
    have HE : Hid (r = false) := HT1.out (by omega)
    · skip
      refine tkB 11 (.bool true) [(17, .int .i64 s)] rfl (by rintro ρ ⟨e17, ec⟩ w hSw; obtain ⟨s0, s1, s2, s3, s4, s5, s6, s7, s8, s9, s10, s11, s12, s13, s14⟩ := hSw; have k0 := ec (Value.int IntKind.i64 1000000000000); go_simp) hHeld ?_
      refine tkB 12 (.bool true) [(15, .bool false), (18, .bool true)] rfl (by rintro ρ ⟨e15, e18, ec⟩ w hSw; obtain ⟨s0, s1, s2, s3, s4, s5, s6, s7, s8, s9, s10, s11, s12, s13, s14⟩ := hSw; have k0 := ec (Value.bool true); go_simp) hHeld ?_
      refine tkB 13 (.bool true) [(19, .bool true)] rfl (by rintro ρ ⟨e19, ec⟩ w hSw; obtain ⟨s0, s1, s2, s3, s4, s5, s6, s7, s8, s9, s10, s11, s12, s13, s14⟩ := hSw; go_simp) hHeld ?_
      refine tkN 14 rfl hHeld ?_
      refine tkN 15 rfl hHeld ?_
      refine actH ⟨#[.agg #[.int .i64 ((j : Int)), .int .i64 s, .int .i64 t, .slice (some ⟨g, off, none⟩) 16 cap, .int .i64 k, .int .i64 o, .int .i64 n, .int .i64 u, .int .i64 pt, .int .i64 pa, .string ky, .string tx], .pointer (some ⟨w.heap.size, 0, none⟩), .bool false, .pointer (some ⟨w1.heap.size, 0, none⟩), undef, .agg #[.int .i64 ((j : Int)), .int .i64 s, .int .i64 t, .slice (some ⟨g, off, none⟩) 16 cap, .int .i64 k, .int .i64 o, .int .i64 n, .int .i64 u, .int .i64 pt, .int .i64 pa, .string ky, .string tx], .agg #[.int .i64 t, .int .i64 ((j : Int))], .agg #[.int .i64 t, .int .i64 ((j : Int))], .bool true, .bool false, .bool false, .pointer (some ⟨w.heap.size, 1, none⟩), .int .i64 s, .bool false, .bool false, .bool false, .pointer (some ⟨w.heap.size, 1, none⟩), .int .i64 s, .bool true, .bool true, .bool true, undef, undef, undef, undef, undef, undef, undef, undef, undef, undef, undef, undef, undef, undef, undef, undef, undef, undef, undef, undef, undef, undef, undef, undef, undef, undef, undef, undef, undef, undef, undef, undef, undef, undef, undef, undef, undef, undef, undef, undef, undef, undef, undef, undef, undef, undef, undef, undef, undef, undef, undef, undef, undef, undef, undef, undef, undef, undef, undef, undef, undef, undef, undef, undef, undef, undef, undef, undef, undef, undef, undef, undef, undef, undef, undef, undef, undef, undef, undef, undef, undef, undef, undef, undef, undef, undef, undef, undef, undef, undef, undef, undef, undef, undef, undef, undef, undef, undef, undef, undef, undef, undef, undef, undef, undef, undef, undef, undef, undef, undef, undef, undef, undef, undef, undef, undef, undef, undef, undef, undef, undef, undef, undef, undef, undef, undef, undef, undef, undef], []⟩ #[true, true, true, true, true, true, true, true, true, true, true, true, true, true, true, true, false, false, false, false, false, false, false, false, false, false, false, false, false, false, false, false, false, false, false, false, false, false, false, false, false, false, false, false, false, false, false, false, false, false, false, false, false, false, false, false, false, false, false, false, false, false, false, false, false, false, false, false, false, false, false, false, false, false, false, false] ?_
      refine wpAnyH_ready (rs := [16]) (by kernel_rfl) (by simp) ?_
      refine AllReadyH.cons rfl (fun K hK => ?_) AllReadyH.nil
      go_simp
      refine hK.out _ _ (HF.out _ hB) (fun hHeld => ?_)
      clear hK K
      refine tkN 17 rfl hHeld ?_
      refine tkB 18 (.bool true) [(20, .bool true), (24, undef)] rfl (by rintro ρ ⟨e20, e24, ec⟩ w hSw; obtain ⟨s0, s1, s2, s3, s4, s5, s6, s7, s8, s9, s10, s11, s12, s13, s14⟩ := hSw; have k0 := ec (Value.bool true); go_simp) hHeld ?_
      refine tkB 19 (.bool true) [(25, .bool true)] rfl (by rintro ρ ⟨e25, ec⟩ w hSw; obtain ⟨s0, s1, s2, s3, s4, s5, s6, s7, s8, s9, s10, s11, s12, s13, s14⟩ := hSw; go_simp) hHeld ?_
      refine tkN 20 rfl hHeld ?_
      refine tkN 21 rfl hHeld ?_
      refine tkN 22 rfl hHeld ?_
      refine tkN 23 rfl hHeld ?_
      refine tkN 24 rfl hHeld ?_
      refine tkN 25 rfl hHeld ?_
      refine tkN 26 rfl hHeld ?_
      refine tkN 27 rfl hHeld ?_
      refine tkN 28 rfl hHeld ?_
      refine tkN 29 rfl hHeld ?_
      refine tkN 30 rfl hHeld ?_
      refine tkB 31 (.bool true) [(26, .bool true), (37, undef)] rfl (by rintro ρ ⟨e26, e37, ec⟩ w hSw; obtain ⟨s0, s1, s2, s3, s4, s5, s6, s7, s8, s9, s10, s11, s12, s13, s14⟩ := hSw; have k0 := ec (Value.bool true); go_simp) hHeld ?_
      refine tkB 32 (.bool true) [(38, .bool true)] rfl (by rintro ρ ⟨e38, ec⟩ w hSw; obtain ⟨s0, s1, s2, s3, s4, s5, s6, s7, s8, s9, s10, s11, s12, s13, s14⟩ := hSw; go_simp) hHeld ?_
      refine tkN 33 rfl hHeld ?_
      refine tkN 34 rfl hHeld ?_
      refine tkN 35 rfl hHeld ?_
      refine tkB 36 (.bool true) [(39, .bool true), (42, undef)] rfl (by rintro ρ ⟨e39, e42, ec⟩ w hSw; obtain ⟨s0, s1, s2, s3, s4, s5, s6, s7, s8, s9, s10, s11, s12, s13, s14⟩ := hSw; have k0 := ec (Value.bool true); go_simp) hHeld ?_
      refine tkB 37 (.bool true) [(43, .bool true)] rfl (by rintro ρ ⟨e43, ec⟩ w hSw; obtain ⟨s0, s1, s2, s3, s4, s5, s6, s7, s8, s9, s10, s11, s12, s13, s14⟩ := hSw; go_simp) hHeld ?_
      refine tkN 38 rfl hHeld ?_
      refine tkN 39 rfl hHeld ?_
      refine tkN 40 rfl hHeld ?_
      refine tkB 41 (.bool true) [(44, .bool true), (47, undef)] rfl (by rintro ρ ⟨e44, e47, ec⟩ w hSw; obtain ⟨s0, s1, s2, s3, s4, s5, s6, s7, s8, s9, s10, s11, s12, s13, s14⟩ := hSw; have k0 := ec (Value.bool true); go_simp) hHeld ?_
      refine tkB 42 (.bool true) [(48, .bool true)] rfl (by rintro ρ ⟨e48, ec⟩ w hSw; obtain ⟨s0, s1, s2, s3, s4, s5, s6, s7, s8, s9, s10, s11, s12, s13, s14⟩ := hSw; go_simp) hHeld ?_
      refine tkN 43 rfl hHeld ?_
      refine tkN 44 rfl hHeld ?_
      refine tkN 45 rfl hHeld ?_
      refine tkB 46 (.bool true) [(49, .bool true), (52, undef)] rfl (by rintro ρ ⟨e49, e52, ec⟩ w hSw; obtain ⟨s0, s1, s2, s3, s4, s5, s6, s7, s8, s9, s10, s11, s12, s13, s14⟩ := hSw; have k0 := ec (Value.bool true); go_simp) hHeld ?_
      refine tkB 47 (.bool true) [(53, .bool true)] rfl (by rintro ρ ⟨e53, ec⟩ w hSw; obtain ⟨s0, s1, s2, s3, s4, s5, s6, s7, s8, s9, s10, s11, s12, s13, s14⟩ := hSw; go_simp) hHeld ?_
      refine tkN 48 rfl hHeld ?_
      refine tkN 49 rfl hHeld ?_
      refine tkN 50 rfl hHeld ?_
      refine tkB 51 (.bool true) [(54, .bool true), (57, undef)] rfl (by rintro ρ ⟨e54, e57, ec⟩ w hSw; obtain ⟨s0, s1, s2, s3, s4, s5, s6, s7, s8, s9, s10, s11, s12, s13, s14⟩ := hSw; have k0 := ec (Value.bool true); go_simp) hHeld ?_
      refine tkB 52 (.bool true) [(58, .bool true)] rfl (by rintro ρ ⟨e58, ec⟩ w hSw; obtain ⟨s0, s1, s2, s3, s4, s5, s6, s7, s8, s9, s10, s11, s12, s13, s14⟩ := hSw; go_simp) hHeld ?_
      refine tkN 53 rfl hHeld ?_
      refine tkN 54 rfl hHeld ?_
      refine tkN 55 rfl hHeld ?_
      refine tkB 56 (.bool true) [(59, .bool true), (62, undef)] rfl (by rintro ρ ⟨e59, e62, ec⟩ w hSw; obtain ⟨s0, s1, s2, s3, s4, s5, s6, s7, s8, s9, s10, s11, s12, s13, s14⟩ := hSw; have k0 := ec (Value.bool true); go_simp) hHeld ?_
      refine tkB 57 (.bool true) [(63, .bool true)] rfl (by rintro ρ ⟨e63, ec⟩ w hSw; obtain ⟨s0, s1, s2, s3, s4, s5, s6, s7, s8, s9, s10, s11, s12, s13, s14⟩ := hSw; go_simp) hHeld ?_
      refine tkN 58 rfl hHeld ?_
      refine tkN 59 rfl hHeld ?_
      refine tkN 60 rfl hHeld ?_
      refine tkN 61 rfl hHeld ?_
      refine tkN 62 rfl hHeld ?_
      refine tkB 63 (.bool true) [(64, .bool true), (69, undef)] rfl (by rintro ρ ⟨e64, e69, ec⟩ w hSw; obtain ⟨s0, s1, s2, s3, s4, s5, s6, s7, s8, s9, s10, s11, s12, s13, s14⟩ := hSw; have k0 := ec (Value.bool true); go_simp) hHeld ?_
      refine tkB 64 (.bool true) [(70, .bool true)] rfl (by rintro ρ ⟨e70, ec⟩ w hSw; obtain ⟨s0, s1, s2, s3, s4, s5, s6, s7, s8, s9, s10, s11, s12, s13, s14⟩ := hSw; go_simp) hHeld ?_
      refine tkN 65 rfl hHeld ?_
      refine tkN 66 rfl hHeld ?_
      refine tkN 67 rfl hHeld ?_
      refine tkN 68 rfl hHeld ?_
      refine tkB 69 (.bool true) [(71, .bool true), (75, undef)] rfl (by rintro ρ ⟨e71, e75, ec⟩ w hSw; obtain ⟨s0, s1, s2, s3, s4, s5, s6, s7, s8, s9, s10, s11, s12, s13, s14⟩ := hSw; have k0 := ec (Value.bool true); go_simp) hHeld ?_
      refine tkB 70 (.bool true) [(76, .bool true)] rfl (by rintro ρ ⟨e76, ec⟩ w hSw; obtain ⟨s0, s1, s2, s3, s4, s5, s6, s7, s8, s9, s10, s11, s12, s13, s14⟩ := hSw; go_simp) hHeld ?_
      refine tkN 71 rfl hHeld ?_
      refine tkN 72 rfl hHeld ?_
      refine tkN 73 rfl hHeld ?_
      refine tkN 74 rfl hHeld ?_
      refine tkB 75 (.bool true) [(77, .bool true), (81, undef)] rfl (by rintro ρ ⟨e77, e81, ec⟩ w hSw; obtain ⟨s0, s1, s2, s3, s4, s5, s6, s7, s8, s9, s10, s11, s12, s13, s14⟩ := hSw; have k0 := ec (Value.bool true); go_simp) hHeld ?_
      refine wpAnyH_done (by kernel_rfl) ?_ _
      refine actN ⟨#[.agg #[.int .i64 ((j : Int)), .int .i64 s, .int .i64 t, .slice (some ⟨g, off, none⟩) 16 cap, .int .i64 k, .int .i64 o, .int .i64 n, .int .i64 u, .int .i64 pt, .int .i64 pa, .string ky, .string tx], .pointer (some ⟨w.heap.size, 0, none⟩), .bool false, .pointer (some ⟨w1.heap.size, 0, none⟩), undef, .agg #[.int .i64 ((j : Int)), .int .i64 s, .int .i64 t, .slice (some ⟨g, off, none⟩) 16 cap, .int .i64 k, .int .i64 o, .int .i64 n, .int .i64 u, .int .i64 pt, .int .i64 pa, .string ky, .string tx], .agg #[.int .i64 t, .int .i64 ((j : Int))], .agg #[.int .i64 t, .int .i64 ((j : Int))], .bool true, .bool false, .bool false, .pointer (some ⟨w.heap.size, 1, none⟩), .int .i64 s, .bool false, .bool false, .bool false, .pointer (some ⟨w.heap.size, 1, none⟩), .int .i64 s, .bool true, .bool true, .bool true, undef, undef, undef, undef, .bool true, .bool true, undef, undef, undef, undef, undef, undef, undef, undef, undef, undef, undef, .bool true, .bool true, undef, undef, undef, .bool true, .bool true, undef, undef, undef, .bool true, .bool true, undef, undef, undef, .bool true, .bool true, undef, undef, undef, .bool true, .bool true, undef, undef, undef, .bool true, .bool true, undef, undef, undef, undef, undef, .bool true, .bool true, undef, undef, undef, undef, .bool true, .bool true, undef, undef, undef, undef, .bool true, undef, undef, undef, undef, undef, undef, undef, undef, undef, undef, undef, undef, undef, undef, undef, undef, undef, undef, undef, undef, undef, undef, undef, undef, undef, undef, undef, undef, undef, undef, undef, undef, undef, undef, undef, undef, undef, undef, undef, undef, undef, undef, undef, undef, undef, undef, undef, undef, undef, undef, undef, undef, undef, undef, undef, undef, undef, undef, undef, undef, undef, undef, undef, undef, undef, undef, undef], []⟩ ?_
      go_wp2_with fail
      go_ret
      exact ⟨by rw [HE.out]; rfl, below_seq (below_seq (below_alloc _ _) hb1) (below_seq (below_alloc _ _) hB)⟩

set_option maxHeartbeats 4000000 in
set_option maxRecDepth 100000 in
theorem opSpec_d (C : Nat) (s t k o n u pt pa : Int) (ky tx : ByteArray) (j g off cap : Nat) (dj : Int) (w : World) (r : Bool) (hj : j < 16) (hg' : g < w.heap.size) (HC : Hid (w.cell? ⟨g, off + j, none⟩ = some (.int .i64 dj))) (hO : ∀ w, Calls Try.prog 37 #[.agg #[.int .i64 t, .int .i64 (j : Int)]] w fun e w' => e = .returned (.bool true) ∧ Below w.heap.size w w') (hV : ∀ w1, Below w.heap.size w w1 → Calls Try.prog 38 #[.agg #[.slice (some ⟨g, off, none⟩) 16 cap]] w1 fun e w' => e = .returned (.bool true) ∧ Below w1.heap.size w1 w') (kn0 : ¬ (s < 1)) (kn1 : ¬ (1000000000000 < s)) (HT2 : Hid (¬ dj = s - 1 → r = false)) (HT3 : Hid (o < 1 → r = false)) (HT4 : Hid (100 < o → r = false)) (HBAD : Hid (¬ (¬ dj = s - 1) → ¬ (o < 1) → 100 < o)) :
    Calls Try.prog 13 #[.agg #[.int .i64 ((j : Int)), .int .i64 s, .int .i64 t, .slice (some ⟨g, off, none⟩) 16 cap, .int .i64 k, .int .i64 o, .int .i64 n, .int .i64 u, .int .i64 pt, .int .i64 pa, .string ky, .string tx]] w fun e w' => e = .returned (.bool r) ∧ Below w.heap.size w w' := by
  have hj' : (j : Int) < 16 := by omega
  have hsw : IntKind.i64.wrap (s - 1) = s - 1 := by rw [IntKind.wrap_i64]; omega
  go_enter Try.func13, Try.ntmps13
  go_wp2_with (go_at_call 36; refine (l08Stamp_any _ _ _ _ _ _ _ _ _ _ _ _ _).mono ?_; rintro e w1 ⟨rfl, hb1⟩)
  have hB := (Below.refl (w1.alloc (.cells #[.int .i64 t, .int .i64 (j : Int)] 42)).heap.size (w1.alloc (.cells #[.int .i64 t, .int .i64 (j : Int)] 42))).drew
  have HF : Hid (∀ wx, Below (w1.alloc (.cells #[.int .i64 t, .int .i64 (j : Int)] 42)).heap.size (w1.alloc (.cells #[.int .i64 t, .int .i64 (j : Int)] 42)) wx → wx.cell? ⟨w.heap.size, 0, none⟩ = some (.int .i64 ((j : Int))) ∧ wx.cell? ⟨w.heap.size, 1, none⟩ = some (.int .i64 s) ∧ wx.cell? ⟨w.heap.size, 2, none⟩ = some (.int .i64 t) ∧ wx.cell? ⟨w.heap.size, 3, none⟩ = some (.slice (some ⟨g, off, none⟩) 16 cap) ∧ wx.cell? ⟨w.heap.size, 4, none⟩ = some (.int .i64 k) ∧ wx.cell? ⟨w.heap.size, 5, none⟩ = some (.int .i64 o) ∧ wx.cell? ⟨w.heap.size, 6, none⟩ = some (.int .i64 n) ∧ wx.cell? ⟨w.heap.size, 7, none⟩ = some (.int .i64 u) ∧ wx.cell? ⟨w.heap.size, 8, none⟩ = some (.int .i64 pt) ∧ wx.cell? ⟨w.heap.size, 9, none⟩ = some (.int .i64 pa) ∧ wx.cell? ⟨w.heap.size, 10, none⟩ = some (.string ky) ∧ wx.cell? ⟨w.heap.size, 11, none⟩ = some (.string tx) ∧ wx.cell? ⟨w1.heap.size, 0, none⟩ = some (.int .i64 t) ∧ wx.cell? ⟨w1.heap.size, 1, none⟩ = some (.int .i64 ((j : Int))) ∧ wx.cell? ⟨g, off + j, none⟩ = some (.int .i64 dj)) := fun wx h => by
    have h2 := below_seq (below_alloc w1 _) h
    obtain ⟨q0, q1, q2, q3, q4, q5, q6, q7, q8, q9, q10, q11⟩ := op_cells (below_seq hb1 h2)
    exact ⟨q0, q1, q2, q3, q4, q5, q6, q7, q8, q9, q10, q11, cell_made h (k := 0) rfl, cell_made h (k := 1) rfl, ((below_seq (below_alloc w _) (below_seq hb1 h2)).cell (p := ⟨g, off + j, none⟩) (by show g < w.heap.size; omega)).trans HC.out⟩
  refine wp_region_held_drew (S := fun w' => w'.cell? ⟨w.heap.size, 0, none⟩ = some (.int .i64 ((j : Int))) ∧ w'.cell? ⟨w.heap.size, 1, none⟩ = some (.int .i64 s) ∧ w'.cell? ⟨w.heap.size, 2, none⟩ = some (.int .i64 t) ∧ w'.cell? ⟨w.heap.size, 3, none⟩ = some (.slice (some ⟨g, off, none⟩) 16 cap) ∧ w'.cell? ⟨w.heap.size, 4, none⟩ = some (.int .i64 k) ∧ w'.cell? ⟨w.heap.size, 5, none⟩ = some (.int .i64 o) ∧ w'.cell? ⟨w.heap.size, 6, none⟩ = some (.int .i64 n) ∧ w'.cell? ⟨w.heap.size, 7, none⟩ = some (.int .i64 u) ∧ w'.cell? ⟨w.heap.size, 8, none⟩ = some (.int .i64 pt) ∧ w'.cell? ⟨w.heap.size, 9, none⟩ = some (.int .i64 pa) ∧ w'.cell? ⟨w.heap.size, 10, none⟩ = some (.string ky) ∧ w'.cell? ⟨w.heap.size, 11, none⟩ = some (.string tx) ∧ w'.cell? ⟨w1.heap.size, 0, none⟩ = some (.int .i64 t) ∧ w'.cell? ⟨w1.heap.size, 1, none⟩ = some (.int .i64 ((j : Int))) ∧ w'.cell? ⟨g, off + j, none⟩ = some (.int .i64 dj)) (by kernel_rfl) (HF.out _ hB) (fun hHeld => ?_)
  refine tkB 0 (.agg #[.int .i64 t, .int .i64 ((j : Int))]) [(3, .pointer (some ⟨w1.heap.size, 0, none⟩))] rfl (by rintro ρ ⟨e3, ec⟩ w hSw; obtain ⟨s0, s1, s2, s3, s4, s5, s6, s7, s8, s9, s10, s11, s12, s13, s14⟩ := hSw; go_simp) hHeld ?_
  refine actH ⟨#[.agg #[.int .i64 ((j : Int)), .int .i64 s, .int .i64 t, .slice (some ⟨g, off, none⟩) 16 cap, .int .i64 k, .int .i64 o, .int .i64 n, .int .i64 u, .int .i64 pt, .int .i64 pa, .string ky, .string tx], .pointer (some ⟨w.heap.size, 0, none⟩), .bool false, .pointer (some ⟨w1.heap.size, 0, none⟩), undef, .agg #[.int .i64 ((j : Int)), .int .i64 s, .int .i64 t, .slice (some ⟨g, off, none⟩) 16 cap, .int .i64 k, .int .i64 o, .int .i64 n, .int .i64 u, .int .i64 pt, .int .i64 pa, .string ky, .string tx], .agg #[.int .i64 t, .int .i64 ((j : Int))], .agg #[.int .i64 t, .int .i64 ((j : Int))], undef, undef, undef, undef, undef, undef, undef, undef, undef, undef, undef, undef, undef, undef, undef, undef, undef, undef, undef, undef, undef, undef, undef, undef, undef, undef, undef, undef, undef, undef, undef, undef, undef, undef, undef, undef, undef, undef, undef, undef, undef, undef, undef, undef, undef, undef, undef, undef, undef, undef, undef, undef, undef, undef, undef, undef, undef, undef, undef, undef, undef, undef, undef, undef, undef, undef, undef, undef, undef, undef, undef, undef, undef, undef, undef, undef, undef, undef, undef, undef, undef, undef, undef, undef, undef, undef, undef, undef, undef, undef, undef, undef, undef, undef, undef, undef, undef, undef, undef, undef, undef, undef, undef, undef, undef, undef, undef, undef, undef, undef, undef, undef, undef, undef, undef, undef, undef, undef, undef, undef, undef, undef, undef, undef, undef, undef, undef, undef, undef, undef, undef, undef, undef, undef, undef, undef, undef, undef, undef, undef, undef, undef], []⟩ #[true, false, false, false, false, false, false, false, false, false, false, false, false, false, false, false, false, false, false, false, false, false, false, false, false, false, false, false, false, false, false, false, false, false, false, false, false, false, false, false, false, false, false, false, false, false, false, false, false, false, false, false, false, false, false, false, false, false, false, false, false, false, false, false, false, false, false, false, false, false, false, false, false, false, false, false] ?_
  refine wpAnyH_ready (rs := [1]) (by kernel_rfl) (by simp) ?_
  refine AllReadyH.cons rfl (fun K hK => ?_) AllReadyH.nil
  go_simp
  refine (hO _).mono ?_
  rintro e wn ⟨rfl, hbn⟩
  replace hB := below_seq hB hbn
  clear hbn
  go_wp2_with fail
  refine hK.out _ _ (HF.out _ hB) (fun hHeld => ?_)
  clear hK K
  refine tkB 2 (.bool false) [(8, .bool true)] rfl (by rintro ρ ⟨e8, ec⟩ w hSw; obtain ⟨s0, s1, s2, s3, s4, s5, s6, s7, s8, s9, s10, s11, s12, s13, s14⟩ := hSw; go_simp) hHeld ?_
  refine tkB 3 (.bool false) [(9, .bool false)] rfl (by rintro ρ ⟨e9, ec⟩ w hSw; obtain ⟨s0, s1, s2, s3, s4, s5, s6, s7, s8, s9, s10, s11, s12, s13, s14⟩ := hSw; go_simp) hHeld ?_
  refine tkB 4 (.pointer (some ⟨w.heap.size, 1, none⟩)) [(1, .pointer (some ⟨w.heap.size, 0, none⟩))] rfl (by rintro ρ ⟨e1, ec⟩ w hSw; obtain ⟨s0, s1, s2, s3, s4, s5, s6, s7, s8, s9, s10, s11, s12, s13, s14⟩ := hSw; go_simp) hHeld ?_
  refine tkB 5 (.int .i64 s) [(11, .pointer (some ⟨w.heap.size, 1, none⟩))] rfl (by rintro ρ ⟨e11, ec⟩ w hSw; obtain ⟨s0, s1, s2, s3, s4, s5, s6, s7, s8, s9, s10, s11, s12, s13, s14⟩ := hSw; go_simp) hHeld ?_
  refine tkB 6 (.bool false) [(12, .int .i64 s)] rfl (by rintro ρ ⟨e12, ec⟩ w hSw; obtain ⟨s0, s1, s2, s3, s4, s5, s6, s7, s8, s9, s10, s11, s12, s13, s14⟩ := hSw; have k0 := ec (Value.int IntKind.i64 1); go_simp) hHeld ?_
  refine tkB 7 (.bool false) [(10, .bool false), (13, .bool false)] rfl (by rintro ρ ⟨e10, e13, ec⟩ w hSw; obtain ⟨s0, s1, s2, s3, s4, s5, s6, s7, s8, s9, s10, s11, s12, s13, s14⟩ := hSw; have k0 := ec (Value.bool true); go_simp) hHeld ?_
  refine tkB 8 (.bool false) [(14, .bool false)] rfl (by rintro ρ ⟨e14, ec⟩ w hSw; obtain ⟨s0, s1, s2, s3, s4, s5, s6, s7, s8, s9, s10, s11, s12, s13, s14⟩ := hSw; go_simp) hHeld ?_
  refine tkB 9 (.pointer (some ⟨w.heap.size, 1, none⟩)) [(1, .pointer (some ⟨w.heap.size, 0, none⟩))] rfl (by rintro ρ ⟨e1, ec⟩ w hSw; obtain ⟨s0, s1, s2, s3, s4, s5, s6, s7, s8, s9, s10, s11, s12, s13, s14⟩ := hSw; go_simp) hHeld ?_
  refine tkB 10 (.int .i64 s) [(16, .pointer (some ⟨w.heap.size, 1, none⟩))] rfl (by rintro ρ ⟨e16, ec⟩ w hSw; obtain ⟨s0, s1, s2, s3, s4, s5, s6, s7, s8, s9, s10, s11, s12, s13, s14⟩ := hSw; go_simp) hHeld ?_
  refine tkB 11 (.bool false) [(17, .int .i64 s)] rfl (by rintro ρ ⟨e17, ec⟩ w hSw; obtain ⟨s0, s1, s2, s3, s4, s5, s6, s7, s8, s9, s10, s11, s12, s13, s14⟩ := hSw; have k0 := ec (Value.int IntKind.i64 1000000000000); go_simp) hHeld ?_
  refine tkB 12 (.bool false) [(15, .bool false), (18, .bool false)] rfl (by rintro ρ ⟨e15, e18, ec⟩ w hSw; obtain ⟨s0, s1, s2, s3, s4, s5, s6, s7, s8, s9, s10, s11, s12, s13, s14⟩ := hSw; have k0 := ec (Value.bool true); go_simp) hHeld ?_
  refine tkB 13 (.bool false) [(19, .bool false)] rfl (by rintro ρ ⟨e19, ec⟩ w hSw; obtain ⟨s0, s1, s2, s3, s4, s5, s6, s7, s8, s9, s10, s11, s12, s13, s14⟩ := hSw; go_simp) hHeld ?_
  refine tkB 14 (.pointer (some ⟨w.heap.size, 3, none⟩)) [(1, .pointer (some ⟨w.heap.size, 0, none⟩))] rfl (by rintro ρ ⟨e1, ec⟩ w hSw; obtain ⟨s0, s1, s2, s3, s4, s5, s6, s7, s8, s9, s10, s11, s12, s13, s14⟩ := hSw; go_simp) hHeld ?_
  refine tkB 15 (.agg #[.slice (some ⟨g, off, none⟩) 16 cap]) [(21, .pointer (some ⟨w.heap.size, 3, none⟩))] rfl (by rintro ρ ⟨e21, ec⟩ w hSw; obtain ⟨s0, s1, s2, s3, s4, s5, s6, s7, s8, s9, s10, s11, s12, s13, s14⟩ := hSw; go_simp) hHeld ?_
  refine actH ⟨#[.agg #[.int .i64 ((j : Int)), .int .i64 s, .int .i64 t, .slice (some ⟨g, off, none⟩) 16 cap, .int .i64 k, .int .i64 o, .int .i64 n, .int .i64 u, .int .i64 pt, .int .i64 pa, .string ky, .string tx], .pointer (some ⟨w.heap.size, 0, none⟩), .bool false, .pointer (some ⟨w1.heap.size, 0, none⟩), undef, .agg #[.int .i64 ((j : Int)), .int .i64 s, .int .i64 t, .slice (some ⟨g, off, none⟩) 16 cap, .int .i64 k, .int .i64 o, .int .i64 n, .int .i64 u, .int .i64 pt, .int .i64 pa, .string ky, .string tx], .agg #[.int .i64 t, .int .i64 ((j : Int))], .agg #[.int .i64 t, .int .i64 ((j : Int))], .bool true, .bool false, .bool false, .pointer (some ⟨w.heap.size, 1, none⟩), .int .i64 s, .bool false, .bool false, .bool false, .pointer (some ⟨w.heap.size, 1, none⟩), .int .i64 s, .bool false, .bool false, .bool false, .pointer (some ⟨w.heap.size, 3, none⟩), .agg #[.slice (some ⟨g, off, none⟩) 16 cap], undef, undef, undef, undef, undef, undef, undef, undef, undef, undef, undef, undef, undef, undef, undef, undef, undef, undef, undef, undef, undef, undef, undef, undef, undef, undef, undef, undef, undef, undef, undef, undef, undef, undef, undef, undef, undef, undef, undef, undef, undef, undef, undef, undef, undef, undef, undef, undef, undef, undef, undef, undef, undef, undef, undef, undef, undef, undef, undef, undef, undef, undef, undef, undef, undef, undef, undef, undef, undef, undef, undef, undef, undef, undef, undef, undef, undef, undef, undef, undef, undef, undef, undef, undef, undef, undef, undef, undef, undef, undef, undef, undef, undef, undef, undef, undef, undef, undef, undef, undef, undef, undef, undef, undef, undef, undef, undef, undef, undef, undef, undef, undef, undef, undef, undef, undef, undef, undef, undef, undef, undef, undef, undef, undef, undef, undef, undef], []⟩ #[true, true, true, true, true, true, true, true, true, true, true, true, true, true, true, true, false, false, false, false, false, false, false, false, false, false, false, false, false, false, false, false, false, false, false, false, false, false, false, false, false, false, false, false, false, false, false, false, false, false, false, false, false, false, false, false, false, false, false, false, false, false, false, false, false, false, false, false, false, false, false, false, false, false, false, false] ?_
  refine wpAnyH_ready (rs := [16]) (by kernel_rfl) (by simp) ?_
  refine AllReadyH.cons rfl (fun K hK => ?_) AllReadyH.nil
  go_simp
  refine (hV _ (below_seq (below_seq (below_alloc _ _) hb1) (below_seq (below_alloc _ _) hB))).mono ?_
  rintro e wn ⟨rfl, hbn⟩
  replace hB := below_seq hB hbn
  clear hbn
  go_wp2_with fail
  refine hK.out _ _ (HF.out _ hB) (fun hHeld => ?_)
  clear hK K
  refine tkB 17 (.bool false) [(23, .bool true)] rfl (by rintro ρ ⟨e23, ec⟩ w hSw; obtain ⟨s0, s1, s2, s3, s4, s5, s6, s7, s8, s9, s10, s11, s12, s13, s14⟩ := hSw; go_simp) hHeld ?_
  refine tkB 18 (.bool false) [(20, .bool false), (24, .bool false)] rfl (by rintro ρ ⟨e20, e24, ec⟩ w hSw; obtain ⟨s0, s1, s2, s3, s4, s5, s6, s7, s8, s9, s10, s11, s12, s13, s14⟩ := hSw; have k0 := ec (Value.bool true); go_simp) hHeld ?_
  refine tkB 19 (.bool false) [(25, .bool false)] rfl (by rintro ρ ⟨e25, ec⟩ w hSw; obtain ⟨s0, s1, s2, s3, s4, s5, s6, s7, s8, s9, s10, s11, s12, s13, s14⟩ := hSw; go_simp) hHeld ?_
  refine tkB 20 (.pointer (some ⟨w.heap.size, 3, none⟩)) [(1, .pointer (some ⟨w.heap.size, 0, none⟩))] rfl (by rintro ρ ⟨e1, ec⟩ w hSw; obtain ⟨s0, s1, s2, s3, s4, s5, s6, s7, s8, s9, s10, s11, s12, s13, s14⟩ := hSw; go_simp) hHeld ?_
  refine tkB 21 (.pointer (some ⟨w.heap.size, 3, none⟩)) [(27, .pointer (some ⟨w.heap.size, 3, none⟩))] rfl (by rintro ρ ⟨e27, ec⟩ w hSw; obtain ⟨s0, s1, s2, s3, s4, s5, s6, s7, s8, s9, s10, s11, s12, s13, s14⟩ := hSw; go_simp) hHeld ?_
  refine tkB 22 (.slice (some ⟨g, off, none⟩) 16 cap) [(28, .pointer (some ⟨w.heap.size, 3, none⟩))] rfl (by rintro ρ ⟨e28, ec⟩ w hSw; obtain ⟨s0, s1, s2, s3, s4, s5, s6, s7, s8, s9, s10, s11, s12, s13, s14⟩ := hSw; go_simp) hHeld ?_
  refine tkB 23 (.pointer (some ⟨w.heap.size, 0, none⟩)) [(1, .pointer (some ⟨w.heap.size, 0, none⟩))] rfl (by rintro ρ ⟨e1, ec⟩ w hSw; obtain ⟨s0, s1, s2, s3, s4, s5, s6, s7, s8, s9, s10, s11, s12, s13, s14⟩ := hSw; go_simp) hHeld ?_
  refine tkB 24 (.int .i64 ((j : Int))) [(30, .pointer (some ⟨w.heap.size, 0, none⟩))] rfl (by rintro ρ ⟨e30, ec⟩ w hSw; obtain ⟨s0, s1, s2, s3, s4, s5, s6, s7, s8, s9, s10, s11, s12, s13, s14⟩ := hSw; go_simp) hHeld ?_
  refine tkB 25 (.pointer (some ⟨g, off + j, none⟩)) [(29, .slice (some ⟨g, off, none⟩) 16 cap), (31, .int .i64 ((j : Int)))] rfl (by rintro ρ ⟨e29, e31, ec⟩ w hSw; obtain ⟨s0, s1, s2, s3, s4, s5, s6, s7, s8, s9, s10, s11, s12, s13, s14⟩ := hSw; go_simp) hHeld ?_
  refine tkB 26 (.int .i64 dj) [(32, .pointer (some ⟨g, off + j, none⟩))] rfl (by rintro ρ ⟨e32, ec⟩ w hSw; obtain ⟨s0, s1, s2, s3, s4, s5, s6, s7, s8, s9, s10, s11, s12, s13, s14⟩ := hSw; go_simp) hHeld ?_
  refine tkB 27 (.pointer (some ⟨w.heap.size, 1, none⟩)) [(1, .pointer (some ⟨w.heap.size, 0, none⟩))] rfl (by rintro ρ ⟨e1, ec⟩ w hSw; obtain ⟨s0, s1, s2, s3, s4, s5, s6, s7, s8, s9, s10, s11, s12, s13, s14⟩ := hSw; go_simp) hHeld ?_
  refine tkB 28 (.int .i64 s) [(34, .pointer (some ⟨w.heap.size, 1, none⟩))] rfl (by rintro ρ ⟨e34, ec⟩ w hSw; obtain ⟨s0, s1, s2, s3, s4, s5, s6, s7, s8, s9, s10, s11, s12, s13, s14⟩ := hSw; go_simp) hHeld ?_
  refine tkB 29 (.int .i64 (s - 1)) [(35, .int .i64 s)] rfl (by rintro ρ ⟨e35, ec⟩ w hSw; obtain ⟨s0, s1, s2, s3, s4, s5, s6, s7, s8, s9, s10, s11, s12, s13, s14⟩ := hSw; have k0 := ec (Value.int IntKind.i64 1); go_simp) hHeld ?_
  by_cases tq2 : ¬ dj = s - 1
  · have HE : Hid (r = false) := HT2.out (by omega)
    refine tkB 30 (.bool true) [(33, .int .i64 dj), (36, .int .i64 (s - 1))] rfl (by rintro ρ ⟨e33, e36, ec⟩ w hSw; obtain ⟨s0, s1, s2, s3, s4, s5, s6, s7, s8, s9, s10, s11, s12, s13, s14⟩ := hSw; go_simp) hHeld ?_
    refine tkB 31 (.bool true) [(26, .bool false), (37, .bool true)] rfl (by rintro ρ ⟨e26, e37, ec⟩ w hSw; obtain ⟨s0, s1, s2, s3, s4, s5, s6, s7, s8, s9, s10, s11, s12, s13, s14⟩ := hSw; have k0 := ec (Value.bool true); go_simp) hHeld ?_
    refine tkB 32 (.bool true) [(38, .bool true)] rfl (by rintro ρ ⟨e38, ec⟩ w hSw; obtain ⟨s0, s1, s2, s3, s4, s5, s6, s7, s8, s9, s10, s11, s12, s13, s14⟩ := hSw; go_simp) hHeld ?_
    refine tkN 33 rfl hHeld ?_
    refine tkN 34 rfl hHeld ?_
    refine tkN 35 rfl hHeld ?_
    refine tkB 36 (.bool true) [(39, .bool true), (42, undef)] rfl (by rintro ρ ⟨e39, e42, ec⟩ w hSw; obtain ⟨s0, s1, s2, s3, s4, s5, s6, s7, s8, s9, s10, s11, s12, s13, s14⟩ := hSw; have k0 := ec (Value.bool true); go_simp) hHeld ?_
    refine tkB 37 (.bool true) [(43, .bool true)] rfl (by rintro ρ ⟨e43, ec⟩ w hSw; obtain ⟨s0, s1, s2, s3, s4, s5, s6, s7, s8, s9, s10, s11, s12, s13, s14⟩ := hSw; go_simp) hHeld ?_
    refine tkN 38 rfl hHeld ?_
    refine tkN 39 rfl hHeld ?_
    refine tkN 40 rfl hHeld ?_
    refine tkB 41 (.bool true) [(44, .bool true), (47, undef)] rfl (by rintro ρ ⟨e44, e47, ec⟩ w hSw; obtain ⟨s0, s1, s2, s3, s4, s5, s6, s7, s8, s9, s10, s11, s12, s13, s14⟩ := hSw; have k0 := ec (Value.bool true); go_simp) hHeld ?_
    refine tkB 42 (.bool true) [(48, .bool true)] rfl (by rintro ρ ⟨e48, ec⟩ w hSw; obtain ⟨s0, s1, s2, s3, s4, s5, s6, s7, s8, s9, s10, s11, s12, s13, s14⟩ := hSw; go_simp) hHeld ?_
    refine tkN 43 rfl hHeld ?_
    refine tkN 44 rfl hHeld ?_
    refine tkN 45 rfl hHeld ?_
    refine tkB 46 (.bool true) [(49, .bool true), (52, undef)] rfl (by rintro ρ ⟨e49, e52, ec⟩ w hSw; obtain ⟨s0, s1, s2, s3, s4, s5, s6, s7, s8, s9, s10, s11, s12, s13, s14⟩ := hSw; have k0 := ec (Value.bool true); go_simp) hHeld ?_
    refine tkB 47 (.bool true) [(53, .bool true)] rfl (by rintro ρ ⟨e53, ec⟩ w hSw; obtain ⟨s0, s1, s2, s3, s4, s5, s6, s7, s8, s9, s10, s11, s12, s13, s14⟩ := hSw; go_simp) hHeld ?_
    refine tkN 48 rfl hHeld ?_
    refine tkN 49 rfl hHeld ?_
    refine tkN 50 rfl hHeld ?_
    refine tkB 51 (.bool true) [(54, .bool true), (57, undef)] rfl (by rintro ρ ⟨e54, e57, ec⟩ w hSw; obtain ⟨s0, s1, s2, s3, s4, s5, s6, s7, s8, s9, s10, s11, s12, s13, s14⟩ := hSw; have k0 := ec (Value.bool true); go_simp) hHeld ?_
    refine tkB 52 (.bool true) [(58, .bool true)] rfl (by rintro ρ ⟨e58, ec⟩ w hSw; obtain ⟨s0, s1, s2, s3, s4, s5, s6, s7, s8, s9, s10, s11, s12, s13, s14⟩ := hSw; go_simp) hHeld ?_
    refine tkN 53 rfl hHeld ?_
    refine tkN 54 rfl hHeld ?_
    refine tkN 55 rfl hHeld ?_
    refine tkB 56 (.bool true) [(59, .bool true), (62, undef)] rfl (by rintro ρ ⟨e59, e62, ec⟩ w hSw; obtain ⟨s0, s1, s2, s3, s4, s5, s6, s7, s8, s9, s10, s11, s12, s13, s14⟩ := hSw; have k0 := ec (Value.bool true); go_simp) hHeld ?_
    refine tkB 57 (.bool true) [(63, .bool true)] rfl (by rintro ρ ⟨e63, ec⟩ w hSw; obtain ⟨s0, s1, s2, s3, s4, s5, s6, s7, s8, s9, s10, s11, s12, s13, s14⟩ := hSw; go_simp) hHeld ?_
    refine tkN 58 rfl hHeld ?_
    refine tkN 59 rfl hHeld ?_
    refine tkN 60 rfl hHeld ?_
    refine tkN 61 rfl hHeld ?_
    refine tkN 62 rfl hHeld ?_
    refine tkB 63 (.bool true) [(64, .bool true), (69, undef)] rfl (by rintro ρ ⟨e64, e69, ec⟩ w hSw; obtain ⟨s0, s1, s2, s3, s4, s5, s6, s7, s8, s9, s10, s11, s12, s13, s14⟩ := hSw; have k0 := ec (Value.bool true); go_simp) hHeld ?_
    refine tkB 64 (.bool true) [(70, .bool true)] rfl (by rintro ρ ⟨e70, ec⟩ w hSw; obtain ⟨s0, s1, s2, s3, s4, s5, s6, s7, s8, s9, s10, s11, s12, s13, s14⟩ := hSw; go_simp) hHeld ?_
    refine tkN 65 rfl hHeld ?_
    refine tkN 66 rfl hHeld ?_
    refine tkN 67 rfl hHeld ?_
    refine tkN 68 rfl hHeld ?_
    refine tkB 69 (.bool true) [(71, .bool true), (75, undef)] rfl (by rintro ρ ⟨e71, e75, ec⟩ w hSw; obtain ⟨s0, s1, s2, s3, s4, s5, s6, s7, s8, s9, s10, s11, s12, s13, s14⟩ := hSw; have k0 := ec (Value.bool true); go_simp) hHeld ?_
    refine tkB 70 (.bool true) [(76, .bool true)] rfl (by rintro ρ ⟨e76, ec⟩ w hSw; obtain ⟨s0, s1, s2, s3, s4, s5, s6, s7, s8, s9, s10, s11, s12, s13, s14⟩ := hSw; go_simp) hHeld ?_
    refine tkN 71 rfl hHeld ?_
    refine tkN 72 rfl hHeld ?_
    refine tkN 73 rfl hHeld ?_
    refine tkN 74 rfl hHeld ?_
    refine tkB 75 (.bool true) [(77, .bool true), (81, undef)] rfl (by rintro ρ ⟨e77, e81, ec⟩ w hSw; obtain ⟨s0, s1, s2, s3, s4, s5, s6, s7, s8, s9, s10, s11, s12, s13, s14⟩ := hSw; have k0 := ec (Value.bool true); go_simp) hHeld ?_
    refine wpAnyH_done (by kernel_rfl) ?_ _
    refine actN ⟨#[.agg #[.int .i64 ((j : Int)), .int .i64 s, .int .i64 t, .slice (some ⟨g, off, none⟩) 16 cap, .int .i64 k, .int .i64 o, .int .i64 n, .int .i64 u, .int .i64 pt, .int .i64 pa, .string ky, .string tx], .pointer (some ⟨w.heap.size, 0, none⟩), .bool false, .pointer (some ⟨w1.heap.size, 0, none⟩), undef, .agg #[.int .i64 ((j : Int)), .int .i64 s, .int .i64 t, .slice (some ⟨g, off, none⟩) 16 cap, .int .i64 k, .int .i64 o, .int .i64 n, .int .i64 u, .int .i64 pt, .int .i64 pa, .string ky, .string tx], .agg #[.int .i64 t, .int .i64 ((j : Int))], .agg #[.int .i64 t, .int .i64 ((j : Int))], .bool true, .bool false, .bool false, .pointer (some ⟨w.heap.size, 1, none⟩), .int .i64 s, .bool false, .bool false, .bool false, .pointer (some ⟨w.heap.size, 1, none⟩), .int .i64 s, .bool false, .bool false, .bool false, .pointer (some ⟨w.heap.size, 3, none⟩), .agg #[.slice (some ⟨g, off, none⟩) 16 cap], .bool true, .bool false, .bool false, .bool false, .pointer (some ⟨w.heap.size, 3, none⟩), .pointer (some ⟨w.heap.size, 3, none⟩), .slice (some ⟨g, off, none⟩) 16 cap, .pointer (some ⟨w.heap.size, 0, none⟩), .int .i64 ((j : Int)), .pointer (some ⟨g, off + j, none⟩), .int .i64 dj, .pointer (some ⟨w.heap.size, 1, none⟩), .int .i64 s, .int .i64 (s - 1), .bool true, .bool true, .bool true, undef, undef, undef, .bool true, .bool true, undef, undef, undef, .bool true, .bool true, undef, undef, undef, .bool true, .bool true, undef, undef, undef, .bool true, .bool true, undef, undef, undef, .bool true, .bool true, undef, undef, undef, undef, undef, .bool true, .bool true, undef, undef, undef, undef, .bool true, .bool true, undef, undef, undef, undef, .bool true, undef, undef, undef, undef, undef, undef, undef, undef, undef, undef, undef, undef, undef, undef, undef, undef, undef, undef, undef, undef, undef, undef, undef, undef, undef, undef, undef, undef, undef, undef, undef, undef, undef, undef, undef, undef, undef, undef, undef, undef, undef, undef, undef, undef, undef, undef, undef, undef, undef, undef, undef, undef, undef, undef, undef, undef, undef, undef, undef, undef, undef, undef, undef, undef, undef, undef, undef], []⟩ ?_
    go_wp2_with fail
    go_ret
    exact ⟨by rw [HE.out]; rfl, below_seq (below_seq (below_alloc _ _) hb1) (below_seq (below_alloc _ _) hB)⟩
  · have tq2' : dj = s - 1 := by omega
    refine tkB 30 (.bool false) [(33, .int .i64 dj), (36, .int .i64 (s - 1))] rfl (by rintro ρ ⟨e33, e36, ec⟩ w hSw; obtain ⟨s0, s1, s2, s3, s4, s5, s6, s7, s8, s9, s10, s11, s12, s13, s14⟩ := hSw; go_simp) hHeld ?_
    refine tkB 31 (.bool false) [(26, .bool false), (37, .bool false)] rfl (by rintro ρ ⟨e26, e37, ec⟩ w hSw; obtain ⟨s0, s1, s2, s3, s4, s5, s6, s7, s8, s9, s10, s11, s12, s13, s14⟩ := hSw; have k0 := ec (Value.bool true); go_simp) hHeld ?_
    refine tkB 32 (.bool false) [(38, .bool false)] rfl (by rintro ρ ⟨e38, ec⟩ w hSw; obtain ⟨s0, s1, s2, s3, s4, s5, s6, s7, s8, s9, s10, s11, s12, s13, s14⟩ := hSw; go_simp) hHeld ?_
    refine tkB 33 (.pointer (some ⟨w.heap.size, 5, none⟩)) [(1, .pointer (some ⟨w.heap.size, 0, none⟩))] rfl (by rintro ρ ⟨e1, ec⟩ w hSw; obtain ⟨s0, s1, s2, s3, s4, s5, s6, s7, s8, s9, s10, s11, s12, s13, s14⟩ := hSw; go_simp) hHeld ?_
    refine tkB 34 (.int .i64 o) [(40, .pointer (some ⟨w.heap.size, 5, none⟩))] rfl (by rintro ρ ⟨e40, ec⟩ w hSw; obtain ⟨s0, s1, s2, s3, s4, s5, s6, s7, s8, s9, s10, s11, s12, s13, s14⟩ := hSw; go_simp) hHeld ?_
    by_cases tq3 : o < 1
    · have HE : Hid (r = false) := HT3.out (by omega)
      refine tkB 35 (.bool true) [(41, .int .i64 o)] rfl (by rintro ρ ⟨e41, ec⟩ w hSw; obtain ⟨s0, s1, s2, s3, s4, s5, s6, s7, s8, s9, s10, s11, s12, s13, s14⟩ := hSw; have k0 := ec (Value.int IntKind.i64 1); go_simp) hHeld ?_
      refine tkB 36 (.bool true) [(39, .bool false), (42, .bool true)] rfl (by rintro ρ ⟨e39, e42, ec⟩ w hSw; obtain ⟨s0, s1, s2, s3, s4, s5, s6, s7, s8, s9, s10, s11, s12, s13, s14⟩ := hSw; have k0 := ec (Value.bool true); go_simp) hHeld ?_
      refine tkB 37 (.bool true) [(43, .bool true)] rfl (by rintro ρ ⟨e43, ec⟩ w hSw; obtain ⟨s0, s1, s2, s3, s4, s5, s6, s7, s8, s9, s10, s11, s12, s13, s14⟩ := hSw; go_simp) hHeld ?_
      refine tkN 38 rfl hHeld ?_
      refine tkN 39 rfl hHeld ?_
      refine tkN 40 rfl hHeld ?_
      refine tkB 41 (.bool true) [(44, .bool true), (47, undef)] rfl (by rintro ρ ⟨e44, e47, ec⟩ w hSw; obtain ⟨s0, s1, s2, s3, s4, s5, s6, s7, s8, s9, s10, s11, s12, s13, s14⟩ := hSw; have k0 := ec (Value.bool true); go_simp) hHeld ?_
      refine tkB 42 (.bool true) [(48, .bool true)] rfl (by rintro ρ ⟨e48, ec⟩ w hSw; obtain ⟨s0, s1, s2, s3, s4, s5, s6, s7, s8, s9, s10, s11, s12, s13, s14⟩ := hSw; go_simp) hHeld ?_
      refine tkN 43 rfl hHeld ?_
      refine tkN 44 rfl hHeld ?_
      refine tkN 45 rfl hHeld ?_
      refine tkB 46 (.bool true) [(49, .bool true), (52, undef)] rfl (by rintro ρ ⟨e49, e52, ec⟩ w hSw; obtain ⟨s0, s1, s2, s3, s4, s5, s6, s7, s8, s9, s10, s11, s12, s13, s14⟩ := hSw; have k0 := ec (Value.bool true); go_simp) hHeld ?_
      refine tkB 47 (.bool true) [(53, .bool true)] rfl (by rintro ρ ⟨e53, ec⟩ w hSw; obtain ⟨s0, s1, s2, s3, s4, s5, s6, s7, s8, s9, s10, s11, s12, s13, s14⟩ := hSw; go_simp) hHeld ?_
      refine tkN 48 rfl hHeld ?_
      refine tkN 49 rfl hHeld ?_
      refine tkN 50 rfl hHeld ?_
      refine tkB 51 (.bool true) [(54, .bool true), (57, undef)] rfl (by rintro ρ ⟨e54, e57, ec⟩ w hSw; obtain ⟨s0, s1, s2, s3, s4, s5, s6, s7, s8, s9, s10, s11, s12, s13, s14⟩ := hSw; have k0 := ec (Value.bool true); go_simp) hHeld ?_
      refine tkB 52 (.bool true) [(58, .bool true)] rfl (by rintro ρ ⟨e58, ec⟩ w hSw; obtain ⟨s0, s1, s2, s3, s4, s5, s6, s7, s8, s9, s10, s11, s12, s13, s14⟩ := hSw; go_simp) hHeld ?_
      refine tkN 53 rfl hHeld ?_
      refine tkN 54 rfl hHeld ?_
      refine tkN 55 rfl hHeld ?_
      refine tkB 56 (.bool true) [(59, .bool true), (62, undef)] rfl (by rintro ρ ⟨e59, e62, ec⟩ w hSw; obtain ⟨s0, s1, s2, s3, s4, s5, s6, s7, s8, s9, s10, s11, s12, s13, s14⟩ := hSw; have k0 := ec (Value.bool true); go_simp) hHeld ?_
      refine tkB 57 (.bool true) [(63, .bool true)] rfl (by rintro ρ ⟨e63, ec⟩ w hSw; obtain ⟨s0, s1, s2, s3, s4, s5, s6, s7, s8, s9, s10, s11, s12, s13, s14⟩ := hSw; go_simp) hHeld ?_
      refine tkN 58 rfl hHeld ?_
      refine tkN 59 rfl hHeld ?_
      refine tkN 60 rfl hHeld ?_
      refine tkN 61 rfl hHeld ?_
      refine tkN 62 rfl hHeld ?_
      refine tkB 63 (.bool true) [(64, .bool true), (69, undef)] rfl (by rintro ρ ⟨e64, e69, ec⟩ w hSw; obtain ⟨s0, s1, s2, s3, s4, s5, s6, s7, s8, s9, s10, s11, s12, s13, s14⟩ := hSw; have k0 := ec (Value.bool true); go_simp) hHeld ?_
      refine tkB 64 (.bool true) [(70, .bool true)] rfl (by rintro ρ ⟨e70, ec⟩ w hSw; obtain ⟨s0, s1, s2, s3, s4, s5, s6, s7, s8, s9, s10, s11, s12, s13, s14⟩ := hSw; go_simp) hHeld ?_
      refine tkN 65 rfl hHeld ?_
      refine tkN 66 rfl hHeld ?_
      refine tkN 67 rfl hHeld ?_
      refine tkN 68 rfl hHeld ?_
      refine tkB 69 (.bool true) [(71, .bool true), (75, undef)] rfl (by rintro ρ ⟨e71, e75, ec⟩ w hSw; obtain ⟨s0, s1, s2, s3, s4, s5, s6, s7, s8, s9, s10, s11, s12, s13, s14⟩ := hSw; have k0 := ec (Value.bool true); go_simp) hHeld ?_
      refine tkB 70 (.bool true) [(76, .bool true)] rfl (by rintro ρ ⟨e76, ec⟩ w hSw; obtain ⟨s0, s1, s2, s3, s4, s5, s6, s7, s8, s9, s10, s11, s12, s13, s14⟩ := hSw; go_simp) hHeld ?_
      refine tkN 71 rfl hHeld ?_
      refine tkN 72 rfl hHeld ?_
      refine tkN 73 rfl hHeld ?_
      refine tkN 74 rfl hHeld ?_
      refine tkB 75 (.bool true) [(77, .bool true), (81, undef)] rfl (by rintro ρ ⟨e77, e81, ec⟩ w hSw; obtain ⟨s0, s1, s2, s3, s4, s5, s6, s7, s8, s9, s10, s11, s12, s13, s14⟩ := hSw; have k0 := ec (Value.bool true); go_simp) hHeld ?_
      refine wpAnyH_done (by kernel_rfl) ?_ _
      refine actN ⟨#[.agg #[.int .i64 ((j : Int)), .int .i64 s, .int .i64 t, .slice (some ⟨g, off, none⟩) 16 cap, .int .i64 k, .int .i64 o, .int .i64 n, .int .i64 u, .int .i64 pt, .int .i64 pa, .string ky, .string tx], .pointer (some ⟨w.heap.size, 0, none⟩), .bool false, .pointer (some ⟨w1.heap.size, 0, none⟩), undef, .agg #[.int .i64 ((j : Int)), .int .i64 s, .int .i64 t, .slice (some ⟨g, off, none⟩) 16 cap, .int .i64 k, .int .i64 o, .int .i64 n, .int .i64 u, .int .i64 pt, .int .i64 pa, .string ky, .string tx], .agg #[.int .i64 t, .int .i64 ((j : Int))], .agg #[.int .i64 t, .int .i64 ((j : Int))], .bool true, .bool false, .bool false, .pointer (some ⟨w.heap.size, 1, none⟩), .int .i64 s, .bool false, .bool false, .bool false, .pointer (some ⟨w.heap.size, 1, none⟩), .int .i64 s, .bool false, .bool false, .bool false, .pointer (some ⟨w.heap.size, 3, none⟩), .agg #[.slice (some ⟨g, off, none⟩) 16 cap], .bool true, .bool false, .bool false, .bool false, .pointer (some ⟨w.heap.size, 3, none⟩), .pointer (some ⟨w.heap.size, 3, none⟩), .slice (some ⟨g, off, none⟩) 16 cap, .pointer (some ⟨w.heap.size, 0, none⟩), .int .i64 ((j : Int)), .pointer (some ⟨g, off + j, none⟩), .int .i64 dj, .pointer (some ⟨w.heap.size, 1, none⟩), .int .i64 s, .int .i64 (s - 1), .bool false, .bool false, .bool false, .pointer (some ⟨w.heap.size, 5, none⟩), .int .i64 o, .bool true, .bool true, .bool true, undef, undef, undef, .bool true, .bool true, undef, undef, undef, .bool true, .bool true, undef, undef, undef, .bool true, .bool true, undef, undef, undef, .bool true, .bool true, undef, undef, undef, undef, undef, .bool true, .bool true, undef, undef, undef, undef, .bool true, .bool true, undef, undef, undef, undef, .bool true, undef, undef, undef, undef, undef, undef, undef, undef, undef, undef, undef, undef, undef, undef, undef, undef, undef, undef, undef, undef, undef, undef, undef, undef, undef, undef, undef, undef, undef, undef, undef, undef, undef, undef, undef, undef, undef, undef, undef, undef, undef, undef, undef, undef, undef, undef, undef, undef, undef, undef, undef, undef, undef, undef, undef, undef, undef, undef, undef, undef, undef, undef, undef, undef, undef, undef, undef], []⟩ ?_
      go_wp2_with fail
      go_ret
      exact ⟨by rw [HE.out]; rfl, below_seq (below_seq (below_alloc _ _) hb1) (below_seq (below_alloc _ _) hB)⟩
    · skip
      refine tkB 35 (.bool false) [(41, .int .i64 o)] rfl (by rintro ρ ⟨e41, ec⟩ w hSw; obtain ⟨s0, s1, s2, s3, s4, s5, s6, s7, s8, s9, s10, s11, s12, s13, s14⟩ := hSw; have k0 := ec (Value.int IntKind.i64 1); go_simp) hHeld ?_
      refine tkB 36 (.bool false) [(39, .bool false), (42, .bool false)] rfl (by rintro ρ ⟨e39, e42, ec⟩ w hSw; obtain ⟨s0, s1, s2, s3, s4, s5, s6, s7, s8, s9, s10, s11, s12, s13, s14⟩ := hSw; have k0 := ec (Value.bool true); go_simp) hHeld ?_
      refine tkB 37 (.bool false) [(43, .bool false)] rfl (by rintro ρ ⟨e43, ec⟩ w hSw; obtain ⟨s0, s1, s2, s3, s4, s5, s6, s7, s8, s9, s10, s11, s12, s13, s14⟩ := hSw; go_simp) hHeld ?_
      refine tkB 38 (.pointer (some ⟨w.heap.size, 5, none⟩)) [(1, .pointer (some ⟨w.heap.size, 0, none⟩))] rfl (by rintro ρ ⟨e1, ec⟩ w hSw; obtain ⟨s0, s1, s2, s3, s4, s5, s6, s7, s8, s9, s10, s11, s12, s13, s14⟩ := hSw; go_simp) hHeld ?_
      refine tkB 39 (.int .i64 o) [(45, .pointer (some ⟨w.heap.size, 5, none⟩))] rfl (by rintro ρ ⟨e45, ec⟩ w hSw; obtain ⟨s0, s1, s2, s3, s4, s5, s6, s7, s8, s9, s10, s11, s12, s13, s14⟩ := hSw; go_simp) hHeld ?_
      have tq4 := HBAD.out (by omega) (by omega)
      have HE : Hid (r = false) := HT4.out (by omega)
      · skip
        refine tkB 40 (.bool true) [(46, .int .i64 o)] rfl (by rintro ρ ⟨e46, ec⟩ w hSw; obtain ⟨s0, s1, s2, s3, s4, s5, s6, s7, s8, s9, s10, s11, s12, s13, s14⟩ := hSw; have k0 := ec (Value.int IntKind.i64 100); go_simp) hHeld ?_
        refine tkB 41 (.bool true) [(44, .bool false), (47, .bool true)] rfl (by rintro ρ ⟨e44, e47, ec⟩ w hSw; obtain ⟨s0, s1, s2, s3, s4, s5, s6, s7, s8, s9, s10, s11, s12, s13, s14⟩ := hSw; have k0 := ec (Value.bool true); go_simp) hHeld ?_
        refine tkB 42 (.bool true) [(48, .bool true)] rfl (by rintro ρ ⟨e48, ec⟩ w hSw; obtain ⟨s0, s1, s2, s3, s4, s5, s6, s7, s8, s9, s10, s11, s12, s13, s14⟩ := hSw; go_simp) hHeld ?_
        refine tkN 43 rfl hHeld ?_
        refine tkN 44 rfl hHeld ?_
        refine tkN 45 rfl hHeld ?_
        refine tkB 46 (.bool true) [(49, .bool true), (52, undef)] rfl (by rintro ρ ⟨e49, e52, ec⟩ w hSw; obtain ⟨s0, s1, s2, s3, s4, s5, s6, s7, s8, s9, s10, s11, s12, s13, s14⟩ := hSw; have k0 := ec (Value.bool true); go_simp) hHeld ?_
        refine tkB 47 (.bool true) [(53, .bool true)] rfl (by rintro ρ ⟨e53, ec⟩ w hSw; obtain ⟨s0, s1, s2, s3, s4, s5, s6, s7, s8, s9, s10, s11, s12, s13, s14⟩ := hSw; go_simp) hHeld ?_
        refine tkN 48 rfl hHeld ?_
        refine tkN 49 rfl hHeld ?_
        refine tkN 50 rfl hHeld ?_
        refine tkB 51 (.bool true) [(54, .bool true), (57, undef)] rfl (by rintro ρ ⟨e54, e57, ec⟩ w hSw; obtain ⟨s0, s1, s2, s3, s4, s5, s6, s7, s8, s9, s10, s11, s12, s13, s14⟩ := hSw; have k0 := ec (Value.bool true); go_simp) hHeld ?_
        refine tkB 52 (.bool true) [(58, .bool true)] rfl (by rintro ρ ⟨e58, ec⟩ w hSw; obtain ⟨s0, s1, s2, s3, s4, s5, s6, s7, s8, s9, s10, s11, s12, s13, s14⟩ := hSw; go_simp) hHeld ?_
        refine tkN 53 rfl hHeld ?_
        refine tkN 54 rfl hHeld ?_
        refine tkN 55 rfl hHeld ?_
        refine tkB 56 (.bool true) [(59, .bool true), (62, undef)] rfl (by rintro ρ ⟨e59, e62, ec⟩ w hSw; obtain ⟨s0, s1, s2, s3, s4, s5, s6, s7, s8, s9, s10, s11, s12, s13, s14⟩ := hSw; have k0 := ec (Value.bool true); go_simp) hHeld ?_
        refine tkB 57 (.bool true) [(63, .bool true)] rfl (by rintro ρ ⟨e63, ec⟩ w hSw; obtain ⟨s0, s1, s2, s3, s4, s5, s6, s7, s8, s9, s10, s11, s12, s13, s14⟩ := hSw; go_simp) hHeld ?_
        refine tkN 58 rfl hHeld ?_
        refine tkN 59 rfl hHeld ?_
        refine tkN 60 rfl hHeld ?_
        refine tkN 61 rfl hHeld ?_
        refine tkN 62 rfl hHeld ?_
        refine tkB 63 (.bool true) [(64, .bool true), (69, undef)] rfl (by rintro ρ ⟨e64, e69, ec⟩ w hSw; obtain ⟨s0, s1, s2, s3, s4, s5, s6, s7, s8, s9, s10, s11, s12, s13, s14⟩ := hSw; have k0 := ec (Value.bool true); go_simp) hHeld ?_
        refine tkB 64 (.bool true) [(70, .bool true)] rfl (by rintro ρ ⟨e70, ec⟩ w hSw; obtain ⟨s0, s1, s2, s3, s4, s5, s6, s7, s8, s9, s10, s11, s12, s13, s14⟩ := hSw; go_simp) hHeld ?_
        refine tkN 65 rfl hHeld ?_
        refine tkN 66 rfl hHeld ?_
        refine tkN 67 rfl hHeld ?_
        refine tkN 68 rfl hHeld ?_
        refine tkB 69 (.bool true) [(71, .bool true), (75, undef)] rfl (by rintro ρ ⟨e71, e75, ec⟩ w hSw; obtain ⟨s0, s1, s2, s3, s4, s5, s6, s7, s8, s9, s10, s11, s12, s13, s14⟩ := hSw; have k0 := ec (Value.bool true); go_simp) hHeld ?_
        refine tkB 70 (.bool true) [(76, .bool true)] rfl (by rintro ρ ⟨e76, ec⟩ w hSw; obtain ⟨s0, s1, s2, s3, s4, s5, s6, s7, s8, s9, s10, s11, s12, s13, s14⟩ := hSw; go_simp) hHeld ?_
        refine tkN 71 rfl hHeld ?_
        refine tkN 72 rfl hHeld ?_
        refine tkN 73 rfl hHeld ?_
        refine tkN 74 rfl hHeld ?_
        refine tkB 75 (.bool true) [(77, .bool true), (81, undef)] rfl (by rintro ρ ⟨e77, e81, ec⟩ w hSw; obtain ⟨s0, s1, s2, s3, s4, s5, s6, s7, s8, s9, s10, s11, s12, s13, s14⟩ := hSw; have k0 := ec (Value.bool true); go_simp) hHeld ?_
        refine wpAnyH_done (by kernel_rfl) ?_ _
        refine actN ⟨#[.agg #[.int .i64 ((j : Int)), .int .i64 s, .int .i64 t, .slice (some ⟨g, off, none⟩) 16 cap, .int .i64 k, .int .i64 o, .int .i64 n, .int .i64 u, .int .i64 pt, .int .i64 pa, .string ky, .string tx], .pointer (some ⟨w.heap.size, 0, none⟩), .bool false, .pointer (some ⟨w1.heap.size, 0, none⟩), undef, .agg #[.int .i64 ((j : Int)), .int .i64 s, .int .i64 t, .slice (some ⟨g, off, none⟩) 16 cap, .int .i64 k, .int .i64 o, .int .i64 n, .int .i64 u, .int .i64 pt, .int .i64 pa, .string ky, .string tx], .agg #[.int .i64 t, .int .i64 ((j : Int))], .agg #[.int .i64 t, .int .i64 ((j : Int))], .bool true, .bool false, .bool false, .pointer (some ⟨w.heap.size, 1, none⟩), .int .i64 s, .bool false, .bool false, .bool false, .pointer (some ⟨w.heap.size, 1, none⟩), .int .i64 s, .bool false, .bool false, .bool false, .pointer (some ⟨w.heap.size, 3, none⟩), .agg #[.slice (some ⟨g, off, none⟩) 16 cap], .bool true, .bool false, .bool false, .bool false, .pointer (some ⟨w.heap.size, 3, none⟩), .pointer (some ⟨w.heap.size, 3, none⟩), .slice (some ⟨g, off, none⟩) 16 cap, .pointer (some ⟨w.heap.size, 0, none⟩), .int .i64 ((j : Int)), .pointer (some ⟨g, off + j, none⟩), .int .i64 dj, .pointer (some ⟨w.heap.size, 1, none⟩), .int .i64 s, .int .i64 (s - 1), .bool false, .bool false, .bool false, .pointer (some ⟨w.heap.size, 5, none⟩), .int .i64 o, .bool false, .bool false, .bool false, .pointer (some ⟨w.heap.size, 5, none⟩), .int .i64 o, .bool true, .bool true, .bool true, undef, undef, undef, .bool true, .bool true, undef, undef, undef, .bool true, .bool true, undef, undef, undef, .bool true, .bool true, undef, undef, undef, undef, undef, .bool true, .bool true, undef, undef, undef, undef, .bool true, .bool true, undef, undef, undef, undef, .bool true, undef, undef, undef, undef, undef, undef, undef, undef, undef, undef, undef, undef, undef, undef, undef, undef, undef, undef, undef, undef, undef, undef, undef, undef, undef, undef, undef, undef, undef, undef, undef, undef, undef, undef, undef, undef, undef, undef, undef, undef, undef, undef, undef, undef, undef, undef, undef, undef, undef, undef, undef, undef, undef, undef, undef, undef, undef, undef, undef, undef, undef, undef, undef, undef, undef, undef, undef], []⟩ ?_
        go_wp2_with fail
        go_ret
        exact ⟨by rw [HE.out]; rfl, below_seq (below_seq (below_alloc _ _) hb1) (below_seq (below_alloc _ _) hB)⟩

end Go.Proofs.Ytjbjkamlgcnmaaa
