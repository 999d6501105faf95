/- The laws' own functions over operations: the copy of one. The laws' own functions over operations: the copy of a list of them. Logs, plain facts: what says the same is valid alike. The laws' own functions over operations: their size. -/
import Derived.Deep.CutRange
import Derived.Deep.MidRow
import Derived.Test.YtgmhfhjmepkchaaGreatQLedgerToLogCounts
import Derived.Test.YtgmhfhjmepkchaaGreatQLedClosedToLogOKImpl
namespace Go.Proofs.YtgmhfhjmepkchaaGreat
open Go.RowKit
set_option linter.unusedVariables false

theorem range12 {w : World} {b : Nat} {v0 v1 v2 v3 v4 v5 v6 v7 v8 v9 v10 v11 : Value} (h0 : w.cell? ⟨b, 0, none⟩ = some v0) (h1 : w.cell? ⟨b, 1, none⟩ = some v1) (h2 : w.cell? ⟨b, 2, none⟩ = some v2) (h3 : w.cell? ⟨b, 3, none⟩ = some v3) (h4 : w.cell? ⟨b, 4, none⟩ = some v4) (h5 : w.cell? ⟨b, 5, none⟩ = some v5) (h6 : w.cell? ⟨b, 6, none⟩ = some v6) (h7 : w.cell? ⟨b, 7, none⟩ = some v7) (h8 : w.cell? ⟨b, 8, none⟩ = some v8) (h9 : w.cell? ⟨b, 9, none⟩ = some v9) (h10 : w.cell? ⟨b, 10, none⟩ = some v10) (h11 : w.cell? ⟨b, 11, none⟩ = some v11) : w.rangeAt b 0 [v0, v1, v2, v3, v4, v5, v6, v7, v8, v9, v10, v11] := by
  intro j v hj
  rw [Nat.zero_add]
  match j, hj with
  | 0, hj => simp at hj; subst hj; exact h0
  | 1, hj => simp at hj; subst hj; exact h1
  | 2, hj => simp at hj; subst hj; exact h2
  | 3, hj => simp at hj; subst hj; exact h3
  | 4, hj => simp at hj; subst hj; exact h4
  | 5, hj => simp at hj; subst hj; exact h5
  | 6, hj => simp at hj; subst hj; exact h6
  | 7, hj => simp at hj; subst hj; exact h7
  | 8, hj => simp at hj; subst hj; exact h8
  | 9, hj => simp at hj; subst hj; exact h9
  | 10, hj => simp at hj; subst hj; exact h10
  | 11, hj => simp at hj; subst hj; exact h11
  | n + 12, hj => simp at hj
theorem there12 {w : World} {b : Nat} (h0 : (w.cell? ⟨b, 0, none⟩).isSome = true) (h1 : (w.cell? ⟨b, 1, none⟩).isSome = true) (h2 : (w.cell? ⟨b, 2, none⟩).isSome = true) (h3 : (w.cell? ⟨b, 3, none⟩).isSome = true) (h4 : (w.cell? ⟨b, 4, none⟩).isSome = true) (h5 : (w.cell? ⟨b, 5, none⟩).isSome = true) (h6 : (w.cell? ⟨b, 6, none⟩).isSome = true) (h7 : (w.cell? ⟨b, 7, none⟩).isSome = true) (h8 : (w.cell? ⟨b, 8, none⟩).isSome = true) (h9 : (w.cell? ⟨b, 9, none⟩).isSome = true) (h10 : (w.cell? ⟨b, 10, none⟩).isSome = true) (h11 : (w.cell? ⟨b, 11, none⟩).isSome = true) (f0 : w.frozen? ⟨b, 0, none⟩ = false) (f1 : w.frozen? ⟨b, 1, none⟩ = false) (f2 : w.frozen? ⟨b, 2, none⟩ = false) (f3 : w.frozen? ⟨b, 3, none⟩ = false) (f4 : w.frozen? ⟨b, 4, none⟩ = false) (f5 : w.frozen? ⟨b, 5, none⟩ = false) (f6 : w.frozen? ⟨b, 6, none⟩ = false) (f7 : w.frozen? ⟨b, 7, none⟩ = false) (f8 : w.frozen? ⟨b, 8, none⟩ = false) (f9 : w.frozen? ⟨b, 9, none⟩ = false) (f10 : w.frozen? ⟨b, 10, none⟩ = false) (f11 : w.frozen? ⟨b, 11, none⟩ = false) : w.there b 0 12 := by
  intro j hj
  rw [Nat.zero_add]
  match j, hj with
  | 0, _ => exact ⟨h0, f0⟩
  | 1, _ => exact ⟨h1, f1⟩
  | 2, _ => exact ⟨h2, f2⟩
  | 3, _ => exact ⟨h3, f3⟩
  | 4, _ => exact ⟨h4, f4⟩
  | 5, _ => exact ⟨h5, f5⟩
  | 6, _ => exact ⟨h6, f6⟩
  | 7, _ => exact ⟨h7, f7⟩
  | 8, _ => exact ⟨h8, f8⟩
  | 9, _ => exact ⟨h9, f9⟩
  | 10, _ => exact ⟨h10, f10⟩
  | 11, _ => exact ⟨h11, f11⟩
  | n + 12, hj => omega
theorem below_setCellsO {B : Nat} {a : World} {b : Nat} (hb : B ≤ b) : ∀ (vs : List Value) (o : Nat) (w : World), Below B a w → Below B a (w.setCells b o vs) := by
  intro vs
  induction vs with
  | nil => intro o w h; exact h
  | cons v vs ih => intro o w h; exact ih _ _ (h.setCell (p := ⟨b, o, none⟩) hb v)
theorem grownBy_setCells (w : World) (b : Nat) : ∀ (vs : List Value) (o : Nat), w.grownBy (w.setCells b o vs) (some b) := by
  intro vs
  induction vs generalizing w with
  | nil => intro o; exact ⟨rfl, rfl, rfl, Nat.le_refl _, fun _ _ _ => rfl⟩
  | cons v vs ih => intro o; exact grownBy_trans (grownBy_set w b o v) (ih _ _)
theorem info12 : (Tryz.prog.info? 45).map (·.size) = some 12 := by kernel_rfl

set_option maxHeartbeats 4000000 in
set_option maxRecDepth 100000 in
theorem toOp_any (C : Nat) (a s t k o n u pt pa : Int) (dv : Value) (ky tx : ByteArray) (ds : List Int) (w : World) (hl : ds.length ≤ 1048576) (hC : C ≤ w.heap.size) (hr : Rd C w dv (ds.map (Value.int .i64))) :
    Calls Tryz.prog 14 #[.agg #[.int .i64 a, .int .i64 s, .int .i64 t, dv, .int .i64 k, .int .i64 o, .int .i64 n, .int .i64 u, .int .i64 pt, .int .i64 pa, .string ky, .string tx]] w fun e w' => ∃ x c, e = .returned (.agg #[.int .i64 a, .int .i64 s, .int .i64 t, .slice x ds.length c, .int .i64 k, .int .i64 o, .int .i64 n, .int .i64 u, .int .i64 pt, .int .i64 pa, .string ky, .string tx]) ∧ Own 3 w' w.heap.size (.slice x ds.length c) (ds.map (Value.int .i64)) ∧ Below w.heap.size w w' := by
  have hB1 : Below w.heap.size w (((w.alloc (.cells #[.int .i64 a, .int .i64 s, .int .i64 t, dv, .int .i64 k, .int .i64 o, .int .i64 n, .int .i64 u, .int .i64 pt, .int .i64 pa, .string ky, .string tx] 37)).alloc (.cells #[.int .i64 0, .int .i64 0, .int .i64 0, .slice none 0 0, .int .i64 0, .int .i64 0, .int .i64 0, .int .i64 0, .int .i64 0, .int .i64 0, .string ⟨#[]⟩, .string ⟨#[]⟩] 45)).alloc (.cells #[.int .i64 a, .int .i64 s, .int .i64 t, .slice none 0 0, .int .i64 0, .int .i64 0, .int .i64 0, .int .i64 0, .int .i64 0, .int .i64 0, .string ⟨#[]⟩, .string ⟨#[]⟩] 45)) := below_then (below_then (below_alloc _ _) _) _
  have hc := toVector_any C (((w.alloc (.cells #[.int .i64 a, .int .i64 s, .int .i64 t, dv, .int .i64 k, .int .i64 o, .int .i64 n, .int .i64 u, .int .i64 pt, .int .i64 pa, .string ky, .string tx] 37)).alloc (.cells #[.int .i64 0, .int .i64 0, .int .i64 0, .slice none 0 0, .int .i64 0, .int .i64 0, .int .i64 0, .int .i64 0, .int .i64 0, .int .i64 0, .string ⟨#[]⟩, .string ⟨#[]⟩] 45)).alloc (.cells #[.int .i64 a, .int .i64 s, .int .i64 t, .slice none 0 0, .int .i64 0, .int .i64 0, .int .i64 0, .int .i64 0, .int .i64 0, .int .i64 0, .string ⟨#[]⟩, .string ⟨#[]⟩] 45)) dv ds hl (by have := hB1.size; omega) (hr.below (hB1.mono hC))
  go_enter Tryz.func14, Tryz.ntmps14
  go_wp2_with fail
  refine hc.mono ?_
  rintro e w1 ⟨x, c, rfl, ho, hb⟩
  have hb1 := below_seq (below_alloc _ _) hb
  have hb2 := below_seq (below_alloc _ _) hb1
  obtain ⟨p0, p1, p2, p3, p4, p5, p6, p7, p8, p9, p10, p11⟩ := op_cells hb2
  obtain ⟨q0, q1, q2, q3, q4, q5, q6, q7, q8, q9, q10, q11⟩ := op_cells hb1
  obtain ⟨r0, r1, r2, r3, r4, r5, r6, r7, r8, r9, r10, r11⟩ := op_cells hb
  have fq := frozen_made hb1
  have fr := frozen_made hb
  simp only [World.size_alloc] at q0 q1 q2 q3 q4 q5 q6 q7 q8 q9 q10 q11 r0 r1 r2 r3 r4 r5 r6 r7 r8 r9 r10 r11 fq fr
  have hs1 := hb.size
  simp only [World.size_alloc] at hs1
  have fr0 := fr 0
  have fr1 := fr 1
  have fr2 := fr 2
  have fr3 := fr 3
  have fr4 := fr 4
  have fr5 := fr 5
  have fr6 := fr 6
  have fr7 := fr 7
  have fr8 := fr 8
  have fr9 := fr 9
  have fr10 := fr 10
  have fr11 := fr 11
  have HB : Hid (Below w.heap.size w w1) := below_seq hB1 hb
  have HO : Hid (Own 3 w1 (w.heap.size + 1 + 1 + 1) (.slice x ds.length c) (ds.map (Value.int .i64))) := by
    have := ho
    simp only [World.size_alloc] at this
    exact this
  have HQ : Hid ((w1.cell? ⟨w.heap.size + 1, 0, none⟩ = some (.int .i64 0) ∧ w1.cell? ⟨w.heap.size + 1, 1, none⟩ = some (.int .i64 0) ∧ w1.cell? ⟨w.heap.size + 1, 2, none⟩ = some (.int .i64 0) ∧ w1.cell? ⟨w.heap.size + 1, 3, none⟩ = some (.slice none 0 0) ∧ w1.cell? ⟨w.heap.size + 1, 4, none⟩ = some (.int .i64 0) ∧ w1.cell? ⟨w.heap.size + 1, 5, none⟩ = some (.int .i64 0) ∧ w1.cell? ⟨w.heap.size + 1, 6, none⟩ = some (.int .i64 0) ∧ w1.cell? ⟨w.heap.size + 1, 7, none⟩ = some (.int .i64 0) ∧ w1.cell? ⟨w.heap.size + 1, 8, none⟩ = some (.int .i64 0) ∧ w1.cell? ⟨w.heap.size + 1, 9, none⟩ = some (.int .i64 0) ∧ w1.cell? ⟨w.heap.size + 1, 10, none⟩ = some (.string ⟨#[]⟩) ∧ w1.cell? ⟨w.heap.size + 1, 11, none⟩ = some (.string ⟨#[]⟩)) ∧ ∀ kk, w1.frozen? ⟨w.heap.size + 1, kk, none⟩ = false) := ⟨⟨q0, q1, q2, q3, q4, q5, q6, q7, q8, q9, q10, q11⟩, fq⟩
  have HR : Hid ((w1.cell? ⟨w.heap.size + 1 + 1, 0, none⟩ = some (.int .i64 a) ∧ w1.cell? ⟨w.heap.size + 1 + 1, 1, none⟩ = some (.int .i64 s) ∧ w1.cell? ⟨w.heap.size + 1 + 1, 2, none⟩ = some (.int .i64 t) ∧ w1.cell? ⟨w.heap.size + 1 + 1, 3, none⟩ = some (.slice none 0 0) ∧ w1.cell? ⟨w.heap.size + 1 + 1, 4, none⟩ = some (.int .i64 0) ∧ w1.cell? ⟨w.heap.size + 1 + 1, 5, none⟩ = some (.int .i64 0) ∧ w1.cell? ⟨w.heap.size + 1 + 1, 6, none⟩ = some (.int .i64 0) ∧ w1.cell? ⟨w.heap.size + 1 + 1, 7, none⟩ = some (.int .i64 0) ∧ w1.cell? ⟨w.heap.size + 1 + 1, 8, none⟩ = some (.int .i64 0) ∧ w1.cell? ⟨w.heap.size + 1 + 1, 9, none⟩ = some (.int .i64 0) ∧ w1.cell? ⟨w.heap.size + 1 + 1, 10, none⟩ = some (.string ⟨#[]⟩) ∧ w1.cell? ⟨w.heap.size + 1 + 1, 11, none⟩ = some (.string ⟨#[]⟩)) ∧ ∀ kk, w1.frozen? ⟨w.heap.size + 1 + 1, kk, none⟩ = false) := ⟨⟨r0, r1, r2, r3, r4, r5, r6, r7, r8, r9, r10, r11⟩, fr⟩
  have HPP : Hid (w1.cell? ⟨w.heap.size, 0, none⟩ = some (.int .i64 a) ∧ w1.cell? ⟨w.heap.size, 1, none⟩ = some (.int .i64 s) ∧ w1.cell? ⟨w.heap.size, 2, none⟩ = some (.int .i64 t) ∧ w1.cell? ⟨w.heap.size, 3, none⟩ = some (dv) ∧ w1.cell? ⟨w.heap.size, 4, none⟩ = some (.int .i64 k) ∧ w1.cell? ⟨w.heap.size, 5, none⟩ = some (.int .i64 o) ∧ w1.cell? ⟨w.heap.size, 6, none⟩ = some (.int .i64 n) ∧ w1.cell? ⟨w.heap.size, 7, none⟩ = some (.int .i64 u) ∧ w1.cell? ⟨w.heap.size, 8, none⟩ = some (.int .i64 pt) ∧ w1.cell? ⟨w.heap.size, 9, none⟩ = some (.int .i64 pa) ∧ w1.cell? ⟨w.heap.size, 10, none⟩ = some (.string ky) ∧ w1.cell? ⟨w.heap.size, 11, none⟩ = some (.string tx)) := ⟨p0, p1, p2, p3, p4, p5, p6, p7, p8, p9, p10, p11⟩
  clear hc hb1 hb2 hb ho q0 q1 q2 q3 q4 q5 q6 q7 q8 q9 q10 q11 fq fr hr hB1
  go_wp2_with fail
  have HF1 : Hid ((((((w1.setCell ⟨w.heap.size + 1 + 1, 3, none⟩ (.slice x ds.length c)).setCell ⟨w.heap.size + 1 + 1, 4, none⟩ (.int .i64 k)).setCell ⟨w.heap.size + 1 + 1, 5, none⟩ (.int .i64 o)).setCell ⟨w.heap.size + 1 + 1, 6, none⟩ (.int .i64 n)).setCell ⟨w.heap.size + 1 + 1, 7, none⟩ (.int .i64 u)).cell? ⟨w.heap.size + 1 + 1, 0, none⟩ = some (.int .i64 a) ∧ (((((w1.setCell ⟨w.heap.size + 1 + 1, 3, none⟩ (.slice x ds.length c)).setCell ⟨w.heap.size + 1 + 1, 4, none⟩ (.int .i64 k)).setCell ⟨w.heap.size + 1 + 1, 5, none⟩ (.int .i64 o)).setCell ⟨w.heap.size + 1 + 1, 6, none⟩ (.int .i64 n)).setCell ⟨w.heap.size + 1 + 1, 7, none⟩ (.int .i64 u)).cell? ⟨w.heap.size + 1 + 1, 1, none⟩ = some (.int .i64 s) ∧ (((((w1.setCell ⟨w.heap.size + 1 + 1, 3, none⟩ (.slice x ds.length c)).setCell ⟨w.heap.size + 1 + 1, 4, none⟩ (.int .i64 k)).setCell ⟨w.heap.size + 1 + 1, 5, none⟩ (.int .i64 o)).setCell ⟨w.heap.size + 1 + 1, 6, none⟩ (.int .i64 n)).setCell ⟨w.heap.size + 1 + 1, 7, none⟩ (.int .i64 u)).cell? ⟨w.heap.size + 1 + 1, 2, none⟩ = some (.int .i64 t) ∧ (((((w1.setCell ⟨w.heap.size + 1 + 1, 3, none⟩ (.slice x ds.length c)).setCell ⟨w.heap.size + 1 + 1, 4, none⟩ (.int .i64 k)).setCell ⟨w.heap.size + 1 + 1, 5, none⟩ (.int .i64 o)).setCell ⟨w.heap.size + 1 + 1, 6, none⟩ (.int .i64 n)).setCell ⟨w.heap.size + 1 + 1, 7, none⟩ (.int .i64 u)).cell? ⟨w.heap.size + 1 + 1, 3, none⟩ = some (.slice x ds.length c) ∧ (((((w1.setCell ⟨w.heap.size + 1 + 1, 3, none⟩ (.slice x ds.length c)).setCell ⟨w.heap.size + 1 + 1, 4, none⟩ (.int .i64 k)).setCell ⟨w.heap.size + 1 + 1, 5, none⟩ (.int .i64 o)).setCell ⟨w.heap.size + 1 + 1, 6, none⟩ (.int .i64 n)).setCell ⟨w.heap.size + 1 + 1, 7, none⟩ (.int .i64 u)).cell? ⟨w.heap.size + 1 + 1, 4, none⟩ = some (.int .i64 k) ∧ (((((w1.setCell ⟨w.heap.size + 1 + 1, 3, none⟩ (.slice x ds.length c)).setCell ⟨w.heap.size + 1 + 1, 4, none⟩ (.int .i64 k)).setCell ⟨w.heap.size + 1 + 1, 5, none⟩ (.int .i64 o)).setCell ⟨w.heap.size + 1 + 1, 6, none⟩ (.int .i64 n)).setCell ⟨w.heap.size + 1 + 1, 7, none⟩ (.int .i64 u)).cell? ⟨w.heap.size + 1 + 1, 5, none⟩ = some (.int .i64 o) ∧ (((((w1.setCell ⟨w.heap.size + 1 + 1, 3, none⟩ (.slice x ds.length c)).setCell ⟨w.heap.size + 1 + 1, 4, none⟩ (.int .i64 k)).setCell ⟨w.heap.size + 1 + 1, 5, none⟩ (.int .i64 o)).setCell ⟨w.heap.size + 1 + 1, 6, none⟩ (.int .i64 n)).setCell ⟨w.heap.size + 1 + 1, 7, none⟩ (.int .i64 u)).cell? ⟨w.heap.size + 1 + 1, 6, none⟩ = some (.int .i64 n) ∧ (((((w1.setCell ⟨w.heap.size + 1 + 1, 3, none⟩ (.slice x ds.length c)).setCell ⟨w.heap.size + 1 + 1, 4, none⟩ (.int .i64 k)).setCell ⟨w.heap.size + 1 + 1, 5, none⟩ (.int .i64 o)).setCell ⟨w.heap.size + 1 + 1, 6, none⟩ (.int .i64 n)).setCell ⟨w.heap.size + 1 + 1, 7, none⟩ (.int .i64 u)).cell? ⟨w.heap.size + 1 + 1, 7, none⟩ = some (.int .i64 u) ∧ (((((w1.setCell ⟨w.heap.size + 1 + 1, 3, none⟩ (.slice x ds.length c)).setCell ⟨w.heap.size + 1 + 1, 4, none⟩ (.int .i64 k)).setCell ⟨w.heap.size + 1 + 1, 5, none⟩ (.int .i64 o)).setCell ⟨w.heap.size + 1 + 1, 6, none⟩ (.int .i64 n)).setCell ⟨w.heap.size + 1 + 1, 7, none⟩ (.int .i64 u)).cell? ⟨w.heap.size + 1 + 1, 8, none⟩ = some (.int .i64 0) ∧ (((((w1.setCell ⟨w.heap.size + 1 + 1, 3, none⟩ (.slice x ds.length c)).setCell ⟨w.heap.size + 1 + 1, 4, none⟩ (.int .i64 k)).setCell ⟨w.heap.size + 1 + 1, 5, none⟩ (.int .i64 o)).setCell ⟨w.heap.size + 1 + 1, 6, none⟩ (.int .i64 n)).setCell ⟨w.heap.size + 1 + 1, 7, none⟩ (.int .i64 u)).cell? ⟨w.heap.size + 1 + 1, 9, none⟩ = some (.int .i64 0) ∧ (((((w1.setCell ⟨w.heap.size + 1 + 1, 3, none⟩ (.slice x ds.length c)).setCell ⟨w.heap.size + 1 + 1, 4, none⟩ (.int .i64 k)).setCell ⟨w.heap.size + 1 + 1, 5, none⟩ (.int .i64 o)).setCell ⟨w.heap.size + 1 + 1, 6, none⟩ (.int .i64 n)).setCell ⟨w.heap.size + 1 + 1, 7, none⟩ (.int .i64 u)).cell? ⟨w.heap.size + 1 + 1, 10, none⟩ = some (.string ⟨#[]⟩) ∧ (((((w1.setCell ⟨w.heap.size + 1 + 1, 3, none⟩ (.slice x ds.length c)).setCell ⟨w.heap.size + 1 + 1, 4, none⟩ (.int .i64 k)).setCell ⟨w.heap.size + 1 + 1, 5, none⟩ (.int .i64 o)).setCell ⟨w.heap.size + 1 + 1, 6, none⟩ (.int .i64 n)).setCell ⟨w.heap.size + 1 + 1, 7, none⟩ (.int .i64 u)).cell? ⟨w.heap.size + 1 + 1, 11, none⟩ = some (.string ⟨#[]⟩)) := by
    obtain ⟨⟨y0, y1, y2, y3, y4, y5, y6, y7, y8, y9, y10, y11⟩, fy⟩ := HR.out
    unfold Hid
    refine ⟨?_, ?_, ?_, ?_, ?_, ?_, ?_, ?_, ?_, ?_, ?_, ?_⟩ <;> go_simp
  have hE : w1.grownBy (((((w1.setCell ⟨w.heap.size + 1 + 1, 3, none⟩ (.slice x ds.length c)).setCell ⟨w.heap.size + 1 + 1, 4, none⟩ (.int .i64 k)).setCell ⟨w.heap.size + 1 + 1, 5, none⟩ (.int .i64 o)).setCell ⟨w.heap.size + 1 + 1, 6, none⟩ (.int .i64 n)).setCell ⟨w.heap.size + 1 + 1, 7, none⟩ (.int .i64 u)) (some (w.heap.size + 1 + 1)) := grownBy_trans (grownBy_trans (grownBy_trans (grownBy_trans (grownBy_set w1 (w.heap.size + 1 + 1) 3 _) (grownBy_set _ _ _ _)) (grownBy_set _ _ _ _)) (grownBy_set _ _ _ _)) (grownBy_set _ _ _ _)
  have hsE := hE.size
  have HF2 : Hid (∀ kk, (((((w1.setCell ⟨w.heap.size + 1 + 1, 3, none⟩ (.slice x ds.length c)).setCell ⟨w.heap.size + 1 + 1, 4, none⟩ (.int .i64 k)).setCell ⟨w.heap.size + 1 + 1, 5, none⟩ (.int .i64 o)).setCell ⟨w.heap.size + 1 + 1, 6, none⟩ (.int .i64 n)).setCell ⟨w.heap.size + 1 + 1, 7, none⟩ (.int .i64 u)).frozen? ⟨w.heap.size + 1 + 1, kk, none⟩ = false) := fun kk => by
    obtain ⟨_, fy⟩ := HR.out
    have := fy kk
    go_simp
  clear r0 r1 r2 r3 r4 r5 r6 r7 r8 r9 r10 r11 fr0 fr1 fr2 fr3 fr4 fr5 fr6 fr7 fr8 fr9 fr10 fr11 p0 p1 p2 p3 p4 p5 p6 p7 p8 p9 p10 p11
  have hE' : Below (w.heap.size + 1 + 1) w1 (((((w1.setCell ⟨w.heap.size + 1 + 1, 3, none⟩ (.slice x ds.length c)).setCell ⟨w.heap.size + 1 + 1, 4, none⟩ (.int .i64 k)).setCell ⟨w.heap.size + 1 + 1, 5, none⟩ (.int .i64 o)).setCell ⟨w.heap.size + 1 + 1, 6, none⟩ (.int .i64 n)).setCell ⟨w.heap.size + 1 + 1, 7, none⟩ (.int .i64 u)) := (((((Below.refl _ w1).setCell (p := ⟨w.heap.size + 1 + 1, 3, none⟩) (Nat.le_refl _) _).setCell (p := ⟨w.heap.size + 1 + 1, 4, none⟩) (Nat.le_refl _) _).setCell (p := ⟨w.heap.size + 1 + 1, 5, none⟩) (Nat.le_refl _) _).setCell (p := ⟨w.heap.size + 1 + 1, 6, none⟩) (Nat.le_refl _) _).setCell (p := ⟨w.heap.size + 1 + 1, 7, none⟩) (Nat.le_refl _) _
  generalize (((((w1.setCell ⟨w.heap.size + 1 + 1, 3, none⟩ (.slice x ds.length c)).setCell ⟨w.heap.size + 1 + 1, 4, none⟩ (.int .i64 k)).setCell ⟨w.heap.size + 1 + 1, 5, none⟩ (.int .i64 o)).setCell ⟨w.heap.size + 1 + 1, 6, none⟩ (.int .i64 n)).setCell ⟨w.heap.size + 1 + 1, 7, none⟩ (.int .i64 u)) = e1 at *
  refine (toStamp_any pt pa e1).mono ?_
  rintro e w2 ⟨rfl, hb2⟩
  have hE2 : Below (w.heap.size + 1 + 1) w1 w2 := hE'.trans (hb2.mono (by omega))
  obtain ⟨y0, y1, y2, y3, y4, y5, y6, y7, y8, y9, y10, y11⟩ := HF1.out
  obtain ⟨⟨z0, z1, z2, z3, z4, z5, z6, z7, z8, z9, z10, z11⟩, fz⟩ := HQ.out
  obtain ⟨b0, b1, b2, b3, b4, b5, b6, b7, b8, b9, b10, b11⟩ := HPP.out
  replace y0 := (hb2.cell (p := ⟨w.heap.size + 1 + 1, 0, none⟩) (by show w.heap.size + 1 + 1 < _; omega)).trans y0
  replace y1 := (hb2.cell (p := ⟨w.heap.size + 1 + 1, 1, none⟩) (by show w.heap.size + 1 + 1 < _; omega)).trans y1
  replace y2 := (hb2.cell (p := ⟨w.heap.size + 1 + 1, 2, none⟩) (by show w.heap.size + 1 + 1 < _; omega)).trans y2
  replace y3 := (hb2.cell (p := ⟨w.heap.size + 1 + 1, 3, none⟩) (by show w.heap.size + 1 + 1 < _; omega)).trans y3
  replace y4 := (hb2.cell (p := ⟨w.heap.size + 1 + 1, 4, none⟩) (by show w.heap.size + 1 + 1 < _; omega)).trans y4
  replace y5 := (hb2.cell (p := ⟨w.heap.size + 1 + 1, 5, none⟩) (by show w.heap.size + 1 + 1 < _; omega)).trans y5
  replace y6 := (hb2.cell (p := ⟨w.heap.size + 1 + 1, 6, none⟩) (by show w.heap.size + 1 + 1 < _; omega)).trans y6
  replace y7 := (hb2.cell (p := ⟨w.heap.size + 1 + 1, 7, none⟩) (by show w.heap.size + 1 + 1 < _; omega)).trans y7
  replace y8 := (hb2.cell (p := ⟨w.heap.size + 1 + 1, 8, none⟩) (by show w.heap.size + 1 + 1 < _; omega)).trans y8
  replace y9 := (hb2.cell (p := ⟨w.heap.size + 1 + 1, 9, none⟩) (by show w.heap.size + 1 + 1 < _; omega)).trans y9
  replace y10 := (hb2.cell (p := ⟨w.heap.size + 1 + 1, 10, none⟩) (by show w.heap.size + 1 + 1 < _; omega)).trans y10
  replace y11 := (hb2.cell (p := ⟨w.heap.size + 1 + 1, 11, none⟩) (by show w.heap.size + 1 + 1 < _; omega)).trans y11
  replace z0 := (hE2.cell (p := ⟨w.heap.size + 1, 0, none⟩) (by show w.heap.size + 1 < _; omega)).trans z0
  replace z1 := (hE2.cell (p := ⟨w.heap.size + 1, 1, none⟩) (by show w.heap.size + 1 < _; omega)).trans z1
  replace z2 := (hE2.cell (p := ⟨w.heap.size + 1, 2, none⟩) (by show w.heap.size + 1 < _; omega)).trans z2
  replace z3 := (hE2.cell (p := ⟨w.heap.size + 1, 3, none⟩) (by show w.heap.size + 1 < _; omega)).trans z3
  replace z4 := (hE2.cell (p := ⟨w.heap.size + 1, 4, none⟩) (by show w.heap.size + 1 < _; omega)).trans z4
  replace z5 := (hE2.cell (p := ⟨w.heap.size + 1, 5, none⟩) (by show w.heap.size + 1 < _; omega)).trans z5
  replace z6 := (hE2.cell (p := ⟨w.heap.size + 1, 6, none⟩) (by show w.heap.size + 1 < _; omega)).trans z6
  replace z7 := (hE2.cell (p := ⟨w.heap.size + 1, 7, none⟩) (by show w.heap.size + 1 < _; omega)).trans z7
  replace z8 := (hE2.cell (p := ⟨w.heap.size + 1, 8, none⟩) (by show w.heap.size + 1 < _; omega)).trans z8
  replace z9 := (hE2.cell (p := ⟨w.heap.size + 1, 9, none⟩) (by show w.heap.size + 1 < _; omega)).trans z9
  replace z10 := (hE2.cell (p := ⟨w.heap.size + 1, 10, none⟩) (by show w.heap.size + 1 < _; omega)).trans z10
  replace z11 := (hE2.cell (p := ⟨w.heap.size + 1, 11, none⟩) (by show w.heap.size + 1 < _; omega)).trans z11
  replace b0 := (hE2.cell (p := ⟨w.heap.size, 0, none⟩) (by show w.heap.size < _; omega)).trans b0
  replace b1 := (hE2.cell (p := ⟨w.heap.size, 1, none⟩) (by show w.heap.size < _; omega)).trans b1
  replace b2 := (hE2.cell (p := ⟨w.heap.size, 2, none⟩) (by show w.heap.size < _; omega)).trans b2
  replace b3 := (hE2.cell (p := ⟨w.heap.size, 3, none⟩) (by show w.heap.size < _; omega)).trans b3
  replace b4 := (hE2.cell (p := ⟨w.heap.size, 4, none⟩) (by show w.heap.size < _; omega)).trans b4
  replace b5 := (hE2.cell (p := ⟨w.heap.size, 5, none⟩) (by show w.heap.size < _; omega)).trans b5
  replace b6 := (hE2.cell (p := ⟨w.heap.size, 6, none⟩) (by show w.heap.size < _; omega)).trans b6
  replace b7 := (hE2.cell (p := ⟨w.heap.size, 7, none⟩) (by show w.heap.size < _; omega)).trans b7
  replace b8 := (hE2.cell (p := ⟨w.heap.size, 8, none⟩) (by show w.heap.size < _; omega)).trans b8
  replace b9 := (hE2.cell (p := ⟨w.heap.size, 9, none⟩) (by show w.heap.size < _; omega)).trans b9
  replace b10 := (hE2.cell (p := ⟨w.heap.size, 10, none⟩) (by show w.heap.size < _; omega)).trans b10
  replace b11 := (hE2.cell (p := ⟨w.heap.size, 11, none⟩) (by show w.heap.size < _; omega)).trans b11
  have gy0 := (hb2.frozen (p := ⟨w.heap.size + 1 + 1, 0, none⟩) (by show w.heap.size + 1 + 1 < _; omega)).trans (HF2.out 0)
  have gy1 := (hb2.frozen (p := ⟨w.heap.size + 1 + 1, 1, none⟩) (by show w.heap.size + 1 + 1 < _; omega)).trans (HF2.out 1)
  have gy2 := (hb2.frozen (p := ⟨w.heap.size + 1 + 1, 2, none⟩) (by show w.heap.size + 1 + 1 < _; omega)).trans (HF2.out 2)
  have gy3 := (hb2.frozen (p := ⟨w.heap.size + 1 + 1, 3, none⟩) (by show w.heap.size + 1 + 1 < _; omega)).trans (HF2.out 3)
  have gy4 := (hb2.frozen (p := ⟨w.heap.size + 1 + 1, 4, none⟩) (by show w.heap.size + 1 + 1 < _; omega)).trans (HF2.out 4)
  have gy5 := (hb2.frozen (p := ⟨w.heap.size + 1 + 1, 5, none⟩) (by show w.heap.size + 1 + 1 < _; omega)).trans (HF2.out 5)
  have gy6 := (hb2.frozen (p := ⟨w.heap.size + 1 + 1, 6, none⟩) (by show w.heap.size + 1 + 1 < _; omega)).trans (HF2.out 6)
  have gy7 := (hb2.frozen (p := ⟨w.heap.size + 1 + 1, 7, none⟩) (by show w.heap.size + 1 + 1 < _; omega)).trans (HF2.out 7)
  have gy8 := (hb2.frozen (p := ⟨w.heap.size + 1 + 1, 8, none⟩) (by show w.heap.size + 1 + 1 < _; omega)).trans (HF2.out 8)
  have gy9 := (hb2.frozen (p := ⟨w.heap.size + 1 + 1, 9, none⟩) (by show w.heap.size + 1 + 1 < _; omega)).trans (HF2.out 9)
  have gy10 := (hb2.frozen (p := ⟨w.heap.size + 1 + 1, 10, none⟩) (by show w.heap.size + 1 + 1 < _; omega)).trans (HF2.out 10)
  have gy11 := (hb2.frozen (p := ⟨w.heap.size + 1 + 1, 11, none⟩) (by show w.heap.size + 1 + 1 < _; omega)).trans (HF2.out 11)
  have gz0 := (hE2.frozen (p := ⟨w.heap.size + 1, 0, none⟩) (by show w.heap.size + 1 < _; omega)).trans (fz 0)
  have gz1 := (hE2.frozen (p := ⟨w.heap.size + 1, 1, none⟩) (by show w.heap.size + 1 < _; omega)).trans (fz 1)
  have gz2 := (hE2.frozen (p := ⟨w.heap.size + 1, 2, none⟩) (by show w.heap.size + 1 < _; omega)).trans (fz 2)
  have gz3 := (hE2.frozen (p := ⟨w.heap.size + 1, 3, none⟩) (by show w.heap.size + 1 < _; omega)).trans (fz 3)
  have gz4 := (hE2.frozen (p := ⟨w.heap.size + 1, 4, none⟩) (by show w.heap.size + 1 < _; omega)).trans (fz 4)
  have gz5 := (hE2.frozen (p := ⟨w.heap.size + 1, 5, none⟩) (by show w.heap.size + 1 < _; omega)).trans (fz 5)
  have gz6 := (hE2.frozen (p := ⟨w.heap.size + 1, 6, none⟩) (by show w.heap.size + 1 < _; omega)).trans (fz 6)
  have gz7 := (hE2.frozen (p := ⟨w.heap.size + 1, 7, none⟩) (by show w.heap.size + 1 < _; omega)).trans (fz 7)
  have gz8 := (hE2.frozen (p := ⟨w.heap.size + 1, 8, none⟩) (by show w.heap.size + 1 < _; omega)).trans (fz 8)
  have gz9 := (hE2.frozen (p := ⟨w.heap.size + 1, 9, none⟩) (by show w.heap.size + 1 < _; omega)).trans (fz 9)
  have gz10 := (hE2.frozen (p := ⟨w.heap.size + 1, 10, none⟩) (by show w.heap.size + 1 < _; omega)).trans (fz 10)
  have gz11 := (hE2.frozen (p := ⟨w.heap.size + 1, 11, none⟩) (by show w.heap.size + 1 < _; omega)).trans (fz 11)
  have hO2 : Own 3 w2 (w.heap.size + 1 + 1 + 1) (.slice x ds.length c) (ds.map (Value.int .i64)) := Own.below (HO.out.apart hE (fun k hk => by cases hk; omega)) hb2 (Nat.le_refl _)
  have hB2 : Below w.heap.size w w2 := HB.out.trans (hE2.mono (by omega))
  clear HF1 HF2 HQ HR HPP HO HB fz hE hE' hE2 hb2
  go_upto_region 13 with fail
  have hrng : ((((w2.setCell ⟨w.heap.size + 1 + 1, 8, none⟩ (.int .i64 pt)).setCell ⟨w.heap.size + 1 + 1, 9, none⟩ (.int .i64 pa)).setCell ⟨w.heap.size + 1 + 1, 10, none⟩ (.string ky)).setCell ⟨w.heap.size + 1 + 1, 11, none⟩ (.string tx)).rangeAt (w.heap.size + 1 + 1) 0 [.int .i64 a, .int .i64 s, .int .i64 t, .slice x ds.length c, .int .i64 k, .int .i64 o, .int .i64 n, .int .i64 u, .int .i64 pt, .int .i64 pa, .string ky, .string tx] := by
    refine range12 ?_ ?_ ?_ ?_ ?_ ?_ ?_ ?_ ?_ ?_ ?_ ?_ <;> go_simp
  have hth : ((((w2.setCell ⟨w.heap.size + 1 + 1, 8, none⟩ (.int .i64 pt)).setCell ⟨w.heap.size + 1 + 1, 9, none⟩ (.int .i64 pa)).setCell ⟨w.heap.size + 1 + 1, 10, none⟩ (.string ky)).setCell ⟨w.heap.size + 1 + 1, 11, none⟩ (.string tx)).there (w.heap.size + 1) 0 12 := by
    refine there12 ?_ ?_ ?_ ?_ ?_ ?_ ?_ ?_ ?_ ?_ ?_ ?_ ?_ ?_ ?_ ?_ ?_ ?_ ?_ ?_ ?_ ?_ ?_ ?_ <;> go_simp
  have hg2 : w2.grownBy ((((w2.setCell ⟨w.heap.size + 1 + 1, 8, none⟩ (.int .i64 pt)).setCell ⟨w.heap.size + 1 + 1, 9, none⟩ (.int .i64 pa)).setCell ⟨w.heap.size + 1 + 1, 10, none⟩ (.string ky)).setCell ⟨w.heap.size + 1 + 1, 11, none⟩ (.string tx)) (some (w.heap.size + 1 + 1)) := grownBy_trans (grownBy_trans (grownBy_trans (grownBy_set w2 (w.heap.size + 1 + 1) 8 _) (grownBy_set _ _ _ _)) (grownBy_set _ _ _ _)) (grownBy_set _ _ _ _)
  have hO3 : Own 3 ((((w2.setCell ⟨w.heap.size + 1 + 1, 8, none⟩ (.int .i64 pt)).setCell ⟨w.heap.size + 1 + 1, 9, none⟩ (.int .i64 pa)).setCell ⟨w.heap.size + 1 + 1, 10, none⟩ (.string ky)).setCell ⟨w.heap.size + 1 + 1, 11, none⟩ (.string tx)) (w.heap.size + 1 + 1 + 1) (.slice x ds.length c) (ds.map (Value.int .i64)) := hO2.apart hg2 (fun kk hk => by cases hk; omega)
  have hB3 : Below w.heap.size w ((((w2.setCell ⟨w.heap.size + 1 + 1, 8, none⟩ (.int .i64 pt)).setCell ⟨w.heap.size + 1 + 1, 9, none⟩ (.int .i64 pa)).setCell ⟨w.heap.size + 1 + 1, 10, none⟩ (.string ky)).setCell ⟨w.heap.size + 1 + 1, 11, none⟩ (.string tx)) := (((hB2.setCell (p := ⟨w.heap.size + 1 + 1, 8, none⟩) (by show w.heap.size ≤ w.heap.size + 1 + 1; omega) _).setCell (p := ⟨w.heap.size + 1 + 1, 9, none⟩) (by show w.heap.size ≤ w.heap.size + 1 + 1; omega) _).setCell (p := ⟨w.heap.size + 1 + 1, 10, none⟩) (by show w.heap.size ≤ w.heap.size + 1 + 1; omega) _).setCell (p := ⟨w.heap.size + 1 + 1, 11, none⟩) (by show w.heap.size ≤ w.heap.size + 1 + 1; omega) _
  clear y0 z0 b0 gy0 gz0 y1 z1 b1 gy1 gz1 y2 z2 b2 gy2 gz2 y3 z3 b3 gy3 gz3 y4 z4 b4 gy4 gz4 y5 z5 b5 gy5 gz5 y6 z6 b6 gy6 gz6 y7 z7 b7 gy7 gz7 y8 z8 b8 gy8 gz8 y9 z9 b9 gy9 gz9 y10 z10 b10 gy10 gz10 y11 z11 b11 gy11 gz11 hO2 hB2 hg2
  generalize ((((w2.setCell ⟨w.heap.size + 1 + 1, 8, none⟩ (.int .i64 pt)).setCell ⟨w.heap.size + 1 + 1, 9, none⟩ (.int .i64 pa)).setCell ⟨w.heap.size + 1 + 1, 10, none⟩ (.string ky)).setCell ⟨w.heap.size + 1 + 1, 11, none⟩ (.string tx)) = e2 at *
  have hrs : (e2.setCells (w.heap.size + 1) 0 [.int .i64 a, .int .i64 s, .int .i64 t, .slice x ds.length c, .int .i64 k, .int .i64 o, .int .i64 n, .int .i64 u, .int .i64 pt, .int .i64 pa, .string ky, .string tx]).rangeAt (w.heap.size + 1) 0 [.int .i64 a, .int .i64 s, .int .i64 t, .slice x ds.length c, .int .i64 k, .int .i64 o, .int .i64 n, .int .i64 u, .int .i64 pt, .int .i64 pa, .string ky, .string tx] := World.rangeAt_setCells_same _ _ _ _ hth
  have hld := run_loadVar_mid (P := Tryz.prog) _ (w.heap.size + 1) 0 45 [.int .i64 a, .int .i64 s, .int .i64 t, .slice x ds.length c, .int .i64 k, .int .i64 o, .int .i64 n, .int .i64 u, .int .i64 pt, .int .i64 pa, .string ky, .string tx] _ hrs Tryz.underlying45 rfl info12
  have hO4 : Own 3 (e2.setCells (w.heap.size + 1) 0 [.int .i64 a, .int .i64 s, .int .i64 t, .slice x ds.length c, .int .i64 k, .int .i64 o, .int .i64 n, .int .i64 u, .int .i64 pt, .int .i64 pa, .string ky, .string tx]) w.heap.size (.slice x ds.length c) (ds.map (Value.int .i64)) := (hO3.apart (grownBy_setCells e2 (w.heap.size + 1) _ 0) (fun kk hk => by cases hk; omega)).mono (by omega)
  have hB4 : Below w.heap.size w (e2.setCells (w.heap.size + 1) 0 [.int .i64 a, .int .i64 s, .int .i64 t, .slice x ds.length c, .int .i64 k, .int .i64 o, .int .i64 n, .int .i64 u, .int .i64 pt, .int .i64 pa, .string ky, .string tx]) := below_setCellsO (by omega) _ _ _ hB3
  have hone : (([.int .i64 a, .int .i64 s, .int .i64 t, .slice x ds.length c, .int .i64 k, .int .i64 o, .int .i64 n, .int .i64 u, .int .i64 pt, .int .i64 pa, .string ky, .string tx] : List Value).toArray).all (·.oneCell') = true := all_oneCell_toArray (cs_one ⟨a, s, t, .slice x ds.length c, k, o, n, u, pt, pa, ky, tx, ds⟩ rfl)
  clear hO3 hB3 hrs
  refine wp_region_list ?_
  refine wpList_load_mid rfl 45 _ rfl (w.heap.size + 1 + 1) 0 rfl [.int .i64 a, .int .i64 s, .int .i64 t, .slice x ds.length c, .int .i64 k, .int .i64 o, .int .i64 n, .int .i64 u, .int .i64 pt, .int .i64 pa, .string ky, .string tx] _ hrng Tryz.underlying45 rfl info12 ?_
  refine wpList_store_mid rfl 45 _ _ rfl (w.heap.size + 1) 0 ([.int .i64 a, .int .i64 s, .int .i64 t, .slice x ds.length c, .int .i64 k, .int .i64 o, .int .i64 n, .int .i64 u, .int .i64 pt, .int .i64 pa, .string ky, .string tx] : List Value).toArray rfl rfl hth info12 hone ?_
  clear hrng hth hone
  show wpList Tryz.prog _ _ [] _ (e2.setCells (w.heap.size + 1) 0 [.int .i64 a, .int .i64 s, .int .i64 t, .slice x ds.length c, .int .i64 k, .int .i64 o, .int .i64 n, .int .i64 u, .int .i64 pt, .int .i64 pa, .string ky, .string tx])
  generalize e2.setCells (w.heap.size + 1) 0 [.int .i64 a, .int .i64 s, .int .i64 t, .slice x ds.length c, .int .i64 k, .int .i64 o, .int .i64 n, .int .i64 u, .int .i64 pt, .int .i64 pa, .string ky, .string tx] = e3 at *
  have HLD : Hid _ := hld
  clear hld
  go_wp2_with fail
  have hld := HLD.out
  exact bodyPost_ret (v := .agg #[.int .i64 a, .int .i64 s, .int .i64 t, .slice x ds.length c, .int .i64 k, .int .i64 o, .int .i64 n, .int .i64 u, .int .i64 pt, .int .i64 pa, .string ky, .string tx]) (by simp [results, Tryz.results14, asAddr, Act.put, hld]) rfl ⟨_, _, rfl, hO4, hB4⟩
end Go.Proofs.YtgmhfhjmepkchaaGreat

namespace Go.Proofs.YtgmhfhjmepkchaaGreat
open Go.RowKit
set_option linter.unusedVariables false

/-- Operations that say the same, one by one. -/
def SameL (M L : List Ov) : Prop := M.length = L.length ∧ ∀ k, k < L.length → (ovAt M k).same (ovAt L k)
/-- Cells written one behind the other. -/
def setAll : List Value → Nat → List Value → List Value
  | xs, _, [] => xs
  | xs, o, u :: us => setAll (xs.set o u) (o + 1) us
theorem setAll_len : ∀ (us : List Value) (xs : List Value) (o : Nat), (setAll xs o us).length = xs.length
  | [], _, _ => rfl
  | u :: us, xs, o => by rw [setAll, setAll_len us]; simp
theorem setAll_out : ∀ (us : List Value) (xs : List Value) (o j : Nat), (j < o ∨ o + us.length ≤ j) → (setAll xs o us)[j]? = xs[j]?
  | [], _, _, _, _ => rfl
  | u :: us, xs, o, j, h => by
    rw [setAll, setAll_out us _ _ _ (by simp at h; omega), List.getElem?_set_ne (by simp at h; omega)]
theorem setAll_in : ∀ (us : List Value) (xs : List Value) (o i : Nat), i < us.length → o + us.length ≤ xs.length → (setAll xs o us)[o + i]? = us[i]?
  | [], _, _, _, h, _ => absurd h (by simp)
  | u :: us, xs, o, i, h, hl => by
    rw [setAll]
    cases i with
    | zero =>
      rw [setAll_out us _ _ _ (.inl (by omega))]
      show (xs.set o u)[o]? = _
      rw [List.getElem?_set_self (by simp at hl; omega)]
      rfl
    | succ i =>
      rw [show o + (i + 1) = o + 1 + i by omega, setAll_in us _ _ i (by simpa using h) (by simp at hl ⊢; omega)]
      rfl
theorem owns_cells {B g : Nat} {e : TypeId} {s n c : Nat} : ∀ (us : List Value) (xs : List Value) (o : Nat) (w : World), w.ownsRow B e s (.slice (some ⟨g, 0, none⟩) n c) n xs → (w.setCells g o us).ownsRow B e s (.slice (some ⟨g, 0, none⟩) n c) n (setAll xs o us)
  | [], _, _, _, h => h
  | u :: us, xs, o, w, h => owns_cells us _ _ _ (World.ownsRow.stored h o u).1

/-- A row of n operations that the call owns in block g, the first of which are M; what these count lies in blocks of the call's own behind it. -/
structure RowO (w : World) (B g n : Nat) (M : List Ov) : Prop where
  row : ∃ xs, w.ownsRow B 45 12 (.slice (some ⟨g, 0, none⟩) n n) n xs ∧ ∀ j, j < M.length * 12 → xs[j]? = (rowCs M)[j]?
  deps : ∀ x ∈ M, Own 3 w (g + 1) x.dv (x.ds.map (Value.int .i64))
theorem RowO.on {w w' : World} {B g n : Nat} {M : List Ov} (h : RowO w B g n M) (hb : Below w.heap.size w w') : RowO w' B g n M := by
  obtain ⟨⟨xs, ho, hx⟩, hd⟩ := h
  exact ⟨⟨xs, owns_on ho hb (Nat.le_refl _), hx⟩, fun x hx => (hd x hx).below hb (Nat.le_refl _)⟩
theorem RowO.lt {w : World} {B g n : Nat} {M : List Ov} (h : RowO w B g n M) : B ≤ g ∧ g < w.heap.size := by
  obtain ⟨⟨xs, ho, _⟩, _⟩ := h
  exact World.ownsRow.lt ho g rfl
theorem RowO.there {w : World} {B g n : Nat} {M : List Ov} (h : RowO w B g n M) {k : Nat} (hk : k < n) : w.there g (k * 12) 12 := by
  obtain ⟨⟨xs, ho, _⟩, _⟩ := h
  have hl := ho.1
  intro j hj
  rw [World.ownsRow.cellAt ho _ (by omega), List.getElem?_eq_getElem (by omega)]
  exact ⟨rfl, World.ownsRow.frozenAt ho _⟩
theorem RowO.put {w : World} {B g n : Nat} {M : List Ov} (h : RowO w B g n M) (hn : M.length < n) (x : Ov) (hd : Own 3 w (g + 1) x.dv (x.ds.map (Value.int .i64))) : RowO (w.setCells g (M.length * 12) x.cs) B g n (M ++ [x]) := by
  have hlt := h.lt
  obtain ⟨⟨xs, ho, hx⟩, hm⟩ := h
  have hl := ho.1
  have l12 : x.cs.length = 12 := rfl
  refine ⟨⟨_, owns_cells x.cs xs _ w ho, fun j hj => ?_⟩, fun y hy => ?_⟩
  · rw [rowCs_app]
    have hr := rowCs_len M
    rw [List.length_append, List.length_singleton] at hj
    by_cases e : j < M.length * 12
    · rw [setAll_out _ _ _ _ (.inl e), List.getElem?_append_left (by omega)]
      exact hx j e
    · obtain ⟨i, rfl⟩ : ∃ i, j = M.length * 12 + i := ⟨j - M.length * 12, by omega⟩
      rw [setAll_in _ _ _ _ (by omega) (by omega), List.getElem?_append_right (by omega), hr, Nat.add_sub_cancel_left]
      simp [rowCs]
  · have k : ∀ y : Ov, Own 3 w (g + 1) y.dv (y.ds.map (Value.int .i64)) → Own 3 (w.setCells g (M.length * 12) x.cs) (g + 1) y.dv (y.ds.map (Value.int .i64)) := fun y h => h.apart (grownBy_setCells w g x.cs _) (fun kk hk => by cases hk; omega)
    rcases List.mem_append.1 hy with hy | hy
    · exact k y (hm y hy)
    · simp at hy; subst hy; exact k y hd
theorem RowO.rd {w : World} {B g : Nat} {M : List Ov} (h : RowO w B g M.length M) (hm : M.length ≤ maxLen) : RdO w.heap.size w (.slice (some ⟨g, 0, none⟩) M.length M.length) M := by
  have hlt := h.lt
  obtain ⟨⟨xs, ho, hx⟩, hd⟩ := h
  have hl := ho.1
  refine ⟨⟨_, _, rfl, Nat.le_refl _, hm, (fun e => by cases e), fun _ => ⟨g, 0, rfl, hlt.2, fun k hk => ?_⟩⟩, fun x hx => (hd x hx).rd⟩
  have cell : ∀ i, i < 12 → w.cell? ⟨g, k * 12 + i, none⟩ = (ovAt M k).cs[i]? := fun i hi => by
    rw [← rowCs_at M k i hk hi, ← hx _ (by omega), World.ownsRow.cellAt ho _ (by omega)]
  rw [Nat.zero_add]
  exact ⟨cell 0 (by omega), cell 1 (by omega), cell 2 (by omega), cell 3 (by omega), cell 4 (by omega), cell 5 (by omega), cell 6 (by omega), cell 7 (by omega), cell 8 (by omega), cell 9 (by omega), cell 10 (by omega), cell 11 (by omega)⟩

theorem set12 (w : World) (g o : Nat) (v0 v1 v2 v3 v4 v5 v6 v7 v8 v9 v10 v11 : Value) : w.setCells g o [v0, v1, v2, v3, v4, v5, v6, v7, v8, v9, v10, v11] = ((((((((((((w.setCell ⟨g, o, none⟩ v0).setCell ⟨g, o + 1, none⟩ v1).setCell ⟨g, o + 2, none⟩ v2).setCell ⟨g, o + 3, none⟩ v3).setCell ⟨g, o + 4, none⟩ v4).setCell ⟨g, o + 5, none⟩ v5).setCell ⟨g, o + 6, none⟩ v6).setCell ⟨g, o + 7, none⟩ v7).setCell ⟨g, o + 8, none⟩ v8).setCell ⟨g, o + 9, none⟩ v9).setCell ⟨g, o + 10, none⟩ v10).setCell ⟨g, o + 11, none⟩ v11) := rfl
theorem same_snoc {M L : List Ov} {x : Ov} {k : Nat} (hk : M.length = k) (hl : k < L.length) (h : ∀ j, j < k → (ovAt M j).same (ovAt L j)) (hx : x.same (ovAt L k)) : ∀ j, j < k + 1 → (ovAt (M ++ [x]) j).same (ovAt L j) := by
  intro j hj
  by_cases e : j = k
  · subst e
    have : ovAt (M ++ [x]) j = x := by
      unfold ovAt
      rw [List.getD_eq_getElem?_getD, List.getElem?_append_right (by omega), hk, Nat.sub_self]
      rfl
    rw [this]
    exact hx
  · have : ovAt (M ++ [x]) j = ovAt M j := by
      unfold ovAt
      rw [List.getD_eq_getElem?_getD, List.getElem?_append_left (by omega), ← List.getD_eq_getElem?_getD]
    rw [this]
    exact h j (by omega)

set_option maxHeartbeats 2000000 in
set_option maxRecDepth 100000 in
theorem toOpS_any (C : Nat) (w : World) (v : Value) (L : List Ov) (hl : L.length ≤ 1048576) (hd : ∀ x ∈ L, x.ds.length ≤ 1048576) (hC : C ≤ w.heap.size) (hr : RdO C w v L) :
    Calls Tryz.prog 6 #[v] w fun e w' => e = .returned (.slice (some ⟨w.heap.size, 0, none⟩) L.length L.length) ∧ (∃ M, SameL M L ∧ RowO w' w.heap.size w.heap.size L.length M) ∧ Below w.heap.size w w' := by
  obtain ⟨i0, hi, hz0, hz1, hz2⟩ := info_parts infoOp
  obtain ⟨⟨ao, cap, rfl, hcap, hmax, hnil, hrow⟩, hdv⟩ := hr
  go_enter Tryz.func6, Tryz.ntmps6
  go_wp2_with (at_make; refine wpList_make_full _ rfl _ _ 26 rfl w.heap.size 45 i0 (.agg #[.int .i64 0, .int .i64 0, .int .i64 0, .slice none 0 0, .int .i64 0, .int .i64 0, .int .i64 0, .int .i64 0, .int .i64 0, .int .i64 0, .string ByteArray.empty, .string ByteArray.empty]) 12 Tryz.underlying26 hi hz0 hz1 _ _ _ _ L.length rfl rfl rfl rfl (by rw [hz2]; omega) (by unfold maxLen; omega) (Nat.le_refl _) ?_)
  intro w1 hown hgrow
  have hb1 : Below w.heap.size w w1 := (Below.refl _ _).grown hgrow (Nat.le_refl _) (fun k hk => by cases hk)
  have H1 : Hid (RowO w1 w.heap.size w.heap.size L.length []) := ⟨⟨_, hown, fun j hj => absurd hj (by simp)⟩, fun x hx => absurd hx (by simp)⟩
  clear hown hgrow
  go_wp2_with fail
  go_loopw [4] (fun i wr => ∃ (k : Nat) (M : List Ov), k ≤ L.length ∧ i = .int .i64 k ∧ M.length = k ∧ Hid (∀ j, j < k → (ovAt M j).same (ovAt L j)) ∧ Hid (RowO wr w.heap.size w.heap.size L.length M) ∧ Below w.heap.size w wr) (fun i _ => L.length - (intOf i).toNat)
  case atStart => exact ⟨0, [], Nat.zero_le _, rfl, rfl, fun j hj => absurd hj (Nat.not_lt_zero _), H1, hb1⟩
  case round =>
    clear H1 hb1
    obtain ⟨k, M, hk, rfl, hMk, HS, HR, hbel⟩ := hrel
    by_cases hlt : k < L.length
    · obtain ⟨g, off, rfl, hg, hcs⟩ := hrow (by omega)
      have hx := (hcs k hlt).below (hbel.mono hC) hg
      have hxd := (hdv _ (ovAt_mem hlt)).below (hbel.mono hC)
      have hdl := hd _ (ovAt_mem hlt)
      have HSN : Hid (∀ y : Ov, y.same (ovAt L k) → ∀ j, j < k + 1 → (ovAt (M ++ [y]) j).same (ovAt L j)) := fun y hy => same_snoc hMk hlt HS.out hy
      have hsz := hbel.size
      have j0 : (0 : Int) ≤ (k : Int) := by omega
      have j1 : (k : Int) < (L.length : Int) := by omega
      have j2 : (k : Int) + 1 < 9223372036854775808 := by omega
      generalize ovAt L k = x at *
      obtain ⟨xa, xs, xt, xdv, xk, xo, xn, xu, xpt, xpa, xky, xtx, xds⟩ := x
      obtain ⟨c0, c1, c2, c3, c4, c5, c6, c7, c8, c9, c10, c11⟩ := hx
      simp only at c0 c1 c2 c3 c4 c5 c6 c7 c8 c9 c10 c11 hxd hdl
      have hto := toOp_any C xa xs xt xk xo xn xu xpt xpa xdv xky xtx xds wr hdl (by omega) hxd
      clear hcs hdv hrow hd hxd
      go_wp2_with ((go_at_call 14; refine hto.mono ?_; rintro e w9 ⟨ya, yc, rfl, hO9, hb9⟩; have HR9 : Hid (RowO w9 w.heap.size w.heap.size L.length M) := RowO.on HR.out hb9; have HB9 : Hid (Below w.heap.size w w9) := below_seq hbel hb9; have hth := HR9.out.there hlt; have HN : Hid (RowO (w9.setCells w.heap.size (M.length * 12) (Ov.cs ⟨xa, xs, xt, .slice ya xds.length yc, xk, xo, xn, xu, xpt, xpa, xky, xtx, xds⟩)) w.heap.size w.heap.size L.length (M ++ [⟨xa, xs, xt, .slice ya xds.length yc, xk, xo, xn, xu, xpt, xpa, xky, xtx, xds⟩])) := HR9.out.put (by omega) ⟨xa, xs, xt, .slice ya xds.length yc, xk, xo, xn, xu, xpt, xpa, xky, xtx, xds⟩ (hO9.mono (by have := HR.out.lt; omega)); rw [hMk, show Ov.cs ⟨xa, xs, xt, .slice ya xds.length yc, xk, xo, xn, xu, xpt, xpa, xky, xtx, xds⟩ = [.int .i64 xa, .int .i64 xs, .int .i64 xt, .slice ya xds.length yc, .int .i64 xk, .int .i64 xo, .int .i64 xn, .int .i64 xu, .int .i64 xpt, .int .i64 xpa, .string xky, .string xtx] from rfl, set12] at HN; have HB8 : Hid (Below w.heap.size w (w9.setCells w.heap.size (k * 12) [.int .i64 xa, .int .i64 xs, .int .i64 xt, .slice ya xds.length yc, .int .i64 xk, .int .i64 xo, .int .i64 xn, .int .i64 xu, .int .i64 xpt, .int .i64 xpa, .string xky, .string xtx])) := below_setCellsO (Nat.le_refl _) _ _ _ HB9.out; rw [set12] at HB8; obtain ⟨⟨u0, e0⟩, f0⟩ : (∃ u, w9.cell? ⟨w.heap.size, k * 12, none⟩ = some u) ∧ w9.frozen? ⟨w.heap.size, k * 12, none⟩ = false := ⟨Option.isSome_iff_exists.1 (hth 0 (by omega)).1, (hth 0 (by omega)).2⟩; obtain ⟨⟨u1, e1⟩, f1⟩ : (∃ u, w9.cell? ⟨w.heap.size, k * 12 + 1, none⟩ = some u) ∧ w9.frozen? ⟨w.heap.size, k * 12 + 1, none⟩ = false := ⟨Option.isSome_iff_exists.1 (hth 1 (by omega)).1, (hth 1 (by omega)).2⟩; obtain ⟨⟨u2, e2⟩, f2⟩ : (∃ u, w9.cell? ⟨w.heap.size, k * 12 + 2, none⟩ = some u) ∧ w9.frozen? ⟨w.heap.size, k * 12 + 2, none⟩ = false := ⟨Option.isSome_iff_exists.1 (hth 2 (by omega)).1, (hth 2 (by omega)).2⟩; obtain ⟨⟨u3, e3⟩, f3⟩ : (∃ u, w9.cell? ⟨w.heap.size, k * 12 + 3, none⟩ = some u) ∧ w9.frozen? ⟨w.heap.size, k * 12 + 3, none⟩ = false := ⟨Option.isSome_iff_exists.1 (hth 3 (by omega)).1, (hth 3 (by omega)).2⟩; obtain ⟨⟨u4, e4⟩, f4⟩ : (∃ u, w9.cell? ⟨w.heap.size, k * 12 + 4, none⟩ = some u) ∧ w9.frozen? ⟨w.heap.size, k * 12 + 4, none⟩ = false := ⟨Option.isSome_iff_exists.1 (hth 4 (by omega)).1, (hth 4 (by omega)).2⟩; obtain ⟨⟨u5, e5⟩, f5⟩ : (∃ u, w9.cell? ⟨w.heap.size, k * 12 + 5, none⟩ = some u) ∧ w9.frozen? ⟨w.heap.size, k * 12 + 5, none⟩ = false := ⟨Option.isSome_iff_exists.1 (hth 5 (by omega)).1, (hth 5 (by omega)).2⟩; obtain ⟨⟨u6, e6⟩, f6⟩ : (∃ u, w9.cell? ⟨w.heap.size, k * 12 + 6, none⟩ = some u) ∧ w9.frozen? ⟨w.heap.size, k * 12 + 6, none⟩ = false := ⟨Option.isSome_iff_exists.1 (hth 6 (by omega)).1, (hth 6 (by omega)).2⟩; obtain ⟨⟨u7, e7⟩, f7⟩ : (∃ u, w9.cell? ⟨w.heap.size, k * 12 + 7, none⟩ = some u) ∧ w9.frozen? ⟨w.heap.size, k * 12 + 7, none⟩ = false := ⟨Option.isSome_iff_exists.1 (hth 7 (by omega)).1, (hth 7 (by omega)).2⟩; obtain ⟨⟨u8, e8⟩, f8⟩ : (∃ u, w9.cell? ⟨w.heap.size, k * 12 + 8, none⟩ = some u) ∧ w9.frozen? ⟨w.heap.size, k * 12 + 8, none⟩ = false := ⟨Option.isSome_iff_exists.1 (hth 8 (by omega)).1, (hth 8 (by omega)).2⟩; obtain ⟨⟨u9, e9⟩, f9⟩ : (∃ u, w9.cell? ⟨w.heap.size, k * 12 + 9, none⟩ = some u) ∧ w9.frozen? ⟨w.heap.size, k * 12 + 9, none⟩ = false := ⟨Option.isSome_iff_exists.1 (hth 9 (by omega)).1, (hth 9 (by omega)).2⟩; obtain ⟨⟨u10, e10⟩, f10⟩ : (∃ u, w9.cell? ⟨w.heap.size, k * 12 + 10, none⟩ = some u) ∧ w9.frozen? ⟨w.heap.size, k * 12 + 10, none⟩ = false := ⟨Option.isSome_iff_exists.1 (hth 10 (by omega)).1, (hth 10 (by omega)).2⟩; obtain ⟨⟨u11, e11⟩, f11⟩ : (∃ u, w9.cell? ⟨w.heap.size, k * 12 + 11, none⟩ = some u) ∧ w9.frozen? ⟨w.heap.size, k * 12 + 11, none⟩ = false := ⟨Option.isSome_iff_exists.1 (hth 11 (by omega)).1, (hth 11 (by omega)).2⟩; clear hth hto c0 c1 c2 c3 c4 c5 c6 c7 c8 c9 c10 c11 hO9 hb9 HR HR9 hbel))
      exact ⟨⟨k + 1, M ++ [⟨xa, xs, xt, .slice ya xds.length yc, xk, xo, xn, xu, xpt, xpa, xky, xtx, xds⟩], by omega, by go_num, by simp [hMk], HSN.out _ ⟨rfl, rfl, rfl, rfl, rfl, rfl, rfl, rfl, rfl, rfl, rfl, rfl⟩, HN, HB8.out⟩, by simp [intOf]; omega⟩
    · obtain rfl : k = L.length := by omega
      go_wp2_with fail
      go_ret
      exact ⟨rfl, ⟨M, ⟨hMk, HS.out⟩, HR.out⟩, hbel⟩
end Go.Proofs.YtgmhfhjmepkchaaGreat

namespace Go.Proofs.YtgmhfhjmepkchaaGreat
open Go.RowKit
set_option linter.unusedVariables false

theorem same_ok {x y : Ov} (h : x.same y) : x.ok = y.ok := by
  obtain ⟨h1, h2, h3, h4, h5, h6, h7, h8, h9, h10, h11, h12⟩ := h
  unfold Ov.ok
  rw [h1, h2, h3, h4, h5, h6, h7, h8, h9, h10, h11, h12]
theorem same_refl (x : Ov) : x.same x := ⟨rfl, rfl, rfl, rfl, rfl, rfl, rfl, rfl, rfl, rfl, rfl, rfl⟩
/-- Two lists say the same. -/
inductive Sm : List Ov → List Ov → Prop where
  | nil : Sm [] []
  | cons {x y : Ov} {M L : List Ov} : x.same y → Sm M L → Sm (x :: M) (y :: L)
theorem sm_of : ∀ (M L : List Ov), SameL M L → Sm M L
  | [], [], _ => .nil
  | [], y :: L, h => by have := h.1; simp at this
  | x :: M, [], h => by have := h.1; simp at this
  | x :: M, y :: L, h => .cons (h.2 0 (by simp)) (sm_of M L ⟨by have := h.1; simpa using this, fun k hk => h.2 (k + 1) (by simpa using hk)⟩)
theorem Sm.len {M L : List Ov} (h : Sm M L) : M.length = L.length := by
  induction h with
  | nil => rfl
  | cons _ _ ih => simp [ih]
theorem Sm.at {M L : List Ov} (h : Sm M L) : ∀ k, (ovAt M k).same (ovAt L k) := by
  induction h with
  | nil => intro k; exact same_refl _
  | cons hx _ ih =>
    intro k
    cases k with
    | zero => exact hx
    | succ k => exact ih k
theorem Sm.take {M L : List Ov} (h : Sm M L) : ∀ k, Sm (M.take k) (L.take k) := by
  induction h with
  | nil => intro k; simp; exact .nil
  | cons hx _ ih =>
    intro k
    cases k with
    | zero => exact .nil
    | succ k => exact .cons hx (ih k)
theorem Sm.byA {M L : List Ov} (h : Sm M L) (a : Nat) : Sm (byA M a) (byA L a) := by
  induction h with
  | nil => exact .nil
  | cons hx _ ih =>
    unfold Go.Proofs.YtgmhfhjmepkchaaGreat.byA at ih ⊢
    simp only [List.filter_cons, hx.1]
    split
    · exact .cons hx ih
    · exact ih
theorem Sm.ts {M L : List Ov} (h : Sm M L) : tsOf M = tsOf L := by
  unfold tsOf
  generalize List.replicate 101 (0 : Int) = ts
  induction h generalizing ts with
  | nil => rfl
  | cons hx _ ih =>
    obtain ⟨h1, h2, h3, h4, h5, h6, _⟩ := hx
    simp only [List.foldl_cons, h5, h6]
    exact ih _
theorem Sm.cause {M L : List Ov} (h : Sm M L) {x y : Ov} (hxy : x.same y) (a : Nat) : causeOK M x a = causeOK L y a := by
  obtain ⟨h1, h2, h3, h4, _⟩ := hxy
  have hb := h.byA a
  have ha := hb.at (y.ds.getD a 0 - 1).toNat
  unfold causeOK
  rw [h1, h3, h4, hb.len, ha.1, ha.2.2.1]
theorem Sm.causes {M L : List Ov} (h : Sm M L) {x y : Ov} (hxy : x.same y) : causesB M x = causesB L y := by
  unfold causesB
  rw [show causeOK M x = causeOK L y from funext (h.cause hxy)]
theorem Sm.step {M L : List Ov} (h : Sm M L) (i : Nat) : stepI M i = stepI L i := by
  have ha := h.at i
  have hp := h.at (i - 1)
  have ht := h.take i
  unfold stepI nextB suitB
  rw [same_ok ha, ht.ts, (ht.byA _).len, ha.1, ha.2.1, ha.2.2.2.2.1, ha.2.2.2.2.2.1, hp.1]
theorem Sm.all {M L : List Ov} (h : Sm M L) {A B : List Ov} (hA : Sm A B) : A.all (causesB M) = B.all (causesB L) := by
  induction hA with
  | nil => rfl
  | cons hx _ ih => simp only [List.all_cons, h.causes hx, ih]
theorem logI_same {M L : List Ov} (h : SameL M L) : logI M = logI L := by
  have hs := sm_of M L h
  unfold logI
  rw [hs.len, show stepI M = stepI L from funext hs.step, hs.all hs]
end Go.Proofs.YtgmhfhjmepkchaaGreat

namespace Go.Proofs.YtgmhfhjmepkchaaGreat
open Go.RowKit
set_option linter.unusedVariables false

def SzOne (m l : Nat) (z : Int) : Prop := z = -1 ∨ ∃ q : Nat, z = (q : Int) ∧ q ≤ l ∧ m ≤ l
def SzAll (L : List Ov) (z : Int) : Prop := z = -1 ∨ ∃ q : Nat, z = (q : Int) ∧ q ≤ 1048576 ∧ L.length ≤ 1048576 ∧ ∀ x ∈ L, x.ds.length ≤ 1048576
theorem oplaw_cells {w w1 : World} {c0 c1 c2 c3 c4 c5 c6 c7 c8 c9 c10 c11 : Value} {T : TypeId} (h : Below (w.alloc (.cells #[c0, c1, c2, c3, c4, c5, c6, c7, c8, c9, c10, c11] T)).heap.size (w.alloc (.cells #[c0, c1, c2, c3, c4, c5, c6, c7, c8, c9, c10, c11] T)) w1) : w1.cell? ⟨w.heap.size, 10, none⟩ = some c10 ∧ w1.cell? ⟨w.heap.size, 11, none⟩ = some c11 :=
  ⟨cell_made h (k := 10) rfl, cell_made h (k := 11) rfl⟩

set_option maxHeartbeats 1000000 in
set_option maxRecDepth 100000 in
theorem szOp_any (a s t k o n u pt pa : Int) (da : Option Addr) (m dc : Nat) (ky tx : ByteArray) (l : Nat) (w : World) (hl : l ≤ 1048576) (hm : m ≤ maxLen) (hk : ky.size ≤ maxLen) (ht : tx.size ≤ maxLen) :
    Calls Tryz.prog 9 #[.agg #[.int .i64 a, .int .i64 s, .int .i64 t, .slice da m dc, .int .i64 k, .int .i64 o, .int .i64 n, .int .i64 u, .int .i64 pt, .int .i64 pa, .string ky, .string tx], .int .i64 (l : Int)] w fun e w' =>
      (∃ z : Int, e = .returned (.int .i64 z) ∧ SzOne m l z) ∧ Below w.heap.size w w' := by
  unfold maxLen at hm hk ht
  have hB := Below.refl (w.alloc (.cells #[.int .i64 a, .int .i64 s, .int .i64 t, .slice da m dc, .int .i64 k, .int .i64 o, .int .i64 n, .int .i64 u, .int .i64 pt, .int .i64 pa, .string ky, .string tx] 37)).heap.size (w.alloc (.cells #[.int .i64 a, .int .i64 s, .int .i64 t, .slice da m dc, .int .i64 k, .int .i64 o, .int .i64 n, .int .i64 u, .int .i64 pt, .int .i64 pa, .string ky, .string tx] 37))
  have hS := fun w => szVector_any da m dc l hl (by unfold maxLen; omega) w
  by_cases h1 : m ≤ l
  · rw [if_pos h1] at hS
    have hn1 : ¬ ((l - m : Nat) : Int) < 0 := by omega
    by_cases h2 : ky.size ≤ l - m
    · have g2 : ¬ ((l - m : Nat) : Int) - (ky.size : Int) < 0 := by omega
      by_cases h3 : tx.size ≤ l - m - ky.size
      · have g3 : ¬ ((l - m : Nat) : Int) - (ky.size : Int) - (tx.size : Int) < 0 := by omega
        go_enter Tryz.func9, Tryz.ntmps9
        go_wp2_with ((go_at_call 20; refine (hS _).mono ?_; rintro e w1 ⟨rfl, hb⟩; replace hB := below_seq hB hb; obtain ⟨c10, c11⟩ := oplaw_cells hB; clear hb))
        go_ret
        exact ⟨⟨_, rfl, .inr ⟨l - m - ky.size - tx.size, by omega, by omega, h1⟩⟩, below_seq (below_alloc _ _) hB⟩
      · have g3 : ((l - m : Nat) : Int) - (ky.size : Int) - (tx.size : Int) < 0 := by omega
        go_enter Tryz.func9, Tryz.ntmps9
        go_wp2_with ((go_at_call 20; refine (hS _).mono ?_; rintro e w1 ⟨rfl, hb⟩; replace hB := below_seq hB hb; obtain ⟨c10, c11⟩ := oplaw_cells hB; clear hb))
        go_ret
        exact ⟨⟨_, rfl, .inl rfl⟩, below_seq (below_alloc _ _) hB⟩
    · have g2 : ((l - m : Nat) : Int) - (ky.size : Int) < 0 := by omega
      go_enter Tryz.func9, Tryz.ntmps9
      go_wp2_with ((go_at_call 20; refine (hS _).mono ?_; rintro e w1 ⟨rfl, hb⟩; replace hB := below_seq hB hb; obtain ⟨c10, c11⟩ := oplaw_cells hB; clear hb))
      go_ret
      exact ⟨⟨_, rfl, .inl rfl⟩, below_seq (below_alloc _ _) hB⟩
  · rw [if_neg h1] at hS
    go_enter Tryz.func9, Tryz.ntmps9
    go_wp2_with ((go_at_call 20; refine (hS _).mono ?_; rintro e w1 ⟨rfl, hb⟩; replace hB := below_seq hB hb; obtain ⟨c10, c11⟩ := oplaw_cells hB; clear hb))
    go_ret
    exact ⟨⟨_, rfl, .inl rfl⟩, below_seq (below_alloc _ _) hB⟩

set_option maxHeartbeats 2000000 in
set_option maxRecDepth 100000 in
theorem szOpS_from (l0 : Nat) (hl0 : l0 ≤ 1048576) (C : Nat) (w : World) (v : Value) (L : List Ov) (hC : C ≤ w.heap.size) (hr : RdO C w v L) (ht : ∀ x ∈ L, x.ky.size ≤ maxLen ∧ x.tx.size ≤ maxLen) :
    Calls Tryz.prog 4 #[v, .int .i64 (l0 : Int)] w fun e w' =>
      (∃ z : Int, e = .returned (.int .i64 z) ∧ SzAll L z) ∧ Below w.heap.size w w' := by
  obtain ⟨⟨ao, cap, rfl, hcap, hmax, hnil, hrow⟩, hdv⟩ := hr
  unfold maxLen at hmax
  by_cases h0 : L.length ≤ l0
  · have hn0 : ¬ (l0 : Int) - (L.length : Int) < 0 := by omega
    go_enter Tryz.func4, Tryz.ntmps4
    go_wp2_with fail
    go_loopw [1, 5] (fun tl ti wr => ∃ (k : Nat) (x : Int), k ≤ L.length ∧ ti = .int .i64 (k : Int) ∧ tl = .int .i64 x ∧ 0 ≤ x ∧ x ≤ 1048576 ∧ Below w.heap.size w wr ∧ Hid (∀ j, j < k → (ovAt L j).ds.length ≤ 1048576)) (fun _ ti _ => L.length - (intOf ti).toNat)
    case atStart => exact ⟨0, _, Nat.zero_le _, rfl, rfl, by omega, by omega, Below.refl _ _, fun j hj => absurd hj (by omega)⟩
    case round =>
      have H0 : Hid (L.length ≤ 1048576) := Nat.le_trans h0 hl0
      clear hn0 h0
      obtain ⟨k, x, hk, rfl, rfl, x0, hl, hbel, HA⟩ := hrel
      obtain ⟨l, rfl⟩ := Int.eq_ofNat_of_zero_le x0
      by_cases hlt : k < L.length
      · have hki : (k : Int) < (L.length : Int) := by omega
        have hk2 : (k : Int) + 1 < 9223372036854775808 := by omega
        have hsz := hbel.size
        obtain ⟨g, off, rfl, hg, hcs⟩ := hrow (by omega)
        have hx := (hcs k hlt).below (hbel.mono hC) hg
        have hxd := hdv _ (ovAt_mem hlt)
        have htx := ht _ (ovAt_mem hlt)
        have HN : Hid ((ovAt L k).ds.length ≤ 1048576 → Hid (∀ j, j < k + 1 → (ovAt L j).ds.length ≤ 1048576)) := fun h j hj => by
          by_cases e : j = k
          · subst e; exact h
          · exact HA.out j (by omega)
        generalize ovAt L k = x at *
        obtain ⟨xa, xs, xt, xdv, xk, xo, xn, xu, xpt, xpa, xky, xtx, xds⟩ := x
        obtain ⟨c0, c1, c2, c3, c4, c5, c6, c7, c8, c9, c10, c11⟩ := hx
        simp only at c0 c1 c2 c3 c4 c5 c6 c7 c8 c9 c10 c11 hxd htx HN
        obtain ⟨da, dc, rfl, hdc, hdm, _⟩ := hxd
        rw [List.length_map] at c3 hdc
        have hz := szOp_any xa xs xt xk xo xn xu xpt xpa da xds.length dc xky xtx l wr (by omega) (by omega) htx.1 htx.2
        clear hcs hdv hrow ht HA
        go_wp2_with fail
        refine hz.mono ?_
        rintro e w1 ⟨⟨z, rfl, hzz⟩, hb⟩
        replace hbel := below_seq hbel hb
        clear hb hz c0 c1 c2 c3 c4 c5 c6 c7 c8 c9 c10 c11
        rcases hzz with rfl | ⟨q, hzq, hq, hm⟩
        · go_wp2_with fail
          go_ret
          exact ⟨⟨_, rfl, .inl rfl⟩, hbel⟩
        · have HE := HN.out (by omega)
          have z0 : decide (z < 0) = false := by simp; omega
          have z1 : 0 ≤ z := by omega
          have z2 : z ≤ 1048576 := by omega
          clear HN hdc hdm hm htx hl hq hzq x0
          go_wp2_with fail
          go_roundw
          case rel => exact ⟨k + 1, z, by omega, by go_num, rfl, z1, z2, hbel, HE⟩
          case measure => simp [intOf]; omega
      · have hki : ¬ (k : Int) < (L.length : Int) := by omega
        have HE : Hid (∀ x ∈ L, x.ds.length ≤ 1048576) := fun x hx => by
          obtain ⟨i, hi, rfl⟩ := List.getElem_of_mem hx
          have := HA.out i (by omega)
          rwa [show ovAt L i = L[i] by have := ovAt_get hi; rw [List.getElem?_eq_getElem hi] at this; exact (Option.some.inj this).symm] at this
        go_wp2_with fail
        go_ret
        exact ⟨⟨_, rfl, .inr ⟨l, rfl, by omega, H0.out, HE.out⟩⟩, hbel⟩
  · have hn0 : (l0 : Int) - (L.length : Int) < 0 := by omega
    go_enter Tryz.func4, Tryz.ntmps4
    go_wp2_with fail
    go_ret
    exact ⟨⟨_, rfl, .inl rfl⟩, Below.refl _ _⟩
theorem szOpS_any (C : Nat) (w : World) (v : Value) (L : List Ov) (hC : C ≤ w.heap.size) (hr : RdO C w v L) (ht : ∀ x ∈ L, x.ky.size ≤ maxLen ∧ x.tx.size ≤ maxLen) :
    Calls Tryz.prog 4 #[v, .int .i64 1048576] w fun e w' =>
      (∃ z : Int, e = .returned (.int .i64 z) ∧ SzAll L z) ∧ Below w.heap.size w w' := szOpS_from 1048576 (Nat.le_refl _) C w v L hC hr ht
end Go.Proofs.YtgmhfhjmepkchaaGreat
