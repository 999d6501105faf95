/- The laws' own functions over operations: that two alike are alike, and their size. The law on LogOK, walked: over what the specification's LogOK answers (hsp). The laws' own functions over operations: a list of the call's own is written over; all else is as it was. The law on LogBytes, walked: over what both functions answer. The specification's l08Column. The specification's l08Bytes and LogBytes. Operations in a row of the call's own, what they count parted from one arena: written over, each cell known. -/
import Derived.Deep.RegionHeld2
import Derived.Deep.MidRow
import Derived.Deep.AppendLies
import Derived.Test.YtaglbacicpknaaaGreatQOpToToLawKit
import Derived.Test.YtaglbacicpknaaaGreatQStampLessWalkToPutRunsImpl2
import Derived.Test.YtaglbacicpknaaaGreatQTextsCells
import Derived.Test.YtaglbacicpknaaaGreatQLedClosedToCausesQ
import Derived.Test.YtaglbacicpknaaaGreatQInfoToSignSpec
import Derived.Test.YtaglbacicpknaaaGreatQOpByMathToLogByMath
import Derived.Test.YtaglbacicpknaaaGreatQOpRangeToLogColumns
import Derived.Test.YtaglbacicpknaaaGreatQTextsToPutTextsImpl
namespace Go.Proofs.YtaglbacicpknaaaGreat
open Go.RowKit
set_option linter.unusedVariables false

set_option maxHeartbeats 2000000 in
set_option maxRecDepth 100000 in
theorem eqOp_same (C C' : Nat) (a s t k o n u pt pa : Int) (da db : Value) (ky tx : ByteArray) (ds : List Int) (w : World) (hl : ds.length ≤ 1048576) (hC : C ≤ w.heap.size) (hC' : C' ≤ w.heap.size) (ha : Rd C w da (ds.map (Value.int .i64))) (hb : Rd C' w db (ds.map (Value.int .i64))) :
    Calls Tryz.prog 23 #[.agg #[.int .i64 a, .int .i64 s, .int .i64 t, da, .int .i64 k, .int .i64 o, .int .i64 n, .int .i64 u, .int .i64 pt, .int .i64 pa, .string ky, .string tx], .agg #[.int .i64 a, .int .i64 s, .int .i64 t, db, .int .i64 k, .int .i64 o, .int .i64 n, .int .i64 u, .int .i64 pt, .int .i64 pa, .string ky, .string tx]] w fun e w' => e = .returned (.bool true) ∧ Below w.heap.size w w' := by
  have hB := Below.refl ((w.alloc (.cells #[.int .i64 a, .int .i64 s, .int .i64 t, da, .int .i64 k, .int .i64 o, .int .i64 n, .int .i64 u, .int .i64 pt, .int .i64 pa, .string ky, .string tx] 47)).alloc (.cells #[.int .i64 a, .int .i64 s, .int .i64 t, db, .int .i64 k, .int .i64 o, .int .i64 n, .int .i64 u, .int .i64 pt, .int .i64 pa, .string ky, .string tx] 47)).heap.size ((w.alloc (.cells #[.int .i64 a, .int .i64 s, .int .i64 t, da, .int .i64 k, .int .i64 o, .int .i64 n, .int .i64 u, .int .i64 pt, .int .i64 pa, .string ky, .string tx] 47)).alloc (.cells #[.int .i64 a, .int .i64 s, .int .i64 t, db, .int .i64 k, .int .i64 o, .int .i64 n, .int .i64 u, .int .i64 pt, .int .i64 pa, .string ky, .string tx] 47))
  have hE : ∀ w1, Below ((w.alloc (.cells #[.int .i64 a, .int .i64 s, .int .i64 t, da, .int .i64 k, .int .i64 o, .int .i64 n, .int .i64 u, .int .i64 pt, .int .i64 pa, .string ky, .string tx] 47)).alloc (.cells #[.int .i64 a, .int .i64 s, .int .i64 t, db, .int .i64 k, .int .i64 o, .int .i64 n, .int .i64 u, .int .i64 pt, .int .i64 pa, .string ky, .string tx] 47)).heap.size ((w.alloc (.cells #[.int .i64 a, .int .i64 s, .int .i64 t, da, .int .i64 k, .int .i64 o, .int .i64 n, .int .i64 u, .int .i64 pt, .int .i64 pa, .string ky, .string tx] 47)).alloc (.cells #[.int .i64 a, .int .i64 s, .int .i64 t, db, .int .i64 k, .int .i64 o, .int .i64 n, .int .i64 u, .int .i64 pt, .int .i64 pa, .string ky, .string tx] 47)) w1 → Calls Tryz.prog 46 #[.agg #[da], .agg #[db]] w1 fun e w' => e = .returned (.bool true) ∧ Below w1.heap.size w1 w' := fun w1 h => by
    have h1 : Below w.heap.size w w1 := below_seq (below_then (below_alloc _ _) _) h
    have := h1.size
    exact eqVector_same C C' w1 da db ds (by omega) (by omega) (by omega) (ha.below (h1.mono hC)) (hb.below (h1.mono hC'))
  obtain ⟨p0, p1, p2, p3, p4, p5, p6, p7, p8, p9, p10, p11⟩ := op_cells (below_seq (below_alloc (w.alloc (.cells #[.int .i64 a, .int .i64 s, .int .i64 t, da, .int .i64 k, .int .i64 o, .int .i64 n, .int .i64 u, .int .i64 pt, .int .i64 pa, .string ky, .string tx] 47)) (.cells #[.int .i64 a, .int .i64 s, .int .i64 t, db, .int .i64 k, .int .i64 o, .int .i64 n, .int .i64 u, .int .i64 pt, .int .i64 pa, .string ky, .string tx] 47)) hB); obtain ⟨q0, q1, q2, q3, q4, q5, q6, q7, q8, q9, q10, q11⟩ := op_cells hB; rw [World.size_alloc] at q0 q1 q2 q3 q4 q5 q6 q7 q8 q9 q10 q11
  clear ha hb
  go_enter Tryz.func23, Tryz.ntmps23
  go_wp2_with (first | (go_at_call 46; refine (hE _ hB).mono ?_; clear hE p0 p1 p2 p3 p4 p5 p6 p7 p8 p9 p10 p11 q0 q1 q2 q3 q4 q5 q6 q7 q8 q9 q10 q11; rintro e w8 ⟨rfl, hb8⟩; replace hB := below_seq hB hb8; obtain ⟨p0, p1, p2, p3, p4, p5, p6, p7, p8, p9, p10, p11⟩ := op_cells (below_seq (below_alloc (w.alloc (.cells #[.int .i64 a, .int .i64 s, .int .i64 t, da, .int .i64 k, .int .i64 o, .int .i64 n, .int .i64 u, .int .i64 pt, .int .i64 pa, .string ky, .string tx] 47)) (.cells #[.int .i64 a, .int .i64 s, .int .i64 t, db, .int .i64 k, .int .i64 o, .int .i64 n, .int .i64 u, .int .i64 pt, .int .i64 pa, .string ky, .string tx] 47)) hB); obtain ⟨q0, q1, q2, q3, q4, q5, q6, q7, q8, q9, q10, q11⟩ := op_cells hB; rw [World.size_alloc] at q0 q1 q2 q3 q4 q5 q6 q7 q8 q9 q10 q11; clear hb8) | (go_at_call 47; refine (eqStamp_same pt pa _).mono ?_; clear p0 p1 p2 p3 p4 p5 p6 p7 p8 p9 p10 p11 q0 q1 q2 q3 q4 q5 q6 q7 q8 q9 q10 q11; rintro e w9 ⟨rfl, hb9⟩; replace hB := below_seq hB hb9; obtain ⟨p0, p1, p2, p3, p4, p5, p6, p7, p8, p9, p10, p11⟩ := op_cells (below_seq (below_alloc (w.alloc (.cells #[.int .i64 a, .int .i64 s, .int .i64 t, da, .int .i64 k, .int .i64 o, .int .i64 n, .int .i64 u, .int .i64 pt, .int .i64 pa, .string ky, .string tx] 47)) (.cells #[.int .i64 a, .int .i64 s, .int .i64 t, db, .int .i64 k, .int .i64 o, .int .i64 n, .int .i64 u, .int .i64 pt, .int .i64 pa, .string ky, .string tx] 47)) hB); obtain ⟨q0, q1, q2, q3, q4, q5, q6, q7, q8, q9, q10, q11⟩ := op_cells hB; rw [World.size_alloc] at q0 q1 q2 q3 q4 q5 q6 q7 q8 q9 q10 q11; clear hb9))
  go_ret
  exact ⟨rfl, below_seq (below_then (below_alloc _ _) _) hB⟩

set_option maxHeartbeats 4000000 in
set_option maxRecDepth 100000 in
theorem eqOpS_same (C C' : Nat) (w : World) (v v' : Value) (L M : List Ov) (hl : L.length ≤ 1048576) (hd : ∀ x ∈ L, x.ds.length ≤ 1048576) (hC : C ≤ w.heap.size) (hC' : C' ≤ w.heap.size) (hr : RdO C w v L) (hr' : RdO C' w v' M) (hS : SameL M L) :
    Calls Tryz.prog 9 #[v, v'] w fun e w' => e = .returned (.bool true) ∧ Below w.heap.size w w' := by
  obtain ⟨⟨ao, cap, rfl, hcap, hmax, hnil, hrow⟩, hdv⟩ := hr
  obtain ⟨⟨ao', cap', rfl, hcap', hmax', hnil', hrow'⟩, hdv'⟩ := hr'
  obtain ⟨hlen, hsame⟩ := hS
  rw [hlen] at hcap' hrow' ⊢
  go_enter Tryz.func9, Tryz.ntmps9
  go_wp2_with fail
  go_loopw [5] (fun ti wr => ∃ k : Nat, k ≤ L.length ∧ ti = .int .i64 (k : Int) ∧ Below w.heap.size w wr) (fun ti _ => L.length - (intOf ti).toNat)
  case atStart => exact ⟨0, Nat.zero_le _, rfl, Below.refl _ _⟩
  case round =>
    obtain ⟨k, hk, rfl, hbel⟩ := hrel
    by_cases hlt : k < L.length
    · have hki : (k : Int) < (L.length : Int) := by omega
      have hk2 : (k : Int) + 1 < 9223372036854775808 := by omega
      have hsz := hbel.size
      obtain ⟨ga, oa, rfl, hga, hcs⟩ := hrow (by omega)
      obtain ⟨gb, ob, rfl, hgb, hcs'⟩ := hrow' (by omega)
      have hx := (hcs k hlt).below (hbel.mono hC) hga
      have hy := (hcs' k hlt).below (hbel.mono hC') hgb
      have hxd := (hdv _ (ovAt_mem hlt)).below (hbel.mono hC)
      have hyd := (hdv' _ (ovAt_mem (by omega : k < M.length))).below (hbel.mono hC')
      have hdl := hd _ (ovAt_mem hlt)
      have hxy := hsame k hlt
      generalize ovAt L k = x at *
      generalize ovAt M k = y at *
      obtain ⟨a, s, t, da, k0, o, n, u, pt, pa, ky, tx, ds⟩ := x
      obtain ⟨a', s', t', db, k', o', n', u', pt', pa', ky', tx', ds'⟩ := y
      obtain ⟨e1, e2, e3, e4, e5, e6, e7, e8, e9, e10, e11, e12⟩ := hxy
      simp only at e1 e2 e3 e4 e5 e6 e7 e8 e9 e10 e11 e12 hxd hyd hdl
      subst e1 e2 e3 e4 e5 e6 e7 e8 e9 e10 e11 e12
      have hE : ∀ w1, Below wr.heap.size wr w1 → Calls Tryz.prog 23 #[.agg #[.int .i64 (a'), .int .i64 (s'), .int .i64 (t'), da, .int .i64 (k'), .int .i64 (o'), .int .i64 (n'), .int .i64 (u'), .int .i64 (pt'), .int .i64 (pa'), .string ky', .string tx'], .agg #[.int .i64 (a'), .int .i64 (s'), .int .i64 (t'), db, .int .i64 (k'), .int .i64 (o'), .int .i64 (n'), .int .i64 (u'), .int .i64 (pt'), .int .i64 (pa'), .string ky', .string tx']] w1 fun e w' => e = .returned (.bool true) ∧ Below w1.heap.size w1 w' := fun w1 h => eqOp_same C C' _ _ _ _ _ _ _ _ _ _ _ _ _ _ w1 hdl (by have := h.size; omega) (by have := h.size; omega) (hxd.below (h.mono (by omega))) (hyd.below (h.mono (by omega)))
      have hga2 : ga < wr.heap.size := by omega
      have hgb2 : gb < wr.heap.size := by omega
      have HF : Hid (∀ wx, Below wr.heap.size wr wx → wx.cell? ⟨ga, oa + k * 12, none⟩ = some (.int .i64 (a')) ∧ wx.cell? ⟨ga, oa + k * 12 + 1, none⟩ = some (.int .i64 (s')) ∧ wx.cell? ⟨ga, oa + k * 12 + 2, none⟩ = some (.int .i64 (t')) ∧ wx.cell? ⟨ga, oa + k * 12 + 3, none⟩ = some (da) ∧ wx.cell? ⟨ga, oa + k * 12 + 4, none⟩ = some (.int .i64 (k')) ∧ wx.cell? ⟨ga, oa + k * 12 + 5, none⟩ = some (.int .i64 (o')) ∧ wx.cell? ⟨ga, oa + k * 12 + 6, none⟩ = some (.int .i64 (n')) ∧ wx.cell? ⟨ga, oa + k * 12 + 7, none⟩ = some (.int .i64 (u')) ∧ wx.cell? ⟨ga, oa + k * 12 + 8, none⟩ = some (.int .i64 (pt')) ∧ wx.cell? ⟨ga, oa + k * 12 + 9, none⟩ = some (.int .i64 (pa')) ∧ wx.cell? ⟨ga, oa + k * 12 + 10, none⟩ = some (.string ky') ∧ wx.cell? ⟨ga, oa + k * 12 + 11, none⟩ = some (.string tx') ∧ wx.cell? ⟨gb, ob + k * 12, none⟩ = some (.int .i64 (a')) ∧ wx.cell? ⟨gb, ob + k * 12 + 1, none⟩ = some (.int .i64 (s')) ∧ wx.cell? ⟨gb, ob + k * 12 + 2, none⟩ = some (.int .i64 (t')) ∧ wx.cell? ⟨gb, ob + k * 12 + 3, none⟩ = some (db) ∧ wx.cell? ⟨gb, ob + k * 12 + 4, none⟩ = some (.int .i64 (k')) ∧ wx.cell? ⟨gb, ob + k * 12 + 5, none⟩ = some (.int .i64 (o')) ∧ wx.cell? ⟨gb, ob + k * 12 + 6, none⟩ = some (.int .i64 (n')) ∧ wx.cell? ⟨gb, ob + k * 12 + 7, none⟩ = some (.int .i64 (u')) ∧ wx.cell? ⟨gb, ob + k * 12 + 8, none⟩ = some (.int .i64 (pt')) ∧ wx.cell? ⟨gb, ob + k * 12 + 9, none⟩ = some (.int .i64 (pa')) ∧ wx.cell? ⟨gb, ob + k * 12 + 10, none⟩ = some (.string ky') ∧ wx.cell? ⟨gb, ob + k * 12 + 11, none⟩ = some (.string tx')) := fun wx h =>
        ⟨(hx.below h hga2).c0, (hx.below h hga2).c1, (hx.below h hga2).c2, (hx.below h hga2).c3, (hx.below h hga2).c4, (hx.below h hga2).c5, (hx.below h hga2).c6, (hx.below h hga2).c7, (hx.below h hga2).c8, (hx.below h hga2).c9, (hx.below h hga2).c10, (hx.below h hga2).c11, (hy.below h hgb2).c0, (hy.below h hgb2).c1, (hy.below h hgb2).c2, (hy.below h hgb2).c3, (hy.below h hgb2).c4, (hy.below h hgb2).c5, (hy.below h hgb2).c6, (hy.below h hgb2).c7, (hy.below h hgb2).c8, (hy.below h hgb2).c9, (hy.below h hgb2).c10, (hy.below h hgb2).c11⟩
      have hga' : ga < wr.heap.size := by omega
      have hgb' : gb < wr.heap.size := by omega
      have hB := (Below.refl wr.heap.size wr).drew
      clear hcs hcs' hx hy hxd hyd hdv hdv' hd hrow hrow' hsame
      go_wp2_with fail
      refine wp_region_held_drew (S := fun w' => w'.cell? ⟨ga, oa + k * 12, none⟩ = some (.int .i64 (a')) ∧ w'.cell? ⟨ga, oa + k * 12 + 1, none⟩ = some (.int .i64 (s')) ∧ w'.cell? ⟨ga, oa + k * 12 + 2, none⟩ = some (.int .i64 (t')) ∧ w'.cell? ⟨ga, oa + k * 12 + 3, none⟩ = some (da) ∧ w'.cell? ⟨ga, oa + k * 12 + 4, none⟩ = some (.int .i64 (k')) ∧ w'.cell? ⟨ga, oa + k * 12 + 5, none⟩ = some (.int .i64 (o')) ∧ w'.cell? ⟨ga, oa + k * 12 + 6, none⟩ = some (.int .i64 (n')) ∧ w'.cell? ⟨ga, oa + k * 12 + 7, none⟩ = some (.int .i64 (u')) ∧ w'.cell? ⟨ga, oa + k * 12 + 8, none⟩ = some (.int .i64 (pt')) ∧ w'.cell? ⟨ga, oa + k * 12 + 9, none⟩ = some (.int .i64 (pa')) ∧ w'.cell? ⟨ga, oa + k * 12 + 10, none⟩ = some (.string ky') ∧ w'.cell? ⟨ga, oa + k * 12 + 11, none⟩ = some (.string tx') ∧ w'.cell? ⟨gb, ob + k * 12, none⟩ = some (.int .i64 (a')) ∧ w'.cell? ⟨gb, ob + k * 12 + 1, none⟩ = some (.int .i64 (s')) ∧ w'.cell? ⟨gb, ob + k * 12 + 2, none⟩ = some (.int .i64 (t')) ∧ w'.cell? ⟨gb, ob + k * 12 + 3, none⟩ = some (db) ∧ w'.cell? ⟨gb, ob + k * 12 + 4, none⟩ = some (.int .i64 (k')) ∧ w'.cell? ⟨gb, ob + k * 12 + 5, none⟩ = some (.int .i64 (o')) ∧ w'.cell? ⟨gb, ob + k * 12 + 6, none⟩ = some (.int .i64 (n')) ∧ w'.cell? ⟨gb, ob + k * 12 + 7, none⟩ = some (.int .i64 (u')) ∧ w'.cell? ⟨gb, ob + k * 12 + 8, none⟩ = some (.int .i64 (pt')) ∧ w'.cell? ⟨gb, ob + k * 12 + 9, none⟩ = some (.int .i64 (pa')) ∧ w'.cell? ⟨gb, ob + k * 12 + 10, none⟩ = some (.string ky') ∧ w'.cell? ⟨gb, ob + k * 12 + 11, none⟩ = some (.string tx')) (by kernel_rfl) (HF.out _ hB) (fun hHeld => ?_)
      refine tkH 0 (.slice (some ⟨ga, oa, none⟩) L.length cap) rfl (Or.inl ⟨by kernel_rfl, by intro w hSw; obtain ⟨s0, s1, s2, s3, s4, s5, s6, s7, s8, s9, s10, s11, s12, s13, s14, s15, s16, s17, s18, s19, s20, s21, s22, s23⟩ := hSw; go_simp⟩) hHeld ?_
      simp only [tkS, Act.put]
      refine tkH 1 (.int .i64 ((k : Int))) rfl (Or.inl ⟨by kernel_rfl, by intro w hSw; obtain ⟨s0, s1, s2, s3, s4, s5, s6, s7, s8, s9, s10, s11, s12, s13, s14, s15, s16, s17, s18, s19, s20, s21, s22, s23⟩ := hSw; go_simp⟩) hHeld ?_
      simp only [tkS, Act.put]
      refine tkH 2 (.pointer (some ⟨ga, oa + k * 12, none⟩)) rfl (Or.inl ⟨by kernel_rfl, by intro w hSw; obtain ⟨s0, s1, s2, s3, s4, s5, s6, s7, s8, s9, s10, s11, s12, s13, s14, s15, s16, s17, s18, s19, s20, s21, s22, s23⟩ := hSw; go_simp⟩) hHeld ?_
      simp only [tkS, Act.put]
      refine tkH 3 (.agg #[.int .i64 (a'), .int .i64 (s'), .int .i64 (t'), da, .int .i64 (k'), .int .i64 (o'), .int .i64 (n'), .int .i64 (u'), .int .i64 (pt'), .int .i64 (pa'), .string ky', .string tx']) rfl (Or.inl ⟨by kernel_rfl, by intro w hSw; obtain ⟨s0, s1, s2, s3, s4, s5, s6, s7, s8, s9, s10, s11, s12, s13, s14, s15, s16, s17, s18, s19, s20, s21, s22, s23⟩ := hSw; go_simp⟩) hHeld ?_
      simp only [tkS, Act.put]
      refine tkH 4 (.slice (some ⟨gb, ob, none⟩) L.length cap') rfl (Or.inl ⟨by kernel_rfl, by intro w hSw; obtain ⟨s0, s1, s2, s3, s4, s5, s6, s7, s8, s9, s10, s11, s12, s13, s14, s15, s16, s17, s18, s19, s20, s21, s22, s23⟩ := hSw; go_simp⟩) hHeld ?_
      simp only [tkS, Act.put]
      refine tkH 5 (.int .i64 ((k : Int))) rfl (Or.inl ⟨by kernel_rfl, by intro w hSw; obtain ⟨s0, s1, s2, s3, s4, s5, s6, s7, s8, s9, s10, s11, s12, s13, s14, s15, s16, s17, s18, s19, s20, s21, s22, s23⟩ := hSw; go_simp⟩) hHeld ?_
      simp only [tkS, Act.put]
      refine tkH 6 (.pointer (some ⟨gb, ob + k * 12, none⟩)) rfl (Or.inl ⟨by kernel_rfl, by intro w hSw; obtain ⟨s0, s1, s2, s3, s4, s5, s6, s7, s8, s9, s10, s11, s12, s13, s14, s15, s16, s17, s18, s19, s20, s21, s22, s23⟩ := hSw; go_simp⟩) hHeld ?_
      simp only [tkS, Act.put]
      refine tkH 7 (.agg #[.int .i64 (a'), .int .i64 (s'), .int .i64 (t'), db, .int .i64 (k'), .int .i64 (o'), .int .i64 (n'), .int .i64 (u'), .int .i64 (pt'), .int .i64 (pa'), .string ky', .string tx']) rfl (Or.inl ⟨by kernel_rfl, by intro w hSw; obtain ⟨s0, s1, s2, s3, s4, s5, s6, s7, s8, s9, s10, s11, s12, s13, s14, s15, s16, s17, s18, s19, s20, s21, s22, s23⟩ := hSw; go_simp⟩) hHeld ?_
      simp only [tkS, Act.put]
      refine wpAnyH_ready (rs := [8]) (by kernel_rfl) (by simp) ?_
      refine AllReadyH.cons rfl (fun K hK => ?_) AllReadyH.nil
      go_simp
      refine (hE _ hB).mono ?_
      rintro e wn ⟨rfl, hbn⟩
      replace hB := below_seq hB hbn
      clear hbn
      go_wp2_with fail
      refine hK.out _ _ (HF.out _ hB) (fun hHeld => ?_)
      clear hK K
      refine tkH 9 (.bool false) rfl (Or.inl ⟨by kernel_rfl, by intro w hSw; obtain ⟨s0, s1, s2, s3, s4, s5, s6, s7, s8, s9, s10, s11, s12, s13, s14, s15, s16, s17, s18, s19, s20, s21, s22, s23⟩ := hSw; go_simp⟩) hHeld ?_
      simp only [tkS, Act.put]
      refine wpAnyH_done (by kernel_rfl) ?_ _
      go_wp2_with fail
      go_roundw
      case rel => exact ⟨k + 1, by omega, by go_num, hbel.trans (hB.mono hbel.size)⟩
      case measure => simp [intOf]; omega
    · have hki : ¬ (k : Int) < (L.length : Int) := by omega
      go_wp2_with fail
      go_ret
      exact ⟨rfl, hbel⟩

end Go.Proofs.YtaglbacicpknaaaGreat

namespace Go.Proofs.YtaglbacicpknaaaGreat
open Go.RowKit
set_option linter.unusedVariables false

theorem RowO.rdL {w : World} {B g : Nat} {M L : List Ov} (h : RowO w B g L.length M) (hs : SameL M L) (hm : L.length ≤ maxLen) : RdO w.heap.size w (.slice (some ⟨g, 0, none⟩) L.length L.length) M := by
  have e := hs.1
  rw [← e] at h hm ⊢
  exact h.rd hm

end Go.Proofs.YtaglbacicpknaaaGreat

namespace Go.Proofs.YtaglbacicpknaaaGreat
open Go.RowKit
set_option linter.unusedVariables false

theorem setCells_snoc (b : Nat) (v : Value) : ∀ (vs : List Value) (o : Nat) (w : World), w.setCells b o (vs ++ [v]) = (w.setCells b o vs).setCell ⟨b, o + vs.length, none⟩ v
  | [], o, w => rfl
  | u :: vs, o, w => by
    show (w.setCell ⟨b, o, none⟩ u).setCells b (o + 1) (vs ++ [v]) = ((w.setCell ⟨b, o, none⟩ u).setCells b (o + 1) vs).setCell ⟨b, o + (vs.length + 1), none⟩ v
    rw [setCells_snoc b v vs (o + 1), show o + 1 + vs.length = o + (vs.length + 1) by omega]
theorem size_setCells (b : Nat) : ∀ (vs : List Value) (o : Nat) (w : World), (w.setCells b o vs).heap.size = w.heap.size
  | [], o, w => rfl
  | u :: vs, o, w => by
    show ((w.setCell ⟨b, o, none⟩ u).setCells b (o + 1) vs).heap.size = w.heap.size
    rw [size_setCells b vs, World.size_setCell]
theorem marksI_snoc (q k : Nat) : marksI q (k + 1) = marksI q k ++ [((q + k : Nat) : Int)] := by simp [marksI, List.range_succ]

set_option maxHeartbeats 400000 in
theorem markIntR_any (w : World) (g off n cap q : Nat) (hn : n ≤ 1048576) (hq : q ≤ 70368744177664) (ht : w.there g off n) :
    Calls Tryz.prog 24 #[.slice (some ⟨g, off, none⟩) n cap, .int .i64 (q : Int)] w fun e w' => e = .returned (.int .i64 ((q + n : Nat) : Int)) ∧ w' = w.setCells g off ((marksI q n).map (Value.int .i64)) := by
  go_enter Tryz.func24, Tryz.ntmps24
  go_wp2
  go_loopw [1, 5] (fun t i wr => ∃ k : Nat, k ≤ n ∧ i = .int .i64 k ∧ t = .int .i64 ((q + k : Nat) : Int) ∧ Hid (wr = w.setCells g off ((marksI q k).map (Value.int .i64)))) (fun _ i _ => n - (intOf i).toNat)
  case atStart => exact ⟨0, Nat.zero_le _, rfl, rfl, rfl⟩
  case round =>
    obtain ⟨k, hk, rfl, rfl, HW⟩ := hrel
    by_cases hlt : k < n
    · have h0 := World.there_setCells ht g off ((marksI q k).map (Value.int .i64))
      rw [← HW.out] at h0
      obtain ⟨z, c1⟩ := Option.isSome_iff_exists.1 (h0 k hlt).1
      have f1 := (h0 k hlt).2
      have HR : Hid (wr.setCell ⟨g, off + k, none⟩ (Value.int .i64 ((q + k : Nat) : Int)) = w.setCells g off ((marksI q (k + 1)).map (Value.int .i64))) := by
        unfold Hid
        rw [marksI_snoc, List.map_append, List.map_singleton, setCells_snoc, List.length_map, marksI_len, ← HW.out]
      clear h0 HW
      go_wp2
      go_roundw
      case rel => exact ⟨k + 1, by omega, by go_num, by go_num, HR⟩
      case measure => simp [intOf]; omega
    · go_wp2
      go_ret
      exact ⟨by rw [show k = n by omega]; rfl, by rw [HW.out, show k = n by omega]⟩

set_option maxHeartbeats 400000 in
theorem markInt0_any (w : World) (a : Option Addr) (cap : Nat) (q : Int) :
    Calls Tryz.prog 24 #[.slice a 0 cap, .int .i64 q] w fun e w' => e = .returned (.int .i64 q) ∧ w' = w := by
  go_enter Tryz.func24, Tryz.ntmps24
  go_wp2
  go_loopw [1, 5] (fun t i wr => t = .int .i64 q ∧ i = .int .i64 0 ∧ wr = w) (fun _ i _ => 0)
  case atStart => exact ⟨rfl, rfl, rfl⟩
  case round =>
    obtain ⟨rfl, rfl, rfl⟩ := hrel
    go_wp2
    go_ret
    exact ⟨rfl, rfl⟩

/-- A row of n operations in block g that may be written, and what they count (dv); all that lies outside the blocks from B up to D is as it was in w0. -/
structure Iv (w0 w : World) (B D g n : Nat) (dv : Nat → Value) : Prop where
  bel : Below B w0 w
  lo : B ≤ g
  hi : g < D
  big : D ≤ w0.heap.size
  fr : ∀ b, D ≤ b → b < w0.heap.size → w.heap[b]? = w0.heap[b]?
  row : w.there g 0 (n * 12)
  dvs : ∀ i, i < n → w.cell? ⟨g, i * 12 + 3, none⟩ = some (dv i)
  dth : ∀ i, i < n → ∃ a len cap, dv i = .slice a len cap ∧ len ≤ 1048576 ∧ (0 < len → ∃ gd od, a = some ⟨gd, od, none⟩ ∧ gd ≠ g ∧ B ≤ gd ∧ gd < D ∧ w.there gd od len)
theorem below_setsC {B : Nat} {a : World} {b : Nat} (hb : B ≤ b) : ∀ (vs : List Value) (o : Nat) (w : World), Below B a w → Below B a (w.setCells b o vs)
  | [], _, _, h => h
  | v :: vs, o, w, h => below_setsC hb vs (o + 1) _ (h.setCell (p := ⟨b, o, none⟩) hb v)
theorem Iv.cell {w0 w : World} {B D g n : Nat} {dv : Nat → Value} (h : Iv w0 w B D g n dv) {k : Nat} (hk : k < n) (j : Nat) (hj : j < 12) : ∃ z, w.cell? ⟨g, k * 12 + j, none⟩ = some z ∧ w.frozen? ⟨g, k * 12 + j, none⟩ = false := by
  have := h.row (k * 12 + j) (by omega)
  rw [Nat.zero_add] at this
  obtain ⟨z, hz⟩ := Option.isSome_iff_exists.1 this.1
  exact ⟨z, hz, this.2⟩
theorem Iv.set {w0 w : World} {B D g n : Nat} {dv : Nat → Value} (h : Iv w0 w B D g n dv) {k j : Nat} (hj : j < 12) (h3 : j ≠ 3) (v : Value) : Iv w0 (w.setCell ⟨g, k * 12 + j, none⟩ v) B D g n dv := by
  have hlo := h.lo
  have hhi := h.hi
  refine ⟨h.bel.setCell (p := ⟨g, k * 12 + j, none⟩) h.lo v, h.lo, h.hi, h.big, fun b hb hl => (heap_setCell_other w ⟨g, k * 12 + j, none⟩ b v (by show b ≠ g; omega)).trans (h.fr b hb hl), World.there_setCells h.row g (k * 12 + j) [v], fun i hi => ?_, fun i hi => ?_⟩
  · rw [World.cell?_setCell_other]
    · exact h.dvs i hi
    · intro e
      simp only [Addr.mk.injEq] at e
      omega
  · obtain ⟨a, len, cap, e, hl, hr⟩ := h.dth i hi
    refine ⟨a, len, cap, e, hl, fun hp => ?_⟩
    obtain ⟨gd, od, ea, hne, h1, h2, ht⟩ := hr hp
    exact ⟨gd, od, ea, hne, h1, h2, World.there_setCells ht g (k * 12 + j) [v]⟩
theorem Iv.sets {w0 w : World} {B D g n : Nat} {dv : Nat → Value} (h : Iv w0 w B D g n dv) {gd : Nat} (hne : gd ≠ g) (h1 : B ≤ gd) (h2 : gd < D) (od : Nat) (vs : List Value) : Iv w0 (w.setCells gd od vs) B D g n dv := by
  refine ⟨below_setsC h1 vs od w h.bel, h.lo, h.hi, h.big, fun b hb hl => ?_, World.there_setCells h.row gd od vs, fun i hi => ?_, fun i hi => ?_⟩
  · have := h.bel.size
    have e := (grownBy_setCells w gd vs od).block b (by omega) (fun he => by simp only [Option.some.injEq] at he; omega)
    exact e.trans (h.fr b hb hl)
  · rw [World.cell?_setCells_out]
    · exact h.dvs i hi
    · intro e
      exact absurd e.symm hne
  · obtain ⟨a, len, cap, e, hl, hr⟩ := h.dth i hi
    refine ⟨a, len, cap, e, hl, fun hp => ?_⟩
    obtain ⟨gd', od', ea, hne', h1', h2', ht⟩ := hr hp
    exact ⟨gd', od', ea, hne', h1', h2', World.there_setCells ht gd od vs⟩
theorem there_block {w w' : World} {b o n : Nat} (h : w.there b o n) (hb : w'.heap[b]? = w.heap[b]?) : w'.there b o n := fun j hj => by
  have := h j hj
  rw [World.cell?_of_block (w := w) (w' := w') hb]
  refine ⟨this.1, ?_⟩
  have h2 := this.2
  unfold World.frozen? at h2 ⊢
  simp only at h2 ⊢
  rw [hb]
  exact h2
theorem Iv.below {w0 w w' : World} {B D g n : Nat} {dv : Nat → Value} (h : Iv w0 w B D g n dv) (hb : Below w.heap.size w w') : Iv w0 w' B D g n dv := by
  have hs := h.bel.size
  have hD := h.big
  have hg := h.hi
  have hlo := h.lo
  have hbs := hb.size
  refine ⟨h.bel.trans (hb.mono (by omega)), h.lo, h.hi, h.big, fun b hb' hl => (hb.block b (by omega)).trans (h.fr b hb' hl), there_block h.row (hb.block g (by omega)), fun i hi => (hb.cell (p := ⟨g, i * 12 + 3, none⟩) (by show g < w.heap.size; omega)).trans (h.dvs i hi), fun i hi => ?_⟩
  obtain ⟨a, len, cap, e, hl, hr⟩ := h.dth i hi
  refine ⟨a, len, cap, e, hl, fun hp => ?_⟩
  obtain ⟨gd, od, ea, hne, h1, h2, ht⟩ := hr hp
  exact ⟨gd, od, ea, hne, h1, h2, there_block ht (hb.block gd (by omega))⟩
theorem Iv.mark {w0 w : World} {B D g n : Nat} {dv : Nat → Value} (h : Iv w0 w B D g n dv) {i : Nat} (hi : i < n) (q : Int) (hq : 0 ≤ q) (hq' : q ≤ 70368744177664) :
    Calls Tryz.prog 24 #[dv i, .int .i64 q] w fun e w' => (∃ y : Int, q ≤ y ∧ y ≤ q + 1048576 ∧ e = .returned (.int .i64 y)) ∧ Iv w0 w' B D g n dv := by
  obtain ⟨a, len, cap, e, hl, hr⟩ := h.dth i hi
  rw [e]
  by_cases hp : 0 < len
  · obtain ⟨gd, od, rfl, hne, h1, h2, ht⟩ := hr hp
    obtain ⟨m, rfl⟩ := Int.eq_ofNat_of_zero_le hq
    refine (markIntR_any w gd od len cap m hl (by omega) ht).mono ?_
    rintro e' w' ⟨rfl, rfl⟩
    exact ⟨⟨_, by omega, by omega, rfl⟩, h.sets hne h1 h2 od _⟩
  · obtain rfl : len = 0 := by omega
    refine (markInt0_any w a cap q).mono ?_
    rintro e' w' ⟨rfl, rfl⟩
    exact ⟨⟨q, by omega, by omega, rfl⟩, h⟩
theorem markTextI (x : Int) (h0 : 0 ≤ x) (h1 : x ≤ 140737488355328) (w : World) : Calls Tryz.prog 25 #[.int .i64 x] w fun e w' => (∃ s, e = .returned (.string s)) ∧ Below w.heap.size w w' := by
  obtain ⟨m, rfl⟩ := Int.eq_ofNat_of_zero_le h0
  refine (markText_any m (by omega) w).mono ?_
  rintro e w' ⟨rfl, hb⟩
  exact ⟨⟨_, rfl⟩, hb⟩

set_option maxHeartbeats 4000000 in
set_option maxRecDepth 100000 in
theorem markOpS_frame (w : World) (B D g n c : Nat) (dv : Nat → Value) (q : Int) (hn : n ≤ 1048576) (hq : 0 ≤ q) (hq' : q ≤ 4398046511104) (h : Iv w w B D g n dv) :
    Calls Tryz.prog 10 #[.slice (some ⟨g, 0, none⟩) n c, .int .i64 q] w fun e w' => (∃ y : Int, 0 ≤ y ∧ y ≤ q + 2199023255552 ∧ e = .returned (.int .i64 y)) ∧ Iv w w' B D g n dv := by
  have HI0 : Hid (Iv w w B D g n dv) := h
  clear h
  go_enter Tryz.func10, Tryz.ntmps10
  go_wp2_with fail
  go_loopw [1, 5] (fun tq ti wr => ∃ (k : Nat) (x : Int), k ≤ n ∧ ti = .int .i64 (k : Int) ∧ tq = .int .i64 x ∧ 0 ≤ x ∧ x ≤ q + (k : Int) * 2097152 ∧ Hid (Iv w wr B D g n dv)) (fun _ ti _ => n - (intOf ti).toNat)
  case atStart => exact ⟨0, q, Nat.zero_le _, rfl, rfl, hq, by omega, HI0⟩
  case round =>
    clear HI0
    obtain ⟨k, x, hk, rfl, rfl, hx0, hxb, HI⟩ := hrel
    by_cases hlt : k < n
    · have j1 : (k : Int) < (n : Int) := by omega
      have j2 : (k : Int) + 1 < 9223372036854775808 := by omega
      have HXB : Hid (x ≤ q + (k : Int) * 2097152) := hxb
      have hm0 : x + 1 + 1 + 1 < 9223372036854775808 := by omega
      have hxs : x ≤ 35184372088832 := by omega
      clear hxb
      obtain ⟨z0, c0, f0⟩ := HI.out.cell hlt 0 (by omega)
      obtain ⟨z1, c1, f1⟩ := HI.out.cell hlt 1 (by omega)
      obtain ⟨z2, c2, f2⟩ := HI.out.cell hlt 2 (by omega)
      have c3 := HI.out.dvs k hlt
      rw [Nat.add_zero] at c0 f0
      have H1 : Hid (Iv w (((wr.setCell ⟨g, k * 12, none⟩ (.int .i64 x)).setCell ⟨g, k * 12 + 1, none⟩ (.int .i64 (x + 1))).setCell ⟨g, k * 12 + 2, none⟩ (.int .i64 (x + 1 + 1))) B D g n dv) := ((HI.out.set (k := k) (j := 0) (by omega) (by omega) _).set (k := k) (j := 1) (by omega) (by omega) _).set (k := k) (j := 2) (by omega) (by omega) _
      have hM := H1.out.mark hlt (x + 1 + 1 + 1) (by omega) (by omega)
      obtain ⟨da, dn, dc, hdv⟩ : ∃ da dn dc, dv k = .slice da dn dc := by obtain ⟨a, len, cap, e, _⟩ := HI.out.dth k hlt; exact ⟨_, _, _, e⟩
      rw [hdv] at hM c3
      clear HI H1 hdv
      go_wp2_with fail
      refine hM.mono ?_
      clear hM c0 c1 c2 c3 f0 f1 f2
      rintro e w2 ⟨⟨y, hy0, hy1, rfl⟩, H2⟩
      have HY : Hid (x + 3 ≤ y ∧ y ≤ x + 3 + 1048576) := ⟨by omega, by omega⟩
      have hyp : 0 ≤ y := by omega
      have hym : y + 1 + 1 + 1 + 1 + 1 + 1 + 1 + 1 < 9223372036854775808 := by omega
      have hyt : y + 1 + 1 + 1 + 1 + 1 + 1 + 1 ≤ 140737488355328 := by omega
      clear hy0 hy1 hm0 hxs
      obtain ⟨z4, c4, f4⟩ := H2.cell hlt 4 (by omega)
      obtain ⟨z5, c5, f5⟩ := H2.cell hlt 5 (by omega)
      obtain ⟨z6, c6, f6⟩ := H2.cell hlt 6 (by omega)
      obtain ⟨z7, c7, f7⟩ := H2.cell hlt 7 (by omega)
      obtain ⟨z8, c8, f8⟩ := H2.cell hlt 8 (by omega)
      obtain ⟨z9, c9, f9⟩ := H2.cell hlt 9 (by omega)
      have H3 : Hid (Iv w ((((((w2.setCell ⟨g, k * 12 + 4, none⟩ (.int .i64 y)).setCell ⟨g, k * 12 + 5, none⟩ (.int .i64 (y + 1))).setCell ⟨g, k * 12 + 6, none⟩ (.int .i64 (y + 1 + 1))).setCell ⟨g, k * 12 + 7, none⟩ (.int .i64 (y + 1 + 1 + 1))).setCell ⟨g, k * 12 + 8, none⟩ (.int .i64 (y + 1 + 1 + 1 + 1))).setCell ⟨g, k * 12 + 9, none⟩ (.int .i64 (y + 1 + 1 + 1 + 1 + 1))) B D g n dv) := (((((H2.set (k := k) (j := 4) (by omega) (by omega) _).set (k := k) (j := 5) (by omega) (by omega) _).set (k := k) (j := 6) (by omega) (by omega) _).set (k := k) (j := 7) (by omega) (by omega) _).set (k := k) (j := 8) (by omega) (by omega) _).set (k := k) (j := 9) (by omega) (by omega) _
      have hT1 := fun w => markTextI (y + 1 + 1 + 1 + 1 + 1 + 1) (by omega) (by omega) w
      have hT2 := fun w => markTextI (y + 1 + 1 + 1 + 1 + 1 + 1 + 1) (by omega) (by omega) w
      clear H2
      go_wp2_with fail
      refine (hT1 _).mono ?_
      clear hT1 c4 c5 c6 c7 c8 c9 f4 f5 f6 f7 f8 f9
      rintro e w4 ⟨⟨s1, rfl⟩, hb4⟩
      have H4 := H3.out.below hb4
      clear H3 hb4
      obtain ⟨z10, c10, f10⟩ := H4.cell hlt 10 (by omega)
      have H5 : Hid (Iv w (w4.setCell ⟨g, k * 12 + 10, none⟩ (.string s1)) B D g n dv) := H4.set (k := k) (j := 10) (by omega) (by omega) _
      clear H4
      go_wp2_with fail
      refine (hT2 _).mono ?_
      clear hT2 c10 f10
      rintro e w6 ⟨⟨s2, rfl⟩, hb6⟩
      have H6 := H5.out.below hb6
      clear H5 hb6
      obtain ⟨z11, c11, f11⟩ := H6.cell hlt 11 (by omega)
      have H7 : Hid (Iv w (w6.setCell ⟨g, k * 12 + 11, none⟩ (.string s2)) B D g n dv) := H6.set (k := k) (j := 11) (by omega) (by omega) _
      clear H6
      go_wp2_with fail
      go_roundw
      case rel =>
        have h1 := HY.out
        have h2 := HXB.out
        exact ⟨k + 1, y + 1 + 1 + 1 + 1 + 1 + 1 + 1 + 1, by omega, by go_num, rfl, by omega, by omega, H7⟩
      case measure => simp [intOf]; omega
    · have j1 : ¬ (k : Int) < (n : Int) := by omega
      go_wp2_with fail
      go_ret
      exact ⟨⟨x, hx0, by omega, rfl⟩, HI.out⟩

/-- The same, where what lies from B on is as it was. -/
theorem Iv.moved {w w' : World} {B D g n : Nat} {dv : Nat → Value} (h : Iv w w B D g n dv) (hs : w.heap.size ≤ w'.heap.size) (hb : ∀ b, B ≤ b → b < w.heap.size → w'.heap[b]? = w.heap[b]?) : Iv w' w' B D g n dv := by
  have hg : w'.heap[g]? = w.heap[g]? := hb g h.lo (by have := h.hi; have := h.big; omega)
  refine ⟨Below.refl _ _, h.lo, h.hi, by have := h.big; omega, fun b _ _ => rfl, there_block h.row hg, fun i hi => (World.cell?_of_block (w := w) hg).trans (h.dvs i hi), fun i hi => ?_⟩
  obtain ⟨a, len, cap, e, hl, hp⟩ := h.dth i hi
  refine ⟨a, len, cap, e, hl, fun h0 => ?_⟩
  obtain ⟨gd, od, ea, h1, h2, h3, h4⟩ := hp h0
  exact ⟨gd, od, ea, h1, h2, h3, there_block h4 (hb gd h2 (by have := h.big; omega))⟩
theorem RowO.iv {w0 w : World} {B g n : Nat} {M : List Ov} (h : RowO w0 B g n M) (hn : M.length = n) (hd : ∀ x ∈ M, x.ds.length ≤ 1048576) (hb : Below w0.heap.size w0 w) : Iv w w B w0.heap.size g n (fun i => (ovAt M i).dv) := by
  have hlt := h.lt
  have hs := hb.size
  have h' := h.on hb
  refine ⟨Below.refl _ _, hlt.1, hlt.2, hs, fun _ _ _ => rfl, ?_, fun i hi => ?_, fun i hi => ?_⟩
  · obtain ⟨⟨xs, ho, _⟩, _⟩ := h'
    have hl := ho.1
    intro j hj
    rw [Nat.zero_add, World.ownsRow.cellAt ho _ (by omega), List.getElem?_eq_getElem (by omega)]
    exact ⟨rfl, World.ownsRow.frozenAt ho _⟩
  · obtain ⟨⟨xs, ho, hx⟩, _⟩ := h'
    have hl := ho.1
    rw [World.ownsRow.cellAt ho _ (by omega), hx _ (by omega), rowCs_at M i 3 (by omega) (by omega)]
    rfl
  · have hm := ovAt_mem (L := M) (k := i) (by omega)
    have ho := h.deps _ hm
    have ho' := h'.deps _ hm
    obtain ⟨ao, cap, e, hr⟩ := ho.slice
    refine ⟨ao, _, cap, e, by rw [List.length_map]; exact hd _ hm, fun hp => ?_⟩
    obtain ⟨gd, rfl⟩ := hr hp
    rw [e] at ho ho'
    have h1 := World.ownsRow.lt ho gd rfl
    refine ⟨gd, 0, rfl, by omega, by omega, h1.2, fun j hj => ?_⟩
    rw [Nat.zero_add, own_cell ho' hj]
    exact ⟨rfl, own_free ho' j⟩
end Go.Proofs.YtaglbacicpknaaaGreat

namespace Go.Proofs.YtaglbacicpknaaaGreat
open Go.RowKit
set_option linter.unusedVariables false

set_option maxHeartbeats 4000000 in
set_option maxRecDepth 100000 in
theorem lawLogBytes_walk (ans : List Ov → List Int) (cod : List Ov → Int) (hans : ∀ L, (ans L).length ≤ 1048576) (hsm : ∀ M L, SameL M L → ans M = ans L ∧ cod M = cod L)
    (hsp : ∀ (C : Nat) (w : World) (v : Value) (L : List Ov), C ≤ w.heap.size → RdO C w v L → Calls Tryz.prog 5 #[v] w fun e w' => ∃ r, e = .returned (.tuple #[r, .int .i64 (cod L)]) ∧ Own 5 w' w.heap.size r ((ans L).map (Value.int .u8)) ∧ Below w.heap.size w w')
    (him : ∀ (C : Nat) (w : World) (v : Value) (L : List Ov), C ≤ w.heap.size → RdO C w v L → Calls Tryz.prog 7 #[v] w fun e w' => ∃ r, e = .returned (.tuple #[r, .int .i64 (cod L)]) ∧ Own 5 w' w.heap.size r ((ans L).map (Value.int .u8)) ∧ Below w.heap.size w w')
    (w : World) (v : Value) (L : List Ov) (hr : RdO w.heap.size w v L) (ht : ∀ x ∈ L, x.ky.size ≤ maxLen ∧ x.tx.size ≤ maxLen) :
    Calls Tryz.prog 3 #[v] w fun e w' => e = .returned (.bool true) ∧ Below w.heap.size w w' := by
  have hz := szOpS_any w.heap.size w v L (Nat.le_refl _) hr ht
  go_enter Tryz.func3, Tryz.ntmps3
  go_wp2_with fail
  refine hz.mono ?_
  rintro e w1 ⟨⟨z, rfl, hzz⟩, hb1⟩
  rcases hzz with rfl | ⟨q, hzq, hq, hlen, hds⟩
  · go_wp2_with fail
    go_ret
    exact ⟨rfl, hb1⟩
  · have z0 : decide (z < 0) = false := by simp; omega
    have z1 : 0 ≤ z := by omega
    clear hzq hq
    have hm : L.length ≤ maxLen := by unfold maxLen; omega
    have hal := hans L
    obtain ⟨cd, HCD⟩ : ∃ cd, Hid (cod L = cd) := ⟨_, rfl⟩
    have hTO := fun (w9 : World) (hb : Below w.heap.size w w9) => toOpS_any w.heap.size w9 v L hlen hds hb.size (hr.below hb)
    go_wp2_with fail
    refine (hTO w1 hb1).mono ?_
    rintro e w2 ⟨rfl, ⟨M0, hs0, hM0⟩, hb2⟩
    have hB2 := below_seq hb1 hb2
    go_wp2_with fail
    refine (hsp _ w2 _ M0 (Nat.le_refl _) (hM0.rdL hs0 hm)).mono ?_
    rintro e w3 ⟨r0, rfl, ho0, hb3⟩
    have hB3 := below_seq hB2 hb3
    rw [(hsm M0 L hs0).1] at ho0
    rw [(hsm M0 L hs0).2, HCD.out]
    clear hM0 hs0
    go_wp2_with fail
    refine (hTO w3 hB3).mono ?_
    rintro e w4 ⟨rfl, ⟨M1, hs1, hM1⟩, hb4⟩
    have hB4 := below_seq hB3 hb4
    have hR4 := hM1.rdL hs1 hm
    go_wp2_with fail
    refine (him _ w4 _ M1 (Nat.le_refl _) hR4).mono ?_
    rintro e w5 ⟨r1, rfl, ho1, hb5⟩
    have hB5 := below_seq hB4 hb5
    rw [(hsm M1 L hs1).1] at ho1
    rw [(hsm M1 L hs1).2, HCD.out]
    have hs4 := hb4.size
    have hs5 := hb5.size
    have hR5 := hR4.below hb5
    have ho0_5 := (ho0.below hb4 (Nat.le_refl _)).below hb5 (by omega)
    go_wp2_with fail
    refine (eqByteS_same _ _ w5 r1 r0 (ans L) (by omega) ho1.rd ho0_5.rd).mono ?_
    rintro e w6 ⟨rfl, n6, hw6⟩
    have hb6 : Below w5.heap.size w5 w6 := by rw [hw6]; exact below_drewN (Below.refl _ _) n6
    clear hw6
    have hB6 := below_seq hB5 hb6
    have hs6 := hb6.size
    go_wp2_with fail
    refine (hTO w6 hB6).mono ?_
    rintro e w7 ⟨rfl, ⟨M2, hs2, hM2⟩, hb7⟩
    have hB7 := below_seq hB6 hb7
    have hs7 := hb7.size
    have hd1 := sameL_ds hs1 hds
    go_wp2_with fail
    refine (eqOpS_same w4.heap.size w7.heap.size w7 _ _ M1 M2 (by rw [hs1.1]; exact hlen) hd1 (by omega) (Nat.le_refl _) ((hR5.below (hb6.mono (by omega))).below (hb7.mono (by omega))) (hM2.rdL hs2 hm) (sameL_two hs1 hs2)).mono ?_
    rintro e w8 ⟨rfl, hb8⟩
    have hB8 := below_seq hB7 hb8
    have hs8 := hb8.size
    have hb48 : Below w4.heap.size w4 w8 := below_seq (below_seq (below_seq hb5 hb6) hb7) hb8
    have hb58 : Below w5.heap.size w5 w8 := below_seq (below_seq hb6 hb7) hb8
    have hIv := hM1.iv hs1.1 hd1 hb48
    have ho1_8 := ho1.below hb58 (Nat.le_refl _)
    have ho0_8 := ho0_5.below hb58 (Nat.le_refl _)
    have hl0 := ho0.blk
    clear ho0 ho1 ho0_5 hM2 hs2 hR5 hR4 hM1 hd1
    go_wp2_with fail
    refine (markOpS_frame w8 w3.heap.size w4.heap.size w3.heap.size L.length L.length _ 1 hlen (by omega) (by omega) hIv).mono ?_
    rintro e w9 ⟨⟨y, hy0, hy1, rfl⟩, hIv9⟩
    have hb9 := hIv9.bel
    have hs9 := hb9.size
    have hB9 : Below w.heap.size w w9 := hB8.trans (hb9.mono hB3.size)
    have ho1_9 := ownSame ho1_8 (fun k hk => hIv9.fr k (World.ownsRow.lt ho1_8 k hk).1 (World.ownsRow.lt ho1_8 k hk).2)
    have ho0_9 := ownSame ho0_8 (fun k hk => hb9.block k (hl0 k hk))
    have y0 : decide (y < 0) = false := by simp; omega
    clear hIv hIv9 ho1_8 ho0_8
    go_wp2_with fail
    refine (eqByteS_same _ _ w9 r1 r0 (ans L) (by omega) ho1_9.rd ho0_9.rd).mono ?_
    rintro e w10 ⟨rfl, n10, hw10⟩
    have hb10 : Below w9.heap.size w9 w10 := by rw [hw10]; exact below_drewN (Below.refl _ _) n10
    clear hw10
    have hB10 := below_seq hB9 hb10
    have hs10 := hb10.size
    have ho1_10 := ho1_9.below hb10 (Nat.le_refl _)
    have ho0_10 := ho0_9.below hb10 (Nat.le_refl _)
    clear ho1_9 ho0_9
    go_wp2_with fail
    refine (markByteS_any w4.heap.size w10 r1 _ 1 (by rw [List.length_map]; omega) (by omega) ho1_10).mono ?_
    rintro e w11 ⟨rfl, ho1_11, hb11, hg11⟩
    rw [List.length_map] at ho1_11 ⊢
    have hs11 := hb11.size
    have hB11 : Below w.heap.size w w11 := hB10.trans (hb11.mono hB4.size)
    have ho0_11 := ownSame ho0_10 (fun k hk => hb11.block k (by have := hl0 k hk; omega))
    clear ho1_10 ho0_10 hg11
    go_wp2_with fail
    refine (heldByteS_same _ w11 r1 1 (ans L).length (by omega) (by omega) ho1_11.rd).mono ?_
    rintro e w12 ⟨rfl, hw12⟩
    have hb12 : Below w11.heap.size w11 w12 := by rw [hw12]; exact Below.refl _ _
    clear hw12
    have hB12 := below_seq hB11 hb12
    have hs12 := hb12.size
    have ho1_12 := ho1_11.below hb12 (Nat.le_refl _)
    have ho0_12 := ho0_11.below hb12 (Nat.le_refl _)
    clear ho1_11 ho0_11
    go_wp2_with fail
    refine (hTO w12 hB12).mono ?_
    rintro e w13 ⟨rfl, ⟨M3, hs3, hM3⟩, hb13⟩
    have hB13 := below_seq hB12 hb13
    have hs13 := hb13.size
    go_wp2_with fail
    refine (him _ w13 _ M3 (Nat.le_refl _) (hM3.rdL hs3 hm)).mono ?_
    rintro e w14 ⟨r2, rfl, ho2, hb14⟩
    have hB14 := below_seq hB13 hb14
    have hs14 := hb14.size
    rw [(hsm M3 L hs3).1] at ho2
    rw [(hsm M3 L hs3).2, HCD.out]
    have ho1_14 := (ho1_12.below hb13 (Nat.le_refl _)).below hb14 (Nat.le_refl _)
    have ho0_14 := (ho0_12.below hb13 (Nat.le_refl _)).below hb14 (Nat.le_refl _)
    clear ho1_12 ho0_12 hM3
    go_wp2_with fail
    refine (eqByteS_same _ _ w14 r2 r0 (ans L) (by omega) ho2.rd ho0_14.rd).mono ?_
    rintro e w15 ⟨rfl, n15, hw15⟩
    have hb15 : Below w14.heap.size w14 w15 := by rw [hw15]; exact below_drewN (Below.refl _ _) n15
    clear hw15
    have hB15 := below_seq hB14 hb15
    have ho1_15 := ho1_14.below hb15 (Nat.le_refl _)
    go_wp2_with fail
    refine (heldByteS_same _ w15 r1 1 (ans L).length (by omega) (by omega) ho1_15.rd).mono ?_
    rintro e w16 ⟨rfl, hw16⟩
    have hb16 : Below w15.heap.size w15 w16 := by rw [hw16]; exact Below.refl _ _
    clear hw16
    go_wp2_with fail
    go_ret
    exact ⟨rfl, below_seq hB15 hb16⟩
end Go.Proofs.YtaglbacicpknaaaGreat

namespace Go.Proofs.YtaglbacicpknaaaGreat
open Go.RowKit
set_option linter.unusedVariables false

theorem colOne (w : World) (x : Value) (t : TypeId) : ∀ j u, [x][j]? = some u → (w.alloc (.cells #[x] t)).cell? ((⟨w.heap.size, 0, none⟩ : Addr).add j) = some u := by
  intro j u h
  cases j with
  | zero =>
    simp only [List.getElem?_cons_zero, Option.some.injEq] at h
    subst h
    rw [Addr.add_mid]
    exact cell_made (Below.refl _ _) (k := 0) rfl
  | succ j => simp at h
theorem col_snoc {L : List Ov} {c k : Nat} (h : k < L.length) : (colN L c).take (k + 1) = (colN L c).take k ++ [numAt c (ovAt L k)] := by
  rw [List.take_add_one, col_at h]
  rfl

set_option maxHeartbeats 8000000 in
set_option maxRecDepth 100000 in
theorem l08Column_0 (C : Nat) (w : World) (v : Value) (L : List Ov) (hC : C ≤ w.heap.size) (hr : RdO C w v L) (hl : L.length ≤ 1024) (hok : ∀ x ∈ L, x.ok = true) :
    Calls Tryz.prog 32 #[v, .int .i64 0] w fun e w' => ∃ r, e = .returned r ∧ Own 3 w' w.heap.size r ((colN L 0).map (Value.int .i64)) ∧ Below w.heap.size w w' := by
  obtain ⟨i0, hi, hz0, hz1, hz2⟩ := info_parts info3
  obtain ⟨⟨ao, cap, rfl, hcap, hmax, hnil, hrow⟩, hdv⟩ := hr
  have HR : Hid (∀ k, k < L.length → ∃ g off, ao = some ⟨g, off, none⟩ ∧ g < C ∧ OpAt w g (off + k * 12) (ovAt L k)) := fun k hk => by
    obtain ⟨g, off, h1, h2, h3⟩ := hrow (by omega)
    exact ⟨g, off, h1, h2, h3 k hk⟩
  have HD : Hid (∀ k, k < L.length → Rd C w (ovAt L k).dv ((ovAt L k).ds.map (Value.int .i64)) ∧ (ovAt L k).ok = true) := fun k hk => ⟨hdv _ (ovAt_mem hk), hok _ (ovAt_mem hk)⟩
  clear hrow hdv hnil hok
  have HO0 : Hid (Own 3 (w.alloc (.cells #[] 3)) w.heap.size (.slice (some ⟨w.heap.size, 0, none⟩) 0 0) (((colN L 0).take 0).map (Value.int .i64))) := own_lit w 3 [] 0 rfl (Nat.zero_le _)
  go_enter Tryz.func32, Tryz.ntmps32
  go_wp2_with fail
  go_loopw [5, 6] (fun tv ti wr => ∃ k : Nat, k ≤ L.length ∧ ti = .int .i64 (k : Int) ∧ Own 3 wr w.heap.size tv (((colN L 0).take k).map (Value.int .i64)) ∧ Below w.heap.size w wr) (fun _ ti _ => L.length - (intOf ti).toNat)
  case atStart => exact ⟨0, Nat.zero_le _, rfl, HO0.out, below_alloc _ _⟩
  case round =>
    clear HO0
    obtain ⟨k, hk, rfl, ho, hbel⟩ := hrel
    by_cases hlt : k < L.length
    · obtain ⟨g, off, rfl, hg, hx⟩ := HR.out k hlt
      obtain ⟨hdr, hxk⟩ := HD.out k hlt
      have HV : Hid ((colN L 0).take (k + 1) = (colN L 0).take k ++ [numAt 0 (ovAt L k)]) := col_snoc (c := 0) hlt
      have hrg := opAt_range (hx.below (hbel.mono hC) hg)
      replace hdr := hdr.below (hbel.mono hC)
      have hF := ok_facts hxk
      generalize ovAt L k = X at hrg hdr hF HV
      obtain ⟨xa, xs, xt, xdv, xk, xo, xn, xu, xpt, xpa, xky, xtx, xds⟩ := X
      have h16 := (vecOK_get hF.hds).1
      have hn1 := hF.hn
      dsimp only at hrg hdr hF h16 hn1
      clear hx hxk
      have hsg := fun w' => l08Sign_any xn w' (by omega) (by omega)
      obtain ⟨da, dcap, hde, -, -, -, hdc⟩ := hdr
      rw [List.length_map, h16] at hdc hde
      subst hde
      obtain ⟨dg, doff, rfl, hdg, hdc⟩ := hdc (by omega)
      obtain ⟨va, vc, e, -⟩ := ho.slice
      have hcl : ((colN L 0).take k).length = k := by rw [List.length_take, col_len]; omega
      rw [List.length_map, hcl] at e
      subst e
      have ho' : wr.ownsRow w.heap.size 3 1 (.slice va k vc) k (((colN L 0).take k).map (Value.int .i64)) := by
        unfold Own at ho
        rwa [List.length_map, hcl] at ho
      have hsz := hbel.size
      have hbk := ho.lt
      clear ho hcl
      replace hrg : wr.rangeAt g (off + k * 12) [.int .i64 xa, .int .i64 xs, .int .i64 xt, .slice (some ⟨dg, doff, none⟩) 16 dcap, .int .i64 xk, .int .i64 xo, .int .i64 xn, .int .i64 xu, .int .i64 xpt, .int .i64 xpa, .string xky, .string xtx] := by
        have h := hrg
        unfold Ov.cs at h
        exact h
      have hcn := colOne (wr.alloc (.cells #[.int .i64 xa, .int .i64 xs, .int .i64 xt, .slice (some ⟨dg, doff, none⟩) 16 dcap, .int .i64 xk, .int .i64 xo, .int .i64 xn, .int .i64 xu, .int .i64 xpt, .int .i64 xpa, .string xky, .string xtx] 47)) (.int .i64 xa) 3
      simp only [World.size_alloc] at hcn
      go_wp2_with (first | (at_builtin; refine wpList_append_own _ rfl _ _ 35 rfl w.heap.size 3 i0 (.int .i64 0) 1 8 Tryz.underlying35 hi hz0 hz1 hz2 rfl (by decide) _ k _ rfl (World.ownsRow.alloc (World.ownsRow.alloc ho' _) _) ⟨wr.heap.size + 1, 0, none⟩ 1 1 [.int .i64 xa] rfl rfl hcn (by simp [Value.oneCell']) (by unfold maxLen; omega) (by omega) (by simp only [World.size_alloc]; omega) ?_) | (refine wpList_load_mid rfl 47 _ rfl g (off + k * 12) rfl _ _ hrg Tryz.underlying47 rfl info12 ?_) | (go_at_call 59; refine (hsg _).mono ?_; rintro e w5 ⟨rfl, hw5⟩; obtain rfl := hw5.symm))
      intro v6 w6 ho6 hg6 _
      have ho7 : Own 3 w6 w.heap.size v6 (((colN L 0).take (k + 1)).map (Value.int .i64)) := by
        rw [HV.out, List.map_append]
        first | exact own_of ho6 | (rw [List.map_take]; exact own_of ho6)
      have hb7 : Below w.heap.size w w6 := (below_then (below_then hbel _) _).grown hg6 (by simp only [World.size_alloc]; omega) hbk
      clear ho6 hg6 ho' hcn HV hrg hsg
      go_wp2_with fail
      go_roundw
      case rel => exact ⟨k + 1, by omega, by go_num, ho7, hb7⟩
      case measure => simp [intOf]; omega
    · obtain rfl : k = L.length := by omega
      rw [List.take_of_length_le (by rw [col_len]; omega)] at ho
      go_wp2_with fail
      go_ret
      exact ⟨_, rfl, ho, hbel⟩

set_option maxHeartbeats 8000000 in
set_option maxRecDepth 100000 in
theorem l08Column_1 (C : Nat) (w : World) (v : Value) (L : List Ov) (hC : C ≤ w.heap.size) (hr : RdO C w v L) (hl : L.length ≤ 1024) (hok : ∀ x ∈ L, x.ok = true) :
    Calls Tryz.prog 32 #[v, .int .i64 1] w fun e w' => ∃ r, e = .returned r ∧ Own 3 w' w.heap.size r ((colN L 1).map (Value.int .i64)) ∧ Below w.heap.size w w' := by
  obtain ⟨i0, hi, hz0, hz1, hz2⟩ := info_parts info3
  obtain ⟨⟨ao, cap, rfl, hcap, hmax, hnil, hrow⟩, hdv⟩ := hr
  have HR : Hid (∀ k, k < L.length → ∃ g off, ao = some ⟨g, off, none⟩ ∧ g < C ∧ OpAt w g (off + k * 12) (ovAt L k)) := fun k hk => by
    obtain ⟨g, off, h1, h2, h3⟩ := hrow (by omega)
    exact ⟨g, off, h1, h2, h3 k hk⟩
  have HD : Hid (∀ k, k < L.length → Rd C w (ovAt L k).dv ((ovAt L k).ds.map (Value.int .i64)) ∧ (ovAt L k).ok = true) := fun k hk => ⟨hdv _ (ovAt_mem hk), hok _ (ovAt_mem hk)⟩
  clear hrow hdv hnil hok
  have HO0 : Hid (Own 3 (w.alloc (.cells #[] 3)) w.heap.size (.slice (some ⟨w.heap.size, 0, none⟩) 0 0) (((colN L 1).take 0).map (Value.int .i64))) := own_lit w 3 [] 0 rfl (Nat.zero_le _)
  go_enter Tryz.func32, Tryz.ntmps32
  go_wp2_with fail
  go_loopw [5, 6] (fun tv ti wr => ∃ k : Nat, k ≤ L.length ∧ ti = .int .i64 (k : Int) ∧ Own 3 wr w.heap.size tv (((colN L 1).take k).map (Value.int .i64)) ∧ Below w.heap.size w wr) (fun _ ti _ => L.length - (intOf ti).toNat)
  case atStart => exact ⟨0, Nat.zero_le _, rfl, HO0.out, below_alloc _ _⟩
  case round =>
    clear HO0
    obtain ⟨k, hk, rfl, ho, hbel⟩ := hrel
    by_cases hlt : k < L.length
    · obtain ⟨g, off, rfl, hg, hx⟩ := HR.out k hlt
      obtain ⟨hdr, hxk⟩ := HD.out k hlt
      have HV : Hid ((colN L 1).take (k + 1) = (colN L 1).take k ++ [numAt 1 (ovAt L k)]) := col_snoc (c := 1) hlt
      have hrg := opAt_range (hx.below (hbel.mono hC) hg)
      replace hdr := hdr.below (hbel.mono hC)
      have hF := ok_facts hxk
      generalize ovAt L k = X at hrg hdr hF HV
      obtain ⟨xa, xs, xt, xdv, xk, xo, xn, xu, xpt, xpa, xky, xtx, xds⟩ := X
      have h16 := (vecOK_get hF.hds).1
      have hn1 := hF.hn
      dsimp only at hrg hdr hF h16 hn1
      clear hx hxk
      have hsg := fun w' => l08Sign_any xn w' (by omega) (by omega)
      obtain ⟨da, dcap, hde, -, -, -, hdc⟩ := hdr
      rw [List.length_map, h16] at hdc hde
      subst hde
      obtain ⟨dg, doff, rfl, hdg, hdc⟩ := hdc (by omega)
      obtain ⟨va, vc, e, -⟩ := ho.slice
      have hcl : ((colN L 1).take k).length = k := by rw [List.length_take, col_len]; omega
      rw [List.length_map, hcl] at e
      subst e
      have ho' : wr.ownsRow w.heap.size 3 1 (.slice va k vc) k (((colN L 1).take k).map (Value.int .i64)) := by
        unfold Own at ho
        rwa [List.length_map, hcl] at ho
      have hsz := hbel.size
      have hbk := ho.lt
      clear ho hcl
      replace hrg : wr.rangeAt g (off + k * 12) [.int .i64 xa, .int .i64 xs, .int .i64 xt, .slice (some ⟨dg, doff, none⟩) 16 dcap, .int .i64 xk, .int .i64 xo, .int .i64 xn, .int .i64 xu, .int .i64 xpt, .int .i64 xpa, .string xky, .string xtx] := by
        have h := hrg
        unfold Ov.cs at h
        exact h
      have hcn := colOne (wr.alloc (.cells #[.int .i64 xa, .int .i64 xs, .int .i64 xt, .slice (some ⟨dg, doff, none⟩) 16 dcap, .int .i64 xk, .int .i64 xo, .int .i64 xn, .int .i64 xu, .int .i64 xpt, .int .i64 xpa, .string xky, .string xtx] 47)) (.int .i64 xs) 3
      simp only [World.size_alloc] at hcn
      go_wp2_with (first | (at_builtin; refine wpList_append_own _ rfl _ _ 35 rfl w.heap.size 3 i0 (.int .i64 0) 1 8 Tryz.underlying35 hi hz0 hz1 hz2 rfl (by decide) _ k _ rfl (World.ownsRow.alloc (World.ownsRow.alloc ho' _) _) ⟨wr.heap.size + 1, 0, none⟩ 1 1 [.int .i64 xs] rfl rfl hcn (by simp [Value.oneCell']) (by unfold maxLen; omega) (by omega) (by simp only [World.size_alloc]; omega) ?_) | (refine wpList_load_mid rfl 47 _ rfl g (off + k * 12) rfl _ _ hrg Tryz.underlying47 rfl info12 ?_) | (go_at_call 59; refine (hsg _).mono ?_; rintro e w5 ⟨rfl, hw5⟩; obtain rfl := hw5.symm))
      intro v6 w6 ho6 hg6 _
      have ho7 : Own 3 w6 w.heap.size v6 (((colN L 1).take (k + 1)).map (Value.int .i64)) := by
        rw [HV.out, List.map_append]
        first | exact own_of ho6 | (rw [List.map_take]; exact own_of ho6)
      have hb7 : Below w.heap.size w w6 := (below_then (below_then hbel _) _).grown hg6 (by simp only [World.size_alloc]; omega) hbk
      clear ho6 hg6 ho' hcn HV hrg hsg
      go_wp2_with fail
      go_roundw
      case rel => exact ⟨k + 1, by omega, by go_num, ho7, hb7⟩
      case measure => simp [intOf]; omega
    · obtain rfl : k = L.length := by omega
      rw [List.take_of_length_le (by rw [col_len]; omega)] at ho
      go_wp2_with fail
      go_ret
      exact ⟨_, rfl, ho, hbel⟩

set_option maxHeartbeats 8000000 in
set_option maxRecDepth 100000 in
theorem l08Column_2 (C : Nat) (w : World) (v : Value) (L : List Ov) (hC : C ≤ w.heap.size) (hr : RdO C w v L) (hl : L.length ≤ 1024) (hok : ∀ x ∈ L, x.ok = true) :
    Calls Tryz.prog 32 #[v, .int .i64 2] w fun e w' => ∃ r, e = .returned r ∧ Own 3 w' w.heap.size r ((colN L 2).map (Value.int .i64)) ∧ Below w.heap.size w w' := by
  obtain ⟨i0, hi, hz0, hz1, hz2⟩ := info_parts info3
  obtain ⟨⟨ao, cap, rfl, hcap, hmax, hnil, hrow⟩, hdv⟩ := hr
  have HR : Hid (∀ k, k < L.length → ∃ g off, ao = some ⟨g, off, none⟩ ∧ g < C ∧ OpAt w g (off + k * 12) (ovAt L k)) := fun k hk => by
    obtain ⟨g, off, h1, h2, h3⟩ := hrow (by omega)
    exact ⟨g, off, h1, h2, h3 k hk⟩
  have HD : Hid (∀ k, k < L.length → Rd C w (ovAt L k).dv ((ovAt L k).ds.map (Value.int .i64)) ∧ (ovAt L k).ok = true) := fun k hk => ⟨hdv _ (ovAt_mem hk), hok _ (ovAt_mem hk)⟩
  clear hrow hdv hnil hok
  have HO0 : Hid (Own 3 (w.alloc (.cells #[] 3)) w.heap.size (.slice (some ⟨w.heap.size, 0, none⟩) 0 0) (((colN L 2).take 0).map (Value.int .i64))) := own_lit w 3 [] 0 rfl (Nat.zero_le _)
  go_enter Tryz.func32, Tryz.ntmps32
  go_wp2_with fail
  go_loopw [5, 6] (fun tv ti wr => ∃ k : Nat, k ≤ L.length ∧ ti = .int .i64 (k : Int) ∧ Own 3 wr w.heap.size tv (((colN L 2).take k).map (Value.int .i64)) ∧ Below w.heap.size w wr) (fun _ ti _ => L.length - (intOf ti).toNat)
  case atStart => exact ⟨0, Nat.zero_le _, rfl, HO0.out, below_alloc _ _⟩
  case round =>
    clear HO0
    obtain ⟨k, hk, rfl, ho, hbel⟩ := hrel
    by_cases hlt : k < L.length
    · obtain ⟨g, off, rfl, hg, hx⟩ := HR.out k hlt
      obtain ⟨hdr, hxk⟩ := HD.out k hlt
      have HV : Hid ((colN L 2).take (k + 1) = (colN L 2).take k ++ [numAt 2 (ovAt L k)]) := col_snoc (c := 2) hlt
      have hrg := opAt_range (hx.below (hbel.mono hC) hg)
      replace hdr := hdr.below (hbel.mono hC)
      have hF := ok_facts hxk
      generalize ovAt L k = X at hrg hdr hF HV
      obtain ⟨xa, xs, xt, xdv, xk, xo, xn, xu, xpt, xpa, xky, xtx, xds⟩ := X
      have h16 := (vecOK_get hF.hds).1
      have hn1 := hF.hn
      dsimp only at hrg hdr hF h16 hn1
      clear hx hxk
      have hsg := fun w' => l08Sign_any xn w' (by omega) (by omega)
      obtain ⟨da, dcap, hde, -, -, -, hdc⟩ := hdr
      rw [List.length_map, h16] at hdc hde
      subst hde
      obtain ⟨dg, doff, rfl, hdg, hdc⟩ := hdc (by omega)
      obtain ⟨va, vc, e, -⟩ := ho.slice
      have hcl : ((colN L 2).take k).length = k := by rw [List.length_take, col_len]; omega
      rw [List.length_map, hcl] at e
      subst e
      have ho' : wr.ownsRow w.heap.size 3 1 (.slice va k vc) k (((colN L 2).take k).map (Value.int .i64)) := by
        unfold Own at ho
        rwa [List.length_map, hcl] at ho
      have hsz := hbel.size
      have hbk := ho.lt
      clear ho hcl
      replace hrg : wr.rangeAt g (off + k * 12) [.int .i64 xa, .int .i64 xs, .int .i64 xt, .slice (some ⟨dg, doff, none⟩) 16 dcap, .int .i64 xk, .int .i64 xo, .int .i64 xn, .int .i64 xu, .int .i64 xpt, .int .i64 xpa, .string xky, .string xtx] := by
        have h := hrg
        unfold Ov.cs at h
        exact h
      have hcn := colOne (wr.alloc (.cells #[.int .i64 xa, .int .i64 xs, .int .i64 xt, .slice (some ⟨dg, doff, none⟩) 16 dcap, .int .i64 xk, .int .i64 xo, .int .i64 xn, .int .i64 xu, .int .i64 xpt, .int .i64 xpa, .string xky, .string xtx] 47)) (.int .i64 xt) 3
      simp only [World.size_alloc] at hcn
      go_wp2_with (first | (at_builtin; refine wpList_append_own _ rfl _ _ 35 rfl w.heap.size 3 i0 (.int .i64 0) 1 8 Tryz.underlying35 hi hz0 hz1 hz2 rfl (by decide) _ k _ rfl (World.ownsRow.alloc (World.ownsRow.alloc ho' _) _) ⟨wr.heap.size + 1, 0, none⟩ 1 1 [.int .i64 xt] rfl rfl hcn (by simp [Value.oneCell']) (by unfold maxLen; omega) (by omega) (by simp only [World.size_alloc]; omega) ?_) | (refine wpList_load_mid rfl 47 _ rfl g (off + k * 12) rfl _ _ hrg Tryz.underlying47 rfl info12 ?_) | (go_at_call 59; refine (hsg _).mono ?_; rintro e w5 ⟨rfl, hw5⟩; obtain rfl := hw5.symm))
      intro v6 w6 ho6 hg6 _
      have ho7 : Own 3 w6 w.heap.size v6 (((colN L 2).take (k + 1)).map (Value.int .i64)) := by
        rw [HV.out, List.map_append]
        first | exact own_of ho6 | (rw [List.map_take]; exact own_of ho6)
      have hb7 : Below w.heap.size w w6 := (below_then (below_then hbel _) _).grown hg6 (by simp only [World.size_alloc]; omega) hbk
      clear ho6 hg6 ho' hcn HV hrg hsg
      go_wp2_with fail
      go_roundw
      case rel => exact ⟨k + 1, by omega, by go_num, ho7, hb7⟩
      case measure => simp [intOf]; omega
    · obtain rfl : k = L.length := by omega
      rw [List.take_of_length_le (by rw [col_len]; omega)] at ho
      go_wp2_with fail
      go_ret
      exact ⟨_, rfl, ho, hbel⟩

set_option maxHeartbeats 8000000 in
set_option maxRecDepth 100000 in
theorem l08Column_3 (C : Nat) (w : World) (v : Value) (L : List Ov) (hC : C ≤ w.heap.size) (hr : RdO C w v L) (hl : L.length ≤ 1024) (hok : ∀ x ∈ L, x.ok = true) :
    Calls Tryz.prog 32 #[v, .int .i64 3] w fun e w' => ∃ r, e = .returned r ∧ Own 3 w' w.heap.size r ((colN L 3).map (Value.int .i64)) ∧ Below w.heap.size w w' := by
  obtain ⟨i0, hi, hz0, hz1, hz2⟩ := info_parts info3
  obtain ⟨⟨ao, cap, rfl, hcap, hmax, hnil, hrow⟩, hdv⟩ := hr
  have HR : Hid (∀ k, k < L.length → ∃ g off, ao = some ⟨g, off, none⟩ ∧ g < C ∧ OpAt w g (off + k * 12) (ovAt L k)) := fun k hk => by
    obtain ⟨g, off, h1, h2, h3⟩ := hrow (by omega)
    exact ⟨g, off, h1, h2, h3 k hk⟩
  have HD : Hid (∀ k, k < L.length → Rd C w (ovAt L k).dv ((ovAt L k).ds.map (Value.int .i64)) ∧ (ovAt L k).ok = true) := fun k hk => ⟨hdv _ (ovAt_mem hk), hok _ (ovAt_mem hk)⟩
  clear hrow hdv hnil hok
  have HO0 : Hid (Own 3 (w.alloc (.cells #[] 3)) w.heap.size (.slice (some ⟨w.heap.size, 0, none⟩) 0 0) (((colN L 3).take 0).map (Value.int .i64))) := own_lit w 3 [] 0 rfl (Nat.zero_le _)
  go_enter Tryz.func32, Tryz.ntmps32
  go_wp2_with fail
  go_loopw [5, 6] (fun tv ti wr => ∃ k : Nat, k ≤ L.length ∧ ti = .int .i64 (k : Int) ∧ Own 3 wr w.heap.size tv (((colN L 3).take k).map (Value.int .i64)) ∧ Below w.heap.size w wr) (fun _ ti _ => L.length - (intOf ti).toNat)
  case atStart => exact ⟨0, Nat.zero_le _, rfl, HO0.out, below_alloc _ _⟩
  case round =>
    clear HO0
    obtain ⟨k, hk, rfl, ho, hbel⟩ := hrel
    by_cases hlt : k < L.length
    · obtain ⟨g, off, rfl, hg, hx⟩ := HR.out k hlt
      obtain ⟨hdr, hxk⟩ := HD.out k hlt
      have HV : Hid ((colN L 3).take (k + 1) = (colN L 3).take k ++ [numAt 3 (ovAt L k)]) := col_snoc (c := 3) hlt
      have hrg := opAt_range (hx.below (hbel.mono hC) hg)
      replace hdr := hdr.below (hbel.mono hC)
      have hF := ok_facts hxk
      generalize ovAt L k = X at hrg hdr hF HV
      obtain ⟨xa, xs, xt, xdv, xk, xo, xn, xu, xpt, xpa, xky, xtx, xds⟩ := X
      have h16 := (vecOK_get hF.hds).1
      have hn1 := hF.hn
      dsimp only at hrg hdr hF h16 hn1
      clear hx hxk
      have hsg := fun w' => l08Sign_any xn w' (by omega) (by omega)
      obtain ⟨da, dcap, hde, -, -, -, hdc⟩ := hdr
      rw [List.length_map, h16] at hdc hde
      subst hde
      obtain ⟨dg, doff, rfl, hdg, hdc⟩ := hdc (by omega)
      obtain ⟨va, vc, e, -⟩ := ho.slice
      have hcl : ((colN L 3).take k).length = k := by rw [List.length_take, col_len]; omega
      rw [List.length_map, hcl] at e
      subst e
      have ho' : wr.ownsRow w.heap.size 3 1 (.slice va k vc) k (((colN L 3).take k).map (Value.int .i64)) := by
        unfold Own at ho
        rwa [List.length_map, hcl] at ho
      have hsz := hbel.size
      have hbk := ho.lt
      clear ho hcl
      replace hrg : wr.rangeAt g (off + k * 12) [.int .i64 xa, .int .i64 xs, .int .i64 xt, .slice (some ⟨dg, doff, none⟩) 16 dcap, .int .i64 xk, .int .i64 xo, .int .i64 xn, .int .i64 xu, .int .i64 xpt, .int .i64 xpa, .string xky, .string xtx] := by
        have h := hrg
        unfold Ov.cs at h
        exact h
      have hcn := colOne (wr.alloc (.cells #[.int .i64 xa, .int .i64 xs, .int .i64 xt, .slice (some ⟨dg, doff, none⟩) 16 dcap, .int .i64 xk, .int .i64 xo, .int .i64 xn, .int .i64 xu, .int .i64 xpt, .int .i64 xpa, .string xky, .string xtx] 47)) (.int .i64 xk) 3
      simp only [World.size_alloc] at hcn
      go_wp2_with (first | (at_builtin; refine wpList_append_own _ rfl _ _ 35 rfl w.heap.size 3 i0 (.int .i64 0) 1 8 Tryz.underlying35 hi hz0 hz1 hz2 rfl (by decide) _ k _ rfl (World.ownsRow.alloc (World.ownsRow.alloc ho' _) _) ⟨wr.heap.size + 1, 0, none⟩ 1 1 [.int .i64 xk] rfl rfl hcn (by simp [Value.oneCell']) (by unfold maxLen; omega) (by omega) (by simp only [World.size_alloc]; omega) ?_) | (refine wpList_load_mid rfl 47 _ rfl g (off + k * 12) rfl _ _ hrg Tryz.underlying47 rfl info12 ?_) | (go_at_call 59; refine (hsg _).mono ?_; rintro e w5 ⟨rfl, hw5⟩; obtain rfl := hw5.symm))
      intro v6 w6 ho6 hg6 _
      have ho7 : Own 3 w6 w.heap.size v6 (((colN L 3).take (k + 1)).map (Value.int .i64)) := by
        rw [HV.out, List.map_append]
        first | exact own_of ho6 | (rw [List.map_take]; exact own_of ho6)
      have hb7 : Below w.heap.size w w6 := (below_then (below_then hbel _) _).grown hg6 (by simp only [World.size_alloc]; omega) hbk
      clear ho6 hg6 ho' hcn HV hrg hsg
      go_wp2_with fail
      go_roundw
      case rel => exact ⟨k + 1, by omega, by go_num, ho7, hb7⟩
      case measure => simp [intOf]; omega
    · obtain rfl : k = L.length := by omega
      rw [List.take_of_length_le (by rw [col_len]; omega)] at ho
      go_wp2_with fail
      go_ret
      exact ⟨_, rfl, ho, hbel⟩

set_option maxHeartbeats 8000000 in
set_option maxRecDepth 100000 in
theorem l08Column_4 (C : Nat) (w : World) (v : Value) (L : List Ov) (hC : C ≤ w.heap.size) (hr : RdO C w v L) (hl : L.length ≤ 1024) (hok : ∀ x ∈ L, x.ok = true) :
    Calls Tryz.prog 32 #[v, .int .i64 4] w fun e w' => ∃ r, e = .returned r ∧ Own 3 w' w.heap.size r ((colN L 4).map (Value.int .i64)) ∧ Below w.heap.size w w' := by
  obtain ⟨i0, hi, hz0, hz1, hz2⟩ := info_parts info3
  obtain ⟨⟨ao, cap, rfl, hcap, hmax, hnil, hrow⟩, hdv⟩ := hr
  have HR : Hid (∀ k, k < L.length → ∃ g off, ao = some ⟨g, off, none⟩ ∧ g < C ∧ OpAt w g (off + k * 12) (ovAt L k)) := fun k hk => by
    obtain ⟨g, off, h1, h2, h3⟩ := hrow (by omega)
    exact ⟨g, off, h1, h2, h3 k hk⟩
  have HD : Hid (∀ k, k < L.length → Rd C w (ovAt L k).dv ((ovAt L k).ds.map (Value.int .i64)) ∧ (ovAt L k).ok = true) := fun k hk => ⟨hdv _ (ovAt_mem hk), hok _ (ovAt_mem hk)⟩
  clear hrow hdv hnil hok
  have HO0 : Hid (Own 3 (w.alloc (.cells #[] 3)) w.heap.size (.slice (some ⟨w.heap.size, 0, none⟩) 0 0) (((colN L 4).take 0).map (Value.int .i64))) := own_lit w 3 [] 0 rfl (Nat.zero_le _)
  go_enter Tryz.func32, Tryz.ntmps32
  go_wp2_with fail
  go_loopw [5, 6] (fun tv ti wr => ∃ k : Nat, k ≤ L.length ∧ ti = .int .i64 (k : Int) ∧ Own 3 wr w.heap.size tv (((colN L 4).take k).map (Value.int .i64)) ∧ Below w.heap.size w wr) (fun _ ti _ => L.length - (intOf ti).toNat)
  case atStart => exact ⟨0, Nat.zero_le _, rfl, HO0.out, below_alloc _ _⟩
  case round =>
    clear HO0
    obtain ⟨k, hk, rfl, ho, hbel⟩ := hrel
    by_cases hlt : k < L.length
    · obtain ⟨g, off, rfl, hg, hx⟩ := HR.out k hlt
      obtain ⟨hdr, hxk⟩ := HD.out k hlt
      have HV : Hid ((colN L 4).take (k + 1) = (colN L 4).take k ++ [numAt 4 (ovAt L k)]) := col_snoc (c := 4) hlt
      have hrg := opAt_range (hx.below (hbel.mono hC) hg)
      replace hdr := hdr.below (hbel.mono hC)
      have hF := ok_facts hxk
      generalize ovAt L k = X at hrg hdr hF HV
      obtain ⟨xa, xs, xt, xdv, xk, xo, xn, xu, xpt, xpa, xky, xtx, xds⟩ := X
      have h16 := (vecOK_get hF.hds).1
      have hn1 := hF.hn
      dsimp only at hrg hdr hF h16 hn1
      clear hx hxk
      have hsg := fun w' => l08Sign_any xn w' (by omega) (by omega)
      obtain ⟨da, dcap, hde, -, -, -, hdc⟩ := hdr
      rw [List.length_map, h16] at hdc hde
      subst hde
      obtain ⟨dg, doff, rfl, hdg, hdc⟩ := hdc (by omega)
      obtain ⟨va, vc, e, -⟩ := ho.slice
      have hcl : ((colN L 4).take k).length = k := by rw [List.length_take, col_len]; omega
      rw [List.length_map, hcl] at e
      subst e
      have ho' : wr.ownsRow w.heap.size 3 1 (.slice va k vc) k (((colN L 4).take k).map (Value.int .i64)) := by
        unfold Own at ho
        rwa [List.length_map, hcl] at ho
      have hsz := hbel.size
      have hbk := ho.lt
      clear ho hcl
      replace hrg : wr.rangeAt g (off + k * 12) [.int .i64 xa, .int .i64 xs, .int .i64 xt, .slice (some ⟨dg, doff, none⟩) 16 dcap, .int .i64 xk, .int .i64 xo, .int .i64 xn, .int .i64 xu, .int .i64 xpt, .int .i64 xpa, .string xky, .string xtx] := by
        have h := hrg
        unfold Ov.cs at h
        exact h
      have hcn := colOne (wr.alloc (.cells #[.int .i64 xa, .int .i64 xs, .int .i64 xt, .slice (some ⟨dg, doff, none⟩) 16 dcap, .int .i64 xk, .int .i64 xo, .int .i64 xn, .int .i64 xu, .int .i64 xpt, .int .i64 xpa, .string xky, .string xtx] 47)) (.int .i64 xo) 3
      simp only [World.size_alloc] at hcn
      go_wp2_with (first | (at_builtin; refine wpList_append_own _ rfl _ _ 35 rfl w.heap.size 3 i0 (.int .i64 0) 1 8 Tryz.underlying35 hi hz0 hz1 hz2 rfl (by decide) _ k _ rfl (World.ownsRow.alloc (World.ownsRow.alloc ho' _) _) ⟨wr.heap.size + 1, 0, none⟩ 1 1 [.int .i64 xo] rfl rfl hcn (by simp [Value.oneCell']) (by unfold maxLen; omega) (by omega) (by simp only [World.size_alloc]; omega) ?_) | (refine wpList_load_mid rfl 47 _ rfl g (off + k * 12) rfl _ _ hrg Tryz.underlying47 rfl info12 ?_) | (go_at_call 59; refine (hsg _).mono ?_; rintro e w5 ⟨rfl, hw5⟩; obtain rfl := hw5.symm))
      intro v6 w6 ho6 hg6 _
      have ho7 : Own 3 w6 w.heap.size v6 (((colN L 4).take (k + 1)).map (Value.int .i64)) := by
        rw [HV.out, List.map_append]
        first | exact own_of ho6 | (rw [List.map_take]; exact own_of ho6)
      have hb7 : Below w.heap.size w w6 := (below_then (below_then hbel _) _).grown hg6 (by simp only [World.size_alloc]; omega) hbk
      clear ho6 hg6 ho' hcn HV hrg hsg
      go_wp2_with fail
      go_roundw
      case rel => exact ⟨k + 1, by omega, by go_num, ho7, hb7⟩
      case measure => simp [intOf]; omega
    · obtain rfl : k = L.length := by omega
      rw [List.take_of_length_le (by rw [col_len]; omega)] at ho
      go_wp2_with fail
      go_ret
      exact ⟨_, rfl, ho, hbel⟩

set_option maxHeartbeats 8000000 in
set_option maxRecDepth 100000 in
theorem l08Column_5 (C : Nat) (w : World) (v : Value) (L : List Ov) (hC : C ≤ w.heap.size) (hr : RdO C w v L) (hl : L.length ≤ 1024) (hok : ∀ x ∈ L, x.ok = true) :
    Calls Tryz.prog 32 #[v, .int .i64 5] w fun e w' => ∃ r, e = .returned r ∧ Own 3 w' w.heap.size r ((colN L 5).map (Value.int .i64)) ∧ Below w.heap.size w w' := by
  obtain ⟨i0, hi, hz0, hz1, hz2⟩ := info_parts info3
  obtain ⟨⟨ao, cap, rfl, hcap, hmax, hnil, hrow⟩, hdv⟩ := hr
  have HR : Hid (∀ k, k < L.length → ∃ g off, ao = some ⟨g, off, none⟩ ∧ g < C ∧ OpAt w g (off + k * 12) (ovAt L k)) := fun k hk => by
    obtain ⟨g, off, h1, h2, h3⟩ := hrow (by omega)
    exact ⟨g, off, h1, h2, h3 k hk⟩
  have HD : Hid (∀ k, k < L.length → Rd C w (ovAt L k).dv ((ovAt L k).ds.map (Value.int .i64)) ∧ (ovAt L k).ok = true) := fun k hk => ⟨hdv _ (ovAt_mem hk), hok _ (ovAt_mem hk)⟩
  clear hrow hdv hnil hok
  have HO0 : Hid (Own 3 (w.alloc (.cells #[] 3)) w.heap.size (.slice (some ⟨w.heap.size, 0, none⟩) 0 0) (((colN L 5).take 0).map (Value.int .i64))) := own_lit w 3 [] 0 rfl (Nat.zero_le _)
  go_enter Tryz.func32, Tryz.ntmps32
  go_wp2_with fail
  go_loopw [5, 6] (fun tv ti wr => ∃ k : Nat, k ≤ L.length ∧ ti = .int .i64 (k : Int) ∧ Own 3 wr w.heap.size tv (((colN L 5).take k).map (Value.int .i64)) ∧ Below w.heap.size w wr) (fun _ ti _ => L.length - (intOf ti).toNat)
  case atStart => exact ⟨0, Nat.zero_le _, rfl, HO0.out, below_alloc _ _⟩
  case round =>
    clear HO0
    obtain ⟨k, hk, rfl, ho, hbel⟩ := hrel
    by_cases hlt : k < L.length
    · obtain ⟨g, off, rfl, hg, hx⟩ := HR.out k hlt
      obtain ⟨hdr, hxk⟩ := HD.out k hlt
      have HV : Hid ((colN L 5).take (k + 1) = (colN L 5).take k ++ [numAt 5 (ovAt L k)]) := col_snoc (c := 5) hlt
      have hrg := opAt_range (hx.below (hbel.mono hC) hg)
      replace hdr := hdr.below (hbel.mono hC)
      have hF := ok_facts hxk
      generalize ovAt L k = X at hrg hdr hF HV
      obtain ⟨xa, xs, xt, xdv, xk, xo, xn, xu, xpt, xpa, xky, xtx, xds⟩ := X
      have h16 := (vecOK_get hF.hds).1
      have hn1 := hF.hn
      dsimp only at hrg hdr hF h16 hn1
      clear hx hxk
      have hsg := fun w' => l08Sign_any xn w' (by omega) (by omega)
      obtain ⟨da, dcap, hde, -, -, -, hdc⟩ := hdr
      rw [List.length_map, h16] at hdc hde
      subst hde
      obtain ⟨dg, doff, rfl, hdg, hdc⟩ := hdc (by omega)
      obtain ⟨va, vc, e, -⟩ := ho.slice
      have hcl : ((colN L 5).take k).length = k := by rw [List.length_take, col_len]; omega
      rw [List.length_map, hcl] at e
      subst e
      have ho' : wr.ownsRow w.heap.size 3 1 (.slice va k vc) k (((colN L 5).take k).map (Value.int .i64)) := by
        unfold Own at ho
        rwa [List.length_map, hcl] at ho
      have hsz := hbel.size
      have hbk := ho.lt
      clear ho hcl
      replace hrg : wr.rangeAt g (off + k * 12) [.int .i64 xa, .int .i64 xs, .int .i64 xt, .slice (some ⟨dg, doff, none⟩) 16 dcap, .int .i64 xk, .int .i64 xo, .int .i64 xn, .int .i64 xu, .int .i64 xpt, .int .i64 xpa, .string xky, .string xtx] := by
        have h := hrg
        unfold Ov.cs at h
        exact h
      have hcn := colOne (wr.alloc (.cells #[.int .i64 xa, .int .i64 xs, .int .i64 xt, .slice (some ⟨dg, doff, none⟩) 16 dcap, .int .i64 xk, .int .i64 xo, .int .i64 xn, .int .i64 xu, .int .i64 xpt, .int .i64 xpa, .string xky, .string xtx] 47)) (.int .i64 ((foldS xn : Nat) : Int)) 3
      simp only [World.size_alloc] at hcn
      go_wp2_with (first | (at_builtin; refine wpList_append_own _ rfl _ _ 35 rfl w.heap.size 3 i0 (.int .i64 0) 1 8 Tryz.underlying35 hi hz0 hz1 hz2 rfl (by decide) _ k _ rfl (World.ownsRow.alloc (World.ownsRow.alloc ho' _) _) ⟨wr.heap.size + 1, 0, none⟩ 1 1 [.int .i64 ((foldS xn : Nat) : Int)] rfl rfl hcn (by simp [Value.oneCell']) (by unfold maxLen; omega) (by omega) (by simp only [World.size_alloc]; omega) ?_) | (refine wpList_load_mid rfl 47 _ rfl g (off + k * 12) rfl _ _ hrg Tryz.underlying47 rfl info12 ?_) | (go_at_call 59; refine (hsg _).mono ?_; rintro e w5 ⟨rfl, hw5⟩; obtain rfl := hw5.symm))
      intro v6 w6 ho6 hg6 _
      have ho7 : Own 3 w6 w.heap.size v6 (((colN L 5).take (k + 1)).map (Value.int .i64)) := by
        rw [HV.out, List.map_append]
        first | exact own_of ho6 | (rw [List.map_take]; exact own_of ho6)
      have hb7 : Below w.heap.size w w6 := (below_then (below_then hbel _) _).grown hg6 (by simp only [World.size_alloc]; omega) hbk
      clear ho6 hg6 ho' hcn HV hrg hsg
      go_wp2_with fail
      go_roundw
      case rel => exact ⟨k + 1, by omega, by go_num, ho7, hb7⟩
      case measure => simp [intOf]; omega
    · obtain rfl : k = L.length := by omega
      rw [List.take_of_length_le (by rw [col_len]; omega)] at ho
      go_wp2_with fail
      go_ret
      exact ⟨_, rfl, ho, hbel⟩

set_option maxHeartbeats 8000000 in
set_option maxRecDepth 100000 in
theorem l08Column_6 (C : Nat) (w : World) (v : Value) (L : List Ov) (hC : C ≤ w.heap.size) (hr : RdO C w v L) (hl : L.length ≤ 1024) (hok : ∀ x ∈ L, x.ok = true) :
    Calls Tryz.prog 32 #[v, .int .i64 6] w fun e w' => ∃ r, e = .returned r ∧ Own 3 w' w.heap.size r ((colN L 6).map (Value.int .i64)) ∧ Below w.heap.size w w' := by
  obtain ⟨i0, hi, hz0, hz1, hz2⟩ := info_parts info3
  obtain ⟨⟨ao, cap, rfl, hcap, hmax, hnil, hrow⟩, hdv⟩ := hr
  have HR : Hid (∀ k, k < L.length → ∃ g off, ao = some ⟨g, off, none⟩ ∧ g < C ∧ OpAt w g (off + k * 12) (ovAt L k)) := fun k hk => by
    obtain ⟨g, off, h1, h2, h3⟩ := hrow (by omega)
    exact ⟨g, off, h1, h2, h3 k hk⟩
  have HD : Hid (∀ k, k < L.length → Rd C w (ovAt L k).dv ((ovAt L k).ds.map (Value.int .i64)) ∧ (ovAt L k).ok = true) := fun k hk => ⟨hdv _ (ovAt_mem hk), hok _ (ovAt_mem hk)⟩
  clear hrow hdv hnil hok
  have HO0 : Hid (Own 3 (w.alloc (.cells #[] 3)) w.heap.size (.slice (some ⟨w.heap.size, 0, none⟩) 0 0) (((colN L 6).take 0).map (Value.int .i64))) := own_lit w 3 [] 0 rfl (Nat.zero_le _)
  go_enter Tryz.func32, Tryz.ntmps32
  go_wp2_with fail
  go_loopw [5, 6] (fun tv ti wr => ∃ k : Nat, k ≤ L.length ∧ ti = .int .i64 (k : Int) ∧ Own 3 wr w.heap.size tv (((colN L 6).take k).map (Value.int .i64)) ∧ Below w.heap.size w wr) (fun _ ti _ => L.length - (intOf ti).toNat)
  case atStart => exact ⟨0, Nat.zero_le _, rfl, HO0.out, below_alloc _ _⟩
  case round =>
    clear HO0
    obtain ⟨k, hk, rfl, ho, hbel⟩ := hrel
    by_cases hlt : k < L.length
    · obtain ⟨g, off, rfl, hg, hx⟩ := HR.out k hlt
      obtain ⟨hdr, hxk⟩ := HD.out k hlt
      have HV : Hid ((colN L 6).take (k + 1) = (colN L 6).take k ++ [numAt 6 (ovAt L k)]) := col_snoc (c := 6) hlt
      have hrg := opAt_range (hx.below (hbel.mono hC) hg)
      replace hdr := hdr.below (hbel.mono hC)
      have hF := ok_facts hxk
      generalize ovAt L k = X at hrg hdr hF HV
      obtain ⟨xa, xs, xt, xdv, xk, xo, xn, xu, xpt, xpa, xky, xtx, xds⟩ := X
      have h16 := (vecOK_get hF.hds).1
      have hn1 := hF.hn
      dsimp only at hrg hdr hF h16 hn1
      clear hx hxk
      have hsg := fun w' => l08Sign_any xn w' (by omega) (by omega)
      obtain ⟨da, dcap, hde, -, -, -, hdc⟩ := hdr
      rw [List.length_map, h16] at hdc hde
      subst hde
      obtain ⟨dg, doff, rfl, hdg, hdc⟩ := hdc (by omega)
      obtain ⟨va, vc, e, -⟩ := ho.slice
      have hcl : ((colN L 6).take k).length = k := by rw [List.length_take, col_len]; omega
      rw [List.length_map, hcl] at e
      subst e
      have ho' : wr.ownsRow w.heap.size 3 1 (.slice va k vc) k (((colN L 6).take k).map (Value.int .i64)) := by
        unfold Own at ho
        rwa [List.length_map, hcl] at ho
      have hsz := hbel.size
      have hbk := ho.lt
      clear ho hcl
      replace hrg : wr.rangeAt g (off + k * 12) [.int .i64 xa, .int .i64 xs, .int .i64 xt, .slice (some ⟨dg, doff, none⟩) 16 dcap, .int .i64 xk, .int .i64 xo, .int .i64 xn, .int .i64 xu, .int .i64 xpt, .int .i64 xpa, .string xky, .string xtx] := by
        have h := hrg
        unfold Ov.cs at h
        exact h
      have hcn := colOne (wr.alloc (.cells #[.int .i64 xa, .int .i64 xs, .int .i64 xt, .slice (some ⟨dg, doff, none⟩) 16 dcap, .int .i64 xk, .int .i64 xo, .int .i64 xn, .int .i64 xu, .int .i64 xpt, .int .i64 xpa, .string xky, .string xtx] 47)) (.int .i64 xu) 3
      simp only [World.size_alloc] at hcn
      go_wp2_with (first | (at_builtin; refine wpList_append_own _ rfl _ _ 35 rfl w.heap.size 3 i0 (.int .i64 0) 1 8 Tryz.underlying35 hi hz0 hz1 hz2 rfl (by decide) _ k _ rfl (World.ownsRow.alloc (World.ownsRow.alloc ho' _) _) ⟨wr.heap.size + 1, 0, none⟩ 1 1 [.int .i64 xu] rfl rfl hcn (by simp [Value.oneCell']) (by unfold maxLen; omega) (by omega) (by simp only [World.size_alloc]; omega) ?_) | (refine wpList_load_mid rfl 47 _ rfl g (off + k * 12) rfl _ _ hrg Tryz.underlying47 rfl info12 ?_) | (go_at_call 59; refine (hsg _).mono ?_; rintro e w5 ⟨rfl, hw5⟩; obtain rfl := hw5.symm))
      intro v6 w6 ho6 hg6 _
      have ho7 : Own 3 w6 w.heap.size v6 (((colN L 6).take (k + 1)).map (Value.int .i64)) := by
        rw [HV.out, List.map_append]
        first | exact own_of ho6 | (rw [List.map_take]; exact own_of ho6)
      have hb7 : Below w.heap.size w w6 := (below_then (below_then hbel _) _).grown hg6 (by simp only [World.size_alloc]; omega) hbk
      clear ho6 hg6 ho' hcn HV hrg hsg
      go_wp2_with fail
      go_roundw
      case rel => exact ⟨k + 1, by omega, by go_num, ho7, hb7⟩
      case measure => simp [intOf]; omega
    · obtain rfl : k = L.length := by omega
      rw [List.take_of_length_le (by rw [col_len]; omega)] at ho
      go_wp2_with fail
      go_ret
      exact ⟨_, rfl, ho, hbel⟩

set_option maxHeartbeats 8000000 in
set_option maxRecDepth 100000 in
theorem l08Column_7 (C : Nat) (w : World) (v : Value) (L : List Ov) (hC : C ≤ w.heap.size) (hr : RdO C w v L) (hl : L.length ≤ 1024) (hok : ∀ x ∈ L, x.ok = true) :
    Calls Tryz.prog 32 #[v, .int .i64 7] w fun e w' => ∃ r, e = .returned r ∧ Own 3 w' w.heap.size r ((colN L 7).map (Value.int .i64)) ∧ Below w.heap.size w w' := by
  obtain ⟨i0, hi, hz0, hz1, hz2⟩ := info_parts info3
  obtain ⟨⟨ao, cap, rfl, hcap, hmax, hnil, hrow⟩, hdv⟩ := hr
  have HR : Hid (∀ k, k < L.length → ∃ g off, ao = some ⟨g, off, none⟩ ∧ g < C ∧ OpAt w g (off + k * 12) (ovAt L k)) := fun k hk => by
    obtain ⟨g, off, h1, h2, h3⟩ := hrow (by omega)
    exact ⟨g, off, h1, h2, h3 k hk⟩
  have HD : Hid (∀ k, k < L.length → Rd C w (ovAt L k).dv ((ovAt L k).ds.map (Value.int .i64)) ∧ (ovAt L k).ok = true) := fun k hk => ⟨hdv _ (ovAt_mem hk), hok _ (ovAt_mem hk)⟩
  clear hrow hdv hnil hok
  have HO0 : Hid (Own 3 (w.alloc (.cells #[] 3)) w.heap.size (.slice (some ⟨w.heap.size, 0, none⟩) 0 0) (((colN L 7).take 0).map (Value.int .i64))) := own_lit w 3 [] 0 rfl (Nat.zero_le _)
  go_enter Tryz.func32, Tryz.ntmps32
  go_wp2_with fail
  go_loopw [5, 6] (fun tv ti wr => ∃ k : Nat, k ≤ L.length ∧ ti = .int .i64 (k : Int) ∧ Own 3 wr w.heap.size tv (((colN L 7).take k).map (Value.int .i64)) ∧ Below w.heap.size w wr) (fun _ ti _ => L.length - (intOf ti).toNat)
  case atStart => exact ⟨0, Nat.zero_le _, rfl, HO0.out, below_alloc _ _⟩
  case round =>
    clear HO0
    obtain ⟨k, hk, rfl, ho, hbel⟩ := hrel
    by_cases hlt : k < L.length
    · obtain ⟨g, off, rfl, hg, hx⟩ := HR.out k hlt
      obtain ⟨hdr, hxk⟩ := HD.out k hlt
      have HV : Hid ((colN L 7).take (k + 1) = (colN L 7).take k ++ [numAt 7 (ovAt L k)]) := col_snoc (c := 7) hlt
      have hrg := opAt_range (hx.below (hbel.mono hC) hg)
      replace hdr := hdr.below (hbel.mono hC)
      have hF := ok_facts hxk
      generalize ovAt L k = X at hrg hdr hF HV
      obtain ⟨xa, xs, xt, xdv, xk, xo, xn, xu, xpt, xpa, xky, xtx, xds⟩ := X
      have h16 := (vecOK_get hF.hds).1
      have hn1 := hF.hn
      dsimp only at hrg hdr hF h16 hn1
      clear hx hxk
      have hsg := fun w' => l08Sign_any xn w' (by omega) (by omega)
      obtain ⟨da, dcap, hde, -, -, -, hdc⟩ := hdr
      rw [List.length_map, h16] at hdc hde
      subst hde
      obtain ⟨dg, doff, rfl, hdg, hdc⟩ := hdc (by omega)
      obtain ⟨va, vc, e, -⟩ := ho.slice
      have hcl : ((colN L 7).take k).length = k := by rw [List.length_take, col_len]; omega
      rw [List.length_map, hcl] at e
      subst e
      have ho' : wr.ownsRow w.heap.size 3 1 (.slice va k vc) k (((colN L 7).take k).map (Value.int .i64)) := by
        unfold Own at ho
        rwa [List.length_map, hcl] at ho
      have hsz := hbel.size
      have hbk := ho.lt
      clear ho hcl
      replace hrg : wr.rangeAt g (off + k * 12) [.int .i64 xa, .int .i64 xs, .int .i64 xt, .slice (some ⟨dg, doff, none⟩) 16 dcap, .int .i64 xk, .int .i64 xo, .int .i64 xn, .int .i64 xu, .int .i64 xpt, .int .i64 xpa, .string xky, .string xtx] := by
        have h := hrg
        unfold Ov.cs at h
        exact h
      have hcn := colOne (wr.alloc (.cells #[.int .i64 xa, .int .i64 xs, .int .i64 xt, .slice (some ⟨dg, doff, none⟩) 16 dcap, .int .i64 xk, .int .i64 xo, .int .i64 xn, .int .i64 xu, .int .i64 xpt, .int .i64 xpa, .string xky, .string xtx] 47)) (.int .i64 xpt) 3
      simp only [World.size_alloc] at hcn
      go_wp2_with (first | (at_builtin; refine wpList_append_own _ rfl _ _ 35 rfl w.heap.size 3 i0 (.int .i64 0) 1 8 Tryz.underlying35 hi hz0 hz1 hz2 rfl (by decide) _ k _ rfl (World.ownsRow.alloc (World.ownsRow.alloc ho' _) _) ⟨wr.heap.size + 1, 0, none⟩ 1 1 [.int .i64 xpt] rfl rfl hcn (by simp [Value.oneCell']) (by unfold maxLen; omega) (by omega) (by simp only [World.size_alloc]; omega) ?_) | (refine wpList_load_mid rfl 47 _ rfl g (off + k * 12) rfl _ _ hrg Tryz.underlying47 rfl info12 ?_) | (go_at_call 59; refine (hsg _).mono ?_; rintro e w5 ⟨rfl, hw5⟩; obtain rfl := hw5.symm))
      intro v6 w6 ho6 hg6 _
      have ho7 : Own 3 w6 w.heap.size v6 (((colN L 7).take (k + 1)).map (Value.int .i64)) := by
        rw [HV.out, List.map_append]
        first | exact own_of ho6 | (rw [List.map_take]; exact own_of ho6)
      have hb7 : Below w.heap.size w w6 := (below_then (below_then hbel _) _).grown hg6 (by simp only [World.size_alloc]; omega) hbk
      clear ho6 hg6 ho' hcn HV hrg hsg
      go_wp2_with fail
      go_roundw
      case rel => exact ⟨k + 1, by omega, by go_num, ho7, hb7⟩
      case measure => simp [intOf]; omega
    · obtain rfl : k = L.length := by omega
      rw [List.take_of_length_le (by rw [col_len]; omega)] at ho
      go_wp2_with fail
      go_ret
      exact ⟨_, rfl, ho, hbel⟩

set_option maxHeartbeats 8000000 in
set_option maxRecDepth 100000 in
theorem l08Column_8 (C : Nat) (w : World) (v : Value) (L : List Ov) (hC : C ≤ w.heap.size) (hr : RdO C w v L) (hl : L.length ≤ 1024) (hok : ∀ x ∈ L, x.ok = true) :
    Calls Tryz.prog 32 #[v, .int .i64 8] w fun e w' => ∃ r, e = .returned r ∧ Own 3 w' w.heap.size r ((colN L 8).map (Value.int .i64)) ∧ Below w.heap.size w w' := by
  obtain ⟨i0, hi, hz0, hz1, hz2⟩ := info_parts info3
  obtain ⟨⟨ao, cap, rfl, hcap, hmax, hnil, hrow⟩, hdv⟩ := hr
  have HR : Hid (∀ k, k < L.length → ∃ g off, ao = some ⟨g, off, none⟩ ∧ g < C ∧ OpAt w g (off + k * 12) (ovAt L k)) := fun k hk => by
    obtain ⟨g, off, h1, h2, h3⟩ := hrow (by omega)
    exact ⟨g, off, h1, h2, h3 k hk⟩
  have HD : Hid (∀ k, k < L.length → Rd C w (ovAt L k).dv ((ovAt L k).ds.map (Value.int .i64)) ∧ (ovAt L k).ok = true) := fun k hk => ⟨hdv _ (ovAt_mem hk), hok _ (ovAt_mem hk)⟩
  clear hrow hdv hnil hok
  have HO0 : Hid (Own 3 (w.alloc (.cells #[] 3)) w.heap.size (.slice (some ⟨w.heap.size, 0, none⟩) 0 0) (((colN L 8).take 0).map (Value.int .i64))) := own_lit w 3 [] 0 rfl (Nat.zero_le _)
  go_enter Tryz.func32, Tryz.ntmps32
  go_wp2_with fail
  go_loopw [5, 6] (fun tv ti wr => ∃ k : Nat, k ≤ L.length ∧ ti = .int .i64 (k : Int) ∧ Own 3 wr w.heap.size tv (((colN L 8).take k).map (Value.int .i64)) ∧ Below w.heap.size w wr) (fun _ ti _ => L.length - (intOf ti).toNat)
  case atStart => exact ⟨0, Nat.zero_le _, rfl, HO0.out, below_alloc _ _⟩
  case round =>
    clear HO0
    obtain ⟨k, hk, rfl, ho, hbel⟩ := hrel
    by_cases hlt : k < L.length
    · obtain ⟨g, off, rfl, hg, hx⟩ := HR.out k hlt
      obtain ⟨hdr, hxk⟩ := HD.out k hlt
      have HV : Hid ((colN L 8).take (k + 1) = (colN L 8).take k ++ [numAt 8 (ovAt L k)]) := col_snoc (c := 8) hlt
      have hrg := opAt_range (hx.below (hbel.mono hC) hg)
      replace hdr := hdr.below (hbel.mono hC)
      have hF := ok_facts hxk
      generalize ovAt L k = X at hrg hdr hF HV
      obtain ⟨xa, xs, xt, xdv, xk, xo, xn, xu, xpt, xpa, xky, xtx, xds⟩ := X
      have h16 := (vecOK_get hF.hds).1
      have hn1 := hF.hn
      dsimp only at hrg hdr hF h16 hn1
      clear hx hxk
      have hsg := fun w' => l08Sign_any xn w' (by omega) (by omega)
      obtain ⟨da, dcap, hde, -, -, -, hdc⟩ := hdr
      rw [List.length_map, h16] at hdc hde
      subst hde
      obtain ⟨dg, doff, rfl, hdg, hdc⟩ := hdc (by omega)
      obtain ⟨va, vc, e, -⟩ := ho.slice
      have hcl : ((colN L 8).take k).length = k := by rw [List.length_take, col_len]; omega
      rw [List.length_map, hcl] at e
      subst e
      have ho' : wr.ownsRow w.heap.size 3 1 (.slice va k vc) k (((colN L 8).take k).map (Value.int .i64)) := by
        unfold Own at ho
        rwa [List.length_map, hcl] at ho
      have hsz := hbel.size
      have hbk := ho.lt
      clear ho hcl
      replace hrg : wr.rangeAt g (off + k * 12) [.int .i64 xa, .int .i64 xs, .int .i64 xt, .slice (some ⟨dg, doff, none⟩) 16 dcap, .int .i64 xk, .int .i64 xo, .int .i64 xn, .int .i64 xu, .int .i64 xpt, .int .i64 xpa, .string xky, .string xtx] := by
        have h := hrg
        unfold Ov.cs at h
        exact h
      have hcn := colOne (wr.alloc (.cells #[.int .i64 xa, .int .i64 xs, .int .i64 xt, .slice (some ⟨dg, doff, none⟩) 16 dcap, .int .i64 xk, .int .i64 xo, .int .i64 xn, .int .i64 xu, .int .i64 xpt, .int .i64 xpa, .string xky, .string xtx] 47)) (.int .i64 xpa) 3
      simp only [World.size_alloc] at hcn
      go_wp2_with (first | (at_builtin; refine wpList_append_own _ rfl _ _ 35 rfl w.heap.size 3 i0 (.int .i64 0) 1 8 Tryz.underlying35 hi hz0 hz1 hz2 rfl (by decide) _ k _ rfl (World.ownsRow.alloc (World.ownsRow.alloc ho' _) _) ⟨wr.heap.size + 1, 0, none⟩ 1 1 [.int .i64 xpa] rfl rfl hcn (by simp [Value.oneCell']) (by unfold maxLen; omega) (by omega) (by simp only [World.size_alloc]; omega) ?_) | (refine wpList_load_mid rfl 47 _ rfl g (off + k * 12) rfl _ _ hrg Tryz.underlying47 rfl info12 ?_) | (go_at_call 59; refine (hsg _).mono ?_; rintro e w5 ⟨rfl, hw5⟩; obtain rfl := hw5.symm))
      intro v6 w6 ho6 hg6 _
      have ho7 : Own 3 w6 w.heap.size v6 (((colN L 8).take (k + 1)).map (Value.int .i64)) := by
        rw [HV.out, List.map_append]
        first | exact own_of ho6 | (rw [List.map_take]; exact own_of ho6)
      have hb7 : Below w.heap.size w w6 := (below_then (below_then hbel _) _).grown hg6 (by simp only [World.size_alloc]; omega) hbk
      clear ho6 hg6 ho' hcn HV hrg hsg
      go_wp2_with fail
      go_roundw
      case rel => exact ⟨k + 1, by omega, by go_num, ho7, hb7⟩
      case measure => simp [intOf]; omega
    · obtain rfl : k = L.length := by omega
      rw [List.take_of_length_le (by rw [col_len]; omega)] at ho
      go_wp2_with fail
      go_ret
      exact ⟨_, rfl, ho, hbel⟩

set_option maxHeartbeats 8000000 in
set_option maxRecDepth 100000 in
theorem l08Column_9 (C : Nat) (w : World) (v : Value) (L : List Ov) (c : Nat) (hc : c < 25) (h9 : 9 ≤ c) (hC : C ≤ w.heap.size) (hr : RdO C w v L) (hl : L.length ≤ 1024) (hok : ∀ x ∈ L, x.ok = true) :
    Calls Tryz.prog 32 #[v, .int .i64 (c : Int)] w fun e w' => ∃ r, e = .returned r ∧ Own 3 w' w.heap.size r ((colN L c).map (Value.int .i64)) ∧ Below w.heap.size w w' := by
  obtain ⟨i0, hi, hz0, hz1, hz2⟩ := info_parts info3
  obtain ⟨⟨ao, cap, rfl, hcap, hmax, hnil, hrow⟩, hdv⟩ := hr
  have HR : Hid (∀ k, k < L.length → ∃ g off, ao = some ⟨g, off, none⟩ ∧ g < C ∧ OpAt w g (off + k * 12) (ovAt L k)) := fun k hk => by
    obtain ⟨g, off, h1, h2, h3⟩ := hrow (by omega)
    exact ⟨g, off, h1, h2, h3 k hk⟩
  have HD : Hid (∀ k, k < L.length → Rd C w (ovAt L k).dv ((ovAt L k).ds.map (Value.int .i64)) ∧ (ovAt L k).ok = true) := fun k hk => ⟨hdv _ (ovAt_mem hk), hok _ (ovAt_mem hk)⟩
  clear hrow hdv hnil hok
  have HO0 : Hid (Own 3 (w.alloc (.cells #[] 3)) w.heap.size (.slice (some ⟨w.heap.size, 0, none⟩) 0 0) (((colN L c).take 0).map (Value.int .i64))) := own_lit w 3 [] 0 rfl (Nat.zero_le _)
  go_enter Tryz.func32, Tryz.ntmps32
  go_wp2_with fail
  go_loopw [5, 6] (fun tv ti wr => ∃ k : Nat, k ≤ L.length ∧ ti = .int .i64 (k : Int) ∧ Own 3 wr w.heap.size tv (((colN L c).take k).map (Value.int .i64)) ∧ Below w.heap.size w wr) (fun _ ti _ => L.length - (intOf ti).toNat)
  case atStart => exact ⟨0, Nat.zero_le _, rfl, HO0.out, below_alloc _ _⟩
  case round =>
    clear HO0
    obtain ⟨k, hk, rfl, ho, hbel⟩ := hrel
    by_cases hlt : k < L.length
    · obtain ⟨g, off, rfl, hg, hx⟩ := HR.out k hlt
      obtain ⟨hdr, hxk⟩ := HD.out k hlt
      have HV : Hid ((colN L c).take (k + 1) = (colN L c).take k ++ [numAt c (ovAt L k)]) := col_snoc hlt
      have hrg := opAt_range (hx.below (hbel.mono hC) hg)
      replace hdr := hdr.below (hbel.mono hC)
      have hF := ok_facts hxk
      generalize ovAt L k = X at hrg hdr hF HV
      obtain ⟨xa, xs, xt, xdv, xk, xo, xn, xu, xpt, xpa, xky, xtx, xds⟩ := X
      have h16 := (vecOK_get hF.hds).1
      have hn1 := hF.hn
      dsimp only at hrg hdr hF h16 hn1
      clear hx hxk
      have hsg := fun w' => l08Sign_any xn w' (by omega) (by omega)
      obtain ⟨da, dcap, hde, -, -, -, hdc⟩ := hdr
      rw [List.length_map, h16] at hdc hde
      subst hde
      obtain ⟨dg, doff, rfl, hdg, hdc⟩ := hdc (by omega)
      obtain ⟨va, vc, e, -⟩ := ho.slice
      have hcl : ((colN L c).take k).length = k := by rw [List.length_take, col_len]; omega
      rw [List.length_map, hcl] at e
      subst e
      have ho' : wr.ownsRow w.heap.size 3 1 (.slice va k vc) k (((colN L c).take k).map (Value.int .i64)) := by
        unfold Own at ho
        rwa [List.length_map, hcl] at ho
      have hsz := hbel.size
      have hbk := ho.lt
      clear ho hcl
      replace hrg : wr.rangeAt g (off + k * 12) [.int .i64 xa, .int .i64 xs, .int .i64 xt, .slice (some ⟨dg, doff, none⟩) 16 dcap, .int .i64 xk, .int .i64 xo, .int .i64 xn, .int .i64 xu, .int .i64 xpt, .int .i64 xpa, .string xky, .string xtx] := by
        have h := hrg
        unfold Ov.cs at h
        exact h
      have d0 : (((c : Nat) : Int) == 0) = false := by simp; omega
      have d1 : (((c : Nat) : Int) == 1) = false := by simp; omega
      have d2 : (((c : Nat) : Int) == 2) = false := by simp; omega
      have d3 : (((c : Nat) : Int) == 3) = false := by simp; omega
      have d4 : (((c : Nat) : Int) == 4) = false := by simp; omega
      have d5 : (((c : Nat) : Int) == 5) = false := by simp; omega
      have d6 : (((c : Nat) : Int) == 6) = false := by simp; omega
      have d7 : (((c : Nat) : Int) == 7) = false := by simp; omega
      have d8 : (((c : Nat) : Int) == 8) = false := by simp; omega
      have hnu : numAt c (⟨xa, xs, xt, .slice (some ⟨dg, doff, none⟩) 16 dcap, xk, xo, xn, xu, xpt, xpa, xky, xtx, xds⟩ : Ov) = nth xds (c - 9) := by
        unfold numAt numsO nth
        simp only [List.getD_eq_getElem?_getD]
        rw [List.getElem?_append_right (by simp; omega)]
        simp
      have cd : (wr.alloc (.cells #[.int .i64 xa, .int .i64 xs, .int .i64 xt, .slice (some ⟨dg, doff, none⟩) 16 dcap, .int .i64 xk, .int .i64 xo, .int .i64 xn, .int .i64 xu, .int .i64 xpt, .int .i64 xpa, .string xky, .string xtx] 47)).cell? ⟨dg, doff + (c - 9), none⟩ = some (.int .i64 (nth xds (c - 9))) := by
        have hw := ((below_alloc wr (.cells #[.int .i64 xa, .int .i64 xs, .int .i64 xt, .slice (some ⟨dg, doff, none⟩) 16 dcap, .int .i64 xk, .int .i64 xo, .int .i64 xn, .int .i64 xu, .int .i64 xpt, .int .i64 xpa, .string xky, .string xtx] 47)).cell (p := ⟨dg, doff + (c - 9), none⟩) (show dg < wr.heap.size by omega)).trans (hdc (c - 9) (.int .i64 (nth xds (c - 9))) (by simp [nth, show c - 9 < xds.length by omega]))
        exact hw
      have HV' : Hid ((colN L c).take (k + 1) = (colN L c).take k ++ [nth xds (c - 9)]) := by
        unfold Hid
        rw [HV.out]
        congr 2
      generalize nth xds (c - 9) = y at cd HV'
      have z0 : (0 : Int) ≤ ((c : Nat) : Int) - 9 := by omega
      have z1 : ((c : Nat) : Int) - 9 < 16 := by omega
      have z2 : (((c : Nat) : Int) - 9).toNat = c - 9 := by omega
      have hcn := colOne (wr.alloc (.cells #[.int .i64 xa, .int .i64 xs, .int .i64 xt, .slice (some ⟨dg, doff, none⟩) 16 dcap, .int .i64 xk, .int .i64 xo, .int .i64 xn, .int .i64 xu, .int .i64 xpt, .int .i64 xpa, .string xky, .string xtx] 47)) (.int .i64 y) 3
      simp only [World.size_alloc] at hcn
      go_wp2_with (first | (at_builtin; refine wpList_append_own _ rfl _ _ 35 rfl w.heap.size 3 i0 (.int .i64 0) 1 8 Tryz.underlying35 hi hz0 hz1 hz2 rfl (by decide) _ k _ rfl (World.ownsRow.alloc (World.ownsRow.alloc ho' _) _) ⟨wr.heap.size + 1, 0, none⟩ 1 1 [.int .i64 y] rfl rfl hcn (by simp [Value.oneCell']) (by unfold maxLen; omega) (by omega) (by simp only [World.size_alloc]; omega) ?_) | (refine wpList_load_mid rfl 47 _ rfl g (off + k * 12) rfl _ _ hrg Tryz.underlying47 rfl info12 ?_) | (go_at_call 59; refine (hsg _).mono ?_; rintro e w5 ⟨rfl, hw5⟩; obtain rfl := hw5.symm))
      intro v6 w6 ho6 hg6 _
      have ho7 : Own 3 w6 w.heap.size v6 (((colN L c).take (k + 1)).map (Value.int .i64)) := by
        rw [HV'.out, List.map_append]
        first | exact own_of ho6 | (rw [List.map_take]; exact own_of ho6)
      have hb7 : Below w.heap.size w w6 := (below_then (below_then hbel _) _).grown hg6 (by simp only [World.size_alloc]; omega) hbk
      clear ho6 hg6 ho' hcn HV HV' hrg hsg
      go_wp2_with fail
      go_roundw
      case rel => exact ⟨k + 1, by omega, by go_num, ho7, hb7⟩
      case measure => simp [intOf]; omega
    · obtain rfl : k = L.length := by omega
      rw [List.take_of_length_le (by rw [col_len]; omega)] at ho
      go_wp2_with fail
      go_ret
      exact ⟨_, rfl, ho, hbel⟩

theorem l08Column_any (C : Nat) (w : World) (v : Value) (L : List Ov) (c : Nat) (hc : c < 25) (hC : C ≤ w.heap.size) (hr : RdO C w v L) (hl : L.length ≤ 1024) (hok : ∀ x ∈ L, x.ok = true) :
    Calls Tryz.prog 32 #[v, .int .i64 (c : Int)] w fun e w' => ∃ r, e = .returned r ∧ Own 3 w' w.heap.size r ((colN L c).map (Value.int .i64)) ∧ Below w.heap.size w w' := by
  by_cases h9 : 9 ≤ c
  · exact l08Column_9 C w v L c hc h9 hC hr hl hok
  · have hcs : c = 0 ∨ c = 1 ∨ c = 2 ∨ c = 3 ∨ c = 4 ∨ c = 5 ∨ c = 6 ∨ c = 7 ∨ c = 8 := by omega
    rcases hcs with rfl | rfl | rfl | rfl | rfl | rfl | rfl | rfl | rfl
    · exact l08Column_0 C w v L hC hr hl hok
    · exact l08Column_1 C w v L hC hr hl hok
    · exact l08Column_2 C w v L hC hr hl hok
    · exact l08Column_3 C w v L hC hr hl hok
    · exact l08Column_4 C w v L hC hr hl hok
    · exact l08Column_5 C w v L hC hr hl hok
    · exact l08Column_6 C w v L hC hr hl hok
    · exact l08Column_7 C w v L hC hr hl hok
    · exact l08Column_8 C w v L hC hr hl hok
end Go.Proofs.YtaglbacicpknaaaGreat

namespace Go.Proofs.YtaglbacicpknaaaGreat
open Go.RowKit
set_option linter.unusedVariables false

theorem rowSame {w w' : World} {B n : Nat} {e : TypeId} {v : Value} {cs : List Value} (h : w.ownsRow B e 1 v n cs) (hs : ∀ k, v.ownBlock = Option.some k → w'.heap[k]? = w.heap[k]?) : w'.ownsRow B e 1 v n cs := by
  obtain ⟨h1, h2⟩ := h
  refine ⟨h1, ?_⟩
  rcases h2 with h2 | ⟨g, cap, cur, hv, hb, hh, r⟩
  · exact .inl h2
  · exact .inr ⟨g, cap, cur, hv, hb, by rw [hs g (by rw [hv]; rfl)]; exact hh, r⟩
theorem ownApart {w w' : World} {e e' : TypeId} {B B' : Nat} {v v' : Value} {cs cs' : List Value} (h : Own e w B v cs) (h' : Own e' w B' v' cs') (hne : e ≠ e') (hg : w.grownBy w' v.ownBlock) : Own e' w' B' v' cs' := by
  refine rowSame h' (fun k hk => hg.block k (World.ownsRow.lt h' k hk).2 (fun e0 => ?_))
  obtain ⟨_, h2⟩ := h
  obtain ⟨_, d2⟩ := h'
  rcases h2 with ⟨ev, _⟩ | ⟨g, cap, cur, ev, _, hh, _⟩
  · rw [ev] at e0; cases e0
  · rcases d2 with ⟨ev', _⟩ | ⟨g', cap', cur', ev', _, hh', _⟩
    · rw [ev'] at hk; cases hk
    · rw [ev] at e0
      rw [ev'] at hk
      cases e0
      cases hk
      rw [hh] at hh'
      simp only [Option.some.injEq, Obj.cells.injEq] at hh'
      exact hne hh'.2.1
/-- Two rows of texts that grow beside each other. -/
structure TwoT (w : World) (B gk ck gt ct k : Nat) (K T : List ByteArray) : Prop where
  ok : w.ownsRow B 9 1 (.slice (some ⟨gk, 0, none⟩) k ck) k (K.map Value.string)
  ot : w.ownsRow B 9 1 (.slice (some ⟨gt, 0, none⟩) k ct) k (T.map Value.string)
  ne : gk ≠ gt
theorem map_snoc {f : Ov → ByteArray} {L : List Ov} {k : Nat} (h : k < L.length) : (L.map f).take (k + 1) = (L.map f).take k ++ [f (ovAt L k)] := by
  rw [List.take_add_one, List.getElem?_map, ovAt_get h]
  rfl

set_option maxHeartbeats 8000000 in
set_option maxRecDepth 100000 in
theorem l08Bytes_any (C : Nat) (w : World) (v : Value) (L : List Ov) (hC : C ≤ w.heap.size) (hr : RdO C w v L) (hl : L.length ≤ 1024) (hok : ∀ x ∈ L, x.ok = true) :
    Calls Tryz.prog 15 #[v] w fun e w' => ∃ r, e = .returned r ∧ Own 5 w' w.heap.size r ((logBy L).map (Value.int .u8)) ∧ Below w.heap.size w w' := by
  obtain ⟨i5, hi5, hy0, hy1, hy2⟩ := info_parts info5
  obtain ⟨i9, hi9, hx0, hx1, hx2⟩ := info_parts info9
  have HCOL : Hid (∀ w' (c : Nat), c < 25 → Below w.heap.size w w' → Calls Tryz.prog 32 #[v, .int .i64 (c : Int)] w' fun e w'' => ∃ r, e = .returned r ∧ Own 3 w'' w'.heap.size r ((colN L c).map (Value.int .i64)) ∧ Below w'.heap.size w' w'') := fun w' c hc hb => l08Column_any C w' v L c hc (by have := hb.size; omega) (hr.below (hb.mono hC)) hl hok
  have HLB : Hid (∀ c, c ≤ 25 → (colsB L c).length ≤ 435450) := fun c hc => by have := colsB_len hok hl c; omega
  have HRL : Hid (∀ c, (putR (colN L c)).length ≤ 17418) := fun c => putR17 (col_bd hok c) (by rw [col_len]; exact hl)
  have HRO : Hid (∀ c, runsOK (colN L c) = true ∧ (colN L c).length ≤ 4096) := fun c => ⟨col_ok hok c, by rw [col_len]; omega⟩
  have HTX : Hid ((tot (kyL L) L.length ≤ 204800 ∧ (putN (kyL L) L.length).length ≤ 225290) ∧ tot (txL L) L.length ≤ 204800 ∧ (putN (txL L) L.length).length ≤ 225290) := ⟨texts_len (·.ky) (fun x hx => (ok_facts (hok x hx)).hky) hl, texts_len (·.tx) (fun x hx => (ok_facts (hok x hx)).htx) hl⟩
  have HLC : Hid ((logCols L).length ≤ 886030) := logCols_len hok hl
  obtain ⟨⟨ao, cap, rfl, hcap, hmax, hnil, hrow⟩, hdv⟩ := hr
  have HR : Hid (∀ k, k < L.length → ∃ g off, ao = some ⟨g, off, none⟩ ∧ g < C ∧ OpAt w g (off + k * 12) (ovAt L k)) := fun k hk => by
    obtain ⟨g, off, h1, h2, h3⟩ := hrow (by omega)
    exact ⟨g, off, h1, h2, h3 k hk⟩
  clear hrow hdv hnil hok
  have HO0 : Hid (Own 5 (w.alloc (.cells #[] 5)) w.heap.size (.slice (some ⟨w.heap.size, 0, none⟩) 0 0) ((colsB L 0).map (Value.int .u8))) := own_lit w 5 [] 0 rfl (Nat.zero_le _)
  go_enter Tryz.func15, Tryz.ntmps15
  go_wp2_with fail
  go_loopw [3, 4] (fun tv ti wr => ∃ c : Nat, c ≤ 25 ∧ ti = .int .i64 (c : Int) ∧ Own 5 wr w.heap.size tv ((colsB L c).map (Value.int .u8)) ∧ Below w.heap.size w wr) (fun _ ti _ => 25 - (intOf ti).toNat)
  case atStart => exact ⟨0, Nat.zero_le _, rfl, HO0.out, below_alloc _ _⟩
  case round =>
    clear HO0
    obtain ⟨c, hc, rfl, ho, hbel⟩ := hrel
    have hsz := hbel.size
    by_cases hlt : c < 25
    · have hci : (c : Int) < 25 := by omega
      have hlc := HLB.out c hc
      have hlr := HRL.out c
      obtain ⟨hro, hrl⟩ := HRO.out c
      have HE : Hid (colsB L (c + 1) = colsB L c ++ putR (colN L c)) := rfl
      go_wp2_with fail
      refine (HCOL.out wr c hlt hbel).mono ?_
      rintro e w4 ⟨r4, rfl, ho4, hb4⟩
      go_wp2_with fail
      refine (l01PutRuns_any _ w4 _ (colN L c) hrl hro (Nat.le_refl _) ho4.rd).mono ?_
      rintro e w5 ⟨r5, rfl, ho5, hb5⟩
      have hB5 := below_seq (below_seq hbel hb4) hb5
      have hov := (ho.below hb4 (Nat.le_refl _)).below hb5 (Nat.le_refl _)
      have hbk := hov.lt
      clear ho ho4 hb4 hb5 hbel
      go_wp2_with (at_builtin; refine wpList_append_rd rfl _ _ 24 rfl w.heap.size 5 i5 (.int .u8 0) 1 Tryz.underlying24 hi5 hy0 hy1 hy2 rfl _ _ rfl hov _ _ _ rfl ho5.rd (by simp [Value.oneCell']) (by simp only [List.length_map]; unfold maxLen; omega) (by simp only [List.length_map]; omega) hB5.size ?_)
      intro v7 w7 ho7 hg7
      have hb7 := hB5.grown hg7 hB5.size hbk
      rw [← List.map_append, ← HE.out] at ho7
      clear hov ho5 hg7 hB5 hbk
      go_wp2_with fail
      go_roundw
      case rel => exact ⟨c + 1, by omega, by go_num, ho7, hb7⟩
      case measure => simp [intOf]; omega
    · obtain rfl : c = 25 := by omega
      rw [show ((25 : Nat) : Int) = 25 from rfl]
      obtain ⟨wo, hwo⟩ : ∃ wo : World, wo = wr := ⟨_, rfl⟩
      subst hwo
      have hl25 := HLB.out 25 (Nat.le_refl _)
      clear HCOL HRL HRO HLB
      have hw2 : Below wo.heap.size wo ((wo.alloc (.cells #[] 9)).alloc (.cells #[] 9)) := below_then (below_alloc _ _) _
      have hT0 : TwoT ((wo.alloc (.cells #[] 9)).alloc (.cells #[] 9)) wo.heap.size wo.heap.size 0 (wo.heap.size + 1) 0 0 ((kyL L).take 0) ((txL L).take 0) := by
        refine ⟨?_, ?_, by omega⟩
        · exact World.ownsRow.alloc (own_lit wo 9 [] 0 rfl (Nat.zero_le _)) _
        · have h : Own 9 ((wo.alloc (.cells #[] 9)).alloc (.cells #[] 9)) (wo.alloc (.cells #[] 9)).heap.size (.slice (some ⟨(wo.alloc (.cells #[] 9)).heap.size, 0, none⟩) 0 0) [] := own_lit (wo.alloc (.cells #[] 9)) 9 [] 0 rfl (Nat.zero_le _)
          rw [World.size_alloc] at h
          exact h.mono (by omega)
      go_wp2_with fail
      go_loopw [5, 6, 7] (fun tk tt ti wr => ∃ k gk ck gt ct : Nat, k ≤ L.length ∧ tk = .slice (some ⟨gk, 0, none⟩) k ck ∧ tt = .slice (some ⟨gt, 0, none⟩) k ct ∧ ti = .int .i64 (k : Int) ∧ TwoT wr wo.heap.size gk ck gt ct k ((kyL L).take k) ((txL L).take k) ∧ Below wo.heap.size wo wr) (fun _ _ ti _ => L.length - (intOf ti).toNat)
      case atStart => exact ⟨0, _, _, _, _, Nat.zero_le _, rfl, rfl, rfl, hT0, hw2⟩
      case round =>
        clear hT0 hw2
        obtain ⟨k, gk, ck, gt, ct, hk, rfl, rfl, rfl, hT, hwx⟩ := hrel
        by_cases hlt2 : k < L.length
        · obtain ⟨g, off, rfl, hg, hx⟩ := HR.out k hlt2
          have HK1 : Hid ((kyL L).take (k + 1) = (kyL L).take k ++ [(ovAt L k).ky]) := map_snoc hlt2
          have HK2 : Hid ((txL L).take (k + 1) = (txL L).take k ++ [(ovAt L k).tx]) := map_snoc hlt2
          have hbw := below_seq hbel hwx
          have c10 := (hx.below (hbw.mono hC) hg).c10
          have c11 := hx.below (hbw.mono hC) hg
          have HC11 : Hid (∀ wz, Below w.heap.size w wz → wz.cell? ⟨g, off + k * 12 + 11, none⟩ = some (.string (ovAt L k).tx)) := fun wz hz => (hx.below (hz.mono hC) hg).c11
          clear c11
          have hoff10 : off + k * 12 + 10 = off + (k * 12 + 10) := by omega
          have hszx := hwx.size
          generalize (ovAt L k).ky = y at c10 HK1
          generalize (ovAt L k).tx = z at HC11 HK2
          have HGK : Hid (wo.heap.size ≤ gk ∧ gk < wr.heap.size) := World.ownsRow.lt hT.ok gk rfl
          have HGT : Hid (wo.heap.size ≤ gt ∧ gt < wr.heap.size) := World.ownsRow.lt hT.ot gt rfl
          have HNE : Hid (gk ≠ gt) := hT.ne
          have hcn := colOne wr (.string y) 9
          clear hoff10 hx
          go_wp2_with (at_builtin; refine wpList_append_lies _ rfl _ _ 67 rfl wo.heap.size 9 i9 (.string ByteArray.empty) 1 16 Tryz.underlying67 hi9 hx0 hx1 hx2 rfl (by decide) _ k _ rfl (World.ownsRow.alloc hT.ok _) ⟨wr.heap.size, 0, none⟩ 1 1 [.string y] rfl rfl hcn (by simp [Value.oneCell']) (by omega) (by unfold maxLen; omega) (by omega) (by simp only [World.size_alloc]; omega) (wr.heap.size + 1) (World.size_alloc _ _) ?_)
          intro g6 c6 w6 ho6 hg6 hl6 hz6
          have hbw6 : Below wo.heap.size wo w6 := (below_then hwx _).grown hg6 (by simp only [World.size_alloc]; omega) (fun kk hk => by cases hk; exact HGK.out.1)
          have ht6 : w6.ownsRow wo.heap.size 9 1 (.slice (some ⟨gt, 0, none⟩) k ct) k (((txL L).take k).map Value.string) := rowSame (World.ownsRow.alloc hT.ot (.cells #[.string y] 9)) (fun kk hk => by
            cases hk
            exact hg6.block gt (by simp only [World.size_alloc]; have := HGT.out.2; omega) (fun e => HNE.out (by cases e; rfl)))
          have HNE6 : Hid (g6 ≠ gt) := by
            unfold Hid
            rcases hl6 with h | h
            · cases h; exact HNE.out
            · have := HGT.out.2; omega
          have ho6' : w6.ownsRow wo.heap.size 9 1 (.slice (some ⟨g6, 0, none⟩) (k + 1) c6) (k + 1) (((kyL L).take (k + 1)).map Value.string) := by
            rw [HK1.out, List.map_append]
            first | exact ho6 | (rw [List.map_take]; exact ho6)
          have c11 := HC11.out w6 (below_seq hbel hbw6)
          have hs6 := hbw6.size
          have hcn6 := colOne w6 (.string z) 9
          have HG6 : Hid (wo.heap.size ≤ g6 ∧ g6 < w6.heap.size) := World.ownsRow.lt ho6' g6 rfl
          clear ho6 hg6 hl6 hcn hT c10 HNE hwx hbw
          go_wp2_with (at_builtin; refine wpList_append_lies _ rfl _ _ 67 rfl wo.heap.size 9 i9 (.string ByteArray.empty) 1 16 Tryz.underlying67 hi9 hx0 hx1 hx2 rfl (by decide) _ k _ rfl (World.ownsRow.alloc ht6 _) ⟨w6.heap.size, 0, none⟩ 1 1 [.string z] rfl rfl hcn6 (by simp [Value.oneCell']) (by omega) (by unfold maxLen; omega) (by omega) (by simp only [World.size_alloc]; omega) (w6.heap.size + 1) (World.size_alloc _ _) ?_)
          intro g8 c8 w8 ho8 hg8 hl8 hz8
          have hbw8 : Below wo.heap.size wo w8 := (below_then hbw6 _).grown hg8 (by simp only [World.size_alloc]; omega) (fun kk hk => by cases hk; exact HGT.out.1)
          have hk8 : w8.ownsRow wo.heap.size 9 1 (.slice (some ⟨g6, 0, none⟩) (k + 1) c6) (k + 1) (((kyL L).take (k + 1)).map Value.string) := rowSame (World.ownsRow.alloc ho6' (.cells #[.string z] 9)) (fun kk hk => by
            cases hk
            exact hg8.block g6 (by simp only [World.size_alloc]; have := HG6.out.2; omega) (fun e => HNE6.out (by cases e; rfl)))
          have HNE8 : Hid (g6 ≠ g8) := by
            unfold Hid
            rcases hl8 with h | h
            · cases h; exact HNE6.out
            · have := HG6.out.2; omega
          have ho8' : w8.ownsRow wo.heap.size 9 1 (.slice (some ⟨g8, 0, none⟩) (k + 1) c8) (k + 1) (((txL L).take (k + 1)).map Value.string) := by
            rw [HK2.out, List.map_append]
            first | exact ho8 | (rw [List.map_take]; exact ho8)
          clear ho8 hg8 hl8 hcn6 ht6 ho6' c11 HNE6 hbw6
          go_wp2_with fail
          go_roundw
          case rel => exact ⟨k + 1, g6, c6, g8, c8, by omega, rfl, rfl, by go_num, ⟨hk8, ho8', HNE8.out⟩, hbw8⟩
          case measure => simp [intOf]; omega
        · obtain rfl : k = L.length := by omega
          rw [List.take_of_length_le (by simp [kyL]), List.take_of_length_le (by simp [txL])] at hT
          obtain ⟨htk, htt, hne⟩ := hT
          have HK : Own 9 wr wo.heap.size (.slice (some ⟨gk, 0, none⟩) L.length ck) ((kyL L).map Value.string) := own_of htk
          have HT : Own 9 wr wo.heap.size (.slice (some ⟨gt, 0, none⟩) L.length ct) ((txL L).map Value.string) := own_of htt
          have hov := Own.below ho hwx (Nat.le_refl _)
          have hB := below_seq hbel hwx
          clear htk htt hne ho hwx hbel
          obtain ⟨⟨ht1, hp1⟩, ht2, hp2⟩ := HTX.out
          have HQ : Hid (∀ (f : Ov → ByteArray) (q : Nat), (putN (L.map f) L.length).length ≤ 225290 → q ≤ (L.map f).length → (q = (L.map f).length ∨ 1048576 < (putN (L.map f) q).length) → q = L.length) := fun f q h0 h1 h2 => by
            rw [List.length_map] at h1 h2
            rcases h2 with h | h
            · exact h
            · have := putN_mono (L.map f) h1
              omega
          have HLG : Hid (logCols L = colsB L 25 ++ putN (kyL L) L.length ++ putN (txL L) L.length) := rfl
          have hkl : (kyL L).length ≤ 4096 := by simp only [kyL, List.length_map]; omega
          have htl : (txL L).length ≤ 4096 := by simp only [txL, List.length_map]; omega
          have hkt : tot (kyL L) (kyL L).length ≤ 1048576 := by
            have : (kyL L).length = L.length := by simp [kyL]
            rw [this]; omega
          have htt : tot (txL L) (txL L).length ≤ 1048576 := by
            have : (txL L).length = L.length := by simp [txL]
            rw [this]; omega
          go_wp2_with fail
          refine (l01PutTexts_any _ wr _ (kyL L) hkl hkt (Nat.le_refl _) HK.rd).mono ?_
          rintro e w4 ⟨r4, q4, rfl, hq4, ho4, hq4', hb4⟩
          obtain rfl := HQ.out (·.ky) q4 hp1 hq4 hq4'
          replace hov := hov.below hb4 (Nat.le_refl _)
          replace hB := below_seq hB hb4
          replace HT := HT.below hb4 (Nat.le_refl _)
          have hbk := hov.lt
          clear hq4 hq4' hb4 HK hkt hkl
          go_wp2_with (at_builtin; refine wpList_append_rd rfl _ _ 24 rfl w.heap.size 5 i5 (.int .u8 0) 1 Tryz.underlying24 hi5 hy0 hy1 hy2 rfl _ _ rfl hov _ _ _ rfl ho4.rd (by simp [Value.oneCell']) (by simp only [List.length_map]; unfold maxLen; omega) (by simp only [List.length_map]; omega) hB.size ?_)
          intro v7 w7 ho7 hg7
          have HT7 := ownApart hov HT (by decide) hg7
          have hB7 := hB.grown hg7 hB.size hbk
          rw [← List.map_append] at ho7
          clear hov HT hg7 hB hbk ho4
          go_wp2_with fail
          refine (l01PutTexts_any _ w7 _ (txL L) htl htt (Nat.le_refl _) HT7.rd).mono ?_
          rintro e w8 ⟨r8, q8, rfl, hq8, ho8, hq8', hb8⟩
          obtain rfl := HQ.out (·.tx) q8 hp2 hq8 hq8'
          replace ho7 := ho7.below hb8 (Nat.le_refl _)
          replace hB7 := below_seq hB7 hb8
          have hbk := ho7.lt
          clear hq8 hq8' hb8 HT7 htt htl
          go_wp2_with (at_builtin; refine wpList_append_rd rfl _ _ 24 rfl w.heap.size 5 i5 (.int .u8 0) 1 Tryz.underlying24 hi5 hy0 hy1 hy2 rfl _ _ rfl ho7 _ _ _ rfl ho8.rd (by simp [Value.oneCell']) (by simp only [List.length_map, List.length_append]; unfold maxLen; omega) (by simp only [List.length_map, List.length_append]; omega) hB7.size ?_)
          intro v9 w9 ho9 hg9
          have hB9 := hB7.grown hg9 hB7.size hbk
          replace ho9 : Own 5 w9 w.heap.size v9 ((logCols L).map (Value.int .u8)) := by
            have h := ho9
            rw [HLG.out]
            simp only [List.map_append, List.append_assoc] at h ⊢
            exact h
          clear ho7 hg9 hB7 hbk ho8 HQ HLG
          have hlc := HLC.out
          have hsl := sumF_lt (logCols L) (h := 2166136261) (by omega)
          have HLY : Hid (logBy L = logCols L ++ four (sumF 2166136261 (logCols L))) := rfl
          have hs32 := sum32_any _ w9 v9 (logCols L) (logCols_byte L) (by omega) ho9.rd
          generalize sumF 2166136261 (logCols L) = S at hsl HLY hs32
          go_wp2_with fail
          refine hs32.mono ?_
          rintro e w10 ⟨rfl, hw10⟩
          obtain rfl := hw10.symm
          clear hs32
          go_wp2_with fail
          refine (l01Four_any S hsl w9).mono ?_
          rintro e w11 ⟨r11, rfl, ho11, hb11⟩
          replace ho9 := ho9.below hb11 (Nat.le_refl _)
          replace hB9 := below_seq hB9 hb11
          have hbk := ho9.lt
          have hl4 : (four S).length = 4 := rfl
          clear hb11
          go_wp2_with (at_builtin; refine wpList_append_rd rfl _ _ 24 rfl w.heap.size 5 i5 (.int .u8 0) 1 Tryz.underlying24 hi5 hy0 hy1 hy2 rfl _ _ rfl ho9 _ _ _ rfl ho11.rd (by simp [Value.oneCell']) (by simp only [List.length_map]; unfold maxLen; omega) (by simp only [List.length_map]; omega) hB9.size ?_)
          intro v12 w12 ho12 hg12
          have hB12 := hB9.grown hg12 hB9.size hbk
          replace ho12 : Own 5 w12 w.heap.size v12 ((logBy L).map (Value.int .u8)) := by
            have h := ho12
            rw [HLY.out]
            simp only [List.map_append] at h ⊢
            exact h
          go_wp2_with fail
          go_ret
          exact ⟨_, rfl, ho12, hB12⟩
end Go.Proofs.YtaglbacicpknaaaGreat

namespace Go.Proofs.YtaglbacicpknaaaGreat
open Go.RowKit
set_option linter.unusedVariables false

/-- The operations M lie in block g, what they count in block ga, sixteen cells each; all of it may be written. -/
structure Ar (w : World) (B g ga : Nat) (M : List Ov) : Prop where
  lo : B ≤ g
  lo' : B ≤ ga
  ne : ga ≠ g
  hi : g < w.heap.size
  hi' : ga < w.heap.size
  row : ∀ i, i < M.length → OpAt w g (i * 12) (ovAt M i)
  rth : w.there g 0 (M.length * 12)
  dvs : ∀ i, i < M.length → (ovAt M i).dv = .slice (some ⟨ga, i * 16, none⟩) 16 16
  len : ∀ i, i < M.length → (ovAt M i).ds.length = 16
  are : ∀ i, i < M.length → w.rangeAt ga (i * 16) ((ovAt M i).ds.map (Value.int .i64))
  ath : w.there ga 0 (M.length * 16)
theorem Ar.rd {w : World} {B g ga : Nat} {M : List Ov} (h : Ar w B g ga M) (hm : M.length ≤ maxLen) : RdO w.heap.size w (.slice (some ⟨g, 0, none⟩) M.length M.length) M := by
  refine ⟨⟨_, _, rfl, Nat.le_refl _, hm, fun e => (by cases e), fun _ => ⟨g, 0, rfl, h.hi, fun k hk => by rw [Nat.zero_add]; exact h.row k hk⟩⟩, fun x hx => ?_⟩
  obtain ⟨i, hi, e⟩ := List.getElem_of_mem hx
  have hx : x = ovAt M i := by have := ovAt_get hi; rw [List.getElem?_eq_getElem hi, e] at this; exact Option.some.inj this
  rw [hx, h.dvs i hi]
  have hl := h.len i hi
  refine ⟨_, 16, by rw [List.length_map, hl], by rw [List.length_map, hl]; exact Nat.le_refl _, by unfold maxLen; omega, fun e => (by cases e), fun _ => ⟨ga, i * 16, rfl, h.hi', fun j u hj => h.are i hi j u hj⟩⟩
theorem Ar.on {w w' : World} {B g ga : Nat} {M : List Ov} (h : Ar w B g ga M) (hs : w.heap.size ≤ w'.heap.size) (hg : w'.heap[g]? = w.heap[g]?) (hga : w'.heap[ga]? = w.heap[ga]?) : Ar w' B g ga M :=
  ⟨h.lo, h.lo', h.ne, by have := h.hi; omega, by have := h.hi'; omega, fun i hi => (h.row i hi).block hg, there_block h.rth hg, h.dvs, h.len, fun i hi j u hj => (World.cell?_of_block (w := w) hga).trans (h.are i hi j u hj), there_block h.ath hga⟩
theorem Ar.below {w w' : World} {B g ga : Nat} {M : List Ov} (h : Ar w B g ga M) (hb : Below w.heap.size w w') : Ar w' B g ga M := h.on hb.size (hb.block g h.hi) (hb.block ga h.hi')

/-- In the k-th operation the cells below m are those of x; all else is as it was in w0. -/
structure Ic (w0 w : World) (B g ga n k m : Nat) (x : Ov) : Prop where
  lo : B ≤ g
  lo' : B ≤ ga
  ne : ga ≠ g
  hi : g < w0.heap.size
  hi' : ga < w0.heap.size
  bel : Below B w0 w
  fr : ∀ b, b < w0.heap.size → b ≠ g → b ≠ ga → w.heap[b]? = w0.heap[b]?
  rth : w.there g 0 (n * 12)
  ath : w.there ga 0 (n * 16)
  oth : ∀ i, i < n → i ≠ k → ∀ j, j < 12 → w.cell? ⟨g, i * 12 + j, none⟩ = w0.cell? ⟨g, i * 12 + j, none⟩
  got : ∀ j, j < m → w.cell? ⟨g, k * 12 + j, none⟩ = x.cs[j]?
  dvc : w.cell? ⟨g, k * 12 + 3, none⟩ = some x.dv
  ao : ∀ i, i < n → i ≠ k → ∀ j, j < 16 → w.cell? ⟨ga, i * 16 + j, none⟩ = w0.cell? ⟨ga, i * 16 + j, none⟩
  ag : 4 ≤ m → w.rangeAt ga (k * 16) (x.ds.map (Value.int .i64))
theorem Ic.cell {w0 w : World} {B g ga n k m : Nat} {x : Ov} (h : Ic w0 w B g ga n k m x) (hk : k < n) (j : Nat) (hj : j < 12) : ∃ z, w.cell? ⟨g, k * 12 + j, none⟩ = some z ∧ w.frozen? ⟨g, k * 12 + j, none⟩ = false := by
  have := h.rth (k * 12 + j) (by omega)
  rw [Nat.zero_add] at this
  obtain ⟨z, hz⟩ := Option.isSome_iff_exists.1 this.1
  exact ⟨z, hz, this.2⟩
theorem Ic.put {w0 w : World} {B g ga n k m : Nat} {x : Ov} (h : Ic w0 w B g ga n k m x) (hk : k < n) (hm : m < 12) (h3 : m ≠ 3) (u : Value) (hu : x.cs[m]? = some u) : Ic w0 (w.setCell ⟨g, k * 12 + m, none⟩ u) B g ga n k (m + 1) x := by
  have hne := h.ne
  have other : ∀ (b o : Nat), (b ≠ g ∨ o ≠ k * 12 + m) → (w.setCell ⟨g, k * 12 + m, none⟩ u).cell? ⟨b, o, none⟩ = w.cell? ⟨b, o, none⟩ := fun b o ho => by
    rw [World.cell?_setCell_other]
    intro e
    simp only [Addr.mk.injEq] at e
    omega
  refine ⟨h.lo, h.lo', h.ne, h.hi, h.hi', h.bel.setCell (p := ⟨g, k * 12 + m, none⟩) h.lo u, fun b hb hg hga => (heap_setCell_other w ⟨g, k * 12 + m, none⟩ b u hg).trans (h.fr b hb hg hga), World.there_setCells h.rth g (k * 12 + m) [u], World.there_setCells h.ath g (k * 12 + m) [u], fun i hi hik j hj => (other _ _ (.inr (by omega))).trans (h.oth i hi hik j hj), fun j hj => ?_, (other _ _ (.inr (by omega))).trans h.dvc, fun i hi hik j hj => (other _ _ (.inl hne)).trans (h.ao i hi hik j hj), fun h4 j v hj => (other _ _ (.inl hne)).trans (h.ag (by omega) j v hj)⟩
  by_cases e : j = m
  · subst e
    obtain ⟨z, hz, _⟩ := h.cell hk j hm
    rw [World.cell?_setCell_same _ _ _ hz, hu]
  · exact (other _ _ (.inr (by omega))).trans (h.got j (by omega))
theorem Ic.mark {w0 w : World} {B g ga n k : Nat} {x : Ov} (h : Ic w0 w B g ga n k 3 x) (hk : k < n) (hl : x.ds.length = 16) : Ic w0 (w.setCells ga (k * 16) (x.ds.map (Value.int .i64))) B g ga n k 4 x := by
  have hne := h.ne
  have hlen : (x.ds.map (Value.int .i64)).length = 16 := by rw [List.length_map, hl]
  have og : ∀ o, (w.setCells ga (k * 16) (x.ds.map (Value.int .i64))).cell? ⟨g, o, none⟩ = w.cell? ⟨g, o, none⟩ := fun o => World.cell?_setCells_out ga _ _ w _ (fun e _ => absurd e.symm hne)
  refine ⟨h.lo, h.lo', h.ne, h.hi, h.hi', below_setsC h.lo' _ _ w h.bel, fun b hb hg hga => ?_, World.there_setCells h.rth ga (k * 16) _, World.there_setCells h.ath ga (k * 16) _, fun i hi hik j hj => (og _).trans (h.oth i hi hik j hj), fun j hj => ?_, (og _).trans h.dvc, fun i hi hik j hj => ?_, fun _ => ?_⟩
  · have hs := h.bel.size
    have e := (grownBy_setCells w ga (x.ds.map (Value.int .i64)) (k * 16)).block b (by omega) (fun he => by simp only [Option.some.injEq] at he; omega)
    exact e.trans (h.fr b hb hg hga)
  · rw [og]
    by_cases e : j = 3
    · subst e; exact h.dvc
    · exact h.got j (by omega)
  · refine (World.cell?_setCells_out ga _ _ w _ (fun _ _ => ?_)).trans (h.ao i hi hik j hj)
    show i * 16 + j < k * 16 ∨ k * 16 + (x.ds.map (Value.int .i64)).length ≤ i * 16 + j
    rw [hlen]
    omega
  · refine World.rangeAt_setCells_same w ga (k * 16) _ (fun j hj => ?_)
    have := h.ath (k * 16 + j) (by omega)
    rwa [Nat.zero_add] at this
theorem Ic.below {w0 w w' : World} {B g ga n k m : Nat} {x : Ov} (h : Ic w0 w B g ga n k m x) (hb : Below w.heap.size w w') : Ic w0 w' B g ga n k m x := by
  have hs := h.bel.size
  have hlo := h.lo
  have h1 := h.hi
  have h2 := h.hi'
  have bg := hb.block g (by omega)
  have ba := hb.block ga (by omega)
  exact ⟨h.lo, h.lo', h.ne, h.hi, h.hi', h.bel.trans (hb.mono (by omega)), fun b hb' hg hga => (hb.block b (by omega)).trans (h.fr b hb' hg hga), there_block h.rth bg, there_block h.ath ba, fun i hi hik j hj => (World.cell?_of_block (w := w) bg).trans (h.oth i hi hik j hj), fun j hj => (World.cell?_of_block (w := w) bg).trans (h.got j hj), (World.cell?_of_block (w := w) bg).trans h.dvc, fun i hi hik j hj => (World.cell?_of_block (w := w) ba).trans (h.ao i hi hik j hj), fun h4 j v hj => (World.cell?_of_block (w := w) ba).trans (h.ag h4 j v hj)⟩
theorem ovAt_set {M : List Ov} {k : Nat} (hk : k < M.length) (x : Ov) (i : Nat) : ovAt (M.set k x) i = if i = k then x else ovAt M i := by
  unfold ovAt
  by_cases e : i = k
  · subst e
    rw [if_pos rfl, List.getD_eq_getElem?_getD, List.getElem?_set_self hk]
    rfl
  · rw [if_neg e, List.getD_eq_getElem?_getD, List.getElem?_set_ne (Ne.symm e), ← List.getD_eq_getElem?_getD]
theorem Ar.start {w : World} {B g ga : Nat} {M : List Ov} (h : Ar w B g ga M) {k : Nat} (hk : k < M.length) (x : Ov) (hx : x.dv = (ovAt M k).dv) : Ic w w B g ga M.length k 0 x :=
  ⟨h.lo, h.lo', h.ne, h.hi, h.hi', Below.refl _ _, fun _ _ _ _ => rfl, h.rth, h.ath, fun _ _ _ _ _ => rfl, fun j hj => absurd hj (by omega), by rw [hx]; exact (h.row k hk).c3, fun _ _ _ _ _ => rfl, fun h4 => absurd h4 (by omega)⟩
theorem opAt_cs {w : World} {g o : Nat} {x : Ov} (h : ∀ j, j < 12 → w.cell? ⟨g, o + j, none⟩ = x.cs[j]?) : OpAt w g o x :=
  ⟨h 0 (by omega), h 1 (by omega), h 2 (by omega), h 3 (by omega), h 4 (by omega), h 5 (by omega), h 6 (by omega), h 7 (by omega), h 8 (by omega), h 9 (by omega), h 10 (by omega), h 11 (by omega)⟩
theorem OpAt.cs {w : World} {g o : Nat} {x : Ov} (h : OpAt w g o x) : ∀ j, j < 12 → w.cell? ⟨g, o + j, none⟩ = x.cs[j]?
  | 0, _ => h.c0 | 1, _ => h.c1 | 2, _ => h.c2 | 3, _ => h.c3 | 4, _ => h.c4 | 5, _ => h.c5 | 6, _ => h.c6 | 7, _ => h.c7 | 8, _ => h.c8 | 9, _ => h.c9 | 10, _ => h.c10 | 11, _ => h.c11
  | n + 12, hj => absurd hj (by omega)
theorem Ic.fin {w0 w : World} {B g ga : Nat} {M : List Ov} {k : Nat} {x : Ov} (h : Ic w0 w B g ga M.length k 12 x) (h0 : Ar w0 B g ga M) (hk : k < M.length) (hx : x.dv = (ovAt M k).dv) (hl : x.ds.length = 16) : Ar w B g ga (M.set k x) := by
  have hs := h.bel.size
  refine ⟨h.lo, h.lo', h.ne, by have := h.hi; omega, by have := h.hi'; omega, fun i hi => ?_, by rw [List.length_set]; exact h.rth, fun i hi => ?_, fun i hi => ?_, fun i hi => ?_, by rw [List.length_set]; exact h.ath⟩
  all_goals rw [List.length_set] at hi
  all_goals rw [ovAt_set hk]
  · by_cases e : i = k
    · subst e
      rw [if_pos rfl]
      exact opAt_cs h.got
    · rw [if_neg e]
      exact opAt_cs fun j hj => (h.oth i hi e j hj).trans ((h0.row i hi).cs j hj)
  · by_cases e : i = k
    · subst e
      rw [if_pos rfl, hx]
      exact h0.dvs i hi
    · rw [if_neg e]; exact h0.dvs i hi
  · by_cases e : i = k
    · subst e; rw [if_pos rfl]; exact hl
    · rw [if_neg e]; exact h0.len i hi
  · by_cases e : i = k
    · subst e; rw [if_pos rfl]; exact h.ag (by omega)
    · rw [if_neg e]
      intro j v hj
      have hj1 := (List.getElem?_eq_some_iff.1 hj).1
      rw [List.length_map, h0.len i hi] at hj1
      exact (h.ao i hi e j hj1).trans (h0.are i hi j v hj)

/-- What is written over an operation from q on. -/
def mkOv (q : Nat) (dv : Value) : Ov := ⟨((q : Nat) : Int), ((q + 1 : Nat) : Int), ((q + 2 : Nat) : Int), dv, ((q + 19 : Nat) : Int), ((q + 20 : Nat) : Int), ((q + 21 : Nat) : Int), ((q + 22 : Nat) : Int), ((q + 23 : Nat) : Int), ((q + 24 : Nat) : Int), mt (q + 25), mt (q + 26), marksI (q + 3) 16⟩
/-- The first k of M are written over, from q on. -/
def mkL (q : Nat) (M : List Ov) : Nat → List Ov
  | 0 => M
  | k + 1 => (mkL q M k).set k (mkOv (q + 27 * k) (ovAt M k).dv)
theorem mkL_len (q : Nat) (M : List Ov) : ∀ k, (mkL q M k).length = M.length
  | 0 => rfl
  | k + 1 => by rw [mkL, List.length_set, mkL_len q M k]
theorem mkL_at (q : Nat) (M : List Ov) : ∀ k, k ≤ M.length → ∀ i, ovAt (mkL q M k) i = if i < k then mkOv (q + 27 * i) (ovAt M i).dv else ovAt M i
  | 0, _, i => by rw [if_neg (by omega)]; rfl
  | k + 1, hk, i => by
    rw [mkL, ovAt_set (by rw [mkL_len]; omega)]
    by_cases e : i = k
    · subst e; rw [if_pos rfl, if_pos (by omega)]
    · rw [if_neg e, mkL_at q M k (by omega)]
      by_cases l : i < k
      · rw [if_pos l, if_pos (by omega)]
      · rw [if_neg l, if_neg (by omega)]
theorem markTextN (k : Nat) (x : Int) (hx : x = (k : Int)) (h1 : k ≤ 140737488355328) (w : World) : Calls Tryz.prog 25 #[.int .i64 x] w fun e w' => e = .returned (.string (mt k)) ∧ Below w.heap.size w w' := by
  subst hx
  exact markText_any k h1 w

set_option maxHeartbeats 4000000 in
set_option maxRecDepth 100000 in
theorem markOpS_ar (w : World) (B g ga c q : Nat) (M : List Ov) (hn : M.length ≤ 1048576) (hq : q ≤ 4398046511104) (h : Ar w B g ga M) :
    Calls Tryz.prog 10 #[.slice (some ⟨g, 0, none⟩) M.length c, .int .i64 (q : Int)] w fun e w' => e = .returned (.int .i64 ((q + 27 * M.length : Nat) : Int)) ∧ Ar w' B g ga (mkL q M M.length) ∧ Below B w w' ∧ (∀ b, b < w.heap.size → b ≠ g → b ≠ ga → w'.heap[b]? = w.heap[b]?) := by
  have HI0 : Hid (Ar w B g ga (mkL q M 0)) := h
  have HDV : Hid (∀ i, i < M.length → (ovAt M i).dv = .slice (some ⟨ga, i * 16, none⟩) 16 16) := h.dvs
  clear h
  go_enter Tryz.func10, Tryz.ntmps10
  go_wp2_with fail
  go_loopw [1, 5] (fun tq ti wr => ∃ k : Nat, k ≤ M.length ∧ ti = .int .i64 (k : Int) ∧ tq = .int .i64 ((q + 27 * k : Nat) : Int) ∧ Hid (Ar wr B g ga (mkL q M k) ∧ Below B w wr ∧ (∀ b, b < w.heap.size → b ≠ g → b ≠ ga → wr.heap[b]? = w.heap[b]?))) (fun _ ti _ => M.length - (intOf ti).toNat)
  case atStart => exact ⟨0, Nat.zero_le _, rfl, rfl, HI0.out, Below.refl _ _, fun _ _ _ _ => rfl⟩
  case round =>
    clear HI0
    obtain ⟨k, hk, rfl, rfl, HI⟩ := hrel
    by_cases hlt : k < M.length
    · have j1 : (k : Int) < (M.length : Int) := by omega
      have hkl : k < (mkL q M k).length := by rw [mkL_len]; exact hlt
      have hdk : (mkOv (q + 27 * k) (ovAt M k).dv).dv = (ovAt (mkL q M k) k).dv := by rw [mkL_at q M k hk, if_neg (by omega)]; rfl
      have HS : Hid (Ic wr wr B g ga M.length k 0 (mkOv (q + 27 * k) (ovAt M k).dv)) := by
        have := HI.out.1.start hkl _ hdk
        rwa [mkL_len] at this
      have HFIN : Hid (∀ w9, Ic wr w9 B g ga M.length k 12 (mkOv (q + 27 * k) (ovAt M k).dv) → Ar w9 B g ga (mkL q M (k + 1)) ∧ Below B w w9 ∧ (∀ b, b < w.heap.size → b ≠ g → b ≠ ga → w9.heap[b]? = w.heap[b]?)) := fun w9 h9 => by
        have h9' := h9
        rw [← mkL_len q M k] at h9
        have hbs := HI.out.2.1.size
        exact ⟨h9.fin HI.out.1 hkl hdk (marksI_len _ _), HI.out.2.1.trans h9'.bel, fun b hb hg hga => (h9'.fr b (by omega) hg hga).trans (HI.out.2.2 b hb hg hga)⟩
      clear HI hkl hdk
      rw [HDV.out k hlt] at HS HFIN
      obtain ⟨m, hm⟩ : ∃ m : Nat, q + 27 * k = m := ⟨_, rfl⟩
      have hmb : m ≤ 8796093022208 := by omega
      have HQ : Hid (((q + 27 * (k + 1) : Nat) : Int) = ((m + 27 : Nat) : Int)) := by show _ = _; omega
      rw [hm] at HS HFIN ⊢
      obtain ⟨x, hx⟩ : ∃ x : Int, (m : Int) = x := ⟨_, rfl⟩
      have HX : Hid ((m : Int) = x) := hx
      rw [hx]
      have hx0 : 0 ≤ x := by omega
      have hm0 : x + 1 + 1 + 1 < 9223372036854775808 := by omega
      clear hx hm
      obtain ⟨z0, c0, f0⟩ := HS.out.cell hlt 0 (by omega)
      obtain ⟨z1, c1, f1⟩ := HS.out.cell hlt 1 (by omega)
      obtain ⟨z2, c2, f2⟩ := HS.out.cell hlt 2 (by omega)
      have c3 : wr.cell? ⟨g, k * 12 + 3, none⟩ = some (.slice (some ⟨ga, k * 16, none⟩) 16 16) := HS.out.dvc
      rw [Nat.add_zero] at c0 f0
      have H1 : Hid (Ic wr (((wr.setCell ⟨g, k * 12, none⟩ (.int .i64 x)).setCell ⟨g, k * 12 + 1, none⟩ (.int .i64 (x + 1))).setCell ⟨g, k * 12 + 2, none⟩ (.int .i64 (x + 1 + 1))) B g ga M.length k 3 (mkOv m (.slice (some ⟨ga, k * 16, none⟩) 16 16))) :=
        ((HS.out.put hlt (by omega) (by omega) (.int .i64 x) (by rw [← HX.out]; rfl)).put hlt (by omega) (by omega) (.int .i64 (x + 1)) (by rw [← HX.out]; rfl)).put hlt (by omega) (by omega) (.int .i64 (x + 1 + 1)) (by rw [← HX.out]; show some (Value.int .i64 ((m + 2 : Nat) : Int)) = _; congr 2)
      have hath : (((wr.setCell ⟨g, k * 12, none⟩ (.int .i64 x)).setCell ⟨g, k * 12 + 1, none⟩ (.int .i64 (x + 1))).setCell ⟨g, k * 12 + 2, none⟩ (.int .i64 (x + 1 + 1))).there ga (k * 16) 16 := fun j hj => by
        have := H1.out.ath (k * 16 + j) (by omega)
        rwa [Nat.zero_add] at this
      have hM := markIntR_any _ ga (k * 16) 16 16 (m + 3) (by omega) (by omega) hath
      rw [show ((m + 3 : Nat) : Int) = x + 1 + 1 + 1 by have := HX.out; omega, show ((m + 3 + 16 : Nat) : Int) = x + 19 by have := HX.out; omega] at hM
      have H2 : Hid (Ic wr ((((wr.setCell ⟨g, k * 12, none⟩ (.int .i64 x)).setCell ⟨g, k * 12 + 1, none⟩ (.int .i64 (x + 1))).setCell ⟨g, k * 12 + 2, none⟩ (.int .i64 (x + 1 + 1))).setCells ga (k * 16) ((marksI (m + 3) 16).map (Value.int .i64))) B g ga M.length k 4 (mkOv m (.slice (some ⟨ga, k * 16, none⟩) 16 16))) := H1.out.mark hlt (marksI_len _ _)
      clear H1 hath HS
      go_wp2_with fail
      refine hM.mono ?_
      clear hM c0 c1 c2 c3 f0 f1 f2
      rintro e w2 ⟨rfl, hw2⟩
      rw [← hw2] at H2
      clear hw2 hm0
      have HY : Hid (∃ y, y = x + 19) := ⟨_, rfl⟩
      obtain ⟨y, hy⟩ := HY.out
      have HYM : Hid (y = ((m + 19 : Nat) : Int)) := by have := HX.out; unfold Hid; omega
      rw [← hy]
      clear hy HY HX
      have hy0 : 0 ≤ y := by have := HYM.out; omega
      have hym : y + 1 + 1 + 1 + 1 + 1 + 1 + 1 + 1 < 9223372036854775808 := by have := HYM.out; omega
      obtain ⟨z4, c4, f4⟩ := H2.out.cell hlt 4 (by omega)
      obtain ⟨z5, c5, f5⟩ := H2.out.cell hlt 5 (by omega)
      obtain ⟨z6, c6, f6⟩ := H2.out.cell hlt 6 (by omega)
      obtain ⟨z7, c7, f7⟩ := H2.out.cell hlt 7 (by omega)
      obtain ⟨z8, c8, f8⟩ := H2.out.cell hlt 8 (by omega)
      obtain ⟨z9, c9, f9⟩ := H2.out.cell hlt 9 (by omega)
      have H3 : Hid (Ic wr ((((((w2.setCell ⟨g, k * 12 + 4, none⟩ (.int .i64 y)).setCell ⟨g, k * 12 + 5, none⟩ (.int .i64 (y + 1))).setCell ⟨g, k * 12 + 6, none⟩ (.int .i64 (y + 1 + 1))).setCell ⟨g, k * 12 + 7, none⟩ (.int .i64 (y + 1 + 1 + 1))).setCell ⟨g, k * 12 + 8, none⟩ (.int .i64 (y + 1 + 1 + 1 + 1))).setCell ⟨g, k * 12 + 9, none⟩ (.int .i64 (y + 1 + 1 + 1 + 1 + 1))) B g ga M.length k 10 (mkOv m (.slice (some ⟨ga, k * 16, none⟩) 16 16))) :=
        (((((H2.out.put hlt (by omega) (by omega) (.int .i64 y) (by rw [HYM.out]; rfl)).put hlt (by omega) (by omega) (.int .i64 (y + 1)) (by rw [HYM.out]; show some (Value.int .i64 ((m + 20 : Nat) : Int)) = _; congr 2)).put hlt (by omega) (by omega) (.int .i64 (y + 1 + 1)) (by rw [HYM.out]; show some (Value.int .i64 ((m + 21 : Nat) : Int)) = _; congr 2)).put hlt (by omega) (by omega) (.int .i64 (y + 1 + 1 + 1)) (by rw [HYM.out]; show some (Value.int .i64 ((m + 22 : Nat) : Int)) = _; congr 2)).put hlt (by omega) (by omega) (.int .i64 (y + 1 + 1 + 1 + 1)) (by rw [HYM.out]; show some (Value.int .i64 ((m + 23 : Nat) : Int)) = _; congr 2)).put hlt (by omega) (by omega) (.int .i64 (y + 1 + 1 + 1 + 1 + 1)) (by rw [HYM.out]; show some (Value.int .i64 ((m + 24 : Nat) : Int)) = _; congr 2)
      have hT1 := fun w => markTextN (m + 25) (y + 1 + 1 + 1 + 1 + 1 + 1) (by have := HYM.out; omega) (by omega) w
      have hT2 := fun w => markTextN (m + 26) (y + 1 + 1 + 1 + 1 + 1 + 1 + 1) (by have := HYM.out; omega) (by omega) w
      clear H2
      go_wp2_with fail
      refine (hT1 _).mono ?_
      clear hT1 c4 c5 c6 c7 c8 c9 f4 f5 f6 f7 f8 f9
      rintro e w4 ⟨rfl, hb4⟩
      have H4 := H3.out.below hb4
      clear H3 hb4
      obtain ⟨z10, c10, f10⟩ := H4.cell hlt 10 (by omega)
      have H5 : Hid (Ic wr (w4.setCell ⟨g, k * 12 + 10, none⟩ (.string (mt (m + 25)))) B g ga M.length k 11 (mkOv m (.slice (some ⟨ga, k * 16, none⟩) 16 16))) := H4.put hlt (by omega) (by omega) _ rfl
      clear H4
      go_wp2_with fail
      refine (hT2 _).mono ?_
      clear hT2 c10 f10
      rintro e w6 ⟨rfl, hb6⟩
      have H6 := H5.out.below hb6
      clear H5 hb6
      obtain ⟨z11, c11, f11⟩ := H6.cell hlt 11 (by omega)
      have H7 : Hid (Ic wr (w6.setCell ⟨g, k * 12 + 11, none⟩ (.string (mt (m + 26)))) B g ga M.length k 12 (mkOv m (.slice (some ⟨ga, k * 16, none⟩) 16 16))) := H6.put hlt (by omega) (by omega) _ rfl
      have H8 : Hid _ := HFIN.out _ H7.out
      clear H6 H7 HFIN
      go_wp2_with fail
      go_roundw
      case rel => exact ⟨k + 1, by omega, by go_num, by rw [HQ.out]; congr 1; have := HYM.out; omega, H8⟩
      case measure => simp [intOf]; omega
    · have j1 : ¬ (k : Int) < (M.length : Int) := by omega
      obtain rfl : k = M.length := by omega
      go_wp2_with fail
      go_ret
      exact ⟨rfl, HI.out.1, HI.out.2.1, HI.out.2.2⟩
end Go.Proofs.YtaglbacicpknaaaGreat
