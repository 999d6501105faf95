/- The laws' own functions over operations: that two alike are alike, and their size. The law on LogOK, walked: over what the specification's LogOK answers (hsp). The laws' own functions over operations: a list of the call's own is written over; all else is as it was. The law on UndoDone, walked: over what both functions answer. -/
import Derived.Deep.RegionHeld2
import Derived.Deep.MidRow
import Derived.Test.YtcifbgoonaolbabQOpToToLawKit
import Derived.Test.YtcifbgoonaolbabQStampLessWalkToStampNextEq
import Derived.Test.YtcifbgoonaolbabQTextsCells
import Derived.Test.YtcifbgoonaolbabQLedClosedToLogOKImpl
import Derived.Test.YtcifbgoonaolbabQInfoToStr
namespace Go.Proofs.Ytcifbgoonaolbab
open Go.RowKit
set_option linter.unusedVariables false

set_option maxHeartbeats 2000000 in
set_option maxRecDepth 100000 in
theorem eqOp_same (C C' : Nat) (a s t k o n u pt pa : Int) (da db : Value) (ky tx : ByteArray) (ds : List Int) (w : World) (hl : ds.length ≤ 1048576) (hC : C ≤ w.heap.size) (hC' : C' ≤ w.heap.size) (ha : Rd C w da (ds.map (Value.int .i64))) (hb : Rd C' w db (ds.map (Value.int .i64))) :
    Calls Try.prog 22 #[.agg #[.int .i64 a, .int .i64 s, .int .i64 t, da, .int .i64 k, .int .i64 o, .int .i64 n, .int .i64 u, .int .i64 pt, .int .i64 pa, .string ky, .string tx], .agg #[.int .i64 a, .int .i64 s, .int .i64 t, db, .int .i64 k, .int .i64 o, .int .i64 n, .int .i64 u, .int .i64 pt, .int .i64 pa, .string ky, .string tx]] w fun e w' => e = .returned (.bool true) ∧ Below w.heap.size w w' := by
  have hB := Below.refl ((w.alloc (.cells #[.int .i64 a, .int .i64 s, .int .i64 t, da, .int .i64 k, .int .i64 o, .int .i64 n, .int .i64 u, .int .i64 pt, .int .i64 pa, .string ky, .string tx] 47)).alloc (.cells #[.int .i64 a, .int .i64 s, .int .i64 t, db, .int .i64 k, .int .i64 o, .int .i64 n, .int .i64 u, .int .i64 pt, .int .i64 pa, .string ky, .string tx] 47)).heap.size ((w.alloc (.cells #[.int .i64 a, .int .i64 s, .int .i64 t, da, .int .i64 k, .int .i64 o, .int .i64 n, .int .i64 u, .int .i64 pt, .int .i64 pa, .string ky, .string tx] 47)).alloc (.cells #[.int .i64 a, .int .i64 s, .int .i64 t, db, .int .i64 k, .int .i64 o, .int .i64 n, .int .i64 u, .int .i64 pt, .int .i64 pa, .string ky, .string tx] 47))
  have hE : ∀ w1, Below ((w.alloc (.cells #[.int .i64 a, .int .i64 s, .int .i64 t, da, .int .i64 k, .int .i64 o, .int .i64 n, .int .i64 u, .int .i64 pt, .int .i64 pa, .string ky, .string tx] 47)).alloc (.cells #[.int .i64 a, .int .i64 s, .int .i64 t, db, .int .i64 k, .int .i64 o, .int .i64 n, .int .i64 u, .int .i64 pt, .int .i64 pa, .string ky, .string tx] 47)).heap.size ((w.alloc (.cells #[.int .i64 a, .int .i64 s, .int .i64 t, da, .int .i64 k, .int .i64 o, .int .i64 n, .int .i64 u, .int .i64 pt, .int .i64 pa, .string ky, .string tx] 47)).alloc (.cells #[.int .i64 a, .int .i64 s, .int .i64 t, db, .int .i64 k, .int .i64 o, .int .i64 n, .int .i64 u, .int .i64 pt, .int .i64 pa, .string ky, .string tx] 47)) w1 → Calls Try.prog 42 #[.agg #[da], .agg #[db]] w1 fun e w' => e = .returned (.bool true) ∧ Below w1.heap.size w1 w' := fun w1 h => by
    have h1 : Below w.heap.size w w1 := below_seq (below_then (below_alloc _ _) _) h
    have := h1.size
    exact eqVector_same C C' w1 da db ds (by omega) (by omega) (by omega) (ha.below (h1.mono hC)) (hb.below (h1.mono hC'))
  obtain ⟨p0, p1, p2, p3, p4, p5, p6, p7, p8, p9, p10, p11⟩ := op_cells (below_seq (below_alloc (w.alloc (.cells #[.int .i64 a, .int .i64 s, .int .i64 t, da, .int .i64 k, .int .i64 o, .int .i64 n, .int .i64 u, .int .i64 pt, .int .i64 pa, .string ky, .string tx] 47)) (.cells #[.int .i64 a, .int .i64 s, .int .i64 t, db, .int .i64 k, .int .i64 o, .int .i64 n, .int .i64 u, .int .i64 pt, .int .i64 pa, .string ky, .string tx] 47)) hB); obtain ⟨q0, q1, q2, q3, q4, q5, q6, q7, q8, q9, q10, q11⟩ := op_cells hB; rw [World.size_alloc] at q0 q1 q2 q3 q4 q5 q6 q7 q8 q9 q10 q11
  clear ha hb
  go_enter Try.func22, Try.ntmps22
  go_wp2_with (first | (go_at_call 42; refine (hE _ hB).mono ?_; clear hE p0 p1 p2 p3 p4 p5 p6 p7 p8 p9 p10 p11 q0 q1 q2 q3 q4 q5 q6 q7 q8 q9 q10 q11; rintro e w8 ⟨rfl, hb8⟩; replace hB := below_seq hB hb8; obtain ⟨p0, p1, p2, p3, p4, p5, p6, p7, p8, p9, p10, p11⟩ := op_cells (below_seq (below_alloc (w.alloc (.cells #[.int .i64 a, .int .i64 s, .int .i64 t, da, .int .i64 k, .int .i64 o, .int .i64 n, .int .i64 u, .int .i64 pt, .int .i64 pa, .string ky, .string tx] 47)) (.cells #[.int .i64 a, .int .i64 s, .int .i64 t, db, .int .i64 k, .int .i64 o, .int .i64 n, .int .i64 u, .int .i64 pt, .int .i64 pa, .string ky, .string tx] 47)) hB); obtain ⟨q0, q1, q2, q3, q4, q5, q6, q7, q8, q9, q10, q11⟩ := op_cells hB; rw [World.size_alloc] at q0 q1 q2 q3 q4 q5 q6 q7 q8 q9 q10 q11; clear hb8) | (go_at_call 43; refine (eqStamp_same pt pa _).mono ?_; clear p0 p1 p2 p3 p4 p5 p6 p7 p8 p9 p10 p11 q0 q1 q2 q3 q4 q5 q6 q7 q8 q9 q10 q11; rintro e w9 ⟨rfl, hb9⟩; replace hB := below_seq hB hb9; obtain ⟨p0, p1, p2, p3, p4, p5, p6, p7, p8, p9, p10, p11⟩ := op_cells (below_seq (below_alloc (w.alloc (.cells #[.int .i64 a, .int .i64 s, .int .i64 t, da, .int .i64 k, .int .i64 o, .int .i64 n, .int .i64 u, .int .i64 pt, .int .i64 pa, .string ky, .string tx] 47)) (.cells #[.int .i64 a, .int .i64 s, .int .i64 t, db, .int .i64 k, .int .i64 o, .int .i64 n, .int .i64 u, .int .i64 pt, .int .i64 pa, .string ky, .string tx] 47)) hB); obtain ⟨q0, q1, q2, q3, q4, q5, q6, q7, q8, q9, q10, q11⟩ := op_cells hB; rw [World.size_alloc] at q0 q1 q2 q3 q4 q5 q6 q7 q8 q9 q10 q11; clear hb9))
  go_ret
  exact ⟨rfl, below_seq (below_then (below_alloc _ _) _) hB⟩

set_option maxHeartbeats 4000000 in
set_option maxRecDepth 100000 in
theorem eqOpS_same (C C' : Nat) (w : World) (v v' : Value) (L M : List Ov) (hl : L.length ≤ 1048576) (hd : ∀ x ∈ L, x.ds.length ≤ 1048576) (hC : C ≤ w.heap.size) (hC' : C' ≤ w.heap.size) (hr : RdO C w v L) (hr' : RdO C' w v' M) (hS : SameL M L) :
    Calls Try.prog 9 #[v, v'] w fun e w' => e = .returned (.bool true) ∧ Below w.heap.size w w' := by
  obtain ⟨⟨ao, cap, rfl, hcap, hmax, hnil, hrow⟩, hdv⟩ := hr
  obtain ⟨⟨ao', cap', rfl, hcap', hmax', hnil', hrow'⟩, hdv'⟩ := hr'
  obtain ⟨hlen, hsame⟩ := hS
  rw [hlen] at hcap' hrow' ⊢
  go_enter Try.func9, Try.ntmps9
  go_wp2_with fail
  go_loopw [5] (fun ti wr => ∃ k : Nat, k ≤ L.length ∧ ti = .int .i64 (k : Int) ∧ Below w.heap.size w wr) (fun ti _ => L.length - (intOf ti).toNat)
  case atStart => exact ⟨0, Nat.zero_le _, rfl, Below.refl _ _⟩
  case round =>
    obtain ⟨k, hk, rfl, hbel⟩ := hrel
    by_cases hlt : k < L.length
    · have hki : (k : Int) < (L.length : Int) := by omega
      have hk2 : (k : Int) + 1 < 9223372036854775808 := by omega
      have hsz := hbel.size
      obtain ⟨ga, oa, rfl, hga, hcs⟩ := hrow (by omega)
      obtain ⟨gb, ob, rfl, hgb, hcs'⟩ := hrow' (by omega)
      have hx := (hcs k hlt).below (hbel.mono hC) hga
      have hy := (hcs' k hlt).below (hbel.mono hC') hgb
      have hxd := (hdv _ (ovAt_mem hlt)).below (hbel.mono hC)
      have hyd := (hdv' _ (ovAt_mem (by omega : k < M.length))).below (hbel.mono hC')
      have hdl := hd _ (ovAt_mem hlt)
      have hxy := hsame k hlt
      generalize ovAt L k = x at *
      generalize ovAt M k = y at *
      obtain ⟨a, s, t, da, k0, o, n, u, pt, pa, ky, tx, ds⟩ := x
      obtain ⟨a', s', t', db, k', o', n', u', pt', pa', ky', tx', ds'⟩ := y
      obtain ⟨e1, e2, e3, e4, e5, e6, e7, e8, e9, e10, e11, e12⟩ := hxy
      simp only at e1 e2 e3 e4 e5 e6 e7 e8 e9 e10 e11 e12 hxd hyd hdl
      subst e1 e2 e3 e4 e5 e6 e7 e8 e9 e10 e11 e12
      have hE : ∀ w1, Below wr.heap.size wr w1 → Calls Try.prog 22 #[.agg #[.int .i64 (a'), .int .i64 (s'), .int .i64 (t'), da, .int .i64 (k'), .int .i64 (o'), .int .i64 (n'), .int .i64 (u'), .int .i64 (pt'), .int .i64 (pa'), .string ky', .string tx'], .agg #[.int .i64 (a'), .int .i64 (s'), .int .i64 (t'), db, .int .i64 (k'), .int .i64 (o'), .int .i64 (n'), .int .i64 (u'), .int .i64 (pt'), .int .i64 (pa'), .string ky', .string tx']] w1 fun e w' => e = .returned (.bool true) ∧ Below w1.heap.size w1 w' := fun w1 h => eqOp_same C C' _ _ _ _ _ _ _ _ _ _ _ _ _ _ w1 hdl (by have := h.size; omega) (by have := h.size; omega) (hxd.below (h.mono (by omega))) (hyd.below (h.mono (by omega)))
      have hga2 : ga < wr.heap.size := by omega
      have hgb2 : gb < wr.heap.size := by omega
      have HF : Hid (∀ wx, Below wr.heap.size wr wx → wx.cell? ⟨ga, oa + k * 12, none⟩ = some (.int .i64 (a')) ∧ wx.cell? ⟨ga, oa + k * 12 + 1, none⟩ = some (.int .i64 (s')) ∧ wx.cell? ⟨ga, oa + k * 12 + 2, none⟩ = some (.int .i64 (t')) ∧ wx.cell? ⟨ga, oa + k * 12 + 3, none⟩ = some (da) ∧ wx.cell? ⟨ga, oa + k * 12 + 4, none⟩ = some (.int .i64 (k')) ∧ wx.cell? ⟨ga, oa + k * 12 + 5, none⟩ = some (.int .i64 (o')) ∧ wx.cell? ⟨ga, oa + k * 12 + 6, none⟩ = some (.int .i64 (n')) ∧ wx.cell? ⟨ga, oa + k * 12 + 7, none⟩ = some (.int .i64 (u')) ∧ wx.cell? ⟨ga, oa + k * 12 + 8, none⟩ = some (.int .i64 (pt')) ∧ wx.cell? ⟨ga, oa + k * 12 + 9, none⟩ = some (.int .i64 (pa')) ∧ wx.cell? ⟨ga, oa + k * 12 + 10, none⟩ = some (.string ky') ∧ wx.cell? ⟨ga, oa + k * 12 + 11, none⟩ = some (.string tx') ∧ wx.cell? ⟨gb, ob + k * 12, none⟩ = some (.int .i64 (a')) ∧ wx.cell? ⟨gb, ob + k * 12 + 1, none⟩ = some (.int .i64 (s')) ∧ wx.cell? ⟨gb, ob + k * 12 + 2, none⟩ = some (.int .i64 (t')) ∧ wx.cell? ⟨gb, ob + k * 12 + 3, none⟩ = some (db) ∧ wx.cell? ⟨gb, ob + k * 12 + 4, none⟩ = some (.int .i64 (k')) ∧ wx.cell? ⟨gb, ob + k * 12 + 5, none⟩ = some (.int .i64 (o')) ∧ wx.cell? ⟨gb, ob + k * 12 + 6, none⟩ = some (.int .i64 (n')) ∧ wx.cell? ⟨gb, ob + k * 12 + 7, none⟩ = some (.int .i64 (u')) ∧ wx.cell? ⟨gb, ob + k * 12 + 8, none⟩ = some (.int .i64 (pt')) ∧ wx.cell? ⟨gb, ob + k * 12 + 9, none⟩ = some (.int .i64 (pa')) ∧ wx.cell? ⟨gb, ob + k * 12 + 10, none⟩ = some (.string ky') ∧ wx.cell? ⟨gb, ob + k * 12 + 11, none⟩ = some (.string tx')) := fun wx h =>
        ⟨(hx.below h hga2).c0, (hx.below h hga2).c1, (hx.below h hga2).c2, (hx.below h hga2).c3, (hx.below h hga2).c4, (hx.below h hga2).c5, (hx.below h hga2).c6, (hx.below h hga2).c7, (hx.below h hga2).c8, (hx.below h hga2).c9, (hx.below h hga2).c10, (hx.below h hga2).c11, (hy.below h hgb2).c0, (hy.below h hgb2).c1, (hy.below h hgb2).c2, (hy.below h hgb2).c3, (hy.below h hgb2).c4, (hy.below h hgb2).c5, (hy.below h hgb2).c6, (hy.below h hgb2).c7, (hy.below h hgb2).c8, (hy.below h hgb2).c9, (hy.below h hgb2).c10, (hy.below h hgb2).c11⟩
      have hga' : ga < wr.heap.size := by omega
      have hgb' : gb < wr.heap.size := by omega
      have hB := (Below.refl wr.heap.size wr).drew
      clear hcs hcs' hx hy hxd hyd hdv hdv' hd hrow hrow' hsame
      go_wp2_with fail
      refine wp_region_held_drew (S := fun w' => w'.cell? ⟨ga, oa + k * 12, none⟩ = some (.int .i64 (a')) ∧ w'.cell? ⟨ga, oa + k * 12 + 1, none⟩ = some (.int .i64 (s')) ∧ w'.cell? ⟨ga, oa + k * 12 + 2, none⟩ = some (.int .i64 (t')) ∧ w'.cell? ⟨ga, oa + k * 12 + 3, none⟩ = some (da) ∧ w'.cell? ⟨ga, oa + k * 12 + 4, none⟩ = some (.int .i64 (k')) ∧ w'.cell? ⟨ga, oa + k * 12 + 5, none⟩ = some (.int .i64 (o')) ∧ w'.cell? ⟨ga, oa + k * 12 + 6, none⟩ = some (.int .i64 (n')) ∧ w'.cell? ⟨ga, oa + k * 12 + 7, none⟩ = some (.int .i64 (u')) ∧ w'.cell? ⟨ga, oa + k * 12 + 8, none⟩ = some (.int .i64 (pt')) ∧ w'.cell? ⟨ga, oa + k * 12 + 9, none⟩ = some (.int .i64 (pa')) ∧ w'.cell? ⟨ga, oa + k * 12 + 10, none⟩ = some (.string ky') ∧ w'.cell? ⟨ga, oa + k * 12 + 11, none⟩ = some (.string tx') ∧ w'.cell? ⟨gb, ob + k * 12, none⟩ = some (.int .i64 (a')) ∧ w'.cell? ⟨gb, ob + k * 12 + 1, none⟩ = some (.int .i64 (s')) ∧ w'.cell? ⟨gb, ob + k * 12 + 2, none⟩ = some (.int .i64 (t')) ∧ w'.cell? ⟨gb, ob + k * 12 + 3, none⟩ = some (db) ∧ w'.cell? ⟨gb, ob + k * 12 + 4, none⟩ = some (.int .i64 (k')) ∧ w'.cell? ⟨gb, ob + k * 12 + 5, none⟩ = some (.int .i64 (o')) ∧ w'.cell? ⟨gb, ob + k * 12 + 6, none⟩ = some (.int .i64 (n')) ∧ w'.cell? ⟨gb, ob + k * 12 + 7, none⟩ = some (.int .i64 (u')) ∧ w'.cell? ⟨gb, ob + k * 12 + 8, none⟩ = some (.int .i64 (pt')) ∧ w'.cell? ⟨gb, ob + k * 12 + 9, none⟩ = some (.int .i64 (pa')) ∧ w'.cell? ⟨gb, ob + k * 12 + 10, none⟩ = some (.string ky') ∧ w'.cell? ⟨gb, ob + k * 12 + 11, none⟩ = some (.string tx')) (by kernel_rfl) (HF.out _ hB) (fun hHeld => ?_)
      refine tkH 0 (.slice (some ⟨ga, oa, none⟩) L.length cap) rfl (Or.inl ⟨by kernel_rfl, by intro w hSw; obtain ⟨s0, s1, s2, s3, s4, s5, s6, s7, s8, s9, s10, s11, s12, s13, s14, s15, s16, s17, s18, s19, s20, s21, s22, s23⟩ := hSw; go_simp⟩) hHeld ?_
      simp only [tkS, Act.put]
      refine tkH 1 (.int .i64 ((k : Int))) rfl (Or.inl ⟨by kernel_rfl, by intro w hSw; obtain ⟨s0, s1, s2, s3, s4, s5, s6, s7, s8, s9, s10, s11, s12, s13, s14, s15, s16, s17, s18, s19, s20, s21, s22, s23⟩ := hSw; go_simp⟩) hHeld ?_
      simp only [tkS, Act.put]
      refine tkH 2 (.pointer (some ⟨ga, oa + k * 12, none⟩)) rfl (Or.inl ⟨by kernel_rfl, by intro w hSw; obtain ⟨s0, s1, s2, s3, s4, s5, s6, s7, s8, s9, s10, s11, s12, s13, s14, s15, s16, s17, s18, s19, s20, s21, s22, s23⟩ := hSw; go_simp⟩) hHeld ?_
      simp only [tkS, Act.put]
      refine tkH 3 (.agg #[.int .i64 (a'), .int .i64 (s'), .int .i64 (t'), da, .int .i64 (k'), .int .i64 (o'), .int .i64 (n'), .int .i64 (u'), .int .i64 (pt'), .int .i64 (pa'), .string ky', .string tx']) rfl (Or.inl ⟨by kernel_rfl, by intro w hSw; obtain ⟨s0, s1, s2, s3, s4, s5, s6, s7, s8, s9, s10, s11, s12, s13, s14, s15, s16, s17, s18, s19, s20, s21, s22, s23⟩ := hSw; go_simp⟩) hHeld ?_
      simp only [tkS, Act.put]
      refine tkH 4 (.slice (some ⟨gb, ob, none⟩) L.length cap') rfl (Or.inl ⟨by kernel_rfl, by intro w hSw; obtain ⟨s0, s1, s2, s3, s4, s5, s6, s7, s8, s9, s10, s11, s12, s13, s14, s15, s16, s17, s18, s19, s20, s21, s22, s23⟩ := hSw; go_simp⟩) hHeld ?_
      simp only [tkS, Act.put]
      refine tkH 5 (.int .i64 ((k : Int))) rfl (Or.inl ⟨by kernel_rfl, by intro w hSw; obtain ⟨s0, s1, s2, s3, s4, s5, s6, s7, s8, s9, s10, s11, s12, s13, s14, s15, s16, s17, s18, s19, s20, s21, s22, s23⟩ := hSw; go_simp⟩) hHeld ?_
      simp only [tkS, Act.put]
      refine tkH 6 (.pointer (some ⟨gb, ob + k * 12, none⟩)) rfl (Or.inl ⟨by kernel_rfl, by intro w hSw; obtain ⟨s0, s1, s2, s3, s4, s5, s6, s7, s8, s9, s10, s11, s12, s13, s14, s15, s16, s17, s18, s19, s20, s21, s22, s23⟩ := hSw; go_simp⟩) hHeld ?_
      simp only [tkS, Act.put]
      refine tkH 7 (.agg #[.int .i64 (a'), .int .i64 (s'), .int .i64 (t'), db, .int .i64 (k'), .int .i64 (o'), .int .i64 (n'), .int .i64 (u'), .int .i64 (pt'), .int .i64 (pa'), .string ky', .string tx']) rfl (Or.inl ⟨by kernel_rfl, by intro w hSw; obtain ⟨s0, s1, s2, s3, s4, s5, s6, s7, s8, s9, s10, s11, s12, s13, s14, s15, s16, s17, s18, s19, s20, s21, s22, s23⟩ := hSw; go_simp⟩) hHeld ?_
      simp only [tkS, Act.put]
      refine wpAnyH_ready (rs := [8]) (by kernel_rfl) (by simp) ?_
      refine AllReadyH.cons rfl (fun K hK => ?_) AllReadyH.nil
      go_simp
      refine (hE _ hB).mono ?_
      rintro e wn ⟨rfl, hbn⟩
      replace hB := below_seq hB hbn
      clear hbn
      go_wp2_with fail
      refine hK.out _ _ (HF.out _ hB) (fun hHeld => ?_)
      clear hK K
      refine tkH 9 (.bool false) rfl (Or.inl ⟨by kernel_rfl, by intro w hSw; obtain ⟨s0, s1, s2, s3, s4, s5, s6, s7, s8, s9, s10, s11, s12, s13, s14, s15, s16, s17, s18, s19, s20, s21, s22, s23⟩ := hSw; go_simp⟩) hHeld ?_
      simp only [tkS, Act.put]
      refine wpAnyH_done (by kernel_rfl) ?_ _
      go_wp2_with fail
      go_roundw
      case rel => exact ⟨k + 1, by omega, by go_num, hbel.trans (hB.mono hbel.size)⟩
      case measure => simp [intOf]; omega
    · have hki : ¬ (k : Int) < (L.length : Int) := by omega
      go_wp2_with fail
      go_ret
      exact ⟨rfl, hbel⟩

end Go.Proofs.Ytcifbgoonaolbab

namespace Go.Proofs.Ytcifbgoonaolbab
open Go.RowKit
set_option linter.unusedVariables false

theorem RowO.rdL {w : World} {B g : Nat} {M L : List Ov} (h : RowO w B g L.length M) (hs : SameL M L) (hm : L.length ≤ maxLen) : RdO w.heap.size w (.slice (some ⟨g, 0, none⟩) L.length L.length) M := by
  have e := hs.1
  rw [← e] at h hm ⊢
  exact h.rd hm

end Go.Proofs.Ytcifbgoonaolbab

namespace Go.Proofs.Ytcifbgoonaolbab
open Go.RowKit
set_option linter.unusedVariables false

theorem setCells_snoc (b : Nat) (v : Value) : ∀ (vs : List Value) (o : Nat) (w : World), w.setCells b o (vs ++ [v]) = (w.setCells b o vs).setCell ⟨b, o + vs.length, none⟩ v
  | [], o, w => rfl
  | u :: vs, o, w => by
    show (w.setCell ⟨b, o, none⟩ u).setCells b (o + 1) (vs ++ [v]) = ((w.setCell ⟨b, o, none⟩ u).setCells b (o + 1) vs).setCell ⟨b, o + (vs.length + 1), none⟩ v
    rw [setCells_snoc b v vs (o + 1), show o + 1 + vs.length = o + (vs.length + 1) by omega]
theorem size_setCells (b : Nat) : ∀ (vs : List Value) (o : Nat) (w : World), (w.setCells b o vs).heap.size = w.heap.size
  | [], o, w => rfl
  | u :: vs, o, w => by
    show ((w.setCell ⟨b, o, none⟩ u).setCells b (o + 1) vs).heap.size = w.heap.size
    rw [size_setCells b vs, World.size_setCell]
theorem marksI_snoc (q k : Nat) : marksI q (k + 1) = marksI q k ++ [((q + k : Nat) : Int)] := by simp [marksI, List.range_succ]

set_option maxHeartbeats 400000 in
theorem markIntR_any (w : World) (g off n cap q : Nat) (hn : n ≤ 1048576) (hq : q ≤ 70368744177664) (ht : w.there g off n) :
    Calls Try.prog 11 #[.slice (some ⟨g, off, none⟩) n cap, .int .i64 (q : Int)] w fun e w' => e = .returned (.int .i64 ((q + n : Nat) : Int)) ∧ w' = w.setCells g off ((marksI q n).map (Value.int .i64)) := by
  go_enter Try.func11, Try.ntmps11
  go_wp2
  go_loopw [1, 5] (fun t i wr => ∃ k : Nat, k ≤ n ∧ i = .int .i64 k ∧ t = .int .i64 ((q + k : Nat) : Int) ∧ Hid (wr = w.setCells g off ((marksI q k).map (Value.int .i64)))) (fun _ i _ => n - (intOf i).toNat)
  case atStart => exact ⟨0, Nat.zero_le _, rfl, rfl, rfl⟩
  case round =>
    obtain ⟨k, hk, rfl, rfl, HW⟩ := hrel
    by_cases hlt : k < n
    · have h0 := World.there_setCells ht g off ((marksI q k).map (Value.int .i64))
      rw [← HW.out] at h0
      obtain ⟨z, c1⟩ := Option.isSome_iff_exists.1 (h0 k hlt).1
      have f1 := (h0 k hlt).2
      have HR : Hid (wr.setCell ⟨g, off + k, none⟩ (Value.int .i64 ((q + k : Nat) : Int)) = w.setCells g off ((marksI q (k + 1)).map (Value.int .i64))) := by
        unfold Hid
        rw [marksI_snoc, List.map_append, List.map_singleton, setCells_snoc, List.length_map, marksI_len, ← HW.out]
      clear h0 HW
      go_wp2
      go_roundw
      case rel => exact ⟨k + 1, by omega, by go_num, by go_num, HR⟩
      case measure => simp [intOf]; omega
    · go_wp2
      go_ret
      exact ⟨by rw [show k = n by omega]; rfl, by rw [HW.out, show k = n by omega]⟩

set_option maxHeartbeats 400000 in
theorem markInt0_any (w : World) (a : Option Addr) (cap : Nat) (q : Int) :
    Calls Try.prog 11 #[.slice a 0 cap, .int .i64 q] w fun e w' => e = .returned (.int .i64 q) ∧ w' = w := by
  go_enter Try.func11, Try.ntmps11
  go_wp2
  go_loopw [1, 5] (fun t i wr => t = .int .i64 q ∧ i = .int .i64 0 ∧ wr = w) (fun _ i _ => 0)
  case atStart => exact ⟨rfl, rfl, rfl⟩
  case round =>
    obtain ⟨rfl, rfl, rfl⟩ := hrel
    go_wp2
    go_ret
    exact ⟨rfl, rfl⟩

/-- A row of n operations in block g that may be written, and what they count (dv); all that lies outside the blocks from B up to D is as it was in w0. -/
structure Iv (w0 w : World) (B D g n : Nat) (dv : Nat → Value) : Prop where
  bel : Below B w0 w
  lo : B ≤ g
  hi : g < D
  big : D ≤ w0.heap.size
  fr : ∀ b, D ≤ b → b < w0.heap.size → w.heap[b]? = w0.heap[b]?
  row : w.there g 0 (n * 12)
  dvs : ∀ i, i < n → w.cell? ⟨g, i * 12 + 3, none⟩ = some (dv i)
  dth : ∀ i, i < n → ∃ a len cap, dv i = .slice a len cap ∧ len ≤ 1048576 ∧ (0 < len → ∃ gd od, a = some ⟨gd, od, none⟩ ∧ gd ≠ g ∧ B ≤ gd ∧ gd < D ∧ w.there gd od len)
theorem below_setsC {B : Nat} {a : World} {b : Nat} (hb : B ≤ b) : ∀ (vs : List Value) (o : Nat) (w : World), Below B a w → Below B a (w.setCells b o vs)
  | [], _, _, h => h
  | v :: vs, o, w, h => below_setsC hb vs (o + 1) _ (h.setCell (p := ⟨b, o, none⟩) hb v)
theorem Iv.cell {w0 w : World} {B D g n : Nat} {dv : Nat → Value} (h : Iv w0 w B D g n dv) {k : Nat} (hk : k < n) (j : Nat) (hj : j < 12) : ∃ z, w.cell? ⟨g, k * 12 + j, none⟩ = some z ∧ w.frozen? ⟨g, k * 12 + j, none⟩ = false := by
  have := h.row (k * 12 + j) (by omega)
  rw [Nat.zero_add] at this
  obtain ⟨z, hz⟩ := Option.isSome_iff_exists.1 this.1
  exact ⟨z, hz, this.2⟩
theorem Iv.set {w0 w : World} {B D g n : Nat} {dv : Nat → Value} (h : Iv w0 w B D g n dv) {k j : Nat} (hj : j < 12) (h3 : j ≠ 3) (v : Value) : Iv w0 (w.setCell ⟨g, k * 12 + j, none⟩ v) B D g n dv := by
  have hlo := h.lo
  have hhi := h.hi
  refine ⟨h.bel.setCell (p := ⟨g, k * 12 + j, none⟩) h.lo v, h.lo, h.hi, h.big, fun b hb hl => (heap_setCell_other w ⟨g, k * 12 + j, none⟩ b v (by show b ≠ g; omega)).trans (h.fr b hb hl), World.there_setCells h.row g (k * 12 + j) [v], fun i hi => ?_, fun i hi => ?_⟩
  · rw [World.cell?_setCell_other]
    · exact h.dvs i hi
    · intro e
      simp only [Addr.mk.injEq] at e
      omega
  · obtain ⟨a, len, cap, e, hl, hr⟩ := h.dth i hi
    refine ⟨a, len, cap, e, hl, fun hp => ?_⟩
    obtain ⟨gd, od, ea, hne, h1, h2, ht⟩ := hr hp
    exact ⟨gd, od, ea, hne, h1, h2, World.there_setCells ht g (k * 12 + j) [v]⟩
theorem Iv.sets {w0 w : World} {B D g n : Nat} {dv : Nat → Value} (h : Iv w0 w B D g n dv) {gd : Nat} (hne : gd ≠ g) (h1 : B ≤ gd) (h2 : gd < D) (od : Nat) (vs : List Value) : Iv w0 (w.setCells gd od vs) B D g n dv := by
  refine ⟨below_setsC h1 vs od w h.bel, h.lo, h.hi, h.big, fun b hb hl => ?_, World.there_setCells h.row gd od vs, fun i hi => ?_, fun i hi => ?_⟩
  · have := h.bel.size
    have e := (grownBy_setCells w gd vs od).block b (by omega) (fun he => by simp only [Option.some.injEq] at he; omega)
    exact e.trans (h.fr b hb hl)
  · rw [World.cell?_setCells_out]
    · exact h.dvs i hi
    · intro e
      exact absurd e.symm hne
  · obtain ⟨a, len, cap, e, hl, hr⟩ := h.dth i hi
    refine ⟨a, len, cap, e, hl, fun hp => ?_⟩
    obtain ⟨gd', od', ea, hne', h1', h2', ht⟩ := hr hp
    exact ⟨gd', od', ea, hne', h1', h2', World.there_setCells ht gd od vs⟩
theorem there_block {w w' : World} {b o n : Nat} (h : w.there b o n) (hb : w'.heap[b]? = w.heap[b]?) : w'.there b o n := fun j hj => by
  have := h j hj
  rw [World.cell?_of_block (w := w) (w' := w') hb]
  refine ⟨this.1, ?_⟩
  have h2 := this.2
  unfold World.frozen? at h2 ⊢
  simp only at h2 ⊢
  rw [hb]
  exact h2
theorem Iv.below {w0 w w' : World} {B D g n : Nat} {dv : Nat → Value} (h : Iv w0 w B D g n dv) (hb : Below w.heap.size w w') : Iv w0 w' B D g n dv := by
  have hs := h.bel.size
  have hD := h.big
  have hg := h.hi
  have hlo := h.lo
  have hbs := hb.size
  refine ⟨h.bel.trans (hb.mono (by omega)), h.lo, h.hi, h.big, fun b hb' hl => (hb.block b (by omega)).trans (h.fr b hb' hl), there_block h.row (hb.block g (by omega)), fun i hi => (hb.cell (p := ⟨g, i * 12 + 3, none⟩) (by show g < w.heap.size; omega)).trans (h.dvs i hi), fun i hi => ?_⟩
  obtain ⟨a, len, cap, e, hl, hr⟩ := h.dth i hi
  refine ⟨a, len, cap, e, hl, fun hp => ?_⟩
  obtain ⟨gd, od, ea, hne, h1, h2, ht⟩ := hr hp
  exact ⟨gd, od, ea, hne, h1, h2, there_block ht (hb.block gd (by omega))⟩
theorem Iv.mark {w0 w : World} {B D g n : Nat} {dv : Nat → Value} (h : Iv w0 w B D g n dv) {i : Nat} (hi : i < n) (q : Int) (hq : 0 ≤ q) (hq' : q ≤ 70368744177664) :
    Calls Try.prog 11 #[dv i, .int .i64 q] w fun e w' => (∃ y : Int, q ≤ y ∧ y ≤ q + 1048576 ∧ e = .returned (.int .i64 y)) ∧ Iv w0 w' B D g n dv := by
  obtain ⟨a, len, cap, e, hl, hr⟩ := h.dth i hi
  rw [e]
  by_cases hp : 0 < len
  · obtain ⟨gd, od, rfl, hne, h1, h2, ht⟩ := hr hp
    obtain ⟨m, rfl⟩ := Int.eq_ofNat_of_zero_le hq
    refine (markIntR_any w gd od len cap m hl (by omega) ht).mono ?_
    rintro e' w' ⟨rfl, rfl⟩
    exact ⟨⟨_, by omega, by omega, rfl⟩, h.sets hne h1 h2 od _⟩
  · obtain rfl : len = 0 := by omega
    refine (markInt0_any w a cap q).mono ?_
    rintro e' w' ⟨rfl, rfl⟩
    exact ⟨⟨q, by omega, by omega, rfl⟩, h⟩
theorem markTextI (x : Int) (h0 : 0 ≤ x) (h1 : x ≤ 140737488355328) (w : World) : Calls Try.prog 23 #[.int .i64 x] w fun e w' => (∃ s, e = .returned (.string s)) ∧ Below w.heap.size w w' := by
  obtain ⟨m, rfl⟩ := Int.eq_ofNat_of_zero_le h0
  refine (markText_any m (by omega) w).mono ?_
  rintro e w' ⟨rfl, hb⟩
  exact ⟨⟨_, rfl⟩, hb⟩

set_option maxHeartbeats 4000000 in
set_option maxRecDepth 100000 in
theorem markOpS_frame (w : World) (B D g n c : Nat) (dv : Nat → Value) (q : Int) (hn : n ≤ 1048576) (hq : 0 ≤ q) (hq' : q ≤ 4398046511104) (h : Iv w w B D g n dv) :
    Calls Try.prog 10 #[.slice (some ⟨g, 0, none⟩) n c, .int .i64 q] w fun e w' => (∃ y : Int, 0 ≤ y ∧ y ≤ 8796093022208 ∧ e = .returned (.int .i64 y)) ∧ Iv w w' B D g n dv := by
  have HI0 : Hid (Iv w w B D g n dv) := h
  clear h
  go_enter Try.func10, Try.ntmps10
  go_wp2_with fail
  go_loopw [1, 5] (fun tq ti wr => ∃ (k : Nat) (x : Int), k ≤ n ∧ ti = .int .i64 (k : Int) ∧ tq = .int .i64 x ∧ 0 ≤ x ∧ x ≤ q + (k : Int) * 2097152 ∧ Hid (Iv w wr B D g n dv)) (fun _ ti _ => n - (intOf ti).toNat)
  case atStart => exact ⟨0, q, Nat.zero_le _, rfl, rfl, hq, by omega, HI0⟩
  case round =>
    clear HI0
    obtain ⟨k, x, hk, rfl, rfl, hx0, hxb, HI⟩ := hrel
    by_cases hlt : k < n
    · have j1 : (k : Int) < (n : Int) := by omega
      have j2 : (k : Int) + 1 < 9223372036854775808 := by omega
      have HXB : Hid (x ≤ q + (k : Int) * 2097152) := hxb
      have hm0 : x + 1 + 1 + 1 < 9223372036854775808 := by omega
      have hxs : x ≤ 35184372088832 := by omega
      clear hxb
      obtain ⟨z0, c0, f0⟩ := HI.out.cell hlt 0 (by omega)
      obtain ⟨z1, c1, f1⟩ := HI.out.cell hlt 1 (by omega)
      obtain ⟨z2, c2, f2⟩ := HI.out.cell hlt 2 (by omega)
      have c3 := HI.out.dvs k hlt
      rw [Nat.add_zero] at c0 f0
      have H1 : Hid (Iv w (((wr.setCell ⟨g, k * 12, none⟩ (.int .i64 x)).setCell ⟨g, k * 12 + 1, none⟩ (.int .i64 (x + 1))).setCell ⟨g, k * 12 + 2, none⟩ (.int .i64 (x + 1 + 1))) B D g n dv) := ((HI.out.set (k := k) (j := 0) (by omega) (by omega) _).set (k := k) (j := 1) (by omega) (by omega) _).set (k := k) (j := 2) (by omega) (by omega) _
      have hM := H1.out.mark hlt (x + 1 + 1 + 1) (by omega) (by omega)
      obtain ⟨da, dn, dc, hdv⟩ : ∃ da dn dc, dv k = .slice da dn dc := by obtain ⟨a, len, cap, e, _⟩ := HI.out.dth k hlt; exact ⟨_, _, _, e⟩
      rw [hdv] at hM c3
      clear HI H1 hdv
      go_wp2_with fail
      refine hM.mono ?_
      clear hM c0 c1 c2 c3 f0 f1 f2
      rintro e w2 ⟨⟨y, hy0, hy1, rfl⟩, H2⟩
      have HY : Hid (x + 3 ≤ y ∧ y ≤ x + 3 + 1048576) := ⟨by omega, by omega⟩
      have hyp : 0 ≤ y := by omega
      have hym : y + 1 + 1 + 1 + 1 + 1 + 1 + 1 + 1 < 9223372036854775808 := by omega
      have hyt : y + 1 + 1 + 1 + 1 + 1 + 1 + 1 ≤ 140737488355328 := by omega
      clear hy0 hy1 hm0 hxs
      obtain ⟨z4, c4, f4⟩ := H2.cell hlt 4 (by omega)
      obtain ⟨z5, c5, f5⟩ := H2.cell hlt 5 (by omega)
      obtain ⟨z6, c6, f6⟩ := H2.cell hlt 6 (by omega)
      obtain ⟨z7, c7, f7⟩ := H2.cell hlt 7 (by omega)
      obtain ⟨z8, c8, f8⟩ := H2.cell hlt 8 (by omega)
      obtain ⟨z9, c9, f9⟩ := H2.cell hlt 9 (by omega)
      have H3 : Hid (Iv w ((((((w2.setCell ⟨g, k * 12 + 4, none⟩ (.int .i64 y)).setCell ⟨g, k * 12 + 5, none⟩ (.int .i64 (y + 1))).setCell ⟨g, k * 12 + 6, none⟩ (.int .i64 (y + 1 + 1))).setCell ⟨g, k * 12 + 7, none⟩ (.int .i64 (y + 1 + 1 + 1))).setCell ⟨g, k * 12 + 8, none⟩ (.int .i64 (y + 1 + 1 + 1 + 1))).setCell ⟨g, k * 12 + 9, none⟩ (.int .i64 (y + 1 + 1 + 1 + 1 + 1))) B D g n dv) := (((((H2.set (k := k) (j := 4) (by omega) (by omega) _).set (k := k) (j := 5) (by omega) (by omega) _).set (k := k) (j := 6) (by omega) (by omega) _).set (k := k) (j := 7) (by omega) (by omega) _).set (k := k) (j := 8) (by omega) (by omega) _).set (k := k) (j := 9) (by omega) (by omega) _
      have hT1 := fun w => markTextI (y + 1 + 1 + 1 + 1 + 1 + 1) (by omega) (by omega) w
      have hT2 := fun w => markTextI (y + 1 + 1 + 1 + 1 + 1 + 1 + 1) (by omega) (by omega) w
      clear H2
      go_wp2_with fail
      refine (hT1 _).mono ?_
      clear hT1 c4 c5 c6 c7 c8 c9 f4 f5 f6 f7 f8 f9
      rintro e w4 ⟨⟨s1, rfl⟩, hb4⟩
      have H4 := H3.out.below hb4
      clear H3 hb4
      obtain ⟨z10, c10, f10⟩ := H4.cell hlt 10 (by omega)
      have H5 : Hid (Iv w (w4.setCell ⟨g, k * 12 + 10, none⟩ (.string s1)) B D g n dv) := H4.set (k := k) (j := 10) (by omega) (by omega) _
      clear H4
      go_wp2_with fail
      refine (hT2 _).mono ?_
      clear hT2 c10 f10
      rintro e w6 ⟨⟨s2, rfl⟩, hb6⟩
      have H6 := H5.out.below hb6
      clear H5 hb6
      obtain ⟨z11, c11, f11⟩ := H6.cell hlt 11 (by omega)
      have H7 : Hid (Iv w (w6.setCell ⟨g, k * 12 + 11, none⟩ (.string s2)) B D g n dv) := H6.set (k := k) (j := 11) (by omega) (by omega) _
      clear H6
      go_wp2_with fail
      go_roundw
      case rel =>
        have h1 := HY.out
        have h2 := HXB.out
        exact ⟨k + 1, y + 1 + 1 + 1 + 1 + 1 + 1 + 1 + 1, by omega, by go_num, rfl, by omega, by omega, H7⟩
      case measure => simp [intOf]; omega
    · have j1 : ¬ (k : Int) < (n : Int) := by omega
      go_wp2_with fail
      go_ret
      exact ⟨⟨x, hx0, by omega, rfl⟩, HI.out⟩

theorem RowO.iv {w0 w : World} {B g n : Nat} {M : List Ov} (h : RowO w0 B g n M) (hn : M.length = n) (hd : ∀ x ∈ M, x.ds.length ≤ 1048576) (hb : Below w0.heap.size w0 w) : Iv w w B w0.heap.size g n (fun i => (ovAt M i).dv) := by
  have hlt := h.lt
  have hs := hb.size
  have h' := h.on hb
  refine ⟨Below.refl _ _, hlt.1, hlt.2, hs, fun _ _ _ => rfl, ?_, fun i hi => ?_, fun i hi => ?_⟩
  · obtain ⟨⟨xs, ho, _⟩, _⟩ := h'
    have hl := ho.1
    intro j hj
    rw [Nat.zero_add, World.ownsRow.cellAt ho _ (by omega), List.getElem?_eq_getElem (by omega)]
    exact ⟨rfl, World.ownsRow.frozenAt ho _⟩
  · obtain ⟨⟨xs, ho, hx⟩, _⟩ := h'
    have hl := ho.1
    rw [World.ownsRow.cellAt ho _ (by omega), hx _ (by omega), rowCs_at M i 3 (by omega) (by omega)]
    rfl
  · have hm := ovAt_mem (L := M) (k := i) (by omega)
    have ho := h.deps _ hm
    have ho' := h'.deps _ hm
    obtain ⟨ao, cap, e, hr⟩ := ho.slice
    refine ⟨ao, _, cap, e, by rw [List.length_map]; exact hd _ hm, fun hp => ?_⟩
    obtain ⟨gd, rfl⟩ := hr hp
    rw [e] at ho ho'
    have h1 := World.ownsRow.lt ho gd rfl
    refine ⟨gd, 0, rfl, by omega, by omega, h1.2, fun j hj => ?_⟩
    rw [Nat.zero_add, own_cell ho' hj]
    exact ⟨rfl, own_free ho' j⟩
end Go.Proofs.Ytcifbgoonaolbab

namespace Go.Proofs.Ytcifbgoonaolbab
open Go.RowKit
set_option linter.unusedVariables false

set_option maxHeartbeats 4000000 in
set_option maxRecDepth 100000 in
theorem lawUndoDone_walk (ans : List Ov → List Int) (cod : List Ov → Int) (act : Int) (hans : ∀ L, (ans L).length ≤ 1048576) (hsm : ∀ M L, SameL M L → ans M = ans L ∧ cod M = cod L)
    (hsp : ∀ (C : Nat) (w : World) (v : Value) (L : List Ov), C ≤ w.heap.size → RdO C w v L → Calls Try.prog 5 #[v, .int .i64 act] w fun e w' => ∃ r, e = .returned (.tuple #[r, .int .i64 (cod L)]) ∧ Own 3 w' w.heap.size r ((ans L).map (Value.int .i64)) ∧ Below w.heap.size w w')
    (him : ∀ (C : Nat) (w : World) (v : Value) (L : List Ov), C ≤ w.heap.size → RdO C w v L → Calls Try.prog 7 #[v, .int .i64 act] w fun e w' => ∃ r, e = .returned (.tuple #[r, .int .i64 (cod L)]) ∧ Own 3 w' w.heap.size r ((ans L).map (Value.int .i64)) ∧ Below w.heap.size w w')
    (w : World) (v : Value) (L : List Ov) (hr : RdO w.heap.size w v L) (ht : ∀ x ∈ L, x.ky.size ≤ maxLen ∧ x.tx.size ≤ maxLen) :
    Calls Try.prog 3 #[v, .int .i64 act] w fun e w' => e = .returned (.bool true) ∧ Below w.heap.size w w' := by
  have hz := szOpS_any w.heap.size w v L (Nat.le_refl _) hr ht
  go_enter Try.func3, Try.ntmps3
  go_wp2_with fail
  refine hz.mono ?_
  rintro e w1 ⟨⟨z, rfl, hzz⟩, hb1⟩
  rcases hzz with rfl | ⟨q, hzq, hq, hlen, hds⟩
  · go_wp2_with fail
    go_ret
    exact ⟨rfl, hb1⟩
  · have z0 : decide (z < 0) = false := by simp; omega
    have z1 : 0 ≤ z := by omega
    clear hzq hq
    have hm : L.length ≤ maxLen := by unfold maxLen; omega
    have hal := hans L
    obtain ⟨cd, HCD⟩ : ∃ cd, Hid (cod L = cd) := ⟨_, rfl⟩
    have hTO := fun (w9 : World) (hb : Below w.heap.size w w9) => toOpS_any w.heap.size w9 v L hlen hds hb.size (hr.below hb)
    go_wp2_with fail
    refine (hTO w1 hb1).mono ?_
    rintro e w2 ⟨rfl, ⟨M0, hs0, hM0⟩, hb2⟩
    have hB2 := below_seq hb1 hb2
    go_wp2_with fail
    refine (hsp _ w2 _ M0 (Nat.le_refl _) (hM0.rdL hs0 hm)).mono ?_
    rintro e w3 ⟨r0, rfl, ho0, hb3⟩
    have hB3 := below_seq hB2 hb3
    rw [(hsm M0 L hs0).1] at ho0
    rw [(hsm M0 L hs0).2, HCD.out]
    clear hM0 hs0
    go_wp2_with fail
    refine (hTO w3 hB3).mono ?_
    rintro e w4 ⟨rfl, ⟨M1, hs1, hM1⟩, hb4⟩
    have hB4 := below_seq hB3 hb4
    have hR4 := hM1.rdL hs1 hm
    go_wp2_with fail
    refine (him _ w4 _ M1 (Nat.le_refl _) hR4).mono ?_
    rintro e w5 ⟨r1, rfl, ho1, hb5⟩
    have hB5 := below_seq hB4 hb5
    rw [(hsm M1 L hs1).1] at ho1
    rw [(hsm M1 L hs1).2, HCD.out]
    have hs4 := hb4.size
    have hs5 := hb5.size
    have hR5 := hR4.below hb5
    have ho0_5 := (ho0.below hb4 (Nat.le_refl _)).below hb5 (by omega)
    go_wp2_with fail
    refine (eqIntS_same _ _ w5 r1 r0 (ans L) (by omega) ho1.rd ho0_5.rd).mono ?_
    rintro e w6 ⟨rfl, n6, hw6⟩
    have hb6 : Below w5.heap.size w5 w6 := by rw [hw6]; exact below_drewN (Below.refl _ _) n6
    clear hw6
    have hB6 := below_seq hB5 hb6
    have hs6 := hb6.size
    go_wp2_with fail
    refine (hTO w6 hB6).mono ?_
    rintro e w7 ⟨rfl, ⟨M2, hs2, hM2⟩, hb7⟩
    have hB7 := below_seq hB6 hb7
    have hs7 := hb7.size
    have hd1 := sameL_ds hs1 hds
    go_wp2_with fail
    refine (eqOpS_same w4.heap.size w7.heap.size w7 _ _ M1 M2 (by rw [hs1.1]; exact hlen) hd1 (by omega) (Nat.le_refl _) ((hR5.below (hb6.mono (by omega))).below (hb7.mono (by omega))) (hM2.rdL hs2 hm) (sameL_two hs1 hs2)).mono ?_
    rintro e w8 ⟨rfl, hb8⟩
    have hB8 := below_seq hB7 hb8
    have hs8 := hb8.size
    have hb48 : Below w4.heap.size w4 w8 := below_seq (below_seq (below_seq hb5 hb6) hb7) hb8
    have hb58 : Below w5.heap.size w5 w8 := below_seq (below_seq hb6 hb7) hb8
    have hIv := hM1.iv hs1.1 hd1 hb48
    have ho1_8 := ho1.below hb58 (Nat.le_refl _)
    have ho0_8 := ho0_5.below hb58 (Nat.le_refl _)
    have hl0 := ho0.blk
    clear ho0 ho1 ho0_5 hM2 hs2 hR5 hR4 hM1 hd1
    go_wp2_with fail
    refine (markOpS_frame w8 w3.heap.size w4.heap.size w3.heap.size L.length L.length _ 1 hlen (by omega) (by omega) hIv).mono ?_
    rintro e w9 ⟨⟨y, hy0, hy1, rfl⟩, hIv9⟩
    have hb9 := hIv9.bel
    have hs9 := hb9.size
    have hB9 : Below w.heap.size w w9 := hB8.trans (hb9.mono hB3.size)
    have ho1_9 := ownSame ho1_8 (fun k hk => hIv9.fr k (World.ownsRow.lt ho1_8 k hk).1 (World.ownsRow.lt ho1_8 k hk).2)
    have ho0_9 := ownSame ho0_8 (fun k hk => hb9.block k (hl0 k hk))
    have y0 : decide (y < 0) = false := by simp; omega
    clear hIv hIv9 ho1_8 ho0_8
    go_wp2_with fail
    refine (eqIntS_same _ _ w9 r1 r0 (ans L) (by omega) ho1_9.rd ho0_9.rd).mono ?_
    rintro e w10 ⟨rfl, n10, hw10⟩
    have hb10 : Below w9.heap.size w9 w10 := by rw [hw10]; exact below_drewN (Below.refl _ _) n10
    clear hw10
    have hB10 := below_seq hB9 hb10
    have hs10 := hb10.size
    have ho1_10 := ho1_9.below hb10 (Nat.le_refl _)
    have ho0_10 := ho0_9.below hb10 (Nat.le_refl _)
    clear ho1_9 ho0_9
    go_wp2_with fail
    refine (markIntS_any w4.heap.size w10 r1 _ 1 (by rw [List.length_map]; omega) (by omega) ho1_10).mono ?_
    rintro e w11 ⟨rfl, ho1_11, hb11, hg11⟩
    rw [List.length_map] at ho1_11 ⊢
    have hs11 := hb11.size
    have hB11 : Below w.heap.size w w11 := hB10.trans (hb11.mono hB4.size)
    have ho0_11 := ownSame ho0_10 (fun k hk => hb11.block k (by have := hl0 k hk; omega))
    clear ho1_10 ho0_10 hg11
    go_wp2_with fail
    refine (heldIntS_same _ w11 r1 1 (ans L).length (by omega) (by omega) ho1_11.rd).mono ?_
    rintro e w12 ⟨rfl, hw12⟩
    have hb12 : Below w11.heap.size w11 w12 := by rw [hw12]; exact Below.refl _ _
    clear hw12
    have hB12 := below_seq hB11 hb12
    have hs12 := hb12.size
    have ho1_12 := ho1_11.below hb12 (Nat.le_refl _)
    have ho0_12 := ho0_11.below hb12 (Nat.le_refl _)
    clear ho1_11 ho0_11
    go_wp2_with fail
    refine (hTO w12 hB12).mono ?_
    rintro e w13 ⟨rfl, ⟨M3, hs3, hM3⟩, hb13⟩
    have hB13 := below_seq hB12 hb13
    have hs13 := hb13.size
    go_wp2_with fail
    refine (him _ w13 _ M3 (Nat.le_refl _) (hM3.rdL hs3 hm)).mono ?_
    rintro e w14 ⟨r2, rfl, ho2, hb14⟩
    have hB14 := below_seq hB13 hb14
    have hs14 := hb14.size
    rw [(hsm M3 L hs3).1] at ho2
    rw [(hsm M3 L hs3).2, HCD.out]
    have ho1_14 := (ho1_12.below hb13 (Nat.le_refl _)).below hb14 (Nat.le_refl _)
    have ho0_14 := (ho0_12.below hb13 (Nat.le_refl _)).below hb14 (Nat.le_refl _)
    clear ho1_12 ho0_12 hM3
    go_wp2_with fail
    refine (eqIntS_same _ _ w14 r2 r0 (ans L) (by omega) ho2.rd ho0_14.rd).mono ?_
    rintro e w15 ⟨rfl, n15, hw15⟩
    have hb15 : Below w14.heap.size w14 w15 := by rw [hw15]; exact below_drewN (Below.refl _ _) n15
    clear hw15
    have hB15 := below_seq hB14 hb15
    have ho1_15 := ho1_14.below hb15 (Nat.le_refl _)
    go_wp2_with fail
    refine (heldIntS_same _ w15 r1 1 (ans L).length (by omega) (by omega) ho1_15.rd).mono ?_
    rintro e w16 ⟨rfl, hw16⟩
    have hb16 : Below w15.heap.size w15 w16 := by rw [hw16]; exact Below.refl _ _
    clear hw16
    go_wp2_with fail
    go_ret
    exact ⟨rfl, below_seq hB15 hb16⟩
end Go.Proofs.Ytcifbgoonaolbab
