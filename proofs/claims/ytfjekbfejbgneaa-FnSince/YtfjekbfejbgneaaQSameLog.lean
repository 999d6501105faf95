/- The laws' own sameOp and sameLog: two alike are alike. -/
import Derived.Deep.RegionHeld2
import Derived.Test.YtfjekbfejbgneaaQOpToToLawKit
import Derived.Test.YtfjekbfejbgneaaQDrawVecB
import Derived.Test.YtfjekbfejbgneaaQStampLessWalkToStampNextEq
import Derived.Test.YtfjekbfejbgneaaQTextsCells
namespace Go.Proofs.Ytfjekbfejbgneaa
open Go.RowKit
set_option linter.unusedVariables false

set_option maxHeartbeats 2000000 in
set_option maxRecDepth 100000 in
theorem sameOpL_same (C C' : Nat) (a s t k o n u pt pa : Int) (da db : Value) (ky tx : ByteArray) (ds : List Int) (w : World) (hl : ds.length ≤ 1048576) (hC : C ≤ w.heap.size) (hC' : C' ≤ w.heap.size) (ha : Rd C w da (ds.map (Value.int .i64))) (hb : Rd C' w db (ds.map (Value.int .i64))) :
    Calls Try.prog 18 #[.agg #[.int .i64 a, .int .i64 s, .int .i64 t, da, .int .i64 k, .int .i64 o, .int .i64 n, .int .i64 u, .int .i64 pt, .int .i64 pa, .string ky, .string tx], .agg #[.int .i64 a, .int .i64 s, .int .i64 t, db, .int .i64 k, .int .i64 o, .int .i64 n, .int .i64 u, .int .i64 pt, .int .i64 pa, .string ky, .string tx]] w fun e w' => e = .returned (.bool true) ∧ Below w.heap.size w w' := by
  have hB := Below.refl ((w.alloc (.cells #[.int .i64 a, .int .i64 s, .int .i64 t, da, .int .i64 k, .int .i64 o, .int .i64 n, .int .i64 u, .int .i64 pt, .int .i64 pa, .string ky, .string tx] 47)).alloc (.cells #[.int .i64 a, .int .i64 s, .int .i64 t, db, .int .i64 k, .int .i64 o, .int .i64 n, .int .i64 u, .int .i64 pt, .int .i64 pa, .string ky, .string tx] 47)).heap.size ((w.alloc (.cells #[.int .i64 a, .int .i64 s, .int .i64 t, da, .int .i64 k, .int .i64 o, .int .i64 n, .int .i64 u, .int .i64 pt, .int .i64 pa, .string ky, .string tx] 47)).alloc (.cells #[.int .i64 a, .int .i64 s, .int .i64 t, db, .int .i64 k, .int .i64 o, .int .i64 n, .int .i64 u, .int .i64 pt, .int .i64 pa, .string ky, .string tx] 47))
  have hE : ∀ w1, Below ((w.alloc (.cells #[.int .i64 a, .int .i64 s, .int .i64 t, da, .int .i64 k, .int .i64 o, .int .i64 n, .int .i64 u, .int .i64 pt, .int .i64 pa, .string ky, .string tx] 47)).alloc (.cells #[.int .i64 a, .int .i64 s, .int .i64 t, db, .int .i64 k, .int .i64 o, .int .i64 n, .int .i64 u, .int .i64 pt, .int .i64 pa, .string ky, .string tx] 47)).heap.size ((w.alloc (.cells #[.int .i64 a, .int .i64 s, .int .i64 t, da, .int .i64 k, .int .i64 o, .int .i64 n, .int .i64 u, .int .i64 pt, .int .i64 pa, .string ky, .string tx] 47)).alloc (.cells #[.int .i64 a, .int .i64 s, .int .i64 t, db, .int .i64 k, .int .i64 o, .int .i64 n, .int .i64 u, .int .i64 pt, .int .i64 pa, .string ky, .string tx] 47)) w1 → Calls Try.prog 32 #[da, db] w1 fun e w' => e = .returned (.bool true) ∧ Below w1.heap.size w1 w' := fun w1 h => by
    have h1 : Below w.heap.size w w1 := below_seq (below_then (below_alloc _ _) _) h
    have := h1.size
    refine (sameInts_same C C' w1 da db ds (by omega) (ha.below (h1.mono hC)) (hb.below (h1.mono hC'))).mono ?_
    rintro e w' ⟨rfl, nn, rfl⟩
    exact ⟨rfl, below_drewN (Below.refl _ _) nn⟩
  obtain ⟨p0, p1, p2, p3, p4, p5, p6, p7, p8, p9, p10, p11⟩ := op_cells (below_seq (below_alloc (w.alloc (.cells #[.int .i64 a, .int .i64 s, .int .i64 t, da, .int .i64 k, .int .i64 o, .int .i64 n, .int .i64 u, .int .i64 pt, .int .i64 pa, .string ky, .string tx] 47)) (.cells #[.int .i64 a, .int .i64 s, .int .i64 t, db, .int .i64 k, .int .i64 o, .int .i64 n, .int .i64 u, .int .i64 pt, .int .i64 pa, .string ky, .string tx] 47)) hB); obtain ⟨q0, q1, q2, q3, q4, q5, q6, q7, q8, q9, q10, q11⟩ := op_cells hB; rw [World.size_alloc] at q0 q1 q2 q3 q4 q5 q6 q7 q8 q9 q10 q11
  clear ha hb
  go_enter Try.func18, Try.ntmps18
  go_wp2_with (first | (go_at_call 32; refine (hE _ hB).mono ?_; clear hE p0 p1 p2 p3 p4 p5 p6 p7 p8 p9 p10 p11 q0 q1 q2 q3 q4 q5 q6 q7 q8 q9 q10 q11; rintro e w8 ⟨rfl, hb8⟩; replace hB := below_seq hB hb8; obtain ⟨p0, p1, p2, p3, p4, p5, p6, p7, p8, p9, p10, p11⟩ := op_cells (below_seq (below_alloc (w.alloc (.cells #[.int .i64 a, .int .i64 s, .int .i64 t, da, .int .i64 k, .int .i64 o, .int .i64 n, .int .i64 u, .int .i64 pt, .int .i64 pa, .string ky, .string tx] 47)) (.cells #[.int .i64 a, .int .i64 s, .int .i64 t, db, .int .i64 k, .int .i64 o, .int .i64 n, .int .i64 u, .int .i64 pt, .int .i64 pa, .string ky, .string tx] 47)) hB); obtain ⟨q0, q1, q2, q3, q4, q5, q6, q7, q8, q9, q10, q11⟩ := op_cells hB; rw [World.size_alloc] at q0 q1 q2 q3 q4 q5 q6 q7 q8 q9 q10 q11; clear hb8))
  go_ret
  exact ⟨rfl, below_seq (below_then (below_alloc _ _) _) hB⟩

set_option maxHeartbeats 4000000 in
set_option maxRecDepth 100000 in
theorem sameLog_same (C C' : Nat) (w : World) (v v' : Value) (L M : List Ov) (hl : L.length ≤ 1048576) (hd : ∀ x ∈ L, x.ds.length ≤ 1048576) (hC : C ≤ w.heap.size) (hC' : C' ≤ w.heap.size) (hr : RdO C w v L) (hr' : RdO C' w v' M) (hS : SameL M L) :
    Calls Try.prog 7 #[v, v'] w fun e w' => e = .returned (.bool true) ∧ Below w.heap.size w w' := by
  obtain ⟨⟨ao, cap, rfl, hcap, hmax, hnil, hrow⟩, hdv⟩ := hr
  obtain ⟨⟨ao', cap', rfl, hcap', hmax', hnil', hrow'⟩, hdv'⟩ := hr'
  obtain ⟨hlen, hsame⟩ := hS
  rw [hlen] at hcap' hrow' ⊢
  go_enter Try.func7, Try.ntmps7
  go_wp2_with fail
  go_loopw [5] (fun ti wr => ∃ k : Nat, k ≤ L.length ∧ ti = .int .i64 (k : Int) ∧ Below w.heap.size w wr) (fun ti _ => L.length - (intOf ti).toNat)
  case atStart => exact ⟨0, Nat.zero_le _, rfl, Below.refl _ _⟩
  case round =>
    obtain ⟨k, hk, rfl, hbel⟩ := hrel
    by_cases hlt : k < L.length
    · have hki : (k : Int) < (L.length : Int) := by omega
      have hk2 : (k : Int) + 1 < 9223372036854775808 := by omega
      have hsz := hbel.size
      obtain ⟨ga, oa, rfl, hga, hcs⟩ := hrow (by omega)
      obtain ⟨gb, ob, rfl, hgb, hcs'⟩ := hrow' (by omega)
      have hx := (hcs k hlt).below (hbel.mono hC) hga
      have hy := (hcs' k hlt).below (hbel.mono hC') hgb
      have hxd := (hdv _ (ovAt_mem hlt)).below (hbel.mono hC)
      have hyd := (hdv' _ (ovAt_mem (by omega : k < M.length))).below (hbel.mono hC')
      have hdl := hd _ (ovAt_mem hlt)
      have hxy := hsame k hlt
      generalize ovAt L k = x at *
      generalize ovAt M k = y at *
      obtain ⟨a, s, t, da, k0, o, n, u, pt, pa, ky, tx, ds⟩ := x
      obtain ⟨a', s', t', db, k', o', n', u', pt', pa', ky', tx', ds'⟩ := y
      obtain ⟨e1, e2, e3, e4, e5, e6, e7, e8, e9, e10, e11, e12⟩ := hxy
      simp only at e1 e2 e3 e4 e5 e6 e7 e8 e9 e10 e11 e12 hxd hyd hdl
      subst e1 e2 e3 e4 e5 e6 e7 e8 e9 e10 e11 e12
      have hE : ∀ w1, Below wr.heap.size wr w1 → Calls Try.prog 18 #[.agg #[.int .i64 (a'), .int .i64 (s'), .int .i64 (t'), da, .int .i64 (k'), .int .i64 (o'), .int .i64 (n'), .int .i64 (u'), .int .i64 (pt'), .int .i64 (pa'), .string ky', .string tx'], .agg #[.int .i64 (a'), .int .i64 (s'), .int .i64 (t'), db, .int .i64 (k'), .int .i64 (o'), .int .i64 (n'), .int .i64 (u'), .int .i64 (pt'), .int .i64 (pa'), .string ky', .string tx']] w1 fun e w' => e = .returned (.bool true) ∧ Below w1.heap.size w1 w' := fun w1 h => sameOpL_same C C' _ _ _ _ _ _ _ _ _ _ _ _ _ _ w1 hdl (by have := h.size; omega) (by have := h.size; omega) (hxd.below (h.mono (by omega))) (hyd.below (h.mono (by omega)))
      have hga2 : ga < wr.heap.size := by omega
      have hgb2 : gb < wr.heap.size := by omega
      have HF : Hid (∀ wx, Below wr.heap.size wr wx → wx.cell? ⟨ga, oa + k * 12, none⟩ = some (.int .i64 (a')) ∧ wx.cell? ⟨ga, oa + k * 12 + 1, none⟩ = some (.int .i64 (s')) ∧ wx.cell? ⟨ga, oa + k * 12 + 2, none⟩ = some (.int .i64 (t')) ∧ wx.cell? ⟨ga, oa + k * 12 + 3, none⟩ = some (da) ∧ wx.cell? ⟨ga, oa + k * 12 + 4, none⟩ = some (.int .i64 (k')) ∧ wx.cell? ⟨ga, oa + k * 12 + 5, none⟩ = some (.int .i64 (o')) ∧ wx.cell? ⟨ga, oa + k * 12 + 6, none⟩ = some (.int .i64 (n')) ∧ wx.cell? ⟨ga, oa + k * 12 + 7, none⟩ = some (.int .i64 (u')) ∧ wx.cell? ⟨ga, oa + k * 12 + 8, none⟩ = some (.int .i64 (pt')) ∧ wx.cell? ⟨ga, oa + k * 12 + 9, none⟩ = some (.int .i64 (pa')) ∧ wx.cell? ⟨ga, oa + k * 12 + 10, none⟩ = some (.string ky') ∧ wx.cell? ⟨ga, oa + k * 12 + 11, none⟩ = some (.string tx') ∧ wx.cell? ⟨gb, ob + k * 12, none⟩ = some (.int .i64 (a')) ∧ wx.cell? ⟨gb, ob + k * 12 + 1, none⟩ = some (.int .i64 (s')) ∧ wx.cell? ⟨gb, ob + k * 12 + 2, none⟩ = some (.int .i64 (t')) ∧ wx.cell? ⟨gb, ob + k * 12 + 3, none⟩ = some (db) ∧ wx.cell? ⟨gb, ob + k * 12 + 4, none⟩ = some (.int .i64 (k')) ∧ wx.cell? ⟨gb, ob + k * 12 + 5, none⟩ = some (.int .i64 (o')) ∧ wx.cell? ⟨gb, ob + k * 12 + 6, none⟩ = some (.int .i64 (n')) ∧ wx.cell? ⟨gb, ob + k * 12 + 7, none⟩ = some (.int .i64 (u')) ∧ wx.cell? ⟨gb, ob + k * 12 + 8, none⟩ = some (.int .i64 (pt')) ∧ wx.cell? ⟨gb, ob + k * 12 + 9, none⟩ = some (.int .i64 (pa')) ∧ wx.cell? ⟨gb, ob + k * 12 + 10, none⟩ = some (.string ky') ∧ wx.cell? ⟨gb, ob + k * 12 + 11, none⟩ = some (.string tx')) := fun wx h =>
        ⟨(hx.below h hga2).c0, (hx.below h hga2).c1, (hx.below h hga2).c2, (hx.below h hga2).c3, (hx.below h hga2).c4, (hx.below h hga2).c5, (hx.below h hga2).c6, (hx.below h hga2).c7, (hx.below h hga2).c8, (hx.below h hga2).c9, (hx.below h hga2).c10, (hx.below h hga2).c11, (hy.below h hgb2).c0, (hy.below h hgb2).c1, (hy.below h hgb2).c2, (hy.below h hgb2).c3, (hy.below h hgb2).c4, (hy.below h hgb2).c5, (hy.below h hgb2).c6, (hy.below h hgb2).c7, (hy.below h hgb2).c8, (hy.below h hgb2).c9, (hy.below h hgb2).c10, (hy.below h hgb2).c11⟩
      have hga' : ga < wr.heap.size := by omega
      have hgb' : gb < wr.heap.size := by omega
      have hB := (Below.refl wr.heap.size wr).drew
      clear hcs hcs' hx hy hxd hyd hdv hdv' hd hrow hrow' hsame
      go_wp2_with fail
      refine wp_region_held_drew (S := fun w' => w'.cell? ⟨ga, oa + k * 12, none⟩ = some (.int .i64 (a')) ∧ w'.cell? ⟨ga, oa + k * 12 + 1, none⟩ = some (.int .i64 (s')) ∧ w'.cell? ⟨ga, oa + k * 12 + 2, none⟩ = some (.int .i64 (t')) ∧ w'.cell? ⟨ga, oa + k * 12 + 3, none⟩ = some (da) ∧ w'.cell? ⟨ga, oa + k * 12 + 4, none⟩ = some (.int .i64 (k')) ∧ w'.cell? ⟨ga, oa + k * 12 + 5, none⟩ = some (.int .i64 (o')) ∧ w'.cell? ⟨ga, oa + k * 12 + 6, none⟩ = some (.int .i64 (n')) ∧ w'.cell? ⟨ga, oa + k * 12 + 7, none⟩ = some (.int .i64 (u')) ∧ w'.cell? ⟨ga, oa + k * 12 + 8, none⟩ = some (.int .i64 (pt')) ∧ w'.cell? ⟨ga, oa + k * 12 + 9, none⟩ = some (.int .i64 (pa')) ∧ w'.cell? ⟨ga, oa + k * 12 + 10, none⟩ = some (.string ky') ∧ w'.cell? ⟨ga, oa + k * 12 + 11, none⟩ = some (.string tx') ∧ w'.cell? ⟨gb, ob + k * 12, none⟩ = some (.int .i64 (a')) ∧ w'.cell? ⟨gb, ob + k * 12 + 1, none⟩ = some (.int .i64 (s')) ∧ w'.cell? ⟨gb, ob + k * 12 + 2, none⟩ = some (.int .i64 (t')) ∧ w'.cell? ⟨gb, ob + k * 12 + 3, none⟩ = some (db) ∧ w'.cell? ⟨gb, ob + k * 12 + 4, none⟩ = some (.int .i64 (k')) ∧ w'.cell? ⟨gb, ob + k * 12 + 5, none⟩ = some (.int .i64 (o')) ∧ w'.cell? ⟨gb, ob + k * 12 + 6, none⟩ = some (.int .i64 (n')) ∧ w'.cell? ⟨gb, ob + k * 12 + 7, none⟩ = some (.int .i64 (u')) ∧ w'.cell? ⟨gb, ob + k * 12 + 8, none⟩ = some (.int .i64 (pt')) ∧ w'.cell? ⟨gb, ob + k * 12 + 9, none⟩ = some (.int .i64 (pa')) ∧ w'.cell? ⟨gb, ob + k * 12 + 10, none⟩ = some (.string ky') ∧ w'.cell? ⟨gb, ob + k * 12 + 11, none⟩ = some (.string tx')) (by kernel_rfl) (HF.out _ hB) (fun hHeld => ?_)
      refine tkH 0 (.slice (some ⟨ga, oa, none⟩) L.length cap) rfl (Or.inl ⟨by kernel_rfl, by intro w hSw; obtain ⟨s0, s1, s2, s3, s4, s5, s6, s7, s8, s9, s10, s11, s12, s13, s14, s15, s16, s17, s18, s19, s20, s21, s22, s23⟩ := hSw; go_simp⟩) hHeld ?_
      simp only [tkS, Act.put]
      refine tkH 1 (.int .i64 ((k : Int))) rfl (Or.inl ⟨by kernel_rfl, by intro w hSw; obtain ⟨s0, s1, s2, s3, s4, s5, s6, s7, s8, s9, s10, s11, s12, s13, s14, s15, s16, s17, s18, s19, s20, s21, s22, s23⟩ := hSw; go_simp⟩) hHeld ?_
      simp only [tkS, Act.put]
      refine tkH 2 (.pointer (some ⟨ga, oa + k * 12, none⟩)) rfl (Or.inl ⟨by kernel_rfl, by intro w hSw; obtain ⟨s0, s1, s2, s3, s4, s5, s6, s7, s8, s9, s10, s11, s12, s13, s14, s15, s16, s17, s18, s19, s20, s21, s22, s23⟩ := hSw; go_simp⟩) hHeld ?_
      simp only [tkS, Act.put]
      refine tkH 3 (.agg #[.int .i64 (a'), .int .i64 (s'), .int .i64 (t'), da, .int .i64 (k'), .int .i64 (o'), .int .i64 (n'), .int .i64 (u'), .int .i64 (pt'), .int .i64 (pa'), .string ky', .string tx']) rfl (Or.inl ⟨by kernel_rfl, by intro w hSw; obtain ⟨s0, s1, s2, s3, s4, s5, s6, s7, s8, s9, s10, s11, s12, s13, s14, s15, s16, s17, s18, s19, s20, s21, s22, s23⟩ := hSw; go_simp⟩) hHeld ?_
      simp only [tkS, Act.put]
      refine tkH 4 (.slice (some ⟨gb, ob, none⟩) L.length cap') rfl (Or.inl ⟨by kernel_rfl, by intro w hSw; obtain ⟨s0, s1, s2, s3, s4, s5, s6, s7, s8, s9, s10, s11, s12, s13, s14, s15, s16, s17, s18, s19, s20, s21, s22, s23⟩ := hSw; go_simp⟩) hHeld ?_
      simp only [tkS, Act.put]
      refine tkH 5 (.int .i64 ((k : Int))) rfl (Or.inl ⟨by kernel_rfl, by intro w hSw; obtain ⟨s0, s1, s2, s3, s4, s5, s6, s7, s8, s9, s10, s11, s12, s13, s14, s15, s16, s17, s18, s19, s20, s21, s22, s23⟩ := hSw; go_simp⟩) hHeld ?_
      simp only [tkS, Act.put]
      refine tkH 6 (.pointer (some ⟨gb, ob + k * 12, none⟩)) rfl (Or.inl ⟨by kernel_rfl, by intro w hSw; obtain ⟨s0, s1, s2, s3, s4, s5, s6, s7, s8, s9, s10, s11, s12, s13, s14, s15, s16, s17, s18, s19, s20, s21, s22, s23⟩ := hSw; go_simp⟩) hHeld ?_
      simp only [tkS, Act.put]
      refine tkH 7 (.agg #[.int .i64 (a'), .int .i64 (s'), .int .i64 (t'), db, .int .i64 (k'), .int .i64 (o'), .int .i64 (n'), .int .i64 (u'), .int .i64 (pt'), .int .i64 (pa'), .string ky', .string tx']) rfl (Or.inl ⟨by kernel_rfl, by intro w hSw; obtain ⟨s0, s1, s2, s3, s4, s5, s6, s7, s8, s9, s10, s11, s12, s13, s14, s15, s16, s17, s18, s19, s20, s21, s22, s23⟩ := hSw; go_simp⟩) hHeld ?_
      simp only [tkS, Act.put]
      refine wpAnyH_ready (rs := [8]) (by kernel_rfl) (by simp) ?_
      refine AllReadyH.cons rfl (fun K hK => ?_) AllReadyH.nil
      go_simp
      refine (hE _ hB).mono ?_
      rintro e wn ⟨rfl, hbn⟩
      replace hB := below_seq hB hbn
      clear hbn
      go_wp2_with fail
      refine hK.out _ _ (HF.out _ hB) (fun hHeld => ?_)
      clear hK K
      refine tkH 9 (.bool false) rfl (Or.inl ⟨by kernel_rfl, by intro w hSw; obtain ⟨s0, s1, s2, s3, s4, s5, s6, s7, s8, s9, s10, s11, s12, s13, s14, s15, s16, s17, s18, s19, s20, s21, s22, s23⟩ := hSw; go_simp⟩) hHeld ?_
      simp only [tkS, Act.put]
      refine wpAnyH_done (by kernel_rfl) ?_ _
      go_wp2_with fail
      go_roundw
      case rel => exact ⟨k + 1, by omega, by go_num, hbel.trans (hB.mono hbel.size)⟩
      case measure => simp [intOf]; omega
    · have hki : ¬ (k : Int) < (L.length : Int) := by omega
      go_wp2_with fail
      go_ret
      exact ⟨rfl, hbel⟩

end Go.Proofs.Ytfjekbfejbgneaa
