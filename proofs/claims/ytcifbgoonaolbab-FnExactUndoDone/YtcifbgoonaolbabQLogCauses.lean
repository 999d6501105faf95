/- The specification's l08Causes: it answers as the ledger's hasCauses. -/
import Derived.Test.YtcifbgoonaolbabQLedCausesToLogCounts
import Derived.Test.YtcifbgoonaolbabQOpOKToOpSpecBase
namespace Go.Proofs.Ytcifbgoonaolbab
open Go.RowKit
set_option linter.unusedVariables false

set_option maxHeartbeats 4000000 in
set_option maxRecDepth 100000 in
theorem l08Causes_any (C : Nat) (w : World) (v vv : Value) (L : List Ov) (x : Ov) (hC : C ≤ w.heap.size) (hr : RdO C w v L) (hl : L.length ≤ 1024) (hpos : 0 < L.length) (hvv : Rd C w vv ((cnts L).map (Value.int .i64))) (hxd : Rd C w x.dv (x.ds.map (Value.int .i64))) (hv : vecOK x.ds = true) (hSt : ∀ a, a < 16 → ∃ i, Stand L a i) :
    Calls Try.prog 27 #[v, .agg #[vv], .agg #[.int .i64 x.a, .int .i64 x.s, .int .i64 x.t, x.dv, .int .i64 x.k, .int .i64 x.o, .int .i64 x.n, .int .i64 x.u, .int .i64 x.pt, .int .i64 x.pa, .string x.ky, .string x.tx]] w fun e w' => e = .returned (.bool (causesB L x)) ∧ Below w.heap.size w w' := by
  have HNO : Hid (∀ a, a < 16 → causeOK L x a = false → causesB L x = false) := fun a ha h => by
    rw [causesB, Bool.eq_false_iff]
    intro h'
    rw [List.all_eq_true] at h'
    rw [h' a (List.mem_range.2 ha)] at h
    cases h
  have HYES : Hid ((∀ a, a < 16 → causeOK L x a = true) → causesB L x = true) := fun h => by
    rw [causesB, List.all_eq_true]
    exact fun a ha => h a (List.mem_range.1 ha)
  have l16 := vec_16 hv
  have HD : Hid (∀ a, a < 16 → 0 ≤ x.ds.getD a 0 ∧ x.ds.getD a 0 ≤ 1000000000000) := fun a ha => by
    unfold vecOK at hv
    simp only [Bool.and_eq_true, List.all_eq_true] at hv
    have := hv.2 (x.ds.getD a 0) (by rw [List.getD_eq_getElem?_getD, List.getElem?_eq_getElem (by omega)]; exact List.getElem_mem _)
    unfold cOK at this
    simpa using this
  have HLE : Hid (∀ a, (byA L a).length ≤ 1024) := fun a => Nat.le_trans (List.length_filter_le _ _) hl
  have HFIND : Hid (∀ (a i m : Nat) (w1 : World), Below w.heap.size w w1 → Stand L a i → m < (byA L a).length → Calls Try.prog 52 #[v, .int .i64 (a : Int), .int .i64 ((m + 1 : Nat) : Int)] w1 fun e w' => e = .returned (.int .i64 ((i + m : Nat) : Int)) ∧ w' = w1) := fun a i m w1 h hs hm => l08Find_any C w1 v L a i m (by have := h.size; omega) (hr.below (h.mono hC)) hl hs hm
  obtain ⟨⟨ao, cap, rfl, hcap', hmax', hnil', hrow⟩, _⟩ := hr
  obtain ⟨g, off, rfl, hg, hcs⟩ := hrow hpos
  obtain ⟨ad, cd, hdv, hcap, hmax, hnil, hrr⟩ := hxd
  rw [List.length_map] at hrr hcap hdv
  obtain ⟨gd, od, rfl, hgd0, hc⟩ := hrr (by omega)
  rw [l16] at hdv
  obtain ⟨av, cv, hvv', hcapv, hmaxv, hnilv, hrv⟩ := hvv
  rw [List.length_map, cnts_len] at hrv hcapv hvv'
  obtain ⟨gv, ov, rfl, hgv0, hcv⟩ := hrv (by omega)
  subst hvv'
  have HDC : Hid (∀ a, a < 16 → w.cell? ⟨gd, od + a, none⟩ = some (.int .i64 (x.ds.getD a 0))) := fun a ha => hc a _ (by rw [List.getElem?_map, List.getD_eq_getElem?_getD, List.getElem?_eq_getElem (by omega)]; rfl)
  have HVC : Hid (∀ a, a < 16 → w.cell? ⟨gv, ov + a, none⟩ = some (.int .i64 ((byA L a).length : Int))) := fun a ha => hcv a _ (by rw [List.getElem?_map, cnts_at L ha]; rfl)
  have hgd : gd < w.heap.size := by omega
  have hgv : gv < w.heap.size := by omega
  have hgw : g < w.heap.size := by omega
  obtain ⟨r, HR⟩ : ∃ r, Hid (causesB L x = r) := ⟨_, rfl⟩
  rw [HR.out]
  have HK : Hid (∀ a, causeOK L x a = (decide (x.ds.getD a 0 ≤ ((byA L a).length : Int)) && (decide (x.ds.getD a 0 ≤ 0) || lessS (ovAt (byA L a) (x.ds.getD a 0 - 1).toNat).t (ovAt (byA L a) (x.ds.getD a 0 - 1).toNat).a x.t x.a))) := fun _ => rfl
  obtain ⟨xa, xs, xt, xdv, xk, xo, xn, xu, xpt, xpa, xky, xtx, xds⟩ := x
  simp only at *
  subst hdv
  have hB0 := Below.refl ((w.alloc (.cells #[.slice (some ⟨gv, ov, none⟩) 16 cv] 44)).alloc (.cells #[.int .i64 xa, .int .i64 xs, .int .i64 xt, .slice (some ⟨gd, od, none⟩) 16 cd, .int .i64 xk, .int .i64 xo, .int .i64 xn, .int .i64 xu, .int .i64 xpt, .int .i64 xpa, .string xky, .string xtx] 47)).heap.size ((w.alloc (.cells #[.slice (some ⟨gv, ov, none⟩) 16 cv] 44)).alloc (.cells #[.int .i64 xa, .int .i64 xs, .int .i64 xt, .slice (some ⟨gd, od, none⟩) 16 cd, .int .i64 xk, .int .i64 xo, .int .i64 xn, .int .i64 xu, .int .i64 xpt, .int .i64 xpa, .string xky, .string xtx] 47))
  clear hrr hc hnil hcap hrv hcv hrow hgd0 hgv0 hcapv hnilv hnil' hv l16
  go_enter Try.func27, Try.ntmps27
  go_wp2_with fail
  go_loopw [7] (fun ti wr => ∃ k : Nat, k ≤ 16 ∧ ti = .int .i64 (k : Int) ∧ Below ((w.alloc (.cells #[.slice (some ⟨gv, ov, none⟩) 16 cv] 44)).alloc (.cells #[.int .i64 xa, .int .i64 xs, .int .i64 xt, .slice (some ⟨gd, od, none⟩) 16 cd, .int .i64 xk, .int .i64 xo, .int .i64 xn, .int .i64 xu, .int .i64 xpt, .int .i64 xpa, .string xky, .string xtx] 47)).heap.size ((w.alloc (.cells #[.slice (some ⟨gv, ov, none⟩) 16 cv] 44)).alloc (.cells #[.int .i64 xa, .int .i64 xs, .int .i64 xt, .slice (some ⟨gd, od, none⟩) 16 cd, .int .i64 xk, .int .i64 xo, .int .i64 xn, .int .i64 xu, .int .i64 xpt, .int .i64 xpa, .string xky, .string xtx] 47)) wr ∧ Hid (∀ a, a < k → causeOK L ⟨xa, xs, xt, .slice (some ⟨gd, od, none⟩) 16 cd, xk, xo, xn, xu, xpt, xpa, xky, xtx, xds⟩ a = true)) (fun ti _ => 16 - (intOf ti).toNat)
  case atStart => exact ⟨0, by omega, rfl, hB0, fun a ha => absurd ha (by omega)⟩
  case round =>
    obtain ⟨k, hk, rfl, hB, HA⟩ := hrel
    clear hB0
    by_cases hlt : k < 16
    · have hki : (k : Int) < 16 := by omega
      have hbb := below_seq (below_seq (below_alloc w _) (below_alloc _ _)) hB
      have cd1 : wr.cell? ⟨gd, od + k, none⟩ = some (.int .i64 (xds.getD k 0)) := (hbb.cell (p := ⟨gd, od + k, none⟩) hgd).trans (HDC.out k hlt)
      have cv1 : wr.cell? ⟨gv, ov + k, none⟩ = some (.int .i64 ((byA L k).length : Int)) := (hbb.cell (p := ⟨gv, ov + k, none⟩) hgv).trans (HVC.out k hlt)
      have v0 : wr.cell? ⟨w.heap.size, 0, none⟩ = some (.slice (some ⟨gv, ov, none⟩) 16 cv) := cell_made1 (below_seq (below_alloc _ _) hB)
      obtain ⟨p0, p1, p2, p3, p4, p5, p6, p7, p8, p9, p10, p11⟩ := op_cells hB
      rw [World.size_alloc] at p0 p1 p2 p3 p4 p5 p6 p7 p8 p9 p10 p11
      have hd := HD.out k hlt
      have hm := HLE.out k
      have HKk := HK.out k
      have HNk : Hid (causeOK L ⟨xa, xs, xt, .slice (some ⟨gd, od, none⟩) 16 cd, xk, xo, xn, xu, xpt, xpa, xky, xtx, xds⟩ k = false → r = false) := fun h => HR.out.symm.trans (HNO.out k hlt h)
      have HAk : Hid (causeOK L ⟨xa, xs, xt, .slice (some ⟨gd, od, none⟩) 16 cd, xk, xo, xn, xu, xpt, xpa, xky, xtx, xds⟩ k = true → Hid (∀ a, a < k + 1 → causeOK L ⟨xa, xs, xt, .slice (some ⟨gd, od, none⟩) 16 cd, xk, xo, xn, xu, xpt, xpa, xky, xtx, xds⟩ a = true)) := fun h a ha => by
        by_cases e : a = k
        · subst e; exact h
        · exact HA.out a (by omega)
      generalize causeOK L ⟨xa, xs, xt, .slice (some ⟨gd, od, none⟩) 16 cd, xk, xo, xn, xu, xpt, xpa, xky, xtx, xds⟩ k = ck at HKk HNk HAk
      generalize xds.getD k 0 = d at *
      by_cases h1 : ((byA L k).length : Int) < d
      · have HE : Hid (r = false) := HNk.out (by rw [HKk, decide_eq_false (by omega)]; rfl)
        generalize (byA L k).length = m at *
        clear HKk HNk HAk HA
        go_wp2_with fail
        go_ret
        exact ⟨by rw [HE.out]; rfl, hbb⟩
      · by_cases h2 : d ≤ 0
        · have HE := HAk.out (by rw [HKk, decide_eq_true (by omega : d ≤ ((byA L k).length : Int)), decide_eq_true h2]; rfl)
          generalize (byA L k).length = m at *
          have h2' : ¬ 0 < d := by omega
          clear HKk HNk HAk HA
          have HF : Hid (∀ wx, Below ((w.alloc (.cells #[.slice (some ⟨gv, ov, none⟩) 16 cv] 44)).alloc (.cells #[.int .i64 xa, .int .i64 xs, .int .i64 xt, .slice (some ⟨gd, od, none⟩) 16 cd, .int .i64 xk, .int .i64 xo, .int .i64 xn, .int .i64 xu, .int .i64 xpt, .int .i64 xpa, .string xky, .string xtx] 47)).heap.size ((w.alloc (.cells #[.slice (some ⟨gv, ov, none⟩) 16 cv] 44)).alloc (.cells #[.int .i64 xa, .int .i64 xs, .int .i64 xt, .slice (some ⟨gd, od, none⟩) 16 cd, .int .i64 xk, .int .i64 xo, .int .i64 xn, .int .i64 xu, .int .i64 xpt, .int .i64 xpa, .string xky, .string xtx] 47)) wx → wx.cell? ⟨w.heap.size + 1, 0, none⟩ = some (.int .i64 xa) ∧ wx.cell? ⟨w.heap.size + 1, 1, none⟩ = some (.int .i64 xs) ∧ wx.cell? ⟨w.heap.size + 1, 2, none⟩ = some (.int .i64 xt) ∧ wx.cell? ⟨w.heap.size + 1, 3, none⟩ = some (.slice (some ⟨gd, od, none⟩) 16 cd) ∧ wx.cell? ⟨w.heap.size + 1, 4, none⟩ = some (.int .i64 xk) ∧ wx.cell? ⟨w.heap.size + 1, 5, none⟩ = some (.int .i64 xo) ∧ wx.cell? ⟨w.heap.size + 1, 6, none⟩ = some (.int .i64 xn) ∧ wx.cell? ⟨w.heap.size + 1, 7, none⟩ = some (.int .i64 xu) ∧ wx.cell? ⟨w.heap.size + 1, 8, none⟩ = some (.int .i64 xpt) ∧ wx.cell? ⟨w.heap.size + 1, 9, none⟩ = some (.int .i64 xpa) ∧ wx.cell? ⟨w.heap.size + 1, 10, none⟩ = some (.string xky) ∧ wx.cell? ⟨w.heap.size + 1, 11, none⟩ = some (.string xtx)) := fun wx h => by
            obtain ⟨q0, q1, q2, q3, q4, q5, q6, q7, q8, q9, q10, q11⟩ := op_cells h
            rw [World.size_alloc] at q0 q1 q2 q3 q4 q5 q6 q7 q8 q9 q10 q11
            exact ⟨q0, q1, q2, q3, q4, q5, q6, q7, q8, q9, q10, q11⟩
          go_wp2_with fail
          replace hB := hB.drew
          refine wp_region_held_drew (S := fun w' => w'.cell? ⟨w.heap.size + 1, 0, none⟩ = some (.int .i64 xa) ∧ w'.cell? ⟨w.heap.size + 1, 1, none⟩ = some (.int .i64 xs) ∧ w'.cell? ⟨w.heap.size + 1, 2, none⟩ = some (.int .i64 xt) ∧ w'.cell? ⟨w.heap.size + 1, 3, none⟩ = some (.slice (some ⟨gd, od, none⟩) 16 cd) ∧ w'.cell? ⟨w.heap.size + 1, 4, none⟩ = some (.int .i64 xk) ∧ w'.cell? ⟨w.heap.size + 1, 5, none⟩ = some (.int .i64 xo) ∧ w'.cell? ⟨w.heap.size + 1, 6, none⟩ = some (.int .i64 xn) ∧ w'.cell? ⟨w.heap.size + 1, 7, none⟩ = some (.int .i64 xu) ∧ w'.cell? ⟨w.heap.size + 1, 8, none⟩ = some (.int .i64 xpt) ∧ w'.cell? ⟨w.heap.size + 1, 9, none⟩ = some (.int .i64 xpa) ∧ w'.cell? ⟨w.heap.size + 1, 10, none⟩ = some (.string xky) ∧ w'.cell? ⟨w.heap.size + 1, 11, none⟩ = some (.string xtx)) (by kernel_rfl) (HF.out _ hB) (fun hHeld => ?_)
          refine tkH 0 (.int .i64 d) rfl (Or.inl ⟨by kernel_rfl, by intro w hSw; obtain ⟨s0, s1, s2, s3, s4, s5, s6, s7, s8, s9, s10, s11⟩ := hSw; go_simp⟩) hHeld ?_
          simp only [tkS, Act.put]
          refine tkH 1 (.bool false) rfl (Or.inl ⟨by kernel_rfl, by intro w hSw; obtain ⟨s0, s1, s2, s3, s4, s5, s6, s7, s8, s9, s10, s11⟩ := hSw; go_simp⟩) hHeld ?_
          simp only [tkS, Act.put]
          refine tkH 2 (.bool false) rfl (Or.inl ⟨by kernel_rfl, by intro w hSw; obtain ⟨s0, s1, s2, s3, s4, s5, s6, s7, s8, s9, s10, s11⟩ := hSw; go_simp⟩) hHeld ?_
          simp only [tkS, Act.put]
          refine tkH 3 (undef) rfl (Or.inr ⟨by kernel_rfl, rfl⟩) hHeld ?_
          simp only [tkS, Act.put]
          refine tkH 4 (undef) rfl (Or.inr ⟨by kernel_rfl, rfl⟩) hHeld ?_
          simp only [tkS, Act.put]
          refine tkH 5 (undef) rfl (Or.inr ⟨by kernel_rfl, rfl⟩) hHeld ?_
          simp only [tkS, Act.put]
          refine tkH 6 (undef) rfl (Or.inr ⟨by kernel_rfl, rfl⟩) hHeld ?_
          simp only [tkS, Act.put]
          refine tkH 11 (undef) rfl (Or.inr ⟨by kernel_rfl, rfl⟩) hHeld ?_
          simp only [tkS, Act.put]
          refine wpAnyH_ready (rs := [7]) (by kernel_rfl) (by simp) ?_
          refine AllReadyH.cons rfl (fun K hK => ?_) AllReadyH.nil
          go_simp
          refine hK.out _ _ (HF.out _ hB) (fun hHeld => ?_)
          clear hK K
          refine tkH 8 (undef) rfl (Or.inr ⟨by kernel_rfl, rfl⟩) hHeld ?_
          simp only [tkS, Act.put]
          refine tkH 9 (undef) rfl (Or.inr ⟨by kernel_rfl, rfl⟩) hHeld ?_
          simp only [tkS, Act.put]
          refine wpAnyH_ready (rs := [10]) (by kernel_rfl) (by simp) ?_
          refine AllReadyH.cons rfl (fun K hK => ?_) AllReadyH.nil
          go_simp
          refine hK.out _ _ (HF.out _ hB) (fun hHeld => ?_)
          clear hK K
          refine wpAnyH_ready (rs := [12]) (by kernel_rfl) (by simp) ?_
          refine AllReadyH.cons rfl (fun K hK => ?_) AllReadyH.nil
          go_simp
          refine hK.out _ _ (HF.out _ hB) (fun hHeld => ?_)
          clear hK K
          refine wpAnyH_ready (rs := [13]) (by kernel_rfl) (by simp) ?_
          refine AllReadyH.cons rfl (fun K hK => ?_) AllReadyH.nil
          go_simp
          refine hK.out _ _ (HF.out _ hB) (fun hHeld => ?_)
          clear hK K
          refine tkH 14 (undef) rfl (Or.inr ⟨by kernel_rfl, rfl⟩) hHeld ?_
          simp only [tkS, Act.put]
          refine tkH 15 (.bool false) rfl (Or.inl ⟨by kernel_rfl, by intro w hSw; obtain ⟨s0, s1, s2, s3, s4, s5, s6, s7, s8, s9, s10, s11⟩ := hSw; go_simp⟩) hHeld ?_
          simp only [tkS, Act.put]
          refine wpAnyH_done (by kernel_rfl) ?_ _
          go_wp2_with fail
          go_roundw
          case rel => exact ⟨k + 1, by omega, by go_num, hB, HE⟩
          case measure => simp [intOf]; omega
        · obtain ⟨q, rfl⟩ : ∃ q : Nat, d = ((q + 1 : Nat) : Int) := ⟨(d - 1).toNat, by omega⟩
          have hq : q < (byA L k).length := by omega
          obtain ⟨i, hst⟩ := hSt k hlt
          have hiq := (hst.yes q hq).1
          have hfit := hst.fit
          have hy := hcs (i + q) (by omega)
          obtain ⟨p, hp⟩ : ∃ p, i + q = p := ⟨_, rfl⟩
          have hFD : ∀ w1, Below ((w.alloc (.cells #[.slice (some ⟨gv, ov, none⟩) 16 cv] 44)).alloc (.cells #[.int .i64 xa, .int .i64 xs, .int .i64 xt, .slice (some ⟨gd, od, none⟩) 16 cd, .int .i64 xk, .int .i64 xo, .int .i64 xn, .int .i64 xu, .int .i64 xpt, .int .i64 xpa, .string xky, .string xtx] 47)).heap.size ((w.alloc (.cells #[.slice (some ⟨gv, ov, none⟩) 16 cv] 44)).alloc (.cells #[.int .i64 xa, .int .i64 xs, .int .i64 xt, .slice (some ⟨gd, od, none⟩) 16 cd, .int .i64 xk, .int .i64 xo, .int .i64 xn, .int .i64 xu, .int .i64 xpt, .int .i64 xpa, .string xky, .string xtx] 47)) w1 → Calls Try.prog 52 #[.slice (some ⟨g, off, none⟩) L.length cap, .int .i64 (k : Int), .int .i64 ((q + 1 : Nat) : Int)] w1 fun e w' => e = .returned (.int .i64 (p : Int)) ∧ w' = w1 := fun w1 h => hp ▸ HFIND.out k i q w1 (below_seq (below_seq (below_alloc w _) (below_alloc _ _)) h) hst hq
          rw [hiq] at hy
          rw [show (((q + 1 : Nat) : Int) - 1).toNat = q by omega] at HKk
          generalize ovAt (byA L k) q = y at HKk hy
          obtain ⟨ya, ys, yt, ydv, yk, yo, yn, yu, ypt, ypa, yky, ytx, yds⟩ := y
          simp only at HKk
          have hLs := fun w => specStampLess_any yt ya xt xa w
          have hil : (p : Int) < (L.length : Int) := by omega
          rw [hp] at hy
          generalize (byA L k).length = m at *
          have hqj : ¬ (m : Int) < (q : Int) + 1 := by omega
          clear hst hfit hiq hp
          cases hls : lessS yt ya xt xa with
          | false =>
            have HE : Hid (r = false) := HNk.out (by rw [HKk, hls, decide_eq_false (by omega : ¬ ((q + 1 : Nat) : Int) ≤ 0)]; simp)
            rw [hls] at hLs
            clear HKk HNk HAk HA hls
            have HF : Hid (∀ wx, Below ((w.alloc (.cells #[.slice (some ⟨gv, ov, none⟩) 16 cv] 44)).alloc (.cells #[.int .i64 xa, .int .i64 xs, .int .i64 xt, .slice (some ⟨gd, od, none⟩) 16 cd, .int .i64 xk, .int .i64 xo, .int .i64 xn, .int .i64 xu, .int .i64 xpt, .int .i64 xpa, .string xky, .string xtx] 47)).heap.size ((w.alloc (.cells #[.slice (some ⟨gv, ov, none⟩) 16 cv] 44)).alloc (.cells #[.int .i64 xa, .int .i64 xs, .int .i64 xt, .slice (some ⟨gd, od, none⟩) 16 cd, .int .i64 xk, .int .i64 xo, .int .i64 xn, .int .i64 xu, .int .i64 xpt, .int .i64 xpa, .string xky, .string xtx] 47)) wx → wx.cell? ⟨w.heap.size + 1, 0, none⟩ = some (.int .i64 xa) ∧ wx.cell? ⟨w.heap.size + 1, 1, none⟩ = some (.int .i64 xs) ∧ wx.cell? ⟨w.heap.size + 1, 2, none⟩ = some (.int .i64 xt) ∧ wx.cell? ⟨w.heap.size + 1, 3, none⟩ = some (.slice (some ⟨gd, od, none⟩) 16 cd) ∧ wx.cell? ⟨w.heap.size + 1, 4, none⟩ = some (.int .i64 xk) ∧ wx.cell? ⟨w.heap.size + 1, 5, none⟩ = some (.int .i64 xo) ∧ wx.cell? ⟨w.heap.size + 1, 6, none⟩ = some (.int .i64 xn) ∧ wx.cell? ⟨w.heap.size + 1, 7, none⟩ = some (.int .i64 xu) ∧ wx.cell? ⟨w.heap.size + 1, 8, none⟩ = some (.int .i64 xpt) ∧ wx.cell? ⟨w.heap.size + 1, 9, none⟩ = some (.int .i64 xpa) ∧ wx.cell? ⟨w.heap.size + 1, 10, none⟩ = some (.string xky) ∧ wx.cell? ⟨w.heap.size + 1, 11, none⟩ = some (.string xtx) ∧ wx.cell? ⟨g, off + p * 12, none⟩ = some (.int .i64 ya) ∧ wx.cell? ⟨g, off + p * 12 + 1, none⟩ = some (.int .i64 ys) ∧ wx.cell? ⟨g, off + p * 12 + 2, none⟩ = some (.int .i64 yt) ∧ wx.cell? ⟨g, off + p * 12 + 3, none⟩ = some (ydv) ∧ wx.cell? ⟨g, off + p * 12 + 4, none⟩ = some (.int .i64 yk) ∧ wx.cell? ⟨g, off + p * 12 + 5, none⟩ = some (.int .i64 yo) ∧ wx.cell? ⟨g, off + p * 12 + 6, none⟩ = some (.int .i64 yn) ∧ wx.cell? ⟨g, off + p * 12 + 7, none⟩ = some (.int .i64 yu) ∧ wx.cell? ⟨g, off + p * 12 + 8, none⟩ = some (.int .i64 ypt) ∧ wx.cell? ⟨g, off + p * 12 + 9, none⟩ = some (.int .i64 ypa) ∧ wx.cell? ⟨g, off + p * 12 + 10, none⟩ = some (.string yky) ∧ wx.cell? ⟨g, off + p * 12 + 11, none⟩ = some (.string ytx)) := fun wx h => by
              obtain ⟨q0, q1, q2, q3, q4, q5, q6, q7, q8, q9, q10, q11⟩ := op_cells h
              rw [World.size_alloc] at q0 q1 q2 q3 q4 q5 q6 q7 q8 q9 q10 q11
              have hyx := hy.below (below_seq (below_seq (below_alloc w _) (below_alloc _ _)) h) hgw
              exact ⟨q0, q1, q2, q3, q4, q5, q6, q7, q8, q9, q10, q11, hyx.c0, hyx.c1, hyx.c2, hyx.c3, hyx.c4, hyx.c5, hyx.c6, hyx.c7, hyx.c8, hyx.c9, hyx.c10, hyx.c11⟩
            go_wp2_with fail
            replace hB := hB.drew
            refine wp_region_held_drew (S := fun w' => w'.cell? ⟨w.heap.size + 1, 0, none⟩ = some (.int .i64 xa) ∧ w'.cell? ⟨w.heap.size + 1, 1, none⟩ = some (.int .i64 xs) ∧ w'.cell? ⟨w.heap.size + 1, 2, none⟩ = some (.int .i64 xt) ∧ w'.cell? ⟨w.heap.size + 1, 3, none⟩ = some (.slice (some ⟨gd, od, none⟩) 16 cd) ∧ w'.cell? ⟨w.heap.size + 1, 4, none⟩ = some (.int .i64 xk) ∧ w'.cell? ⟨w.heap.size + 1, 5, none⟩ = some (.int .i64 xo) ∧ w'.cell? ⟨w.heap.size + 1, 6, none⟩ = some (.int .i64 xn) ∧ w'.cell? ⟨w.heap.size + 1, 7, none⟩ = some (.int .i64 xu) ∧ w'.cell? ⟨w.heap.size + 1, 8, none⟩ = some (.int .i64 xpt) ∧ w'.cell? ⟨w.heap.size + 1, 9, none⟩ = some (.int .i64 xpa) ∧ w'.cell? ⟨w.heap.size + 1, 10, none⟩ = some (.string xky) ∧ w'.cell? ⟨w.heap.size + 1, 11, none⟩ = some (.string xtx) ∧ w'.cell? ⟨g, off + p * 12, none⟩ = some (.int .i64 ya) ∧ w'.cell? ⟨g, off + p * 12 + 1, none⟩ = some (.int .i64 ys) ∧ w'.cell? ⟨g, off + p * 12 + 2, none⟩ = some (.int .i64 yt) ∧ w'.cell? ⟨g, off + p * 12 + 3, none⟩ = some (ydv) ∧ w'.cell? ⟨g, off + p * 12 + 4, none⟩ = some (.int .i64 yk) ∧ w'.cell? ⟨g, off + p * 12 + 5, none⟩ = some (.int .i64 yo) ∧ w'.cell? ⟨g, off + p * 12 + 6, none⟩ = some (.int .i64 yn) ∧ w'.cell? ⟨g, off + p * 12 + 7, none⟩ = some (.int .i64 yu) ∧ w'.cell? ⟨g, off + p * 12 + 8, none⟩ = some (.int .i64 ypt) ∧ w'.cell? ⟨g, off + p * 12 + 9, none⟩ = some (.int .i64 ypa) ∧ w'.cell? ⟨g, off + p * 12 + 10, none⟩ = some (.string yky) ∧ w'.cell? ⟨g, off + p * 12 + 11, none⟩ = some (.string ytx)) (by kernel_rfl) (HF.out _ hB) (fun hHeld => ?_)
            refine tkH 0 (.int .i64 (((q + 1 : Nat) : Int))) rfl (Or.inl ⟨by kernel_rfl, by intro w hSw; obtain ⟨s0, s1, s2, s3, s4, s5, s6, s7, s8, s9, s10, s11, s12, s13, s14, s15, s16, s17, s18, s19, s20, s21, s22, s23⟩ := hSw; go_simp⟩) hHeld ?_
            simp only [tkS, Act.put]
            refine tkH 1 (.bool true) rfl (Or.inl ⟨by kernel_rfl, by intro w hSw; obtain ⟨s0, s1, s2, s3, s4, s5, s6, s7, s8, s9, s10, s11, s12, s13, s14, s15, s16, s17, s18, s19, s20, s21, s22, s23⟩ := hSw; go_simp⟩) hHeld ?_
            simp only [tkS, Act.put]
            refine tkH 2 (.bool true) rfl (Or.inl ⟨by kernel_rfl, by intro w hSw; obtain ⟨s0, s1, s2, s3, s4, s5, s6, s7, s8, s9, s10, s11, s12, s13, s14, s15, s16, s17, s18, s19, s20, s21, s22, s23⟩ := hSw; go_simp⟩) hHeld ?_
            simp only [tkS, Act.put]
            refine tkH 3 (.slice (some ⟨g, off, none⟩) L.length cap) rfl (Or.inl ⟨by kernel_rfl, by intro w hSw; obtain ⟨s0, s1, s2, s3, s4, s5, s6, s7, s8, s9, s10, s11, s12, s13, s14, s15, s16, s17, s18, s19, s20, s21, s22, s23⟩ := hSw; go_simp⟩) hHeld ?_
            simp only [tkS, Act.put]
            refine tkH 4 (.slice (some ⟨g, off, none⟩) L.length cap) rfl (Or.inl ⟨by kernel_rfl, by intro w hSw; obtain ⟨s0, s1, s2, s3, s4, s5, s6, s7, s8, s9, s10, s11, s12, s13, s14, s15, s16, s17, s18, s19, s20, s21, s22, s23⟩ := hSw; go_simp⟩) hHeld ?_
            simp only [tkS, Act.put]
            refine tkH 5 (.int .i64 ((k : Int))) rfl (Or.inl ⟨by kernel_rfl, by intro w hSw; obtain ⟨s0, s1, s2, s3, s4, s5, s6, s7, s8, s9, s10, s11, s12, s13, s14, s15, s16, s17, s18, s19, s20, s21, s22, s23⟩ := hSw; go_simp⟩) hHeld ?_
            simp only [tkS, Act.put]
            refine tkH 6 (.int .i64 (((q + 1 : Nat) : Int))) rfl (Or.inl ⟨by kernel_rfl, by intro w hSw; obtain ⟨s0, s1, s2, s3, s4, s5, s6, s7, s8, s9, s10, s11, s12, s13, s14, s15, s16, s17, s18, s19, s20, s21, s22, s23⟩ := hSw; go_simp⟩) hHeld ?_
            simp only [tkS, Act.put]
            refine tkH 11 (.agg #[.int .i64 xa, .int .i64 xs, .int .i64 xt, .slice (some ⟨gd, od, none⟩) 16 cd, .int .i64 xk, .int .i64 xo, .int .i64 xn, .int .i64 xu, .int .i64 xpt, .int .i64 xpa, .string xky, .string xtx]) rfl (Or.inl ⟨by kernel_rfl, by intro w hSw; obtain ⟨s0, s1, s2, s3, s4, s5, s6, s7, s8, s9, s10, s11, s12, s13, s14, s15, s16, s17, s18, s19, s20, s21, s22, s23⟩ := hSw; go_simp⟩) hHeld ?_
            simp only [tkS, Act.put]
            refine wpAnyH_ready (rs := [7]) (by kernel_rfl) (by simp) ?_
            refine AllReadyH.cons rfl (fun K hK => ?_) AllReadyH.nil
            go_simp
            refine (hFD _ hB).mono ?_
            rintro e wn ⟨rfl, hw⟩
            obtain rfl := hw.symm
            clear hw
            go_wp2_with fail
            refine hK.out _ _ (HF.out _ hB) (fun hHeld => ?_)
            clear hK K
            refine tkH 8 (.pointer (some ⟨g, off + p * 12, none⟩)) rfl (Or.inl ⟨by kernel_rfl, by intro w hSw; obtain ⟨s0, s1, s2, s3, s4, s5, s6, s7, s8, s9, s10, s11, s12, s13, s14, s15, s16, s17, s18, s19, s20, s21, s22, s23⟩ := hSw; go_simp⟩) hHeld ?_
            simp only [tkS, Act.put]
            refine tkH 9 (.agg #[.int .i64 ya, .int .i64 ys, .int .i64 yt, ydv, .int .i64 yk, .int .i64 yo, .int .i64 yn, .int .i64 yu, .int .i64 ypt, .int .i64 ypa, .string yky, .string ytx]) rfl (Or.inl ⟨by kernel_rfl, by intro w hSw; obtain ⟨s0, s1, s2, s3, s4, s5, s6, s7, s8, s9, s10, s11, s12, s13, s14, s15, s16, s17, s18, s19, s20, s21, s22, s23⟩ := hSw; go_simp⟩) hHeld ?_
            simp only [tkS, Act.put]
            refine wpAnyH_ready (rs := [10]) (by kernel_rfl) (by simp) ?_
            refine AllReadyH.cons rfl (fun K hK => ?_) AllReadyH.nil
            go_simp
            refine (l08Stamp_any _ _ _ _ _ _ _ _ _ _ _ _ _).mono ?_
            rintro e wn ⟨rfl, hbn⟩
            replace hB := below_seq hB hbn
            clear hbn
            go_wp2_with fail
            refine hK.out _ _ (HF.out _ hB) (fun hHeld => ?_)
            clear hK K
            refine wpAnyH_ready (rs := [12]) (by kernel_rfl) (by simp) ?_
            refine AllReadyH.cons rfl (fun K hK => ?_) AllReadyH.nil
            go_simp
            refine (l08Stamp_any _ _ _ _ _ _ _ _ _ _ _ _ _).mono ?_
            rintro e wn ⟨rfl, hbn⟩
            replace hB := below_seq hB hbn
            clear hbn
            go_wp2_with fail
            refine hK.out _ _ (HF.out _ hB) (fun hHeld => ?_)
            clear hK K
            refine wpAnyH_ready (rs := [13]) (by kernel_rfl) (by simp) ?_
            refine AllReadyH.cons rfl (fun K hK => ?_) AllReadyH.nil
            go_simp
            refine (hLs _).mono ?_
            rintro e wn ⟨rfl, hbn⟩
            replace hB := below_seq hB hbn
            clear hbn
            go_wp2_with fail
            refine hK.out _ _ (HF.out _ hB) (fun hHeld => ?_)
            clear hK K
            refine tkH 14 (.bool true) rfl (Or.inl ⟨by kernel_rfl, by intro w hSw; obtain ⟨s0, s1, s2, s3, s4, s5, s6, s7, s8, s9, s10, s11, s12, s13, s14, s15, s16, s17, s18, s19, s20, s21, s22, s23⟩ := hSw; go_simp⟩) hHeld ?_
            simp only [tkS, Act.put]
            refine tkH 15 (.bool true) rfl (Or.inl ⟨by kernel_rfl, by intro w hSw; obtain ⟨s0, s1, s2, s3, s4, s5, s6, s7, s8, s9, s10, s11, s12, s13, s14, s15, s16, s17, s18, s19, s20, s21, s22, s23⟩ := hSw; go_simp⟩) hHeld ?_
            simp only [tkS, Act.put]
            refine wpAnyH_done (by kernel_rfl) ?_ _
            go_wp2_with fail
            go_ret
            exact ⟨by rw [HE.out]; rfl, below_seq (below_seq (below_alloc _ _) (below_alloc _ _)) hB⟩
          | true =>
            have HE := HAk.out (by rw [HKk, hls, decide_eq_true (by omega : ((q + 1 : Nat) : Int) ≤ (m : Int))]; simp)
            rw [hls] at hLs
            clear HKk HNk HAk HA hls
            have HF : Hid (∀ wx, Below ((w.alloc (.cells #[.slice (some ⟨gv, ov, none⟩) 16 cv] 44)).alloc (.cells #[.int .i64 xa, .int .i64 xs, .int .i64 xt, .slice (some ⟨gd, od, none⟩) 16 cd, .int .i64 xk, .int .i64 xo, .int .i64 xn, .int .i64 xu, .int .i64 xpt, .int .i64 xpa, .string xky, .string xtx] 47)).heap.size ((w.alloc (.cells #[.slice (some ⟨gv, ov, none⟩) 16 cv] 44)).alloc (.cells #[.int .i64 xa, .int .i64 xs, .int .i64 xt, .slice (some ⟨gd, od, none⟩) 16 cd, .int .i64 xk, .int .i64 xo, .int .i64 xn, .int .i64 xu, .int .i64 xpt, .int .i64 xpa, .string xky, .string xtx] 47)) wx → wx.cell? ⟨w.heap.size + 1, 0, none⟩ = some (.int .i64 xa) ∧ wx.cell? ⟨w.heap.size + 1, 1, none⟩ = some (.int .i64 xs) ∧ wx.cell? ⟨w.heap.size + 1, 2, none⟩ = some (.int .i64 xt) ∧ wx.cell? ⟨w.heap.size + 1, 3, none⟩ = some (.slice (some ⟨gd, od, none⟩) 16 cd) ∧ wx.cell? ⟨w.heap.size + 1, 4, none⟩ = some (.int .i64 xk) ∧ wx.cell? ⟨w.heap.size + 1, 5, none⟩ = some (.int .i64 xo) ∧ wx.cell? ⟨w.heap.size + 1, 6, none⟩ = some (.int .i64 xn) ∧ wx.cell? ⟨w.heap.size + 1, 7, none⟩ = some (.int .i64 xu) ∧ wx.cell? ⟨w.heap.size + 1, 8, none⟩ = some (.int .i64 xpt) ∧ wx.cell? ⟨w.heap.size + 1, 9, none⟩ = some (.int .i64 xpa) ∧ wx.cell? ⟨w.heap.size + 1, 10, none⟩ = some (.string xky) ∧ wx.cell? ⟨w.heap.size + 1, 11, none⟩ = some (.string xtx) ∧ wx.cell? ⟨g, off + p * 12, none⟩ = some (.int .i64 ya) ∧ wx.cell? ⟨g, off + p * 12 + 1, none⟩ = some (.int .i64 ys) ∧ wx.cell? ⟨g, off + p * 12 + 2, none⟩ = some (.int .i64 yt) ∧ wx.cell? ⟨g, off + p * 12 + 3, none⟩ = some (ydv) ∧ wx.cell? ⟨g, off + p * 12 + 4, none⟩ = some (.int .i64 yk) ∧ wx.cell? ⟨g, off + p * 12 + 5, none⟩ = some (.int .i64 yo) ∧ wx.cell? ⟨g, off + p * 12 + 6, none⟩ = some (.int .i64 yn) ∧ wx.cell? ⟨g, off + p * 12 + 7, none⟩ = some (.int .i64 yu) ∧ wx.cell? ⟨g, off + p * 12 + 8, none⟩ = some (.int .i64 ypt) ∧ wx.cell? ⟨g, off + p * 12 + 9, none⟩ = some (.int .i64 ypa) ∧ wx.cell? ⟨g, off + p * 12 + 10, none⟩ = some (.string yky) ∧ wx.cell? ⟨g, off + p * 12 + 11, none⟩ = some (.string ytx)) := fun wx h => by
              obtain ⟨q0, q1, q2, q3, q4, q5, q6, q7, q8, q9, q10, q11⟩ := op_cells h
              rw [World.size_alloc] at q0 q1 q2 q3 q4 q5 q6 q7 q8 q9 q10 q11
              have hyx := hy.below (below_seq (below_seq (below_alloc w _) (below_alloc _ _)) h) hgw
              exact ⟨q0, q1, q2, q3, q4, q5, q6, q7, q8, q9, q10, q11, hyx.c0, hyx.c1, hyx.c2, hyx.c3, hyx.c4, hyx.c5, hyx.c6, hyx.c7, hyx.c8, hyx.c9, hyx.c10, hyx.c11⟩
            go_wp2_with fail
            replace hB := hB.drew
            refine wp_region_held_drew (S := fun w' => w'.cell? ⟨w.heap.size + 1, 0, none⟩ = some (.int .i64 xa) ∧ w'.cell? ⟨w.heap.size + 1, 1, none⟩ = some (.int .i64 xs) ∧ w'.cell? ⟨w.heap.size + 1, 2, none⟩ = some (.int .i64 xt) ∧ w'.cell? ⟨w.heap.size + 1, 3, none⟩ = some (.slice (some ⟨gd, od, none⟩) 16 cd) ∧ w'.cell? ⟨w.heap.size + 1, 4, none⟩ = some (.int .i64 xk) ∧ w'.cell? ⟨w.heap.size + 1, 5, none⟩ = some (.int .i64 xo) ∧ w'.cell? ⟨w.heap.size + 1, 6, none⟩ = some (.int .i64 xn) ∧ w'.cell? ⟨w.heap.size + 1, 7, none⟩ = some (.int .i64 xu) ∧ w'.cell? ⟨w.heap.size + 1, 8, none⟩ = some (.int .i64 xpt) ∧ w'.cell? ⟨w.heap.size + 1, 9, none⟩ = some (.int .i64 xpa) ∧ w'.cell? ⟨w.heap.size + 1, 10, none⟩ = some (.string xky) ∧ w'.cell? ⟨w.heap.size + 1, 11, none⟩ = some (.string xtx) ∧ w'.cell? ⟨g, off + p * 12, none⟩ = some (.int .i64 ya) ∧ w'.cell? ⟨g, off + p * 12 + 1, none⟩ = some (.int .i64 ys) ∧ w'.cell? ⟨g, off + p * 12 + 2, none⟩ = some (.int .i64 yt) ∧ w'.cell? ⟨g, off + p * 12 + 3, none⟩ = some (ydv) ∧ w'.cell? ⟨g, off + p * 12 + 4, none⟩ = some (.int .i64 yk) ∧ w'.cell? ⟨g, off + p * 12 + 5, none⟩ = some (.int .i64 yo) ∧ w'.cell? ⟨g, off + p * 12 + 6, none⟩ = some (.int .i64 yn) ∧ w'.cell? ⟨g, off + p * 12 + 7, none⟩ = some (.int .i64 yu) ∧ w'.cell? ⟨g, off + p * 12 + 8, none⟩ = some (.int .i64 ypt) ∧ w'.cell? ⟨g, off + p * 12 + 9, none⟩ = some (.int .i64 ypa) ∧ w'.cell? ⟨g, off + p * 12 + 10, none⟩ = some (.string yky) ∧ w'.cell? ⟨g, off + p * 12 + 11, none⟩ = some (.string ytx)) (by kernel_rfl) (HF.out _ hB) (fun hHeld => ?_)
            refine tkH 0 (.int .i64 (((q + 1 : Nat) : Int))) rfl (Or.inl ⟨by kernel_rfl, by intro w hSw; obtain ⟨s0, s1, s2, s3, s4, s5, s6, s7, s8, s9, s10, s11, s12, s13, s14, s15, s16, s17, s18, s19, s20, s21, s22, s23⟩ := hSw; go_simp⟩) hHeld ?_
            simp only [tkS, Act.put]
            refine tkH 1 (.bool true) rfl (Or.inl ⟨by kernel_rfl, by intro w hSw; obtain ⟨s0, s1, s2, s3, s4, s5, s6, s7, s8, s9, s10, s11, s12, s13, s14, s15, s16, s17, s18, s19, s20, s21, s22, s23⟩ := hSw; go_simp⟩) hHeld ?_
            simp only [tkS, Act.put]
            refine tkH 2 (.bool true) rfl (Or.inl ⟨by kernel_rfl, by intro w hSw; obtain ⟨s0, s1, s2, s3, s4, s5, s6, s7, s8, s9, s10, s11, s12, s13, s14, s15, s16, s17, s18, s19, s20, s21, s22, s23⟩ := hSw; go_simp⟩) hHeld ?_
            simp only [tkS, Act.put]
            refine tkH 3 (.slice (some ⟨g, off, none⟩) L.length cap) rfl (Or.inl ⟨by kernel_rfl, by intro w hSw; obtain ⟨s0, s1, s2, s3, s4, s5, s6, s7, s8, s9, s10, s11, s12, s13, s14, s15, s16, s17, s18, s19, s20, s21, s22, s23⟩ := hSw; go_simp⟩) hHeld ?_
            simp only [tkS, Act.put]
            refine tkH 4 (.slice (some ⟨g, off, none⟩) L.length cap) rfl (Or.inl ⟨by kernel_rfl, by intro w hSw; obtain ⟨s0, s1, s2, s3, s4, s5, s6, s7, s8, s9, s10, s11, s12, s13, s14, s15, s16, s17, s18, s19, s20, s21, s22, s23⟩ := hSw; go_simp⟩) hHeld ?_
            simp only [tkS, Act.put]
            refine tkH 5 (.int .i64 ((k : Int))) rfl (Or.inl ⟨by kernel_rfl, by intro w hSw; obtain ⟨s0, s1, s2, s3, s4, s5, s6, s7, s8, s9, s10, s11, s12, s13, s14, s15, s16, s17, s18, s19, s20, s21, s22, s23⟩ := hSw; go_simp⟩) hHeld ?_
            simp only [tkS, Act.put]
            refine tkH 6 (.int .i64 (((q + 1 : Nat) : Int))) rfl (Or.inl ⟨by kernel_rfl, by intro w hSw; obtain ⟨s0, s1, s2, s3, s4, s5, s6, s7, s8, s9, s10, s11, s12, s13, s14, s15, s16, s17, s18, s19, s20, s21, s22, s23⟩ := hSw; go_simp⟩) hHeld ?_
            simp only [tkS, Act.put]
            refine tkH 11 (.agg #[.int .i64 xa, .int .i64 xs, .int .i64 xt, .slice (some ⟨gd, od, none⟩) 16 cd, .int .i64 xk, .int .i64 xo, .int .i64 xn, .int .i64 xu, .int .i64 xpt, .int .i64 xpa, .string xky, .string xtx]) rfl (Or.inl ⟨by kernel_rfl, by intro w hSw; obtain ⟨s0, s1, s2, s3, s4, s5, s6, s7, s8, s9, s10, s11, s12, s13, s14, s15, s16, s17, s18, s19, s20, s21, s22, s23⟩ := hSw; go_simp⟩) hHeld ?_
            simp only [tkS, Act.put]
            refine wpAnyH_ready (rs := [7]) (by kernel_rfl) (by simp) ?_
            refine AllReadyH.cons rfl (fun K hK => ?_) AllReadyH.nil
            go_simp
            refine (hFD _ hB).mono ?_
            rintro e wn ⟨rfl, hw⟩
            obtain rfl := hw.symm
            clear hw
            go_wp2_with fail
            refine hK.out _ _ (HF.out _ hB) (fun hHeld => ?_)
            clear hK K
            refine tkH 8 (.pointer (some ⟨g, off + p * 12, none⟩)) rfl (Or.inl ⟨by kernel_rfl, by intro w hSw; obtain ⟨s0, s1, s2, s3, s4, s5, s6, s7, s8, s9, s10, s11, s12, s13, s14, s15, s16, s17, s18, s19, s20, s21, s22, s23⟩ := hSw; go_simp⟩) hHeld ?_
            simp only [tkS, Act.put]
            refine tkH 9 (.agg #[.int .i64 ya, .int .i64 ys, .int .i64 yt, ydv, .int .i64 yk, .int .i64 yo, .int .i64 yn, .int .i64 yu, .int .i64 ypt, .int .i64 ypa, .string yky, .string ytx]) rfl (Or.inl ⟨by kernel_rfl, by intro w hSw; obtain ⟨s0, s1, s2, s3, s4, s5, s6, s7, s8, s9, s10, s11, s12, s13, s14, s15, s16, s17, s18, s19, s20, s21, s22, s23⟩ := hSw; go_simp⟩) hHeld ?_
            simp only [tkS, Act.put]
            refine wpAnyH_ready (rs := [10]) (by kernel_rfl) (by simp) ?_
            refine AllReadyH.cons rfl (fun K hK => ?_) AllReadyH.nil
            go_simp
            refine (l08Stamp_any _ _ _ _ _ _ _ _ _ _ _ _ _).mono ?_
            rintro e wn ⟨rfl, hbn⟩
            replace hB := below_seq hB hbn
            clear hbn
            go_wp2_with fail
            refine hK.out _ _ (HF.out _ hB) (fun hHeld => ?_)
            clear hK K
            refine wpAnyH_ready (rs := [12]) (by kernel_rfl) (by simp) ?_
            refine AllReadyH.cons rfl (fun K hK => ?_) AllReadyH.nil
            go_simp
            refine (l08Stamp_any _ _ _ _ _ _ _ _ _ _ _ _ _).mono ?_
            rintro e wn ⟨rfl, hbn⟩
            replace hB := below_seq hB hbn
            clear hbn
            go_wp2_with fail
            refine hK.out _ _ (HF.out _ hB) (fun hHeld => ?_)
            clear hK K
            refine wpAnyH_ready (rs := [13]) (by kernel_rfl) (by simp) ?_
            refine AllReadyH.cons rfl (fun K hK => ?_) AllReadyH.nil
            go_simp
            refine (hLs _).mono ?_
            rintro e wn ⟨rfl, hbn⟩
            replace hB := below_seq hB hbn
            clear hbn
            go_wp2_with fail
            refine hK.out _ _ (HF.out _ hB) (fun hHeld => ?_)
            clear hK K
            refine tkH 14 (.bool false) rfl (Or.inl ⟨by kernel_rfl, by intro w hSw; obtain ⟨s0, s1, s2, s3, s4, s5, s6, s7, s8, s9, s10, s11, s12, s13, s14, s15, s16, s17, s18, s19, s20, s21, s22, s23⟩ := hSw; go_simp⟩) hHeld ?_
            simp only [tkS, Act.put]
            refine tkH 15 (.bool false) rfl (Or.inl ⟨by kernel_rfl, by intro w hSw; obtain ⟨s0, s1, s2, s3, s4, s5, s6, s7, s8, s9, s10, s11, s12, s13, s14, s15, s16, s17, s18, s19, s20, s21, s22, s23⟩ := hSw; go_simp⟩) hHeld ?_
            simp only [tkS, Act.put]
            refine wpAnyH_done (by kernel_rfl) ?_ _
            go_wp2_with fail
            go_roundw
            case rel => exact ⟨k + 1, by omega, by go_num, hB, HE⟩
            case measure => simp [intOf]; omega
    · have hki : ¬ (k : Int) < 16 := by omega
      have HE : Hid (r = true) := HR.out.symm.trans (HYES.out fun a ha => HA.out a (by omega))
      go_wp2_with fail
      go_ret
      exact ⟨by rw [HE.out]; rfl, below_seq (below_seq (below_alloc _ _) (below_alloc _ _)) hB⟩
end Go.Proofs.Ytcifbgoonaolbab
