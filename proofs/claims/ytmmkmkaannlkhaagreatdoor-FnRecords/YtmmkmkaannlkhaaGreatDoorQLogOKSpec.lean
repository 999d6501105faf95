/- The specification's LogOK answers as the code's; what it draws is walked once. -/
import Derived.BigQuiet
import Derived.Deep.Cut
import Derived.Test.YtmmkmkaannlkhaaGreatDoorQLedClosedToUndoMath
import Derived.Test.YtmmkmkaannlkhaaGreatDoorQOpSpec
namespace Go.Proofs.YtmmkmkaannlkhaaGreatDoor
open Go.RowKit
set_option linter.unusedVariables false

set_option maxHeartbeats 16000000 in
set_option maxRecDepth 100000 in
theorem specLogOK_any (C : Nat) (w : World) (v : Value) (L : List Ov) (hC : C ≤ w.heap.size) (hr : RdO C w v L) :
    Calls Tryz.prog 67 #[v] w fun e w' => e = .returned (.bool (logI L)) ∧ Below w.heap.size w w' := by
  have hr0 := hr
  obtain ⟨⟨ao, cap, rfl, hcap, hmax, hnil, hrow⟩, hdv⟩ := hr
  unfold maxLen at hmax
  by_cases hlen : L.length ≤ 1024
  case neg =>
    rw [logI_long hlen]
    have hlen' : (1024 : Int) < (L.length : Int) := by omega
    go_enter Tryz.func67, Tryz.ntmps67
    go_wp2_with fail
    go_ret
    exact ⟨rfl, Below.refl _ _⟩
  have hlen' : ¬ (1024 : Int) < (L.length : Int) := by omega
  obtain ⟨r, HR⟩ : ∃ r, Hid (logI L = r) := ⟨_, rfl⟩
  rw [HR.out]
  go_enter Tryz.func67, Tryz.ntmps67
  go_wp2_with fail
  go_loopw [3] (fun ti wr => ∃ (i : Nat), i ≤ L.length ∧ ti = .int .i64 (i : Int) ∧ Below w.heap.size w wr ∧ Hid (∀ q, q < i → stepN L q = true)) (fun ti _ => L.length - (intOf ti).toNat)
  case atStart => exact ⟨0, Nat.zero_le _, rfl, Below.refl _ _, fun q hq => absurd hq (by omega)⟩
  case round =>
    obtain ⟨i, hi, rfl, hBw, HG⟩ := hrel
    by_cases hlt : i < L.length
    · have hki : (i : Int) < (L.length : Int) := by omega
      have hk2 : (i : Int) + 1 < 9223372036854775808 := by omega
      have hsz := hBw.size
      obtain ⟨g, off, rfl, hg, hcs⟩ := hrow (by omega)
      have hx := (hcs i hlt).below (hBw.mono hC) hg
      have hxd := (hdv _ (ovAt_mem hlt)).below (hBw.mono hC)
      have hgw : g < wr.heap.size := by omega
      have hOK := specOpOK_any C (ovAt L i).a (ovAt L i).s (ovAt L i).t (ovAt L i).k (ovAt L i).o (ovAt L i).n (ovAt L i).u (ovAt L i).pt (ovAt L i).pa (ovAt L i).dv (ovAt L i).ky (ovAt L i).tx (ovAt L i).ds wr (by omega) hxd
      change Calls _ _ _ _ (fun e w' => e = .returned (.bool (ovAt L i).ok) ∧ Below wr.heap.size wr w') at hOK
      have a0 := hx.c0
      have a1 := hx.c1
      have HJ : Hid (∀ j, i = j + 1 → wr.cell? ⟨g, off + j * 12, none⟩ = some (.int .i64 (ovAt L j).a) ∧ wr.cell? ⟨g, off + j * 12 + 1, none⟩ = some (.int .i64 (ovAt L j).s) ∧ IntKind.i64.wrap ((ovAt L j).s + 1) = (ovAt L j).s + 1) := fun j hj => by
        have hjl : j < L.length := by omega
        have hy := (hcs j hjl).below (hBw.mono hC) hg
        have h1 := (stepN_parts (HG.out j (by omega))).1
        unfold Ov.ok opB comesOK at h1
        simp only [Bool.and_eq_true, decide_eq_true_eq] at h1
        exact ⟨hy.c0, hy.c1, by rw [IntKind.wrap_i64]; omega⟩
      clear hcs hxd
      cases hst : stepN L i with
      | false =>
        have HE : Hid (r = false) := HR.out.symm.trans (logI_stepN hlt hst)
        rcases bad_at hlt HG.out hst with hok | ⟨hok, hcase⟩
        · rw [hok] at hOK
          clear hok hst HG HJ a0 a1
          obtain ⟨c0, c1, c2, c3, c4, c5, c6, c7, c8, c9, c10, c11⟩ := hx
          generalize ovAt L i = x at *
          obtain ⟨xa, xs, xt, xdv, xk, xo, xn, xu, xpt, xpa, xky, xtx, xds⟩ := x
          simp only at c0 c1 c2 c3 c4 c5 c6 c7 c8 c9 c10 c11 hOK
          go_wp2_with ((go_at_call 12; refine hOK.mono ?_; clear c0 c1 c2 c3 c4 c5 c6 c7 c8 c9 c10 c11; rintro e w1 ⟨rfl, hb⟩))
          go_ret
          exact ⟨by rw [HE.out]; rfl, below_seq hBw hb⟩
        · rw [hok] at hOK
          rcases hcase with ⟨h0, hs⟩ | ⟨j, hij, hcase⟩
          · have hs : ¬ (ovAt L i).s = 1 := hs
            subst h0
            have hL0 : 0 < L.length := hlt
            have HSB : Hid (((ovAt L 0).s != 1) = true) := by unfold Hid; simpa using hs
            clear hs
            clear HJ hst HG
            obtain ⟨c0, c1, c2, c3, c4, c5, c6, c7, c8, c9, c10, c11⟩ := hx
            generalize ovAt L 0 = x at *
            obtain ⟨xa, xs, xt, xdv, xk, xo, xn, xu, xpt, xpa, xky, xtx, xds⟩ := x
            simp only at c0 c1 c2 c3 c4 c5 c6 c7 c8 c9 c10 c11 hOK a0 a1 HSB
            simp only [Nat.zero_mul, Nat.add_zero] at c0 c1 c2 c3 c4 c5 c6 c7 c8 c9 c10 c11 a0 a1
            clear hok
            go_upto_region 8 with ((go_at_call 12; refine hOK.mono ?_; clear c0 c1 c2 c3 c4 c5 c6 c7 c8 c9 c10 c11; rintro e w1 ⟨rfl, hb⟩))
            have d0 := (hb.cell (p := ⟨g, off, none⟩) hgw).trans a0
            have d1 := (hb.cell (p := ⟨g, off + 1, none⟩) hgw).trans a1
            have hB1 := below_seq hBw hb
            clear a0 a1 hb hOK hBw hgw hsz hg hC hi hlt hk2
            have hsb := HSB.out
            refine wp_region_quiet_lit (by kernel_rfl) (by kernel_rfl) ?_
            iterate 3 (quiet_step (fail))
            iterate 12 (with_reducible refine quiet_pass (by kernel_rfl) ?_)
            simp only [tkS, Act.put]
            iterate 2 (quiet_step (fail))
            refine wpQuiet_nil ?_
            rintro _ ⟨n8, rfl⟩
            go_upto_region 9 with fail
            refine wp_region_quiet_lit (by kernel_rfl) (by kernel_rfl) ?_
            iterate 9 (quiet_step (fail))
            iterate 16 (with_reducible refine quiet_pass (by kernel_rfl) ?_)
            simp only [tkS, Act.put]
            iterate 3 (quiet_step (fail))
            iterate 17 (with_reducible refine quiet_pass (by kernel_rfl) ?_)
            simp only [tkS, Act.put]
            quiet_step (fail)
            refine wpQuiet_nil ?_
            rintro _ ⟨n9, rfl⟩
            have hB2 : Below w.heap.size w (w1.drewN (n8 + n9)) := below_drewN hB1 _
            clear d0 d1 hsb
            go_wp2_with fail
            go_ret
            exact ⟨by rw [HE.out]; rfl, below_drewN (below_drewN hB1 n8) n9⟩
          · rcases hcase with ⟨hxy, hs⟩ | ⟨hxy, hs⟩ | ⟨hxy, hs⟩ | ⟨hxy, hs⟩
            · skip
              obtain ⟨b0, b1, hw7⟩ := HJ.out j hij
              have hj0 : ((i : Int) == 0) = false := by simp; omega
              have hj1 : decide ((0 : Int) < (i : Int)) = true := by simp; omega
              have hj3 : (i : Int) - 1 = (j : Int) := by omega
              have hw6 : IntKind.i64.wrap (j : Int) = (j : Int) := by rw [IntKind.wrap_i64]; omega
              have hjl : (j : Int) < (L.length : Int) := by omega
              have HJ2 : Hid (0 < i) := by unfold Hid; omega
              have HJ0 : Hid _ := hj0
              have HJ1 : Hid _ := hj1
              have HJ3 : Hid _ := hj3
              have HW6 : Hid _ := hw6
              have HJL : Hid _ := hjl
              clear hij hj0 hj1 hj3 hw6 hjl
              have HXY : Hid (((ovAt L i).a != (ovAt L j).a) = false) := by unfold Hid; simpa using hxy
              have HSB : Hid (((ovAt L i).s != (ovAt L j).s + 1) = true) := by unfold Hid; simpa using hs
              clear hs hxy
              clear HJ hst HG
              obtain ⟨c0, c1, c2, c3, c4, c5, c6, c7, c8, c9, c10, c11⟩ := hx
              generalize ovAt L j = y at *
              obtain ⟨ya, ys, yt, ydv, yk, yo, yn, yu, ypt, ypa, yky, ytx, yds⟩ := y
              generalize ovAt L i = x at *
              obtain ⟨xa, xs, xt, xdv, xk, xo, xn, xu, xpt, xpa, xky, xtx, xds⟩ := x
              simp only at c0 c1 c2 c3 c4 c5 c6 c7 c8 c9 c10 c11 hOK a0 a1 HSB b0 b1 hw7 HXY
              clear hok
              go_upto_region 8 with ((go_at_call 12; refine hOK.mono ?_; clear c0 c1 c2 c3 c4 c5 c6 c7 c8 c9 c10 c11; rintro e w1 ⟨rfl, hb⟩))
              have d0 := (hb.cell (p := ⟨g, off + i * 12, none⟩) hgw).trans a0
              have d1 := (hb.cell (p := ⟨g, off + i * 12 + 1, none⟩) hgw).trans a1
              have e0 := (hb.cell (p := ⟨g, off + j * 12, none⟩) hgw).trans b0
              have e1 := (hb.cell (p := ⟨g, off + j * 12 + 1, none⟩) hgw).trans b1
              have hB1 := below_seq hBw hb
              clear a0 a1 hb hOK hBw hgw hsz hg hC hi hlt hk2 b0 b1
              have hj0 := HJ0.out
              have hj3 := HJ3.out
              have hw6 := HW6.out
              have hjl := HJL.out
              have hxy := HXY.out
              refine wp_region_quiet_lit (by kernel_rfl) (by kernel_rfl) ?_
              iterate 17 (quiet_step (fail))
              refine wpQuiet_nil ?_
              rintro _ ⟨n8, rfl⟩
              go_upto_region 9 with fail
              clear hxy hj0
              have hj1 := HJ2.out
              have hsb := HSB.out
              refine wp_region_quiet_lit (by kernel_rfl) (by kernel_rfl) ?_
              iterate 2 (quiet_step (fail))
              iterate 24 (with_reducible refine quiet_pass (by kernel_rfl) ?_)
              simp only [tkS, Act.put]
              iterate 20 (quiet_step (fail))
              refine wpQuiet_nil ?_
              rintro _ ⟨n9, rfl⟩
              have hB2 : Below w.heap.size w (w1.drewN (n8 + n9)) := below_drewN hB1 _
              clear d0 d1 hsb e0 e1 hj1 hj3 hw6 hjl hw7
              go_wp2_with fail
              go_ret
              exact ⟨by rw [HE.out]; rfl, below_drewN (below_drewN hB1 n8) n9⟩
            · skip
              obtain ⟨b0, b1, hw7⟩ := HJ.out j hij
              have hj0 : ((i : Int) == 0) = false := by simp; omega
              have hj1 : decide ((0 : Int) < (i : Int)) = true := by simp; omega
              have hj3 : (i : Int) - 1 = (j : Int) := by omega
              have hw6 : IntKind.i64.wrap (j : Int) = (j : Int) := by rw [IntKind.wrap_i64]; omega
              have hjl : (j : Int) < (L.length : Int) := by omega
              have HJ2 : Hid (0 < i) := by unfold Hid; omega
              have HJ0 : Hid _ := hj0
              have HJ1 : Hid _ := hj1
              have HJ3 : Hid _ := hj3
              have HW6 : Hid _ := hw6
              have HJL : Hid _ := hjl
              clear hij hj0 hj1 hj3 hw6 hjl
              have HXY : Hid (((ovAt L i).a != (ovAt L j).a) = true) := by unfold Hid; simp; omega
              have HSB : Hid (((ovAt L i).s != 1) = false) := by unfold Hid; simpa using hs
              have HLT : Hid (decide ((ovAt L i).a < (ovAt L j).a) = true) := by unfold Hid; simp; omega
              clear hs hxy
              clear HJ hst HG
              obtain ⟨c0, c1, c2, c3, c4, c5, c6, c7, c8, c9, c10, c11⟩ := hx
              generalize ovAt L j = y at *
              obtain ⟨ya, ys, yt, ydv, yk, yo, yn, yu, ypt, ypa, yky, ytx, yds⟩ := y
              generalize ovAt L i = x at *
              obtain ⟨xa, xs, xt, xdv, xk, xo, xn, xu, xpt, xpa, xky, xtx, xds⟩ := x
              simp only at c0 c1 c2 c3 c4 c5 c6 c7 c8 c9 c10 c11 hOK a0 a1 HSB b0 b1 hw7 HXY HLT
              clear hok
              go_upto_region 8 with ((go_at_call 12; refine hOK.mono ?_; clear c0 c1 c2 c3 c4 c5 c6 c7 c8 c9 c10 c11; rintro e w1 ⟨rfl, hb⟩))
              have d0 := (hb.cell (p := ⟨g, off + i * 12, none⟩) hgw).trans a0
              have d1 := (hb.cell (p := ⟨g, off + i * 12 + 1, none⟩) hgw).trans a1
              have e0 := (hb.cell (p := ⟨g, off + j * 12, none⟩) hgw).trans b0
              have e1 := (hb.cell (p := ⟨g, off + j * 12 + 1, none⟩) hgw).trans b1
              have hB1 := below_seq hBw hb
              clear a0 a1 hb hOK hBw hgw hsz hg hC hi hlt hk2 b0 b1
              have hj0 := HJ0.out
              have hj3 := HJ3.out
              have hw6 := HW6.out
              have hjl := HJL.out
              have hxy := HXY.out
              refine wp_region_quiet_lit (by kernel_rfl) (by kernel_rfl) ?_
              iterate 17 (quiet_step (fail))
              refine wpQuiet_nil ?_
              rintro _ ⟨n8, rfl⟩
              go_upto_region 9 with fail
              clear hxy hj0
              have hj1 := HJ2.out
              have hsb := HSB.out
              have hlt9 := HLT.out
              refine wp_region_quiet_lit (by kernel_rfl) (by kernel_rfl) ?_
              iterate 28 (quiet_step (fail))
              iterate 17 (with_reducible refine quiet_pass (by kernel_rfl) ?_)
              simp only [tkS, Act.put]
              quiet_step (fail)
              refine wpQuiet_nil ?_
              rintro _ ⟨n9, rfl⟩
              have hB2 : Below w.heap.size w (w1.drewN (n8 + n9)) := below_drewN hB1 _
              clear d0 d1 hsb e0 e1 hj1 hj3 hw6 hjl hw7 hlt9
              go_wp2_with fail
              go_ret
              exact ⟨by rw [HE.out]; rfl, below_drewN (below_drewN hB1 n8) n9⟩
            · skip
              obtain ⟨b0, b1, hw7⟩ := HJ.out j hij
              have hj0 : ((i : Int) == 0) = false := by simp; omega
              have hj1 : decide ((0 : Int) < (i : Int)) = true := by simp; omega
              have hj3 : (i : Int) - 1 = (j : Int) := by omega
              have hw6 : IntKind.i64.wrap (j : Int) = (j : Int) := by rw [IntKind.wrap_i64]; omega
              have hjl : (j : Int) < (L.length : Int) := by omega
              have HJ2 : Hid (0 < i) := by unfold Hid; omega
              have HJ0 : Hid _ := hj0
              have HJ1 : Hid _ := hj1
              have HJ3 : Hid _ := hj3
              have HW6 : Hid _ := hw6
              have HJL : Hid _ := hjl
              clear hij hj0 hj1 hj3 hw6 hjl
              have HXY : Hid (((ovAt L i).a != (ovAt L j).a) = true) := by unfold Hid; simp; omega
              have HSB : Hid (((ovAt L i).s != 1) = true) := by unfold Hid; simpa using hs
              clear hs hxy
              clear HJ hst HG
              obtain ⟨c0, c1, c2, c3, c4, c5, c6, c7, c8, c9, c10, c11⟩ := hx
              generalize ovAt L j = y at *
              obtain ⟨ya, ys, yt, ydv, yk, yo, yn, yu, ypt, ypa, yky, ytx, yds⟩ := y
              generalize ovAt L i = x at *
              obtain ⟨xa, xs, xt, xdv, xk, xo, xn, xu, xpt, xpa, xky, xtx, xds⟩ := x
              simp only at c0 c1 c2 c3 c4 c5 c6 c7 c8 c9 c10 c11 hOK a0 a1 HSB b0 b1 hw7 HXY
              clear hok
              go_upto_region 8 with ((go_at_call 12; refine hOK.mono ?_; clear c0 c1 c2 c3 c4 c5 c6 c7 c8 c9 c10 c11; rintro e w1 ⟨rfl, hb⟩))
              have d0 := (hb.cell (p := ⟨g, off + i * 12, none⟩) hgw).trans a0
              have d1 := (hb.cell (p := ⟨g, off + i * 12 + 1, none⟩) hgw).trans a1
              have e0 := (hb.cell (p := ⟨g, off + j * 12, none⟩) hgw).trans b0
              have e1 := (hb.cell (p := ⟨g, off + j * 12 + 1, none⟩) hgw).trans b1
              have hB1 := below_seq hBw hb
              clear a0 a1 hb hOK hBw hgw hsz hg hC hi hlt hk2 b0 b1
              have hj0 := HJ0.out
              have hj3 := HJ3.out
              have hw6 := HW6.out
              have hjl := HJL.out
              have hxy := HXY.out
              refine wp_region_quiet_lit (by kernel_rfl) (by kernel_rfl) ?_
              iterate 17 (quiet_step (fail))
              refine wpQuiet_nil ?_
              rintro _ ⟨n8, rfl⟩
              go_upto_region 9 with fail
              clear hxy hj0
              have hj1 := HJ2.out
              have hsb := HSB.out
              refine wp_region_quiet_lit (by kernel_rfl) (by kernel_rfl) ?_
              iterate 9 (quiet_step (fail))
              iterate 16 (with_reducible refine quiet_pass (by kernel_rfl) ?_)
              simp only [tkS, Act.put]
              iterate 3 (quiet_step (fail))
              iterate 17 (with_reducible refine quiet_pass (by kernel_rfl) ?_)
              simp only [tkS, Act.put]
              quiet_step (fail)
              refine wpQuiet_nil ?_
              rintro _ ⟨n9, rfl⟩
              have hB2 : Below w.heap.size w (w1.drewN (n8 + n9)) := below_drewN hB1 _
              clear d0 d1 hsb e0 e1 hj1 hj3 hw6 hjl hw7
              go_wp2_with fail
              go_ret
              exact ⟨by rw [HE.out]; rfl, below_drewN (below_drewN hB1 n8) n9⟩
            · skip
              obtain ⟨b0, b1, hw7⟩ := HJ.out j hij
              have hj0 : ((i : Int) == 0) = false := by simp; omega
              have hj1 : decide ((0 : Int) < (i : Int)) = true := by simp; omega
              have hj3 : (i : Int) - 1 = (j : Int) := by omega
              have hw6 : IntKind.i64.wrap (j : Int) = (j : Int) := by rw [IntKind.wrap_i64]; omega
              have hjl : (j : Int) < (L.length : Int) := by omega
              have HJ2 : Hid (0 < i) := by unfold Hid; omega
              have HJ0 : Hid _ := hj0
              have HJ1 : Hid _ := hj1
              have HJ3 : Hid _ := hj3
              have HW6 : Hid _ := hw6
              have HJL : Hid _ := hjl
              clear hij hj0 hj1 hj3 hw6 hjl
              have HXY : Hid (((ovAt L i).a != (ovAt L j).a) = true) := by unfold Hid; simp; omega
              have HSB : Hid (((ovAt L i).s != 1) = true) := by unfold Hid; simpa using hs
              clear hs hxy
              clear HJ hst HG
              obtain ⟨c0, c1, c2, c3, c4, c5, c6, c7, c8, c9, c10, c11⟩ := hx
              generalize ovAt L j = y at *
              obtain ⟨ya, ys, yt, ydv, yk, yo, yn, yu, ypt, ypa, yky, ytx, yds⟩ := y
              generalize ovAt L i = x at *
              obtain ⟨xa, xs, xt, xdv, xk, xo, xn, xu, xpt, xpa, xky, xtx, xds⟩ := x
              simp only at c0 c1 c2 c3 c4 c5 c6 c7 c8 c9 c10 c11 hOK a0 a1 HSB b0 b1 hw7 HXY
              clear hok
              go_upto_region 8 with ((go_at_call 12; refine hOK.mono ?_; clear c0 c1 c2 c3 c4 c5 c6 c7 c8 c9 c10 c11; rintro e w1 ⟨rfl, hb⟩))
              have d0 := (hb.cell (p := ⟨g, off + i * 12, none⟩) hgw).trans a0
              have d1 := (hb.cell (p := ⟨g, off + i * 12 + 1, none⟩) hgw).trans a1
              have e0 := (hb.cell (p := ⟨g, off + j * 12, none⟩) hgw).trans b0
              have e1 := (hb.cell (p := ⟨g, off + j * 12 + 1, none⟩) hgw).trans b1
              have hB1 := below_seq hBw hb
              clear a0 a1 hb hOK hBw hgw hsz hg hC hi hlt hk2 b0 b1
              have hj0 := HJ0.out
              have hj3 := HJ3.out
              have hw6 := HW6.out
              have hjl := HJL.out
              have hxy := HXY.out
              refine wp_region_quiet_lit (by kernel_rfl) (by kernel_rfl) ?_
              iterate 17 (quiet_step (fail))
              refine wpQuiet_nil ?_
              rintro _ ⟨n8, rfl⟩
              go_upto_region 9 with fail
              clear hxy hj0
              have hj1 := HJ2.out
              have hsb := HSB.out
              refine wp_region_quiet_lit (by kernel_rfl) (by kernel_rfl) ?_
              iterate 9 (quiet_step (fail))
              iterate 16 (with_reducible refine quiet_pass (by kernel_rfl) ?_)
              simp only [tkS, Act.put]
              iterate 3 (quiet_step (fail))
              iterate 17 (with_reducible refine quiet_pass (by kernel_rfl) ?_)
              simp only [tkS, Act.put]
              quiet_step (fail)
              refine wpQuiet_nil ?_
              rintro _ ⟨n9, rfl⟩
              have hB2 : Below w.heap.size w (w1.drewN (n8 + n9)) := below_drewN hB1 _
              clear d0 d1 hsb e0 e1 hj1 hj3 hw6 hjl hw7
              go_wp2_with fail
              go_ret
              exact ⟨by rw [HE.out]; rfl, below_drewN (below_drewN hB1 n8) n9⟩
      | true =>
        have HG2 : Hid (∀ q, q < i + 1 → stepN L q = true) := fun q hq => by
          by_cases e : q = i
          · rw [e]; exact hst
          · exact HG.out q (by omega)
        have HI2 : Hid (i + 1 ≤ L.length) := hlt
        obtain ⟨hok, hcase⟩ := good_at hlt HG2.out
        rw [hok] at hOK
        rcases hcase with ⟨h0, hs⟩ | ⟨j, hij, hcase⟩
        · skip
          subst h0
          have hL0 : 0 < L.length := hlt
          have HSB : Hid (((ovAt L 0).s != 1) = false) := by unfold Hid; simpa using hs
          clear hs
          clear HJ hst HG
          obtain ⟨c0, c1, c2, c3, c4, c5, c6, c7, c8, c9, c10, c11⟩ := hx
          generalize ovAt L 0 = x at *
          obtain ⟨xa, xs, xt, xdv, xk, xo, xn, xu, xpt, xpa, xky, xtx, xds⟩ := x
          simp only at c0 c1 c2 c3 c4 c5 c6 c7 c8 c9 c10 c11 hOK a0 a1 HSB
          simp only [Nat.zero_mul, Nat.add_zero] at c0 c1 c2 c3 c4 c5 c6 c7 c8 c9 c10 c11 a0 a1
          clear hok
          go_upto_region 8 with ((go_at_call 12; refine hOK.mono ?_; clear c0 c1 c2 c3 c4 c5 c6 c7 c8 c9 c10 c11; rintro e w1 ⟨rfl, hb⟩))
          have d0 := (hb.cell (p := ⟨g, off, none⟩) hgw).trans a0
          have d1 := (hb.cell (p := ⟨g, off + 1, none⟩) hgw).trans a1
          have hB1 := below_seq hBw hb
          clear a0 a1 hb hOK hBw hgw hsz hg hC hi hlt hk2
          have hsb := HSB.out
          refine wp_region_quiet_lit (by kernel_rfl) (by kernel_rfl) ?_
          iterate 3 (quiet_step (fail))
          iterate 12 (with_reducible refine quiet_pass (by kernel_rfl) ?_)
          simp only [tkS, Act.put]
          iterate 2 (quiet_step (fail))
          refine wpQuiet_nil ?_
          rintro _ ⟨n8, rfl⟩
          go_upto_region 9 with fail
          refine wp_region_quiet_lit (by kernel_rfl) (by kernel_rfl) ?_
          iterate 12 (quiet_step (fail))
          iterate 12 (with_reducible refine quiet_pass (by kernel_rfl) ?_)
          simp only [tkS, Act.put]
          iterate 7 (quiet_step (fail))
          iterate 13 (with_reducible refine quiet_pass (by kernel_rfl) ?_)
          simp only [tkS, Act.put]
          iterate 2 (quiet_step (fail))
          refine wpQuiet_nil ?_
          rintro _ ⟨n9, rfl⟩
          have hB2 : Below w.heap.size w (w1.drewN (n8 + n9)) := below_drewN hB1 _
          clear d0 d1 hsb
          go_wp2_with fail
          go_roundw
          case rel => exact ⟨_, HI2.out, by go_num, hB2, HG2⟩
          case measure => simp [intOf]; have := HI2.out; omega
        · rcases hcase with ⟨hxy, hs⟩ | ⟨hxy, hs⟩
          · skip
            obtain ⟨b0, b1, hw7⟩ := HJ.out j hij
            have hj0 : ((i : Int) == 0) = false := by simp; omega
            have hj1 : decide ((0 : Int) < (i : Int)) = true := by simp; omega
            have hj3 : (i : Int) - 1 = (j : Int) := by omega
            have hw6 : IntKind.i64.wrap (j : Int) = (j : Int) := by rw [IntKind.wrap_i64]; omega
            have hjl : (j : Int) < (L.length : Int) := by omega
            have HJ2 : Hid (0 < i) := by unfold Hid; omega
            have HJ0 : Hid _ := hj0
            have HJ1 : Hid _ := hj1
            have HJ3 : Hid _ := hj3
            have HW6 : Hid _ := hw6
            have HJL : Hid _ := hjl
            clear hij hj0 hj1 hj3 hw6 hjl
            have HXY : Hid (((ovAt L i).a != (ovAt L j).a) = false) := by unfold Hid; simpa using hxy
            have HSB : Hid (((ovAt L i).s != (ovAt L j).s + 1) = false) := by unfold Hid; simpa using hs
            clear hs hxy
            clear HJ hst HG
            obtain ⟨c0, c1, c2, c3, c4, c5, c6, c7, c8, c9, c10, c11⟩ := hx
            generalize ovAt L j = y at *
            obtain ⟨ya, ys, yt, ydv, yk, yo, yn, yu, ypt, ypa, yky, ytx, yds⟩ := y
            generalize ovAt L i = x at *
            obtain ⟨xa, xs, xt, xdv, xk, xo, xn, xu, xpt, xpa, xky, xtx, xds⟩ := x
            simp only at c0 c1 c2 c3 c4 c5 c6 c7 c8 c9 c10 c11 hOK a0 a1 HSB b0 b1 hw7 HXY
            clear hok
            go_upto_region 8 with ((go_at_call 12; refine hOK.mono ?_; clear c0 c1 c2 c3 c4 c5 c6 c7 c8 c9 c10 c11; rintro e w1 ⟨rfl, hb⟩))
            have d0 := (hb.cell (p := ⟨g, off + i * 12, none⟩) hgw).trans a0
            have d1 := (hb.cell (p := ⟨g, off + i * 12 + 1, none⟩) hgw).trans a1
            have e0 := (hb.cell (p := ⟨g, off + j * 12, none⟩) hgw).trans b0
            have e1 := (hb.cell (p := ⟨g, off + j * 12 + 1, none⟩) hgw).trans b1
            have hB1 := below_seq hBw hb
            clear a0 a1 hb hOK hBw hgw hsz hg hC hi hlt hk2 b0 b1
            have hj0 := HJ0.out
            have hj3 := HJ3.out
            have hw6 := HW6.out
            have hjl := HJL.out
            have hxy := HXY.out
            refine wp_region_quiet_lit (by kernel_rfl) (by kernel_rfl) ?_
            iterate 17 (quiet_step (fail))
            refine wpQuiet_nil ?_
            rintro _ ⟨n8, rfl⟩
            go_upto_region 9 with fail
            clear hxy hj0
            have hj1 := HJ2.out
            have hsb := HSB.out
            refine wp_region_quiet_lit (by kernel_rfl) (by kernel_rfl) ?_
            iterate 2 (quiet_step (fail))
            iterate 24 (with_reducible refine quiet_pass (by kernel_rfl) ?_)
            simp only [tkS, Act.put]
            iterate 20 (quiet_step (fail))
            refine wpQuiet_nil ?_
            rintro _ ⟨n9, rfl⟩
            have hB2 : Below w.heap.size w (w1.drewN (n8 + n9)) := below_drewN hB1 _
            clear d0 d1 hsb e0 e1 hj1 hj3 hw6 hjl hw7
            go_wp2_with fail
            go_roundw
            case rel => exact ⟨_, HI2.out, by go_num, hB2, HG2⟩
            case measure => simp [intOf]; have := HI2.out; omega
          · skip
            obtain ⟨b0, b1, hw7⟩ := HJ.out j hij
            have hj0 : ((i : Int) == 0) = false := by simp; omega
            have hj1 : decide ((0 : Int) < (i : Int)) = true := by simp; omega
            have hj3 : (i : Int) - 1 = (j : Int) := by omega
            have hw6 : IntKind.i64.wrap (j : Int) = (j : Int) := by rw [IntKind.wrap_i64]; omega
            have hjl : (j : Int) < (L.length : Int) := by omega
            have HJ2 : Hid (0 < i) := by unfold Hid; omega
            have HJ0 : Hid _ := hj0
            have HJ1 : Hid _ := hj1
            have HJ3 : Hid _ := hj3
            have HW6 : Hid _ := hw6
            have HJL : Hid _ := hjl
            clear hij hj0 hj1 hj3 hw6 hjl
            have HXY : Hid (((ovAt L i).a != (ovAt L j).a) = true) := by unfold Hid; simp; omega
            have HSB : Hid (((ovAt L i).s != 1) = false) := by unfold Hid; simpa using hs
            have HLT : Hid (decide ((ovAt L i).a < (ovAt L j).a) = false) := by unfold Hid; simp; omega
            clear hs hxy
            clear HJ hst HG
            obtain ⟨c0, c1, c2, c3, c4, c5, c6, c7, c8, c9, c10, c11⟩ := hx
            generalize ovAt L j = y at *
            obtain ⟨ya, ys, yt, ydv, yk, yo, yn, yu, ypt, ypa, yky, ytx, yds⟩ := y
            generalize ovAt L i = x at *
            obtain ⟨xa, xs, xt, xdv, xk, xo, xn, xu, xpt, xpa, xky, xtx, xds⟩ := x
            simp only at c0 c1 c2 c3 c4 c5 c6 c7 c8 c9 c10 c11 hOK a0 a1 HSB b0 b1 hw7 HXY HLT
            clear hok
            go_upto_region 8 with ((go_at_call 12; refine hOK.mono ?_; clear c0 c1 c2 c3 c4 c5 c6 c7 c8 c9 c10 c11; rintro e w1 ⟨rfl, hb⟩))
            have d0 := (hb.cell (p := ⟨g, off + i * 12, none⟩) hgw).trans a0
            have d1 := (hb.cell (p := ⟨g, off + i * 12 + 1, none⟩) hgw).trans a1
            have e0 := (hb.cell (p := ⟨g, off + j * 12, none⟩) hgw).trans b0
            have e1 := (hb.cell (p := ⟨g, off + j * 12 + 1, none⟩) hgw).trans b1
            have hB1 := below_seq hBw hb
            clear a0 a1 hb hOK hBw hgw hsz hg hC hi hlt hk2 b0 b1
            have hj0 := HJ0.out
            have hj3 := HJ3.out
            have hw6 := HW6.out
            have hjl := HJL.out
            have hxy := HXY.out
            refine wp_region_quiet_lit (by kernel_rfl) (by kernel_rfl) ?_
            iterate 17 (quiet_step (fail))
            refine wpQuiet_nil ?_
            rintro _ ⟨n8, rfl⟩
            go_upto_region 9 with fail
            clear hxy hj0
            have hj1 := HJ2.out
            have hsb := HSB.out
            have hlt9 := HLT.out
            refine wp_region_quiet_lit (by kernel_rfl) (by kernel_rfl) ?_
            iterate 31 (quiet_step (fail))
            iterate 13 (with_reducible refine quiet_pass (by kernel_rfl) ?_)
            simp only [tkS, Act.put]
            iterate 2 (quiet_step (fail))
            refine wpQuiet_nil ?_
            rintro _ ⟨n9, rfl⟩
            have hB2 : Below w.heap.size w (w1.drewN (n8 + n9)) := below_drewN hB1 _
            clear d0 d1 hsb e0 e1 hj1 hj3 hw6 hjl hw7 hlt9
            go_wp2_with fail
            go_roundw
            case rel => exact ⟨_, HI2.out, by go_num, hB2, HG2⟩
            case measure => simp [intOf]; have := HI2.out; omega
    · obtain rfl : i = L.length := by omega
      have HGD : Hid (∀ q, q < L.length → stepN L q = true) := HG
      clear HG
      have hki : ¬ (L.length : Int) < (L.length : Int) := by omega
      have HOK : Hid (∀ x ∈ L, x.ok = true) := stepN_mem HGD.out
      have hcn := l08Counts_any C wr (.slice ao L.length cap) L (by have := hBw.size; omega) (hr0.below (hBw.mono hC)) hlen (fun x hx => (ok_parts (HOK.out x hx)).1)
      obtain ⟨i0, hi0, hz0, hz1, hz2⟩ := info_parts info3
      go_wp2_with (first | (go_at_call 70; refine hcn.mono ?_; rintro e w1 ⟨gc, rfl, hoc, hb1⟩) | (at_make; refine wpList_make_full _ rfl _ _ 23 rfl (w1.heap.size + 1) 3 i0 (.int .i64 0) 1 Tryz.underlying23 hi0 hz0 hz1 _ _ _ _ 101 rfl rfl rfl rfl (by rw [hz2]; omega) (by unfold maxLen; omega) (by simp) ?_))
      intro w3 hown hgrow
      have hB1 : Below w.heap.size w w1 := hBw.trans (hb1.mono hBw.size)
      have hb3 : Below w1.heap.size w1 w3 := (below_alloc w1 _).grown hgrow (by simp) (fun k hk => by cases hk)
      have hvb : w3.heap[w1.heap.size]? = some (.cells #[.slice (some ⟨gc, 0, none⟩) 16 16] 25 (0, 0)) := (hgrow.block w1.heap.size (by simp) (by simp)).trans (heap_alloc_new w1 _)
      have ho3 := own_of hown
      rw [toList_madeCells_one] at ho3
      have HI0 : Hid (Own 3 w3 (w1.heap.size + 1) (.slice (some ⟨w1.heap.size + 1, 0, none⟩) 101 101) ((thR (L.take 0)).map (Value.int .i64)) ∧ w3.heap[w1.heap.size]? = some (.cells #[.slice (some ⟨gc, 0, none⟩) 16 16] 25 (0, 0)) ∧ Below w1.heap.size w1 w3) :=
        ⟨by rw [List.take_zero, thR_nil, List.map_replicate]; exact ho3, hvb, hb3⟩
      have hrc : Rd w1.heap.size w1 (.slice (some ⟨gc, 0, none⟩) 16 16) ((cnts L).map (Value.int .i64)) := hoc.rd
      have hs1 := hB1.size
      have hw3s : w1.heap.size + 1 < w3.heap.size := (World.ownsRow.lt hown _ rfl).2
      clear hown hgrow ho3 hvb hb3 hcn hoc hb1 hz0 hz1 hz2 hi0
      go_wp2_with fail
      go_loopw [7] (fun ti wr => ∃ (k : Nat), k ≤ L.length ∧ ti = .int .i64 (k : Int) ∧ Hid (Own 3 wr (w1.heap.size + 1) (.slice (some ⟨w1.heap.size + 1, 0, none⟩) 101 101) ((thR (L.take k)).map (Value.int .i64)) ∧ wr.heap[w1.heap.size]? = some (.cells #[.slice (some ⟨gc, 0, none⟩) 16 16] 25 (0, 0)) ∧ Below w1.heap.size w1 wr) ∧ Hid (∀ q, q < k → causesB L (ovAt L q) = true ∧ suitB (L.take q) (ovAt L q) = true)) (fun ti _ => L.length - (intOf ti).toNat)
      case atStart => exact ⟨0, Nat.zero_le _, rfl, HI0, fun q hq => absurd hq (by omega)⟩
      case round =>
        clear HI0 hBw hw3s
        obtain ⟨k, hk, rfl, HI, HCS⟩ := hrel
        by_cases hlt2 : k < L.length
        · have hki2 : (k : Int) < (L.length : Int) := by omega
          have hk3 : (k : Int) + 1 < 9223372036854775808 := by omega
          obtain ⟨ho, hvb, hbel⟩ := HI.out
          have hc5 := blk_cell hvb 0 rfl
          obtain ⟨g, off, rfl, hg, hcs⟩ := hrow (by omega)
          have hBall : Below w.heap.size w wr := hB1.trans (hbel.mono hs1)
          have hsw := hbel.size
          have hvl : w1.heap.size < wr.heap.size := (Array.getElem?_eq_some_iff.1 hvb).1
          have hx := (hcs k hlt2).below (hBall.mono hC) hg
          have hok := HOK.out _ (ovAt_mem hlt2)
          obtain ⟨-, ⟨ho0, ho1⟩, hvd⟩ := ok_parts hok
          have hkd := ok_kind hok
          obtain ⟨j, hj⟩ := Int.eq_ofNat_of_zero_le (a := (ovAt L k).o) (by omega)
          have hj101 : j < 101 := by omega
          have hj101' : (j : Int) < 101 := by omega
          have HSU : Hid (suitB (L.take k) (ovAt L k) = decide (smT ((tsOf (L.take k)).getD j 0) = 0 ∨ smT ((tsOf (L.take k)).getD j 0) = spT (ovAt L k).k)) := suit_sp (fun y hy => ok_kind (HOK.out y (List.mem_of_mem_take hy))) hkd hj101 hj
          have HTH : Hid (thR (L.take (k + 1)) = (thR (L.take k)).set j (spT (ovAt L k).k)) := by
            unfold Hid
            rw [take_snoc hlt2, thR_snoc _ _ hkd, hj, Int.toNat_natCast]
          have HNC : Hid (causesB L (ovAt L k) = false → r = false) := fun h => HR.out.symm.trans (logI_cause hlt2 h)
          have HNS : Hid (suitB (L.take k) (ovAt L k) = false → r = false) := fun h => HR.out.symm.trans (logI_suit hlt2 h)
          have HYS : Hid (causesB L (ovAt L k) = true → suitB (L.take k) (ovAt L k) = true → Hid (∀ q, q < k + 1 → causesB L (ovAt L q) = true ∧ suitB (L.take q) (ovAt L q) = true)) := fun h h' q hq => by
            by_cases e : q = k
            · subst e; exact ⟨h, h'⟩
            · exact HCS.out q (by omega)
          have hCA : ∀ w9, Below wr.heap.size wr w9 → Calls Tryz.prog 71 #[.slice (some ⟨g, off, none⟩) L.length cap, .agg #[.slice (some ⟨gc, 0, none⟩) 16 16], .agg (ovAt L k).cs.toArray] w9 fun e w' => e = .returned (.bool (causesB L (ovAt L k))) ∧ Below w9.heap.size w9 w' := fun w9 hb => by
            have hbw9 : Below w1.heap.size w1 w9 := hbel.trans (hb.mono hbel.size)
            exact l08Causes_all w1.heap.size w9 _ _ L (ovAt L k) hbw9.size ((hr0.below ((hB1.trans (hbw9.mono hs1)).mono hC)).mono (by omega)) hlen (hrc.below hbw9) (((hdv _ (ovAt_mem hlt2)).below ((hB1.trans (hbw9.mono hs1)).mono hC)).mono (by omega)) hvd (fun a _ => stand_of HGD.out a)
          have c4 := hx.c4
          have c5 := hx.c5
          rw [hj] at c5
          have hXR := opAt_range hx
          have HZC : Hid (∀ w9, Below wr.heap.size wr w9 → Own 3 w9 (w1.heap.size + 1) (.slice (some ⟨w1.heap.size + 1, 0, none⟩) 101 101) ((thR (L.take k)).map (Value.int .i64))) := fun w9 hb => ho.below hb (Nat.le_refl _)
          have HZ1 : Hid ((thR (L.take k))[j]? = some (smT ((tsOf (L.take k)).getD j 0))) := thR_at _ hj101
          have HZV : Hid (smT ((tsOf (L.take k)).getD j 0) = 0 ∨ smT ((tsOf (L.take k)).getD j 0) = 1 ∨ smT ((tsOf (L.take k)).getD j 0) = 2 ∨ smT ((tsOf (L.take k)).getD j 0) = 3) := smT_val (tsOf_get (fun y hy => ok_kind (HOK.out y (List.mem_of_mem_take hy))) hj101)
          have HSV : Hid (spT (ovAt L k).k = 1 ∨ spT (ovAt L k).k = 2 ∨ spT (ovAt L k).k = 3) := spT_val hkd
          generalize smT ((tsOf (L.take k)).getD j 0) = z at HSU HZ1 HZV
          generalize causesB L (ovAt L k) = cb at HNC HYS hCA
          generalize suitB (L.take k) (ovAt L k) = sb at HSU HNS HYS
          have hgw : g < wr.heap.size := by omega
          have HLX : Hid (∀ p : KeptBy wr, p.W.rangeAt g (off + k * 12) (ovAt L k).cs) := fun p q u hq => (p.kept.cell (p := ⟨g, _, none⟩) hgw).trans (hXR q u hq)
          have HLV : Hid (∀ p : KeptBy wr, p.W.rangeAt w1.heap.size 0 [.slice (some ⟨gc, 0, none⟩) 16 16]) := fun p q u hq => by
            match q, hq with
            | 0, hq => cases hq; exact (p.kept.cell (p := ⟨w1.heap.size, 0, none⟩) hvl).trans hc5
          have HIV : Hid ((Tryz.prog.info? 25).map (·.size) = some 1) := by unfold Hid; kernel_rfl
          have HIX : Hid ((Tryz.prog.info? 29).map (·.size) = some (ovAt L k).cs.length) := infoOpB _
          have HCA : Hid (∀ p : KeptBy wr, _) := fun p => kept_of (hCA p.W p.kept)
          have HQ : Hid (∀ p : KeptBy wr, p.W.cell? ⟨g, off + k * 12 + 4, none⟩ = some (.int .i64 (ovAt L k).k) ∧ p.W.cell? ⟨g, off + k * 12 + 5, none⟩ = some (.int .i64 (j : Int))) := fun p => ⟨(p.kept.cell (p := ⟨g, off + k * 12 + 4, none⟩) hgw).trans c4, (p.kept.cell (p := ⟨g, off + k * 12 + 5, none⟩) hgw).trans c5⟩
          clear hcs hok hvd hkd HI ho HCS ho0 ho1 hj hdv hx hXR hCA c4 c5 hc5
          generalize (ovAt L k).k = xk at *
          generalize (ovAt L k).cs = xcs at *
          go_upto_region 16 with fail
          have hne := kept_some wr
          refine wp_region_kept (by kernel_rfl) (by kernel_rfl) ?_
          quiet_step (fail)
          refine quiet_load 25 _ w1.heap.size 0 [.slice (some ⟨gc, 0, none⟩) 16 16] _ (fun w' ⟨p, hp⟩ => by rw [hp]; exact HLV.out p) Tryz.underlying25 rfl HIV.out ?_
          simp only [tkS, Act.put]
          iterate 3 (quiet_step (fail))
          refine quiet_load 29 _ g (off + k * 12) xcs _ (fun w' ⟨p, hp⟩ => by rw [hp]; exact HLX.out p) Tryz.underlying29 rfl HIX.out ?_
          simp only [tkS, Act.put]
          quiet_step ((go_at_call 71; exact HCA.out _))
          quiet_step (fail)
          refine wpQuiet_nil ?_
          rintro _ ⟨p, rfl⟩
          have hB := p.kept
          obtain ⟨q4, q5⟩ := HQ.out p
          clear HCA HLX HLV HQ hk3
          generalize p.W = wn at *
          cases cb with
          | false =>
            have HE : Hid (r = false) := HNC.out rfl
            go_wp2_with fail
            go_ret
            exact ⟨by rw [HE.out]; rfl, hBall.trans (hB.mono hBall.size)⟩
          | true =>
            have hZ := HZC.out _ hB
            have hzc : wn.cell? ⟨w1.heap.size + 1, j, none⟩ = some (.int .i64 z) := own_at hZ (by rw [List.getElem?_map, HZ1.out]; rfl)
            have hfr : wn.frozen? ⟨w1.heap.size + 1, j, none⟩ = false := own_free hZ j
            have HN := own_set hZ j (.int .i64 (spT xk))
            rw [← List.map_set, ← HTH.out] at HN
            have hVB := (hB.block w1.heap.size (by omega)).trans hvb
            have hBn : Below w1.heap.size w1 wn := hbel.trans (hB.mono hbel.size)
            have HI2 : Hid (Own 3 (wn.setCell ⟨w1.heap.size + 1, j, none⟩ (.int .i64 (spT xk))) (w1.heap.size + 1) (.slice (some ⟨w1.heap.size + 1, 0, none⟩) 101 101) ((thR (L.take (k + 1))).map (Value.int .i64)) ∧ (wn.setCell ⟨w1.heap.size + 1, j, none⟩ (.int .i64 (spT xk))).heap[w1.heap.size]? = some (.cells #[.slice (some ⟨gc, 0, none⟩) 16 16] 25 (0, 0)) ∧ Below w1.heap.size w1 (wn.setCell ⟨w1.heap.size + 1, j, none⟩ (.int .i64 (spT xk)))) :=
              ⟨HN, (heap_setCell_other wn ⟨w1.heap.size + 1, j, none⟩ w1.heap.size _ (by show w1.heap.size ≠ w1.heap.size + 1; omega)).trans hVB, hBn.setCell (p := ⟨w1.heap.size + 1, j, none⟩) (by show w1.heap.size ≤ w1.heap.size + 1; omega) _⟩
            have hTk := fun w => l08Thing_any xk w
            have hBa : Below w.heap.size w wn := hB1.trans (hBn.mono hs1)
            clear HN hZ HZC HZ1 hVB hBn HTH hvb hbel HNC hB hBall
            generalize spT xk = sp at *
            by_cases hz0 : z = 0
            · have HE := HYS.out (by first | rfl | trivial) (by rw [HSU.out]; exact decide_eq_true (.inl hz0))
              subst hz0
              clear HSU HNS HYS
              go_wp2_with (first | (go_at_call 106; refine (hTk _).mono ?_; rintro e w9 ⟨rfl, hw⟩; obtain rfl := hw.symm))
              go_roundw
              case rel => exact ⟨k + 1, by omega, by go_num, HI2, HE⟩
              case measure => simp [intOf]; omega
            · by_cases hzs : z = sp
              · have HE := HYS.out (by first | rfl | trivial) (by rw [HSU.out]; exact decide_eq_true (.inr hzs))
                subst hzs
                clear HSU HNS HYS
                go_wp2_with (first | (go_at_call 106; refine (hTk _).mono ?_; rintro e w9 ⟨rfl, hw⟩; obtain rfl := hw.symm))
                go_roundw
                case rel => exact ⟨k + 1, by omega, by go_num, HI2, HE⟩
                case measure => simp [intOf]; omega
              · have HE : Hid (r = false) := HNS.out (by rw [HSU.out]; exact decide_eq_false (by rintro (h | h); exact hz0 h; exact hzs h))
                clear HSU HNS HYS HI2
                rcases HZV.out with h | h | h | h <;> rcases HSV.out with h' | h' | h' <;> first | (exact absurd h hz0) | (exact absurd (h.trans h'.symm) hzs) | skip
                all_goals
                  subst h h'
                  clear hz0 hzs HZV HSV
                  go_wp2_with (first | (go_at_call 106; refine (hTk _).mono ?_; rintro e w9 ⟨rfl, hw⟩; obtain rfl := hw.symm))
                  go_ret
                  exact ⟨by rw [HE.out]; rfl, hBa⟩
        · have hki2 : ¬ (k : Int) < (L.length : Int) := by omega
          have HE : Hid (r = true) := HR.out.symm.trans (logI_all hlen HGD.out (fun q hq => HCS.out q (by omega)))
          have hbel := HI.out.2.2
          go_wp2_with fail
          go_ret
          exact ⟨by rw [HE.out]; rfl, hB1.trans (hbel.mono hs1)⟩
end Go.Proofs.YtmmkmkaannlkhaaGreatDoor
