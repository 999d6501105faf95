/- The specification's LogOK: what it answers, some of its ways. -/
import Derived.BigQuiet
import Derived.Test.YtcifbgoonaolbabQLogMathToLogM2
import Derived.Test.YtcifbgoonaolbabQOpSpec
import Derived.Test.YtcifbgoonaolbabQLogCauses
import Derived.Test.YtcifbgoonaolbabQTakeKitToBigKit
namespace Go.Proofs.Ytcifbgoonaolbab
open Go.RowKit
set_option linter.unusedVariables false

set_option maxHeartbeats 8000000 in
set_option maxRecDepth 100000 in
theorem logSpec_B4 (C : Nat) (w : World) (v : Value) (L : List Ov) (hC : C ≤ w.heap.size) (hr : RdO C w v L) (hlen : L.length ≤ 1024) (f : Nat) (hf : f < L.length) (HGD : Hid (∀ q, q < f → stepN L q = true)) (hok : (ovAt L f).ok = true) (j : Nat) (hfj : f = j + 1) (hxy : (ovAt L f).a < (ovAt L j).a) (hs : ¬ (ovAt L f).s = 1) :
    Calls Try.prog 14 #[v] w fun e w' => e = .returned (.bool false) ∧ Below w.heap.size w w' := by
  have hr0 := hr
  obtain ⟨⟨ao, cap, rfl, hcap, hmax, hnil, hrow⟩, hdv⟩ := hr
  unfold maxLen at hmax
  have hlen' : ¬ (1024 : Int) < (L.length : Int) := by omega
  go_enter Try.func14, Try.ntmps14
  go_wp2_with fail
  go_loopw [3] (fun ti wr => ∃ (i : Nat), i ≤ f ∧ ti = .int .i64 (i : Int) ∧ Below w.heap.size w wr) (fun ti _ => L.length - (intOf ti).toNat)
  case atStart => exact ⟨0, Nat.zero_le _, rfl, Below.refl _ _⟩
  case round =>
    obtain ⟨i, hi, rfl, hBw⟩ := hrel
    by_cases hif : i = f
    · subst hif
      have hlt : i < L.length := hf
      have hki : (i : Int) < (L.length : Int) := by omega
      have hk2 : (i : Int) + 1 < 9223372036854775808 := by omega
      have hsz := hBw.size
      obtain ⟨g, off, rfl, hg, hcs⟩ := hrow (by omega)
      have hx := (hcs i hlt).below (hBw.mono hC) hg
      have hxd := (hdv _ (ovAt_mem hlt)).below (hBw.mono hC)
      have hgw : g < wr.heap.size := by omega
      have hOK := specOpOK_any C (ovAt L i).a (ovAt L i).s (ovAt L i).t (ovAt L i).k (ovAt L i).o (ovAt L i).n (ovAt L i).u (ovAt L i).pt (ovAt L i).pa (ovAt L i).dv (ovAt L i).ky (ovAt L i).tx (ovAt L i).ds wr (by omega) hxd
      change Calls _ _ _ _ (fun e w' => e = .returned (.bool (ovAt L i).ok) ∧ Below wr.heap.size wr w') at hOK
      rw [hok] at hOK
      obtain ⟨c0, c1, c2, c3, c4, c5, c6, c7, c8, c9, c10, c11⟩ := hx
      have hij : i = j + 1 := hfj
      clear hfj
      have hsj := seq_bound (HGD.out j (by omega))
      have HIJ : Hid (i = j + 1) := hij
      have hy := (hcs j (by omega)).below (hBw.mono hC) hg
      have b0 := hy.c0
      have b1 := hy.c1
      clear hy hcs hxd hij
      generalize ovAt L i = x at *
      generalize ovAt L j = y at *
      obtain ⟨xa, xs, xt, xdv, xk, xo, xn, xu, xpt, xpa, xky, xtx, xds⟩ := x
      obtain ⟨ya, ys, yt, ydv, yk, yo, yn, yu, ypt, ypa, yky, ytx, yds⟩ := y
      simp only at c0 c1 c2 c3 c4 c5 c6 c7 c8 c9 c10 c11 hOK b0 b1 hxy hs hsj
      have a0 := c0
      have a1 := c1
      have HW : Hid (IntKind.i64.wrap (ys + 1) = ys + 1) := by unfold Hid; rw [IntKind.wrap_i64]; omega
      have HNE : Hid (¬ xa = ya) := by unfold Hid; omega
      have HL : Hid (xa < ya) := hxy
      have HS : Hid (¬ xs = 1) := hs
      clear hok hsj hxy hs
      go_wp2_with ((go_at_call 25; refine hOK.mono ?_; clear c0 c1 c2 c3 c4 c5 c6 c7 c8 c9 c10 c11; rintro e w1 ⟨rfl, hb⟩; have d0 := (hb.cell (p := ⟨g, off + i * 12, none⟩) hgw).trans a0; have d1 := (hb.cell (p := ⟨g, off + i * 12 + 1, none⟩) hgw).trans a1; have e0 := (hb.cell (p := ⟨g, off + j * 12, none⟩) hgw).trans b0; have e1 := (hb.cell (p := ⟨g, off + j * 12 + 1, none⟩) hgw).trans b1))
      have hij := HIJ.out
      have hj0 : ((i : Int) == 0) = false := by simp; omega
      have hj1 : (0 : Int) < (i : Int) := by omega
      have hj2 : 0 < i := by omega
      have hj3 : (i : Int) - 1 = (j : Int) := by omega
      have hw6 : IntKind.i64.wrap (j : Int) = (j : Int) := by rw [IntKind.wrap_i64]; omega
      have hjl : (j : Int) < (L.length : Int) := by omega
      clear hij
      have hne := HNE.out
      have hnl := HL.out
      have hs' := HS.out
      refine wp_region_held_drew (S := fun w' => w'.cell? ⟨g, off + i * 12, none⟩ = some (.int .i64 xa) ∧ w'.cell? ⟨g, off + i * 12 + 1, none⟩ = some (.int .i64 xs) ∧ w'.cell? ⟨g, off + j * 12, none⟩ = some (.int .i64 ya) ∧ w'.cell? ⟨g, off + j * 12 + 1, none⟩ = some (.int .i64 ys)) (by kernel_rfl) (⟨d0, d1, e0, e1⟩) (fun hHeld => ?_)
      refine tkB 0 (.int .i64 ((i : Int))) [(3, .int .i64 ((i : Int)))] rfl (by rintro ρ ⟨e3, ec⟩ w hSw; obtain ⟨s0, s1, s2, s3⟩ := hSw; go_simp) hHeld ?_
      refine tkB 1 (.bool false) [(24, .int .i64 ((i : Int)))] rfl (by rintro ρ ⟨e24, ec⟩ w hSw; obtain ⟨s0, s1, s2, s3⟩ := hSw; have k0 := ec (Value.int IntKind.i64 0); go_simp) hHeld ?_
      refine tkB 2 (.bool false) [(25, .bool false)] rfl (by rintro ρ ⟨e25, ec⟩ w hSw; obtain ⟨s0, s1, s2, s3⟩ := hSw; go_simp) hHeld ?_
      refine tkB 3 (.slice (some ⟨g, off, none⟩) L.length cap) [(0, .slice (some ⟨g, off, none⟩) L.length cap)] rfl (by rintro ρ ⟨e0, ec⟩ w hSw; obtain ⟨s0, s1, s2, s3⟩ := hSw; go_simp) hHeld ?_
      refine tkB 4 (.int .i64 ((i : Int))) [(3, .int .i64 ((i : Int)))] rfl (by rintro ρ ⟨e3, ec⟩ w hSw; obtain ⟨s0, s1, s2, s3⟩ := hSw; go_simp) hHeld ?_
      refine tkB 5 (.pointer (some ⟨g, off + i * 12, none⟩)) [(27, .slice (some ⟨g, off, none⟩) L.length cap), (28, .int .i64 ((i : Int)))] rfl (by rintro ρ ⟨e27, e28, ec⟩ w hSw; obtain ⟨s0, s1, s2, s3⟩ := hSw; go_simp) hHeld ?_
      refine tkB 6 (.pointer (some ⟨g, off + i * 12, none⟩)) [(29, .pointer (some ⟨g, off + i * 12, none⟩))] rfl (by rintro ρ ⟨e29, ec⟩ w hSw; obtain ⟨s0, s1, s2, s3⟩ := hSw; go_simp) hHeld ?_
      refine tkB 7 (.int .i64 xa) [(30, .pointer (some ⟨g, off + i * 12, none⟩))] rfl (by rintro ρ ⟨e30, ec⟩ w hSw; obtain ⟨s0, s1, s2, s3⟩ := hSw; go_simp) hHeld ?_
      refine tkB 8 (.slice (some ⟨g, off, none⟩) L.length cap) [(0, .slice (some ⟨g, off, none⟩) L.length cap)] rfl (by rintro ρ ⟨e0, ec⟩ w hSw; obtain ⟨s0, s1, s2, s3⟩ := hSw; go_simp) hHeld ?_
      refine tkB 9 (.int .i64 ((i : Int))) [(3, .int .i64 ((i : Int)))] rfl (by rintro ρ ⟨e3, ec⟩ w hSw; obtain ⟨s0, s1, s2, s3⟩ := hSw; go_simp) hHeld ?_
      refine tkB 10 (.int .i64 ((j : Int))) [(33, .int .i64 ((i : Int)))] rfl (by rintro ρ ⟨e33, ec⟩ w hSw; obtain ⟨s0, s1, s2, s3⟩ := hSw; have k0 := ec (Value.int IntKind.i64 1); go_simp) hHeld ?_
      refine tkB 11 (.pointer (some ⟨g, off + j * 12, none⟩)) [(32, .slice (some ⟨g, off, none⟩) L.length cap), (34, .int .i64 ((j : Int)))] rfl (by rintro ρ ⟨e32, e34, ec⟩ w hSw; obtain ⟨s0, s1, s2, s3⟩ := hSw; go_simp) hHeld ?_
      refine tkB 12 (.pointer (some ⟨g, off + j * 12, none⟩)) [(35, .pointer (some ⟨g, off + j * 12, none⟩))] rfl (by rintro ρ ⟨e35, ec⟩ w hSw; obtain ⟨s0, s1, s2, s3⟩ := hSw; go_simp) hHeld ?_
      refine tkB 13 (.int .i64 ya) [(36, .pointer (some ⟨g, off + j * 12, none⟩))] rfl (by rintro ρ ⟨e36, ec⟩ w hSw; obtain ⟨s0, s1, s2, s3⟩ := hSw; go_simp) hHeld ?_
      refine tkB 14 (.bool true) [(31, .int .i64 xa), (37, .int .i64 ya)] rfl (by rintro ρ ⟨e31, e37, ec⟩ w hSw; obtain ⟨s0, s1, s2, s3⟩ := hSw; go_simp) hHeld ?_
      refine tkB 15 (.bool true) [(26, .bool false), (38, .bool true)] rfl (by rintro ρ ⟨e26, e38, ec⟩ w hSw; obtain ⟨s0, s1, s2, s3⟩ := hSw; have k0 := ec (Value.bool true); go_simp) hHeld ?_
      refine tkB 16 (.bool true) [(39, .bool true)] rfl (by rintro ρ ⟨e39, ec⟩ w hSw; obtain ⟨s0, s1, s2, s3⟩ := hSw; go_simp) hHeld ?_
      refine wpAnyH_done (by kernel_rfl) ?_ _
      refine actN ⟨#[.slice (some ⟨g, off, none⟩) L.length cap, undef, u2, .int .i64 ((i : Int)), .bool true, undef, undef, undef, undef, .slice (some ⟨g, off, none⟩) L.length cap, .int .i64 ((L.length : Int)), .bool false, .int .i64 ((i : Int)), .slice (some ⟨g, off, none⟩) L.length cap, .int .i64 ((L.length : Int)), .bool true, u16, u17, .slice (some ⟨g, off, none⟩) L.length cap, .int .i64 ((i : Int)), .pointer (some ⟨g, off + i * 12, none⟩), .agg #[.int .i64 xa, .int .i64 xs, .int .i64 xt, xdv, .int .i64 xk, .int .i64 xo, .int .i64 xn, .int .i64 xu, .int .i64 xpt, .int .i64 xpa, .string xky, .string xtx], .bool true, .bool false, .int .i64 ((i : Int)), .bool false, .bool false, .slice (some ⟨g, off, none⟩) L.length cap, .int .i64 ((i : Int)), .pointer (some ⟨g, off + i * 12, none⟩), .pointer (some ⟨g, off + i * 12, none⟩), .int .i64 xa, .slice (some ⟨g, off, none⟩) L.length cap, .int .i64 ((i : Int)), .int .i64 ((j : Int)), .pointer (some ⟨g, off + j * 12, none⟩), .pointer (some ⟨g, off + j * 12, none⟩), .int .i64 ya, .bool true, .bool true, u40, u41, u42, u43, u44, u45, u46, u47, u48, u49, u50, u51, u52, u53, u54, u55, u56, u57, u58, u59, u60, u61, u62, u63, u64, u65, u66, u67, u68, u69, u70, u71, u72, u73, u74, u75, u76, u77, u78, u79, u80, u81, u82, u83, u84, u85, undef, undef, undef, undef, undef, undef, undef, undef, undef, undef, undef, undef, undef, undef, undef, undef, undef, undef, undef, undef, undef, undef, undef, undef, undef, undef, undef, undef, undef, undef, undef, undef, undef, undef, undef, undef, undef, undef, undef, undef, undef, undef, undef, undef, undef, undef, undef, undef, undef, undef, undef, undef], []⟩ ?_
      clear hj0 hj1 hj2 hj3 hw6 hjl hne hnl hs'
      go_wp2_with fail
      have hij := HIJ.out
      have hj0 : ((i : Int) == 0) = false := by simp; omega
      have hj1 : (0 : Int) < (i : Int) := by omega
      have hj2 : 0 < i := by omega
      have hj3 : (i : Int) - 1 = (j : Int) := by omega
      have hw6 : IntKind.i64.wrap (j : Int) = (j : Int) := by rw [IntKind.wrap_i64]; omega
      have hjl : (j : Int) < (L.length : Int) := by omega
      clear hij
      have hne := HNE.out
      have hnl := HL.out
      have hs' := HS.out
      refine wp_region_held_drew (S := fun w' => w'.cell? ⟨g, off + i * 12, none⟩ = some (.int .i64 xa) ∧ w'.cell? ⟨g, off + i * 12 + 1, none⟩ = some (.int .i64 xs) ∧ w'.cell? ⟨g, off + j * 12, none⟩ = some (.int .i64 ya) ∧ w'.cell? ⟨g, off + j * 12 + 1, none⟩ = some (.int .i64 ys)) (by kernel_rfl) (⟨d0, d1, e0, e1⟩) (fun hHeld => ?_)
      refine tkB 0 (.bool true) [(4, .bool true)] rfl (by rintro ρ ⟨e4, ec⟩ w hSw; obtain ⟨s0, s1, s2, s3⟩ := hSw; go_simp) hHeld ?_
      refine tkB 1 (.bool true) [(40, .bool true)] rfl (by rintro ρ ⟨e40, ec⟩ w hSw; obtain ⟨s0, s1, s2, s3⟩ := hSw; go_simp) hHeld ?_
      refine tkB 2 (.slice (some ⟨g, off, none⟩) L.length cap) [(0, .slice (some ⟨g, off, none⟩) L.length cap)] rfl (by rintro ρ ⟨e0, ec⟩ w hSw; obtain ⟨s0, s1, s2, s3⟩ := hSw; go_simp) hHeld ?_
      refine tkB 3 (.int .i64 ((i : Int))) [(3, .int .i64 ((i : Int)))] rfl (by rintro ρ ⟨e3, ec⟩ w hSw; obtain ⟨s0, s1, s2, s3⟩ := hSw; go_simp) hHeld ?_
      refine tkB 4 (.pointer (some ⟨g, off + i * 12, none⟩)) [(42, .slice (some ⟨g, off, none⟩) L.length cap), (43, .int .i64 ((i : Int)))] rfl (by rintro ρ ⟨e42, e43, ec⟩ w hSw; obtain ⟨s0, s1, s2, s3⟩ := hSw; go_simp) hHeld ?_
      refine tkB 5 (.pointer (some ⟨g, off + i * 12 + 1, none⟩)) [(44, .pointer (some ⟨g, off + i * 12, none⟩))] rfl (by rintro ρ ⟨e44, ec⟩ w hSw; obtain ⟨s0, s1, s2, s3⟩ := hSw; go_simp) hHeld ?_
      refine tkB 6 (.int .i64 xs) [(45, .pointer (some ⟨g, off + i * 12 + 1, none⟩))] rfl (by rintro ρ ⟨e45, ec⟩ w hSw; obtain ⟨s0, s1, s2, s3⟩ := hSw; go_simp) hHeld ?_
      refine tkB 7 (.bool true) [(46, .int .i64 xs)] rfl (by rintro ρ ⟨e46, ec⟩ w hSw; obtain ⟨s0, s1, s2, s3⟩ := hSw; have k0 := ec (Value.int IntKind.i64 1); go_simp) hHeld ?_
      refine tkB 8 (.bool true) [(47, .bool true)] rfl (by rintro ρ ⟨e47, ec⟩ w hSw; obtain ⟨s0, s1, s2, s3⟩ := hSw; go_simp) hHeld ?_
      refine tkN 9 rfl hHeld ?_
      refine tkN 10 rfl hHeld ?_
      refine tkN 11 rfl hHeld ?_
      refine tkN 12 rfl hHeld ?_
      refine tkN 13 rfl hHeld ?_
      refine tkN 14 rfl hHeld ?_
      refine tkN 15 rfl hHeld ?_
      refine tkN 16 rfl hHeld ?_
      refine tkN 17 rfl hHeld ?_
      refine tkN 18 rfl hHeld ?_
      refine tkN 19 rfl hHeld ?_
      refine tkN 20 rfl hHeld ?_
      refine tkN 21 rfl hHeld ?_
      refine tkN 22 rfl hHeld ?_
      refine tkN 23 rfl hHeld ?_
      refine tkN 24 rfl hHeld ?_
      refine tkB 25 (.bool true) [(48, .bool true), (64, undef)] rfl (by rintro ρ ⟨e48, e64, ec⟩ w hSw; obtain ⟨s0, s1, s2, s3⟩ := hSw; have k0 := ec (Value.bool true); go_simp) hHeld ?_
      refine tkB 26 (.bool true) [(41, .bool true), (65, .bool true)] rfl (by rintro ρ ⟨e41, e65, ec⟩ w hSw; obtain ⟨s0, s1, s2, s3⟩ := hSw; have k0 := ec (Value.bool false); go_simp) hHeld ?_
      refine tkB 27 (.bool true) [(66, .bool true)] rfl (by rintro ρ ⟨e66, ec⟩ w hSw; obtain ⟨s0, s1, s2, s3⟩ := hSw; go_simp) hHeld ?_
      refine tkN 28 rfl hHeld ?_
      refine tkN 29 rfl hHeld ?_
      refine tkN 30 rfl hHeld ?_
      refine tkN 31 rfl hHeld ?_
      refine tkN 32 rfl hHeld ?_
      refine tkN 33 rfl hHeld ?_
      refine tkN 34 rfl hHeld ?_
      refine tkN 35 rfl hHeld ?_
      refine tkN 36 rfl hHeld ?_
      refine tkN 37 rfl hHeld ?_
      refine tkN 38 rfl hHeld ?_
      refine tkN 39 rfl hHeld ?_
      refine tkN 40 rfl hHeld ?_
      refine tkN 41 rfl hHeld ?_
      refine tkN 42 rfl hHeld ?_
      refine tkN 43 rfl hHeld ?_
      refine tkN 44 rfl hHeld ?_
      refine tkB 45 (.bool true) [(67, .bool true), (84, undef)] rfl (by rintro ρ ⟨e67, e84, ec⟩ w hSw; obtain ⟨s0, s1, s2, s3⟩ := hSw; have k0 := ec (Value.bool true); go_simp) hHeld ?_
      refine wpAnyH_done (by kernel_rfl) ?_ _
      refine actN ⟨#[.slice (some ⟨g, off, none⟩) L.length cap, undef, u2, .int .i64 ((i : Int)), .bool true, undef, undef, undef, undef, .slice (some ⟨g, off, none⟩) L.length cap, .int .i64 ((L.length : Int)), .bool false, .int .i64 ((i : Int)), .slice (some ⟨g, off, none⟩) L.length cap, .int .i64 ((L.length : Int)), .bool true, u16, u17, .slice (some ⟨g, off, none⟩) L.length cap, .int .i64 ((i : Int)), .pointer (some ⟨g, off + i * 12, none⟩), .agg #[.int .i64 xa, .int .i64 xs, .int .i64 xt, xdv, .int .i64 xk, .int .i64 xo, .int .i64 xn, .int .i64 xu, .int .i64 xpt, .int .i64 xpa, .string xky, .string xtx], .bool true, .bool false, .int .i64 ((i : Int)), .bool false, .bool false, .slice (some ⟨g, off, none⟩) L.length cap, .int .i64 ((i : Int)), .pointer (some ⟨g, off + i * 12, none⟩), .pointer (some ⟨g, off + i * 12, none⟩), .int .i64 xa, .slice (some ⟨g, off, none⟩) L.length cap, .int .i64 ((i : Int)), .int .i64 ((j : Int)), .pointer (some ⟨g, off + j * 12, none⟩), .pointer (some ⟨g, off + j * 12, none⟩), .int .i64 ya, .bool true, .bool true, .bool true, .bool true, .slice (some ⟨g, off, none⟩) L.length cap, .int .i64 ((i : Int)), .pointer (some ⟨g, off + i * 12, none⟩), .pointer (some ⟨g, off + i * 12 + 1, none⟩), .int .i64 xs, .bool true, .bool true, undef, undef, undef, undef, undef, undef, undef, undef, undef, undef, undef, undef, undef, undef, undef, undef, .bool true, .bool true, .bool true, undef, undef, undef, undef, undef, undef, undef, undef, undef, undef, undef, undef, undef, undef, undef, undef, undef, .bool true, undef, undef, undef, undef, undef, undef, undef, undef, undef, undef, undef, undef, undef, undef, undef, undef, undef, undef, undef, undef, undef, undef, undef, undef, undef, undef, undef, undef, undef, undef, undef, undef, undef, undef, undef, undef, undef, undef, undef, undef, undef, undef, undef, undef, undef, undef, undef, undef, undef, undef, undef, undef], []⟩ ?_
      clear hj0 hj1 hj2 hj3 hw6 hjl hne hnl hs'
      go_wp2_with fail
      go_ret
      exact ⟨rfl, (hBw.trans (hb.mono hBw.size)).drew.drew⟩
    · have hlt : i < L.length := by omega
      have HIF : Hid (i < f) := by unfold Hid; omega
      clear hif hi hok hfj hxy hs
      obtain ⟨hok, hcase⟩ := good_at hlt (fun q hq => HGD.out q (by have := HIF.out; omega))
      have hki : (i : Int) < (L.length : Int) := by omega
      have hk2 : (i : Int) + 1 < 9223372036854775808 := by omega
      have hsz := hBw.size
      obtain ⟨g, off, rfl, hg, hcs⟩ := hrow (by omega)
      have hx := (hcs i hlt).below (hBw.mono hC) hg
      have hxd := (hdv _ (ovAt_mem hlt)).below (hBw.mono hC)
      have hgw : g < wr.heap.size := by omega
      have hOK := specOpOK_any C (ovAt L i).a (ovAt L i).s (ovAt L i).t (ovAt L i).k (ovAt L i).o (ovAt L i).n (ovAt L i).u (ovAt L i).pt (ovAt L i).pa (ovAt L i).dv (ovAt L i).ky (ovAt L i).tx (ovAt L i).ds wr (by omega) hxd
      change Calls _ _ _ _ (fun e w' => e = .returned (.bool (ovAt L i).ok) ∧ Below wr.heap.size wr w') at hOK
      rw [hok] at hOK
      obtain ⟨c0, c1, c2, c3, c4, c5, c6, c7, c8, c9, c10, c11⟩ := hx
      rcases hcase with ⟨rfl, hs⟩ | ⟨j, hij, hcase⟩
      · generalize ovAt L 0 = x at *
        obtain ⟨xa, xs, xt, xdv, xk, xo, xn, xu, xpt, xpa, xky, xtx, xds⟩ := x
        simp only at c0 c1 c2 c3 c4 c5 c6 c7 c8 c9 c10 c11 hOK hs
        have a0 : wr.cell? ⟨g, off, none⟩ = some (.int .i64 xa) := by simpa using c0
        have a1 : wr.cell? ⟨g, off + 1, none⟩ = some (.int .i64 xs) := by simpa using c1
        simp only [Nat.zero_mul, Nat.add_zero] at c0 c1 c2 c3 c4 c5 c6 c7 c8 c9 c10 c11
        clear hcs hxd
        subst hs
        clear hok
        go_wp2_with ((go_at_call 25; refine hOK.mono ?_; clear c0 c1 c2 c3 c4 c5 c6 c7 c8 c9 c10 c11; rintro e w1 ⟨rfl, hb⟩; have d0 := (hb.cell (p := ⟨g, off, none⟩) hgw).trans a0; have d1 := (hb.cell (p := ⟨g, off + 1, none⟩) hgw).trans a1))
        refine wp_region_held_drew (S := fun w' => w'.cell? ⟨g, off, none⟩ = some (.int .i64 xa) ∧ w'.cell? ⟨g, off + 1, none⟩ = some (.int .i64 1)) (by kernel_rfl) (⟨d0, d1⟩) (fun hHeld => ?_)
        refine tkB 0 (.int .i64 0) [(3, .int .i64 0)] rfl (by rintro ρ ⟨e3, ec⟩ w hSw; obtain ⟨s0, s1⟩ := hSw; go_simp) hHeld ?_
        refine tkB 1 (.bool true) [(24, .int .i64 0)] rfl (by rintro ρ ⟨e24, ec⟩ w hSw; obtain ⟨s0, s1⟩ := hSw; have k0 := ec (Value.int IntKind.i64 0); go_simp) hHeld ?_
        refine tkB 2 (.bool true) [(25, .bool true)] rfl (by rintro ρ ⟨e25, ec⟩ w hSw; obtain ⟨s0, s1⟩ := hSw; go_simp) hHeld ?_
        refine tkN 3 rfl hHeld ?_
        refine tkN 4 rfl hHeld ?_
        refine tkN 5 rfl hHeld ?_
        refine tkN 6 rfl hHeld ?_
        refine tkN 7 rfl hHeld ?_
        refine tkN 8 rfl hHeld ?_
        refine tkN 9 rfl hHeld ?_
        refine tkN 10 rfl hHeld ?_
        refine tkN 11 rfl hHeld ?_
        refine tkN 12 rfl hHeld ?_
        refine tkN 13 rfl hHeld ?_
        refine tkN 14 rfl hHeld ?_
        refine tkB 15 (.bool true) [(26, .bool true), (38, undef)] rfl (by rintro ρ ⟨e26, e38, ec⟩ w hSw; obtain ⟨s0, s1⟩ := hSw; have k0 := ec (Value.bool true); go_simp) hHeld ?_
        refine tkB 16 (.bool true) [(39, .bool true)] rfl (by rintro ρ ⟨e39, ec⟩ w hSw; obtain ⟨s0, s1⟩ := hSw; go_simp) hHeld ?_
        refine wpAnyH_done (by kernel_rfl) ?_ _
        refine actN ⟨#[.slice (some ⟨g, off, none⟩) L.length cap, undef, u2, .int .i64 0, .bool true, undef, undef, undef, undef, .slice (some ⟨g, off, none⟩) L.length cap, .int .i64 ((L.length : Int)), .bool false, .int .i64 0, .slice (some ⟨g, off, none⟩) L.length cap, .int .i64 ((L.length : Int)), .bool true, u16, u17, .slice (some ⟨g, off, none⟩) L.length cap, .int .i64 0, .pointer (some ⟨g, off, none⟩), .agg #[.int .i64 xa, .int .i64 1, .int .i64 xt, xdv, .int .i64 xk, .int .i64 xo, .int .i64 xn, .int .i64 xu, .int .i64 xpt, .int .i64 xpa, .string xky, .string xtx], .bool true, .bool false, .int .i64 0, .bool true, .bool true, undef, undef, undef, undef, undef, undef, undef, undef, undef, undef, undef, undef, .bool true, u40, u41, u42, u43, u44, u45, u46, u47, u48, u49, u50, u51, u52, u53, u54, u55, u56, u57, u58, u59, u60, u61, u62, u63, u64, u65, u66, u67, u68, u69, u70, u71, u72, u73, u74, u75, u76, u77, u78, u79, u80, u81, u82, u83, u84, u85, undef, undef, undef, undef, undef, undef, undef, undef, undef, undef, undef, undef, undef, undef, undef, undef, undef, undef, undef, undef, undef, undef, undef, undef, undef, undef, undef, undef, undef, undef, undef, undef, undef, undef, undef, undef, undef, undef, undef, undef, undef, undef, undef, undef, undef, undef, undef, undef, undef, undef, undef, undef], []⟩ ?_
        go_wp2_with fail
        refine wp_region_held_drew (S := fun w' => w'.cell? ⟨g, off, none⟩ = some (.int .i64 xa) ∧ w'.cell? ⟨g, off + 1, none⟩ = some (.int .i64 1)) (by kernel_rfl) (⟨d0, d1⟩) (fun hHeld => ?_)
        refine tkB 0 (.bool true) [(4, .bool true)] rfl (by rintro ρ ⟨e4, ec⟩ w hSw; obtain ⟨s0, s1⟩ := hSw; go_simp) hHeld ?_
        refine tkB 1 (.bool true) [(40, .bool true)] rfl (by rintro ρ ⟨e40, ec⟩ w hSw; obtain ⟨s0, s1⟩ := hSw; go_simp) hHeld ?_
        refine tkB 2 (.slice (some ⟨g, off, none⟩) L.length cap) [(0, .slice (some ⟨g, off, none⟩) L.length cap)] rfl (by rintro ρ ⟨e0, ec⟩ w hSw; obtain ⟨s0, s1⟩ := hSw; go_simp) hHeld ?_
        refine tkB 3 (.int .i64 0) [(3, .int .i64 0)] rfl (by rintro ρ ⟨e3, ec⟩ w hSw; obtain ⟨s0, s1⟩ := hSw; go_simp) hHeld ?_
        refine tkB 4 (.pointer (some ⟨g, off, none⟩)) [(42, .slice (some ⟨g, off, none⟩) L.length cap), (43, .int .i64 0)] rfl (by rintro ρ ⟨e42, e43, ec⟩ w hSw; obtain ⟨s0, s1⟩ := hSw; go_simp) hHeld ?_
        refine tkB 5 (.pointer (some ⟨g, off + 1, none⟩)) [(44, .pointer (some ⟨g, off, none⟩))] rfl (by rintro ρ ⟨e44, ec⟩ w hSw; obtain ⟨s0, s1⟩ := hSw; go_simp) hHeld ?_
        refine tkB 6 (.int .i64 1) [(45, .pointer (some ⟨g, off + 1, none⟩))] rfl (by rintro ρ ⟨e45, ec⟩ w hSw; obtain ⟨s0, s1⟩ := hSw; go_simp) hHeld ?_
        refine tkB 7 (.bool false) [(46, .int .i64 1)] rfl (by rintro ρ ⟨e46, ec⟩ w hSw; obtain ⟨s0, s1⟩ := hSw; have k0 := ec (Value.int IntKind.i64 1); go_simp) hHeld ?_
        refine tkB 8 (.bool false) [(47, .bool false)] rfl (by rintro ρ ⟨e47, ec⟩ w hSw; obtain ⟨s0, s1⟩ := hSw; go_simp) hHeld ?_
        refine tkB 9 (.int .i64 0) [(3, .int .i64 0)] rfl (by rintro ρ ⟨e3, ec⟩ w hSw; obtain ⟨s0, s1⟩ := hSw; go_simp) hHeld ?_
        refine tkB 10 (.bool false) [(49, .int .i64 0)] rfl (by rintro ρ ⟨e49, ec⟩ w hSw; obtain ⟨s0, s1⟩ := hSw; have k0 := ec (Value.int IntKind.i64 0); go_simp) hHeld ?_
        refine tkB 11 (.bool false) [(50, .bool false)] rfl (by rintro ρ ⟨e50, ec⟩ w hSw; obtain ⟨s0, s1⟩ := hSw; go_simp) hHeld ?_
        refine tkN 12 rfl hHeld ?_
        refine tkN 13 rfl hHeld ?_
        refine tkN 14 rfl hHeld ?_
        refine tkN 15 rfl hHeld ?_
        refine tkN 16 rfl hHeld ?_
        refine tkN 17 rfl hHeld ?_
        refine tkN 18 rfl hHeld ?_
        refine tkN 19 rfl hHeld ?_
        refine tkN 20 rfl hHeld ?_
        refine tkN 21 rfl hHeld ?_
        refine tkN 22 rfl hHeld ?_
        refine tkN 23 rfl hHeld ?_
        refine tkB 24 (.bool false) [(51, .bool false), (63, undef)] rfl (by rintro ρ ⟨e51, e63, ec⟩ w hSw; obtain ⟨s0, s1⟩ := hSw; have k0 := ec (Value.bool false); go_simp) hHeld ?_
        refine tkB 25 (.bool false) [(48, .bool false), (64, .bool false)] rfl (by rintro ρ ⟨e48, e64, ec⟩ w hSw; obtain ⟨s0, s1⟩ := hSw; have k0 := ec (Value.bool true); go_simp) hHeld ?_
        refine tkB 26 (.bool false) [(41, .bool true), (65, .bool false)] rfl (by rintro ρ ⟨e41, e65, ec⟩ w hSw; obtain ⟨s0, s1⟩ := hSw; have k0 := ec (Value.bool false); go_simp) hHeld ?_
        refine tkB 27 (.bool false) [(66, .bool false)] rfl (by rintro ρ ⟨e66, ec⟩ w hSw; obtain ⟨s0, s1⟩ := hSw; go_simp) hHeld ?_
        refine tkB 28 (.bool true) [(4, .bool true)] rfl (by rintro ρ ⟨e4, ec⟩ w hSw; obtain ⟨s0, s1⟩ := hSw; go_simp) hHeld ?_
        refine tkB 29 (.bool false) [(68, .bool true)] rfl (by rintro ρ ⟨e68, ec⟩ w hSw; obtain ⟨s0, s1⟩ := hSw; go_simp) hHeld ?_
        refine tkB 30 (.bool false) [(69, .bool false)] rfl (by rintro ρ ⟨e69, ec⟩ w hSw; obtain ⟨s0, s1⟩ := hSw; go_simp) hHeld ?_
        refine tkN 31 rfl hHeld ?_
        refine tkN 32 rfl hHeld ?_
        refine tkN 33 rfl hHeld ?_
        refine tkN 34 rfl hHeld ?_
        refine tkN 35 rfl hHeld ?_
        refine tkN 36 rfl hHeld ?_
        refine tkN 37 rfl hHeld ?_
        refine tkN 38 rfl hHeld ?_
        refine tkN 39 rfl hHeld ?_
        refine tkN 40 rfl hHeld ?_
        refine tkN 41 rfl hHeld ?_
        refine tkN 42 rfl hHeld ?_
        refine tkN 43 rfl hHeld ?_
        refine tkB 44 (.bool false) [(70, .bool false), (83, undef)] rfl (by rintro ρ ⟨e70, e83, ec⟩ w hSw; obtain ⟨s0, s1⟩ := hSw; have k0 := ec (Value.bool false); go_simp) hHeld ?_
        refine tkB 45 (.bool false) [(67, .bool false), (84, .bool false)] rfl (by rintro ρ ⟨e67, e84, ec⟩ w hSw; obtain ⟨s0, s1⟩ := hSw; have k0 := ec (Value.bool true); go_simp) hHeld ?_
        refine wpAnyH_done (by kernel_rfl) ?_ _
        refine actN ⟨#[.slice (some ⟨g, off, none⟩) L.length cap, undef, u2, .int .i64 0, .bool true, undef, undef, undef, undef, .slice (some ⟨g, off, none⟩) L.length cap, .int .i64 ((L.length : Int)), .bool false, .int .i64 0, .slice (some ⟨g, off, none⟩) L.length cap, .int .i64 ((L.length : Int)), .bool true, u16, u17, .slice (some ⟨g, off, none⟩) L.length cap, .int .i64 0, .pointer (some ⟨g, off, none⟩), .agg #[.int .i64 xa, .int .i64 1, .int .i64 xt, xdv, .int .i64 xk, .int .i64 xo, .int .i64 xn, .int .i64 xu, .int .i64 xpt, .int .i64 xpa, .string xky, .string xtx], .bool true, .bool false, .int .i64 0, .bool true, .bool true, undef, undef, undef, undef, undef, undef, undef, undef, undef, undef, undef, undef, .bool true, .bool true, .bool true, .slice (some ⟨g, off, none⟩) L.length cap, .int .i64 0, .pointer (some ⟨g, off, none⟩), .pointer (some ⟨g, off + 1, none⟩), .int .i64 1, .bool false, .bool false, .int .i64 0, .bool false, .bool false, undef, undef, undef, undef, undef, undef, undef, undef, undef, undef, undef, undef, .bool false, .bool false, .bool false, .bool false, .bool true, .bool false, .bool false, undef, undef, undef, undef, undef, undef, undef, undef, undef, undef, undef, undef, undef, .bool false, .bool false, undef, undef, undef, undef, undef, undef, undef, undef, undef, undef, undef, undef, undef, undef, undef, undef, undef, undef, undef, undef, undef, undef, undef, undef, undef, undef, undef, undef, undef, undef, undef, undef, undef, undef, undef, undef, undef, undef, undef, undef, undef, undef, undef, undef, undef, undef, undef, undef, undef, undef, undef, undef], []⟩ ?_
        go_wp2_with fail
        go_roundw
        case rel => exact ⟨0 + 1, by have := HIF.out; omega, by go_num, (hBw.trans (hb.mono hBw.size)).drew.drew⟩
        case measure => simp [intOf]; omega
      · have hsj := seq_bound (HGD.out j (by have := HIF.out; omega))
        rcases hcase with ⟨hxy, hs⟩ | ⟨hxy, hs⟩
        · have HIJ : Hid (i = j + 1) := hij
          have hy := (hcs j (by omega)).below (hBw.mono hC) hg
          have b0 := hy.c0
          have b1 := hy.c1
          clear hy hcs hxd hij
          generalize ovAt L i = x at *
          generalize ovAt L j = y at *
          obtain ⟨xa, xs, xt, xdv, xk, xo, xn, xu, xpt, xpa, xky, xtx, xds⟩ := x
          obtain ⟨ya, ys, yt, ydv, yk, yo, yn, yu, ypt, ypa, yky, ytx, yds⟩ := y
          simp only at c0 c1 c2 c3 c4 c5 c6 c7 c8 c9 c10 c11 hOK b0 b1 hxy hs hsj
          have a0 := c0
          have a1 := c1
          have HW : Hid (IntKind.i64.wrap (ys + 1) = ys + 1) := by unfold Hid; rw [IntKind.wrap_i64]; omega
          subst hxy
          subst hs
          clear hok hsj
          go_wp2_with ((go_at_call 25; refine hOK.mono ?_; clear c0 c1 c2 c3 c4 c5 c6 c7 c8 c9 c10 c11; rintro e w1 ⟨rfl, hb⟩; have d0 := (hb.cell (p := ⟨g, off + i * 12, none⟩) hgw).trans a0; have d1 := (hb.cell (p := ⟨g, off + i * 12 + 1, none⟩) hgw).trans a1; have e0 := (hb.cell (p := ⟨g, off + j * 12, none⟩) hgw).trans b0; have e1 := (hb.cell (p := ⟨g, off + j * 12 + 1, none⟩) hgw).trans b1))
          have hij := HIJ.out
          have hj0 : ((i : Int) == 0) = false := by simp; omega
          have hj1 : (0 : Int) < (i : Int) := by omega
          have hj2 : 0 < i := by omega
          have hj3 : (i : Int) - 1 = (j : Int) := by omega
          have hw6 : IntKind.i64.wrap (j : Int) = (j : Int) := by rw [IntKind.wrap_i64]; omega
          have hjl : (j : Int) < (L.length : Int) := by omega
          clear hij
          have hw7 : IntKind.i64.wrap (ys + 1) = ys + 1 := HW.out
          refine wp_region_held_drew (S := fun w' => w'.cell? ⟨g, off + i * 12, none⟩ = some (.int .i64 xa) ∧ w'.cell? ⟨g, off + i * 12 + 1, none⟩ = some (.int .i64 (ys + 1)) ∧ w'.cell? ⟨g, off + j * 12, none⟩ = some (.int .i64 xa) ∧ w'.cell? ⟨g, off + j * 12 + 1, none⟩ = some (.int .i64 ys)) (by kernel_rfl) (⟨d0, d1, e0, e1⟩) (fun hHeld => ?_)
          refine tkB 0 (.int .i64 ((i : Int))) [(3, .int .i64 ((i : Int)))] rfl (by rintro ρ ⟨e3, ec⟩ w hSw; obtain ⟨s0, s1, s2, s3⟩ := hSw; go_simp) hHeld ?_
          refine tkB 1 (.bool false) [(24, .int .i64 ((i : Int)))] rfl (by rintro ρ ⟨e24, ec⟩ w hSw; obtain ⟨s0, s1, s2, s3⟩ := hSw; have k0 := ec (Value.int IntKind.i64 0); go_simp) hHeld ?_
          refine tkB 2 (.bool false) [(25, .bool false)] rfl (by rintro ρ ⟨e25, ec⟩ w hSw; obtain ⟨s0, s1, s2, s3⟩ := hSw; go_simp) hHeld ?_
          refine tkB 3 (.slice (some ⟨g, off, none⟩) L.length cap) [(0, .slice (some ⟨g, off, none⟩) L.length cap)] rfl (by rintro ρ ⟨e0, ec⟩ w hSw; obtain ⟨s0, s1, s2, s3⟩ := hSw; go_simp) hHeld ?_
          refine tkB 4 (.int .i64 ((i : Int))) [(3, .int .i64 ((i : Int)))] rfl (by rintro ρ ⟨e3, ec⟩ w hSw; obtain ⟨s0, s1, s2, s3⟩ := hSw; go_simp) hHeld ?_
          refine tkB 5 (.pointer (some ⟨g, off + i * 12, none⟩)) [(27, .slice (some ⟨g, off, none⟩) L.length cap), (28, .int .i64 ((i : Int)))] rfl (by rintro ρ ⟨e27, e28, ec⟩ w hSw; obtain ⟨s0, s1, s2, s3⟩ := hSw; go_simp) hHeld ?_
          refine tkB 6 (.pointer (some ⟨g, off + i * 12, none⟩)) [(29, .pointer (some ⟨g, off + i * 12, none⟩))] rfl (by rintro ρ ⟨e29, ec⟩ w hSw; obtain ⟨s0, s1, s2, s3⟩ := hSw; go_simp) hHeld ?_
          refine tkB 7 (.int .i64 xa) [(30, .pointer (some ⟨g, off + i * 12, none⟩))] rfl (by rintro ρ ⟨e30, ec⟩ w hSw; obtain ⟨s0, s1, s2, s3⟩ := hSw; go_simp) hHeld ?_
          refine tkB 8 (.slice (some ⟨g, off, none⟩) L.length cap) [(0, .slice (some ⟨g, off, none⟩) L.length cap)] rfl (by rintro ρ ⟨e0, ec⟩ w hSw; obtain ⟨s0, s1, s2, s3⟩ := hSw; go_simp) hHeld ?_
          refine tkB 9 (.int .i64 ((i : Int))) [(3, .int .i64 ((i : Int)))] rfl (by rintro ρ ⟨e3, ec⟩ w hSw; obtain ⟨s0, s1, s2, s3⟩ := hSw; go_simp) hHeld ?_
          refine tkB 10 (.int .i64 ((j : Int))) [(33, .int .i64 ((i : Int)))] rfl (by rintro ρ ⟨e33, ec⟩ w hSw; obtain ⟨s0, s1, s2, s3⟩ := hSw; have k0 := ec (Value.int IntKind.i64 1); go_simp) hHeld ?_
          refine tkB 11 (.pointer (some ⟨g, off + j * 12, none⟩)) [(32, .slice (some ⟨g, off, none⟩) L.length cap), (34, .int .i64 ((j : Int)))] rfl (by rintro ρ ⟨e32, e34, ec⟩ w hSw; obtain ⟨s0, s1, s2, s3⟩ := hSw; go_simp) hHeld ?_
          refine tkB 12 (.pointer (some ⟨g, off + j * 12, none⟩)) [(35, .pointer (some ⟨g, off + j * 12, none⟩))] rfl (by rintro ρ ⟨e35, ec⟩ w hSw; obtain ⟨s0, s1, s2, s3⟩ := hSw; go_simp) hHeld ?_
          refine tkB 13 (.int .i64 xa) [(36, .pointer (some ⟨g, off + j * 12, none⟩))] rfl (by rintro ρ ⟨e36, ec⟩ w hSw; obtain ⟨s0, s1, s2, s3⟩ := hSw; go_simp) hHeld ?_
          refine tkB 14 (.bool false) [(31, .int .i64 xa), (37, .int .i64 xa)] rfl (by rintro ρ ⟨e31, e37, ec⟩ w hSw; obtain ⟨s0, s1, s2, s3⟩ := hSw; go_simp) hHeld ?_
          refine tkB 15 (.bool false) [(26, .bool false), (38, .bool false)] rfl (by rintro ρ ⟨e26, e38, ec⟩ w hSw; obtain ⟨s0, s1, s2, s3⟩ := hSw; have k0 := ec (Value.bool true); go_simp) hHeld ?_
          refine tkB 16 (.bool false) [(39, .bool false)] rfl (by rintro ρ ⟨e39, ec⟩ w hSw; obtain ⟨s0, s1, s2, s3⟩ := hSw; go_simp) hHeld ?_
          refine wpAnyH_done (by kernel_rfl) ?_ _
          refine actN ⟨#[.slice (some ⟨g, off, none⟩) L.length cap, undef, u2, .int .i64 ((i : Int)), .bool false, undef, undef, undef, undef, .slice (some ⟨g, off, none⟩) L.length cap, .int .i64 ((L.length : Int)), .bool false, .int .i64 ((i : Int)), .slice (some ⟨g, off, none⟩) L.length cap, .int .i64 ((L.length : Int)), .bool true, u16, u17, .slice (some ⟨g, off, none⟩) L.length cap, .int .i64 ((i : Int)), .pointer (some ⟨g, off + i * 12, none⟩), .agg #[.int .i64 xa, .int .i64 (ys + 1), .int .i64 xt, xdv, .int .i64 xk, .int .i64 xo, .int .i64 xn, .int .i64 xu, .int .i64 xpt, .int .i64 xpa, .string xky, .string xtx], .bool true, .bool false, .int .i64 ((i : Int)), .bool false, .bool false, .slice (some ⟨g, off, none⟩) L.length cap, .int .i64 ((i : Int)), .pointer (some ⟨g, off + i * 12, none⟩), .pointer (some ⟨g, off + i * 12, none⟩), .int .i64 xa, .slice (some ⟨g, off, none⟩) L.length cap, .int .i64 ((i : Int)), .int .i64 ((j : Int)), .pointer (some ⟨g, off + j * 12, none⟩), .pointer (some ⟨g, off + j * 12, none⟩), .int .i64 xa, .bool false, .bool false, u40, u41, u42, u43, u44, u45, u46, u47, u48, u49, u50, u51, u52, u53, u54, u55, u56, u57, u58, u59, u60, u61, u62, u63, u64, u65, u66, u67, u68, u69, u70, u71, u72, u73, u74, u75, u76, u77, u78, u79, u80, u81, u82, u83, u84, u85, undef, undef, undef, undef, undef, undef, undef, undef, undef, undef, undef, undef, undef, undef, undef, undef, undef, undef, undef, undef, undef, undef, undef, undef, undef, undef, undef, undef, undef, undef, undef, undef, undef, undef, undef, undef, undef, undef, undef, undef, undef, undef, undef, undef, undef, undef, undef, undef, undef, undef, undef, undef], []⟩ ?_
          clear hj0 hj1 hj2 hj3 hw6 hjl hw7
          go_wp2_with fail
          have hij := HIJ.out
          have hj0 : ((i : Int) == 0) = false := by simp; omega
          have hj1 : (0 : Int) < (i : Int) := by omega
          have hj2 : 0 < i := by omega
          have hj3 : (i : Int) - 1 = (j : Int) := by omega
          have hw6 : IntKind.i64.wrap (j : Int) = (j : Int) := by rw [IntKind.wrap_i64]; omega
          have hjl : (j : Int) < (L.length : Int) := by omega
          clear hij
          have hw7 : IntKind.i64.wrap (ys + 1) = ys + 1 := HW.out
          refine wp_region_held_drew (S := fun w' => w'.cell? ⟨g, off + i * 12, none⟩ = some (.int .i64 xa) ∧ w'.cell? ⟨g, off + i * 12 + 1, none⟩ = some (.int .i64 (ys + 1)) ∧ w'.cell? ⟨g, off + j * 12, none⟩ = some (.int .i64 xa) ∧ w'.cell? ⟨g, off + j * 12 + 1, none⟩ = some (.int .i64 ys)) (by kernel_rfl) (⟨d0, d1, e0, e1⟩) (fun hHeld => ?_)
          refine tkB 0 (.bool false) [(4, .bool false)] rfl (by rintro ρ ⟨e4, ec⟩ w hSw; obtain ⟨s0, s1, s2, s3⟩ := hSw; go_simp) hHeld ?_
          refine tkB 1 (.bool false) [(40, .bool false)] rfl (by rintro ρ ⟨e40, ec⟩ w hSw; obtain ⟨s0, s1, s2, s3⟩ := hSw; go_simp) hHeld ?_
          refine tkN 2 rfl hHeld ?_
          refine tkN 3 rfl hHeld ?_
          refine tkN 4 rfl hHeld ?_
          refine tkN 5 rfl hHeld ?_
          refine tkN 6 rfl hHeld ?_
          refine tkN 7 rfl hHeld ?_
          refine tkN 8 rfl hHeld ?_
          refine tkN 9 rfl hHeld ?_
          refine tkN 10 rfl hHeld ?_
          refine tkN 11 rfl hHeld ?_
          refine tkN 12 rfl hHeld ?_
          refine tkN 13 rfl hHeld ?_
          refine tkN 14 rfl hHeld ?_
          refine tkN 15 rfl hHeld ?_
          refine tkN 16 rfl hHeld ?_
          refine tkN 17 rfl hHeld ?_
          refine tkN 18 rfl hHeld ?_
          refine tkN 19 rfl hHeld ?_
          refine tkN 20 rfl hHeld ?_
          refine tkN 21 rfl hHeld ?_
          refine tkN 22 rfl hHeld ?_
          refine tkN 23 rfl hHeld ?_
          refine tkN 24 rfl hHeld ?_
          refine tkN 25 rfl hHeld ?_
          refine tkB 26 (.bool false) [(41, .bool false), (65, undef)] rfl (by rintro ρ ⟨e41, e65, ec⟩ w hSw; obtain ⟨s0, s1, s2, s3⟩ := hSw; have k0 := ec (Value.bool false); go_simp) hHeld ?_
          refine tkB 27 (.bool false) [(66, .bool false)] rfl (by rintro ρ ⟨e66, ec⟩ w hSw; obtain ⟨s0, s1, s2, s3⟩ := hSw; go_simp) hHeld ?_
          refine tkB 28 (.bool false) [(4, .bool false)] rfl (by rintro ρ ⟨e4, ec⟩ w hSw; obtain ⟨s0, s1, s2, s3⟩ := hSw; go_simp) hHeld ?_
          refine tkB 29 (.bool true) [(68, .bool false)] rfl (by rintro ρ ⟨e68, ec⟩ w hSw; obtain ⟨s0, s1, s2, s3⟩ := hSw; go_simp) hHeld ?_
          refine tkB 30 (.bool true) [(69, .bool true)] rfl (by rintro ρ ⟨e69, ec⟩ w hSw; obtain ⟨s0, s1, s2, s3⟩ := hSw; go_simp) hHeld ?_
          refine tkB 31 (.slice (some ⟨g, off, none⟩) L.length cap) [(0, .slice (some ⟨g, off, none⟩) L.length cap)] rfl (by rintro ρ ⟨e0, ec⟩ w hSw; obtain ⟨s0, s1, s2, s3⟩ := hSw; go_simp) hHeld ?_
          refine tkB 32 (.int .i64 ((i : Int))) [(3, .int .i64 ((i : Int)))] rfl (by rintro ρ ⟨e3, ec⟩ w hSw; obtain ⟨s0, s1, s2, s3⟩ := hSw; go_simp) hHeld ?_
          refine tkB 33 (.pointer (some ⟨g, off + i * 12, none⟩)) [(71, .slice (some ⟨g, off, none⟩) L.length cap), (72, .int .i64 ((i : Int)))] rfl (by rintro ρ ⟨e71, e72, ec⟩ w hSw; obtain ⟨s0, s1, s2, s3⟩ := hSw; go_simp) hHeld ?_
          refine tkB 34 (.pointer (some ⟨g, off + i * 12 + 1, none⟩)) [(73, .pointer (some ⟨g, off + i * 12, none⟩))] rfl (by rintro ρ ⟨e73, ec⟩ w hSw; obtain ⟨s0, s1, s2, s3⟩ := hSw; go_simp) hHeld ?_
          refine tkB 35 (.int .i64 (ys + 1)) [(74, .pointer (some ⟨g, off + i * 12 + 1, none⟩))] rfl (by rintro ρ ⟨e74, ec⟩ w hSw; obtain ⟨s0, s1, s2, s3⟩ := hSw; go_simp) hHeld ?_
          refine tkB 36 (.slice (some ⟨g, off, none⟩) L.length cap) [(0, .slice (some ⟨g, off, none⟩) L.length cap)] rfl (by rintro ρ ⟨e0, ec⟩ w hSw; obtain ⟨s0, s1, s2, s3⟩ := hSw; go_simp) hHeld ?_
          refine tkB 37 (.int .i64 ((i : Int))) [(3, .int .i64 ((i : Int)))] rfl (by rintro ρ ⟨e3, ec⟩ w hSw; obtain ⟨s0, s1, s2, s3⟩ := hSw; go_simp) hHeld ?_
          refine tkB 38 (.int .i64 ((j : Int))) [(77, .int .i64 ((i : Int)))] rfl (by rintro ρ ⟨e77, ec⟩ w hSw; obtain ⟨s0, s1, s2, s3⟩ := hSw; have k0 := ec (Value.int IntKind.i64 1); go_simp) hHeld ?_
          refine tkB 39 (.pointer (some ⟨g, off + j * 12, none⟩)) [(76, .slice (some ⟨g, off, none⟩) L.length cap), (78, .int .i64 ((j : Int)))] rfl (by rintro ρ ⟨e76, e78, ec⟩ w hSw; obtain ⟨s0, s1, s2, s3⟩ := hSw; go_simp) hHeld ?_
          refine tkB 40 (.pointer (some ⟨g, off + j * 12 + 1, none⟩)) [(79, .pointer (some ⟨g, off + j * 12, none⟩))] rfl (by rintro ρ ⟨e79, ec⟩ w hSw; obtain ⟨s0, s1, s2, s3⟩ := hSw; go_simp) hHeld ?_
          refine tkB 41 (.int .i64 ys) [(80, .pointer (some ⟨g, off + j * 12 + 1, none⟩))] rfl (by rintro ρ ⟨e80, ec⟩ w hSw; obtain ⟨s0, s1, s2, s3⟩ := hSw; go_simp) hHeld ?_
          refine tkB 42 (.int .i64 (ys + 1)) [(81, .int .i64 ys)] rfl (by rintro ρ ⟨e81, ec⟩ w hSw; obtain ⟨s0, s1, s2, s3⟩ := hSw; have k0 := ec (Value.int IntKind.i64 1); go_simp) hHeld ?_
          refine tkB 43 (.bool false) [(75, .int .i64 (ys + 1)), (82, .int .i64 (ys + 1))] rfl (by rintro ρ ⟨e75, e82, ec⟩ w hSw; obtain ⟨s0, s1, s2, s3⟩ := hSw; go_simp) hHeld ?_
          refine tkB 44 (.bool false) [(70, .bool true), (83, .bool false)] rfl (by rintro ρ ⟨e70, e83, ec⟩ w hSw; obtain ⟨s0, s1, s2, s3⟩ := hSw; have k0 := ec (Value.bool false); go_simp) hHeld ?_
          refine tkB 45 (.bool false) [(67, .bool false), (84, .bool false)] rfl (by rintro ρ ⟨e67, e84, ec⟩ w hSw; obtain ⟨s0, s1, s2, s3⟩ := hSw; have k0 := ec (Value.bool true); go_simp) hHeld ?_
          refine wpAnyH_done (by kernel_rfl) ?_ _
          refine actN ⟨#[.slice (some ⟨g, off, none⟩) L.length cap, undef, u2, .int .i64 ((i : Int)), .bool false, undef, undef, undef, undef, .slice (some ⟨g, off, none⟩) L.length cap, .int .i64 ((L.length : Int)), .bool false, .int .i64 ((i : Int)), .slice (some ⟨g, off, none⟩) L.length cap, .int .i64 ((L.length : Int)), .bool true, u16, u17, .slice (some ⟨g, off, none⟩) L.length cap, .int .i64 ((i : Int)), .pointer (some ⟨g, off + i * 12, none⟩), .agg #[.int .i64 xa, .int .i64 (ys + 1), .int .i64 xt, xdv, .int .i64 xk, .int .i64 xo, .int .i64 xn, .int .i64 xu, .int .i64 xpt, .int .i64 xpa, .string xky, .string xtx], .bool true, .bool false, .int .i64 ((i : Int)), .bool false, .bool false, .slice (some ⟨g, off, none⟩) L.length cap, .int .i64 ((i : Int)), .pointer (some ⟨g, off + i * 12, none⟩), .pointer (some ⟨g, off + i * 12, none⟩), .int .i64 xa, .slice (some ⟨g, off, none⟩) L.length cap, .int .i64 ((i : Int)), .int .i64 ((j : Int)), .pointer (some ⟨g, off + j * 12, none⟩), .pointer (some ⟨g, off + j * 12, none⟩), .int .i64 xa, .bool false, .bool false, .bool false, .bool false, undef, undef, undef, undef, undef, undef, undef, undef, undef, undef, undef, undef, undef, undef, undef, undef, undef, undef, undef, undef, undef, undef, undef, undef, .bool false, .bool false, .bool false, .bool true, .bool true, .slice (some ⟨g, off, none⟩) L.length cap, .int .i64 ((i : Int)), .pointer (some ⟨g, off + i * 12, none⟩), .pointer (some ⟨g, off + i * 12 + 1, none⟩), .int .i64 (ys + 1), .slice (some ⟨g, off, none⟩) L.length cap, .int .i64 ((i : Int)), .int .i64 ((j : Int)), .pointer (some ⟨g, off + j * 12, none⟩), .pointer (some ⟨g, off + j * 12 + 1, none⟩), .int .i64 ys, .int .i64 (ys + 1), .bool false, .bool false, .bool false, undef, undef, undef, undef, undef, undef, undef, undef, undef, undef, undef, undef, undef, undef, undef, undef, undef, undef, undef, undef, undef, undef, undef, undef, undef, undef, undef, undef, undef, undef, undef, undef, undef, undef, undef, undef, undef, undef, undef, undef, undef, undef, undef, undef, undef, undef, undef, undef, undef, undef, undef, undef], []⟩ ?_
          clear hj0 hj1 hj2 hj3 hw6 hjl hw7
          go_wp2_with fail
          go_roundw
          case rel => exact ⟨i + 1, by have := HIF.out; omega, by go_num, (hBw.trans (hb.mono hBw.size)).drew.drew⟩
          case measure => simp [intOf]; omega
        · have HIJ : Hid (i = j + 1) := hij
          have hy := (hcs j (by omega)).below (hBw.mono hC) hg
          have b0 := hy.c0
          have b1 := hy.c1
          clear hy hcs hxd hij
          generalize ovAt L i = x at *
          generalize ovAt L j = y at *
          obtain ⟨xa, xs, xt, xdv, xk, xo, xn, xu, xpt, xpa, xky, xtx, xds⟩ := x
          obtain ⟨ya, ys, yt, ydv, yk, yo, yn, yu, ypt, ypa, yky, ytx, yds⟩ := y
          simp only at c0 c1 c2 c3 c4 c5 c6 c7 c8 c9 c10 c11 hOK b0 b1 hxy hs hsj
          have a0 := c0
          have a1 := c1
          have HW : Hid (IntKind.i64.wrap (ys + 1) = ys + 1) := by unfold Hid; rw [IntKind.wrap_i64]; omega
          subst hs
          have HNE : Hid (¬ xa = ya) := by unfold Hid; omega
          have HNL : Hid (¬ xa < ya) := by unfold Hid; omega
          clear hok hsj hxy
          go_wp2_with ((go_at_call 25; refine hOK.mono ?_; clear c0 c1 c2 c3 c4 c5 c6 c7 c8 c9 c10 c11; rintro e w1 ⟨rfl, hb⟩; have d0 := (hb.cell (p := ⟨g, off + i * 12, none⟩) hgw).trans a0; have d1 := (hb.cell (p := ⟨g, off + i * 12 + 1, none⟩) hgw).trans a1; have e0 := (hb.cell (p := ⟨g, off + j * 12, none⟩) hgw).trans b0; have e1 := (hb.cell (p := ⟨g, off + j * 12 + 1, none⟩) hgw).trans b1))
          have hij := HIJ.out
          have hj0 : ((i : Int) == 0) = false := by simp; omega
          have hj1 : (0 : Int) < (i : Int) := by omega
          have hj2 : 0 < i := by omega
          have hj3 : (i : Int) - 1 = (j : Int) := by omega
          have hw6 : IntKind.i64.wrap (j : Int) = (j : Int) := by rw [IntKind.wrap_i64]; omega
          have hjl : (j : Int) < (L.length : Int) := by omega
          clear hij
          have hne := HNE.out
          have hnl := HNL.out
          refine wp_region_held_drew (S := fun w' => w'.cell? ⟨g, off + i * 12, none⟩ = some (.int .i64 xa) ∧ w'.cell? ⟨g, off + i * 12 + 1, none⟩ = some (.int .i64 1) ∧ w'.cell? ⟨g, off + j * 12, none⟩ = some (.int .i64 ya) ∧ w'.cell? ⟨g, off + j * 12 + 1, none⟩ = some (.int .i64 ys)) (by kernel_rfl) (⟨d0, d1, e0, e1⟩) (fun hHeld => ?_)
          refine tkB 0 (.int .i64 ((i : Int))) [(3, .int .i64 ((i : Int)))] rfl (by rintro ρ ⟨e3, ec⟩ w hSw; obtain ⟨s0, s1, s2, s3⟩ := hSw; go_simp) hHeld ?_
          refine tkB 1 (.bool false) [(24, .int .i64 ((i : Int)))] rfl (by rintro ρ ⟨e24, ec⟩ w hSw; obtain ⟨s0, s1, s2, s3⟩ := hSw; have k0 := ec (Value.int IntKind.i64 0); go_simp) hHeld ?_
          refine tkB 2 (.bool false) [(25, .bool false)] rfl (by rintro ρ ⟨e25, ec⟩ w hSw; obtain ⟨s0, s1, s2, s3⟩ := hSw; go_simp) hHeld ?_
          refine tkB 3 (.slice (some ⟨g, off, none⟩) L.length cap) [(0, .slice (some ⟨g, off, none⟩) L.length cap)] rfl (by rintro ρ ⟨e0, ec⟩ w hSw; obtain ⟨s0, s1, s2, s3⟩ := hSw; go_simp) hHeld ?_
          refine tkB 4 (.int .i64 ((i : Int))) [(3, .int .i64 ((i : Int)))] rfl (by rintro ρ ⟨e3, ec⟩ w hSw; obtain ⟨s0, s1, s2, s3⟩ := hSw; go_simp) hHeld ?_
          refine tkB 5 (.pointer (some ⟨g, off + i * 12, none⟩)) [(27, .slice (some ⟨g, off, none⟩) L.length cap), (28, .int .i64 ((i : Int)))] rfl (by rintro ρ ⟨e27, e28, ec⟩ w hSw; obtain ⟨s0, s1, s2, s3⟩ := hSw; go_simp) hHeld ?_
          refine tkB 6 (.pointer (some ⟨g, off + i * 12, none⟩)) [(29, .pointer (some ⟨g, off + i * 12, none⟩))] rfl (by rintro ρ ⟨e29, ec⟩ w hSw; obtain ⟨s0, s1, s2, s3⟩ := hSw; go_simp) hHeld ?_
          refine tkB 7 (.int .i64 xa) [(30, .pointer (some ⟨g, off + i * 12, none⟩))] rfl (by rintro ρ ⟨e30, ec⟩ w hSw; obtain ⟨s0, s1, s2, s3⟩ := hSw; go_simp) hHeld ?_
          refine tkB 8 (.slice (some ⟨g, off, none⟩) L.length cap) [(0, .slice (some ⟨g, off, none⟩) L.length cap)] rfl (by rintro ρ ⟨e0, ec⟩ w hSw; obtain ⟨s0, s1, s2, s3⟩ := hSw; go_simp) hHeld ?_
          refine tkB 9 (.int .i64 ((i : Int))) [(3, .int .i64 ((i : Int)))] rfl (by rintro ρ ⟨e3, ec⟩ w hSw; obtain ⟨s0, s1, s2, s3⟩ := hSw; go_simp) hHeld ?_
          refine tkB 10 (.int .i64 ((j : Int))) [(33, .int .i64 ((i : Int)))] rfl (by rintro ρ ⟨e33, ec⟩ w hSw; obtain ⟨s0, s1, s2, s3⟩ := hSw; have k0 := ec (Value.int IntKind.i64 1); go_simp) hHeld ?_
          refine tkB 11 (.pointer (some ⟨g, off + j * 12, none⟩)) [(32, .slice (some ⟨g, off, none⟩) L.length cap), (34, .int .i64 ((j : Int)))] rfl (by rintro ρ ⟨e32, e34, ec⟩ w hSw; obtain ⟨s0, s1, s2, s3⟩ := hSw; go_simp) hHeld ?_
          refine tkB 12 (.pointer (some ⟨g, off + j * 12, none⟩)) [(35, .pointer (some ⟨g, off + j * 12, none⟩))] rfl (by rintro ρ ⟨e35, ec⟩ w hSw; obtain ⟨s0, s1, s2, s3⟩ := hSw; go_simp) hHeld ?_
          refine tkB 13 (.int .i64 ya) [(36, .pointer (some ⟨g, off + j * 12, none⟩))] rfl (by rintro ρ ⟨e36, ec⟩ w hSw; obtain ⟨s0, s1, s2, s3⟩ := hSw; go_simp) hHeld ?_
          refine tkB 14 (.bool true) [(31, .int .i64 xa), (37, .int .i64 ya)] rfl (by rintro ρ ⟨e31, e37, ec⟩ w hSw; obtain ⟨s0, s1, s2, s3⟩ := hSw; go_simp) hHeld ?_
          refine tkB 15 (.bool true) [(26, .bool false), (38, .bool true)] rfl (by rintro ρ ⟨e26, e38, ec⟩ w hSw; obtain ⟨s0, s1, s2, s3⟩ := hSw; have k0 := ec (Value.bool true); go_simp) hHeld ?_
          refine tkB 16 (.bool true) [(39, .bool true)] rfl (by rintro ρ ⟨e39, ec⟩ w hSw; obtain ⟨s0, s1, s2, s3⟩ := hSw; go_simp) hHeld ?_
          refine wpAnyH_done (by kernel_rfl) ?_ _
          refine actN ⟨#[.slice (some ⟨g, off, none⟩) L.length cap, undef, u2, .int .i64 ((i : Int)), .bool true, undef, undef, undef, undef, .slice (some ⟨g, off, none⟩) L.length cap, .int .i64 ((L.length : Int)), .bool false, .int .i64 ((i : Int)), .slice (some ⟨g, off, none⟩) L.length cap, .int .i64 ((L.length : Int)), .bool true, u16, u17, .slice (some ⟨g, off, none⟩) L.length cap, .int .i64 ((i : Int)), .pointer (some ⟨g, off + i * 12, none⟩), .agg #[.int .i64 xa, .int .i64 1, .int .i64 xt, xdv, .int .i64 xk, .int .i64 xo, .int .i64 xn, .int .i64 xu, .int .i64 xpt, .int .i64 xpa, .string xky, .string xtx], .bool true, .bool false, .int .i64 ((i : Int)), .bool false, .bool false, .slice (some ⟨g, off, none⟩) L.length cap, .int .i64 ((i : Int)), .pointer (some ⟨g, off + i * 12, none⟩), .pointer (some ⟨g, off + i * 12, none⟩), .int .i64 xa, .slice (some ⟨g, off, none⟩) L.length cap, .int .i64 ((i : Int)), .int .i64 ((j : Int)), .pointer (some ⟨g, off + j * 12, none⟩), .pointer (some ⟨g, off + j * 12, none⟩), .int .i64 ya, .bool true, .bool true, u40, u41, u42, u43, u44, u45, u46, u47, u48, u49, u50, u51, u52, u53, u54, u55, u56, u57, u58, u59, u60, u61, u62, u63, u64, u65, u66, u67, u68, u69, u70, u71, u72, u73, u74, u75, u76, u77, u78, u79, u80, u81, u82, u83, u84, u85, undef, undef, undef, undef, undef, undef, undef, undef, undef, undef, undef, undef, undef, undef, undef, undef, undef, undef, undef, undef, undef, undef, undef, undef, undef, undef, undef, undef, undef, undef, undef, undef, undef, undef, undef, undef, undef, undef, undef, undef, undef, undef, undef, undef, undef, undef, undef, undef, undef, undef, undef, undef], []⟩ ?_
          clear hj0 hj1 hj2 hj3 hw6 hjl hne hnl
          go_wp2_with fail
          have hij := HIJ.out
          have hj0 : ((i : Int) == 0) = false := by simp; omega
          have hj1 : (0 : Int) < (i : Int) := by omega
          have hj2 : 0 < i := by omega
          have hj3 : (i : Int) - 1 = (j : Int) := by omega
          have hw6 : IntKind.i64.wrap (j : Int) = (j : Int) := by rw [IntKind.wrap_i64]; omega
          have hjl : (j : Int) < (L.length : Int) := by omega
          clear hij
          have hne := HNE.out
          have hnl := HNL.out
          refine wp_region_held_drew (S := fun w' => w'.cell? ⟨g, off + i * 12, none⟩ = some (.int .i64 xa) ∧ w'.cell? ⟨g, off + i * 12 + 1, none⟩ = some (.int .i64 1) ∧ w'.cell? ⟨g, off + j * 12, none⟩ = some (.int .i64 ya) ∧ w'.cell? ⟨g, off + j * 12 + 1, none⟩ = some (.int .i64 ys)) (by kernel_rfl) (⟨d0, d1, e0, e1⟩) (fun hHeld => ?_)
          refine tkB 0 (.bool true) [(4, .bool true)] rfl (by rintro ρ ⟨e4, ec⟩ w hSw; obtain ⟨s0, s1, s2, s3⟩ := hSw; go_simp) hHeld ?_
          refine tkB 1 (.bool true) [(40, .bool true)] rfl (by rintro ρ ⟨e40, ec⟩ w hSw; obtain ⟨s0, s1, s2, s3⟩ := hSw; go_simp) hHeld ?_
          refine tkB 2 (.slice (some ⟨g, off, none⟩) L.length cap) [(0, .slice (some ⟨g, off, none⟩) L.length cap)] rfl (by rintro ρ ⟨e0, ec⟩ w hSw; obtain ⟨s0, s1, s2, s3⟩ := hSw; go_simp) hHeld ?_
          refine tkB 3 (.int .i64 ((i : Int))) [(3, .int .i64 ((i : Int)))] rfl (by rintro ρ ⟨e3, ec⟩ w hSw; obtain ⟨s0, s1, s2, s3⟩ := hSw; go_simp) hHeld ?_
          refine tkB 4 (.pointer (some ⟨g, off + i * 12, none⟩)) [(42, .slice (some ⟨g, off, none⟩) L.length cap), (43, .int .i64 ((i : Int)))] rfl (by rintro ρ ⟨e42, e43, ec⟩ w hSw; obtain ⟨s0, s1, s2, s3⟩ := hSw; go_simp) hHeld ?_
          refine tkB 5 (.pointer (some ⟨g, off + i * 12 + 1, none⟩)) [(44, .pointer (some ⟨g, off + i * 12, none⟩))] rfl (by rintro ρ ⟨e44, ec⟩ w hSw; obtain ⟨s0, s1, s2, s3⟩ := hSw; go_simp) hHeld ?_
          refine tkB 6 (.int .i64 1) [(45, .pointer (some ⟨g, off + i * 12 + 1, none⟩))] rfl (by rintro ρ ⟨e45, ec⟩ w hSw; obtain ⟨s0, s1, s2, s3⟩ := hSw; go_simp) hHeld ?_
          refine tkB 7 (.bool false) [(46, .int .i64 1)] rfl (by rintro ρ ⟨e46, ec⟩ w hSw; obtain ⟨s0, s1, s2, s3⟩ := hSw; have k0 := ec (Value.int IntKind.i64 1); go_simp) hHeld ?_
          refine tkB 8 (.bool false) [(47, .bool false)] rfl (by rintro ρ ⟨e47, ec⟩ w hSw; obtain ⟨s0, s1, s2, s3⟩ := hSw; go_simp) hHeld ?_
          refine tkB 9 (.int .i64 ((i : Int))) [(3, .int .i64 ((i : Int)))] rfl (by rintro ρ ⟨e3, ec⟩ w hSw; obtain ⟨s0, s1, s2, s3⟩ := hSw; go_simp) hHeld ?_
          refine tkB 10 (.bool true) [(49, .int .i64 ((i : Int)))] rfl (by rintro ρ ⟨e49, ec⟩ w hSw; obtain ⟨s0, s1, s2, s3⟩ := hSw; have k0 := ec (Value.int IntKind.i64 0); go_simp) hHeld ?_
          refine tkB 11 (.bool true) [(50, .bool true)] rfl (by rintro ρ ⟨e50, ec⟩ w hSw; obtain ⟨s0, s1, s2, s3⟩ := hSw; go_simp) hHeld ?_
          refine tkB 12 (.slice (some ⟨g, off, none⟩) L.length cap) [(0, .slice (some ⟨g, off, none⟩) L.length cap)] rfl (by rintro ρ ⟨e0, ec⟩ w hSw; obtain ⟨s0, s1, s2, s3⟩ := hSw; go_simp) hHeld ?_
          refine tkB 13 (.int .i64 ((i : Int))) [(3, .int .i64 ((i : Int)))] rfl (by rintro ρ ⟨e3, ec⟩ w hSw; obtain ⟨s0, s1, s2, s3⟩ := hSw; go_simp) hHeld ?_
          refine tkB 14 (.pointer (some ⟨g, off + i * 12, none⟩)) [(52, .slice (some ⟨g, off, none⟩) L.length cap), (53, .int .i64 ((i : Int)))] rfl (by rintro ρ ⟨e52, e53, ec⟩ w hSw; obtain ⟨s0, s1, s2, s3⟩ := hSw; go_simp) hHeld ?_
          refine tkB 15 (.pointer (some ⟨g, off + i * 12, none⟩)) [(54, .pointer (some ⟨g, off + i * 12, none⟩))] rfl (by rintro ρ ⟨e54, ec⟩ w hSw; obtain ⟨s0, s1, s2, s3⟩ := hSw; go_simp) hHeld ?_
          refine tkB 16 (.int .i64 xa) [(55, .pointer (some ⟨g, off + i * 12, none⟩))] rfl (by rintro ρ ⟨e55, ec⟩ w hSw; obtain ⟨s0, s1, s2, s3⟩ := hSw; go_simp) hHeld ?_
          refine tkB 17 (.slice (some ⟨g, off, none⟩) L.length cap) [(0, .slice (some ⟨g, off, none⟩) L.length cap)] rfl (by rintro ρ ⟨e0, ec⟩ w hSw; obtain ⟨s0, s1, s2, s3⟩ := hSw; go_simp) hHeld ?_
          refine tkB 18 (.int .i64 ((i : Int))) [(3, .int .i64 ((i : Int)))] rfl (by rintro ρ ⟨e3, ec⟩ w hSw; obtain ⟨s0, s1, s2, s3⟩ := hSw; go_simp) hHeld ?_
          refine tkB 19 (.int .i64 ((j : Int))) [(58, .int .i64 ((i : Int)))] rfl (by rintro ρ ⟨e58, ec⟩ w hSw; obtain ⟨s0, s1, s2, s3⟩ := hSw; have k0 := ec (Value.int IntKind.i64 1); go_simp) hHeld ?_
          refine tkB 20 (.pointer (some ⟨g, off + j * 12, none⟩)) [(57, .slice (some ⟨g, off, none⟩) L.length cap), (59, .int .i64 ((j : Int)))] rfl (by rintro ρ ⟨e57, e59, ec⟩ w hSw; obtain ⟨s0, s1, s2, s3⟩ := hSw; go_simp) hHeld ?_
          refine tkB 21 (.pointer (some ⟨g, off + j * 12, none⟩)) [(60, .pointer (some ⟨g, off + j * 12, none⟩))] rfl (by rintro ρ ⟨e60, ec⟩ w hSw; obtain ⟨s0, s1, s2, s3⟩ := hSw; go_simp) hHeld ?_
          refine tkB 22 (.int .i64 ya) [(61, .pointer (some ⟨g, off + j * 12, none⟩))] rfl (by rintro ρ ⟨e61, ec⟩ w hSw; obtain ⟨s0, s1, s2, s3⟩ := hSw; go_simp) hHeld ?_
          refine tkB 23 (.bool false) [(56, .int .i64 xa), (62, .int .i64 ya)] rfl (by rintro ρ ⟨e56, e62, ec⟩ w hSw; obtain ⟨s0, s1, s2, s3⟩ := hSw; go_simp) hHeld ?_
          refine tkB 24 (.bool false) [(51, .bool true), (63, .bool false)] rfl (by rintro ρ ⟨e51, e63, ec⟩ w hSw; obtain ⟨s0, s1, s2, s3⟩ := hSw; have k0 := ec (Value.bool false); go_simp) hHeld ?_
          refine tkB 25 (.bool false) [(48, .bool false), (64, .bool false)] rfl (by rintro ρ ⟨e48, e64, ec⟩ w hSw; obtain ⟨s0, s1, s2, s3⟩ := hSw; have k0 := ec (Value.bool true); go_simp) hHeld ?_
          refine tkB 26 (.bool false) [(41, .bool true), (65, .bool false)] rfl (by rintro ρ ⟨e41, e65, ec⟩ w hSw; obtain ⟨s0, s1, s2, s3⟩ := hSw; have k0 := ec (Value.bool false); go_simp) hHeld ?_
          refine tkB 27 (.bool false) [(66, .bool false)] rfl (by rintro ρ ⟨e66, ec⟩ w hSw; obtain ⟨s0, s1, s2, s3⟩ := hSw; go_simp) hHeld ?_
          refine tkB 28 (.bool true) [(4, .bool true)] rfl (by rintro ρ ⟨e4, ec⟩ w hSw; obtain ⟨s0, s1, s2, s3⟩ := hSw; go_simp) hHeld ?_
          refine tkB 29 (.bool false) [(68, .bool true)] rfl (by rintro ρ ⟨e68, ec⟩ w hSw; obtain ⟨s0, s1, s2, s3⟩ := hSw; go_simp) hHeld ?_
          refine tkB 30 (.bool false) [(69, .bool false)] rfl (by rintro ρ ⟨e69, ec⟩ w hSw; obtain ⟨s0, s1, s2, s3⟩ := hSw; go_simp) hHeld ?_
          refine tkN 31 rfl hHeld ?_
          refine tkN 32 rfl hHeld ?_
          refine tkN 33 rfl hHeld ?_
          refine tkN 34 rfl hHeld ?_
          refine tkN 35 rfl hHeld ?_
          refine tkN 36 rfl hHeld ?_
          refine tkN 37 rfl hHeld ?_
          refine tkN 38 rfl hHeld ?_
          refine tkN 39 rfl hHeld ?_
          refine tkN 40 rfl hHeld ?_
          refine tkN 41 rfl hHeld ?_
          refine tkN 42 rfl hHeld ?_
          refine tkN 43 rfl hHeld ?_
          refine tkB 44 (.bool false) [(70, .bool false), (83, undef)] rfl (by rintro ρ ⟨e70, e83, ec⟩ w hSw; obtain ⟨s0, s1, s2, s3⟩ := hSw; have k0 := ec (Value.bool false); go_simp) hHeld ?_
          refine tkB 45 (.bool false) [(67, .bool false), (84, .bool false)] rfl (by rintro ρ ⟨e67, e84, ec⟩ w hSw; obtain ⟨s0, s1, s2, s3⟩ := hSw; have k0 := ec (Value.bool true); go_simp) hHeld ?_
          refine wpAnyH_done (by kernel_rfl) ?_ _
          refine actN ⟨#[.slice (some ⟨g, off, none⟩) L.length cap, undef, u2, .int .i64 ((i : Int)), .bool true, undef, undef, undef, undef, .slice (some ⟨g, off, none⟩) L.length cap, .int .i64 ((L.length : Int)), .bool false, .int .i64 ((i : Int)), .slice (some ⟨g, off, none⟩) L.length cap, .int .i64 ((L.length : Int)), .bool true, u16, u17, .slice (some ⟨g, off, none⟩) L.length cap, .int .i64 ((i : Int)), .pointer (some ⟨g, off + i * 12, none⟩), .agg #[.int .i64 xa, .int .i64 1, .int .i64 xt, xdv, .int .i64 xk, .int .i64 xo, .int .i64 xn, .int .i64 xu, .int .i64 xpt, .int .i64 xpa, .string xky, .string xtx], .bool true, .bool false, .int .i64 ((i : Int)), .bool false, .bool false, .slice (some ⟨g, off, none⟩) L.length cap, .int .i64 ((i : Int)), .pointer (some ⟨g, off + i * 12, none⟩), .pointer (some ⟨g, off + i * 12, none⟩), .int .i64 xa, .slice (some ⟨g, off, none⟩) L.length cap, .int .i64 ((i : Int)), .int .i64 ((j : Int)), .pointer (some ⟨g, off + j * 12, none⟩), .pointer (some ⟨g, off + j * 12, none⟩), .int .i64 ya, .bool true, .bool true, .bool true, .bool true, .slice (some ⟨g, off, none⟩) L.length cap, .int .i64 ((i : Int)), .pointer (some ⟨g, off + i * 12, none⟩), .pointer (some ⟨g, off + i * 12 + 1, none⟩), .int .i64 1, .bool false, .bool false, .int .i64 ((i : Int)), .bool true, .bool true, .slice (some ⟨g, off, none⟩) L.length cap, .int .i64 ((i : Int)), .pointer (some ⟨g, off + i * 12, none⟩), .pointer (some ⟨g, off + i * 12, none⟩), .int .i64 xa, .slice (some ⟨g, off, none⟩) L.length cap, .int .i64 ((i : Int)), .int .i64 ((j : Int)), .pointer (some ⟨g, off + j * 12, none⟩), .pointer (some ⟨g, off + j * 12, none⟩), .int .i64 ya, .bool false, .bool false, .bool false, .bool false, .bool false, .bool true, .bool false, .bool false, undef, undef, undef, undef, undef, undef, undef, undef, undef, undef, undef, undef, undef, .bool false, .bool false, undef, undef, undef, undef, undef, undef, undef, undef, undef, undef, undef, undef, undef, undef, undef, undef, undef, undef, undef, undef, undef, undef, undef, undef, undef, undef, undef, undef, undef, undef, undef, undef, undef, undef, undef, undef, undef, undef, undef, undef, undef, undef, undef, undef, undef, undef, undef, undef, undef, undef, undef, undef], []⟩ ?_
          clear hj0 hj1 hj2 hj3 hw6 hjl hne hnl
          go_wp2_with fail
          go_roundw
          case rel => exact ⟨i + 1, by have := HIF.out; omega, by go_num, (hBw.trans (hb.mono hBw.size)).drew.drew⟩
          case measure => simp [intOf]; omega

set_option maxHeartbeats 8000000 in
set_option maxRecDepth 100000 in
theorem logSpec_B5 (C : Nat) (w : World) (v : Value) (L : List Ov) (hC : C ≤ w.heap.size) (hr : RdO C w v L) (hlen : L.length ≤ 1024) (f : Nat) (hf : f < L.length) (HGD : Hid (∀ q, q < f → stepN L q = true)) (hok : (ovAt L f).ok = true) (j : Nat) (hfj : f = j + 1) (hxy : (ovAt L j).a < (ovAt L f).a) (hs : ¬ (ovAt L f).s = 1) :
    Calls Try.prog 14 #[v] w fun e w' => e = .returned (.bool false) ∧ Below w.heap.size w w' := by
  have hr0 := hr
  obtain ⟨⟨ao, cap, rfl, hcap, hmax, hnil, hrow⟩, hdv⟩ := hr
  unfold maxLen at hmax
  have hlen' : ¬ (1024 : Int) < (L.length : Int) := by omega
  go_enter Try.func14, Try.ntmps14
  go_wp2_with fail
  go_loopw [3] (fun ti wr => ∃ (i : Nat), i ≤ f ∧ ti = .int .i64 (i : Int) ∧ Below w.heap.size w wr) (fun ti _ => L.length - (intOf ti).toNat)
  case atStart => exact ⟨0, Nat.zero_le _, rfl, Below.refl _ _⟩
  case round =>
    obtain ⟨i, hi, rfl, hBw⟩ := hrel
    by_cases hif : i = f
    · subst hif
      have hlt : i < L.length := hf
      have hki : (i : Int) < (L.length : Int) := by omega
      have hk2 : (i : Int) + 1 < 9223372036854775808 := by omega
      have hsz := hBw.size
      obtain ⟨g, off, rfl, hg, hcs⟩ := hrow (by omega)
      have hx := (hcs i hlt).below (hBw.mono hC) hg
      have hxd := (hdv _ (ovAt_mem hlt)).below (hBw.mono hC)
      have hgw : g < wr.heap.size := by omega
      have hOK := specOpOK_any C (ovAt L i).a (ovAt L i).s (ovAt L i).t (ovAt L i).k (ovAt L i).o (ovAt L i).n (ovAt L i).u (ovAt L i).pt (ovAt L i).pa (ovAt L i).dv (ovAt L i).ky (ovAt L i).tx (ovAt L i).ds wr (by omega) hxd
      change Calls _ _ _ _ (fun e w' => e = .returned (.bool (ovAt L i).ok) ∧ Below wr.heap.size wr w') at hOK
      rw [hok] at hOK
      obtain ⟨c0, c1, c2, c3, c4, c5, c6, c7, c8, c9, c10, c11⟩ := hx
      have hij : i = j + 1 := hfj
      clear hfj
      have hsj := seq_bound (HGD.out j (by omega))
      have HIJ : Hid (i = j + 1) := hij
      have hy := (hcs j (by omega)).below (hBw.mono hC) hg
      have b0 := hy.c0
      have b1 := hy.c1
      clear hy hcs hxd hij
      generalize ovAt L i = x at *
      generalize ovAt L j = y at *
      obtain ⟨xa, xs, xt, xdv, xk, xo, xn, xu, xpt, xpa, xky, xtx, xds⟩ := x
      obtain ⟨ya, ys, yt, ydv, yk, yo, yn, yu, ypt, ypa, yky, ytx, yds⟩ := y
      simp only at c0 c1 c2 c3 c4 c5 c6 c7 c8 c9 c10 c11 hOK b0 b1 hxy hs hsj
      have a0 := c0
      have a1 := c1
      have HW : Hid (IntKind.i64.wrap (ys + 1) = ys + 1) := by unfold Hid; rw [IntKind.wrap_i64]; omega
      have HNE : Hid (¬ xa = ya) := by unfold Hid; omega
      have HNL : Hid (¬ xa < ya) := by unfold Hid; omega
      have HS : Hid (¬ xs = 1) := hs
      clear hok hsj hxy hs
      go_wp2_with ((go_at_call 25; refine hOK.mono ?_; clear c0 c1 c2 c3 c4 c5 c6 c7 c8 c9 c10 c11; rintro e w1 ⟨rfl, hb⟩; have d0 := (hb.cell (p := ⟨g, off + i * 12, none⟩) hgw).trans a0; have d1 := (hb.cell (p := ⟨g, off + i * 12 + 1, none⟩) hgw).trans a1; have e0 := (hb.cell (p := ⟨g, off + j * 12, none⟩) hgw).trans b0; have e1 := (hb.cell (p := ⟨g, off + j * 12 + 1, none⟩) hgw).trans b1))
      have hij := HIJ.out
      have hj0 : ((i : Int) == 0) = false := by simp; omega
      have hj1 : (0 : Int) < (i : Int) := by omega
      have hj2 : 0 < i := by omega
      have hj3 : (i : Int) - 1 = (j : Int) := by omega
      have hw6 : IntKind.i64.wrap (j : Int) = (j : Int) := by rw [IntKind.wrap_i64]; omega
      have hjl : (j : Int) < (L.length : Int) := by omega
      clear hij
      have hne := HNE.out
      have hnl := HNL.out
      have hs' := HS.out
      refine wp_region_held_drew (S := fun w' => w'.cell? ⟨g, off + i * 12, none⟩ = some (.int .i64 xa) ∧ w'.cell? ⟨g, off + i * 12 + 1, none⟩ = some (.int .i64 xs) ∧ w'.cell? ⟨g, off + j * 12, none⟩ = some (.int .i64 ya) ∧ w'.cell? ⟨g, off + j * 12 + 1, none⟩ = some (.int .i64 ys)) (by kernel_rfl) (⟨d0, d1, e0, e1⟩) (fun hHeld => ?_)
      refine tkB 0 (.int .i64 ((i : Int))) [(3, .int .i64 ((i : Int)))] rfl (by rintro ρ ⟨e3, ec⟩ w hSw; obtain ⟨s0, s1, s2, s3⟩ := hSw; go_simp) hHeld ?_
      refine tkB 1 (.bool false) [(24, .int .i64 ((i : Int)))] rfl (by rintro ρ ⟨e24, ec⟩ w hSw; obtain ⟨s0, s1, s2, s3⟩ := hSw; have k0 := ec (Value.int IntKind.i64 0); go_simp) hHeld ?_
      refine tkB 2 (.bool false) [(25, .bool false)] rfl (by rintro ρ ⟨e25, ec⟩ w hSw; obtain ⟨s0, s1, s2, s3⟩ := hSw; go_simp) hHeld ?_
      refine tkB 3 (.slice (some ⟨g, off, none⟩) L.length cap) [(0, .slice (some ⟨g, off, none⟩) L.length cap)] rfl (by rintro ρ ⟨e0, ec⟩ w hSw; obtain ⟨s0, s1, s2, s3⟩ := hSw; go_simp) hHeld ?_
      refine tkB 4 (.int .i64 ((i : Int))) [(3, .int .i64 ((i : Int)))] rfl (by rintro ρ ⟨e3, ec⟩ w hSw; obtain ⟨s0, s1, s2, s3⟩ := hSw; go_simp) hHeld ?_
      refine tkB 5 (.pointer (some ⟨g, off + i * 12, none⟩)) [(27, .slice (some ⟨g, off, none⟩) L.length cap), (28, .int .i64 ((i : Int)))] rfl (by rintro ρ ⟨e27, e28, ec⟩ w hSw; obtain ⟨s0, s1, s2, s3⟩ := hSw; go_simp) hHeld ?_
      refine tkB 6 (.pointer (some ⟨g, off + i * 12, none⟩)) [(29, .pointer (some ⟨g, off + i * 12, none⟩))] rfl (by rintro ρ ⟨e29, ec⟩ w hSw; obtain ⟨s0, s1, s2, s3⟩ := hSw; go_simp) hHeld ?_
      refine tkB 7 (.int .i64 xa) [(30, .pointer (some ⟨g, off + i * 12, none⟩))] rfl (by rintro ρ ⟨e30, ec⟩ w hSw; obtain ⟨s0, s1, s2, s3⟩ := hSw; go_simp) hHeld ?_
      refine tkB 8 (.slice (some ⟨g, off, none⟩) L.length cap) [(0, .slice (some ⟨g, off, none⟩) L.length cap)] rfl (by rintro ρ ⟨e0, ec⟩ w hSw; obtain ⟨s0, s1, s2, s3⟩ := hSw; go_simp) hHeld ?_
      refine tkB 9 (.int .i64 ((i : Int))) [(3, .int .i64 ((i : Int)))] rfl (by rintro ρ ⟨e3, ec⟩ w hSw; obtain ⟨s0, s1, s2, s3⟩ := hSw; go_simp) hHeld ?_
      refine tkB 10 (.int .i64 ((j : Int))) [(33, .int .i64 ((i : Int)))] rfl (by rintro ρ ⟨e33, ec⟩ w hSw; obtain ⟨s0, s1, s2, s3⟩ := hSw; have k0 := ec (Value.int IntKind.i64 1); go_simp) hHeld ?_
      refine tkB 11 (.pointer (some ⟨g, off + j * 12, none⟩)) [(32, .slice (some ⟨g, off, none⟩) L.length cap), (34, .int .i64 ((j : Int)))] rfl (by rintro ρ ⟨e32, e34, ec⟩ w hSw; obtain ⟨s0, s1, s2, s3⟩ := hSw; go_simp) hHeld ?_
      refine tkB 12 (.pointer (some ⟨g, off + j * 12, none⟩)) [(35, .pointer (some ⟨g, off + j * 12, none⟩))] rfl (by rintro ρ ⟨e35, ec⟩ w hSw; obtain ⟨s0, s1, s2, s3⟩ := hSw; go_simp) hHeld ?_
      refine tkB 13 (.int .i64 ya) [(36, .pointer (some ⟨g, off + j * 12, none⟩))] rfl (by rintro ρ ⟨e36, ec⟩ w hSw; obtain ⟨s0, s1, s2, s3⟩ := hSw; go_simp) hHeld ?_
      refine tkB 14 (.bool true) [(31, .int .i64 xa), (37, .int .i64 ya)] rfl (by rintro ρ ⟨e31, e37, ec⟩ w hSw; obtain ⟨s0, s1, s2, s3⟩ := hSw; go_simp) hHeld ?_
      refine tkB 15 (.bool true) [(26, .bool false), (38, .bool true)] rfl (by rintro ρ ⟨e26, e38, ec⟩ w hSw; obtain ⟨s0, s1, s2, s3⟩ := hSw; have k0 := ec (Value.bool true); go_simp) hHeld ?_
      refine tkB 16 (.bool true) [(39, .bool true)] rfl (by rintro ρ ⟨e39, ec⟩ w hSw; obtain ⟨s0, s1, s2, s3⟩ := hSw; go_simp) hHeld ?_
      refine wpAnyH_done (by kernel_rfl) ?_ _
      refine actN ⟨#[.slice (some ⟨g, off, none⟩) L.length cap, undef, u2, .int .i64 ((i : Int)), .bool true, undef, undef, undef, undef, .slice (some ⟨g, off, none⟩) L.length cap, .int .i64 ((L.length : Int)), .bool false, .int .i64 ((i : Int)), .slice (some ⟨g, off, none⟩) L.length cap, .int .i64 ((L.length : Int)), .bool true, u16, u17, .slice (some ⟨g, off, none⟩) L.length cap, .int .i64 ((i : Int)), .pointer (some ⟨g, off + i * 12, none⟩), .agg #[.int .i64 xa, .int .i64 xs, .int .i64 xt, xdv, .int .i64 xk, .int .i64 xo, .int .i64 xn, .int .i64 xu, .int .i64 xpt, .int .i64 xpa, .string xky, .string xtx], .bool true, .bool false, .int .i64 ((i : Int)), .bool false, .bool false, .slice (some ⟨g, off, none⟩) L.length cap, .int .i64 ((i : Int)), .pointer (some ⟨g, off + i * 12, none⟩), .pointer (some ⟨g, off + i * 12, none⟩), .int .i64 xa, .slice (some ⟨g, off, none⟩) L.length cap, .int .i64 ((i : Int)), .int .i64 ((j : Int)), .pointer (some ⟨g, off + j * 12, none⟩), .pointer (some ⟨g, off + j * 12, none⟩), .int .i64 ya, .bool true, .bool true, u40, u41, u42, u43, u44, u45, u46, u47, u48, u49, u50, u51, u52, u53, u54, u55, u56, u57, u58, u59, u60, u61, u62, u63, u64, u65, u66, u67, u68, u69, u70, u71, u72, u73, u74, u75, u76, u77, u78, u79, u80, u81, u82, u83, u84, u85, undef, undef, undef, undef, undef, undef, undef, undef, undef, undef, undef, undef, undef, undef, undef, undef, undef, undef, undef, undef, undef, undef, undef, undef, undef, undef, undef, undef, undef, undef, undef, undef, undef, undef, undef, undef, undef, undef, undef, undef, undef, undef, undef, undef, undef, undef, undef, undef, undef, undef, undef, undef], []⟩ ?_
      clear hj0 hj1 hj2 hj3 hw6 hjl hne hnl hs'
      go_wp2_with fail
      have hij := HIJ.out
      have hj0 : ((i : Int) == 0) = false := by simp; omega
      have hj1 : (0 : Int) < (i : Int) := by omega
      have hj2 : 0 < i := by omega
      have hj3 : (i : Int) - 1 = (j : Int) := by omega
      have hw6 : IntKind.i64.wrap (j : Int) = (j : Int) := by rw [IntKind.wrap_i64]; omega
      have hjl : (j : Int) < (L.length : Int) := by omega
      clear hij
      have hne := HNE.out
      have hnl := HNL.out
      have hs' := HS.out
      refine wp_region_held_drew (S := fun w' => w'.cell? ⟨g, off + i * 12, none⟩ = some (.int .i64 xa) ∧ w'.cell? ⟨g, off + i * 12 + 1, none⟩ = some (.int .i64 xs) ∧ w'.cell? ⟨g, off + j * 12, none⟩ = some (.int .i64 ya) ∧ w'.cell? ⟨g, off + j * 12 + 1, none⟩ = some (.int .i64 ys)) (by kernel_rfl) (⟨d0, d1, e0, e1⟩) (fun hHeld => ?_)
      refine tkB 0 (.bool true) [(4, .bool true)] rfl (by rintro ρ ⟨e4, ec⟩ w hSw; obtain ⟨s0, s1, s2, s3⟩ := hSw; go_simp) hHeld ?_
      refine tkB 1 (.bool true) [(40, .bool true)] rfl (by rintro ρ ⟨e40, ec⟩ w hSw; obtain ⟨s0, s1, s2, s3⟩ := hSw; go_simp) hHeld ?_
      refine tkB 2 (.slice (some ⟨g, off, none⟩) L.length cap) [(0, .slice (some ⟨g, off, none⟩) L.length cap)] rfl (by rintro ρ ⟨e0, ec⟩ w hSw; obtain ⟨s0, s1, s2, s3⟩ := hSw; go_simp) hHeld ?_
      refine tkB 3 (.int .i64 ((i : Int))) [(3, .int .i64 ((i : Int)))] rfl (by rintro ρ ⟨e3, ec⟩ w hSw; obtain ⟨s0, s1, s2, s3⟩ := hSw; go_simp) hHeld ?_
      refine tkB 4 (.pointer (some ⟨g, off + i * 12, none⟩)) [(42, .slice (some ⟨g, off, none⟩) L.length cap), (43, .int .i64 ((i : Int)))] rfl (by rintro ρ ⟨e42, e43, ec⟩ w hSw; obtain ⟨s0, s1, s2, s3⟩ := hSw; go_simp) hHeld ?_
      refine tkB 5 (.pointer (some ⟨g, off + i * 12 + 1, none⟩)) [(44, .pointer (some ⟨g, off + i * 12, none⟩))] rfl (by rintro ρ ⟨e44, ec⟩ w hSw; obtain ⟨s0, s1, s2, s3⟩ := hSw; go_simp) hHeld ?_
      refine tkB 6 (.int .i64 xs) [(45, .pointer (some ⟨g, off + i * 12 + 1, none⟩))] rfl (by rintro ρ ⟨e45, ec⟩ w hSw; obtain ⟨s0, s1, s2, s3⟩ := hSw; go_simp) hHeld ?_
      refine tkB 7 (.bool true) [(46, .int .i64 xs)] rfl (by rintro ρ ⟨e46, ec⟩ w hSw; obtain ⟨s0, s1, s2, s3⟩ := hSw; have k0 := ec (Value.int IntKind.i64 1); go_simp) hHeld ?_
      refine tkB 8 (.bool true) [(47, .bool true)] rfl (by rintro ρ ⟨e47, ec⟩ w hSw; obtain ⟨s0, s1, s2, s3⟩ := hSw; go_simp) hHeld ?_
      refine tkN 9 rfl hHeld ?_
      refine tkN 10 rfl hHeld ?_
      refine tkN 11 rfl hHeld ?_
      refine tkN 12 rfl hHeld ?_
      refine tkN 13 rfl hHeld ?_
      refine tkN 14 rfl hHeld ?_
      refine tkN 15 rfl hHeld ?_
      refine tkN 16 rfl hHeld ?_
      refine tkN 17 rfl hHeld ?_
      refine tkN 18 rfl hHeld ?_
      refine tkN 19 rfl hHeld ?_
      refine tkN 20 rfl hHeld ?_
      refine tkN 21 rfl hHeld ?_
      refine tkN 22 rfl hHeld ?_
      refine tkN 23 rfl hHeld ?_
      refine tkN 24 rfl hHeld ?_
      refine tkB 25 (.bool true) [(48, .bool true), (64, undef)] rfl (by rintro ρ ⟨e48, e64, ec⟩ w hSw; obtain ⟨s0, s1, s2, s3⟩ := hSw; have k0 := ec (Value.bool true); go_simp) hHeld ?_
      refine tkB 26 (.bool true) [(41, .bool true), (65, .bool true)] rfl (by rintro ρ ⟨e41, e65, ec⟩ w hSw; obtain ⟨s0, s1, s2, s3⟩ := hSw; have k0 := ec (Value.bool false); go_simp) hHeld ?_
      refine tkB 27 (.bool true) [(66, .bool true)] rfl (by rintro ρ ⟨e66, ec⟩ w hSw; obtain ⟨s0, s1, s2, s3⟩ := hSw; go_simp) hHeld ?_
      refine tkN 28 rfl hHeld ?_
      refine tkN 29 rfl hHeld ?_
      refine tkN 30 rfl hHeld ?_
      refine tkN 31 rfl hHeld ?_
      refine tkN 32 rfl hHeld ?_
      refine tkN 33 rfl hHeld ?_
      refine tkN 34 rfl hHeld ?_
      refine tkN 35 rfl hHeld ?_
      refine tkN 36 rfl hHeld ?_
      refine tkN 37 rfl hHeld ?_
      refine tkN 38 rfl hHeld ?_
      refine tkN 39 rfl hHeld ?_
      refine tkN 40 rfl hHeld ?_
      refine tkN 41 rfl hHeld ?_
      refine tkN 42 rfl hHeld ?_
      refine tkN 43 rfl hHeld ?_
      refine tkN 44 rfl hHeld ?_
      refine tkB 45 (.bool true) [(67, .bool true), (84, undef)] rfl (by rintro ρ ⟨e67, e84, ec⟩ w hSw; obtain ⟨s0, s1, s2, s3⟩ := hSw; have k0 := ec (Value.bool true); go_simp) hHeld ?_
      refine wpAnyH_done (by kernel_rfl) ?_ _
      refine actN ⟨#[.slice (some ⟨g, off, none⟩) L.length cap, undef, u2, .int .i64 ((i : Int)), .bool true, undef, undef, undef, undef, .slice (some ⟨g, off, none⟩) L.length cap, .int .i64 ((L.length : Int)), .bool false, .int .i64 ((i : Int)), .slice (some ⟨g, off, none⟩) L.length cap, .int .i64 ((L.length : Int)), .bool true, u16, u17, .slice (some ⟨g, off, none⟩) L.length cap, .int .i64 ((i : Int)), .pointer (some ⟨g, off + i * 12, none⟩), .agg #[.int .i64 xa, .int .i64 xs, .int .i64 xt, xdv, .int .i64 xk, .int .i64 xo, .int .i64 xn, .int .i64 xu, .int .i64 xpt, .int .i64 xpa, .string xky, .string xtx], .bool true, .bool false, .int .i64 ((i : Int)), .bool false, .bool false, .slice (some ⟨g, off, none⟩) L.length cap, .int .i64 ((i : Int)), .pointer (some ⟨g, off + i * 12, none⟩), .pointer (some ⟨g, off + i * 12, none⟩), .int .i64 xa, .slice (some ⟨g, off, none⟩) L.length cap, .int .i64 ((i : Int)), .int .i64 ((j : Int)), .pointer (some ⟨g, off + j * 12, none⟩), .pointer (some ⟨g, off + j * 12, none⟩), .int .i64 ya, .bool true, .bool true, .bool true, .bool true, .slice (some ⟨g, off, none⟩) L.length cap, .int .i64 ((i : Int)), .pointer (some ⟨g, off + i * 12, none⟩), .pointer (some ⟨g, off + i * 12 + 1, none⟩), .int .i64 xs, .bool true, .bool true, undef, undef, undef, undef, undef, undef, undef, undef, undef, undef, undef, undef, undef, undef, undef, undef, .bool true, .bool true, .bool true, undef, undef, undef, undef, undef, undef, undef, undef, undef, undef, undef, undef, undef, undef, undef, undef, undef, .bool true, undef, undef, undef, undef, undef, undef, undef, undef, undef, undef, undef, undef, undef, undef, undef, undef, undef, undef, undef, undef, undef, undef, undef, undef, undef, undef, undef, undef, undef, undef, undef, undef, undef, undef, undef, undef, undef, undef, undef, undef, undef, undef, undef, undef, undef, undef, undef, undef, undef, undef, undef, undef], []⟩ ?_
      clear hj0 hj1 hj2 hj3 hw6 hjl hne hnl hs'
      go_wp2_with fail
      go_ret
      exact ⟨rfl, (hBw.trans (hb.mono hBw.size)).drew.drew⟩
    · have hlt : i < L.length := by omega
      have HIF : Hid (i < f) := by unfold Hid; omega
      clear hif hi hok hfj hxy hs
      obtain ⟨hok, hcase⟩ := good_at hlt (fun q hq => HGD.out q (by have := HIF.out; omega))
      have hki : (i : Int) < (L.length : Int) := by omega
      have hk2 : (i : Int) + 1 < 9223372036854775808 := by omega
      have hsz := hBw.size
      obtain ⟨g, off, rfl, hg, hcs⟩ := hrow (by omega)
      have hx := (hcs i hlt).below (hBw.mono hC) hg
      have hxd := (hdv _ (ovAt_mem hlt)).below (hBw.mono hC)
      have hgw : g < wr.heap.size := by omega
      have hOK := specOpOK_any C (ovAt L i).a (ovAt L i).s (ovAt L i).t (ovAt L i).k (ovAt L i).o (ovAt L i).n (ovAt L i).u (ovAt L i).pt (ovAt L i).pa (ovAt L i).dv (ovAt L i).ky (ovAt L i).tx (ovAt L i).ds wr (by omega) hxd
      change Calls _ _ _ _ (fun e w' => e = .returned (.bool (ovAt L i).ok) ∧ Below wr.heap.size wr w') at hOK
      rw [hok] at hOK
      obtain ⟨c0, c1, c2, c3, c4, c5, c6, c7, c8, c9, c10, c11⟩ := hx
      rcases hcase with ⟨rfl, hs⟩ | ⟨j, hij, hcase⟩
      · generalize ovAt L 0 = x at *
        obtain ⟨xa, xs, xt, xdv, xk, xo, xn, xu, xpt, xpa, xky, xtx, xds⟩ := x
        simp only at c0 c1 c2 c3 c4 c5 c6 c7 c8 c9 c10 c11 hOK hs
        have a0 : wr.cell? ⟨g, off, none⟩ = some (.int .i64 xa) := by simpa using c0
        have a1 : wr.cell? ⟨g, off + 1, none⟩ = some (.int .i64 xs) := by simpa using c1
        simp only [Nat.zero_mul, Nat.add_zero] at c0 c1 c2 c3 c4 c5 c6 c7 c8 c9 c10 c11
        clear hcs hxd
        subst hs
        clear hok
        go_wp2_with ((go_at_call 25; refine hOK.mono ?_; clear c0 c1 c2 c3 c4 c5 c6 c7 c8 c9 c10 c11; rintro e w1 ⟨rfl, hb⟩; have d0 := (hb.cell (p := ⟨g, off, none⟩) hgw).trans a0; have d1 := (hb.cell (p := ⟨g, off + 1, none⟩) hgw).trans a1))
        refine wp_region_held_drew (S := fun w' => w'.cell? ⟨g, off, none⟩ = some (.int .i64 xa) ∧ w'.cell? ⟨g, off + 1, none⟩ = some (.int .i64 1)) (by kernel_rfl) (⟨d0, d1⟩) (fun hHeld => ?_)
        refine tkB 0 (.int .i64 0) [(3, .int .i64 0)] rfl (by rintro ρ ⟨e3, ec⟩ w hSw; obtain ⟨s0, s1⟩ := hSw; go_simp) hHeld ?_
        refine tkB 1 (.bool true) [(24, .int .i64 0)] rfl (by rintro ρ ⟨e24, ec⟩ w hSw; obtain ⟨s0, s1⟩ := hSw; have k0 := ec (Value.int IntKind.i64 0); go_simp) hHeld ?_
        refine tkB 2 (.bool true) [(25, .bool true)] rfl (by rintro ρ ⟨e25, ec⟩ w hSw; obtain ⟨s0, s1⟩ := hSw; go_simp) hHeld ?_
        refine tkN 3 rfl hHeld ?_
        refine tkN 4 rfl hHeld ?_
        refine tkN 5 rfl hHeld ?_
        refine tkN 6 rfl hHeld ?_
        refine tkN 7 rfl hHeld ?_
        refine tkN 8 rfl hHeld ?_
        refine tkN 9 rfl hHeld ?_
        refine tkN 10 rfl hHeld ?_
        refine tkN 11 rfl hHeld ?_
        refine tkN 12 rfl hHeld ?_
        refine tkN 13 rfl hHeld ?_
        refine tkN 14 rfl hHeld ?_
        refine tkB 15 (.bool true) [(26, .bool true), (38, undef)] rfl (by rintro ρ ⟨e26, e38, ec⟩ w hSw; obtain ⟨s0, s1⟩ := hSw; have k0 := ec (Value.bool true); go_simp) hHeld ?_
        refine tkB 16 (.bool true) [(39, .bool true)] rfl (by rintro ρ ⟨e39, ec⟩ w hSw; obtain ⟨s0, s1⟩ := hSw; go_simp) hHeld ?_
        refine wpAnyH_done (by kernel_rfl) ?_ _
        refine actN ⟨#[.slice (some ⟨g, off, none⟩) L.length cap, undef, u2, .int .i64 0, .bool true, undef, undef, undef, undef, .slice (some ⟨g, off, none⟩) L.length cap, .int .i64 ((L.length : Int)), .bool false, .int .i64 0, .slice (some ⟨g, off, none⟩) L.length cap, .int .i64 ((L.length : Int)), .bool true, u16, u17, .slice (some ⟨g, off, none⟩) L.length cap, .int .i64 0, .pointer (some ⟨g, off, none⟩), .agg #[.int .i64 xa, .int .i64 1, .int .i64 xt, xdv, .int .i64 xk, .int .i64 xo, .int .i64 xn, .int .i64 xu, .int .i64 xpt, .int .i64 xpa, .string xky, .string xtx], .bool true, .bool false, .int .i64 0, .bool true, .bool true, undef, undef, undef, undef, undef, undef, undef, undef, undef, undef, undef, undef, .bool true, u40, u41, u42, u43, u44, u45, u46, u47, u48, u49, u50, u51, u52, u53, u54, u55, u56, u57, u58, u59, u60, u61, u62, u63, u64, u65, u66, u67, u68, u69, u70, u71, u72, u73, u74, u75, u76, u77, u78, u79, u80, u81, u82, u83, u84, u85, undef, undef, undef, undef, undef, undef, undef, undef, undef, undef, undef, undef, undef, undef, undef, undef, undef, undef, undef, undef, undef, undef, undef, undef, undef, undef, undef, undef, undef, undef, undef, undef, undef, undef, undef, undef, undef, undef, undef, undef, undef, undef, undef, undef, undef, undef, undef, undef, undef, undef, undef, undef], []⟩ ?_
        go_wp2_with fail
        refine wp_region_held_drew (S := fun w' => w'.cell? ⟨g, off, none⟩ = some (.int .i64 xa) ∧ w'.cell? ⟨g, off + 1, none⟩ = some (.int .i64 1)) (by kernel_rfl) (⟨d0, d1⟩) (fun hHeld => ?_)
        refine tkB 0 (.bool true) [(4, .bool true)] rfl (by rintro ρ ⟨e4, ec⟩ w hSw; obtain ⟨s0, s1⟩ := hSw; go_simp) hHeld ?_
        refine tkB 1 (.bool true) [(40, .bool true)] rfl (by rintro ρ ⟨e40, ec⟩ w hSw; obtain ⟨s0, s1⟩ := hSw; go_simp) hHeld ?_
        refine tkB 2 (.slice (some ⟨g, off, none⟩) L.length cap) [(0, .slice (some ⟨g, off, none⟩) L.length cap)] rfl (by rintro ρ ⟨e0, ec⟩ w hSw; obtain ⟨s0, s1⟩ := hSw; go_simp) hHeld ?_
        refine tkB 3 (.int .i64 0) [(3, .int .i64 0)] rfl (by rintro ρ ⟨e3, ec⟩ w hSw; obtain ⟨s0, s1⟩ := hSw; go_simp) hHeld ?_
        refine tkB 4 (.pointer (some ⟨g, off, none⟩)) [(42, .slice (some ⟨g, off, none⟩) L.length cap), (43, .int .i64 0)] rfl (by rintro ρ ⟨e42, e43, ec⟩ w hSw; obtain ⟨s0, s1⟩ := hSw; go_simp) hHeld ?_
        refine tkB 5 (.pointer (some ⟨g, off + 1, none⟩)) [(44, .pointer (some ⟨g, off, none⟩))] rfl (by rintro ρ ⟨e44, ec⟩ w hSw; obtain ⟨s0, s1⟩ := hSw; go_simp) hHeld ?_
        refine tkB 6 (.int .i64 1) [(45, .pointer (some ⟨g, off + 1, none⟩))] rfl (by rintro ρ ⟨e45, ec⟩ w hSw; obtain ⟨s0, s1⟩ := hSw; go_simp) hHeld ?_
        refine tkB 7 (.bool false) [(46, .int .i64 1)] rfl (by rintro ρ ⟨e46, ec⟩ w hSw; obtain ⟨s0, s1⟩ := hSw; have k0 := ec (Value.int IntKind.i64 1); go_simp) hHeld ?_
        refine tkB 8 (.bool false) [(47, .bool false)] rfl (by rintro ρ ⟨e47, ec⟩ w hSw; obtain ⟨s0, s1⟩ := hSw; go_simp) hHeld ?_
        refine tkB 9 (.int .i64 0) [(3, .int .i64 0)] rfl (by rintro ρ ⟨e3, ec⟩ w hSw; obtain ⟨s0, s1⟩ := hSw; go_simp) hHeld ?_
        refine tkB 10 (.bool false) [(49, .int .i64 0)] rfl (by rintro ρ ⟨e49, ec⟩ w hSw; obtain ⟨s0, s1⟩ := hSw; have k0 := ec (Value.int IntKind.i64 0); go_simp) hHeld ?_
        refine tkB 11 (.bool false) [(50, .bool false)] rfl (by rintro ρ ⟨e50, ec⟩ w hSw; obtain ⟨s0, s1⟩ := hSw; go_simp) hHeld ?_
        refine tkN 12 rfl hHeld ?_
        refine tkN 13 rfl hHeld ?_
        refine tkN 14 rfl hHeld ?_
        refine tkN 15 rfl hHeld ?_
        refine tkN 16 rfl hHeld ?_
        refine tkN 17 rfl hHeld ?_
        refine tkN 18 rfl hHeld ?_
        refine tkN 19 rfl hHeld ?_
        refine tkN 20 rfl hHeld ?_
        refine tkN 21 rfl hHeld ?_
        refine tkN 22 rfl hHeld ?_
        refine tkN 23 rfl hHeld ?_
        refine tkB 24 (.bool false) [(51, .bool false), (63, undef)] rfl (by rintro ρ ⟨e51, e63, ec⟩ w hSw; obtain ⟨s0, s1⟩ := hSw; have k0 := ec (Value.bool false); go_simp) hHeld ?_
        refine tkB 25 (.bool false) [(48, .bool false), (64, .bool false)] rfl (by rintro ρ ⟨e48, e64, ec⟩ w hSw; obtain ⟨s0, s1⟩ := hSw; have k0 := ec (Value.bool true); go_simp) hHeld ?_
        refine tkB 26 (.bool false) [(41, .bool true), (65, .bool false)] rfl (by rintro ρ ⟨e41, e65, ec⟩ w hSw; obtain ⟨s0, s1⟩ := hSw; have k0 := ec (Value.bool false); go_simp) hHeld ?_
        refine tkB 27 (.bool false) [(66, .bool false)] rfl (by rintro ρ ⟨e66, ec⟩ w hSw; obtain ⟨s0, s1⟩ := hSw; go_simp) hHeld ?_
        refine tkB 28 (.bool true) [(4, .bool true)] rfl (by rintro ρ ⟨e4, ec⟩ w hSw; obtain ⟨s0, s1⟩ := hSw; go_simp) hHeld ?_
        refine tkB 29 (.bool false) [(68, .bool true)] rfl (by rintro ρ ⟨e68, ec⟩ w hSw; obtain ⟨s0, s1⟩ := hSw; go_simp) hHeld ?_
        refine tkB 30 (.bool false) [(69, .bool false)] rfl (by rintro ρ ⟨e69, ec⟩ w hSw; obtain ⟨s0, s1⟩ := hSw; go_simp) hHeld ?_
        refine tkN 31 rfl hHeld ?_
        refine tkN 32 rfl hHeld ?_
        refine tkN 33 rfl hHeld ?_
        refine tkN 34 rfl hHeld ?_
        refine tkN 35 rfl hHeld ?_
        refine tkN 36 rfl hHeld ?_
        refine tkN 37 rfl hHeld ?_
        refine tkN 38 rfl hHeld ?_
        refine tkN 39 rfl hHeld ?_
        refine tkN 40 rfl hHeld ?_
        refine tkN 41 rfl hHeld ?_
        refine tkN 42 rfl hHeld ?_
        refine tkN 43 rfl hHeld ?_
        refine tkB 44 (.bool false) [(70, .bool false), (83, undef)] rfl (by rintro ρ ⟨e70, e83, ec⟩ w hSw; obtain ⟨s0, s1⟩ := hSw; have k0 := ec (Value.bool false); go_simp) hHeld ?_
        refine tkB 45 (.bool false) [(67, .bool false), (84, .bool false)] rfl (by rintro ρ ⟨e67, e84, ec⟩ w hSw; obtain ⟨s0, s1⟩ := hSw; have k0 := ec (Value.bool true); go_simp) hHeld ?_
        refine wpAnyH_done (by kernel_rfl) ?_ _
        refine actN ⟨#[.slice (some ⟨g, off, none⟩) L.length cap, undef, u2, .int .i64 0, .bool true, undef, undef, undef, undef, .slice (some ⟨g, off, none⟩) L.length cap, .int .i64 ((L.length : Int)), .bool false, .int .i64 0, .slice (some ⟨g, off, none⟩) L.length cap, .int .i64 ((L.length : Int)), .bool true, u16, u17, .slice (some ⟨g, off, none⟩) L.length cap, .int .i64 0, .pointer (some ⟨g, off, none⟩), .agg #[.int .i64 xa, .int .i64 1, .int .i64 xt, xdv, .int .i64 xk, .int .i64 xo, .int .i64 xn, .int .i64 xu, .int .i64 xpt, .int .i64 xpa, .string xky, .string xtx], .bool true, .bool false, .int .i64 0, .bool true, .bool true, undef, undef, undef, undef, undef, undef, undef, undef, undef, undef, undef, undef, .bool true, .bool true, .bool true, .slice (some ⟨g, off, none⟩) L.length cap, .int .i64 0, .pointer (some ⟨g, off, none⟩), .pointer (some ⟨g, off + 1, none⟩), .int .i64 1, .bool false, .bool false, .int .i64 0, .bool false, .bool false, undef, undef, undef, undef, undef, undef, undef, undef, undef, undef, undef, undef, .bool false, .bool false, .bool false, .bool false, .bool true, .bool false, .bool false, undef, undef, undef, undef, undef, undef, undef, undef, undef, undef, undef, undef, undef, .bool false, .bool false, undef, undef, undef, undef, undef, undef, undef, undef, undef, undef, undef, undef, undef, undef, undef, undef, undef, undef, undef, undef, undef, undef, undef, undef, undef, undef, undef, undef, undef, undef, undef, undef, undef, undef, undef, undef, undef, undef, undef, undef, undef, undef, undef, undef, undef, undef, undef, undef, undef, undef, undef, undef], []⟩ ?_
        go_wp2_with fail
        go_roundw
        case rel => exact ⟨0 + 1, by have := HIF.out; omega, by go_num, (hBw.trans (hb.mono hBw.size)).drew.drew⟩
        case measure => simp [intOf]; omega
      · have hsj := seq_bound (HGD.out j (by have := HIF.out; omega))
        rcases hcase with ⟨hxy, hs⟩ | ⟨hxy, hs⟩
        · have HIJ : Hid (i = j + 1) := hij
          have hy := (hcs j (by omega)).below (hBw.mono hC) hg
          have b0 := hy.c0
          have b1 := hy.c1
          clear hy hcs hxd hij
          generalize ovAt L i = x at *
          generalize ovAt L j = y at *
          obtain ⟨xa, xs, xt, xdv, xk, xo, xn, xu, xpt, xpa, xky, xtx, xds⟩ := x
          obtain ⟨ya, ys, yt, ydv, yk, yo, yn, yu, ypt, ypa, yky, ytx, yds⟩ := y
          simp only at c0 c1 c2 c3 c4 c5 c6 c7 c8 c9 c10 c11 hOK b0 b1 hxy hs hsj
          have a0 := c0
          have a1 := c1
          have HW : Hid (IntKind.i64.wrap (ys + 1) = ys + 1) := by unfold Hid; rw [IntKind.wrap_i64]; omega
          subst hxy
          subst hs
          clear hok hsj
          go_wp2_with ((go_at_call 25; refine hOK.mono ?_; clear c0 c1 c2 c3 c4 c5 c6 c7 c8 c9 c10 c11; rintro e w1 ⟨rfl, hb⟩; have d0 := (hb.cell (p := ⟨g, off + i * 12, none⟩) hgw).trans a0; have d1 := (hb.cell (p := ⟨g, off + i * 12 + 1, none⟩) hgw).trans a1; have e0 := (hb.cell (p := ⟨g, off + j * 12, none⟩) hgw).trans b0; have e1 := (hb.cell (p := ⟨g, off + j * 12 + 1, none⟩) hgw).trans b1))
          have hij := HIJ.out
          have hj0 : ((i : Int) == 0) = false := by simp; omega
          have hj1 : (0 : Int) < (i : Int) := by omega
          have hj2 : 0 < i := by omega
          have hj3 : (i : Int) - 1 = (j : Int) := by omega
          have hw6 : IntKind.i64.wrap (j : Int) = (j : Int) := by rw [IntKind.wrap_i64]; omega
          have hjl : (j : Int) < (L.length : Int) := by omega
          clear hij
          have hw7 : IntKind.i64.wrap (ys + 1) = ys + 1 := HW.out
          refine wp_region_held_drew (S := fun w' => w'.cell? ⟨g, off + i * 12, none⟩ = some (.int .i64 xa) ∧ w'.cell? ⟨g, off + i * 12 + 1, none⟩ = some (.int .i64 (ys + 1)) ∧ w'.cell? ⟨g, off + j * 12, none⟩ = some (.int .i64 xa) ∧ w'.cell? ⟨g, off + j * 12 + 1, none⟩ = some (.int .i64 ys)) (by kernel_rfl) (⟨d0, d1, e0, e1⟩) (fun hHeld => ?_)
          refine tkB 0 (.int .i64 ((i : Int))) [(3, .int .i64 ((i : Int)))] rfl (by rintro ρ ⟨e3, ec⟩ w hSw; obtain ⟨s0, s1, s2, s3⟩ := hSw; go_simp) hHeld ?_
          refine tkB 1 (.bool false) [(24, .int .i64 ((i : Int)))] rfl (by rintro ρ ⟨e24, ec⟩ w hSw; obtain ⟨s0, s1, s2, s3⟩ := hSw; have k0 := ec (Value.int IntKind.i64 0); go_simp) hHeld ?_
          refine tkB 2 (.bool false) [(25, .bool false)] rfl (by rintro ρ ⟨e25, ec⟩ w hSw; obtain ⟨s0, s1, s2, s3⟩ := hSw; go_simp) hHeld ?_
          refine tkB 3 (.slice (some ⟨g, off, none⟩) L.length cap) [(0, .slice (some ⟨g, off, none⟩) L.length cap)] rfl (by rintro ρ ⟨e0, ec⟩ w hSw; obtain ⟨s0, s1, s2, s3⟩ := hSw; go_simp) hHeld ?_
          refine tkB 4 (.int .i64 ((i : Int))) [(3, .int .i64 ((i : Int)))] rfl (by rintro ρ ⟨e3, ec⟩ w hSw; obtain ⟨s0, s1, s2, s3⟩ := hSw; go_simp) hHeld ?_
          refine tkB 5 (.pointer (some ⟨g, off + i * 12, none⟩)) [(27, .slice (some ⟨g, off, none⟩) L.length cap), (28, .int .i64 ((i : Int)))] rfl (by rintro ρ ⟨e27, e28, ec⟩ w hSw; obtain ⟨s0, s1, s2, s3⟩ := hSw; go_simp) hHeld ?_
          refine tkB 6 (.pointer (some ⟨g, off + i * 12, none⟩)) [(29, .pointer (some ⟨g, off + i * 12, none⟩))] rfl (by rintro ρ ⟨e29, ec⟩ w hSw; obtain ⟨s0, s1, s2, s3⟩ := hSw; go_simp) hHeld ?_
          refine tkB 7 (.int .i64 xa) [(30, .pointer (some ⟨g, off + i * 12, none⟩))] rfl (by rintro ρ ⟨e30, ec⟩ w hSw; obtain ⟨s0, s1, s2, s3⟩ := hSw; go_simp) hHeld ?_
          refine tkB 8 (.slice (some ⟨g, off, none⟩) L.length cap) [(0, .slice (some ⟨g, off, none⟩) L.length cap)] rfl (by rintro ρ ⟨e0, ec⟩ w hSw; obtain ⟨s0, s1, s2, s3⟩ := hSw; go_simp) hHeld ?_
          refine tkB 9 (.int .i64 ((i : Int))) [(3, .int .i64 ((i : Int)))] rfl (by rintro ρ ⟨e3, ec⟩ w hSw; obtain ⟨s0, s1, s2, s3⟩ := hSw; go_simp) hHeld ?_
          refine tkB 10 (.int .i64 ((j : Int))) [(33, .int .i64 ((i : Int)))] rfl (by rintro ρ ⟨e33, ec⟩ w hSw; obtain ⟨s0, s1, s2, s3⟩ := hSw; have k0 := ec (Value.int IntKind.i64 1); go_simp) hHeld ?_
          refine tkB 11 (.pointer (some ⟨g, off + j * 12, none⟩)) [(32, .slice (some ⟨g, off, none⟩) L.length cap), (34, .int .i64 ((j : Int)))] rfl (by rintro ρ ⟨e32, e34, ec⟩ w hSw; obtain ⟨s0, s1, s2, s3⟩ := hSw; go_simp) hHeld ?_
          refine tkB 12 (.pointer (some ⟨g, off + j * 12, none⟩)) [(35, .pointer (some ⟨g, off + j * 12, none⟩))] rfl (by rintro ρ ⟨e35, ec⟩ w hSw; obtain ⟨s0, s1, s2, s3⟩ := hSw; go_simp) hHeld ?_
          refine tkB 13 (.int .i64 xa) [(36, .pointer (some ⟨g, off + j * 12, none⟩))] rfl (by rintro ρ ⟨e36, ec⟩ w hSw; obtain ⟨s0, s1, s2, s3⟩ := hSw; go_simp) hHeld ?_
          refine tkB 14 (.bool false) [(31, .int .i64 xa), (37, .int .i64 xa)] rfl (by rintro ρ ⟨e31, e37, ec⟩ w hSw; obtain ⟨s0, s1, s2, s3⟩ := hSw; go_simp) hHeld ?_
          refine tkB 15 (.bool false) [(26, .bool false), (38, .bool false)] rfl (by rintro ρ ⟨e26, e38, ec⟩ w hSw; obtain ⟨s0, s1, s2, s3⟩ := hSw; have k0 := ec (Value.bool true); go_simp) hHeld ?_
          refine tkB 16 (.bool false) [(39, .bool false)] rfl (by rintro ρ ⟨e39, ec⟩ w hSw; obtain ⟨s0, s1, s2, s3⟩ := hSw; go_simp) hHeld ?_
          refine wpAnyH_done (by kernel_rfl) ?_ _
          refine actN ⟨#[.slice (some ⟨g, off, none⟩) L.length cap, undef, u2, .int .i64 ((i : Int)), .bool false, undef, undef, undef, undef, .slice (some ⟨g, off, none⟩) L.length cap, .int .i64 ((L.length : Int)), .bool false, .int .i64 ((i : Int)), .slice (some ⟨g, off, none⟩) L.length cap, .int .i64 ((L.length : Int)), .bool true, u16, u17, .slice (some ⟨g, off, none⟩) L.length cap, .int .i64 ((i : Int)), .pointer (some ⟨g, off + i * 12, none⟩), .agg #[.int .i64 xa, .int .i64 (ys + 1), .int .i64 xt, xdv, .int .i64 xk, .int .i64 xo, .int .i64 xn, .int .i64 xu, .int .i64 xpt, .int .i64 xpa, .string xky, .string xtx], .bool true, .bool false, .int .i64 ((i : Int)), .bool false, .bool false, .slice (some ⟨g, off, none⟩) L.length cap, .int .i64 ((i : Int)), .pointer (some ⟨g, off + i * 12, none⟩), .pointer (some ⟨g, off + i * 12, none⟩), .int .i64 xa, .slice (some ⟨g, off, none⟩) L.length cap, .int .i64 ((i : Int)), .int .i64 ((j : Int)), .pointer (some ⟨g, off + j * 12, none⟩), .pointer (some ⟨g, off + j * 12, none⟩), .int .i64 xa, .bool false, .bool false, u40, u41, u42, u43, u44, u45, u46, u47, u48, u49, u50, u51, u52, u53, u54, u55, u56, u57, u58, u59, u60, u61, u62, u63, u64, u65, u66, u67, u68, u69, u70, u71, u72, u73, u74, u75, u76, u77, u78, u79, u80, u81, u82, u83, u84, u85, undef, undef, undef, undef, undef, undef, undef, undef, undef, undef, undef, undef, undef, undef, undef, undef, undef, undef, undef, undef, undef, undef, undef, undef, undef, undef, undef, undef, undef, undef, undef, undef, undef, undef, undef, undef, undef, undef, undef, undef, undef, undef, undef, undef, undef, undef, undef, undef, undef, undef, undef, undef], []⟩ ?_
          clear hj0 hj1 hj2 hj3 hw6 hjl hw7
          go_wp2_with fail
          have hij := HIJ.out
          have hj0 : ((i : Int) == 0) = false := by simp; omega
          have hj1 : (0 : Int) < (i : Int) := by omega
          have hj2 : 0 < i := by omega
          have hj3 : (i : Int) - 1 = (j : Int) := by omega
          have hw6 : IntKind.i64.wrap (j : Int) = (j : Int) := by rw [IntKind.wrap_i64]; omega
          have hjl : (j : Int) < (L.length : Int) := by omega
          clear hij
          have hw7 : IntKind.i64.wrap (ys + 1) = ys + 1 := HW.out
          refine wp_region_held_drew (S := fun w' => w'.cell? ⟨g, off + i * 12, none⟩ = some (.int .i64 xa) ∧ w'.cell? ⟨g, off + i * 12 + 1, none⟩ = some (.int .i64 (ys + 1)) ∧ w'.cell? ⟨g, off + j * 12, none⟩ = some (.int .i64 xa) ∧ w'.cell? ⟨g, off + j * 12 + 1, none⟩ = some (.int .i64 ys)) (by kernel_rfl) (⟨d0, d1, e0, e1⟩) (fun hHeld => ?_)
          refine tkB 0 (.bool false) [(4, .bool false)] rfl (by rintro ρ ⟨e4, ec⟩ w hSw; obtain ⟨s0, s1, s2, s3⟩ := hSw; go_simp) hHeld ?_
          refine tkB 1 (.bool false) [(40, .bool false)] rfl (by rintro ρ ⟨e40, ec⟩ w hSw; obtain ⟨s0, s1, s2, s3⟩ := hSw; go_simp) hHeld ?_
          refine tkN 2 rfl hHeld ?_
          refine tkN 3 rfl hHeld ?_
          refine tkN 4 rfl hHeld ?_
          refine tkN 5 rfl hHeld ?_
          refine tkN 6 rfl hHeld ?_
          refine tkN 7 rfl hHeld ?_
          refine tkN 8 rfl hHeld ?_
          refine tkN 9 rfl hHeld ?_
          refine tkN 10 rfl hHeld ?_
          refine tkN 11 rfl hHeld ?_
          refine tkN 12 rfl hHeld ?_
          refine tkN 13 rfl hHeld ?_
          refine tkN 14 rfl hHeld ?_
          refine tkN 15 rfl hHeld ?_
          refine tkN 16 rfl hHeld ?_
          refine tkN 17 rfl hHeld ?_
          refine tkN 18 rfl hHeld ?_
          refine tkN 19 rfl hHeld ?_
          refine tkN 20 rfl hHeld ?_
          refine tkN 21 rfl hHeld ?_
          refine tkN 22 rfl hHeld ?_
          refine tkN 23 rfl hHeld ?_
          refine tkN 24 rfl hHeld ?_
          refine tkN 25 rfl hHeld ?_
          refine tkB 26 (.bool false) [(41, .bool false), (65, undef)] rfl (by rintro ρ ⟨e41, e65, ec⟩ w hSw; obtain ⟨s0, s1, s2, s3⟩ := hSw; have k0 := ec (Value.bool false); go_simp) hHeld ?_
          refine tkB 27 (.bool false) [(66, .bool false)] rfl (by rintro ρ ⟨e66, ec⟩ w hSw; obtain ⟨s0, s1, s2, s3⟩ := hSw; go_simp) hHeld ?_
          refine tkB 28 (.bool false) [(4, .bool false)] rfl (by rintro ρ ⟨e4, ec⟩ w hSw; obtain ⟨s0, s1, s2, s3⟩ := hSw; go_simp) hHeld ?_
          refine tkB 29 (.bool true) [(68, .bool false)] rfl (by rintro ρ ⟨e68, ec⟩ w hSw; obtain ⟨s0, s1, s2, s3⟩ := hSw; go_simp) hHeld ?_
          refine tkB 30 (.bool true) [(69, .bool true)] rfl (by rintro ρ ⟨e69, ec⟩ w hSw; obtain ⟨s0, s1, s2, s3⟩ := hSw; go_simp) hHeld ?_
          refine tkB 31 (.slice (some ⟨g, off, none⟩) L.length cap) [(0, .slice (some ⟨g, off, none⟩) L.length cap)] rfl (by rintro ρ ⟨e0, ec⟩ w hSw; obtain ⟨s0, s1, s2, s3⟩ := hSw; go_simp) hHeld ?_
          refine tkB 32 (.int .i64 ((i : Int))) [(3, .int .i64 ((i : Int)))] rfl (by rintro ρ ⟨e3, ec⟩ w hSw; obtain ⟨s0, s1, s2, s3⟩ := hSw; go_simp) hHeld ?_
          refine tkB 33 (.pointer (some ⟨g, off + i * 12, none⟩)) [(71, .slice (some ⟨g, off, none⟩) L.length cap), (72, .int .i64 ((i : Int)))] rfl (by rintro ρ ⟨e71, e72, ec⟩ w hSw; obtain ⟨s0, s1, s2, s3⟩ := hSw; go_simp) hHeld ?_
          refine tkB 34 (.pointer (some ⟨g, off + i * 12 + 1, none⟩)) [(73, .pointer (some ⟨g, off + i * 12, none⟩))] rfl (by rintro ρ ⟨e73, ec⟩ w hSw; obtain ⟨s0, s1, s2, s3⟩ := hSw; go_simp) hHeld ?_
          refine tkB 35 (.int .i64 (ys + 1)) [(74, .pointer (some ⟨g, off + i * 12 + 1, none⟩))] rfl (by rintro ρ ⟨e74, ec⟩ w hSw; obtain ⟨s0, s1, s2, s3⟩ := hSw; go_simp) hHeld ?_
          refine tkB 36 (.slice (some ⟨g, off, none⟩) L.length cap) [(0, .slice (some ⟨g, off, none⟩) L.length cap)] rfl (by rintro ρ ⟨e0, ec⟩ w hSw; obtain ⟨s0, s1, s2, s3⟩ := hSw; go_simp) hHeld ?_
          refine tkB 37 (.int .i64 ((i : Int))) [(3, .int .i64 ((i : Int)))] rfl (by rintro ρ ⟨e3, ec⟩ w hSw; obtain ⟨s0, s1, s2, s3⟩ := hSw; go_simp) hHeld ?_
          refine tkB 38 (.int .i64 ((j : Int))) [(77, .int .i64 ((i : Int)))] rfl (by rintro ρ ⟨e77, ec⟩ w hSw; obtain ⟨s0, s1, s2, s3⟩ := hSw; have k0 := ec (Value.int IntKind.i64 1); go_simp) hHeld ?_
          refine tkB 39 (.pointer (some ⟨g, off + j * 12, none⟩)) [(76, .slice (some ⟨g, off, none⟩) L.length cap), (78, .int .i64 ((j : Int)))] rfl (by rintro ρ ⟨e76, e78, ec⟩ w hSw; obtain ⟨s0, s1, s2, s3⟩ := hSw; go_simp) hHeld ?_
          refine tkB 40 (.pointer (some ⟨g, off + j * 12 + 1, none⟩)) [(79, .pointer (some ⟨g, off + j * 12, none⟩))] rfl (by rintro ρ ⟨e79, ec⟩ w hSw; obtain ⟨s0, s1, s2, s3⟩ := hSw; go_simp) hHeld ?_
          refine tkB 41 (.int .i64 ys) [(80, .pointer (some ⟨g, off + j * 12 + 1, none⟩))] rfl (by rintro ρ ⟨e80, ec⟩ w hSw; obtain ⟨s0, s1, s2, s3⟩ := hSw; go_simp) hHeld ?_
          refine tkB 42 (.int .i64 (ys + 1)) [(81, .int .i64 ys)] rfl (by rintro ρ ⟨e81, ec⟩ w hSw; obtain ⟨s0, s1, s2, s3⟩ := hSw; have k0 := ec (Value.int IntKind.i64 1); go_simp) hHeld ?_
          refine tkB 43 (.bool false) [(75, .int .i64 (ys + 1)), (82, .int .i64 (ys + 1))] rfl (by rintro ρ ⟨e75, e82, ec⟩ w hSw; obtain ⟨s0, s1, s2, s3⟩ := hSw; go_simp) hHeld ?_
          refine tkB 44 (.bool false) [(70, .bool true), (83, .bool false)] rfl (by rintro ρ ⟨e70, e83, ec⟩ w hSw; obtain ⟨s0, s1, s2, s3⟩ := hSw; have k0 := ec (Value.bool false); go_simp) hHeld ?_
          refine tkB 45 (.bool false) [(67, .bool false), (84, .bool false)] rfl (by rintro ρ ⟨e67, e84, ec⟩ w hSw; obtain ⟨s0, s1, s2, s3⟩ := hSw; have k0 := ec (Value.bool true); go_simp) hHeld ?_
          refine wpAnyH_done (by kernel_rfl) ?_ _
          refine actN ⟨#[.slice (some ⟨g, off, none⟩) L.length cap, undef, u2, .int .i64 ((i : Int)), .bool false, undef, undef, undef, undef, .slice (some ⟨g, off, none⟩) L.length cap, .int .i64 ((L.length : Int)), .bool false, .int .i64 ((i : Int)), .slice (some ⟨g, off, none⟩) L.length cap, .int .i64 ((L.length : Int)), .bool true, u16, u17, .slice (some ⟨g, off, none⟩) L.length cap, .int .i64 ((i : Int)), .pointer (some ⟨g, off + i * 12, none⟩), .agg #[.int .i64 xa, .int .i64 (ys + 1), .int .i64 xt, xdv, .int .i64 xk, .int .i64 xo, .int .i64 xn, .int .i64 xu, .int .i64 xpt, .int .i64 xpa, .string xky, .string xtx], .bool true, .bool false, .int .i64 ((i : Int)), .bool false, .bool false, .slice (some ⟨g, off, none⟩) L.length cap, .int .i64 ((i : Int)), .pointer (some ⟨g, off + i * 12, none⟩), .pointer (some ⟨g, off + i * 12, none⟩), .int .i64 xa, .slice (some ⟨g, off, none⟩) L.length cap, .int .i64 ((i : Int)), .int .i64 ((j : Int)), .pointer (some ⟨g, off + j * 12, none⟩), .pointer (some ⟨g, off + j * 12, none⟩), .int .i64 xa, .bool false, .bool false, .bool false, .bool false, undef, undef, undef, undef, undef, undef, undef, undef, undef, undef, undef, undef, undef, undef, undef, undef, undef, undef, undef, undef, undef, undef, undef, undef, .bool false, .bool false, .bool false, .bool true, .bool true, .slice (some ⟨g, off, none⟩) L.length cap, .int .i64 ((i : Int)), .pointer (some ⟨g, off + i * 12, none⟩), .pointer (some ⟨g, off + i * 12 + 1, none⟩), .int .i64 (ys + 1), .slice (some ⟨g, off, none⟩) L.length cap, .int .i64 ((i : Int)), .int .i64 ((j : Int)), .pointer (some ⟨g, off + j * 12, none⟩), .pointer (some ⟨g, off + j * 12 + 1, none⟩), .int .i64 ys, .int .i64 (ys + 1), .bool false, .bool false, .bool false, undef, undef, undef, undef, undef, undef, undef, undef, undef, undef, undef, undef, undef, undef, undef, undef, undef, undef, undef, undef, undef, undef, undef, undef, undef, undef, undef, undef, undef, undef, undef, undef, undef, undef, undef, undef, undef, undef, undef, undef, undef, undef, undef, undef, undef, undef, undef, undef, undef, undef, undef, undef], []⟩ ?_
          clear hj0 hj1 hj2 hj3 hw6 hjl hw7
          go_wp2_with fail
          go_roundw
          case rel => exact ⟨i + 1, by have := HIF.out; omega, by go_num, (hBw.trans (hb.mono hBw.size)).drew.drew⟩
          case measure => simp [intOf]; omega
        · have HIJ : Hid (i = j + 1) := hij
          have hy := (hcs j (by omega)).below (hBw.mono hC) hg
          have b0 := hy.c0
          have b1 := hy.c1
          clear hy hcs hxd hij
          generalize ovAt L i = x at *
          generalize ovAt L j = y at *
          obtain ⟨xa, xs, xt, xdv, xk, xo, xn, xu, xpt, xpa, xky, xtx, xds⟩ := x
          obtain ⟨ya, ys, yt, ydv, yk, yo, yn, yu, ypt, ypa, yky, ytx, yds⟩ := y
          simp only at c0 c1 c2 c3 c4 c5 c6 c7 c8 c9 c10 c11 hOK b0 b1 hxy hs hsj
          have a0 := c0
          have a1 := c1
          have HW : Hid (IntKind.i64.wrap (ys + 1) = ys + 1) := by unfold Hid; rw [IntKind.wrap_i64]; omega
          subst hs
          have HNE : Hid (¬ xa = ya) := by unfold Hid; omega
          have HNL : Hid (¬ xa < ya) := by unfold Hid; omega
          clear hok hsj hxy
          go_wp2_with ((go_at_call 25; refine hOK.mono ?_; clear c0 c1 c2 c3 c4 c5 c6 c7 c8 c9 c10 c11; rintro e w1 ⟨rfl, hb⟩; have d0 := (hb.cell (p := ⟨g, off + i * 12, none⟩) hgw).trans a0; have d1 := (hb.cell (p := ⟨g, off + i * 12 + 1, none⟩) hgw).trans a1; have e0 := (hb.cell (p := ⟨g, off + j * 12, none⟩) hgw).trans b0; have e1 := (hb.cell (p := ⟨g, off + j * 12 + 1, none⟩) hgw).trans b1))
          have hij := HIJ.out
          have hj0 : ((i : Int) == 0) = false := by simp; omega
          have hj1 : (0 : Int) < (i : Int) := by omega
          have hj2 : 0 < i := by omega
          have hj3 : (i : Int) - 1 = (j : Int) := by omega
          have hw6 : IntKind.i64.wrap (j : Int) = (j : Int) := by rw [IntKind.wrap_i64]; omega
          have hjl : (j : Int) < (L.length : Int) := by omega
          clear hij
          have hne := HNE.out
          have hnl := HNL.out
          refine wp_region_held_drew (S := fun w' => w'.cell? ⟨g, off + i * 12, none⟩ = some (.int .i64 xa) ∧ w'.cell? ⟨g, off + i * 12 + 1, none⟩ = some (.int .i64 1) ∧ w'.cell? ⟨g, off + j * 12, none⟩ = some (.int .i64 ya) ∧ w'.cell? ⟨g, off + j * 12 + 1, none⟩ = some (.int .i64 ys)) (by kernel_rfl) (⟨d0, d1, e0, e1⟩) (fun hHeld => ?_)
          refine tkB 0 (.int .i64 ((i : Int))) [(3, .int .i64 ((i : Int)))] rfl (by rintro ρ ⟨e3, ec⟩ w hSw; obtain ⟨s0, s1, s2, s3⟩ := hSw; go_simp) hHeld ?_
          refine tkB 1 (.bool false) [(24, .int .i64 ((i : Int)))] rfl (by rintro ρ ⟨e24, ec⟩ w hSw; obtain ⟨s0, s1, s2, s3⟩ := hSw; have k0 := ec (Value.int IntKind.i64 0); go_simp) hHeld ?_
          refine tkB 2 (.bool false) [(25, .bool false)] rfl (by rintro ρ ⟨e25, ec⟩ w hSw; obtain ⟨s0, s1, s2, s3⟩ := hSw; go_simp) hHeld ?_
          refine tkB 3 (.slice (some ⟨g, off, none⟩) L.length cap) [(0, .slice (some ⟨g, off, none⟩) L.length cap)] rfl (by rintro ρ ⟨e0, ec⟩ w hSw; obtain ⟨s0, s1, s2, s3⟩ := hSw; go_simp) hHeld ?_
          refine tkB 4 (.int .i64 ((i : Int))) [(3, .int .i64 ((i : Int)))] rfl (by rintro ρ ⟨e3, ec⟩ w hSw; obtain ⟨s0, s1, s2, s3⟩ := hSw; go_simp) hHeld ?_
          refine tkB 5 (.pointer (some ⟨g, off + i * 12, none⟩)) [(27, .slice (some ⟨g, off, none⟩) L.length cap), (28, .int .i64 ((i : Int)))] rfl (by rintro ρ ⟨e27, e28, ec⟩ w hSw; obtain ⟨s0, s1, s2, s3⟩ := hSw; go_simp) hHeld ?_
          refine tkB 6 (.pointer (some ⟨g, off + i * 12, none⟩)) [(29, .pointer (some ⟨g, off + i * 12, none⟩))] rfl (by rintro ρ ⟨e29, ec⟩ w hSw; obtain ⟨s0, s1, s2, s3⟩ := hSw; go_simp) hHeld ?_
          refine tkB 7 (.int .i64 xa) [(30, .pointer (some ⟨g, off + i * 12, none⟩))] rfl (by rintro ρ ⟨e30, ec⟩ w hSw; obtain ⟨s0, s1, s2, s3⟩ := hSw; go_simp) hHeld ?_
          refine tkB 8 (.slice (some ⟨g, off, none⟩) L.length cap) [(0, .slice (some ⟨g, off, none⟩) L.length cap)] rfl (by rintro ρ ⟨e0, ec⟩ w hSw; obtain ⟨s0, s1, s2, s3⟩ := hSw; go_simp) hHeld ?_
          refine tkB 9 (.int .i64 ((i : Int))) [(3, .int .i64 ((i : Int)))] rfl (by rintro ρ ⟨e3, ec⟩ w hSw; obtain ⟨s0, s1, s2, s3⟩ := hSw; go_simp) hHeld ?_
          refine tkB 10 (.int .i64 ((j : Int))) [(33, .int .i64 ((i : Int)))] rfl (by rintro ρ ⟨e33, ec⟩ w hSw; obtain ⟨s0, s1, s2, s3⟩ := hSw; have k0 := ec (Value.int IntKind.i64 1); go_simp) hHeld ?_
          refine tkB 11 (.pointer (some ⟨g, off + j * 12, none⟩)) [(32, .slice (some ⟨g, off, none⟩) L.length cap), (34, .int .i64 ((j : Int)))] rfl (by rintro ρ ⟨e32, e34, ec⟩ w hSw; obtain ⟨s0, s1, s2, s3⟩ := hSw; go_simp) hHeld ?_
          refine tkB 12 (.pointer (some ⟨g, off + j * 12, none⟩)) [(35, .pointer (some ⟨g, off + j * 12, none⟩))] rfl (by rintro ρ ⟨e35, ec⟩ w hSw; obtain ⟨s0, s1, s2, s3⟩ := hSw; go_simp) hHeld ?_
          refine tkB 13 (.int .i64 ya) [(36, .pointer (some ⟨g, off + j * 12, none⟩))] rfl (by rintro ρ ⟨e36, ec⟩ w hSw; obtain ⟨s0, s1, s2, s3⟩ := hSw; go_simp) hHeld ?_
          refine tkB 14 (.bool true) [(31, .int .i64 xa), (37, .int .i64 ya)] rfl (by rintro ρ ⟨e31, e37, ec⟩ w hSw; obtain ⟨s0, s1, s2, s3⟩ := hSw; go_simp) hHeld ?_
          refine tkB 15 (.bool true) [(26, .bool false), (38, .bool true)] rfl (by rintro ρ ⟨e26, e38, ec⟩ w hSw; obtain ⟨s0, s1, s2, s3⟩ := hSw; have k0 := ec (Value.bool true); go_simp) hHeld ?_
          refine tkB 16 (.bool true) [(39, .bool true)] rfl (by rintro ρ ⟨e39, ec⟩ w hSw; obtain ⟨s0, s1, s2, s3⟩ := hSw; go_simp) hHeld ?_
          refine wpAnyH_done (by kernel_rfl) ?_ _
          refine actN ⟨#[.slice (some ⟨g, off, none⟩) L.length cap, undef, u2, .int .i64 ((i : Int)), .bool true, undef, undef, undef, undef, .slice (some ⟨g, off, none⟩) L.length cap, .int .i64 ((L.length : Int)), .bool false, .int .i64 ((i : Int)), .slice (some ⟨g, off, none⟩) L.length cap, .int .i64 ((L.length : Int)), .bool true, u16, u17, .slice (some ⟨g, off, none⟩) L.length cap, .int .i64 ((i : Int)), .pointer (some ⟨g, off + i * 12, none⟩), .agg #[.int .i64 xa, .int .i64 1, .int .i64 xt, xdv, .int .i64 xk, .int .i64 xo, .int .i64 xn, .int .i64 xu, .int .i64 xpt, .int .i64 xpa, .string xky, .string xtx], .bool true, .bool false, .int .i64 ((i : Int)), .bool false, .bool false, .slice (some ⟨g, off, none⟩) L.length cap, .int .i64 ((i : Int)), .pointer (some ⟨g, off + i * 12, none⟩), .pointer (some ⟨g, off + i * 12, none⟩), .int .i64 xa, .slice (some ⟨g, off, none⟩) L.length cap, .int .i64 ((i : Int)), .int .i64 ((j : Int)), .pointer (some ⟨g, off + j * 12, none⟩), .pointer (some ⟨g, off + j * 12, none⟩), .int .i64 ya, .bool true, .bool true, u40, u41, u42, u43, u44, u45, u46, u47, u48, u49, u50, u51, u52, u53, u54, u55, u56, u57, u58, u59, u60, u61, u62, u63, u64, u65, u66, u67, u68, u69, u70, u71, u72, u73, u74, u75, u76, u77, u78, u79, u80, u81, u82, u83, u84, u85, undef, undef, undef, undef, undef, undef, undef, undef, undef, undef, undef, undef, undef, undef, undef, undef, undef, undef, undef, undef, undef, undef, undef, undef, undef, undef, undef, undef, undef, undef, undef, undef, undef, undef, undef, undef, undef, undef, undef, undef, undef, undef, undef, undef, undef, undef, undef, undef, undef, undef, undef, undef], []⟩ ?_
          clear hj0 hj1 hj2 hj3 hw6 hjl hne hnl
          go_wp2_with fail
          have hij := HIJ.out
          have hj0 : ((i : Int) == 0) = false := by simp; omega
          have hj1 : (0 : Int) < (i : Int) := by omega
          have hj2 : 0 < i := by omega
          have hj3 : (i : Int) - 1 = (j : Int) := by omega
          have hw6 : IntKind.i64.wrap (j : Int) = (j : Int) := by rw [IntKind.wrap_i64]; omega
          have hjl : (j : Int) < (L.length : Int) := by omega
          clear hij
          have hne := HNE.out
          have hnl := HNL.out
          refine wp_region_held_drew (S := fun w' => w'.cell? ⟨g, off + i * 12, none⟩ = some (.int .i64 xa) ∧ w'.cell? ⟨g, off + i * 12 + 1, none⟩ = some (.int .i64 1) ∧ w'.cell? ⟨g, off + j * 12, none⟩ = some (.int .i64 ya) ∧ w'.cell? ⟨g, off + j * 12 + 1, none⟩ = some (.int .i64 ys)) (by kernel_rfl) (⟨d0, d1, e0, e1⟩) (fun hHeld => ?_)
          refine tkB 0 (.bool true) [(4, .bool true)] rfl (by rintro ρ ⟨e4, ec⟩ w hSw; obtain ⟨s0, s1, s2, s3⟩ := hSw; go_simp) hHeld ?_
          refine tkB 1 (.bool true) [(40, .bool true)] rfl (by rintro ρ ⟨e40, ec⟩ w hSw; obtain ⟨s0, s1, s2, s3⟩ := hSw; go_simp) hHeld ?_
          refine tkB 2 (.slice (some ⟨g, off, none⟩) L.length cap) [(0, .slice (some ⟨g, off, none⟩) L.length cap)] rfl (by rintro ρ ⟨e0, ec⟩ w hSw; obtain ⟨s0, s1, s2, s3⟩ := hSw; go_simp) hHeld ?_
          refine tkB 3 (.int .i64 ((i : Int))) [(3, .int .i64 ((i : Int)))] rfl (by rintro ρ ⟨e3, ec⟩ w hSw; obtain ⟨s0, s1, s2, s3⟩ := hSw; go_simp) hHeld ?_
          refine tkB 4 (.pointer (some ⟨g, off + i * 12, none⟩)) [(42, .slice (some ⟨g, off, none⟩) L.length cap), (43, .int .i64 ((i : Int)))] rfl (by rintro ρ ⟨e42, e43, ec⟩ w hSw; obtain ⟨s0, s1, s2, s3⟩ := hSw; go_simp) hHeld ?_
          refine tkB 5 (.pointer (some ⟨g, off + i * 12 + 1, none⟩)) [(44, .pointer (some ⟨g, off + i * 12, none⟩))] rfl (by rintro ρ ⟨e44, ec⟩ w hSw; obtain ⟨s0, s1, s2, s3⟩ := hSw; go_simp) hHeld ?_
          refine tkB 6 (.int .i64 1) [(45, .pointer (some ⟨g, off + i * 12 + 1, none⟩))] rfl (by rintro ρ ⟨e45, ec⟩ w hSw; obtain ⟨s0, s1, s2, s3⟩ := hSw; go_simp) hHeld ?_
          refine tkB 7 (.bool false) [(46, .int .i64 1)] rfl (by rintro ρ ⟨e46, ec⟩ w hSw; obtain ⟨s0, s1, s2, s3⟩ := hSw; have k0 := ec (Value.int IntKind.i64 1); go_simp) hHeld ?_
          refine tkB 8 (.bool false) [(47, .bool false)] rfl (by rintro ρ ⟨e47, ec⟩ w hSw; obtain ⟨s0, s1, s2, s3⟩ := hSw; go_simp) hHeld ?_
          refine tkB 9 (.int .i64 ((i : Int))) [(3, .int .i64 ((i : Int)))] rfl (by rintro ρ ⟨e3, ec⟩ w hSw; obtain ⟨s0, s1, s2, s3⟩ := hSw; go_simp) hHeld ?_
          refine tkB 10 (.bool true) [(49, .int .i64 ((i : Int)))] rfl (by rintro ρ ⟨e49, ec⟩ w hSw; obtain ⟨s0, s1, s2, s3⟩ := hSw; have k0 := ec (Value.int IntKind.i64 0); go_simp) hHeld ?_
          refine tkB 11 (.bool true) [(50, .bool true)] rfl (by rintro ρ ⟨e50, ec⟩ w hSw; obtain ⟨s0, s1, s2, s3⟩ := hSw; go_simp) hHeld ?_
          refine tkB 12 (.slice (some ⟨g, off, none⟩) L.length cap) [(0, .slice (some ⟨g, off, none⟩) L.length cap)] rfl (by rintro ρ ⟨e0, ec⟩ w hSw; obtain ⟨s0, s1, s2, s3⟩ := hSw; go_simp) hHeld ?_
          refine tkB 13 (.int .i64 ((i : Int))) [(3, .int .i64 ((i : Int)))] rfl (by rintro ρ ⟨e3, ec⟩ w hSw; obtain ⟨s0, s1, s2, s3⟩ := hSw; go_simp) hHeld ?_
          refine tkB 14 (.pointer (some ⟨g, off + i * 12, none⟩)) [(52, .slice (some ⟨g, off, none⟩) L.length cap), (53, .int .i64 ((i : Int)))] rfl (by rintro ρ ⟨e52, e53, ec⟩ w hSw; obtain ⟨s0, s1, s2, s3⟩ := hSw; go_simp) hHeld ?_
          refine tkB 15 (.pointer (some ⟨g, off + i * 12, none⟩)) [(54, .pointer (some ⟨g, off + i * 12, none⟩))] rfl (by rintro ρ ⟨e54, ec⟩ w hSw; obtain ⟨s0, s1, s2, s3⟩ := hSw; go_simp) hHeld ?_
          refine tkB 16 (.int .i64 xa) [(55, .pointer (some ⟨g, off + i * 12, none⟩))] rfl (by rintro ρ ⟨e55, ec⟩ w hSw; obtain ⟨s0, s1, s2, s3⟩ := hSw; go_simp) hHeld ?_
          refine tkB 17 (.slice (some ⟨g, off, none⟩) L.length cap) [(0, .slice (some ⟨g, off, none⟩) L.length cap)] rfl (by rintro ρ ⟨e0, ec⟩ w hSw; obtain ⟨s0, s1, s2, s3⟩ := hSw; go_simp) hHeld ?_
          refine tkB 18 (.int .i64 ((i : Int))) [(3, .int .i64 ((i : Int)))] rfl (by rintro ρ ⟨e3, ec⟩ w hSw; obtain ⟨s0, s1, s2, s3⟩ := hSw; go_simp) hHeld ?_
          refine tkB 19 (.int .i64 ((j : Int))) [(58, .int .i64 ((i : Int)))] rfl (by rintro ρ ⟨e58, ec⟩ w hSw; obtain ⟨s0, s1, s2, s3⟩ := hSw; have k0 := ec (Value.int IntKind.i64 1); go_simp) hHeld ?_
          refine tkB 20 (.pointer (some ⟨g, off + j * 12, none⟩)) [(57, .slice (some ⟨g, off, none⟩) L.length cap), (59, .int .i64 ((j : Int)))] rfl (by rintro ρ ⟨e57, e59, ec⟩ w hSw; obtain ⟨s0, s1, s2, s3⟩ := hSw; go_simp) hHeld ?_
          refine tkB 21 (.pointer (some ⟨g, off + j * 12, none⟩)) [(60, .pointer (some ⟨g, off + j * 12, none⟩))] rfl (by rintro ρ ⟨e60, ec⟩ w hSw; obtain ⟨s0, s1, s2, s3⟩ := hSw; go_simp) hHeld ?_
          refine tkB 22 (.int .i64 ya) [(61, .pointer (some ⟨g, off + j * 12, none⟩))] rfl (by rintro ρ ⟨e61, ec⟩ w hSw; obtain ⟨s0, s1, s2, s3⟩ := hSw; go_simp) hHeld ?_
          refine tkB 23 (.bool false) [(56, .int .i64 xa), (62, .int .i64 ya)] rfl (by rintro ρ ⟨e56, e62, ec⟩ w hSw; obtain ⟨s0, s1, s2, s3⟩ := hSw; go_simp) hHeld ?_
          refine tkB 24 (.bool false) [(51, .bool true), (63, .bool false)] rfl (by rintro ρ ⟨e51, e63, ec⟩ w hSw; obtain ⟨s0, s1, s2, s3⟩ := hSw; have k0 := ec (Value.bool false); go_simp) hHeld ?_
          refine tkB 25 (.bool false) [(48, .bool false), (64, .bool false)] rfl (by rintro ρ ⟨e48, e64, ec⟩ w hSw; obtain ⟨s0, s1, s2, s3⟩ := hSw; have k0 := ec (Value.bool true); go_simp) hHeld ?_
          refine tkB 26 (.bool false) [(41, .bool true), (65, .bool false)] rfl (by rintro ρ ⟨e41, e65, ec⟩ w hSw; obtain ⟨s0, s1, s2, s3⟩ := hSw; have k0 := ec (Value.bool false); go_simp) hHeld ?_
          refine tkB 27 (.bool false) [(66, .bool false)] rfl (by rintro ρ ⟨e66, ec⟩ w hSw; obtain ⟨s0, s1, s2, s3⟩ := hSw; go_simp) hHeld ?_
          refine tkB 28 (.bool true) [(4, .bool true)] rfl (by rintro ρ ⟨e4, ec⟩ w hSw; obtain ⟨s0, s1, s2, s3⟩ := hSw; go_simp) hHeld ?_
          refine tkB 29 (.bool false) [(68, .bool true)] rfl (by rintro ρ ⟨e68, ec⟩ w hSw; obtain ⟨s0, s1, s2, s3⟩ := hSw; go_simp) hHeld ?_
          refine tkB 30 (.bool false) [(69, .bool false)] rfl (by rintro ρ ⟨e69, ec⟩ w hSw; obtain ⟨s0, s1, s2, s3⟩ := hSw; go_simp) hHeld ?_
          refine tkN 31 rfl hHeld ?_
          refine tkN 32 rfl hHeld ?_
          refine tkN 33 rfl hHeld ?_
          refine tkN 34 rfl hHeld ?_
          refine tkN 35 rfl hHeld ?_
          refine tkN 36 rfl hHeld ?_
          refine tkN 37 rfl hHeld ?_
          refine tkN 38 rfl hHeld ?_
          refine tkN 39 rfl hHeld ?_
          refine tkN 40 rfl hHeld ?_
          refine tkN 41 rfl hHeld ?_
          refine tkN 42 rfl hHeld ?_
          refine tkN 43 rfl hHeld ?_
          refine tkB 44 (.bool false) [(70, .bool false), (83, undef)] rfl (by rintro ρ ⟨e70, e83, ec⟩ w hSw; obtain ⟨s0, s1, s2, s3⟩ := hSw; have k0 := ec (Value.bool false); go_simp) hHeld ?_
          refine tkB 45 (.bool false) [(67, .bool false), (84, .bool false)] rfl (by rintro ρ ⟨e67, e84, ec⟩ w hSw; obtain ⟨s0, s1, s2, s3⟩ := hSw; have k0 := ec (Value.bool true); go_simp) hHeld ?_
          refine wpAnyH_done (by kernel_rfl) ?_ _
          refine actN ⟨#[.slice (some ⟨g, off, none⟩) L.length cap, undef, u2, .int .i64 ((i : Int)), .bool true, undef, undef, undef, undef, .slice (some ⟨g, off, none⟩) L.length cap, .int .i64 ((L.length : Int)), .bool false, .int .i64 ((i : Int)), .slice (some ⟨g, off, none⟩) L.length cap, .int .i64 ((L.length : Int)), .bool true, u16, u17, .slice (some ⟨g, off, none⟩) L.length cap, .int .i64 ((i : Int)), .pointer (some ⟨g, off + i * 12, none⟩), .agg #[.int .i64 xa, .int .i64 1, .int .i64 xt, xdv, .int .i64 xk, .int .i64 xo, .int .i64 xn, .int .i64 xu, .int .i64 xpt, .int .i64 xpa, .string xky, .string xtx], .bool true, .bool false, .int .i64 ((i : Int)), .bool false, .bool false, .slice (some ⟨g, off, none⟩) L.length cap, .int .i64 ((i : Int)), .pointer (some ⟨g, off + i * 12, none⟩), .pointer (some ⟨g, off + i * 12, none⟩), .int .i64 xa, .slice (some ⟨g, off, none⟩) L.length cap, .int .i64 ((i : Int)), .int .i64 ((j : Int)), .pointer (some ⟨g, off + j * 12, none⟩), .pointer (some ⟨g, off + j * 12, none⟩), .int .i64 ya, .bool true, .bool true, .bool true, .bool true, .slice (some ⟨g, off, none⟩) L.length cap, .int .i64 ((i : Int)), .pointer (some ⟨g, off + i * 12, none⟩), .pointer (some ⟨g, off + i * 12 + 1, none⟩), .int .i64 1, .bool false, .bool false, .int .i64 ((i : Int)), .bool true, .bool true, .slice (some ⟨g, off, none⟩) L.length cap, .int .i64 ((i : Int)), .pointer (some ⟨g, off + i * 12, none⟩), .pointer (some ⟨g, off + i * 12, none⟩), .int .i64 xa, .slice (some ⟨g, off, none⟩) L.length cap, .int .i64 ((i : Int)), .int .i64 ((j : Int)), .pointer (some ⟨g, off + j * 12, none⟩), .pointer (some ⟨g, off + j * 12, none⟩), .int .i64 ya, .bool false, .bool false, .bool false, .bool false, .bool false, .bool true, .bool false, .bool false, undef, undef, undef, undef, undef, undef, undef, undef, undef, undef, undef, undef, undef, .bool false, .bool false, undef, undef, undef, undef, undef, undef, undef, undef, undef, undef, undef, undef, undef, undef, undef, undef, undef, undef, undef, undef, undef, undef, undef, undef, undef, undef, undef, undef, undef, undef, undef, undef, undef, undef, undef, undef, undef, undef, undef, undef, undef, undef, undef, undef, undef, undef, undef, undef, undef, undef, undef, undef], []⟩ ?_
          clear hj0 hj1 hj2 hj3 hw6 hjl hne hnl
          go_wp2_with fail
          go_roundw
          case rel => exact ⟨i + 1, by have := HIF.out; omega, by go_num, (hBw.trans (hb.mono hBw.size)).drew.drew⟩
          case measure => simp [intOf]; omega

end Go.Proofs.Ytcifbgoonaolbab
