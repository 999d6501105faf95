/- Whether two operations say the same: the specification's. -/
import Derived.Test.YtjbjkamlgcnmaaaQSameOp
namespace Go.Proofs.Ytjbjkamlgcnmaaa
open Go.RowKit
set_option linter.unusedVariables false

set_option maxHeartbeats 8000000 in
set_option maxRecDepth 100000 in
theorem specSameOp_any (C : Nat) (x y : Ov) (w : World) (hC : C ≤ w.heap.size) (hx : Rd C w x.dv (x.ds.map (Value.int .i64))) (hy : Rd C w y.dv (y.ds.map (Value.int .i64))) (hxl : x.ds.length = 16) (hyl : y.ds.length = 16) (hna : x.a = y.a) (hns : x.s = y.s) :
    Calls Try.prog 15 #[.agg x.cs.toArray, .agg y.cs.toArray] w fun e w' => e = .returned (.bool (sameB x y)) ∧ Below w.heap.size w w' := by
  obtain ⟨xa, xs, xt, xdv, xk, xo, xn, xu, xpt, xpa, xky, xtx, xds⟩ := x
  obtain ⟨ya, ys, yt, ydv, yk, yo, yn, yu, ypt, ypa, yky, ytx, yds⟩ := y
  obtain rfl : xa = ya := hna
  obtain rfl : xs = ys := hns
  unfold Ov.cs
  have HB0 : Hid (Below w.heap.size w ((w.alloc (.cells #[.int .i64 xa, .int .i64 xs, .int .i64 xt, xdv, .int .i64 xk, .int .i64 xo, .int .i64 xn, .int .i64 xu, .int .i64 xpt, .int .i64 xpa, .string xky, .string xtx] 44)).alloc (.cells #[.int .i64 xa, .int .i64 xs, .int .i64 yt, ydv, .int .i64 yk, .int .i64 yo, .int .i64 yn, .int .i64 yu, .int .i64 ypt, .int .i64 ypa, .string yky, .string ytx] 44))) := below_then (below_alloc w _) _
  have hB : Below ((w.alloc (.cells #[.int .i64 xa, .int .i64 xs, .int .i64 xt, xdv, .int .i64 xk, .int .i64 xo, .int .i64 xn, .int .i64 xu, .int .i64 xpt, .int .i64 xpa, .string xky, .string xtx] 44)).alloc (.cells #[.int .i64 xa, .int .i64 xs, .int .i64 yt, ydv, .int .i64 yk, .int .i64 yo, .int .i64 yn, .int .i64 yu, .int .i64 ypt, .int .i64 ypa, .string yky, .string ytx] 44)).heap.size ((w.alloc (.cells #[.int .i64 xa, .int .i64 xs, .int .i64 xt, xdv, .int .i64 xk, .int .i64 xo, .int .i64 xn, .int .i64 xu, .int .i64 xpt, .int .i64 xpa, .string xky, .string xtx] 44)).alloc (.cells #[.int .i64 xa, .int .i64 xs, .int .i64 yt, ydv, .int .i64 yk, .int .i64 yo, .int .i64 yn, .int .i64 yu, .int .i64 ypt, .int .i64 ypa, .string yky, .string ytx] 44)) ((w.alloc (.cells #[.int .i64 xa, .int .i64 xs, .int .i64 xt, xdv, .int .i64 xk, .int .i64 xo, .int .i64 xn, .int .i64 xu, .int .i64 xpt, .int .i64 xpa, .string xky, .string xtx] 44)).alloc (.cells #[.int .i64 xa, .int .i64 xs, .int .i64 yt, ydv, .int .i64 yk, .int .i64 yo, .int .i64 yn, .int .i64 yu, .int .i64 ypt, .int .i64 ypa, .string yky, .string ytx] 44)) := Below.refl _ _
  obtain ⟨b3, HB3⟩ : ∃ b, Hid (decide (xds = yds) = b) := ⟨_, rfl⟩
  have hE : ∀ w9, Below ((w.alloc (.cells #[.int .i64 xa, .int .i64 xs, .int .i64 xt, xdv, .int .i64 xk, .int .i64 xo, .int .i64 xn, .int .i64 xu, .int .i64 xpt, .int .i64 xpa, .string xky, .string xtx] 44)).alloc (.cells #[.int .i64 xa, .int .i64 xs, .int .i64 yt, ydv, .int .i64 yk, .int .i64 yo, .int .i64 yn, .int .i64 yu, .int .i64 ypt, .int .i64 ypa, .string yky, .string ytx] 44)).heap.size ((w.alloc (.cells #[.int .i64 xa, .int .i64 xs, .int .i64 xt, xdv, .int .i64 xk, .int .i64 xo, .int .i64 xn, .int .i64 xu, .int .i64 xpt, .int .i64 xpa, .string xky, .string xtx] 44)).alloc (.cells #[.int .i64 xa, .int .i64 xs, .int .i64 yt, ydv, .int .i64 yk, .int .i64 yo, .int .i64 yn, .int .i64 yu, .int .i64 ypt, .int .i64 ypa, .string yky, .string ytx] 44)) w9 → Calls Try.prog 42 #[xdv, ydv] w9 fun e w' => e = .returned (.bool b3) ∧ Below w9.heap.size w9 w' := fun w9 hb => by
    have h1 : Below w.heap.size w w9 := below_seq HB0.out hb
    have := h1.size
    rw [← HB3.out]
    exact l05Same_any C w9 xdv ydv xds yds (by omega) (hx.below (h1.mono hC)) (hy.below (h1.mono hC)) hxl hyl
  clear hx hy hxl hyl hC
  obtain ⟨b2, E2⟩ : ∃ b, Hid ((xt == yt) = b) := ⟨_, rfl⟩
  obtain ⟨b4, E4⟩ : ∃ b, Hid ((xk == yk) = b) := ⟨_, rfl⟩
  obtain ⟨b5, E5⟩ : ∃ b, Hid ((xo == yo) = b) := ⟨_, rfl⟩
  obtain ⟨b6, E6⟩ : ∃ b, Hid ((xn == yn) = b) := ⟨_, rfl⟩
  obtain ⟨b7, E7⟩ : ∃ b, Hid ((xu == yu) = b) := ⟨_, rfl⟩
  obtain ⟨b8, E8⟩ : ∃ b, Hid ((xpt == ypt) = b) := ⟨_, rfl⟩
  obtain ⟨b9, E9⟩ : ∃ b, Hid ((xpa == ypa) = b) := ⟨_, rfl⟩
  obtain ⟨b10, E10⟩ : ∃ b, Hid ((xky.toList == yky.toList) = b) := ⟨_, rfl⟩
  obtain ⟨b11, E11⟩ : ∃ b, Hid ((xtx.toList == ytx.toList) = b) := ⟨_, rfl⟩
  obtain ⟨r, HR0⟩ : ∃ r, Hid (sameB (⟨xa, xs, xt, xdv, xk, xo, xn, xu, xpt, xpa, xky, xtx, xds⟩ : Ov) (⟨xa, xs, yt, ydv, yk, yo, yn, yu, ypt, ypa, yky, ytx, yds⟩ : Ov) = r) := ⟨_, rfl⟩
  have HR : Hid (r = (b2 && (b3 && (b4 && (b5 && (b6 && (b7 && (b8 && (b9 && (b10 && b11)))))))))) := by
    unfold Hid
    rw [← HR0.out, ← E2.out, ← HB3.out, ← E4.out, ← E5.out, ← E6.out, ← E7.out, ← E8.out, ← E9.out, ← E10.out, ← E11.out]
    unfold sameB
    simp only [beq_dec, str_dec, decide_true, Bool.true_and]
  rw [HR0.out]
  clear HR0 HB3
  obtain ⟨p0, p1, p2, p3, p4, p5, p6, p7, p8, p9, p10, p11, q0, q1, q2, q3, q4, q5, q6, q7, q8, q9, q10, q11⟩ := two_cells hB
  go_enter Try.func15, Try.ntmps15
  have e2 := E2.out
  have e4 := E4.out
  have e5 := E5.out
  have e6 := E6.out
  have e7 := E7.out
  have e8 := E8.out
  have e9 := E9.out
  have e10 := E10.out
  have e11 := E11.out
  go_wp2_with (first | (go_at_call 42; refine (hE _ hB).mono ?_; rintro e w8 ⟨rfl, hb8⟩; replace hB := below_seq hB hb8; clear p0 p1 p2 p3 p4 p5 p6 p7 p8 p9 p10 p11 q0 q1 q2 q3 q4 q5 q6 q7 q8 q9 q10 q11; obtain ⟨p0, p1, p2, p3, p4, p5, p6, p7, p8, p9, p10, p11, q0, q1, q2, q3, q4, q5, q6, q7, q8, q9, q10, q11⟩ := two_cells hB; clear hb8))
  all_goals go_ret
  all_goals refine ⟨?_, below_seq HB0.out hB⟩
  all_goals (rw [HR.out]; simp_all)
end Go.Proofs.Ytjbjkamlgcnmaaa
