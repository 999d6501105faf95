/- Whether two operations say the same: the code's and the specification's. -/
import Derived.Shelf.SlGeneric
import Derived.Shelf.SlicesG.Equal
import Derived.Ground.SlgnProg
import Derived.Test.YtjbjkamlgcnmaaaQGrowOpsToFindOps
import Derived.Test.YtjbjkamlgcnmaaaQOpRange
import Derived.Test.YtjbjkamlgcnmaaaQQuietKeepToQuietPass
import Derived.Test.YtjbjkamlgcnmaaaQTakeKitToBigKit
namespace Go.Proofs
open Go.RowKit Go.Sort Go.Shelf
shelf_lay_g SlLaysN.n33 Slgn 33 at Try 71 as Ytjbjkamlgcnmaaa.laysEqual
namespace Ytjbjkamlgcnmaaa
set_option linter.unusedVariables false

theorem rd16 {C : Nat} {w : World} {v : Value} {ds : List Int} (h : Rd C w v (ds.map (Value.int .i64))) (hl : ds.length = 16) : ∃ g off cap, v = .slice (some ⟨g, off, none⟩) 16 cap ∧ g < C ∧ ∀ j, j < 16 → w.cell? ⟨g, off + j, none⟩ = some (.int .i64 (ds.getD j 0)) := by
  obtain ⟨ao, cap, rfl, h1, h2, h3, h4⟩ := h
  rw [List.length_map, hl] at h1 h4 ⊢
  obtain ⟨g, off, rfl, hg, hc⟩ := h4 (by omega)
  refine ⟨g, off, cap, rfl, hg, fun j hj => hc j _ ?_⟩
  rw [List.getElem?_map, List.getD_eq_getElem?_getD, List.getElem?_eq_getElem (by omega)]
  rfl
theorem equalInts_any (C : Nat) (w : World) (v v' : Value) (xs ys : List Int) (hC : C ≤ w.heap.size) (h : Rd C w v (xs.map (Value.int .i64))) (h' : Rd C w v' (ys.map (Value.int .i64))) (hx : xs.length = 16) (hy : ys.length = 16) :
    Calls Try.prog 71 #[v, v'] w fun e w' => e = .returned (.bool (decide (xs = ys))) ∧ Below w.heap.size w w' := by
  obtain ⟨g, o, c, rfl, _, h1⟩ := rd16 h hx
  obtain ⟨g', o', c', rfl, _, h2⟩ := rd16 h' hy
  refine (AnyG.slices_Equal_int laysEqual g o 16 c g' o' 16 c' xs ys w (by omega) (by omega) (by omega) (by omega) (by rw [hx]; exact h1) (by rw [hy]; exact h2)).mono ?_
  rintro e w' ⟨rfl, q, rfl⟩
  refine ⟨?_, below_drewN (Below.refl _ _) q⟩
  rw [List.take_of_length_le (by omega), List.take_of_length_le (by omega)]
  by_cases e : xs = ys
  · rw [decide_eq_true e]; simp [e]
  · rw [decide_eq_false e]; simp [e]
end Ytjbjkamlgcnmaaa
end Go.Proofs
namespace Go.Proofs.Ytjbjkamlgcnmaaa
open Go.RowKit
set_option linter.unusedVariables false

theorem two_cells {w w1 : World} {c0 c1 c2 c3 c4 c5 c6 c7 c8 c9 c10 c11 d0 d1 d2 d3 d4 d5 d6 d7 d8 d9 d10 d11 : Value} {T : TypeId} (h : Below ((w.alloc (.cells #[c0, c1, c2, c3, c4, c5, c6, c7, c8, c9, c10, c11] T)).alloc (.cells #[d0, d1, d2, d3, d4, d5, d6, d7, d8, d9, d10, d11] T)).heap.size ((w.alloc (.cells #[c0, c1, c2, c3, c4, c5, c6, c7, c8, c9, c10, c11] T)).alloc (.cells #[d0, d1, d2, d3, d4, d5, d6, d7, d8, d9, d10, d11] T)) w1) :
    w1.cell? ⟨w.heap.size, 0, none⟩ = some c0 ∧ w1.cell? ⟨w.heap.size, 1, none⟩ = some c1 ∧ w1.cell? ⟨w.heap.size, 2, none⟩ = some c2 ∧ w1.cell? ⟨w.heap.size, 3, none⟩ = some c3 ∧ w1.cell? ⟨w.heap.size, 4, none⟩ = some c4 ∧ w1.cell? ⟨w.heap.size, 5, none⟩ = some c5 ∧ w1.cell? ⟨w.heap.size, 6, none⟩ = some c6 ∧ w1.cell? ⟨w.heap.size, 7, none⟩ = some c7 ∧ w1.cell? ⟨w.heap.size, 8, none⟩ = some c8 ∧ w1.cell? ⟨w.heap.size, 9, none⟩ = some c9 ∧ w1.cell? ⟨w.heap.size, 10, none⟩ = some c10 ∧ w1.cell? ⟨w.heap.size, 11, none⟩ = some c11 ∧ w1.cell? ⟨w.heap.size + 1, 0, none⟩ = some d0 ∧ w1.cell? ⟨w.heap.size + 1, 1, none⟩ = some d1 ∧ w1.cell? ⟨w.heap.size + 1, 2, none⟩ = some d2 ∧ w1.cell? ⟨w.heap.size + 1, 3, none⟩ = some d3 ∧ w1.cell? ⟨w.heap.size + 1, 4, none⟩ = some d4 ∧ w1.cell? ⟨w.heap.size + 1, 5, none⟩ = some d5 ∧ w1.cell? ⟨w.heap.size + 1, 6, none⟩ = some d6 ∧ w1.cell? ⟨w.heap.size + 1, 7, none⟩ = some d7 ∧ w1.cell? ⟨w.heap.size + 1, 8, none⟩ = some d8 ∧ w1.cell? ⟨w.heap.size + 1, 9, none⟩ = some d9 ∧ w1.cell? ⟨w.heap.size + 1, 10, none⟩ = some d10 ∧ w1.cell? ⟨w.heap.size + 1, 11, none⟩ = some d11 := by
  obtain ⟨p0, p1, p2, p3, p4, p5, p6, p7, p8, p9, p10, p11⟩ := op_cells (below_seq (below_alloc (w.alloc (.cells #[c0, c1, c2, c3, c4, c5, c6, c7, c8, c9, c10, c11] T)) (.cells #[d0, d1, d2, d3, d4, d5, d6, d7, d8, d9, d10, d11] T)) h)
  obtain ⟨q0, q1, q2, q3, q4, q5, q6, q7, q8, q9, q10, q11⟩ := op_cells h
  rw [World.size_alloc] at q0 q1 q2 q3 q4 q5 q6 q7 q8 q9 q10 q11
  exact ⟨p0, p1, p2, p3, p4, p5, p6, p7, p8, p9, p10, p11, q0, q1, q2, q3, q4, q5, q6, q7, q8, q9, q10, q11⟩
theorem two_range {w w1 : World} {c0 c1 c2 c3 c4 c5 c6 c7 c8 c9 c10 c11 d0 d1 d2 d3 d4 d5 d6 d7 d8 d9 d10 d11 : Value} {T : TypeId} (h : Below ((w.alloc (.cells #[c0, c1, c2, c3, c4, c5, c6, c7, c8, c9, c10, c11] T)).alloc (.cells #[d0, d1, d2, d3, d4, d5, d6, d7, d8, d9, d10, d11] T)).heap.size ((w.alloc (.cells #[c0, c1, c2, c3, c4, c5, c6, c7, c8, c9, c10, c11] T)).alloc (.cells #[d0, d1, d2, d3, d4, d5, d6, d7, d8, d9, d10, d11] T)) w1) : w1.rangeAt w.heap.size 0 [c0, c1, c2, c3, c4, c5, c6, c7, c8, c9, c10, c11] ∧ w1.rangeAt (w.heap.size + 1) 0 [d0, d1, d2, d3, d4, d5, d6, d7, d8, d9, d10, d11] := by
  obtain ⟨p0, p1, p2, p3, p4, p5, p6, p7, p8, p9, p10, p11, q0, q1, q2, q3, q4, q5, q6, q7, q8, q9, q10, q11⟩ := two_cells h
  constructor
  · intro j u hj
    rw [Nat.zero_add]
    match j with
    | 0 => cases hj; exact p0
    | 1 => cases hj; exact p1
    | 2 => cases hj; exact p2
    | 3 => cases hj; exact p3
    | 4 => cases hj; exact p4
    | 5 => cases hj; exact p5
    | 6 => cases hj; exact p6
    | 7 => cases hj; exact p7
    | 8 => cases hj; exact p8
    | 9 => cases hj; exact p9
    | 10 => cases hj; exact p10
    | 11 => cases hj; exact p11
    | j + 12 => simp at hj
  · intro j u hj
    rw [Nat.zero_add]
    match j with
    | 0 => cases hj; exact q0
    | 1 => cases hj; exact q1
    | 2 => cases hj; exact q2
    | 3 => cases hj; exact q3
    | 4 => cases hj; exact q4
    | 5 => cases hj; exact q5
    | 6 => cases hj; exact q6
    | 7 => cases hj; exact q7
    | 8 => cases hj; exact q8
    | 9 => cases hj; exact q9
    | 10 => cases hj; exact q10
    | 11 => cases hj; exact q11
    | j + 12 => simp at hj
theorem beq_dec (a b : Int) : (a == b) = decide (a = b) := by
  by_cases h : a = b
  · rw [decide_eq_true h]; simpa using h
  · rw [decide_eq_false h]; simpa using h
theorem str_dec (a b : ByteArray) : (a.toList == b.toList) = decide (a = b) := by
  by_cases h : a = b
  · rw [decide_eq_true h, h]; simp
  · rw [decide_eq_false h]
    simp only [beq_eq_false_iff_ne]
    intro e
    apply h
    rw [Lib.toList_data, Lib.toList_data] at e
    obtain ⟨a⟩ := a
    obtain ⟨b⟩ := b
    congr 1
    exact Array.toList_inj.1 e

set_option maxHeartbeats 400000 in
theorem opName_any (a s t k o n u pt pa : Int) (dv : Value) (ky tx : ByteArray) (w : World) :
    Calls Try.prog 53 #[.agg #[.int .i64 a, .int .i64 s, .int .i64 t, dv, .int .i64 k, .int .i64 o, .int .i64 n, .int .i64 u, .int .i64 pt, .int .i64 pa, .string ky, .string tx]] w fun e w' => e = .returned (.agg #[.int .i64 a, .int .i64 s]) ∧ Below w.heap.size w w' := by
  go_enter Try.func53, Try.ntmps53
  go_wp2_with fail
  exact bodyPost_ret (v := .agg #[.int .i64 a, .int .i64 s]) (by simp [results, Try.results53, go_sem]) rfl ⟨rfl, below_then (below_alloc _ _) _⟩

set_option maxHeartbeats 1000000 in
theorem l05Same_any (C : Nat) (w : World) (v v' : Value) (xs ys : List Int) (hC : C ≤ w.heap.size) (h : Rd C w v (xs.map (Value.int .i64))) (h' : Rd C w v' (ys.map (Value.int .i64))) (hx : xs.length = 16) (hy : ys.length = 16) :
    Calls Try.prog 42 #[v, v'] w fun e w' => e = .returned (.bool (decide (xs = ys))) ∧ Below w.heap.size w w' := by
  obtain ⟨g, o, c, rfl, _, h1⟩ := rd16 h hx
  obtain ⟨g', o', c', rfl, _, h2⟩ := rd16 h' hy
  obtain ⟨r, HR⟩ : ∃ r, Hid (decide (xs = ys) = r) := ⟨_, rfl⟩
  rw [HR.out]
  have hext : (∀ j, j < 16 → xs.getD j 0 = ys.getD j 0) → xs = ys := fun he => by
    refine List.ext_getElem (by omega) fun j a1 a2 => ?_
    have := he j (by omega)
    rwa [List.getD_eq_getElem?_getD, List.getD_eq_getElem?_getD, List.getElem?_eq_getElem a1, List.getElem?_eq_getElem a2] at this
  go_enter Try.func42, Try.ntmps42
  go_wp2_with fail
  go_loopw [5] (fun ti wr => ∃ k q : Nat, k ≤ 16 ∧ ti = .int .i64 (k : Int) ∧ Hid (wr = w.drewN q) ∧ Hid (∀ j, j < k → xs.getD j 0 = ys.getD j 0)) (fun ti _ => 16 - (intOf ti).toNat)
  case atStart => exact ⟨0, 0, Nat.zero_le _, rfl, rfl, fun j hj => absurd hj (by omega)⟩
  case round =>
    obtain ⟨k, q, hk, rfl, HW, HQ⟩ := hrel
    have hbb : Below w.heap.size w wr := by rw [HW.out]; exact below_drewN (Below.refl _ _) q
    by_cases hlt : k < 16
    · have hki : (k : Int) < 16 := by omega
      have hk0 : (0 : Int) ≤ (k : Int) := by omega
      have c1 : wr.cell? ⟨g, o + k, none⟩ = some (.int .i64 (xs.getD k 0)) := by rw [HW.out]; exact h1 k hlt
      have c2 : wr.cell? ⟨g', o' + k, none⟩ = some (.int .i64 (ys.getD k 0)) := by rw [HW.out]; exact h2 k hlt
      by_cases he : xs.getD k 0 = ys.getD k 0
      · have HE : Hid (∀ j, j < k + 1 → xs.getD j 0 = ys.getD j 0) := fun j hj => by
          by_cases e : j = k
          · subst e; exact he
          · exact HQ.out j (by omega)
        rw [he] at c1
        generalize ys.getD k 0 = z at c1 c2
        clear he HQ h1 h2
        go_wp2_with fail
        go_quiet (fail)
        go_wp2_with fail
        go_roundw
        case rel => exact ⟨k + 1, q + nq, by omega, by go_num, by unfold Hid; rw [HW.out]; exact World.drewN_drewN _ _ _, HE⟩
        case measure => simp [intOf]; omega
      · have HF : Hid (r = false) := HR.out.symm.trans (decide_eq_false fun e => he (by rw [e]))
        have hn : (xs.getD k 0 != ys.getD k 0) = true := by simpa using he
        generalize xs.getD k 0 = z at c1 hn
        generalize ys.getD k 0 = z' at c2 hn
        clear he HQ h1 h2
        go_wp2_with fail
        go_quiet (fail)
        go_wp2_with fail
        go_ret
        exact ⟨by rw [HF.out]; rfl, below_drewN hbb nq⟩
    · have HF : Hid (r = true) := HR.out.symm.trans (decide_eq_true (hext fun j hj => HQ.out j (by omega)))
      have i1 : ¬ (k : Int) < 16 := by omega
      clear HQ h1 h2
      go_wp2_with fail
      go_ret
      exact ⟨by rw [HF.out]; rfl, hbb⟩

set_option maxHeartbeats 8000000 in
set_option maxRecDepth 100000 in
theorem sameOp_any (C : Nat) (x y : Ov) (w : World) (hC : C ≤ w.heap.size) (hx : Rd C w x.dv (x.ds.map (Value.int .i64))) (hy : Rd C w y.dv (y.ds.map (Value.int .i64))) (hxl : x.ds.length = 16) (hyl : y.ds.length = 16) (hna : x.a = y.a) (hns : x.s = y.s) :
    Calls Try.prog 54 #[.agg x.cs.toArray, .agg y.cs.toArray] w fun e w' => e = .returned (.bool (sameB x y)) ∧ Below w.heap.size w w' := by
  obtain ⟨xa, xs, xt, xdv, xk, xo, xn, xu, xpt, xpa, xky, xtx, xds⟩ := x
  obtain ⟨ya, ys, yt, ydv, yk, yo, yn, yu, ypt, ypa, yky, ytx, yds⟩ := y
  obtain rfl : xa = ya := hna
  obtain rfl : xs = ys := hns
  unfold Ov.cs
  have HB0 : Hid (Below w.heap.size w ((w.alloc (.cells #[.int .i64 xa, .int .i64 xs, .int .i64 xt, xdv, .int .i64 xk, .int .i64 xo, .int .i64 xn, .int .i64 xu, .int .i64 xpt, .int .i64 xpa, .string xky, .string xtx] 44)).alloc (.cells #[.int .i64 xa, .int .i64 xs, .int .i64 yt, ydv, .int .i64 yk, .int .i64 yo, .int .i64 yn, .int .i64 yu, .int .i64 ypt, .int .i64 ypa, .string yky, .string ytx] 44))) := below_then (below_alloc w _) _
  have hB : Below ((w.alloc (.cells #[.int .i64 xa, .int .i64 xs, .int .i64 xt, xdv, .int .i64 xk, .int .i64 xo, .int .i64 xn, .int .i64 xu, .int .i64 xpt, .int .i64 xpa, .string xky, .string xtx] 44)).alloc (.cells #[.int .i64 xa, .int .i64 xs, .int .i64 yt, ydv, .int .i64 yk, .int .i64 yo, .int .i64 yn, .int .i64 yu, .int .i64 ypt, .int .i64 ypa, .string yky, .string ytx] 44)).heap.size ((w.alloc (.cells #[.int .i64 xa, .int .i64 xs, .int .i64 xt, xdv, .int .i64 xk, .int .i64 xo, .int .i64 xn, .int .i64 xu, .int .i64 xpt, .int .i64 xpa, .string xky, .string xtx] 44)).alloc (.cells #[.int .i64 xa, .int .i64 xs, .int .i64 yt, ydv, .int .i64 yk, .int .i64 yo, .int .i64 yn, .int .i64 yu, .int .i64 ypt, .int .i64 ypa, .string yky, .string ytx] 44)) ((w.alloc (.cells #[.int .i64 xa, .int .i64 xs, .int .i64 xt, xdv, .int .i64 xk, .int .i64 xo, .int .i64 xn, .int .i64 xu, .int .i64 xpt, .int .i64 xpa, .string xky, .string xtx] 44)).alloc (.cells #[.int .i64 xa, .int .i64 xs, .int .i64 yt, ydv, .int .i64 yk, .int .i64 yo, .int .i64 yn, .int .i64 yu, .int .i64 ypt, .int .i64 ypa, .string yky, .string ytx] 44)) := Below.refl _ _
  obtain ⟨b3, HB3⟩ : ∃ b, Hid (decide (xds = yds) = b) := ⟨_, rfl⟩
  have hE : ∀ w9, Below ((w.alloc (.cells #[.int .i64 xa, .int .i64 xs, .int .i64 xt, xdv, .int .i64 xk, .int .i64 xo, .int .i64 xn, .int .i64 xu, .int .i64 xpt, .int .i64 xpa, .string xky, .string xtx] 44)).alloc (.cells #[.int .i64 xa, .int .i64 xs, .int .i64 yt, ydv, .int .i64 yk, .int .i64 yo, .int .i64 yn, .int .i64 yu, .int .i64 ypt, .int .i64 ypa, .string yky, .string ytx] 44)).heap.size ((w.alloc (.cells #[.int .i64 xa, .int .i64 xs, .int .i64 xt, xdv, .int .i64 xk, .int .i64 xo, .int .i64 xn, .int .i64 xu, .int .i64 xpt, .int .i64 xpa, .string xky, .string xtx] 44)).alloc (.cells #[.int .i64 xa, .int .i64 xs, .int .i64 yt, ydv, .int .i64 yk, .int .i64 yo, .int .i64 yn, .int .i64 yu, .int .i64 ypt, .int .i64 ypa, .string yky, .string ytx] 44)) w9 → Calls Try.prog 71 #[xdv, ydv] w9 fun e w' => e = .returned (.bool b3) ∧ Below w9.heap.size w9 w' := fun w9 hb => by
    have h1 : Below w.heap.size w w9 := below_seq HB0.out hb
    have := h1.size
    rw [← HB3.out]
    exact equalInts_any C w9 xdv ydv xds yds (by omega) (hx.below (h1.mono hC)) (hy.below (h1.mono hC)) hxl hyl
  clear hx hy hxl hyl hC
  obtain ⟨b2, E2⟩ : ∃ b, Hid ((xt == yt) = b) := ⟨_, rfl⟩
  obtain ⟨b4, E4⟩ : ∃ b, Hid ((xk == yk) = b) := ⟨_, rfl⟩
  obtain ⟨b5, E5⟩ : ∃ b, Hid ((xo == yo) = b) := ⟨_, rfl⟩
  obtain ⟨b6, E6⟩ : ∃ b, Hid ((xn == yn) = b) := ⟨_, rfl⟩
  obtain ⟨b7, E7⟩ : ∃ b, Hid ((xu == yu) = b) := ⟨_, rfl⟩
  obtain ⟨b8, E8⟩ : ∃ b, Hid ((xpt == ypt) = b) := ⟨_, rfl⟩
  obtain ⟨b9, E9⟩ : ∃ b, Hid ((xpa == ypa) = b) := ⟨_, rfl⟩
  obtain ⟨b10, E10⟩ : ∃ b, Hid ((xky.toList == yky.toList) = b) := ⟨_, rfl⟩
  obtain ⟨b11, E11⟩ : ∃ b, Hid ((xtx.toList == ytx.toList) = b) := ⟨_, rfl⟩
  obtain ⟨r, HR0⟩ : ∃ r, Hid (sameB (⟨xa, xs, xt, xdv, xk, xo, xn, xu, xpt, xpa, xky, xtx, xds⟩ : Ov) (⟨xa, xs, yt, ydv, yk, yo, yn, yu, ypt, ypa, yky, ytx, yds⟩ : Ov) = r) := ⟨_, rfl⟩
  have HR : Hid (r = (b2 && (b3 && (b4 && (b5 && (b6 && (b7 && (b8 && (b9 && (b10 && b11)))))))))) := by
    unfold Hid
    rw [← HR0.out, ← E2.out, ← HB3.out, ← E4.out, ← E5.out, ← E6.out, ← E7.out, ← E8.out, ← E9.out, ← E10.out, ← E11.out]
    unfold sameB
    simp only [beq_dec, str_dec, decide_true, Bool.true_and]
  rw [HR0.out]
  clear HR0 HB3
  have hne := kept_some ((w.alloc (.cells #[.int .i64 xa, .int .i64 xs, .int .i64 xt, xdv, .int .i64 xk, .int .i64 xo, .int .i64 xn, .int .i64 xu, .int .i64 xpt, .int .i64 xpa, .string xky, .string xtx] 44)).alloc (.cells #[.int .i64 xa, .int .i64 xs, .int .i64 yt, ydv, .int .i64 yk, .int .i64 yo, .int .i64 yn, .int .i64 yu, .int .i64 ypt, .int .i64 ypa, .string yky, .string ytx] 44))
  have hall := fun p : KeptBy ((w.alloc (.cells #[.int .i64 xa, .int .i64 xs, .int .i64 xt, xdv, .int .i64 xk, .int .i64 xo, .int .i64 xn, .int .i64 xu, .int .i64 xpt, .int .i64 xpa, .string xky, .string xtx] 44)).alloc (.cells #[.int .i64 xa, .int .i64 xs, .int .i64 yt, ydv, .int .i64 yk, .int .i64 yo, .int .i64 yn, .int .i64 yu, .int .i64 ypt, .int .i64 ypa, .string yky, .string ytx] 44)) => two_cells p.kept
  have HALL : Hid _ := hall
  have hlx := fun p : KeptBy ((w.alloc (.cells #[.int .i64 xa, .int .i64 xs, .int .i64 xt, xdv, .int .i64 xk, .int .i64 xo, .int .i64 xn, .int .i64 xu, .int .i64 xpt, .int .i64 xpa, .string xky, .string xtx] 44)).alloc (.cells #[.int .i64 xa, .int .i64 xs, .int .i64 yt, ydv, .int .i64 yk, .int .i64 yo, .int .i64 yn, .int .i64 yu, .int .i64 ypt, .int .i64 ypa, .string yky, .string ytx] 44)) => two_range p.kept
  have HLX : Hid _ := hlx
  clear hall hlx
  go_enter Try.func54, Try.ntmps54
  go_wp2_with fail
  generalize ((w.alloc (.cells #[.int .i64 xa, .int .i64 xs, .int .i64 xt, xdv, .int .i64 xk, .int .i64 xo, .int .i64 xn, .int .i64 xu, .int .i64 xpt, .int .i64 xpa, .string xky, .string xtx] 44)).alloc (.cells #[.int .i64 xa, .int .i64 xs, .int .i64 yt, ydv, .int .i64 yk, .int .i64 yo, .int .i64 yn, .int .i64 yu, .int .i64 ypt, .int .i64 ypa, .string yky, .string ytx] 44)) = Wb at *
  refine wp_region_kept (by kernel_rfl) (by kernel_rfl) ?_
  refine quiet_load 44 _ w.heap.size 0 [.int .i64 xa, .int .i64 xs, .int .i64 xt, xdv, .int .i64 xk, .int .i64 xo, .int .i64 xn, .int .i64 xu, .int .i64 xpt, .int .i64 xpa, .string xky, .string xtx] _ (fun w' ⟨p, hp⟩ => by rw [hp]; exact (HLX.out p).1) Try.underlying44 rfl (infoOpB (⟨xa, xs, xt, xdv, xk, xo, xn, xu, xpt, xpa, xky, xtx, xds⟩ : Ov)) ?_
  simp only [tkS, Act.put]
  quiet_step ((go_at_call 53; exact kept_of (opName_any xa xs xt xk xo xn xu xpt xpa xdv xky xtx _)))
  refine quiet_load 44 _ (w.heap.size + 1) 0 [.int .i64 xa, .int .i64 xs, .int .i64 yt, ydv, .int .i64 yk, .int .i64 yo, .int .i64 yn, .int .i64 yu, .int .i64 ypt, .int .i64 ypa, .string yky, .string ytx] _ (fun w' ⟨p, hp⟩ => by rw [hp]; exact (HLX.out p).2) Try.underlying44 rfl (infoOpB (⟨xa, xs, yt, ydv, yk, yo, yn, yu, ypt, ypa, yky, ytx, yds⟩ : Ov)) ?_
  simp only [tkS, Act.put]
  quiet_step ((go_at_call 53; exact kept_of (opName_any xa xs yt yk yo yn yu ypt ypa ydv yky ytx _)))
  clear HLX
  iterate 2 (quiet_step (fail))
  have p2 := fun p => (HALL.out p).2.2.1
  have q2 := fun p => (HALL.out p).2.2.2.2.2.2.2.2.2.2.2.2.2.2.1
  have e2 := E2.out
  iterate 7 (quiet_step (fail))
  clear p2 q2 e2
  cases b2 with
  | false =>
    iterate 7 refine quiet_skip ?_
    iterate 2 quiet_step (fail)
    iterate 5 refine quiet_skip ?_
    iterate 2 quiet_step (fail)
    iterate 5 refine quiet_skip ?_
    iterate 2 quiet_step (fail)
    iterate 5 refine quiet_skip ?_
    iterate 2 quiet_step (fail)
    iterate 5 refine quiet_skip ?_
    iterate 2 quiet_step (fail)
    iterate 5 refine quiet_skip ?_
    iterate 2 quiet_step (fail)
    iterate 5 refine quiet_skip ?_
    iterate 2 quiet_step (fail)
    iterate 5 refine quiet_skip ?_
    iterate 2 quiet_step (fail)
    refine wpQuiet_nil ?_
    intro _ hw'
    obtain ⟨⟨wq, hbq⟩, hw''⟩ := hw'
    subst hw''
    go_wp2_with fail
    go_ret
    exact ⟨by rw [HR.out]; simp, below_seq HB0.out hbq⟩
  | true =>
    have p3 := fun p => (HALL.out p).2.2.2.1
    have q3 := fun p => (HALL.out p).2.2.2.2.2.2.2.2.2.2.2.2.2.2.2.1
    iterate 9 (quiet_step (first | (go_at_call 71; exact kept_of (hE _ (KeptBy.kept _)))))
    clear p3 q3
    cases b3 with
    | false =>
      iterate 5 refine quiet_skip ?_
      iterate 2 quiet_step (fail)
      iterate 5 refine quiet_skip ?_
      iterate 2 quiet_step (fail)
      iterate 5 refine quiet_skip ?_
      iterate 2 quiet_step (fail)
      iterate 5 refine quiet_skip ?_
      iterate 2 quiet_step (fail)
      iterate 5 refine quiet_skip ?_
      iterate 2 quiet_step (fail)
      iterate 5 refine quiet_skip ?_
      iterate 2 quiet_step (fail)
      iterate 5 refine quiet_skip ?_
      iterate 2 quiet_step (fail)
      refine wpQuiet_nil ?_
      intro _ hw'
      obtain ⟨⟨wq, hbq⟩, hw''⟩ := hw'
      subst hw''
      go_wp2_with fail
      go_ret
      exact ⟨by rw [HR.out]; simp, below_seq HB0.out hbq⟩
    | true =>
      have p4 := fun p => (HALL.out p).2.2.2.2.1
      have q4 := fun p => (HALL.out p).2.2.2.2.2.2.2.2.2.2.2.2.2.2.2.2.1
      have e4 := E4.out
      iterate 7 (quiet_step (fail))
      clear p4 q4 e4
      cases b4 with
      | false =>
        iterate 5 refine quiet_skip ?_
        iterate 2 quiet_step (fail)
        iterate 5 refine quiet_skip ?_
        iterate 2 quiet_step (fail)
        iterate 5 refine quiet_skip ?_
        iterate 2 quiet_step (fail)
        iterate 5 refine quiet_skip ?_
        iterate 2 quiet_step (fail)
        iterate 5 refine quiet_skip ?_
        iterate 2 quiet_step (fail)
        iterate 5 refine quiet_skip ?_
        iterate 2 quiet_step (fail)
        refine wpQuiet_nil ?_
        intro _ hw'
        obtain ⟨⟨wq, hbq⟩, hw''⟩ := hw'
        subst hw''
        go_wp2_with fail
        go_ret
        exact ⟨by rw [HR.out]; simp, below_seq HB0.out hbq⟩
      | true =>
        have p5 := fun p => (HALL.out p).2.2.2.2.2.1
        have q5 := fun p => (HALL.out p).2.2.2.2.2.2.2.2.2.2.2.2.2.2.2.2.2.1
        have e5 := E5.out
        iterate 7 (quiet_step (fail))
        clear p5 q5 e5
        cases b5 with
        | false =>
          iterate 5 refine quiet_skip ?_
          iterate 2 quiet_step (fail)
          iterate 5 refine quiet_skip ?_
          iterate 2 quiet_step (fail)
          iterate 5 refine quiet_skip ?_
          iterate 2 quiet_step (fail)
          iterate 5 refine quiet_skip ?_
          iterate 2 quiet_step (fail)
          iterate 5 refine quiet_skip ?_
          iterate 2 quiet_step (fail)
          refine wpQuiet_nil ?_
          intro _ hw'
          obtain ⟨⟨wq, hbq⟩, hw''⟩ := hw'
          subst hw''
          go_wp2_with fail
          go_ret
          exact ⟨by rw [HR.out]; simp, below_seq HB0.out hbq⟩
        | true =>
          have p6 := fun p => (HALL.out p).2.2.2.2.2.2.1
          have q6 := fun p => (HALL.out p).2.2.2.2.2.2.2.2.2.2.2.2.2.2.2.2.2.2.1
          have e6 := E6.out
          iterate 7 (quiet_step (fail))
          clear p6 q6 e6
          cases b6 with
          | false =>
            iterate 5 refine quiet_skip ?_
            iterate 2 quiet_step (fail)
            iterate 5 refine quiet_skip ?_
            iterate 2 quiet_step (fail)
            iterate 5 refine quiet_skip ?_
            iterate 2 quiet_step (fail)
            iterate 5 refine quiet_skip ?_
            iterate 2 quiet_step (fail)
            refine wpQuiet_nil ?_
            intro _ hw'
            obtain ⟨⟨wq, hbq⟩, hw''⟩ := hw'
            subst hw''
            go_wp2_with fail
            go_ret
            exact ⟨by rw [HR.out]; simp, below_seq HB0.out hbq⟩
          | true =>
            have p7 := fun p => (HALL.out p).2.2.2.2.2.2.2.1
            have q7 := fun p => (HALL.out p).2.2.2.2.2.2.2.2.2.2.2.2.2.2.2.2.2.2.2.1
            have e7 := E7.out
            iterate 7 (quiet_step (fail))
            clear p7 q7 e7
            cases b7 with
            | false =>
              iterate 5 refine quiet_skip ?_
              iterate 2 quiet_step (fail)
              iterate 5 refine quiet_skip ?_
              iterate 2 quiet_step (fail)
              iterate 5 refine quiet_skip ?_
              iterate 2 quiet_step (fail)
              refine wpQuiet_nil ?_
              intro _ hw'
              obtain ⟨⟨wq, hbq⟩, hw''⟩ := hw'
              subst hw''
              go_wp2_with fail
              go_ret
              exact ⟨by rw [HR.out]; simp, below_seq HB0.out hbq⟩
            | true =>
              have p8 := fun p => (HALL.out p).2.2.2.2.2.2.2.2.1
              have p9 := fun p => (HALL.out p).2.2.2.2.2.2.2.2.2.1
              have q8 := fun p => (HALL.out p).2.2.2.2.2.2.2.2.2.2.2.2.2.2.2.2.2.2.2.2.1
              have q9 := fun p => (HALL.out p).2.2.2.2.2.2.2.2.2.2.2.2.2.2.2.2.2.2.2.2.2.1
              have e8 := E8.out
              have e9 := E9.out
              iterate 4 (quiet_step (fail))
              cases b8 with
              | false =>
                iterate 3 (quiet_step (fail))
                clear p8 q8 p9 q9 e8 e9
                iterate 5 refine quiet_skip ?_
                iterate 2 quiet_step (fail)
                iterate 5 refine quiet_skip ?_
                iterate 2 quiet_step (fail)
                refine wpQuiet_nil ?_
                intro _ hw'
                obtain ⟨⟨wq, hbq⟩, hw''⟩ := hw'
                subst hw''
                go_wp2_with fail
                go_ret
                exact ⟨by rw [HR.out]; simp, below_seq HB0.out hbq⟩
              | true =>
                cases b9 with
                | false =>
                  iterate 3 (quiet_step (fail))
                  clear p8 q8 p9 q9 e8 e9
                  iterate 5 refine quiet_skip ?_
                  iterate 2 quiet_step (fail)
                  iterate 5 refine quiet_skip ?_
                  iterate 2 quiet_step (fail)
                  refine wpQuiet_nil ?_
                  intro _ hw'
                  obtain ⟨⟨wq, hbq⟩, hw''⟩ := hw'
                  subst hw''
                  go_wp2_with fail
                  go_ret
                  exact ⟨by rw [HR.out]; simp, below_seq HB0.out hbq⟩
                | true =>
                  iterate 3 (quiet_step (fail))
                  clear p8 q8 p9 q9 e8 e9
                  have p10 := fun p => (HALL.out p).2.2.2.2.2.2.2.2.2.2.1
                  have q10 := fun p => (HALL.out p).2.2.2.2.2.2.2.2.2.2.2.2.2.2.2.2.2.2.2.2.2.2.1
                  have e10 := E10.out
                  iterate 7 (quiet_step (fail))
                  clear p10 q10 e10
                  cases b10 with
                  | false =>
                    iterate 5 refine quiet_skip ?_
                    iterate 2 quiet_step (fail)
                    refine wpQuiet_nil ?_
                    intro _ hw'
                    obtain ⟨⟨wq, hbq⟩, hw''⟩ := hw'
                    subst hw''
                    go_wp2_with fail
                    go_ret
                    exact ⟨by rw [HR.out]; simp, below_seq HB0.out hbq⟩
                  | true =>
                    have p11 := fun p => (HALL.out p).2.2.2.2.2.2.2.2.2.2.2.1
                    have q11 := fun p => (HALL.out p).2.2.2.2.2.2.2.2.2.2.2.2.2.2.2.2.2.2.2.2.2.2.2
                    have e11 := E11.out
                    iterate 7 (quiet_step (fail))
                    clear p11 q11 e11
                    refine wpQuiet_nil ?_
                    intro _ hw'
                    obtain ⟨⟨wq, hbq⟩, hw''⟩ := hw'
                    subst hw''
                    go_wp2_with fail
                    go_ret
                    exact ⟨by rw [HR.out]; simp, below_seq HB0.out hbq⟩

end Go.Proofs.Ytjbjkamlgcnmaaa
