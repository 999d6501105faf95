/- The source of drawn numbers: what byte and next do. -/
import Derived.Test.YtnomplfnblmciaaStampBase
import Derived.BigRegion
namespace Go.Proofs.Ytnomplfnblmciaa
open Go.RowKit
set_option linter.unusedVariables false

/-- The block b holds a source: its bytes, its place, its seed. -/
def Sr (w : World) (b : Nat) (v : Value) (at' seed : Int) : Prop := w.heap[b]? = some (.cells #[v, .int .i64 at', .int .i64 seed] 56 (0, 0))
theorem Sr.c0 {w : World} {b : Nat} {v : Value} {p q : Int} (h : Sr w b v p q) : w.cell? ⟨b, 0, none⟩ = some v := by
  unfold Sr at h; simp [World.cell?, h]
theorem Sr.c1 {w : World} {b : Nat} {v : Value} {p q : Int} (h : Sr w b v p q) : w.cell? ⟨b, 1, none⟩ = some (.int .i64 p) := by
  unfold Sr at h; simp [World.cell?, h]
theorem Sr.c2 {w : World} {b : Nat} {v : Value} {p q : Int} (h : Sr w b v p q) : w.cell? ⟨b, 2, none⟩ = some (.int .i64 q) := by
  unfold Sr at h; simp [World.cell?, h]
theorem Sr.f {w : World} {b : Nat} {v : Value} {p q : Int} (h : Sr w b v p q) (j : Nat) : w.frozen? ⟨b, j, none⟩ = false := by
  unfold Sr at h; simp [World.frozen?, h]
theorem Sr.set1 {w : World} {b : Nat} {v : Value} {p q : Int} (h : Sr w b v p q) (p' : Int) : Sr (w.setCell ⟨b, 1, none⟩ (.int .i64 p')) b v p' q := by
  unfold Sr at h ⊢
  rw [heap_setCell_same w b 1 _ _ _ h]
  rfl
theorem Sr.set2 {w : World} {b : Nat} {v : Value} {p q : Int} (h : Sr w b v p q) (q' : Int) : Sr (w.setCell ⟨b, 2, none⟩ (.int .i64 q')) b v p q' := by
  unfold Sr at h ⊢
  rw [heap_setCell_same w b 2 _ _ _ h]
  rfl
theorem Sr.lt {w : World} {b : Nat} {v : Value} {p q : Int} (h : Sr w b v p q) : b < w.heap.size := (Array.getElem?_eq_some_iff.1 h).1
theorem Sr.drewN {w : World} {b : Nat} {v : Value} {p q : Int} (h : Sr w b v p q) (n : Nat) : Sr (w.drewN n) b v p q := h
theorem Sr.below {B : Nat} {w w' : World} {b : Nat} {v : Value} {p q : Int} (h : Sr w b v p q) (hb : Below B w w') (hB : b < B) : Sr w' b v p q := by
  unfold Sr at h ⊢
  rw [hb.block b hB]
  exact h

/-- A source over bytes in a block below C, whose place is at most A. -/
def Src (C : Nat) (w : World) (b A : Nat) : Prop :=
  ∃ (v : Value) (xs : List Int) (p q : Int), Sr w b v p q ∧ C ≤ b ∧ Rd C w v (xs.map (Value.int .u8)) ∧ (∀ x ∈ xs, 0 ≤ x ∧ x ≤ 255) ∧ xs.length ≤ 1048576 ∧ 0 ≤ p ∧ p ≤ (A : Int) ∧ 0 ≤ q ∧ q < 2147483648
theorem Src.lt {C : Nat} {w : World} {b A : Nat} (h : Src C w b A) : b < w.heap.size := by
  obtain ⟨v, xs, p, q, h, _⟩ := h
  exact h.lt
theorem Src.mono {C : Nat} {w : World} {b A A' : Nat} (h : Src C w b A) (hA : A ≤ A') : Src C w b A' := by
  obtain ⟨v, xs, p, q, h1, h2, h3, h4, h5, h6, h7, h8, h9⟩ := h
  exact ⟨v, xs, p, q, h1, h2, h3, h4, h5, h6, by omega, h8, h9⟩
theorem Src.below {C B : Nat} {w w' : World} {b A : Nat} (h : Src C w b A) (hb : Below B w w') (hB : b < B) : Src C w' b A := by
  obtain ⟨v, xs, p, q, h1, h2, h3, h4⟩ := h
  exact ⟨v, xs, p, q, h1.below hb hB, h2, h3.below (hb.mono (by omega)), h4⟩
theorem Src.alloc {C : Nat} {w : World} {b A : Nat} (h : Src C w b A) (o : Obj) : Src C (w.alloc o) b A := h.below (below_alloc w o) h.lt
theorem Src.set {C : Nat} {w : World} {b A n k : Nat} (h : Src C w b A) (hn : b < n) (u : Value) : Src C (w.setCell ⟨n, k, none⟩ u) b A := h.below (B := n) ((Below.refl n w).setCell (p := ⟨n, k, none⟩) (Nat.le_refl _) u) hn
/-- What stays as it was beside a source. -/
theorem gr_set1 (w : World) (b k : Nat) (u : Value) : w.grownBy (w.setCell ⟨b, k, none⟩ u) (some b) := grownBy_set w b k u
theorem gr_below {B b : Nat} {a w w' : World} (h : Below B a w) (hg : w.grownBy w' (some b)) (hb : B ≤ b) (hs : B ≤ w.heap.size) : Below B a w' := h.grown hg hs (fun k hk => by cases hk; exact hb)

set_option maxHeartbeats 4000000 in
set_option maxRecDepth 100000 in
theorem byte_any (C b A : Nat) (w : World) (h : Src C w b A) (hA : A ≤ 1000000000) :
    Calls Try.prog 34 #[.pointer (some ⟨b, 0, none⟩)] w fun e w' => ∃ r : Int, e = .returned (.int .i64 r) ∧ 0 ≤ r ∧ r ≤ 255 ∧ Src C w' b (A + 1) ∧ w.grownBy w' (some b) := by
  obtain ⟨v, xs, p, q, hS, hC, hR, hX, hl, hp0, hp1, hq0, hq1⟩ := h
  have hR0 := hR
  obtain ⟨ao, cap, rfl, hcap, hmax, _, hc⟩ := hR0
  rw [List.length_map] at hS hc hcap hR
  have c1 := hS.c1
  have f1 := hS.f 1
  have p0 : p + 1 < 9223372036854775808 := by omega
  have p1 : -9223372036854775808 ≤ p + 1 := by omega
  have hS1 := hS.set1 (p + 1)
  have hG1 := grownBy_set w b 1 (.int .i64 (p + 1))
  have hR1 := hR.grown hG1 (fun k hk => by cases hk; exact hC)
  go_enter Try.func34, Try.ntmps34
  by_cases h1 : p + 1 ≤ (xs.length : Int)
  · obtain ⟨g, off, rfl, hg, hcs⟩ := hc (by omega)
    obtain ⟨n, rfl⟩ : ∃ n : Nat, p = (n : Int) := ⟨p.toNat, by omega⟩
    have hlt : n < xs.length := by omega
    have e1 : (w.setCell ⟨b, 1, none⟩ (.int .i64 ((n : Int) + 1))).cell? ⟨g, off + n, none⟩ = some (.int .u8 xs[n]) := hG1.cell (a := ⟨g, off + n, none⟩) (hcs n _ (by simp [hlt])) (fun e => by simp at e; omega)
    have hx := hX xs[n] (List.getElem_mem hlt)
    generalize xs[n] = x at e1 hx
    clear hcs hc
    go_wp2_with fail
    generalize w.setCell ⟨b, 1, none⟩ (.int .i64 ((n : Int) + 1)) = w1 at *
    have r0 := hS1.c0
    have r1 := hS1.c1
    have r2 := hS1.c2
    have r3 := hS1.f 2
    go_quiet (fail)
    go_wp2_with fail
    have hS2 : Sr (w1.drewN nq) b _ _ _ := hS1
    have hR2 : Rd C (w1.drewN nq) _ _ := hR1
    have hG2 : w.grownBy (w1.drewN nq) (some b) := grownBy_trans hG1 (grownBy_drewN w1 nq _)
    have e2 : (w1.drewN nq).cell? ⟨g, off + n, none⟩ = some (.int .u8 x) := e1
    have i0 : ((n : Int) + 1 - 1) = (n : Int) := by omega
    clear r0 r1 r2 r3 hS1 hR1 hG1 e1
    generalize w1.drewN nq = w2 at *
    have r0 := hS2.c0
    have r1 := hS2.c1
    have r2 := hS2.c2
    have r3 := hS2.f 2
    have a0 : q * 31 < 9223372036854775808 := by omega
    have a1 : -9223372036854775808 ≤ q * 31 := by omega
    have a2 : q * 31 + x < 9223372036854775808 := by omega
    have a3 : -9223372036854775808 ≤ q * 31 + x := by omega
    have a4 : q * 31 + x + 7 < 9223372036854775808 := by omega
    have a5 : -9223372036854775808 ≤ q * 31 + x + 7 := by omega
    go_region
    go_wp2_with fail
    have b0 : 0 ≤ (q * 31 + x + 7) % 2147483648 := by omega
    have b1 : (q * 31 + x + 7) % 2147483648 < 2147483648 := by omega
    have hS3 : Sr (w2.setCell ⟨b, 2, none⟩ (.int .i64 ((q * 31 + x + 7) % 2147483648))).drew b _ _ _ := hS2.set2 ((q * 31 + x + 7) % 2147483648)
    have hG3 : w2.grownBy (w2.setCell ⟨b, 2, none⟩ (.int .i64 ((q * 31 + x + 7) % 2147483648))).drew (some b) := by
      have h := grownBy_set w2 b 2 (.int .i64 ((q * 31 + x + 7) % 2147483648))
      exact ⟨h.os, h.tape, h.output, h.size, h.block⟩
    have hR3 := hR2.grown hG3 (fun k hk => by cases hk; exact hC)
    have e3 := hG3.cell (a := ⟨g, off + n, none⟩) e2 (fun e => by simp at e; omega)
    have hG4 := grownBy_trans hG2 hG3
    generalize (q * 31 + x + 7) % 2147483648 = q' at *
    clear r0 r1 r2 r3 e2 hS2 hG2 hR2 hG3
    generalize (w2.setCell ⟨b, 2, none⟩ (.int .i64 q')).drew = w3 at *
    have r0 := hS3.c0
    have r1 := hS3.c1
    go_quiet (fail)
    go_wp2_with fail
    go_ret
    exact ⟨x, rfl, by omega, by omega, ⟨_, xs, _, _, hS3.drewN nq, hC, hR3, hX, hl, by omega, by omega, b0, b1⟩, grownBy_trans hG4 (grownBy_drewN w3 nq _)⟩
  · replace h1 : (xs.length : Int) < p + 1 := by omega
    by_cases h2 : 4000 + 4 * (xs.length : Int) < p + 1
    · go_wp2_with fail
      generalize w.setCell ⟨b, 1, none⟩ (.int .i64 (p + 1)) = w1 at *
      have r0 := hS1.c0
      have r1 := hS1.c1
      go_quiet (fail)
      go_wp2_with fail
      have hS2 : Sr (w1.drewN nq) b _ _ _ := hS1
      have hR2 : Rd C (w1.drewN nq) _ _ := hR1
      have hG2 : w.grownBy (w1.drewN nq) (some b) := grownBy_trans hG1 (grownBy_drewN w1 nq _)
      clear r0 r1 hS1 hR1 hG1
      generalize w1.drewN nq = w2 at *
      have r0 := hS2.c0
      have r1 := hS2.c1
      go_quiet (fail)
      go_wp2_with fail
      go_ret
      exact ⟨0, rfl, by omega, by omega, ⟨_, xs, _, _, hS2.drewN nq, hC, hR2, hX, hl, by omega, by omega, hq0, hq1⟩, grownBy_trans hG2 (grownBy_drewN w2 nq _)⟩
    · replace h2 : p + 1 ≤ 4000 + 4 * (xs.length : Int) := by omega
      go_wp2_with fail
      generalize w.setCell ⟨b, 1, none⟩ (.int .i64 (p + 1)) = w1 at *
      have r0 := hS1.c0
      have r1 := hS1.c1
      go_quiet (fail)
      go_wp2_with fail
      have hS2 : Sr (w1.drewN nq) b _ _ _ := hS1
      have hR2 : Rd C (w1.drewN nq) _ _ := hR1
      have hG2 : w.grownBy (w1.drewN nq) (some b) := grownBy_trans hG1 (grownBy_drewN w1 nq _)
      clear r0 r1 hS1 hR1 hG1
      generalize w1.drewN nq = w2 at *
      have r0 := hS2.c0
      have r1 := hS2.c1
      go_quiet (fail)
      have hS3 : Sr (w2.drewN nq) b _ _ _ := hS2
      have hR3 : Rd C (w2.drewN nq) _ _ := hR2
      have hG3 : w.grownBy (w2.drewN nq) (some b) := grownBy_trans hG2 (grownBy_drewN w2 nq _)
      clear r0 r1 hS2 hR2 hG2
      generalize w2.drewN nq = w3 at *
      have r2 := hS3.c2
      have r3 := hS3.f 2
      have a0 : q * 1103515245 < 9223372036854775808 := by omega
      have a1 : -9223372036854775808 ≤ q * 1103515245 := by omega
      have a2 : q * 1103515245 + 12345 < 9223372036854775808 := by omega
      have a3 : -9223372036854775808 ≤ q * 1103515245 + 12345 := by omega
      have b0 : 0 ≤ (q * 1103515245 + 12345) % 2147483648 := by omega
      have b1 : (q * 1103515245 + 12345) % 2147483648 < 2147483648 := by omega
      have hS4 := hS3.set2 ((q * 1103515245 + 12345) % 2147483648)
      have hG4 := grownBy_set w3 b 2 (.int .i64 ((q * 1103515245 + 12345) % 2147483648))
      have hR4 := hR3.grown hG4 (fun k hk => by cases hk; exact hC)
      have s2 := hS4.c2
      go_wp2_with fail
      go_ret
      exact ⟨_, rfl, by omega, by omega, ⟨_, xs, _, _, hS4, hC, hR4, hX, hl, by omega, by omega, b0, b1⟩, grownBy_trans hG3 hG4⟩

set_option maxHeartbeats 1000000 in
set_option maxRecDepth 100000 in
theorem srcNext_any (C b A : Nat) (n : Int) (w : World) (h : Src C w b A) (hA : A ≤ 900000000) (hn : 2 ≤ n) (hn' : n ≤ 16777216) :
    Calls Try.prog 26 #[.pointer (some ⟨b, 0, none⟩), .int .i64 n] w fun e w' => ∃ r : Int, e = .returned (.int .i64 r) ∧ 0 ≤ r ∧ r < n ∧ Src C w' b (A + 3) ∧ w.grownBy w' (some b) := by
  have h0 : 1 < n := by omega
  have hz : ¬ n = 0 := by omega
  by_cases h1 : n ≤ 256
  · go_enter Try.func26, Try.ntmps26
    go_wp2_with fail
    refine (byte_any C b A _ h (by omega)).mono ?_
    rintro e w1 ⟨r, rfl, hr0, hr1, hS, hG⟩
    have m0 := Int.emod_nonneg r hz
    have m1 := Int.emod_lt_of_pos r (show 0 < n by omega)
    go_wp2_with fail
    go_ret
    exact ⟨_, rfl, m0, m1, hS.mono (by omega), hG⟩
  · replace h1 : 256 < n := by omega
    go_enter Try.func26, Try.ntmps26
    go_wp2_with fail
    refine (byte_any C b A _ h (by omega)).mono ?_
    rintro e w1 ⟨r, rfl, hr0, hr1, hS, hG⟩
    go_wp2_with fail
    refine (byte_any C b _ _ hS (by omega)).mono ?_
    rintro e w2 ⟨r2, rfl, hr2, hr3, hS2, hG2⟩
    go_wp2_with fail
    refine (byte_any C b _ _ hS2 (by omega)).mono ?_
    rintro e w3 ⟨r3, rfl, hr4, hr5, hS3, hG3⟩
    have m0 := Int.emod_nonneg (r * 65536 + r2 * 256 + r3) hz
    have m1 := Int.emod_lt_of_pos (r * 65536 + r2 * 256 + r3) (show 0 < n by omega)
    go_wp2_with fail
    go_ret
    exact ⟨_, rfl, m0, m1, hS3.mono (by omega), grownBy_trans (grownBy_trans hG hG2) hG3⟩

set_option maxHeartbeats 400000 in
theorem source_any (C : Nat) (w : World) (v : Value) (xs : List Int) (hC : C ≤ w.heap.size) (hr : Rd C w v (xs.map (Value.int .u8))) (hX : ∀ x ∈ xs, 0 ≤ x ∧ x ≤ 255) (hl : xs.length ≤ 1048576) :
    Calls Try.prog 24 #[v] w fun e w' => e = .returned (.pointer (some ⟨w.heap.size, 0, none⟩)) ∧ Src C w' w.heap.size 0 ∧ Below w.heap.size w w' := by
  have hr0 := hr
  obtain ⟨ao, cap, rfl, hcap, hmax, _, hc⟩ := hr0
  rw [List.length_map] at hr ⊢
  go_enter Try.func24, Try.ntmps24
  go_wp2_with fail
  go_ret
  refine ⟨rfl, ⟨_, xs, _, _, heap_alloc_new w _, hC, Rd.below hr ((below_alloc w _).mono hC), hX, hl, Int.le_refl _, Int.le_refl _, ?_, ?_⟩, below_alloc _ _⟩
  · omega
  · omega

end Go.Proofs.Ytnomplfnblmciaa
