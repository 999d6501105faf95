/- The source of drawn numbers: what byte and next do. Drawn words and stamps. What the source's chance and size answer; a source beside a row that grows. -/
import Derived.BigRegion
import Derived.Test.YtmmkmkaannlkhaaGreatDoorQInfoToLawAt
namespace Go.Proofs.YtmmkmkaannlkhaaGreatDoor
open Go.RowKit
set_option linter.unusedVariables false

/-- The block b holds a source: its bytes, its place, its seed. -/
def Sr (w : World) (b : Nat) (v : Value) (at' seed : Int) : Prop := w.heap[b]? = some (.cells #[v, .int .i64 at', .int .i64 seed] 66 (0, 0))
theorem Sr.c0 {w : World} {b : Nat} {v : Value} {p q : Int} (h : Sr w b v p q) : w.cell? ⟨b, 0, none⟩ = some v := by
  unfold Sr at h; simp [World.cell?, h]
theorem Sr.c1 {w : World} {b : Nat} {v : Value} {p q : Int} (h : Sr w b v p q) : w.cell? ⟨b, 1, none⟩ = some (.int .i64 p) := by
  unfold Sr at h; simp [World.cell?, h]
theorem Sr.c2 {w : World} {b : Nat} {v : Value} {p q : Int} (h : Sr w b v p q) : w.cell? ⟨b, 2, none⟩ = some (.int .i64 q) := by
  unfold Sr at h; simp [World.cell?, h]
theorem Sr.f {w : World} {b : Nat} {v : Value} {p q : Int} (h : Sr w b v p q) (j : Nat) : w.frozen? ⟨b, j, none⟩ = false := by
  unfold Sr at h; simp [World.frozen?, h]
theorem Sr.set1 {w : World} {b : Nat} {v : Value} {p q : Int} (h : Sr w b v p q) (p' : Int) : Sr (w.setCell ⟨b, 1, none⟩ (.int .i64 p')) b v p' q := by
  unfold Sr at h ⊢
  rw [heap_setCell_same w b 1 _ _ _ h]
  rfl
theorem Sr.set2 {w : World} {b : Nat} {v : Value} {p q : Int} (h : Sr w b v p q) (q' : Int) : Sr (w.setCell ⟨b, 2, none⟩ (.int .i64 q')) b v p q' := by
  unfold Sr at h ⊢
  rw [heap_setCell_same w b 2 _ _ _ h]
  rfl
theorem Sr.lt {w : World} {b : Nat} {v : Value} {p q : Int} (h : Sr w b v p q) : b < w.heap.size := (Array.getElem?_eq_some_iff.1 h).1
theorem Sr.drewN {w : World} {b : Nat} {v : Value} {p q : Int} (h : Sr w b v p q) (n : Nat) : Sr (w.drewN n) b v p q := h
theorem Sr.below {B : Nat} {w w' : World} {b : Nat} {v : Value} {p q : Int} (h : Sr w b v p q) (hb : Below B w w') (hB : b < B) : Sr w' b v p q := by
  unfold Sr at h ⊢
  rw [hb.block b hB]
  exact h

/-- A source over bytes in a block below C, whose place is at most A. -/
def Src (C : Nat) (w : World) (b A : Nat) : Prop :=
  ∃ (v : Value) (xs : List Int) (p q : Int), Sr w b v p q ∧ C ≤ b ∧ Rd C w v (xs.map (Value.int .u8)) ∧ (∀ x ∈ xs, 0 ≤ x ∧ x ≤ 255) ∧ xs.length ≤ 1048576 ∧ 0 ≤ p ∧ p ≤ (A : Int) ∧ 0 ≤ q ∧ q < 2147483648
theorem Src.lt {C : Nat} {w : World} {b A : Nat} (h : Src C w b A) : b < w.heap.size := by
  obtain ⟨v, xs, p, q, h, _⟩ := h
  exact h.lt
theorem Src.mono {C : Nat} {w : World} {b A A' : Nat} (h : Src C w b A) (hA : A ≤ A') : Src C w b A' := by
  obtain ⟨v, xs, p, q, h1, h2, h3, h4, h5, h6, h7, h8, h9⟩ := h
  exact ⟨v, xs, p, q, h1, h2, h3, h4, h5, h6, by omega, h8, h9⟩
theorem Src.below {C B : Nat} {w w' : World} {b A : Nat} (h : Src C w b A) (hb : Below B w w') (hB : b < B) : Src C w' b A := by
  obtain ⟨v, xs, p, q, h1, h2, h3, h4⟩ := h
  exact ⟨v, xs, p, q, h1.below hb hB, h2, h3.below (hb.mono (by omega)), h4⟩
theorem Src.alloc {C : Nat} {w : World} {b A : Nat} (h : Src C w b A) (o : Obj) : Src C (w.alloc o) b A := h.below (below_alloc w o) h.lt
theorem Src.set {C : Nat} {w : World} {b A n k : Nat} (h : Src C w b A) (hn : b < n) (u : Value) : Src C (w.setCell ⟨n, k, none⟩ u) b A := h.below (B := n) ((Below.refl n w).setCell (p := ⟨n, k, none⟩) (Nat.le_refl _) u) hn
/-- What stays as it was beside a source. -/
theorem gr_set1 (w : World) (b k : Nat) (u : Value) : w.grownBy (w.setCell ⟨b, k, none⟩ u) (some b) := grownBy_set w b k u
theorem gr_below {B b : Nat} {a w w' : World} (h : Below B a w) (hg : w.grownBy w' (some b)) (hb : B ≤ b) (hs : B ≤ w.heap.size) : Below B a w' := h.grown hg hs (fun k hk => by cases hk; exact hb)

set_option maxHeartbeats 4000000 in
set_option maxRecDepth 100000 in
theorem byte_any (C b A : Nat) (w : World) (h : Src C w b A) (hA : A ≤ 1000000000) :
    Calls Tryz.prog 48 #[.pointer (some ⟨b, 0, none⟩)] w fun e w' => ∃ r : Int, e = .returned (.int .i64 r) ∧ 0 ≤ r ∧ r ≤ 255 ∧ Src C w' b (A + 1) ∧ w.grownBy w' (some b) := by
  obtain ⟨v, xs, p, q, hS, hC, hR, hX, hl, hp0, hp1, hq0, hq1⟩ := h
  have hR0 := hR
  obtain ⟨ao, cap, rfl, hcap, hmax, _, hc⟩ := hR0
  rw [List.length_map] at hS hc hcap hR
  have c1 := hS.c1
  have f1 := hS.f 1
  have p0 : p + 1 < 9223372036854775808 := by omega
  have p1 : -9223372036854775808 ≤ p + 1 := by omega
  have hS1 := hS.set1 (p + 1)
  have hG1 := grownBy_set w b 1 (.int .i64 (p + 1))
  have hR1 := hR.grown hG1 (fun k hk => by cases hk; exact hC)
  go_enter Tryz.func48, Tryz.ntmps48
  by_cases h1 : p + 1 ≤ (xs.length : Int)
  · obtain ⟨g, off, rfl, hg, hcs⟩ := hc (by omega)
    obtain ⟨n, rfl⟩ : ∃ n : Nat, p = (n : Int) := ⟨p.toNat, by omega⟩
    have hlt : n < xs.length := by omega
    have e1 : (w.setCell ⟨b, 1, none⟩ (.int .i64 ((n : Int) + 1))).cell? ⟨g, off + n, none⟩ = some (.int .u8 xs[n]) := hG1.cell (a := ⟨g, off + n, none⟩) (hcs n _ (by simp [hlt])) (fun e => by simp at e; omega)
    have hx := hX xs[n] (List.getElem_mem hlt)
    generalize xs[n] = x at e1 hx
    clear hcs hc
    go_wp2_with fail
    generalize w.setCell ⟨b, 1, none⟩ (.int .i64 ((n : Int) + 1)) = w1 at *
    have r0 := hS1.c0
    have r1 := hS1.c1
    have r2 := hS1.c2
    have r3 := hS1.f 2
    go_quiet (fail)
    go_wp2_with fail
    have hS2 : Sr (w1.drewN nq) b _ _ _ := hS1
    have hR2 : Rd C (w1.drewN nq) _ _ := hR1
    have hG2 : w.grownBy (w1.drewN nq) (some b) := grownBy_trans hG1 (grownBy_drewN w1 nq _)
    have e2 : (w1.drewN nq).cell? ⟨g, off + n, none⟩ = some (.int .u8 x) := e1
    have i0 : ((n : Int) + 1 - 1) = (n : Int) := by omega
    clear r0 r1 r2 r3 hS1 hR1 hG1 e1
    generalize w1.drewN nq = w2 at *
    have r0 := hS2.c0
    have r1 := hS2.c1
    have r2 := hS2.c2
    have r3 := hS2.f 2
    have a0 : q * 31 < 9223372036854775808 := by omega
    have a1 : -9223372036854775808 ≤ q * 31 := by omega
    have a2 : q * 31 + x < 9223372036854775808 := by omega
    have a3 : -9223372036854775808 ≤ q * 31 + x := by omega
    have a4 : q * 31 + x + 7 < 9223372036854775808 := by omega
    have a5 : -9223372036854775808 ≤ q * 31 + x + 7 := by omega
    go_region
    go_wp2_with fail
    have b0 : 0 ≤ (q * 31 + x + 7) % 2147483648 := by omega
    have b1 : (q * 31 + x + 7) % 2147483648 < 2147483648 := by omega
    have hS3 : Sr (w2.setCell ⟨b, 2, none⟩ (.int .i64 ((q * 31 + x + 7) % 2147483648))).drew b _ _ _ := hS2.set2 ((q * 31 + x + 7) % 2147483648)
    have hG3 : w2.grownBy (w2.setCell ⟨b, 2, none⟩ (.int .i64 ((q * 31 + x + 7) % 2147483648))).drew (some b) := by
      have h := grownBy_set w2 b 2 (.int .i64 ((q * 31 + x + 7) % 2147483648))
      exact ⟨h.os, h.tape, h.output, h.size, h.block⟩
    have hR3 := hR2.grown hG3 (fun k hk => by cases hk; exact hC)
    have e3 := hG3.cell (a := ⟨g, off + n, none⟩) e2 (fun e => by simp at e; omega)
    have hG4 := grownBy_trans hG2 hG3
    generalize (q * 31 + x + 7) % 2147483648 = q' at *
    clear r0 r1 r2 r3 e2 hS2 hG2 hR2 hG3
    generalize (w2.setCell ⟨b, 2, none⟩ (.int .i64 q')).drew = w3 at *
    have r0 := hS3.c0
    have r1 := hS3.c1
    go_quiet (fail)
    go_wp2_with fail
    go_ret
    exact ⟨x, rfl, by omega, by omega, ⟨_, xs, _, _, hS3.drewN nq, hC, hR3, hX, hl, by omega, by omega, b0, b1⟩, grownBy_trans hG4 (grownBy_drewN w3 nq _)⟩
  · replace h1 : (xs.length : Int) < p + 1 := by omega
    by_cases h2 : 4000 + 4 * (xs.length : Int) < p + 1
    · go_wp2_with fail
      generalize w.setCell ⟨b, 1, none⟩ (.int .i64 (p + 1)) = w1 at *
      have r0 := hS1.c0
      have r1 := hS1.c1
      go_quiet (fail)
      go_wp2_with fail
      have hS2 : Sr (w1.drewN nq) b _ _ _ := hS1
      have hR2 : Rd C (w1.drewN nq) _ _ := hR1
      have hG2 : w.grownBy (w1.drewN nq) (some b) := grownBy_trans hG1 (grownBy_drewN w1 nq _)
      clear r0 r1 hS1 hR1 hG1
      generalize w1.drewN nq = w2 at *
      have r0 := hS2.c0
      have r1 := hS2.c1
      go_quiet (fail)
      go_wp2_with fail
      go_ret
      exact ⟨0, rfl, by omega, by omega, ⟨_, xs, _, _, hS2.drewN nq, hC, hR2, hX, hl, by omega, by omega, hq0, hq1⟩, grownBy_trans hG2 (grownBy_drewN w2 nq _)⟩
    · replace h2 : p + 1 ≤ 4000 + 4 * (xs.length : Int) := by omega
      go_wp2_with fail
      generalize w.setCell ⟨b, 1, none⟩ (.int .i64 (p + 1)) = w1 at *
      have r0 := hS1.c0
      have r1 := hS1.c1
      go_quiet (fail)
      go_wp2_with fail
      have hS2 : Sr (w1.drewN nq) b _ _ _ := hS1
      have hR2 : Rd C (w1.drewN nq) _ _ := hR1
      have hG2 : w.grownBy (w1.drewN nq) (some b) := grownBy_trans hG1 (grownBy_drewN w1 nq _)
      clear r0 r1 hS1 hR1 hG1
      generalize w1.drewN nq = w2 at *
      have r0 := hS2.c0
      have r1 := hS2.c1
      go_quiet (fail)
      have hS3 : Sr (w2.drewN nq) b _ _ _ := hS2
      have hR3 : Rd C (w2.drewN nq) _ _ := hR2
      have hG3 : w.grownBy (w2.drewN nq) (some b) := grownBy_trans hG2 (grownBy_drewN w2 nq _)
      clear r0 r1 hS2 hR2 hG2
      generalize w2.drewN nq = w3 at *
      have r2 := hS3.c2
      have r3 := hS3.f 2
      have a0 : q * 1103515245 < 9223372036854775808 := by omega
      have a1 : -9223372036854775808 ≤ q * 1103515245 := by omega
      have a2 : q * 1103515245 + 12345 < 9223372036854775808 := by omega
      have a3 : -9223372036854775808 ≤ q * 1103515245 + 12345 := by omega
      have b0 : 0 ≤ (q * 1103515245 + 12345) % 2147483648 := by omega
      have b1 : (q * 1103515245 + 12345) % 2147483648 < 2147483648 := by omega
      have hS4 := hS3.set2 ((q * 1103515245 + 12345) % 2147483648)
      have hG4 := grownBy_set w3 b 2 (.int .i64 ((q * 1103515245 + 12345) % 2147483648))
      have hR4 := hR3.grown hG4 (fun k hk => by cases hk; exact hC)
      have s2 := hS4.c2
      go_wp2_with fail
      go_ret
      exact ⟨_, rfl, by omega, by omega, ⟨_, xs, _, _, hS4, hC, hR4, hX, hl, by omega, by omega, b0, b1⟩, grownBy_trans hG3 hG4⟩

set_option maxHeartbeats 1000000 in
set_option maxRecDepth 100000 in
theorem srcNext_any (C b A : Nat) (n : Int) (w : World) (h : Src C w b A) (hA : A ≤ 900000000) (hn : 2 ≤ n) (hn' : n ≤ 16777216) :
    Calls Tryz.prog 18 #[.pointer (some ⟨b, 0, none⟩), .int .i64 n] w fun e w' => ∃ r : Int, e = .returned (.int .i64 r) ∧ 0 ≤ r ∧ r < n ∧ Src C w' b (A + 3) ∧ w.grownBy w' (some b) := by
  have h0 : 1 < n := by omega
  have hz : ¬ n = 0 := by omega
  by_cases h1 : n ≤ 256
  · go_enter Tryz.func18, Tryz.ntmps18
    go_wp2_with fail
    refine (byte_any C b A _ h (by omega)).mono ?_
    rintro e w1 ⟨r, rfl, hr0, hr1, hS, hG⟩
    have m0 := Int.emod_nonneg r hz
    have m1 := Int.emod_lt_of_pos r (show 0 < n by omega)
    go_wp2_with fail
    go_ret
    exact ⟨_, rfl, m0, m1, hS.mono (by omega), hG⟩
  · replace h1 : 256 < n := by omega
    go_enter Tryz.func18, Tryz.ntmps18
    go_wp2_with fail
    refine (byte_any C b A _ h (by omega)).mono ?_
    rintro e w1 ⟨r, rfl, hr0, hr1, hS, hG⟩
    go_wp2_with fail
    refine (byte_any C b _ _ hS (by omega)).mono ?_
    rintro e w2 ⟨r2, rfl, hr2, hr3, hS2, hG2⟩
    go_wp2_with fail
    refine (byte_any C b _ _ hS2 (by omega)).mono ?_
    rintro e w3 ⟨r3, rfl, hr4, hr5, hS3, hG3⟩
    have m0 := Int.emod_nonneg (r * 65536 + r2 * 256 + r3) hz
    have m1 := Int.emod_lt_of_pos (r * 65536 + r2 * 256 + r3) (show 0 < n by omega)
    go_wp2_with fail
    go_ret
    exact ⟨_, rfl, m0, m1, hS3.mono (by omega), grownBy_trans (grownBy_trans hG hG2) hG3⟩

set_option maxHeartbeats 400000 in
theorem source_any (C : Nat) (w : World) (v : Value) (xs : List Int) (hC : C ≤ w.heap.size) (hr : Rd C w v (xs.map (Value.int .u8))) (hX : ∀ x ∈ xs, 0 ≤ x ∧ x ≤ 255) (hl : xs.length ≤ 1048576) :
    Calls Tryz.prog 15 #[v] w fun e w' => e = .returned (.pointer (some ⟨w.heap.size, 0, none⟩)) ∧ Src C w' w.heap.size 0 ∧ Below w.heap.size w w' := by
  have hr0 := hr
  obtain ⟨ao, cap, rfl, hcap, hmax, _, hc⟩ := hr0
  rw [List.length_map] at hr ⊢
  go_enter Tryz.func15, Tryz.ntmps15
  go_wp2_with fail
  go_ret
  refine ⟨rfl, ⟨_, xs, _, _, heap_alloc_new w _, hC, Rd.below hr ((below_alloc w _).mono hC), hX, hl, Int.le_refl _, Int.le_refl _, ?_, ?_⟩, below_alloc _ _⟩
  · omega
  · omega

end Go.Proofs.YtmmkmkaannlkhaaGreatDoor

namespace Go.Proofs.YtmmkmkaannlkhaaGreatDoor
open Go.RowKit
set_option linter.unusedVariables false

theorem cell_blk {w : World} {g : Nat} {cs : Array Value} {T : TypeId} (h : w.heap[g]? = some (.cells cs T (0, 0))) (k : Nat) {v : Value} (hk : cs[k]? = some v) : w.cell? ⟨g, k, none⟩ = some v := by
  unfold World.cell?
  rw [show w.heap[(⟨g, k, none⟩ : Addr).block]? = some (.cells cs T (0, 0)) from h]
  exact hk
theorem free_blk {w : World} {g : Nat} {cs : Array Value} {T : TypeId} (h : w.heap[g]? = some (.cells cs T (0, 0))) (k : Nat) : w.frozen? ⟨g, k, none⟩ = false := by
  unfold World.frozen?
  rw [show w.heap[(⟨g, k, none⟩ : Addr).block]? = some (.cells cs T (0, 0)) from h]
  simp
/-- A new block behind what a source does meanwhile. -/
theorem blk_kept {w w1 : World} {o : Obj} {b : Nat} (hb : b < w.heap.size) (hg : (w.alloc o).grownBy w1 (some b)) : w1.heap[w.heap.size]? = some o := by
  rw [hg.block w.heap.size (by simp) (by simp; omega)]
  exact heap_alloc_new w o
theorem blk_on {w w1 : World} {g b : Nat} {o : Obj} (h : w.heap[g]? = some o) (hg : w.grownBy w1 (some b)) (hn : g ≠ b) : w1.heap[g]? = some o := by
  rw [hg.block g (Array.getElem?_eq_some_iff.1 h).1 (by simp; omega)]
  exact h
theorem gr_put {w w1 : World} {row : Option Nat} {n : Nat} (h : w.grownBy w1 row) (hn : w.heap.size ≤ n) (k : Nat) (u : Value) : w.grownBy (w1.setCell ⟨n, k, none⟩ u) row :=
  ⟨h.os, h.tape, h.output, by simpa using h.size, fun i hi hr => (heap_setCell_other w1 ⟨n, k, none⟩ i u (by show i ≠ n; omega)).trans (h.block i hi hr)⟩
theorem gr_alloc {w w1 : World} {row : Option Nat} (h : w.grownBy w1 row) (o : Obj) : w.grownBy (w1.alloc o) row := grownBy_trans h (World.grownBy_alloc w1 o row)

set_option maxHeartbeats 1000000 in
set_option maxRecDepth 100000 in
theorem word_any (C b A : Nat) (w : World) (h : Src C w b A) (hA : A ≤ 800000000) :
    Calls Tryz.prog 74 #[.pointer (some ⟨b, 0, none⟩)] w fun e w' => ∃ s : ByteArray, e = .returned (.string s) ∧ s.size ≤ 5 ∧ Src C w' b (A + 3) ∧ w.grownBy w' (some b) := by
  have hlt := h.lt
  go_enter Tryz.func74, Tryz.ntmps74
  go_wp2_with fail
  refine (srcNext_any C b A 10 _ (h.alloc _) (by omega) (by omega) (by omega)).mono ?_
  rintro e w1 ⟨r, rfl, hr0, hr1, hS, hG⟩
  have hk := blk_kept hlt hG
  have hG0 := grownBy_trans (World.grownBy_alloc w _ (some b)) hG
  have c0 := cell_blk hk 0 rfl
  have c1 := cell_blk hk 1 rfl
  have c2 := cell_blk hk 2 rfl
  have c3 := cell_blk hk 3 rfl
  have c4 := cell_blk hk 4 rfl
  have c5 := cell_blk hk 5 rfl
  have c6 := cell_blk hk 6 rfl
  have c7 := cell_blk hk 7 rfl
  have c8 := cell_blk hk 8 rfl
  have c9 := cell_blk hk 9 rfl
  have hcs : r = 0 ∨ r = 1 ∨ r = 2 ∨ r = 3 ∨ r = 4 ∨ r = 5 ∨ r = 6 ∨ r = 7 ∨ r = 8 ∨ r = 9 := by omega
  clear hk hG hr0 hr1
  rcases hcs with rfl | rfl | rfl | rfl | rfl | rfl | rfl | rfl | rfl | rfl
  all_goals
    go_wp2_with fail
    go_ret
    exact ⟨_, rfl, by decide, hS, hG0⟩

set_option maxHeartbeats 1000000 in
set_option maxRecDepth 100000 in
theorem stamp_any (C b A : Nat) (w : World) (h : Src C w b A) (hA : A ≤ 800000000) :
    Calls Tryz.prog 66 #[.pointer (some ⟨b, 0, none⟩)] w fun e w' => ∃ t a : Int, e = .returned (.agg #[.int .i64 t, .int .i64 a]) ∧ Src C w' b (A + 6) ∧ w.grownBy w' (some b) := by
  have hlt := h.lt
  go_enter Tryz.func66, Tryz.ntmps66
  go_wp2_with fail
  refine (srcNext_any C b A 12 _ (h.alloc _) (by omega) (by omega) (by omega)).mono ?_
  rintro e w1 ⟨r, rfl, hr0, hr1, hS, hG⟩
  have hk := blk_kept hlt hG
  have hG0 := grownBy_trans (World.grownBy_alloc w _ (some b)) hG
  clear hG
  go_wp2_with fail
  refine (srcNext_any C b _ 4 _ hS (by omega) (by omega) (by omega)).mono ?_
  rintro e w2 ⟨r2, rfl, hr2, hr3, hS2, hG2⟩
  replace hk := blk_on hk hG2 (by omega)
  have hG3 := grownBy_trans hG0 hG2
  have c0 := cell_blk hk 0 rfl
  have c1 := cell_blk hk 1 rfl
  have f0 := free_blk hk 0
  have f1 := free_blk hk 1
  have q0 : ((w2.setCell ⟨w.heap.size, 0, none⟩ (.int .i64 (1 + r))).setCell ⟨w.heap.size, 1, none⟩ (.int .i64 r2)).cell? ⟨w.heap.size, 0, none⟩ = some (.int .i64 (1 + r)) := (World.cell?_setCells_out w.heap.size [.int .i64 r2] 1 _ _ (fun _ => by simp)).trans (World.cell?_setCell_same _ _ _ c0)
  have q1 : ((w2.setCell ⟨w.heap.size, 0, none⟩ (.int .i64 (1 + r))).setCell ⟨w.heap.size, 1, none⟩ (.int .i64 r2)).cell? ⟨w.heap.size, 1, none⟩ = some (.int .i64 r2) := World.cell?_setCell_same _ _ _ ((World.cell?_setCells_out w.heap.size [.int .i64 (1 + r)] 0 _ _ (fun _ => by simp)).trans c1)
  clear hS hG0 hG2
  go_wp2_with fail
  refine bodyPost_ret (v := .agg #[.int .i64 (1 + r), .int .i64 r2]) ?_ rfl ⟨_, _, rfl, (Src.set (Src.set hS2 hlt _) hlt _).mono (by omega), gr_put (gr_put hG3 (Nat.le_refl _) _ _) (Nat.le_refl _) _ _⟩
  simp [results, Tryz.results66, go_sem, q0, q1]

end Go.Proofs.YtmmkmkaannlkhaaGreatDoor

namespace Go.Proofs.YtmmkmkaannlkhaaGreatDoor
open Go.RowKit
set_option linter.unusedVariables false

set_option maxHeartbeats 1000000 in
set_option maxRecDepth 100000 in
theorem chance_any (C b A : Nat) (n : Int) (w : World) (h : Src C w b A) (hA : A ≤ 900000000) (hn : 2 ≤ n) (hn' : n ≤ 16777216) :
    Calls Tryz.prog 44 #[.pointer (some ⟨b, 0, none⟩), .int .i64 n] w fun e w' => ∃ r : Bool, e = .returned (.bool r) ∧ Src C w' b (A + 3) ∧ w.grownBy w' (some b) := by
  go_enter Tryz.func44, Tryz.ntmps44
  go_wp2_with fail
  refine (srcNext_any C b A n _ h hA hn hn').mono ?_
  rintro e w1 ⟨r, rfl, hr0, hr1, hS, hG⟩
  go_wp2_with fail
  go_ret
  exact ⟨_, rfl, hS, hG⟩

set_option maxHeartbeats 1000000 in
theorem size_any (C b A : Nat) (m : Int) (w : World) (h : Src C w b A) (hm : 1 ≤ m) :
    Calls Tryz.prog 43 #[.pointer (some ⟨b, 0, none⟩), .int .i64 m] w fun e w' => ∃ r : Int, e = .returned (.int .i64 r) ∧ 1 ≤ r ∧ r ≤ m ∧ w' = w := by
  obtain ⟨v, xs, p, q, hS, hC, hR, hX, hl, _⟩ := h
  obtain ⟨ao, cap, rfl, hcap, hmax, _, hc⟩ := hR
  rw [List.length_map] at hS
  have c0 := hS.c0
  go_enter Tryz.func43, Tryz.ntmps43
  go_wp2_with fail
  all_goals
    go_ret
    exact ⟨_, rfl, by omega, by omega, rfl⟩

theorem Src.kept {C : Nat} {w w' : World} {b A : Nat} {row : Option Nat} (h : Src C w b A) (hg : w.grownBy w' row) (hn : ∀ k, row = some k → b < k) : Src C w' b A := by
  have hlt := h.lt
  obtain ⟨v, xs, p, q, h1, h2, h3, h4⟩ := h
  refine ⟨v, xs, p, q, ?_, h2, h3.grown hg (fun k hk => by have := hn k hk; omega), h4⟩
  unfold Sr at h1 ⊢
  rw [hg.block b hlt (fun e => by have := hn b e.symm; omega)]
  exact h1
theorem one_new (w : World) (x : Value) (t : TypeId) : ∀ j u, [x][j]? = some u → (w.alloc (.cells #[x] t)).cell? ((⟨w.heap.size, 0, none⟩ : Addr).add j) = some u := by
  intro j u hj
  have h : (w.alloc (.cells #[x] t)).heap[w.heap.size]? = some (.cells #[x] t (0, 0)) := heap_alloc_new w _
  rw [Addr.add_lit, Nat.zero_add]
  exact cell_blk h j (by rw [← hj]; simp)
theorem gr_rowW {w w1 w2 : World} {b : Nat} {row : Option Nat} (h : w.grownBy w1 (some b)) (k : w1.grownBy w2 row) (hr : ∀ g, row = some g → w.heap.size ≤ g) : w.grownBy w2 (some b) :=
  ⟨k.os.trans h.os, k.tape.trans h.tape, k.output.trans h.output, Nat.le_trans h.size k.size, fun i hi hb => (k.block i (Nat.lt_of_lt_of_le hi h.size) (fun e => by have := hr i e.symm; omega)).trans (h.block i hi hb)⟩
/-- Beside a source in b: a row that the call owns. -/
structure SwD (e : TypeId) (C : Nat) (w : World) (b : Nat) (v : Value) (cs : List Value) (A : Nat) (wr : World) : Prop where
  own : Own e wr w.heap.size v cs
  src : Src C wr b A
  gr : w.grownBy wr (some b)
  lb : b < w.heap.size
theorem SwD.on {e : TypeId} {C : Nat} {w : World} {b : Nat} {v : Value} {cs : List Value} {A A' : Nat} {wr w' : World} (h : SwD e C w b v cs A wr) (hs : Src C w' b A') (hg : wr.grownBy w' (some b)) : SwD e C w b v cs A' w' :=
  ⟨h.own.apart hg (fun k hk => by cases hk; exact h.lb), hs, grownBy_trans h.gr hg, h.lb⟩
theorem SwD.alloc {e : TypeId} {C : Nat} {w : World} {b : Nat} {v : Value} {cs : List Value} {A : Nat} {wr : World} (h : SwD e C w b v cs A wr) (o : Obj) : SwD e C w b v cs A (wr.alloc o) :=
  ⟨Own.below h.own (below_alloc wr _) (Nat.le_refl _), h.src.alloc o, gr_alloc h.gr o, h.lb⟩
theorem SwD.add {e : TypeId} {C : Nat} {w : World} {b : Nat} {v v' : Value} {cs ds : List Value} {A : Nat} {wr w' : World} (h : SwD e C w b v cs A wr) (ho : Own e w' w.heap.size v' ds) (hg : wr.grownBy w' v.ownBlock) : SwD e C w b v' ds A w' :=
  ⟨ho, h.src.kept hg (fun k hk => by have := h.own.lt k hk; have := h.lb; omega), gr_rowW h.gr hg (fun k hk => h.own.lt k hk), h.lb⟩
theorem SwD.mono {e : TypeId} {C : Nat} {w : World} {b : Nat} {v : Value} {cs : List Value} {A A' : Nat} {wr : World} (h : SwD e C w b v cs A wr) (hA : A ≤ A') : SwD e C w b v cs A' wr := ⟨h.own, h.src.mono hA, h.gr, h.lb⟩
theorem SwD.size {e : TypeId} {C : Nat} {w : World} {b : Nat} {v : Value} {cs : List Value} {A : Nat} {wr : World} (h : SwD e C w b v cs A wr) : w.heap.size ≤ wr.heap.size := h.gr.size

end Go.Proofs.YtmmkmkaannlkhaaGreatDoor
