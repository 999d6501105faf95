/- The code's ledger: what put does, and what it leaves as it was. -/
import Derived.Test.YtfjekbfejbgneaaQLedgerToRowRd
namespace Go.Proofs.Ytfjekbfejbgneaa
open Go.RowKit
set_option linter.unusedVariables false

/-- The block k is none of the ledger's. -/
def ClearOf (vs : List Value) (lb k : Nat) : Prop := k ≠ lb ∧ ∀ a, a < 16 → (vs.getD a undef).ownBlock ≠ some k

set_option maxHeartbeats 4000000 in
set_option maxRecDepth 100000 in
theorem ledPutF_any (B lb : Nat) (vs : List Value) (P : List Ov) (x : Ov) (w : World) (hL : Led w B lb vs P) (a j : Nat) (ha : a < 16) (hj : j < 101) (hxa : x.a = (a : Int)) (hxo : x.o = (j : Int)) (hP : P.length ≤ 1024) (hd : x.dv.oneCell' = true) :
    Calls Try.prog 36 #[.pointer (some ⟨lb, 0, none⟩), .agg #[.int .i64 x.a, .int .i64 x.s, .int .i64 x.t, x.dv, .int .i64 x.k, .int .i64 x.o, .int .i64 x.n, .int .i64 x.u, .int .i64 x.pt, .int .i64 x.pa, .string x.ky, .string x.tx]] w fun e w' => e = .returned (.tuple #[]) ∧ (∃ vs', Led w' B lb vs' (P ++ [x]) ∧ ∀ k, k < w.heap.size → ClearOf vs lb k → w'.heap[k]? = w.heap[k]? ∧ ClearOf vs' lb k) ∧ Below B w w' := by
  obtain ⟨i0, hi, hz0, hz1, hz2⟩ := info_parts infoOp
  have hlb := hL.lt
  have hle : (byA P a).length ≤ 1024 := Nat.le_trans (List.length_filter_le _ _) hP
  have hBw : B ≤ w.heap.size := by have := hL.low; omega
  obtain ⟨va, hva⟩ : ∃ va, vs.getD a undef = va := ⟨_, rfl⟩
  have HLV : Hid ((ledCs vs P)[a]? = some va) := by rw [← hva]; exact led_vs hL.len ha
  have HRW : Hid (w.ownsRow B 47 12 va (byA P a).length (rowCs (byA P a))) := by rw [← hva]; exact hL.row a ha
  have HOB : Hid (∀ k, va.ownBlock = some k → k < w.heap.size ∧ k ≠ lb) := fun k hk => by
    refine ⟨?_, fun e => hL.far a ha (by rw [hva, hk, e])⟩
    obtain ⟨_, h2⟩ := HRW.out
    rcases h2 with ⟨hv, _⟩ | ⟨g, cap, cur, hv, _, hh, _⟩
    · rw [hv] at hk; cases hk
    · rw [hv] at hk
      simp only [Value.ownBlock, Option.some.injEq] at hk
      subst hk
      exact (Array.getElem?_eq_some_iff.1 hh).1
  have HX : Hid (x.a = (a : Int)) := hxa
  obtain ⟨xa, xs, xt, xdv, xk, xo, xn, xu, xpt, xpa, xky, xtx, xds⟩ := x
  simp only at hxa hxo hd ⊢
  subst hxa hxo
  generalize hm : (byA P a).length = m at *
  have HF : Hid (∀ wx : World, wx.heap[w.heap.size]? = some (.cells #[.int .i64 ((a : Int)), .int .i64 xs, .int .i64 xt, xdv, .int .i64 xk, .int .i64 ((j : Int)), .int .i64 xn, .int .i64 xu, .int .i64 xpt, .int .i64 xpa, .string xky, .string xtx] 47 (0, 0)) → wx.cell? ⟨w.heap.size, 0, none⟩ = some (.int .i64 ((a : Int))) ∧ wx.cell? ⟨w.heap.size, 1, none⟩ = some (.int .i64 xs) ∧ wx.cell? ⟨w.heap.size, 2, none⟩ = some (.int .i64 xt) ∧ wx.cell? ⟨w.heap.size, 3, none⟩ = some (xdv) ∧ wx.cell? ⟨w.heap.size, 4, none⟩ = some (.int .i64 xk) ∧ wx.cell? ⟨w.heap.size, 5, none⟩ = some (.int .i64 ((j : Int))) ∧ wx.cell? ⟨w.heap.size, 6, none⟩ = some (.int .i64 xn) ∧ wx.cell? ⟨w.heap.size, 7, none⟩ = some (.int .i64 xu) ∧ wx.cell? ⟨w.heap.size, 8, none⟩ = some (.int .i64 xpt) ∧ wx.cell? ⟨w.heap.size, 9, none⟩ = some (.int .i64 xpa) ∧ wx.cell? ⟨w.heap.size, 10, none⟩ = some (.string xky) ∧ wx.cell? ⟨w.heap.size, 11, none⟩ = some (.string xtx)) := fun wx h1 =>
    ⟨blk_cell h1 0 rfl, blk_cell h1 1 rfl, blk_cell h1 2 rfl, blk_cell h1 3 rfl, blk_cell h1 4 rfl, blk_cell h1 5 rfl, blk_cell h1 6 rfl, blk_cell h1 7 rfl, blk_cell h1 8 rfl, blk_cell h1 9 rfl, blk_cell h1 10 rfl, blk_cell h1 11 rfl⟩
  have b1 : (w.alloc (.cells #[.int .i64 ((a : Int)), .int .i64 xs, .int .i64 xt, xdv, .int .i64 xk, .int .i64 ((j : Int)), .int .i64 xn, .int .i64 xu, .int .i64 xpt, .int .i64 xpa, .string xky, .string xtx] 47)).drew.heap[w.heap.size]? = some (.cells #[.int .i64 ((a : Int)), .int .i64 xs, .int .i64 xt, xdv, .int .i64 xk, .int .i64 ((j : Int)), .int .i64 xn, .int .i64 xu, .int .i64 xpt, .int .i64 xpa, .string xky, .string xtx] 47 (0, 0)) := heap_alloc_new w _
  have l1 : (w.alloc (.cells #[.int .i64 ((a : Int)), .int .i64 xs, .int .i64 xt, xdv, .int .i64 xk, .int .i64 ((j : Int)), .int .i64 xn, .int .i64 xu, .int .i64 xpt, .int .i64 xpa, .string xky, .string xtx] 47)).drew.heap[lb]? = some (.cells (ledCs vs P).toArray 70 (0, 0)) := (Below.heap_alloc w _ lb hlb).trans hL.blk
  have b2 : ((w.alloc (.cells #[.int .i64 ((a : Int)), .int .i64 xs, .int .i64 xt, xdv, .int .i64 xk, .int .i64 ((j : Int)), .int .i64 xn, .int .i64 xu, .int .i64 xpt, .int .i64 xpa, .string xky, .string xtx] 47)).drew.alloc (.cells #[.int .i64 ((a : Int)), .int .i64 xs, .int .i64 xt, xdv, .int .i64 xk, .int .i64 ((j : Int)), .int .i64 xn, .int .i64 xu, .int .i64 xpt, .int .i64 xpa, .string xky, .string xtx] 47)).heap[w.heap.size]? = some (.cells #[.int .i64 ((a : Int)), .int .i64 xs, .int .i64 xt, xdv, .int .i64 xk, .int .i64 ((j : Int)), .int .i64 xn, .int .i64 xu, .int .i64 xpt, .int .i64 xpa, .string xky, .string xtx] 47 (0, 0)) := (Below.heap_alloc _ _ _ (by show w.heap.size < (w.alloc (.cells #[.int .i64 ((a : Int)), .int .i64 xs, .int .i64 xt, xdv, .int .i64 xk, .int .i64 ((j : Int)), .int .i64 xn, .int .i64 xu, .int .i64 xpt, .int .i64 xpa, .string xky, .string xtx] 47)).heap.size; simp)).trans b1
  have l2 : ((w.alloc (.cells #[.int .i64 ((a : Int)), .int .i64 xs, .int .i64 xt, xdv, .int .i64 xk, .int .i64 ((j : Int)), .int .i64 xn, .int .i64 xu, .int .i64 xpt, .int .i64 xpa, .string xky, .string xtx] 47)).drew.alloc (.cells #[.int .i64 ((a : Int)), .int .i64 xs, .int .i64 xt, xdv, .int .i64 xk, .int .i64 ((j : Int)), .int .i64 xn, .int .i64 xu, .int .i64 xpt, .int .i64 xpa, .string xky, .string xtx] 47)).heap[lb]? = some (.cells (ledCs vs P).toArray 70 (0, 0)) := (Below.heap_alloc _ _ _ (by show lb < (w.alloc (.cells #[.int .i64 ((a : Int)), .int .i64 xs, .int .i64 xt, xdv, .int .i64 xk, .int .i64 ((j : Int)), .int .i64 xn, .int .i64 xu, .int .i64 xpt, .int .i64 xpa, .string xky, .string xtx] 47)).heap.size; simp; omega)).trans l1
  have HO : Hid (((w.alloc (.cells #[.int .i64 ((a : Int)), .int .i64 xs, .int .i64 xt, xdv, .int .i64 xk, .int .i64 ((j : Int)), .int .i64 xn, .int .i64 xu, .int .i64 xpt, .int .i64 xpa, .string xky, .string xtx] 47)).drew.alloc (.cells #[.int .i64 ((a : Int)), .int .i64 xs, .int .i64 xt, xdv, .int .i64 xk, .int .i64 ((j : Int)), .int .i64 xn, .int .i64 xu, .int .i64 xpt, .int .i64 xpa, .string xky, .string xtx] 47)).ownsRow B 47 12 va m (rowCs (byA P a))) := World.ownsRow.alloc (show (w.alloc (.cells #[.int .i64 ((a : Int)), .int .i64 xs, .int .i64 xt, xdv, .int .i64 xk, .int .i64 ((j : Int)), .int .i64 xn, .int .i64 xu, .int .i64 xpt, .int .i64 xpa, .string xky, .string xtx] 47)).drew.ownsRow B 47 12 va m (rowCs (byA P a)) from World.ownsRow.alloc HRW.out _) _
  have HNW : Hid (∀ j' u, [.int .i64 ((a : Int)), .int .i64 xs, .int .i64 xt, xdv, .int .i64 xk, .int .i64 ((j : Int)), .int .i64 xn, .int .i64 xu, .int .i64 xpt, .int .i64 xpa, .string xky, .string xtx][j']? = some u → ((w.alloc (.cells #[.int .i64 ((a : Int)), .int .i64 xs, .int .i64 xt, xdv, .int .i64 xk, .int .i64 ((j : Int)), .int .i64 xn, .int .i64 xu, .int .i64 xpt, .int .i64 xpa, .string xky, .string xtx] 47)).drew.alloc (.cells #[.int .i64 ((a : Int)), .int .i64 xs, .int .i64 xt, xdv, .int .i64 xk, .int .i64 ((j : Int)), .int .i64 xn, .int .i64 xu, .int .i64 xpt, .int .i64 xpa, .string xky, .string xtx] 47)).cell? ((⟨w.heap.size + 1, 0, none⟩ : Addr).add j') = some u) := by
    have := heap_alloc_new (w.alloc (.cells #[.int .i64 ((a : Int)), .int .i64 xs, .int .i64 xt, xdv, .int .i64 xk, .int .i64 ((j : Int)), .int .i64 xn, .int .i64 xu, .int .i64 xpt, .int .i64 xpa, .string xky, .string xtx] 47)).drew (.cells #[.int .i64 ((a : Int)), .int .i64 xs, .int .i64 xt, xdv, .int .i64 xk, .int .i64 ((j : Int)), .int .i64 xn, .int .i64 xu, .int .i64 xpt, .int .i64 xpa, .string xky, .string xtx] 47)
    rw [show (w.alloc (.cells #[.int .i64 ((a : Int)), .int .i64 xs, .int .i64 xt, xdv, .int .i64 xk, .int .i64 ((j : Int)), .int .i64 xn, .int .i64 xu, .int .i64 xpt, .int .i64 xpa, .string xky, .string xtx] 47)).drew.heap.size = w.heap.size + 1 from World.size_alloc _ _] at this
    exact World.news_of_block this
  have HON : Hid (∀ u ∈ [.int .i64 ((a : Int)), .int .i64 xs, .int .i64 xt, xdv, .int .i64 xk, .int .i64 ((j : Int)), .int .i64 xn, .int .i64 xu, .int .i64 xpt, .int .i64 xpa, .string xky, .string xtx], u.oneCell' = true) := cs_one ⟨a, xs, xt, xdv, xk, j, xn, xu, xpt, xpa, xky, xtx, xds⟩ hd
  have HM1 : Hid (m + 1 ≤ maxLen) := by unfold Hid maxLen; omega
  have HM2 : Hid ((m + 1) * 128 ≤ 140737488355328) := by unfold Hid; omega
  have HM3 : Hid (B ≤ ((w.alloc (.cells #[.int .i64 ((a : Int)), .int .i64 xs, .int .i64 xt, xdv, .int .i64 xk, .int .i64 ((j : Int)), .int .i64 xn, .int .i64 xu, .int .i64 xpt, .int .i64 xpa, .string xky, .string xtx] 47)).drew.alloc (.cells #[.int .i64 ((a : Int)), .int .i64 xs, .int .i64 xt, xdv, .int .i64 xk, .int .i64 ((j : Int)), .int .i64 xn, .int .i64 xu, .int .i64 xpt, .int .i64 xpa, .string xky, .string xtx] 47)).heap.size) := by unfold Hid; rw [World.size_alloc]; show B ≤ (w.alloc (.cells #[.int .i64 ((a : Int)), .int .i64 xs, .int .i64 xt, xdv, .int .i64 xk, .int .i64 ((j : Int)), .int .i64 xn, .int .i64 xu, .int .i64 xpt, .int .i64 xpa, .string xky, .string xtx] 47)).heap.size + 1; rw [World.size_alloc]; omega
  have hj' : (j : Int) < 101 := by omega
  have ha' : (a : Int) < 16 := by omega
  have c1 : (w.alloc (.cells #[.int .i64 ((a : Int)), .int .i64 xs, .int .i64 xt, xdv, .int .i64 xk, .int .i64 ((j : Int)), .int .i64 xn, .int .i64 xu, .int .i64 xpt, .int .i64 xpa, .string xky, .string xtx] 47)).drew.cell? ⟨lb, a, none⟩ = some va := blk_cell l1 a (by simpa using HLV.out)
  have c2 : ((w.alloc (.cells #[.int .i64 ((a : Int)), .int .i64 xs, .int .i64 xt, xdv, .int .i64 xk, .int .i64 ((j : Int)), .int .i64 xn, .int .i64 xu, .int .i64 xpt, .int .i64 xpa, .string xky, .string xtx] 47)).drew.alloc (.cells #[.int .i64 ((a : Int)), .int .i64 xs, .int .i64 xt, xdv, .int .i64 xk, .int .i64 ((j : Int)), .int .i64 xn, .int .i64 xu, .int .i64 xpt, .int .i64 xpa, .string xky, .string xtx] 47)).cell? ⟨lb, a, none⟩ = some va := blk_cell l2 a (by simpa using HLV.out)
  have HFIN : Hid (∀ (g cap : Nat) (w7 : World), w7.ownsRow B 47 12 (.slice (some ⟨g, 0, none⟩) (m + 1) cap) (m + 1) (rowCs (byA P a) ++ [.int .i64 ((a : Int)), .int .i64 xs, .int .i64 xt, xdv, .int .i64 xk, .int .i64 ((j : Int)), .int .i64 xn, .int .i64 xu, .int .i64 xpt, .int .i64 xpa, .string xky, .string xtx]) → ((w.alloc (.cells #[.int .i64 ((a : Int)), .int .i64 xs, .int .i64 xt, xdv, .int .i64 xk, .int .i64 ((j : Int)), .int .i64 xn, .int .i64 xu, .int .i64 xpt, .int .i64 xpa, .string xky, .string xtx] 47)).drew.alloc (.cells #[.int .i64 ((a : Int)), .int .i64 xs, .int .i64 xt, xdv, .int .i64 xk, .int .i64 ((j : Int)), .int .i64 xn, .int .i64 xu, .int .i64 xpt, .int .i64 xpa, .string xky, .string xtx] 47)).grownBy w7 va.ownBlock → (va.ownBlock = some g ∨ g = ((w.alloc (.cells #[.int .i64 ((a : Int)), .int .i64 xs, .int .i64 xt, xdv, .int .i64 xk, .int .i64 ((j : Int)), .int .i64 xn, .int .i64 xu, .int .i64 xpt, .int .i64 xpa, .string xky, .string xtx] 47)).drew.alloc (.cells #[.int .i64 ((a : Int)), .int .i64 xs, .int .i64 xt, xdv, .int .i64 xk, .int .i64 ((j : Int)), .int .i64 xn, .int .i64 xu, .int .i64 xpt, .int .i64 xpa, .string xky, .string xtx] 47)).heap.size) → g < w7.heap.size → w7.heap[w.heap.size]? = some (.cells #[.int .i64 ((a : Int)), .int .i64 xs, .int .i64 xt, xdv, .int .i64 xk, .int .i64 ((j : Int)), .int .i64 xn, .int .i64 xu, .int .i64 xpt, .int .i64 xpa, .string xky, .string xtx] 47 (0, 0)) → w7.heap[lb]? = some (.cells (ledCs vs P).toArray 70 (0, 0)) →
      (w7.setCell ⟨lb, a, none⟩ (.slice (some ⟨g, 0, none⟩) (m + 1) cap)).cell? ⟨lb, 16 + j, none⟩ = some (.int .i64 ((tsOf P).getD j 0)) ∧ (w7.setCell ⟨lb, a, none⟩ (.slice (some ⟨g, 0, none⟩) (m + 1) cap)).cell? ⟨lb, 16 + j, none⟩ = some (.int .i64 ((tsOf P).getD j 0)) ∧ (w7.setCell ⟨lb, a, none⟩ (.slice (some ⟨g, 0, none⟩) (m + 1) cap)).frozen? ⟨lb, 16 + j, none⟩ = false ∧ ((w7.setCell ⟨lb, a, none⟩ (.slice (some ⟨g, 0, none⟩) (m + 1) cap)).setCell ⟨lb, 16 + j, none⟩ (.int .i64 (thOf xk))).cell? ⟨lb, 117, none⟩ = some (.int .i64 (P.length : Int)) ∧ ((w7.setCell ⟨lb, a, none⟩ (.slice (some ⟨g, 0, none⟩) (m + 1) cap)).setCell ⟨lb, 16 + j, none⟩ (.int .i64 (thOf xk))).frozen? ⟨lb, 117, none⟩ = false ∧
        (∃ vs', Led (((w7.setCell ⟨lb, a, none⟩ (.slice (some ⟨g, 0, none⟩) (m + 1) cap)).setCell ⟨lb, 16 + j, none⟩ (.int .i64 (thOf xk))).setCell ⟨lb, 117, none⟩ (.int .i64 ((P.length : Int) + 1))) B lb vs' (P ++ [⟨a, xs, xt, xdv, xk, j, xn, xu, xpt, xpa, xky, xtx, xds⟩]) ∧ ∀ k, k < w.heap.size → ClearOf vs lb k → (((w7.setCell ⟨lb, a, none⟩ (.slice (some ⟨g, 0, none⟩) (m + 1) cap)).setCell ⟨lb, 16 + j, none⟩ (.int .i64 (thOf xk))).setCell ⟨lb, 117, none⟩ (.int .i64 ((P.length : Int) + 1))).heap[k]? = w.heap[k]? ∧ ClearOf vs' lb k) ∧ Below B w (((w7.setCell ⟨lb, a, none⟩ (.slice (some ⟨g, 0, none⟩) (m + 1) cap)).setCell ⟨lb, 16 + j, none⟩ (.int .i64 (thOf xk))).setCell ⟨lb, 117, none⟩ (.int .i64 ((P.length : Int) + 1)))) := by
    intro g cap w7 ho7 hg7 hat hlt7 b7 l7
    have z2 : ((w.alloc (.cells #[.int .i64 ((a : Int)), .int .i64 xs, .int .i64 xt, xdv, .int .i64 xk, .int .i64 ((j : Int)), .int .i64 xn, .int .i64 xu, .int .i64 xpt, .int .i64 xpa, .string xky, .string xtx] 47)).drew.alloc (.cells #[.int .i64 ((a : Int)), .int .i64 xs, .int .i64 xt, xdv, .int .i64 xk, .int .i64 ((j : Int)), .int .i64 xn, .int .i64 xu, .int .i64 xpt, .int .i64 xpa, .string xky, .string xtx] 47)).heap.size = w.heap.size + 1 + 1 := by rw [World.size_alloc]; show (w.alloc (.cells #[.int .i64 ((a : Int)), .int .i64 xs, .int .i64 xt, xdv, .int .i64 xk, .int .i64 ((j : Int)), .int .i64 xn, .int .i64 xu, .int .i64 xpt, .int .i64 xpa, .string xky, .string xtx] 47)).heap.size + 1 = _; rw [World.size_alloc]
    have e2 : ∀ k, k < w.heap.size → ((w.alloc (.cells #[.int .i64 ((a : Int)), .int .i64 xs, .int .i64 xt, xdv, .int .i64 xk, .int .i64 ((j : Int)), .int .i64 xn, .int .i64 xu, .int .i64 xpt, .int .i64 xpa, .string xky, .string xtx] 47)).drew.alloc (.cells #[.int .i64 ((a : Int)), .int .i64 xs, .int .i64 xt, xdv, .int .i64 xk, .int .i64 ((j : Int)), .int .i64 xn, .int .i64 xu, .int .i64 xpt, .int .i64 xpa, .string xky, .string xtx] 47)).heap[k]? = w.heap[k]? := fun k hk => (Below.heap_alloc _ _ k (by show k < (w.alloc (.cells #[.int .i64 ((a : Int)), .int .i64 xs, .int .i64 xt, xdv, .int .i64 xk, .int .i64 ((j : Int)), .int .i64 xn, .int .i64 xu, .int .i64 xpt, .int .i64 xpa, .string xky, .string xtx] 47)).heap.size; rw [World.size_alloc]; omega)).trans (Below.heap_alloc w _ k hk)
    have hgb : g ≠ lb := by
      rcases hat with h | h
      · exact (HOB.out g h).2
      · omega
    have l118 := ledCs_len (P := P) hL.len
    have o7 := own_full l7 (by rw [l118]; decide)
    rw [l118] at o7
    have o8 := own_set o7 a (.slice (some ⟨g, 0, none⟩) (m + 1) cap)
    have o9 := own_set o8 (16 + j) (.int .i64 (thOf xk))
    have o10 := own_set o9 117 (.int .i64 ((P.length : Int) + 1))
    have hd8 : (w7.setCell ⟨lb, a, none⟩ (.slice (some ⟨g, 0, none⟩) (m + 1) cap)).cell? ⟨lb, 16 + j, none⟩ = some (.int .i64 ((tsOf P).getD j 0)) := own_at o8 (by rw [List.getElem?_set_ne (by omega)]; exact led_ts hL.len hj)
    refine ⟨hd8, hd8, own_free o8 _, own_at o9 (by rw [List.getElem?_set_ne (by omega), List.getElem?_set_ne (by omega)]; exact led_sz hL.len), own_free o9 _, ⟨vs.set a (.slice (some ⟨g, 0, none⟩) (m + 1) cap), ?_⟩, ?_⟩
    · have far8 : ∀ k, k ≠ lb → (((w7.setCell ⟨lb, a, none⟩ (.slice (some ⟨g, 0, none⟩) (m + 1) cap)).setCell ⟨lb, 16 + j, none⟩ (.int .i64 (thOf xk))).setCell ⟨lb, 117, none⟩ (.int .i64 ((P.length : Int) + 1))).heap[k]? = w7.heap[k]? := fun k hk =>
        (heap_setCell_other _ ⟨lb, 117, none⟩ k _ hk).trans ((heap_setCell_other _ ⟨lb, 16 + j, none⟩ k _ hk).trans (heap_setCell_other _ ⟨lb, a, none⟩ k _ hk))
      have same : ∀ b, b ≠ a → (vs.set a (.slice (some ⟨g, 0, none⟩) (m + 1) cap)).getD b undef = vs.getD b undef := fun b hb => by
        rw [List.getD_eq_getElem?_getD, List.getElem?_set_ne (by omega), ← List.getD_eq_getElem?_getD]
      have self : (vs.set a (.slice (some ⟨g, 0, none⟩) (m + 1) cap)).getD a undef = .slice (some ⟨g, 0, none⟩) (m + 1) cap := by
        rw [List.getD_eq_getElem?_getD, List.getElem?_set_self (by have := hL.len; omega)]
        rfl
      have old : ∀ b, b < 16 → ∀ k, (vs.getD b undef).ownBlock = some k → k < w.heap.size := fun b hb k hk => by
        obtain ⟨_, h2⟩ := hL.row b hb
        rcases h2 with ⟨hv, _⟩ | ⟨g', cap', cur, hv, _, hh, _⟩
        · rw [hv] at hk; cases hk
        · rw [hv] at hk
          simp only [Value.ownBlock, Option.some.injEq] at hk
          subst hk
          exact (Array.getElem?_eq_some_iff.1 hh).1
      have apart : ∀ b, b < 16 → b ≠ a → (vs.getD b undef).ownBlock ≠ some g := fun b hb hne e => by
        rcases hat with h | h
        · exact hL.part a b ha hb (fun e => hne e.symm) g (by rw [hva]; exact h) e
        · have := old b hb g e
          omega
      refine ⟨⟨by simp [hL.len], ?_, hL.low, fun b hb => ?_, fun b hb => ?_, fun b c hb hc hbc k hk => ?_⟩, fun k hk hcl => ⟨?_, hcl.1, fun b hb e => ?_⟩⟩
      · have := full_own o10 (by simp [l118])
        rw [led_set (x := ⟨a, xs, xt, xdv, xk, j, xn, xu, xpt, xpa, xky, xtx, xds⟩) hL.len ha hj rfl] at this
        exact this
      · by_cases e : b = a
        · subst e
          rw [self, byA_snoc, if_pos rfl, List.length_append, hm, rowCs_app]
          exact owns_blk ho7 (far8 g hgb)
        · rw [same b e, byA_snoc, if_neg (by show ¬ (a : Int) = (b : Int); omega)]
          refine owns_all (hL.row b hb) fun k hk => ?_
          have h1 := old b hb k hk
          rw [far8 k (fun e' => hL.far b hb (by rw [hk, e'])), hg7.block k (by omega) (fun e' => by rw [← hva] at e'; exact hL.part a b ha hb (fun e0 => e e0.symm) k e'.symm hk), e2 k h1]
      · by_cases e : b = a
        · subst e
          rw [self]
          intro h
          simp only [Value.ownBlock, Option.some.injEq] at h
          exact hgb h
        · rw [same b e]
          exact hL.far b hb
      · by_cases e : b = a
        · subst e
          rw [self] at hk
          simp only [Value.ownBlock, Option.some.injEq] at hk
          subst hk
          rw [same c (fun e => hbc e.symm)]
          exact apart c hc (fun e => hbc e.symm)
        · rw [same b e] at hk
          by_cases e' : c = a
          · subst e'
            rw [self]
            intro h
            simp only [Value.ownBlock, Option.some.injEq] at h
            subst h
            exact apart b hb e hk
          · rw [same c e']
            exact hL.part b c hb hc hbc k hk
      · exact (far8 k hcl.1).trans ((hg7.block k (by omega) (fun e => hcl.2 a ha (by rw [hva]; exact e.symm))).trans (e2 k hk))
      · by_cases e' : b = a
        · subst e'
          rw [self] at e
          simp only [Value.ownBlock, Option.some.injEq] at e
          subst e
          rcases hat with h | h
          · exact hcl.2 b hb (by rw [hva]; exact h)
          · omega
        · rw [same b e'] at e
          exact hcl.2 b hb e
    · have hB2 : Below B w ((w.alloc (.cells #[.int .i64 ((a : Int)), .int .i64 xs, .int .i64 xt, xdv, .int .i64 xk, .int .i64 ((j : Int)), .int .i64 xn, .int .i64 xu, .int .i64 xpt, .int .i64 xpa, .string xky, .string xtx] 47)).drew.alloc (.cells #[.int .i64 ((a : Int)), .int .i64 xs, .int .i64 xt, xdv, .int .i64 xk, .int .i64 ((j : Int)), .int .i64 xn, .int .i64 xu, .int .i64 xpt, .int .i64 xpa, .string xky, .string xtx] 47)) := ((((Below.refl w.heap.size w).alloc (Nat.le_refl _) _).drew).alloc (by show w.heap.size ≤ (w.alloc (.cells #[.int .i64 ((a : Int)), .int .i64 xs, .int .i64 xt, xdv, .int .i64 xk, .int .i64 ((j : Int)), .int .i64 xn, .int .i64 xu, .int .i64 xpt, .int .i64 xpa, .string xky, .string xtx] 47)).heap.size; rw [World.size_alloc]; omega) _).mono hBw
      have hB7 : Below B w w7 := hB2.grown hg7 (by omega) (fun k hk => by
        obtain ⟨_, h2⟩ := HRW.out
        rcases h2 with ⟨hv, _⟩ | ⟨g', cap', cur, hv, hb', _⟩
        · rw [hv] at hk; cases hk
        · rw [hv] at hk
          simp only [Value.ownBlock, Option.some.injEq] at hk
          omega)
      exact ((hB7.setCell (p := ⟨lb, a, none⟩) hL.low _).setCell (p := ⟨lb, 16 + j, none⟩) hL.low _).setCell (p := ⟨lb, 117, none⟩) hL.low _
  go_enter Try.func36, Try.ntmps36
  go_wp2_with fail
  refine wp_region_held_drew (S := fun w' => w'.cell? ⟨w.heap.size, 0, none⟩ = some (.int .i64 ((a : Int))) ∧ w'.cell? ⟨w.heap.size, 1, none⟩ = some (.int .i64 xs) ∧ w'.cell? ⟨w.heap.size, 2, none⟩ = some (.int .i64 xt) ∧ w'.cell? ⟨w.heap.size, 3, none⟩ = some (xdv) ∧ w'.cell? ⟨w.heap.size, 4, none⟩ = some (.int .i64 xk) ∧ w'.cell? ⟨w.heap.size, 5, none⟩ = some (.int .i64 ((j : Int))) ∧ w'.cell? ⟨w.heap.size, 6, none⟩ = some (.int .i64 xn) ∧ w'.cell? ⟨w.heap.size, 7, none⟩ = some (.int .i64 xu) ∧ w'.cell? ⟨w.heap.size, 8, none⟩ = some (.int .i64 xpt) ∧ w'.cell? ⟨w.heap.size, 9, none⟩ = some (.int .i64 xpa) ∧ w'.cell? ⟨w.heap.size, 10, none⟩ = some (.string xky) ∧ w'.cell? ⟨w.heap.size, 11, none⟩ = some (.string xtx)) (by kernel_rfl) (HF.out _ b1) (fun hHeld => ?_)
  refine tkH 0 (.pointer (some ⟨lb, 0, none⟩)) rfl (Or.inl ⟨by kernel_rfl, by intro w hSw; obtain ⟨s0, s1, s2, s3, s4, s5, s6, s7, s8, s9, s10, s11⟩ := hSw; go_simp⟩) hHeld ?_
  simp only [tkS, Act.put]
  refine tkH 1 (.pointer (some ⟨w.heap.size, 0, none⟩)) rfl (Or.inl ⟨by kernel_rfl, by intro w hSw; obtain ⟨s0, s1, s2, s3, s4, s5, s6, s7, s8, s9, s10, s11⟩ := hSw; go_simp⟩) hHeld ?_
  simp only [tkS, Act.put]
  refine tkH 2 (.int .i64 ((a : Int))) rfl (Or.inl ⟨by kernel_rfl, by intro w hSw; obtain ⟨s0, s1, s2, s3, s4, s5, s6, s7, s8, s9, s10, s11⟩ := hSw; go_simp⟩) hHeld ?_
  simp only [tkS, Act.put]
  refine tkH 3 (.pointer (some ⟨lb, 0, none⟩)) rfl (Or.inl ⟨by kernel_rfl, by intro w hSw; obtain ⟨s0, s1, s2, s3, s4, s5, s6, s7, s8, s9, s10, s11⟩ := hSw; go_simp⟩) hHeld ?_
  simp only [tkS, Act.put]
  refine tkH 4 (.pointer (some ⟨w.heap.size, 0, none⟩)) rfl (Or.inl ⟨by kernel_rfl, by intro w hSw; obtain ⟨s0, s1, s2, s3, s4, s5, s6, s7, s8, s9, s10, s11⟩ := hSw; go_simp⟩) hHeld ?_
  simp only [tkS, Act.put]
  refine tkH 5 (.int .i64 ((a : Int))) rfl (Or.inl ⟨by kernel_rfl, by intro w hSw; obtain ⟨s0, s1, s2, s3, s4, s5, s6, s7, s8, s9, s10, s11⟩ := hSw; go_simp⟩) hHeld ?_
  simp only [tkS, Act.put]
  refine tkH 6 (.pointer (some ⟨lb, 0, none⟩)) rfl (Or.inl ⟨by kernel_rfl, by intro w hSw; obtain ⟨s0, s1, s2, s3, s4, s5, s6, s7, s8, s9, s10, s11⟩ := hSw; go_simp⟩) hHeld ?_
  simp only [tkS, Act.put]
  refine tkH 7 (.pointer (some ⟨lb, 0, none⟩)) rfl (Or.inl ⟨by kernel_rfl, by intro w hSw; obtain ⟨s0, s1, s2, s3, s4, s5, s6, s7, s8, s9, s10, s11⟩ := hSw; go_simp⟩) hHeld ?_
  simp only [tkS, Act.put]
  refine tkH 8 (.pointer (some ⟨lb, a, none⟩)) rfl (Or.inl ⟨by kernel_rfl, by intro w hSw; obtain ⟨s0, s1, s2, s3, s4, s5, s6, s7, s8, s9, s10, s11⟩ := hSw; go_simp⟩) hHeld ?_
  simp only [tkS, Act.put]
  refine tkH 10 (.agg #[.int .i64 ((a : Int)), .int .i64 xs, .int .i64 xt, xdv, .int .i64 xk, .int .i64 ((j : Int)), .int .i64 xn, .int .i64 xu, .int .i64 xpt, .int .i64 xpa, .string xky, .string xtx]) rfl (Or.inl ⟨by kernel_rfl, by intro w hSw; obtain ⟨s0, s1, s2, s3, s4, s5, s6, s7, s8, s9, s10, s11⟩ := hSw; go_simp⟩) hHeld ?_
  simp only [tkS, Act.put]
  refine tkH 13 (.pointer (some ⟨lb, 0, none⟩)) rfl (Or.inl ⟨by kernel_rfl, by intro w hSw; obtain ⟨s0, s1, s2, s3, s4, s5, s6, s7, s8, s9, s10, s11⟩ := hSw; go_simp⟩) hHeld ?_
  simp only [tkS, Act.put]
  refine tkH 14 (.pointer (some ⟨lb, 0, none⟩)) rfl (Or.inl ⟨by kernel_rfl, by intro w hSw; obtain ⟨s0, s1, s2, s3, s4, s5, s6, s7, s8, s9, s10, s11⟩ := hSw; go_simp⟩) hHeld ?_
  simp only [tkS, Act.put]
  refine wpAnyH_ready (rs := [9, 11]) (by kernel_rfl) (by simp) ?_
  refine AllReadyH.cons rfl (fun K hK => ?_) (AllReadyH.cons rfl (fun K hK => ?_) AllReadyH.nil)
  · have c9 := c1
    have c9b : (w.alloc (.cells #[.int .i64 ((a : Int)), .int .i64 xs, .int .i64 xt, xdv, .int .i64 xk, .int .i64 ((j : Int)), .int .i64 xn, .int .i64 xu, .int .i64 xpt, .int .i64 xpa, .string xky, .string xtx] 47)).cell? ⟨lb, a, none⟩ = some va := c1
    go_simp
    refine hK.out _ _ (HF.out _ b1) (fun hHeld => ?_)
    clear hK K
    refine wpAnyH_ready (rs := [11]) (by kernel_rfl) (by simp) ?_
    refine AllReadyH.cons rfl (fun K hK => ?_) AllReadyH.nil
    go_simp
    refine hK.out _ _ (HF.out _ b2) (fun hHeld => ?_)
    clear hK K
    refine wpAnyH_ready (rs := [12]) (by kernel_rfl) (by simp) ?_
    refine AllReadyH.cons rfl (fun K hK => ?_) AllReadyH.nil
    refine step_append_lies _ rfl (.tmp 13) (.tmp 15) 23 rfl B 47 i0 (.agg #[.int .i64 0, .int .i64 0, .int .i64 0, .slice none 0 0, .int .i64 0, .int .i64 0, .int .i64 0, .int .i64 0, .int .i64 0, .int .i64 0, .string ByteArray.empty, .string ByteArray.empty]) 12 128 Try.underlying23 hi hz0 hz1 hz2 rfl (by decide) va m (rowCs (byA P a)) rfl HO.out ⟨w.heap.size + 1, 0, none⟩ 1 1 [.int .i64 ((a : Int)), .int .i64 xs, .int .i64 xt, xdv, .int .i64 xk, .int .i64 ((j : Int)), .int .i64 xn, .int .i64 xu, .int .i64 xpt, .int .i64 xpa, .string xky, .string xtx] rfl rfl HNW.out HON.out (by decide) HM1.out HM2.out HM3.out _ rfl ?_
    intro g cap w7 ho7 hg7 hat hlt7
    have b7 : w7.heap[w.heap.size]? = some (.cells #[.int .i64 ((a : Int)), .int .i64 xs, .int .i64 xt, xdv, .int .i64 xk, .int .i64 ((j : Int)), .int .i64 xn, .int .i64 xu, .int .i64 xpt, .int .i64 xpa, .string xky, .string xtx] 47 (0, 0)) := (hg7.block w.heap.size (Array.getElem?_eq_some_iff.1 b2).1 (fun e => by have := (HOB.out _ e.symm).1; omega)).trans b2
    have l7 : w7.heap[lb]? = some (.cells (ledCs vs P).toArray 70 (0, 0)) := (hg7.block lb (Array.getElem?_eq_some_iff.1 l2).1 (fun e => (HOB.out _ e.symm).2 rfl)).trans l2
    have HEND : Hid _ := HFIN.out g cap w7 ho7 hg7 hat hlt7 b7 l7
    have c7 := blk_cell l7 a (by simpa using HLV.out)
    have f7 := blk_free l7 a
    clear ho7 hg7 hat hlt7
    refine hK.out _ _ (HF.out _ b7) (fun hHeld => ?_)
    clear hK K
    refine tkH 15 (.pointer (some ⟨lb, a, none⟩)) rfl (Or.inl ⟨by kernel_rfl, by intro w hSw; obtain ⟨s0, s1, s2, s3, s4, s5, s6, s7, s8, s9, s10, s11⟩ := hSw; go_simp⟩) hHeld ?_
    simp only [tkS, Act.put]
    refine wpAnyH_ready (rs := [16]) (by kernel_rfl) (by simp) ?_
    refine AllReadyH.cons rfl (fun K hK => ?_) AllReadyH.nil
    go_simp
    have b8 : (w7.setCell ⟨lb, a, none⟩ (.slice (some ⟨g, 0, none⟩) (m + 1) cap)).heap[w.heap.size]? = some (.cells #[.int .i64 ((a : Int)), .int .i64 xs, .int .i64 xt, xdv, .int .i64 xk, .int .i64 ((j : Int)), .int .i64 xn, .int .i64 xu, .int .i64 xpt, .int .i64 xpa, .string xky, .string xtx] 47 (0, 0)) := (heap_setCell_other w7 ⟨lb, a, none⟩ w.heap.size _ (by show w.heap.size ≠ lb; omega)).trans b7
    refine hK.out _ _ (HF.out _ b8) (fun hHeld => ?_)
    clear hK K
    refine wpAnyH_done (by kernel_rfl) ?_ _
    obtain ⟨d8, d9, f9, d10, f10, HLED, HBEL⟩ := HEND.out
    have hS8 := HF.out _ b8
    go_wp2_with fail
    refine wp_region_held_drew (S := fun w' => w'.cell? ⟨w.heap.size, 0, none⟩ = some (.int .i64 ((a : Int))) ∧ w'.cell? ⟨w.heap.size, 1, none⟩ = some (.int .i64 xs) ∧ w'.cell? ⟨w.heap.size, 2, none⟩ = some (.int .i64 xt) ∧ w'.cell? ⟨w.heap.size, 3, none⟩ = some (xdv) ∧ w'.cell? ⟨w.heap.size, 4, none⟩ = some (.int .i64 xk) ∧ w'.cell? ⟨w.heap.size, 5, none⟩ = some (.int .i64 ((j : Int))) ∧ w'.cell? ⟨w.heap.size, 6, none⟩ = some (.int .i64 xn) ∧ w'.cell? ⟨w.heap.size, 7, none⟩ = some (.int .i64 xu) ∧ w'.cell? ⟨w.heap.size, 8, none⟩ = some (.int .i64 xpt) ∧ w'.cell? ⟨w.heap.size, 9, none⟩ = some (.int .i64 xpa) ∧ w'.cell? ⟨w.heap.size, 10, none⟩ = some (.string xky) ∧ w'.cell? ⟨w.heap.size, 11, none⟩ = some (.string xtx)) (by kernel_rfl) (HF.out _ b8) (fun hHeld => ?_)
    refine tkH 0 (.pointer (some ⟨lb, 0, none⟩)) rfl (Or.inl ⟨by kernel_rfl, by intro w hSw; obtain ⟨s0, s1, s2, s3, s4, s5, s6, s7, s8, s9, s10, s11⟩ := hSw; go_simp⟩) hHeld ?_
    simp only [tkS, Act.put]
    refine tkH 1 (.pointer (some ⟨w.heap.size, 5, none⟩)) rfl (Or.inl ⟨by kernel_rfl, by intro w hSw; obtain ⟨s0, s1, s2, s3, s4, s5, s6, s7, s8, s9, s10, s11⟩ := hSw; go_simp⟩) hHeld ?_
    simp only [tkS, Act.put]
    refine tkH 2 (.int .i64 ((j : Int))) rfl (Or.inl ⟨by kernel_rfl, by intro w hSw; obtain ⟨s0, s1, s2, s3, s4, s5, s6, s7, s8, s9, s10, s11⟩ := hSw; go_simp⟩) hHeld ?_
    simp only [tkS, Act.put]
    refine tkH 3 (.pointer (some ⟨w.heap.size, 4, none⟩)) rfl (Or.inl ⟨by kernel_rfl, by intro w hSw; obtain ⟨s0, s1, s2, s3, s4, s5, s6, s7, s8, s9, s10, s11⟩ := hSw; go_simp⟩) hHeld ?_
    simp only [tkS, Act.put]
    refine tkH 4 (.int .i64 xk) rfl (Or.inl ⟨by kernel_rfl, by intro w hSw; obtain ⟨s0, s1, s2, s3, s4, s5, s6, s7, s8, s9, s10, s11⟩ := hSw; go_simp⟩) hHeld ?_
    simp only [tkS, Act.put]
    refine tkH 6 (.pointer (some ⟨lb, 0, none⟩)) rfl (Or.inl ⟨by kernel_rfl, by intro w hSw; obtain ⟨s0, s1, s2, s3, s4, s5, s6, s7, s8, s9, s10, s11⟩ := hSw; go_simp⟩) hHeld ?_
    simp only [tkS, Act.put]
    refine tkH 7 (.pointer (some ⟨lb, 16, none⟩)) rfl (Or.inl ⟨by kernel_rfl, by intro w hSw; obtain ⟨s0, s1, s2, s3, s4, s5, s6, s7, s8, s9, s10, s11⟩ := hSw; go_simp⟩) hHeld ?_
    simp only [tkS, Act.put]
    refine wpAnyH_ready (rs := [5]) (by kernel_rfl) (by simp) ?_
    refine AllReadyH.cons rfl (fun K hK => ?_) AllReadyH.nil
    go_simp
    refine (thingOf_any _ _).mono ?_
    rintro e wn ⟨rfl, hw⟩
    obtain rfl := hw.symm
    clear hw
    go_wp2_with fail
    refine hK.out _ _ (HF.out _ b8) (fun hHeld => ?_)
    clear hK K
    refine tkH 8 (.pointer (some ⟨lb, 16 + j, none⟩)) rfl (Or.inl ⟨by kernel_rfl, by intro w hSw; obtain ⟨s0, s1, s2, s3, s4, s5, s6, s7, s8, s9, s10, s11⟩ := hSw; go_simp⟩) hHeld ?_
    simp only [tkS, Act.put]
    refine wpAnyH_ready (rs := [9]) (by kernel_rfl) (by simp) ?_
    refine AllReadyH.cons rfl (fun K hK => ?_) AllReadyH.nil
    go_simp
    have b9 : ((w7.setCell ⟨lb, a, none⟩ (.slice (some ⟨g, 0, none⟩) (m + 1) cap)).setCell ⟨lb, 16 + j, none⟩ (.int .i64 (thOf xk))).drew.heap[w.heap.size]? = some (.cells #[.int .i64 ((a : Int)), .int .i64 xs, .int .i64 xt, xdv, .int .i64 xk, .int .i64 ((j : Int)), .int .i64 xn, .int .i64 xu, .int .i64 xpt, .int .i64 xpa, .string xky, .string xtx] 47 (0, 0)) := (heap_setCell_other (w7.setCell ⟨lb, a, none⟩ (.slice (some ⟨g, 0, none⟩) (m + 1) cap)) ⟨lb, 16 + j, none⟩ w.heap.size _ (by show w.heap.size ≠ lb; omega)).trans b8
    refine hK.out _ _ (HF.out _ b9) (fun hHeld => ?_)
    clear hK K
    refine wpAnyH_done (by kernel_rfl) ?_ _
    go_wp2_with fail
    go_end0
    exact ⟨rfl, by obtain ⟨vs9, h9, h10⟩ := HLED; exact ⟨vs9, h9.drew, h10⟩, HBEL.drew⟩
  · go_simp
    refine hK.out _ _ (HF.out _ b2) (fun hHeld => ?_)
    clear hK K
    refine wpAnyH_ready (rs := [9]) (by kernel_rfl) (by simp) ?_
    refine AllReadyH.cons rfl (fun K hK => ?_) AllReadyH.nil
    have c9 := c2
    have c9a : ((w.alloc (.cells #[.int .i64 ((a : Int)), .int .i64 xs, .int .i64 xt, xdv, .int .i64 xk, .int .i64 ((j : Int)), .int .i64 xn, .int .i64 xu, .int .i64 xpt, .int .i64 xpa, .string xky, .string xtx] 47)).alloc (.cells #[.int .i64 ((a : Int)), .int .i64 xs, .int .i64 xt, xdv, .int .i64 xk, .int .i64 ((j : Int)), .int .i64 xn, .int .i64 xu, .int .i64 xpt, .int .i64 xpa, .string xky, .string xtx] 47)).cell? ⟨lb, a, none⟩ = some va := c2
    have c9b : (w.alloc (.cells #[.int .i64 ((a : Int)), .int .i64 xs, .int .i64 xt, xdv, .int .i64 xk, .int .i64 ((j : Int)), .int .i64 xn, .int .i64 xu, .int .i64 xpt, .int .i64 xpa, .string xky, .string xtx] 47)).cell? ⟨lb, a, none⟩ = some va := c1
    go_simp
    refine hK.out _ _ (HF.out _ b2) (fun hHeld => ?_)
    clear hK K
    refine wpAnyH_ready (rs := [12]) (by kernel_rfl) (by simp) ?_
    refine AllReadyH.cons rfl (fun K hK => ?_) AllReadyH.nil
    refine step_append_lies _ rfl (.tmp 13) (.tmp 15) 23 rfl B 47 i0 (.agg #[.int .i64 0, .int .i64 0, .int .i64 0, .slice none 0 0, .int .i64 0, .int .i64 0, .int .i64 0, .int .i64 0, .int .i64 0, .int .i64 0, .string ByteArray.empty, .string ByteArray.empty]) 12 128 Try.underlying23 hi hz0 hz1 hz2 rfl (by decide) va m (rowCs (byA P a)) rfl HO.out ⟨w.heap.size + 1, 0, none⟩ 1 1 [.int .i64 ((a : Int)), .int .i64 xs, .int .i64 xt, xdv, .int .i64 xk, .int .i64 ((j : Int)), .int .i64 xn, .int .i64 xu, .int .i64 xpt, .int .i64 xpa, .string xky, .string xtx] rfl rfl HNW.out HON.out (by decide) HM1.out HM2.out HM3.out _ rfl ?_
    intro g cap w7 ho7 hg7 hat hlt7
    have b7 : w7.heap[w.heap.size]? = some (.cells #[.int .i64 ((a : Int)), .int .i64 xs, .int .i64 xt, xdv, .int .i64 xk, .int .i64 ((j : Int)), .int .i64 xn, .int .i64 xu, .int .i64 xpt, .int .i64 xpa, .string xky, .string xtx] 47 (0, 0)) := (hg7.block w.heap.size (Array.getElem?_eq_some_iff.1 b2).1 (fun e => by have := (HOB.out _ e.symm).1; omega)).trans b2
    have l7 : w7.heap[lb]? = some (.cells (ledCs vs P).toArray 70 (0, 0)) := (hg7.block lb (Array.getElem?_eq_some_iff.1 l2).1 (fun e => (HOB.out _ e.symm).2 rfl)).trans l2
    have HEND : Hid _ := HFIN.out g cap w7 ho7 hg7 hat hlt7 b7 l7
    have c7 := blk_cell l7 a (by simpa using HLV.out)
    have f7 := blk_free l7 a
    clear ho7 hg7 hat hlt7
    refine hK.out _ _ (HF.out _ b7) (fun hHeld => ?_)
    clear hK K
    refine tkH 15 (.pointer (some ⟨lb, a, none⟩)) rfl (Or.inl ⟨by kernel_rfl, by intro w hSw; obtain ⟨s0, s1, s2, s3, s4, s5, s6, s7, s8, s9, s10, s11⟩ := hSw; go_simp⟩) hHeld ?_
    simp only [tkS, Act.put]
    refine wpAnyH_ready (rs := [16]) (by kernel_rfl) (by simp) ?_
    refine AllReadyH.cons rfl (fun K hK => ?_) AllReadyH.nil
    go_simp
    have b8 : (w7.setCell ⟨lb, a, none⟩ (.slice (some ⟨g, 0, none⟩) (m + 1) cap)).heap[w.heap.size]? = some (.cells #[.int .i64 ((a : Int)), .int .i64 xs, .int .i64 xt, xdv, .int .i64 xk, .int .i64 ((j : Int)), .int .i64 xn, .int .i64 xu, .int .i64 xpt, .int .i64 xpa, .string xky, .string xtx] 47 (0, 0)) := (heap_setCell_other w7 ⟨lb, a, none⟩ w.heap.size _ (by show w.heap.size ≠ lb; omega)).trans b7
    refine hK.out _ _ (HF.out _ b8) (fun hHeld => ?_)
    clear hK K
    refine wpAnyH_done (by kernel_rfl) ?_ _
    obtain ⟨d8, d9, f9, d10, f10, HLED, HBEL⟩ := HEND.out
    have hS8 := HF.out _ b8
    go_wp2_with fail
    refine wp_region_held_drew (S := fun w' => w'.cell? ⟨w.heap.size, 0, none⟩ = some (.int .i64 ((a : Int))) ∧ w'.cell? ⟨w.heap.size, 1, none⟩ = some (.int .i64 xs) ∧ w'.cell? ⟨w.heap.size, 2, none⟩ = some (.int .i64 xt) ∧ w'.cell? ⟨w.heap.size, 3, none⟩ = some (xdv) ∧ w'.cell? ⟨w.heap.size, 4, none⟩ = some (.int .i64 xk) ∧ w'.cell? ⟨w.heap.size, 5, none⟩ = some (.int .i64 ((j : Int))) ∧ w'.cell? ⟨w.heap.size, 6, none⟩ = some (.int .i64 xn) ∧ w'.cell? ⟨w.heap.size, 7, none⟩ = some (.int .i64 xu) ∧ w'.cell? ⟨w.heap.size, 8, none⟩ = some (.int .i64 xpt) ∧ w'.cell? ⟨w.heap.size, 9, none⟩ = some (.int .i64 xpa) ∧ w'.cell? ⟨w.heap.size, 10, none⟩ = some (.string xky) ∧ w'.cell? ⟨w.heap.size, 11, none⟩ = some (.string xtx)) (by kernel_rfl) (HF.out _ b8) (fun hHeld => ?_)
    refine tkH 0 (.pointer (some ⟨lb, 0, none⟩)) rfl (Or.inl ⟨by kernel_rfl, by intro w hSw; obtain ⟨s0, s1, s2, s3, s4, s5, s6, s7, s8, s9, s10, s11⟩ := hSw; go_simp⟩) hHeld ?_
    simp only [tkS, Act.put]
    refine tkH 1 (.pointer (some ⟨w.heap.size, 5, none⟩)) rfl (Or.inl ⟨by kernel_rfl, by intro w hSw; obtain ⟨s0, s1, s2, s3, s4, s5, s6, s7, s8, s9, s10, s11⟩ := hSw; go_simp⟩) hHeld ?_
    simp only [tkS, Act.put]
    refine tkH 2 (.int .i64 ((j : Int))) rfl (Or.inl ⟨by kernel_rfl, by intro w hSw; obtain ⟨s0, s1, s2, s3, s4, s5, s6, s7, s8, s9, s10, s11⟩ := hSw; go_simp⟩) hHeld ?_
    simp only [tkS, Act.put]
    refine tkH 3 (.pointer (some ⟨w.heap.size, 4, none⟩)) rfl (Or.inl ⟨by kernel_rfl, by intro w hSw; obtain ⟨s0, s1, s2, s3, s4, s5, s6, s7, s8, s9, s10, s11⟩ := hSw; go_simp⟩) hHeld ?_
    simp only [tkS, Act.put]
    refine tkH 4 (.int .i64 xk) rfl (Or.inl ⟨by kernel_rfl, by intro w hSw; obtain ⟨s0, s1, s2, s3, s4, s5, s6, s7, s8, s9, s10, s11⟩ := hSw; go_simp⟩) hHeld ?_
    simp only [tkS, Act.put]
    refine tkH 6 (.pointer (some ⟨lb, 0, none⟩)) rfl (Or.inl ⟨by kernel_rfl, by intro w hSw; obtain ⟨s0, s1, s2, s3, s4, s5, s6, s7, s8, s9, s10, s11⟩ := hSw; go_simp⟩) hHeld ?_
    simp only [tkS, Act.put]
    refine tkH 7 (.pointer (some ⟨lb, 16, none⟩)) rfl (Or.inl ⟨by kernel_rfl, by intro w hSw; obtain ⟨s0, s1, s2, s3, s4, s5, s6, s7, s8, s9, s10, s11⟩ := hSw; go_simp⟩) hHeld ?_
    simp only [tkS, Act.put]
    refine wpAnyH_ready (rs := [5]) (by kernel_rfl) (by simp) ?_
    refine AllReadyH.cons rfl (fun K hK => ?_) AllReadyH.nil
    go_simp
    refine (thingOf_any _ _).mono ?_
    rintro e wn ⟨rfl, hw⟩
    obtain rfl := hw.symm
    clear hw
    go_wp2_with fail
    refine hK.out _ _ (HF.out _ b8) (fun hHeld => ?_)
    clear hK K
    refine tkH 8 (.pointer (some ⟨lb, 16 + j, none⟩)) rfl (Or.inl ⟨by kernel_rfl, by intro w hSw; obtain ⟨s0, s1, s2, s3, s4, s5, s6, s7, s8, s9, s10, s11⟩ := hSw; go_simp⟩) hHeld ?_
    simp only [tkS, Act.put]
    refine wpAnyH_ready (rs := [9]) (by kernel_rfl) (by simp) ?_
    refine AllReadyH.cons rfl (fun K hK => ?_) AllReadyH.nil
    go_simp
    have b9 : ((w7.setCell ⟨lb, a, none⟩ (.slice (some ⟨g, 0, none⟩) (m + 1) cap)).setCell ⟨lb, 16 + j, none⟩ (.int .i64 (thOf xk))).drew.heap[w.heap.size]? = some (.cells #[.int .i64 ((a : Int)), .int .i64 xs, .int .i64 xt, xdv, .int .i64 xk, .int .i64 ((j : Int)), .int .i64 xn, .int .i64 xu, .int .i64 xpt, .int .i64 xpa, .string xky, .string xtx] 47 (0, 0)) := (heap_setCell_other (w7.setCell ⟨lb, a, none⟩ (.slice (some ⟨g, 0, none⟩) (m + 1) cap)) ⟨lb, 16 + j, none⟩ w.heap.size _ (by show w.heap.size ≠ lb; omega)).trans b8
    refine hK.out _ _ (HF.out _ b9) (fun hHeld => ?_)
    clear hK K
    refine wpAnyH_done (by kernel_rfl) ?_ _
    go_wp2_with fail
    go_end0
    exact ⟨rfl, by obtain ⟨vs9, h9, h10⟩ := HLED; exact ⟨vs9, h9.drew, h10⟩, HBEL.drew⟩
end Go.Proofs.Ytfjekbfejbgneaa
