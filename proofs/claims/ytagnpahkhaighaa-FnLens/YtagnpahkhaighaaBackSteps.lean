/- slices.Backward over steps behind their interface: each of them, from the last to the first, with its place, for every loop body that keeps them. -/
import Derived.Test.YtagnpahkhaighaaLensOK
import Derived.Deep.MidRow
import Derived.RangeFuncNested
import Derived.RangeFuncBound
import Derived.RangeFuncCalls
import Derived.RangeFuncLeaves
import Derived.Shelf.Abstract
import Derived.Shelf.RegionOpen
import Derived.WalkKit
import Derived.OwnWalkIn
import Derived.TacticsInMore
import Derived.LoopNIn
import Derived.LoopIn
namespace Go.Proofs.Ytagnpahkhaighaa
open Go.RowKit
set_option linter.unusedVariables false

/-- What a round keeps: all that lay below n0, and the one block b. -/
def KpB (n0 b : Nat) (W W' : World) : Prop := Below n0 W W' ∧ W'.heap[b]? = W.heap[b]?
theorem KpB.refl (n0 b : Nat) (W : World) : KpB n0 b W W := ⟨Below.refl _ _, rfl⟩
theorem kpB_t {n0 b : Nat} {A B C : World} (h : KpB n0 b A B) (k : KpB n0 b B C) : KpB n0 b A C := ⟨h.1.trans k.1, k.2.trans h.2⟩
theorem kpB_b {n0 b : Nat} {w : World} (hn : n0 ≤ w.heap.size) (hb : b < w.heap.size) (W : World) (l : Nat) (o o' : Obj) (hl : w.heap.size ≤ l) (h : W.heap[l]? = some o) (h1 : o.isCells = false) (h2 : o.isWalk = false) : KpB n0 b W (W.putObj l o') :=
  ⟨belowK_b hn W l o o' hl h h1 h2, World.putObj_heap_other (by omega)⟩
/-- What is handed on: the place, the step. -/
def lsVs (L : List St) (i : Nat) : Array Value := #[.int .i64 (i : Int), stepV (stAt L i)]
/-- The places from n - 1 down to m. -/
def fr (n m : Nat) : List Nat := ((List.range n).drop m).reverse
theorem fr_all (n : Nat) : fr n n = [] := by unfold fr; rw [List.drop_eq_nil_of_le (by simp)]; rfl
theorem fr_step {n j : Nat} (h : j < n) : fr n j = fr n (j + 1) ++ [j] := by
  unfold fr
  rw [List.drop_eq_getElem_cons (by simpa using h), List.reverse_cons, List.getElem_range]
theorem fr_len (n m : Nat) : (fr n m).length = n - m := by unfold fr; simp

set_option maxRecDepth 100000 in
set_option maxHeartbeats 4000000 in
theorem back1_in (F : Fence) (n : Nat) (hF : F.fn 51) (hro : F.round = none) (hn : 1 ≤ n) (l Bn n0 : Nat) (v : Value) (L : List St) (hlen : L.length ≤ 1024) (J Jx : List Nat → World → Prop)
    (hY : ∀ pre x W, J pre W → pre.length < L.length → YieldAt F (n - 1) Try.prog l (lsVs L x) W fun e W' => (e = .returned (.bool true) ∧ J (pre ++ [x]) W' ∧ KpB n0 Bn W W') ∨ (e = .returned (.bool false) ∧ Jx (pre ++ [x]) W'))
    (W : World) (hBn : W.cell? ⟨Bn, 0, none⟩ = some v) (hr : Rd n0 W v (L.map stepV)) (h0 : J [] W) :
    CallsIn F n Try.prog 51 #[.func (.yield l) #[] #[], .pointer (some ⟨Bn, 0, none⟩)] W fun e W' => (∃ v, e = .returned v) ∧ ((∃ xs, xs = fr L.length 0 ∧ J xs W') ∨ (∃ pre : List Nat, True ∧ Jx pre W')) := by
  obtain ⟨ao, cap, rfl, hcap, hmax, hnil, hrow⟩ := hr
  rw [List.length_map] at *
  refine callsIn_of_wp Try.func51 rfl hF ?_ hro
  simp only [Try.ntmps51, List.size_toArray, List.length_cons, List.length_nil, Nat.reduceAdd, Nat.reduceSub, Array.replicate_succ, Array.replicate_zero, List.push_toArray, List.append_toArray, List.nil_append, List.cons_append]
  have hl0 : (0 : Int) ≤ (L.length : Int) := by omega
  have hl1 : (L.length : Int) ≤ 1024 := by omega
  gi_wp2
  gi_loopw [3] (fun ti wr => ∃ m : Nat, m ≤ L.length ∧ ti = .int .i64 ((m : Int) - 1) ∧ J (fr L.length m) wr ∧ KpB n0 Bn W wr) (fun ti _ => (intOf ti + 1).toNat)
  case atStart => exact ⟨L.length, Nat.le_refl _, rfl, by rw [fr_all]; exact h0, KpB.refl _ _ _⟩
  case round =>
    obtain ⟨m, hm, rfl, hJs, hk⟩ := hrel
    cases m with
    | zero =>
      gi_wp2
      go_end0
      exact ⟨⟨_, rfl⟩, .inl ⟨_, rfl, hJs⟩⟩
    | succ j =>
      rw [show (((j + 1 : Nat) : Int) - 1) = (j : Int) by omega]
      have hj0 : (0 : Int) ≤ (j : Int) := by omega
      have hj1 : (j : Int) < (L.length : Int) := by omega
      obtain ⟨g, off, rfl, hg, hcs⟩ := hrow (by omega)
      have hB : wr.cell? ⟨Bn, 0, none⟩ = some (.slice (some ⟨g, off, none⟩) L.length cap) := (World.cell?_of_block (w := W) hk.2).trans hBn
      have hjl : j < L.length := by omega
      obtain ⟨T, d, hgd⟩ := stepV_iface (stAt L j)
      have hrg : wr.cell? ⟨g, off + j, none⟩ = some (.iface T d) := (hk.1.cell (p := ⟨g, off + j, none⟩) hg).trans (hcs j _ (by rw [List.getElem?_map, List.getElem?_eq_getElem hjl, ← hgd]; simp [stAt, hjl]))
      obtain ⟨fn, tmps, assign, body, hy, hR⟩ := hY _ j wr hJs (by rw [fr_len]; omega)
      unfold lsVs at hy
      rw [hgd] at hy
      rw [← fr_step (show j < L.length by omega)] at hR
      clear hcs hrow hY hgd
      gi_wp2_with (first | gi_in)
      refine hR.mono ?_
      rintro e W3 (⟨rfl, hJ3, hk3⟩ | ⟨rfl, hJx3⟩)
      · gi_wp2
        go_roundw
        case rel => exact ⟨j, by omega, rfl, hJ3, kpB_t hk hk3⟩
        case measure => simp [intOf]
      · gi_wp2
        refine bodyPost_ret (results_none rfl _ _ _) rfl ?_
        exact ⟨⟨_, rfl⟩, .inr ⟨_, trivial, hJx3⟩⟩

theorem back_stops (F : Fence) (n : Nat) (hF : F.fn 51) (hro : F.round = none) (hn : 1 ≤ n) (Bn n0 : Nat) (v : Value) (L : List St) (hlen : L.length ≤ 1024) (w : World) (hBl : Bn < w.heap.size) (hn0 : n0 ≤ w.heap.size)
    (hBn : w.cell? ⟨Bn, 0, none⟩ = some v) (hr : Rd n0 w v (L.map stepV)) :
    SeqStopsK F n Try.prog 51 #[.pointer (some ⟨Bn, 0, none⟩)] (lsVs L) (KpB n0 Bn) (fun xs => xs = fr L.length 0) (fun _ => True) L.length w := fun l J Jx W hW hJ hJx hY h0 =>
  back1_in F n hF hro hn l Bn n0 v L hlen J Jx hY W ((hW.cell (p := ⟨Bn, 0, none⟩) hBl).trans hBn) (hr.below (hW.mono hn0)) h0

set_option maxHeartbeats 1000000 in
theorem backward_in (F : Fence) (n : Nat) (hF : F.fn 41) (hro : F.round = none) (v : Value) (hv : ∃ a l c, v = .slice a l c) (w : World) :
    CallsIn F n Try.prog 41 #[v] w fun e w' => e = .returned (.func (.func 51) #[] #[.pointer (some ⟨w.heap.size, 0, none⟩)]) ∧ w' = w.alloc (.cells #[v] 59) := by
  obtain ⟨a, l, c, rfl⟩ := hv
  refine callsIn_of_wp Try.func41 rfl hF ?_ hro
  simp only [Try.ntmps41, List.size_toArray, List.length_cons, List.length_nil, Nat.reduceAdd, Nat.reduceSub, Array.replicate_succ, Array.replicate_zero, List.push_toArray, List.append_toArray, List.nil_append, List.cons_append]
  gi_wp2
  go_ret
  exact ⟨rfl, rfl⟩
end Go.Proofs.Ytagnpahkhaighaa
