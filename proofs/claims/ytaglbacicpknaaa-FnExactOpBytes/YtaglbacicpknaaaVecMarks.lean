/- What the laws' markVector and heldVector do; cells that are kept. -/
import Derived.Test.YtaglbacicpknaaaVecBase
namespace Go.Proofs.Ytaglbacicpknaaa
open Go.RowKit
set_option linter.unusedVariables false

/-- Cells that are known, and may be written. -/
def Env (w : World) (L : List (Nat × Value)) : Prop := ∀ p ∈ L, w.cell? ⟨p.1, 0, none⟩ = some p.2 ∧ w.frozen? ⟨p.1, 0, none⟩ = false
theorem cell_ltV {w : World} {a : Addr} {v : Value} (h : w.cell? a = some v) : a.block < w.heap.size := by
  unfold World.cell? at h
  split at h
  · rename_i hb
    exact (Array.getElem?_eq_some_iff.1 hb).1
  all_goals simp at h
theorem Env.lt {w : World} {L : List (Nat × Value)} (h : Env w L) {p : Nat × Value} (hp : p ∈ L) : p.1 < w.heap.size := cell_ltV (h p hp).1
theorem Env.below {w w' : World} {L : List (Nat × Value)} (h : Env w L) (hb : Below w.heap.size w w') : Env w' L := fun p hp =>
  ⟨(hb.cell (p := ⟨p.1, 0, none⟩) (h.lt hp)).trans (h p hp).1, (hb.frozen (p := ⟨p.1, 0, none⟩) (h.lt hp)).trans (h p hp).2⟩
theorem Env.alloc {w : World} {L : List (Nat × Value)} (h : Env w L) (o : Obj) : Env (w.alloc o) L := h.below (below_alloc w o)
theorem Env.add {w : World} {L : List (Nat × Value)} (h : Env w L) (v : Value) (T : TypeId) : Env (w.alloc (.cells #[v] T)) ((w.heap.size, v) :: L) := fun p hp => by
  rcases List.mem_cons.1 hp with rfl | hp
  · exact ⟨cell_made1 (Below.refl _ _), frozen_made (Below.refl _ _) 0⟩
  · exact h.alloc _ p hp
theorem Env.mark {w w' : World} {L : List (Nat × Value)} {row : Option Nat} (h : Env w L) (hg : w.grownBy w' row) (hr : ∀ k, row = some k → ∀ p ∈ L, p.1 ≠ k) : Env w' L := fun p hp =>
  ⟨hg.cell (a := ⟨p.1, 0, none⟩) (h p hp).1 (fun e => hr p.1 e.symm p hp rfl), by
    rw [World.frozen?_of_block (w := w) (hg.block p.1 (h.lt hp) (fun e => hr p.1 e.symm p hp rfl))]
    exact (h p hp).2⟩
theorem Env.set {w : World} {L : List (Nat × Value)} {P : Nat} {u : Value} (h : Env w ((P, u) :: L)) (v : Value) (hn : ∀ p ∈ L, p.1 ≠ P) : Env (w.setCell ⟨P, 0, none⟩ v) ((P, v) :: L) := fun p hp => by
  rcases List.mem_cons.1 hp with rfl | hp
  · exact ⟨World.cell?_setCell_same w _ _ (h (P, u) (by simp)).1, by rw [World.frozen?_setCell]; exact (h (P, u) (by simp)).2⟩
  · have := h p (List.mem_cons_of_mem _ hp)
    refine ⟨?_, by rw [World.frozen?_setCell]; exact this.2⟩
    rw [World.cell?_of_block (w := w) (heap_setCell_other w ⟨P, 0, none⟩ p.1 v (hn p hp))]
    exact this.1
theorem Own.set {e : TypeId} {w : World} {B P : Nat} {v : Value} {cs : List Value} (h : Own e w B v cs) (u : Value) (hp : P < B) : Own e (w.setCell ⟨P, 0, none⟩ u) B v cs := h.apart (grownBy_set w P 0 u) (fun k hk => by cases hk; exact hp)

set_option maxHeartbeats 400000 in
theorem markVector_any {e : TypeId} (B : Nat) (w : World) (a : Option Addr) (n c : Nat) (cs : List Value) (q : Nat) (hm : cs.length ≤ 140737488355328) (hq : q ≤ 140737488355328) (hB : B ≤ w.heap.size)
    (ho : Own e w B (.slice a n c) cs) :
    Calls Try.prog 22 #[.agg #[.slice a n c], .int .i64 (q : Int)] w fun e0 w' => e0 = .returned (.int .i64 ((q + cs.length : Nat) : Int)) ∧ Own e w' B (.slice a n c) ((marksI q cs.length).map (Value.int .i64)) ∧ Below B w w' ∧ w.grownBy w' (Value.slice a n c).ownBlock := by
  have ho1 : Own e (w.alloc (.cells #[.slice a n c] 33)) B (.slice a n c) cs := World.ownsRow.alloc ho _
  go_enter Try.func22, Try.ntmps22
  go_wp2_with fail
  refine (markIntS_any B _ _ cs q hm hq ho1).mono ?_
  rintro e0 w1 ⟨rfl, ho2, hb2, hg2⟩
  go_wp2_with fail
  go_ret
  exact ⟨rfl, ho2, ((Below.refl B w).alloc hB _).trans hb2, grownBy_trans (World.grownBy_alloc _ _ _) hg2⟩

end Go.Proofs.Ytaglbacicpknaaa
