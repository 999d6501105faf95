/- What the laws' markCounter and heldCounter do; what stays beside two rows. -/
import Derived.Test.YtonpeiknoifdbaaCtrOf
namespace Go.Proofs.Ytonpeiknoifdbaa
open Go.RowKit
set_option linter.unusedVariables false

/-- All blocks but those of two rows are as they were. -/
def Keeps (w w' : World) (u v : Value) : Prop := w.heap.size ≤ w'.heap.size ∧ ∀ i, i < w.heap.size → u.ownBlock ≠ some i → v.ownBlock ≠ some i → w'.heap[i]? = w.heap[i]?
theorem Keeps.dy {w w' : World} {u v x y : Value} {n : Nat} (h : Keeps w w' u v) (hd : Dy w n x y) (hu : u.ownBlock ≠ some n) (hv : v.ownBlock ≠ some n) : Dy w' n x y := by
  have hb := h.2 n hd.lt hu hv
  exact ⟨⟨(World.cell?_of_block (a := ⟨n, 0, none⟩) hb).trans hd.1.1, (World.cell?_of_block (a := ⟨n, 1, none⟩) hb).trans hd.1.2⟩, fun k => (World.frozen?_of_block (a := ⟨n, k, none⟩) hb).trans (hd.2 k)⟩
theorem Keeps.own {T : TypeId} {w w' : World} {u v z : Value} {B : Nat} {cs : List Value} (h : Keeps w w' u v) (ho : Own T w B z cs) (hu : Apart u z) (hv : Apart v z) : Own T w' B z cs := by
  obtain ⟨h1, h2⟩ := ho
  refine ⟨h1, ?_⟩
  rcases h2 with h2 | ⟨g, cap, cur, rfl, hb, hh, r⟩
  · exact .inl h2
  · refine .inr ⟨g, cap, cur, rfl, hb, ?_, r⟩
    rw [h.2 g (Array.getElem?_eq_some_iff.1 hh).1 (fun e => hu g g e rfl rfl) (fun e => hv g g e rfl rfl)]
    exact hh

set_option maxHeartbeats 2000000 in
set_option maxRecDepth 100000 in
theorem markCounter_any {T : TypeId} (B : Nat) (w : World) (a : Option Addr) (n c : Nat) (cs : List Value) (b : Option Addr) (m d : Nat) (ds : List Value) (q : Nat) (hl : cs.length ≤ 1048576) (hl' : ds.length ≤ 1048576) (hq : q ≤ 4194304) (hB : B ≤ w.heap.size)
    (ho : Own T w B (.slice a n c) cs) (hp : Own T w B (.slice b m d) ds) (hap : Apart (.slice a n c) (.slice b m d)) :
    Calls Try.prog 30 #[.agg #[.slice a n c, .slice b m d], .int .i64 (q : Int)] w fun e w' => e = .returned (.int .i64 ((q + cs.length + ds.length : Nat) : Int)) ∧ Own T w' B (.slice a n c) ((marksI q cs.length).map (Value.int .i64)) ∧ Own T w' B (.slice b m d) ((marksI (q + cs.length) ds.length).map (Value.int .i64)) ∧ Below B w w' ∧ Keeps w w' (.slice a n c) (.slice b m d) := by
  have ho1 : Own T (w.alloc (.cells #[.slice a n c, .slice b m d] 55)) B (.slice a n c) cs := World.ownsRow.alloc ho _
  have hp1 : Own T (w.alloc (.cells #[.slice a n c, .slice b m d] 55)) B (.slice b m d) ds := World.ownsRow.alloc hp _
  have hD := Dy.made w (.slice a n c) (.slice b m d) 55
  have hka := ho.blk
  have hkb := hp.blk
  go_enter Try.func30, Try.ntmps30
  go_wp2_with fail
  refine (markVector_any B _ a n c cs q (by omega) (by omega) (by simp; omega) ho1).mono ?_
  rintro e w1 ⟨rfl, ho2, hb1, hg1⟩
  have hx : (w.alloc (.cells #[.slice a n c, .slice b m d] 55)).cell? ⟨w.heap.size, 1, none⟩ = some (.slice b m d) := hD.1.2
  have cx : w1.cell? ⟨w.heap.size, 1, none⟩ = some (.slice b m d) := hg1.cell (a := ⟨w.heap.size, 1, none⟩) hx (fun e => by have := hka w.heap.size e.symm; omega)
  have hp2 : Own T w1 B (.slice b m d) ds := World.ownsRow.kept hp1 hg1 (by
    cases hv : (Value.slice b m d).ownBlock with
    | none => exact .inl rfl
    | some j => exact .inr (fun e => hap j j e.symm hv rfl))
  have hs1 := hg1.size
  rw [World.size_alloc] at hs1
  clear hx hp1 ho1
  go_wp2_with fail
  refine (markVector_any B w1 b m d ds (q + cs.length) (by omega) (by omega) (by omega) hp2).mono ?_
  rintro e w2 ⟨rfl, hp3, hb2, hg2⟩
  have ho3 : Own T w2 B (.slice a n c) ((marksI q cs.length).map (Value.int .i64)) := World.ownsRow.kept ho2 hg2 (by
    cases hv : (Value.slice a n c).ownBlock with
    | none => exact .inl rfl
    | some j => exact .inr (fun e => hap j j hv e.symm rfl))
  go_wp2_with fail
  go_ret
  refine ⟨rfl, ho3, hp3, (((Below.refl B w).alloc hB _).trans hb1).trans hb2, ?_, fun i hi hu hv => ?_⟩
  · have := hg2.size
    omega
  · rw [hg2.block i (by omega) (Ne.symm hv), hg1.block i (by rw [World.size_alloc]; omega) (Ne.symm hu)]
    exact Below.heap_alloc w _ i hi

set_option maxHeartbeats 1000000 in
set_option maxRecDepth 100000 in
theorem heldCounter_same (C D : Nat) (w : World) (va vb : Value) (q m n : Nat) (hm : m ≤ 1048576) (hn : n ≤ 1048576) (hq : q ≤ 4194304) (hC : C ≤ w.heap.size) (hD : D ≤ w.heap.size)
    (ha : Rd C w va ((marksI q m).map (Value.int .i64))) (hb : Rd D w vb ((marksI (q + m) n).map (Value.int .i64))) :
    Calls Try.prog 31 #[.agg #[va, vb], .int .i64 (q : Int)] w fun e w' => e = .returned (.int .i64 ((q + m + n : Nat) : Int)) ∧ Below w.heap.size w w' := by
  have h1 : ¬ ((q + m : Nat) : Int) < 0 := by omega
  have h2 : ¬ ((q + m + n : Nat) : Int) < 0 := by omega
  have hB0 := below_alloc w (.cells #[va, vb] 55)
  have hr := heldVector_same C _ va q m (by omega) (by omega) (by simp; omega) (ha.alloc (.cells #[va, vb] 55) hC)
  go_enter Try.func31, Try.ntmps31
  go_wp2_with fail
  refine hr.mono ?_
  rintro e w1 ⟨rfl, hb1⟩
  obtain ⟨c0, c1⟩ := two_cells hb1
  have hB1 := below_seq hB0 hb1
  go_wp2_with fail
  refine (heldVector_same D w1 vb (q + m) n (by omega) (by omega) (Nat.le_trans hD hB1.size) (hb.belowW hB1 hD)).mono ?_
  rintro e w2 ⟨rfl, hb2⟩
  go_wp2_with fail
  go_ret
  exact ⟨rfl, below_seq hB1 hb2⟩

end Go.Proofs.Ytonpeiknoifdbaa
