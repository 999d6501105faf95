/- Counters: what the laws' own helpers do with them. -/
import Derived.Test.YtonpeiknoifdbaaVecMarks
namespace Go.Proofs.Ytonpeiknoifdbaa
open Go.RowKit
set_option linter.unusedVariables false

theorem two_cells {w w1 : World} {x y : Value} {T : TypeId} (h : Below (w.alloc (.cells #[x, y] T)).heap.size (w.alloc (.cells #[x, y] T)) w1) :
    w1.cell? ⟨w.heap.size, 0, none⟩ = some x ∧ w1.cell? ⟨w.heap.size, 1, none⟩ = some y :=
  ⟨cell_made h (k := 0) rfl, cell_made h (k := 1) rfl⟩

/-- What is left of l behind two lengths; -1 if they are more. -/
def left2 (l m n : Nat) : Int := if m ≤ l then (if n ≤ l - m then ((l - m - n : Nat) : Int) else -1) else -1

set_option maxHeartbeats 400000 in
theorem szCounter_any (ao : Option Addr) (m ca : Nat) (bo : Option Addr) (n cb l : Nat) (hl : l ≤ 1048576) (hm : m ≤ maxLen) (hn : n ≤ maxLen) (w : World) :
    Calls Try.prog 23 #[.agg #[.slice ao m ca, .slice bo n cb], .int .i64 (l : Int)] w fun e w' => e = .returned (.int .i64 (left2 l m n)) ∧ Below w.heap.size w w' := by
  have hS := fun w => szVector_any ao m ca l hl hm w
  have hB := Below.refl (w.alloc (.cells #[.slice ao m ca, .slice bo n cb] 50)).heap.size (w.alloc (.cells #[.slice ao m ca, .slice bo n cb] 50))
  unfold left2
  by_cases h : m ≤ l
  · rw [if_pos h] at hS ⊢
    have hT := fun w => szVector_any bo n cb (l - m) (by omega) hn w
    have h1 : ¬ ((l - m : Nat) : Int) < 0 := by omega
    by_cases h' : n ≤ l - m
    · rw [if_pos h'] at hT ⊢
      have h2 : ¬ ((l - m - n : Nat) : Int) < 0 := by omega
      go_enter Try.func23, Try.ntmps23
      go_wp2_with fail
      refine (hS _).mono ?_
      rintro e w1 ⟨rfl, hb⟩
      replace hB := below_seq hB hb
      clear hb
      obtain ⟨c0, c1⟩ := two_cells hB
      go_wp2_with fail
      refine (hT _).mono ?_
      rintro e w2 ⟨rfl, hb⟩
      replace hB := below_seq hB hb
      go_wp2_with fail
      go_ret
      exact ⟨rfl, below_seq (below_alloc _ _) hB⟩
    · rw [if_neg h'] at hT ⊢
      go_enter Try.func23, Try.ntmps23
      go_wp2_with fail
      refine (hS _).mono ?_
      rintro e w1 ⟨rfl, hb⟩
      replace hB := below_seq hB hb
      clear hb
      obtain ⟨c0, c1⟩ := two_cells hB
      go_wp2_with fail
      refine (hT _).mono ?_
      rintro e w2 ⟨rfl, hb⟩
      replace hB := below_seq hB hb
      go_wp2_with fail
      go_ret
      exact ⟨rfl, below_seq (below_alloc _ _) hB⟩
  · rw [if_neg h] at hS ⊢
    go_enter Try.func23, Try.ntmps23
    go_wp2_with fail
    refine (hS _).mono ?_
    rintro e w1 ⟨rfl, hb⟩
    replace hB := below_seq hB hb
    go_wp2_with fail
    go_ret
    exact ⟨rfl, below_seq (below_alloc _ _) hB⟩

/-- A block of two cells that can be written. -/
def Dy (w : World) (n : Nat) (x y : Value) : Prop := (w.cell? ⟨n, 0, none⟩ = some x ∧ w.cell? ⟨n, 1, none⟩ = some y) ∧ ∀ k, w.frozen? ⟨n, k, none⟩ = false
theorem Dy.lt {w : World} {n : Nat} {x y : Value} (h : Dy w n x y) : n < w.heap.size := cell_ltV h.1.1
theorem Dy.on {w w1 : World} {n : Nat} {x y : Value} (h : Dy w n x y) (hb : Below w.heap.size w w1) : Dy w1 n x y :=
  ⟨⟨(hb.cell (p := ⟨n, 0, none⟩) h.lt).trans h.1.1, (hb.cell (p := ⟨n, 1, none⟩) h.lt).trans h.1.2⟩, fun k => (hb.frozen (p := ⟨n, k, none⟩) h.lt).trans (h.2 k)⟩
theorem Dy.made (w : World) (x y : Value) (T : TypeId) : Dy (w.alloc (.cells #[x, y] T)) w.heap.size x y := ⟨two_cells (Below.refl _ _), frozen_made (Below.refl _ _)⟩
theorem Dy.set0 {w : World} {n : Nat} {x y : Value} (h : Dy w n x y) (x' : Value) : Dy (w.setCell ⟨n, 0, none⟩ x') n x' y :=
  ⟨⟨World.cell?_setCell_same _ _ _ h.1.1, (World.cell?_setCells_out n [x'] 0 w _ (fun _ => by simp)).trans h.1.2⟩, fun k => (World.frozen?_setCells n [x'] 0 w _).trans (h.2 k)⟩
theorem Dy.set1 {w : World} {n : Nat} {x y : Value} (h : Dy w n x y) (y' : Value) : Dy (w.setCell ⟨n, 1, none⟩ y') n x y' :=
  ⟨⟨(World.cell?_setCells_out n [y'] 1 w _ (fun _ => by simp)).trans h.1.1, World.cell?_setCell_same _ _ _ h.1.2⟩, fun k => (World.frozen?_setCells n [y'] 1 w _).trans (h.2 k)⟩
theorem Dy.aside {w : World} {n m : Nat} {x y : Value} (h : Dy w n x y) (hn : n ≠ m) (j : Nat) (u : Value) : Dy (w.setCell ⟨m, j, none⟩ u) n x y :=
  ⟨⟨(World.cell?_setCells_out m [u] j w _ (fun e => absurd e hn)).trans h.1.1, (World.cell?_setCells_out m [u] j w _ (fun e => absurd e hn)).trans h.1.2⟩, fun k => (World.frozen?_setCells m [u] j w _).trans (h.2 k)⟩

/-- Two rows that are not the same block. -/
def Apart (u v : Value) : Prop := ∀ i j, u.ownBlock = some i → v.ownBlock = some j → i ≠ j
theorem Own.setK {e : TypeId} {w : World} {B P : Nat} {v : Value} {cs : List Value} (h : Own e w B v cs) (k : Nat) (u : Value) (hp : P < B) : Own e (w.setCell ⟨P, k, none⟩ u) B v cs := h.apart (grownBy_set w P k u) (fun k hk => by cases hk; exact hp)

set_option maxHeartbeats 2000000 in
set_option maxRecDepth 100000 in
theorem toCounter_ap (C D : Nat) (w : World) (va vb : Value) (xs ys : List Int) (hl : xs.length ≤ 1048576) (hl' : ys.length ≤ 1048576) (hC : C ≤ w.heap.size) (hD : D ≤ w.heap.size) (ha : Rd C w va (xs.map (Value.int .i64))) (hb : Rd D w vb (ys.map (Value.int .i64))) :
    Calls Try.prog 25 #[.agg #[va, vb]] w fun e w' => ∃ a c b d, e = .returned (.agg #[.slice a xs.length c, .slice b ys.length d]) ∧ Own 3 w' w.heap.size (.slice a xs.length c) (xs.map (Value.int .i64)) ∧ Own 3 w' w.heap.size (.slice b ys.length d) (ys.map (Value.int .i64)) ∧ Apart (.slice a xs.length c) (.slice b ys.length d) ∧ Below w.heap.size w w' := by
  have hB := Below.refl (((w.alloc (.cells #[va, vb] 50)).alloc (.cells #[.slice none 0 0, .slice none 0 0] 55)).alloc (.cells #[.slice none 0 0, .slice none 0 0] 55)).heap.size (((w.alloc (.cells #[va, vb] 50)).alloc (.cells #[.slice none 0 0, .slice none 0 0] 55)).alloc (.cells #[.slice none 0 0, .slice none 0 0] 55))
  have HA : Hid (Dy (((w.alloc (.cells #[va, vb] 50)).alloc (.cells #[.slice none 0 0, .slice none 0 0] 55)).alloc (.cells #[.slice none 0 0, .slice none 0 0] 55)) w.heap.size va vb) := ((Dy.made w va vb 50).on (below_alloc _ _)).on (below_alloc _ _)
  have HU : Hid (Dy (((w.alloc (.cells #[va, vb] 50)).alloc (.cells #[.slice none 0 0, .slice none 0 0] 55)).alloc (.cells #[.slice none 0 0, .slice none 0 0] 55)) (w.heap.size + 1) (.slice none 0 0) (.slice none 0 0)) := by
    have := (Dy.made (w.alloc (.cells #[va, vb] 50)) (.slice none 0 0) (.slice none 0 0) 55).on (below_alloc _ (.cells #[.slice none 0 0, .slice none 0 0] 55))
    rw [World.size_alloc] at this
    exact this
  have HV : Hid (Dy (((w.alloc (.cells #[va, vb] 50)).alloc (.cells #[.slice none 0 0, .slice none 0 0] 55)).alloc (.cells #[.slice none 0 0, .slice none 0 0] 55)) (w.heap.size + 1 + 1) (.slice none 0 0) (.slice none 0 0)) := by
    have := Dy.made ((w.alloc (.cells #[va, vb] 50)).alloc (.cells #[.slice none 0 0, .slice none 0 0] 55)) (.slice none 0 0) (.slice none 0 0) 55
    rw [World.size_alloc, World.size_alloc] at this
    exact this
  have hB0 : Below w.heap.size w (((w.alloc (.cells #[va, vb] 50)).alloc (.cells #[.slice none 0 0, .slice none 0 0] 55)).alloc (.cells #[.slice none 0 0, .slice none 0 0] 55)) := below_then (below_then (below_alloc _ _) _) _
  go_enter Try.func25, Try.ntmps25
  go_wp2_with fail
  refine (toVector_any C _ va xs hl (Nat.le_trans hC hB0.size) (ha.belowW hB0 hC)).mono ?_
  rintro e w1 ⟨a1, c1, rfl, ho1, hb1⟩
  have hB1 := below_seq hB0 hb1
  replace HA : Hid (Dy w1 w.heap.size va vb) := HA.out.on hb1
  replace HU : Hid (Dy w1 (w.heap.size + 1) _ _) := HU.out.on hb1
  replace HV : Hid (Dy w1 (w.heap.size + 1 + 1) _ _) := HV.out.on hb1
  replace HA : Hid (Dy (w1.setCell ⟨w.heap.size + 1 + 1, 0, none⟩ (.slice a1 xs.length c1)) w.heap.size va vb) := HA.out.aside (by omega) _ _
  replace HU : Hid (Dy (w1.setCell ⟨w.heap.size + 1 + 1, 0, none⟩ (.slice a1 xs.length c1)) (w.heap.size + 1) _ _) := HU.out.aside (by omega) _ _
  obtain ⟨⟨v0, v1⟩, hf⟩ := HV.out
  have f0 := hf 0
  replace HV : Hid (Dy (w1.setCell ⟨w.heap.size + 1 + 1, 0, none⟩ (.slice a1 xs.length c1)) (w.heap.size + 1 + 1) (.slice a1 xs.length c1) (.slice none 0 0)) := HV.out.set0 _
  have hP3 : w.heap.size + 1 + 1 + 1 ≤ (w1.setCell ⟨w.heap.size + 1 + 1, 0, none⟩ (.slice a1 xs.length c1)).heap.size := HV.out.lt
  have hBs : Below w.heap.size w (w1.setCell ⟨w.heap.size + 1 + 1, 0, none⟩ (.slice a1 xs.length c1)) := hB1.setCell (by show w.heap.size ≤ w.heap.size + 1 + 1; omega) _
  have ho1s : Own 3 (w1.setCell ⟨w.heap.size + 1 + 1, 0, none⟩ (.slice a1 xs.length c1)) (w.heap.size + 1 + 1 + 1) (.slice a1 xs.length c1) (xs.map (Value.int .i64)) := by
    simp only [World.size_alloc] at ho1
    exact Own.set ho1 _ (by omega)
  clear hb1 hB1 ho1 hB
  obtain ⟨⟨x0, x1⟩, _⟩ := HA.out
  go_wp2_with fail
  refine (toVector_any D _ vb ys hl' (Nat.le_trans hD hBs.size) (hb.belowW hBs hD)).mono ?_
  clear v0 v1 hf f0
  rintro e w2 ⟨a2, c2, rfl, ho2, hb2⟩
  have hB2 := below_seq hBs hb2
  replace HU : Hid (Dy w2 (w.heap.size + 1) _ _) := HU.out.on hb2
  replace HV : Hid (Dy w2 (w.heap.size + 1 + 1) _ _) := HV.out.on hb2
  have ho1t := ho1s.below hb2 (Nat.le_refl _)
  have hsb : w.heap.size + 1 + 1 + 1 ≤ (w1.setCell ⟨w.heap.size + 1 + 1, 0, none⟩ (.slice a1 xs.length c1)).heap.size := hP3
  have hap : Apart (.slice a1 xs.length c1) (.slice a2 ys.length c2) := fun i j hi hj => by
    have := ho1s.blk i hi
    have := ho2.lt j hj
    omega
  have ho2t := ho2.mono hsb
  clear ho1s ho2 hsb hP3 hb2 hBs x0 x1 HA
  obtain ⟨⟨v0, v1⟩, hf⟩ := HV.out
  have f1 := hf 1
  have hV3 := HV.out.set1 (.slice a2 ys.length c2)
  have q0 := hV3.1.1
  have q1 := hV3.1.2
  have hU3 := HU.out.aside (m := w.heap.size + 1 + 1) (by omega) 1 (.slice a2 ys.length c2)
  have hU4 := (Dy.set1 (Dy.set0 hU3 (.slice a1 xs.length c1)) (.slice a2 ys.length c2)).1
  clear hU3
  obtain ⟨⟨u0, u1⟩, hg⟩ := HU.out
  have g0 := hg 0
  have g1 := hg 1
  have k1 := Own.setK (Own.setK (Own.setK ho1t (P := w.heap.size + 1 + 1) 1 (.slice a2 ys.length c2) (by omega)) (P := w.heap.size + 1) 0 (.slice a1 xs.length c1) (by omega)) (P := w.heap.size + 1) 1 (.slice a2 ys.length c2) (by omega)
  have k2 := Own.setK (Own.setK (Own.setK ho2t (P := w.heap.size + 1 + 1) 1 (.slice a2 ys.length c2) (by omega)) (P := w.heap.size + 1) 0 (.slice a1 xs.length c1) (by omega)) (P := w.heap.size + 1) 1 (.slice a2 ys.length c2) (by omega)
  have hB4 := ((hB2.setCell (p := ⟨w.heap.size + 1 + 1, 1, none⟩) (by show w.heap.size ≤ w.heap.size + 1 + 1; omega) (.slice a2 ys.length c2)).setCell (p := ⟨w.heap.size + 1, 0, none⟩) (by show w.heap.size ≤ w.heap.size + 1; omega) (.slice a1 xs.length c1)).setCell (p := ⟨w.heap.size + 1, 1, none⟩) (by show w.heap.size ≤ w.heap.size + 1; omega) (.slice a2 ys.length c2)
  clear ho1t ho2t hB2 HU HV hV3
  go_wp2_with fail
  refine bodyPost_ret (v := .agg #[.slice a1 xs.length c1, .slice a2 ys.length c2]) ?_ rfl ⟨_, _, _, _, rfl, k1.mono (by omega), k2.mono (by omega), hap, hB4⟩
  simp [results, Try.results25, go_sem, hU4.1, hU4.2]

theorem toCounter_any (C D : Nat) (w : World) (va vb : Value) (xs ys : List Int) (hl : xs.length ≤ 1048576) (hl' : ys.length ≤ 1048576) (hC : C ≤ w.heap.size) (hD : D ≤ w.heap.size) (ha : Rd C w va (xs.map (Value.int .i64))) (hb : Rd D w vb (ys.map (Value.int .i64))) :
    Calls Try.prog 25 #[.agg #[va, vb]] w fun e w' => ∃ a c b d, e = .returned (.agg #[.slice a xs.length c, .slice b ys.length d]) ∧ Own 3 w' w.heap.size (.slice a xs.length c) (xs.map (Value.int .i64)) ∧ Own 3 w' w.heap.size (.slice b ys.length d) (ys.map (Value.int .i64)) ∧ Below w.heap.size w w' :=
  (toCounter_ap C D w va vb xs ys hl hl' hC hD ha hb).mono fun e w' ⟨a, c, b, d, h1, h2, h3, _, h5⟩ => ⟨a, c, b, d, h1, h2, h3, h5⟩

set_option maxHeartbeats 1000000 in
set_option maxRecDepth 100000 in
theorem eqCounter_same (C C' D D' : Nat) (w : World) (va vb va' vb' : Value) (xs ys : List Int) (hl : xs.length ≤ 140737488355328) (hl' : ys.length ≤ 140737488355328) (hC : C ≤ w.heap.size) (hC' : C' ≤ w.heap.size) (hD : D ≤ w.heap.size) (hD' : D' ≤ w.heap.size)
    (ha : Rd C w va (xs.map (Value.int .i64))) (hb : Rd D w vb (ys.map (Value.int .i64))) (ha' : Rd C' w va' (xs.map (Value.int .i64))) (hb' : Rd D' w vb' (ys.map (Value.int .i64))) :
    Calls Try.prog 27 #[.agg #[va, vb], .agg #[va', vb']] w fun e w' => e = .returned (.bool true) ∧ Below w.heap.size w w' := by
  have hB0 : Below w.heap.size w ((w.alloc (.cells #[va, vb] 55)).alloc (.cells #[va', vb'] 55)) := below_then (below_alloc _ _) _
  have HA : Hid (Dy ((w.alloc (.cells #[va, vb] 55)).alloc (.cells #[va', vb'] 55)) w.heap.size va vb) := (Dy.made w va vb 55).on (below_alloc _ _)
  have HU : Hid (Dy ((w.alloc (.cells #[va, vb] 55)).alloc (.cells #[va', vb'] 55)) (w.heap.size + 1) va' vb') := by
    have := Dy.made (w.alloc (.cells #[va, vb] 55)) va' vb' 55
    rw [World.size_alloc] at this
    exact this
  go_enter Try.func27, Try.ntmps27
  go_wp2_with fail
  refine (eqVector_same C C' _ va va' xs hl (Nat.le_trans hC hB0.size) (Nat.le_trans hC' hB0.size) (ha.belowW hB0 hC) (ha'.belowW hB0 hC')).mono ?_
  rintro e w1 ⟨rfl, hb1⟩
  have hB1 := below_seq hB0 hb1
  replace HA : Hid (Dy w1 w.heap.size va vb) := HA.out.on hb1
  replace HU : Hid (Dy w1 (w.heap.size + 1) va' vb') := HU.out.on hb1
  obtain ⟨⟨x0, x1⟩, _⟩ := HA.out
  obtain ⟨⟨y0, y1⟩, _⟩ := HU.out
  go_wp2_with fail
  refine (eqVector_same D D' _ vb vb' ys hl' (Nat.le_trans hD hB1.size) (Nat.le_trans hD' hB1.size) (hb.belowW hB1 hD) (hb'.belowW hB1 hD')).mono ?_
  rintro e w2 ⟨rfl, hb2⟩
  go_wp2_with fail
  go_ret
  exact ⟨rfl, below_seq hB1 hb2⟩
end Go.Proofs.Ytonpeiknoifdbaa
