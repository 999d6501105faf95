/- The laws' own functions over registers of several: the copy of one that came in, that two alike are alike, their size, and the writing over. The laws' functions over values of the kind Multi, in the words of what a call owns. -/
import Derived.Test.YtdkfeabpnikedaaQEntCellsToSvBase
import Derived.Test.YtdkfeabpnikedaaQInfoToVecCopy
namespace Go.Proofs.Ytdkfeabpnikedaa
open Go.RowKit
set_option linter.unusedVariables false

set_option maxHeartbeats 2000000 in
set_option maxRecDepth 100000 in
theorem toMulti_any (C D : Nat) (w : World) (va vb : Value) (xs : List Int) (ls : List En) (hl : xs.length ≤ 1048576) (hl' : ls.length ≤ 1048576) (hC : C ≤ w.heap.size) (hD : D ≤ w.heap.size) (ha : Rd C w va (xs.map (Value.int .i64))) (hb : RdE D w vb ls) :
    Calls Try.prog 10 #[.agg #[va, vb]] w fun e w' => ∃ a c g, e = .returned (.agg #[.slice a xs.length c, .slice (some ⟨g, 0, none⟩) ls.length ls.length]) ∧ Own 3 w' w.heap.size (.slice a xs.length c) (xs.map (Value.int .i64)) ∧ RowE w' w.heap.size g ls.length ls ls.length ∧ (∀ k, (Value.slice a xs.length c).ownBlock = some k → k ≠ g) ∧ Below w.heap.size w w' := by
  have hB := Below.refl (((w.alloc (.cells #[va, vb] 27)).alloc (.cells #[.slice none 0 0, .slice none 0 0] 32)).alloc (.cells #[.slice none 0 0, .slice none 0 0] 32)).heap.size (((w.alloc (.cells #[va, vb] 27)).alloc (.cells #[.slice none 0 0, .slice none 0 0] 32)).alloc (.cells #[.slice none 0 0, .slice none 0 0] 32))
  have HA : Hid (Dy (((w.alloc (.cells #[va, vb] 27)).alloc (.cells #[.slice none 0 0, .slice none 0 0] 32)).alloc (.cells #[.slice none 0 0, .slice none 0 0] 32)) w.heap.size va vb) := ((Dy.made w va vb 27).on (below_alloc _ _)).on (below_alloc _ _)
  have HU : Hid (Dy (((w.alloc (.cells #[va, vb] 27)).alloc (.cells #[.slice none 0 0, .slice none 0 0] 32)).alloc (.cells #[.slice none 0 0, .slice none 0 0] 32)) (w.heap.size + 1) (.slice none 0 0) (.slice none 0 0)) := by
    have := (Dy.made (w.alloc (.cells #[va, vb] 27)) (.slice none 0 0) (.slice none 0 0) 32).on (below_alloc _ (.cells #[.slice none 0 0, .slice none 0 0] 32))
    rw [World.size_alloc] at this
    exact this
  have HV : Hid (Dy (((w.alloc (.cells #[va, vb] 27)).alloc (.cells #[.slice none 0 0, .slice none 0 0] 32)).alloc (.cells #[.slice none 0 0, .slice none 0 0] 32)) (w.heap.size + 1 + 1) (.slice none 0 0) (.slice none 0 0)) := by
    have := Dy.made ((w.alloc (.cells #[va, vb] 27)).alloc (.cells #[.slice none 0 0, .slice none 0 0] 32)) (.slice none 0 0) (.slice none 0 0) 32
    rw [World.size_alloc, World.size_alloc] at this
    exact this
  have hB0 : Below w.heap.size w (((w.alloc (.cells #[va, vb] 27)).alloc (.cells #[.slice none 0 0, .slice none 0 0] 32)).alloc (.cells #[.slice none 0 0, .slice none 0 0] 32)) := below_then (below_then (below_alloc _ _) _) _
  go_enter Try.func10, Try.ntmps10
  go_wp2_with fail
  refine (toVector_any C _ va xs hl (Nat.le_trans hC hB0.size) (ha.belowW hB0 hC)).mono ?_
  rintro e w1 ⟨a1, c1, rfl, ho1, hb1⟩
  have hB1 := below_seq hB0 hb1
  replace HA : Hid (Dy w1 w.heap.size va vb) := HA.out.on hb1
  replace HU : Hid (Dy w1 (w.heap.size + 1) _ _) := HU.out.on hb1
  replace HV : Hid (Dy w1 (w.heap.size + 1 + 1) _ _) := HV.out.on hb1
  replace HA : Hid (Dy (w1.setCell ⟨w.heap.size + 1 + 1, 0, none⟩ (.slice a1 xs.length c1)) w.heap.size va vb) := HA.out.aside (by omega) _ _
  replace HU : Hid (Dy (w1.setCell ⟨w.heap.size + 1 + 1, 0, none⟩ (.slice a1 xs.length c1)) (w.heap.size + 1) _ _) := HU.out.aside (by omega) _ _
  obtain ⟨⟨v0, v1⟩, hf⟩ := HV.out
  have f0 := hf 0
  replace HV : Hid (Dy (w1.setCell ⟨w.heap.size + 1 + 1, 0, none⟩ (.slice a1 xs.length c1)) (w.heap.size + 1 + 1) (.slice a1 xs.length c1) (.slice none 0 0)) := HV.out.set0 _
  have hP3 : w.heap.size + 1 + 1 + 1 ≤ (w1.setCell ⟨w.heap.size + 1 + 1, 0, none⟩ (.slice a1 xs.length c1)).heap.size := HV.out.lt
  have hBs : Below w.heap.size w (w1.setCell ⟨w.heap.size + 1 + 1, 0, none⟩ (.slice a1 xs.length c1)) := hB1.setCell (by show w.heap.size ≤ w.heap.size + 1 + 1; omega) _
  have ho1s : Own 3 (w1.setCell ⟨w.heap.size + 1 + 1, 0, none⟩ (.slice a1 xs.length c1)) (w.heap.size + 1 + 1 + 1) (.slice a1 xs.length c1) (xs.map (Value.int .i64)) := by
    simp only [World.size_alloc] at ho1
    exact Own.set ho1 _ (by omega)
  clear hb1 hB1 ho1 hB
  obtain ⟨⟨x0, x1⟩, _⟩ := HA.out
  go_wp2_with fail
  refine (toEntryS_any D _ vb ls hl' (Nat.le_trans hD hBs.size) (hb.below (hBs.mono hD))).mono ?_
  clear v0 v1 hf f0
  rintro e w2 ⟨rfl, ho2, hb2⟩
  generalize hg2 : (w1.setCell ⟨w.heap.size + 1 + 1, 0, none⟩ (.slice a1 xs.length c1)).heap.size = g2 at ho2 ⊢
  have hB2 := below_seq hBs hb2
  replace HU : Hid (Dy w2 (w.heap.size + 1) _ _) := HU.out.on hb2
  replace HV : Hid (Dy w2 (w.heap.size + 1 + 1) _ _) := HV.out.on hb2
  have ho1t := ho1s.below hb2 (Nat.le_refl _)
  have hsb : w.heap.size + 1 + 1 + 1 ≤ (w1.setCell ⟨w.heap.size + 1 + 1, 0, none⟩ (.slice a1 xs.length c1)).heap.size := hP3
  have hap : ∀ k, (Value.slice a1 xs.length c1).ownBlock = some k → k ≠ g2 := fun i hi => by
    have := ho1s.blk i hi
    omega
  have ho2t := ho2
  clear ho1s ho2 hP3 hb2 hBs x0 x1 HA
  obtain ⟨⟨v0, v1⟩, hf⟩ := HV.out
  have f1 := hf 1
  have hV3 := HV.out.set1 (.slice (some ⟨g2, 0, none⟩) ls.length ls.length)
  have q0 := hV3.1.1
  have q1 := hV3.1.2
  have hU3 := HU.out.aside (m := w.heap.size + 1 + 1) (by omega) 1 (.slice (some ⟨g2, 0, none⟩) ls.length ls.length)
  have hU4 := (Dy.set1 (Dy.set0 hU3 (.slice a1 xs.length c1)) (.slice (some ⟨g2, 0, none⟩) ls.length ls.length)).1
  clear hU3
  obtain ⟨⟨u0, u1⟩, hg⟩ := HU.out
  have g0 := hg 0
  have g1 := hg 1
  have k1 := Own.setK (Own.setK (Own.setK ho1t (P := w.heap.size + 1 + 1) 1 (.slice (some ⟨g2, 0, none⟩) ls.length ls.length) (by omega)) (P := w.heap.size + 1) 0 (.slice a1 xs.length c1) (by omega)) (P := w.heap.size + 1) 1 (.slice (some ⟨g2, 0, none⟩) ls.length ls.length) (by omega)
  have k2 := ((ho2t.kept (grownBy_set w2 (w.heap.size + 1 + 1) 1 (.slice (some ⟨g2, 0, none⟩) ls.length ls.length)) (fun e => by simp at e; omega)).kept (grownBy_set _ (w.heap.size + 1) 0 (.slice a1 xs.length c1)) (fun e => by simp at e; omega)).kept (grownBy_set _ (w.heap.size + 1) 1 (.slice (some ⟨g2, 0, none⟩) ls.length ls.length)) (fun e => by simp at e; omega)
  have hB4 := ((hB2.setCell (p := ⟨w.heap.size + 1 + 1, 1, none⟩) (by show w.heap.size ≤ w.heap.size + 1 + 1; omega) (.slice (some ⟨g2, 0, none⟩) ls.length ls.length)).setCell (p := ⟨w.heap.size + 1, 0, none⟩) (by show w.heap.size ≤ w.heap.size + 1; omega) (.slice a1 xs.length c1)).setCell (p := ⟨w.heap.size + 1, 1, none⟩) (by show w.heap.size ≤ w.heap.size + 1; omega) (.slice (some ⟨g2, 0, none⟩) ls.length ls.length)
  clear ho1t ho2t hB2 HU HV hV3
  go_wp2_with fail
  refine bodyPost_ret (v := .agg #[.slice a1 xs.length c1, .slice (some ⟨g2, 0, none⟩) ls.length ls.length]) ?_ rfl ⟨_, _, _, rfl, k1.mono (by omega), k2.mono (by omega), hap, hB4⟩
  simp [results, Try.results10, go_sem, hU4.1, hU4.2]

set_option maxHeartbeats 1000000 in
set_option maxRecDepth 100000 in
theorem eqMulti_same (C C' D D' : Nat) (w : World) (va vb va' vb' : Value) (xs : List Int) (ls : List En) (hl : xs.length ≤ 140737488355328) (hl' : ls.length ≤ 140737488355328) (hC : C ≤ w.heap.size) (hC' : C' ≤ w.heap.size) (hD : D ≤ w.heap.size) (hD' : D' ≤ w.heap.size)
    (ha : Rd C w va (xs.map (Value.int .i64))) (hb : RdE D w vb ls) (ha' : Rd C' w va' (xs.map (Value.int .i64))) (hb' : RdE D' w vb' ls) :
    Calls Try.prog 12 #[.agg #[va, vb], .agg #[va', vb']] w fun e w' => e = .returned (.bool true) ∧ Below w.heap.size w w' := by
  have hB0 : Below w.heap.size w ((w.alloc (.cells #[va, vb] 32)).alloc (.cells #[va', vb'] 32)) := below_then (below_alloc _ _) _
  have HA : Hid (Dy ((w.alloc (.cells #[va, vb] 32)).alloc (.cells #[va', vb'] 32)) w.heap.size va vb) := (Dy.made w va vb 32).on (below_alloc _ _)
  have HU : Hid (Dy ((w.alloc (.cells #[va, vb] 32)).alloc (.cells #[va', vb'] 32)) (w.heap.size + 1) va' vb') := by
    have := Dy.made (w.alloc (.cells #[va, vb] 32)) va' vb' 32
    rw [World.size_alloc] at this
    exact this
  go_enter Try.func12, Try.ntmps12
  go_wp2_with fail
  refine (eqVector_same C C' _ va va' xs hl (Nat.le_trans hC hB0.size) (Nat.le_trans hC' hB0.size) (ha.belowW hB0 hC) (ha'.belowW hB0 hC')).mono ?_
  rintro e w1 ⟨rfl, hb1⟩
  have hB1 := below_seq hB0 hb1
  replace HA : Hid (Dy w1 w.heap.size va vb) := HA.out.on hb1
  replace HU : Hid (Dy w1 (w.heap.size + 1) va' vb') := HU.out.on hb1
  obtain ⟨⟨x0, x1⟩, _⟩ := HA.out
  obtain ⟨⟨y0, y1⟩, _⟩ := HU.out
  go_wp2_with fail
  refine (eqEntryS_same D D' _ vb vb' ls hl' (Nat.le_trans hD hB1.size) (Nat.le_trans hD' hB1.size) (hb.below (hB1.mono hD)) (hb'.below (hB1.mono hD'))).mono ?_
  rintro e w2 ⟨rfl, hb2⟩
  go_wp2_with fail
  go_ret
  exact ⟨rfl, below_seq hB1 hb2⟩

set_option maxHeartbeats 1000000 in
set_option maxRecDepth 100000 in
theorem markMulti_any (B D : Nat) (w : World) (a : Option Addr) (n c g m : Nat) (cs : List Value) (ls : List En) (hB : B ≤ w.heap.size) (hm : cs.length ≤ 1048576) (hn : m ≤ 1048576) (ho : Own 3 w B (.slice a n c) cs) (hR : RowE w D g m ls m) (hap : ∀ k, (Value.slice a n c).ownBlock = some k → k ≠ g) :
    Calls Try.prog 13 #[.agg #[.slice a n c, .slice (some ⟨g, 0, none⟩) m m], .int .i64 1] w fun e w' => (∃ x : Int, e = .returned (.int .i64 x) ∧ 0 ≤ x) ∧ (∀ i, i < w.heap.size → (Value.slice a n c).ownBlock ≠ some i → i ≠ g → w'.heap[i]? = w.heap[i]?) ∧ w.heap.size ≤ w'.heap.size ∧ (∀ C, C ≤ B → C ≤ g → C ≤ w.heap.size → Below C w w') := by
  have hB0 := below_alloc w (.cells #[.slice a n c, .slice (some ⟨g, 0, none⟩) m m] 32)
  have ho1 : Own 3 (w.alloc (.cells #[.slice a n c, .slice (some ⟨g, 0, none⟩) m m] 32)) B (.slice a n c) cs := World.ownsRow.alloc ho _
  have hR1 := hR.on hB0
  have hD := Dy.made w (.slice a n c) (.slice (some ⟨g, 0, none⟩) m m) 32
  have hblk := ho.blk
  have hlg := hR.lt.2
  go_enter Try.func13, Try.ntmps13
  go_wp2_with fail
  refine (markVector_any B _ a n c cs 1 (by omega) (by omega) (by simp; omega) ho1).mono ?_
  rintro e w1 ⟨rfl, _, hb1, hg1⟩
  have hne : (Value.slice a n c).ownBlock ≠ some w.heap.size := fun e => by have := hblk _ e; omega
  have c0 := hg1.cell (a := ⟨w.heap.size, 0, none⟩) hD.1.1 (fun e => hne e.symm)
  have c1 := hg1.cell (a := ⟨w.heap.size, 1, none⟩) hD.1.2 (fun e => hne e.symm)
  have hR2 := hR1.kept hg1 (fun e => hap g e rfl)
  clear ho1 hR1 hD
  go_wp2_with fail
  refine (markEntryS_any D g m w1 ls m (1 + cs.length) hn (by omega) hR2).mono ?_
  rintro e w2 ⟨rfl, _, hg2⟩
  have hz1 := hg1.size
  rw [World.size_alloc] at hz1
  have hz2 := hg2.size
  have hfin : ∀ i, i < w.heap.size → (Value.slice a n c).ownBlock ≠ some i → i ≠ g → w2.heap[i]? = w.heap[i]? := fun i hi h1 h2 => ((hg2.block i (by omega) (fun e => h2 (by simpa using e))).trans (hg1.block i (by rw [World.size_alloc]; omega) (fun e => h1 e.symm))).trans (hB0.block i hi)
  have hBel : ∀ C, C ≤ B → C ≤ g → C ≤ w.heap.size → Below C w w2 := fun C h1 h2 h3 => ((hB0.mono h3).grown hg1 (by rw [World.size_alloc]; omega) (fun k hk => by have := ho.lt k hk; omega)).grown hg2 (by omega) (fun k hk => by cases hk; exact h2)
  clear hR2 c0 c1
  go_wp2_with fail
  go_ret
  exact ⟨⟨_, rfl, by omega⟩, hfin, by omega, hBel⟩

set_option maxHeartbeats 1000000 in
set_option maxRecDepth 100000 in
theorem szMulti_any (C : Nat) (w : World) (ao : Option Addr) (n cap : Nat) (ve : Value) (ls : List En) (hn : n ≤ maxLen) (hl : ls.length ≤ 9223372036854775807) (hs : ∀ k, (enAt ls k).2.2.size ≤ 9223372036854775807) (hC : C ≤ w.heap.size) (hr : RdE C w ve ls) :
    Calls Try.prog 8 #[.agg #[.slice ao n cap, ve], .int .i64 1048576] w fun e w' => (∃ x : Int, e = .returned (.int .i64 x) ∧ (0 ≤ x → n ≤ 1048576 ∧ ls.length ≤ 1048576)) ∧ Below w.heap.size w w' := by
  have hB0 := below_alloc w (.cells #[.slice ao n cap, ve] 27)
  have hD := Dy.made w (.slice ao n cap) ve 27
  have hve := hr
  obtain ⟨eo, ec, rfl, _⟩ := hve
  go_enter Try.func8, Try.ntmps8
  go_wp2_with fail
  refine (szVector_any ao n cap 1048576 (by omega) hn _).mono ?_
  by_cases h : n ≤ 1048576
  · rw [if_pos h]
    rintro e w1 ⟨rfl, hb1⟩
    have hB1 := below_seq hB0 hb1
    obtain ⟨⟨c0, c1⟩, _⟩ := Dy.on hD hb1
    obtain ⟨l, hl0⟩ : ∃ l : Int, ((1048576 - n : Nat) : Int) = l := ⟨_, rfl⟩
    have hl1 : 0 ≤ l := by omega
    have hl2 : l ≤ 1048576 := by omega
    rw [hl0]
    have hd : decide (l < 0) = false := by simp; omega
    clear hl0
    go_wp2_with fail
    refine (szEntryS_any C w1 _ ls l hl1 hl2 hl hs (Nat.le_trans hC hB1.size) (hr.below (hB1.mono hC))).mono ?_
    rintro e w2 ⟨⟨x, rfl, x0, x1, hx⟩, hb2⟩
    by_cases hx0 : x < 0
    · go_wp2_with fail
      go_ret
      exact ⟨⟨_, rfl, by omega⟩, below_seq hB1 hb2⟩
    · have hx2 : decide (x < 0) = false := by simp; omega
      have hx1 := hx (by omega)
      have hx3 : 0 ≤ x := by omega
      clear hx0
      go_wp2_with fail
      go_ret
      exact ⟨⟨_, rfl, fun _ => ⟨h, hx1⟩⟩, below_seq hB1 hb2⟩
  · rw [if_neg h]
    rintro e w1 ⟨rfl, hb1⟩
    go_wp2_with fail
    go_ret
    exact ⟨⟨_, rfl, by omega⟩, below_seq hB0 hb1⟩

end Go.Proofs.Ytdkfeabpnikedaa

namespace Go.Proofs.Ytdkfeabpnikedaa
open Go.RowKit
set_option linter.unusedVariables false

theorem toMulti_sv (C D : Nat) (w : World) (va vb : Value) (xs : List Int) (ls : List En) (hl : xs.length ≤ 1048576) (hl' : ls.length ≤ 1048576) (hC : C ≤ w.heap.size) (hD : D ≤ w.heap.size) (ha : Rd C w va (xs.map (Value.int .i64))) (hb : RdE D w vb ls) :
    Calls Try.prog 10 #[.agg #[va, vb]] w fun e w' => ∃ a n c b m d, e = .returned (.agg #[.slice a n c, .slice b m d]) ∧ Sv w' w.heap.size w'.heap.size (.slice a n c) (.slice b m d) xs ls ∧ Below w.heap.size w w' := by
  refine (toMulti_any C D w va vb xs ls hl hl' hC hD ha hb).mono ?_
  rintro e w' ⟨a, c, g, rfl, ho, hR, hap, hB⟩
  refine ⟨a, _, c, _, _, _, rfl, ⟨3, ho, hR.own rfl, fun i j hi hj e => hap i hi (by subst e; simpa [Value.ownBlock] using hj.symm), ho.blk, fun i hi => ?_⟩, hB⟩
  have : g = i := by simpa [Value.ownBlock] using hi
  subst this
  exact hR.lt.2

theorem eqMulti_sv (w : World) (B E B' E' : Nat) (va vb va' vb' : Value) (xs : List Int) (ls : List En) (hl : xs.length ≤ 140737488355328) (hl' : ls.length ≤ 140737488355328) (h : Sv w B E va vb xs ls) (h' : Sv w B' E' va' vb' xs ls) :
    Calls Try.prog 12 #[.agg #[va, vb], .agg #[va', vb']] w fun e w' => e = .returned (.bool true) ∧ Below w.heap.size w w' :=
  eqMulti_same _ _ _ _ w va vb va' vb' xs ls hl hl' (Nat.le_refl _) (Nat.le_refl _) (Nat.le_refl _) (Nat.le_refl _) h.rd h.rdE h'.rd h'.rdE

set_option maxHeartbeats 1000000 in
set_option maxRecDepth 100000 in
theorem markMulti_sv (B E : Nat) (w : World) (a : Option Addr) (n c : Nat) (b : Option Addr) (m d : Nat) (xs : List Int) (ls : List En) (hB : B ≤ w.heap.size) (hE : E ≤ w.heap.size) (hm : xs.length ≤ 1048576) (hn : ls.length ≤ 1048576) (h : Sv w B E (.slice a n c) (.slice b m d) xs ls) :
    Calls Try.prog 13 #[.agg #[.slice a n c, .slice b m d], .int .i64 1] w fun e w' => e = .returned (.int .i64 ((1 + xs.length + 3 * ls.length : Nat) : Int)) ∧ Sv w' B E (.slice a n c) (.slice b m d) (marksI 1 xs.length) (marksE (1 + xs.length) ls.length) ∧ Away w w' B E ∧ Below B w w' := by
  obtain ⟨T, ho, hR, hap, hu, hv⟩ := h
  have hB0 := below_alloc w (.cells #[.slice a n c, .slice b m d] 32)
  have ho1 : Own T (w.alloc (.cells #[.slice a n c, .slice b m d] 32)) B (.slice a n c) (xs.map (Value.int .i64)) := World.ownsRow.alloc ho _
  have hR1 : OwnE (w.alloc (.cells #[.slice a n c, .slice b m d] 32)) B (.slice b m d) ls := World.ownsRow.alloc hR _
  have hD := Dy.made w (.slice a n c) (.slice b m d) 32
  have hblk := ho.blk
  have hlo := ho.lt
  have hlE := hR.lt
  go_enter Try.func13, Try.ntmps13
  go_wp2_with fail
  refine (markVector_any B _ a n c _ 1 (by simp; omega) (by omega) (by simp; omega) ho1).mono ?_
  rintro e w1 ⟨rfl, ho2, hb1, hg1⟩
  rw [List.length_map] at ho2 ⊢
  have hne : (Value.slice a n c).ownBlock ≠ some w.heap.size := fun e => by have := hblk _ e; omega
  have c0 := hg1.cell (a := ⟨w.heap.size, 0, none⟩) hD.1.1 (fun e => hne e.symm)
  have c1 := hg1.cell (a := ⟨w.heap.size, 1, none⟩) hD.1.2 (fun e => hne e.symm)
  have hR2 : OwnE w1 B (.slice b m d) ls := World.ownsRow.kept hR1 hg1 (by
    cases hv : (Value.slice b m d).ownBlock with
    | none => exact .inl rfl
    | some j => exact .inr (fun e => hap j j e.symm hv rfl))
  clear ho1 hR1 hD
  go_wp2_with fail
  refine (markEntryS_own B w1 _ ls (1 + xs.length) hn (by omega) hR2).mono ?_
  rintro e w2 ⟨rfl, hR3, hg2⟩
  have ho3 : Own T w2 B (.slice a n c) ((marksI 1 xs.length).map (Value.int .i64)) := World.ownsRow.kept ho2 hg2 (by
    cases hv : (Value.slice a n c).ownBlock with
    | none => exact .inl rfl
    | some j => exact .inr (fun e => hap j j hv e.symm rfl))
  have hz1 := hg1.size
  rw [World.size_alloc] at hz1
  have hz2 := hg2.size
  have hfin : ∀ i, i < w.heap.size → i < B ∨ E ≤ i → w2.heap[i]? = w.heap[i]? := fun i hi h1 => ((hg2.block i (by omega) (fun e => by have := hlE i e.symm; have := hv i e.symm; omega)).trans (hg1.block i (by rw [World.size_alloc]; omega) (fun e => by have := hlo i e.symm; have := hu i e.symm; omega))).trans (hB0.block i hi)
  have hBel : Below B w w2 := ((hB0.mono hB).grown hg1 (by rw [World.size_alloc]; omega) (fun k hk => hlo k hk)).grown hg2 (by omega) (fun k hk => (hlE k hk).1)
  clear hR2 c0 c1
  go_wp2_with fail
  go_ret
  exact ⟨rfl, ⟨T, ho3, hR3, hap, hu, hv⟩, ⟨by omega, hfin⟩, hBel⟩

set_option maxHeartbeats 1000000 in
set_option maxRecDepth 100000 in
theorem heldMulti_sv (B E : Nat) (w : World) (a : Option Addr) (n c : Nat) (b : Option Addr) (m d : Nat) (k j : Nat) (hk : k ≤ 1048576) (hj : j ≤ 1048576) (h : Sv w B E (.slice a n c) (.slice b m d) (marksI 1 k) (marksE (1 + k) j)) :
    Calls Try.prog 14 #[.agg #[.slice a n c, .slice b m d], .int .i64 1] w fun e w' => e = .returned (.int .i64 ((1 + k + 3 * j : Nat) : Int)) ∧ Below w.heap.size w w' := by
  have h1 : ¬ ((1 + k : Nat) : Int) < 0 := by omega
  have h2 : ¬ ((1 + k + 3 * j : Nat) : Int) < 0 := by omega
  have hB0 := below_alloc w (.cells #[.slice a n c, .slice b m d] 32)
  have hr := heldVector_same w.heap.size _ (.slice a n c) 1 k (by omega) (by omega) (by simp) (h.rd.alloc (.cells #[.slice a n c, .slice b m d] 32) (Nat.le_refl _))
  have hE := h.rdE
  go_enter Try.func14, Try.ntmps14
  go_wp2_with fail
  refine hr.mono ?_
  rintro e w1 ⟨rfl, hb1⟩
  obtain ⟨c0, c1⟩ := two_cells hb1
  have hB1 := below_seq hB0 hb1
  go_wp2_with fail
  refine (heldEntryS_same w.heap.size w1 _ (1 + k) j hj (by omega) hB1.size (hE.below hB1)).mono ?_
  rintro e w2 ⟨rfl, hb2⟩
  go_wp2_with fail
  go_ret
  exact ⟨rfl, below_seq hB1 hb2⟩

end Go.Proofs.Ytdkfeabpnikedaa
