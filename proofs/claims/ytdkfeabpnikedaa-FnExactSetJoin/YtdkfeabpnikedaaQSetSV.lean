/- The laws' functions over values of the kind Set, in the words of what a call owns. -/
import Derived.Test.YtdkfeabpnikedaaQEntCellsToSvBase
namespace Go.Proofs.Ytdkfeabpnikedaa
open Go.RowKit
set_option linter.unusedVariables false

theorem toSet_sv (C D : Nat) (w : World) (va vb : Value) (xs : List Int) (ls : List En) (hl : xs.length ≤ 1048576) (hl' : ls.length ≤ 1048576) (hC : C ≤ w.heap.size) (hD : D ≤ w.heap.size) (ha : Rd C w va (xs.map (Value.int .i64))) (hb : RdE D w vb ls) :
    Calls Try.prog 19 #[.agg #[va, vb]] w fun e w' => ∃ a n c b m d, e = .returned (.agg #[.slice a n c, .slice b m d]) ∧ Sv w' w.heap.size w'.heap.size (.slice a n c) (.slice b m d) xs ls ∧ Below w.heap.size w w' := by
  refine (toSet_any C D w va vb xs ls hl hl' hC hD ha hb).mono ?_
  rintro e w' ⟨a, c, g, rfl, ho, hR, hap, hB⟩
  refine ⟨a, _, c, _, _, _, rfl, ⟨3, ho, hR.own rfl, fun i j hi hj e => hap i hi (by subst e; simpa [Value.ownBlock] using hj.symm), ho.blk, fun i hi => ?_⟩, hB⟩
  have : g = i := by simpa [Value.ownBlock] using hi
  subst this
  exact hR.lt.2

theorem eqSet_sv (w : World) (B E B' E' : Nat) (va vb va' vb' : Value) (xs : List Int) (ls : List En) (hl : xs.length ≤ 140737488355328) (hl' : ls.length ≤ 140737488355328) (h : Sv w B E va vb xs ls) (h' : Sv w B' E' va' vb' xs ls) :
    Calls Try.prog 21 #[.agg #[va, vb], .agg #[va', vb']] w fun e w' => e = .returned (.bool true) ∧ Below w.heap.size w w' :=
  eqSet_same _ _ _ _ w va vb va' vb' xs ls hl hl' (Nat.le_refl _) (Nat.le_refl _) (Nat.le_refl _) (Nat.le_refl _) h.rd h.rdE h'.rd h'.rdE

set_option maxHeartbeats 1000000 in
set_option maxRecDepth 100000 in
theorem markSet_sv (B E : Nat) (w : World) (a : Option Addr) (n c : Nat) (b : Option Addr) (m d : Nat) (xs : List Int) (ls : List En) (hB : B ≤ w.heap.size) (hE : E ≤ w.heap.size) (hm : xs.length ≤ 1048576) (hn : ls.length ≤ 1048576) (h : Sv w B E (.slice a n c) (.slice b m d) xs ls) :
    Calls Try.prog 22 #[.agg #[.slice a n c, .slice b m d], .int .i64 1] w fun e w' => e = .returned (.int .i64 ((1 + xs.length + 3 * ls.length : Nat) : Int)) ∧ Sv w' B E (.slice a n c) (.slice b m d) (marksI 1 xs.length) (marksE (1 + xs.length) ls.length) ∧ Away w w' B E ∧ Below B w w' := by
  obtain ⟨T, ho, hR, hap, hu, hv⟩ := h
  have hB0 := below_alloc w (.cells #[.slice a n c, .slice b m d] 43)
  have ho1 : Own T (w.alloc (.cells #[.slice a n c, .slice b m d] 43)) B (.slice a n c) (xs.map (Value.int .i64)) := World.ownsRow.alloc ho _
  have hR1 : OwnE (w.alloc (.cells #[.slice a n c, .slice b m d] 43)) B (.slice b m d) ls := World.ownsRow.alloc hR _
  have hD := Dy.made w (.slice a n c) (.slice b m d) 43
  have hblk := ho.blk
  have hlo := ho.lt
  have hlE := hR.lt
  go_enter Try.func22, Try.ntmps22
  go_wp2_with fail
  refine (markVector_any B _ a n c _ 1 (by simp; omega) (by omega) (by simp; omega) ho1).mono ?_
  rintro e w1 ⟨rfl, ho2, hb1, hg1⟩
  rw [List.length_map] at ho2 ⊢
  have hne : (Value.slice a n c).ownBlock ≠ some w.heap.size := fun e => by have := hblk _ e; omega
  have c0 := hg1.cell (a := ⟨w.heap.size, 0, none⟩) hD.1.1 (fun e => hne e.symm)
  have c1 := hg1.cell (a := ⟨w.heap.size, 1, none⟩) hD.1.2 (fun e => hne e.symm)
  have hR2 : OwnE w1 B (.slice b m d) ls := World.ownsRow.kept hR1 hg1 (by
    cases hv : (Value.slice b m d).ownBlock with
    | none => exact .inl rfl
    | some j => exact .inr (fun e => hap j j e.symm hv rfl))
  clear ho1 hR1 hD
  go_wp2_with fail
  refine (markEntryS_own B w1 _ ls (1 + xs.length) hn (by omega) hR2).mono ?_
  rintro e w2 ⟨rfl, hR3, hg2⟩
  have ho3 : Own T w2 B (.slice a n c) ((marksI 1 xs.length).map (Value.int .i64)) := World.ownsRow.kept ho2 hg2 (by
    cases hv : (Value.slice a n c).ownBlock with
    | none => exact .inl rfl
    | some j => exact .inr (fun e => hap j j hv e.symm rfl))
  have hz1 := hg1.size
  rw [World.size_alloc] at hz1
  have hz2 := hg2.size
  have hfin : ∀ i, i < w.heap.size → i < B ∨ E ≤ i → w2.heap[i]? = w.heap[i]? := fun i hi h1 => ((hg2.block i (by omega) (fun e => by have := hlE i e.symm; have := hv i e.symm; omega)).trans (hg1.block i (by rw [World.size_alloc]; omega) (fun e => by have := hlo i e.symm; have := hu i e.symm; omega))).trans (hB0.block i hi)
  have hBel : Below B w w2 := ((hB0.mono hB).grown hg1 (by rw [World.size_alloc]; omega) (fun k hk => hlo k hk)).grown hg2 (by omega) (fun k hk => (hlE k hk).1)
  clear hR2 c0 c1
  go_wp2_with fail
  go_ret
  exact ⟨rfl, ⟨T, ho3, hR3, hap, hu, hv⟩, ⟨by omega, hfin⟩, hBel⟩

set_option maxHeartbeats 1000000 in
set_option maxRecDepth 100000 in
theorem heldSet_sv (B E : Nat) (w : World) (a : Option Addr) (n c : Nat) (b : Option Addr) (m d : Nat) (k j : Nat) (hk : k ≤ 1048576) (hj : j ≤ 1048576) (h : Sv w B E (.slice a n c) (.slice b m d) (marksI 1 k) (marksE (1 + k) j)) :
    Calls Try.prog 23 #[.agg #[.slice a n c, .slice b m d], .int .i64 1] w fun e w' => e = .returned (.int .i64 ((1 + k + 3 * j : Nat) : Int)) ∧ Below w.heap.size w w' := by
  have h1 : ¬ ((1 + k : Nat) : Int) < 0 := by omega
  have h2 : ¬ ((1 + k + 3 * j : Nat) : Int) < 0 := by omega
  have hB0 := below_alloc w (.cells #[.slice a n c, .slice b m d] 43)
  have hr := heldVector_same w.heap.size _ (.slice a n c) 1 k (by omega) (by omega) (by simp) (h.rd.alloc (.cells #[.slice a n c, .slice b m d] 43) (Nat.le_refl _))
  have hE := h.rdE
  go_enter Try.func23, Try.ntmps23
  go_wp2_with fail
  refine hr.mono ?_
  rintro e w1 ⟨rfl, hb1⟩
  obtain ⟨c0, c1⟩ := two_cells hb1
  have hB1 := below_seq hB0 hb1
  go_wp2_with fail
  refine (heldEntryS_same w.heap.size w1 _ (1 + k) j hj (by omega) hB1.size (hE.below hB1)).mono ?_
  rintro e w2 ⟨rfl, hb2⟩
  go_wp2_with fail
  go_ret
  exact ⟨rfl, below_seq hB1 hb2⟩

end Go.Proofs.Ytdkfeabpnikedaa
