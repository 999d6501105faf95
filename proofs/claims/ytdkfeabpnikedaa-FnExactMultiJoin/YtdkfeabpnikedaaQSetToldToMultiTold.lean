/- What told does at a map of the kind Set. What told does at a map of the kind Multi. -/
import Derived.Test.YtdkfeabpnikedaaQPartsImpl
import Derived.Test.YtdkfeabpnikedaaQEntCellsToEntHeldB
namespace Go.Proofs.Ytdkfeabpnikedaa
open Go.RowKit
set_option linter.unusedVariables false

/-- What told answers: the counts, and the entries by rising stamps; too many of them. -/
def ToSet (X : List Int) (ls : List En) (w : World) (e : Ending) (w' : World) : Prop :=
  (ls.length ≤ 256 ∧ ∃ es, es.Perm ls ∧ es.Pairwise upE ∧ SvAns X es 0 w e w') ∨ (¬ ls.length ≤ 256 ∧ SvAns [] [] 11 w e w')

set_option maxHeartbeats 2000000 in
set_option maxRecDepth 100000 in
theorem toldSet_any (N : Nat) (hSort : SortsTo N) (hN : N ≤ 1048576) (w : World) (n b : Nat) (X : List Int) (ls : List En) (hJ : Jm w n X b) (hX : X.length = 16) (hM : Mp Try.prog 58 w b (ls.map kvE)) (hl : ls.length = N ∨ ¬ ls.length ≤ 256) :
    Calls Try.prog 53 #[.pointer (some ⟨n, 0, none⟩)] w (ToSet X ls w) := by
  have hB0 := below_alloc w (.cells #[.slice none 0 0, .slice none 0 0] 43)
  have hP := parts_any N hSort hN _ n b X ls (hJ.on hB0) hX (hM.on hB0) hl
  have hD := Dy.made w (.slice none 0 0) (.slice none 0 0) 43
  go_enter Try.func53, Try.ntmps53
  go_wp2_with fail
  refine hP.mono ?_
  rintro e w1 (⟨h256, a, r, es, rfl, hp, hu, ho, hE, hr, hb⟩ | ⟨h256, rfl, hb⟩)
  · rw [World.size_alloc] at ho hE
    have hD1 := hD.on hb
    have hsz := hD1.lt
    obtain ⟨g, c, rfl, _⟩ : ∃ g c, r = .slice (some ⟨g, 0, none⟩) es.length c ∧ True := by
      rcases ownE_shape hE with ⟨rfl, _⟩ | ⟨g, c, rfl, _⟩
      · exact absurd rfl hr
      · exact ⟨g, c, rfl, trivial⟩
    have hap : Apart (.slice a 16 16) (.slice (some ⟨g, 0, none⟩) es.length c) := fun i j hi hj e => by
      rcases row_ne ho hE (by decide) with h | h
      · rw [h] at hj; cases hj
      · exact h (by rw [hi, hj, e])
    have hbo := ho.blk
    have hbe := fun i hi => (hE.lt i hi).2
    have hR := ((Dy.set1 (Dy.set0 hD1 (.slice a 16 16)) (.slice (some ⟨g, 0, none⟩) es.length c)).on (below_alloc _ (.cells #[.slice a 16 16] 29))).1
    have HR : Hid _ := hR
    obtain ⟨⟨d0, d1⟩, df⟩ := hD1
    have f0 := df 0
    have f1 := df 1
    have HF : Hid (Sv (((w1.setCell ⟨w.heap.size, 0, none⟩ (.slice a 16 16)).setCell ⟨w.heap.size, 1, none⟩ (.slice (some ⟨g, 0, none⟩) es.length c)).alloc (.cells #[.slice a 16 16] 29)) w.heap.size w1.heap.size (.slice a 16 16) (.slice (some ⟨g, 0, none⟩) es.length c) X es) :=
      Sv.alloc ⟨_, (Own.setK (Own.setK ho 0 _ (by omega)) 1 _ (by omega)).mono (by omega), (OwnE.aside (OwnE.aside hE w.heap.size (by omega) 0 _) w.heap.size (by omega) 1 _).mono (by omega), hap, hbo, hbe⟩ _
    have hBf := below_then (((below_seq hB0 hb).setCell (p := ⟨w.heap.size, 0, none⟩) (Nat.le_refl _) (.slice a 16 16)).setCell (p := ⟨w.heap.size, 1, none⟩) (Nat.le_refl _) (.slice (some ⟨g, 0, none⟩) es.length c)) (.cells #[.slice a 16 16] 29)
    clear hR hP hD ho hE hap
    go_wp2_with fail
    refine bodyPost_ret (v := .tuple #[.agg #[.slice a 16 16, .slice (some ⟨g, 0, none⟩) es.length c], .int .i64 0]) ?_ rfl (.inl ⟨h256, es, hp, hu, _, _, rfl, HF.out.mono (Nat.le_refl _) (by simp), hBf⟩)
    simp [results, Try.results53, go_sem, HR.out.1, HR.out.2]
  · have hD1 := hD.on hb
    have hsz := hD1.lt
    have hR := ((Dy.set1 (Dy.set0 hD1 (.slice none 0 0)) (.slice none 0 0)).on (below_alloc _ (.cells #[.slice none 0 0] 29))).1
    have HR : Hid _ := hR
    obtain ⟨⟨d0, d1⟩, df⟩ := hD1
    have f0 := df 0
    have f1 := df 1
    have hBf := below_then (((below_seq hB0 hb).setCell (p := ⟨w.heap.size, 0, none⟩) (Nat.le_refl _) (.slice none 0 0)).setCell (p := ⟨w.heap.size, 1, none⟩) (Nat.le_refl _) (.slice none 0 0)) (.cells #[.slice none 0 0] 29)
    clear hR hP hD
    go_wp2_with fail
    refine bodyPost_ret (v := .tuple #[.agg #[.slice none 0 0, .slice none 0 0], .int .i64 11]) ?_ rfl (.inr ⟨h256, _, _, rfl, svNone _ _ _, hBf⟩)
    simp [results, Try.results53, go_sem, HR.out.1, HR.out.2]

end Go.Proofs.Ytdkfeabpnikedaa

namespace Go.Proofs.Ytdkfeabpnikedaa
open Go.RowKit
set_option linter.unusedVariables false

/-- What told answers: the counts, and the entries by rising stamps; too many of them. -/
def ToMulti (X : List Int) (ls : List En) (w : World) (e : Ending) (w' : World) : Prop :=
  (ls.length ≤ 256 ∧ ∃ es, es.Perm ls ∧ es.Pairwise upE ∧ SvAns X es 0 w e w') ∨ (¬ ls.length ≤ 256 ∧ SvAns [] [] 11 w e w')

set_option maxHeartbeats 2000000 in
set_option maxRecDepth 100000 in
theorem toldMulti_any (N : Nat) (hSort : SortsTo N) (hN : N ≤ 1048576) (w : World) (n b : Nat) (X : List Int) (ls : List En) (hJ : Jm w n X b) (hX : X.length = 16) (hM : Mp Try.prog 58 w b (ls.map kvE)) (hl : ls.length = N ∨ ¬ ls.length ≤ 256) :
    Calls Try.prog 39 #[.pointer (some ⟨n, 0, none⟩)] w (ToMulti X ls w) := by
  have hB0 := below_alloc w (.cells #[.slice none 0 0, .slice none 0 0] 32)
  have hP := parts_any N hSort hN _ n b X ls (hJ.on hB0) hX (hM.on hB0) hl
  have hD := Dy.made w (.slice none 0 0) (.slice none 0 0) 32
  go_enter Try.func39, Try.ntmps39
  go_wp2_with fail
  refine hP.mono ?_
  rintro e w1 (⟨h256, a, r, es, rfl, hp, hu, ho, hE, hr, hb⟩ | ⟨h256, rfl, hb⟩)
  · rw [World.size_alloc] at ho hE
    have hD1 := hD.on hb
    have hsz := hD1.lt
    obtain ⟨g, c, rfl, _⟩ : ∃ g c, r = .slice (some ⟨g, 0, none⟩) es.length c ∧ True := by
      rcases ownE_shape hE with ⟨rfl, _⟩ | ⟨g, c, rfl, _⟩
      · exact absurd rfl hr
      · exact ⟨g, c, rfl, trivial⟩
    have hap : Apart (.slice a 16 16) (.slice (some ⟨g, 0, none⟩) es.length c) := fun i j hi hj e => by
      rcases row_ne ho hE (by decide) with h | h
      · rw [h] at hj; cases hj
      · exact h (by rw [hi, hj, e])
    have hbo := ho.blk
    have hbe := fun i hi => (hE.lt i hi).2
    have hR := ((Dy.set1 (Dy.set0 hD1 (.slice a 16 16)) (.slice (some ⟨g, 0, none⟩) es.length c)).on (below_alloc _ (.cells #[.slice a 16 16] 29))).1
    have HR : Hid _ := hR
    obtain ⟨⟨d0, d1⟩, df⟩ := hD1
    have f0 := df 0
    have f1 := df 1
    have HF : Hid (Sv (((w1.setCell ⟨w.heap.size, 0, none⟩ (.slice a 16 16)).setCell ⟨w.heap.size, 1, none⟩ (.slice (some ⟨g, 0, none⟩) es.length c)).alloc (.cells #[.slice a 16 16] 29)) w.heap.size w1.heap.size (.slice a 16 16) (.slice (some ⟨g, 0, none⟩) es.length c) X es) :=
      Sv.alloc ⟨_, (Own.setK (Own.setK ho 0 _ (by omega)) 1 _ (by omega)).mono (by omega), (OwnE.aside (OwnE.aside hE w.heap.size (by omega) 0 _) w.heap.size (by omega) 1 _).mono (by omega), hap, hbo, hbe⟩ _
    have hBf := below_then (((below_seq hB0 hb).setCell (p := ⟨w.heap.size, 0, none⟩) (Nat.le_refl _) (.slice a 16 16)).setCell (p := ⟨w.heap.size, 1, none⟩) (Nat.le_refl _) (.slice (some ⟨g, 0, none⟩) es.length c)) (.cells #[.slice a 16 16] 29)
    clear hR hP hD ho hE hap
    go_wp2_with fail
    refine bodyPost_ret (v := .tuple #[.agg #[.slice a 16 16, .slice (some ⟨g, 0, none⟩) es.length c], .int .i64 0]) ?_ rfl (.inl ⟨h256, es, hp, hu, _, _, rfl, HF.out.mono (Nat.le_refl _) (by simp), hBf⟩)
    simp [results, Try.results39, go_sem, HR.out.1, HR.out.2]
  · have hD1 := hD.on hb
    have hsz := hD1.lt
    have hR := ((Dy.set1 (Dy.set0 hD1 (.slice none 0 0)) (.slice none 0 0)).on (below_alloc _ (.cells #[.slice none 0 0] 29))).1
    have HR : Hid _ := hR
    obtain ⟨⟨d0, d1⟩, df⟩ := hD1
    have f0 := df 0
    have f1 := df 1
    have hBf := below_then (((below_seq hB0 hb).setCell (p := ⟨w.heap.size, 0, none⟩) (Nat.le_refl _) (.slice none 0 0)).setCell (p := ⟨w.heap.size, 1, none⟩) (Nat.le_refl _) (.slice none 0 0)) (.cells #[.slice none 0 0] 29)
    clear hR hP hD
    go_wp2_with fail
    refine bodyPost_ret (v := .tuple #[.agg #[.slice none 0 0, .slice none 0 0], .int .i64 11]) ?_ rfl (.inr ⟨h256, _, _, rfl, svNone _ _ _, hBf⟩)
    simp [results, Try.results39, go_sem, HR.out.1, HR.out.2]

end Go.Proofs.Ytdkfeabpnikedaa
