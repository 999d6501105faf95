/- The walk of the law over both functions VecOK: it answers true at every vector. -/
import Derived.Test.YthkopbkceeggjabVecOKs
import Derived.Test.YthkopbkceeggjabFrame
import Derived.Deep.RegionHeld2
namespace Go.Proofs.Ythkopbkceeggjab
open Go.RowKit
set_option linter.unusedVariables false

set_option maxHeartbeats 1000000 in
theorem lawVecOK_walk (ao : Option Addr) (len cap : Nat) (zs : List Int) (w : World) (hrow : IsRow .i64 w ao len cap zs) :
    Calls Try.prog 5 #[.agg #[.slice ao len cap]] w fun e w' => e = .returned (.bool true) ∧ Below w.heap.size w w' := by
  obtain ⟨hr, hlen⟩ := hrow.rd
  have hmax : len ≤ maxLen := by
    obtain ⟨_, cap', e, h1, h2, _⟩ := hr
    simp only [Value.slice.injEq, List.length_map, hlen] at e h1
    omega
  have hsz := fun w => szVector_any ao len cap 1048576 (by omega) hmax w
  generalize zs.take len = xs at hr hlen
  clear hrow
  subst hlen
  by_cases h : xs.length ≤ 1048576
  · rw [if_pos h] at hsz
    have hlx : xs.length ≤ 1048576 := by omega
    have h1 : ¬ ((1048576 - xs.length : Nat) : Int) < 0 := by omega
    have hB := Below.refl (w.alloc (.cells #[.slice ao xs.length cap] 38)).heap.size (w.alloc (.cells #[.slice ao xs.length cap] 38))
    have hr0 : Rd w.heap.size (w.alloc (.cells #[.slice ao xs.length cap] 38)) (.slice ao xs.length cap) (xs.map (Value.int .i64)) := hr.alloc _ (Nat.le_refl _)
    go_enter Try.func5, Try.ntmps5
    go_wp2_with fail
    refine (hsz _).mono ?_
    rintro e w1 ⟨rfl, hb1⟩
    replace hB := below_seq hB hb1
    have hr1 := hr0.belowW hB (by simp)
    have c1 := cell_made1 hB
    clear hsz hb1
    go_wp2_with fail
    refine (toVector_any w.heap.size _ _ xs hlx (old_le hB) hr1).mono ?_
    rintro e w2 ⟨a2, k2, rfl, ho2, hb2⟩
    replace hB := below_seq hB hb2
    have hr2 := hr0.belowW hB (by simp)
    have c2 := cell_made1 hB
    clear hr1 c1 hb2
    go_wp2_with fail
    refine (specVecOK_any _ _ _ xs (Nat.le_refl _) ho2.rd).mono ?_
    rintro e w3 ⟨rfl, hb3⟩
    replace hB := below_seq hB hb3
    have hr3 := hr0.belowW hB (by simp)
    have c3 := cell_made1 hB
    clear hr2 c2 hb3 ho2
    go_wp2_with fail
    refine (toVector_any w.heap.size _ _ xs hlx (old_le hB) hr3).mono ?_
    rintro e w4 ⟨a4, k4, rfl, ho4, hb4⟩
    have hs3 := hB.size
    replace hB := below_seq hB hb4
    have hr4 := hr0.belowW hB (by simp)
    have c4 := cell_made1 hB
    clear hr3 c3 hb4
    go_wp2_with fail
    refine (implVecOK_any _ _ _ xs (by simp) (ho4.rd.alloc _ (Nat.le_refl _))).mono ?_
    rintro e w5 ⟨rfl, hK⟩
    replace hB := (below_seq (below_seq hB (below_alloc _ _)) hK).drew
    replace hK := hK.drew
    have c5 := cell_made1 hB
    have x5 := cell_made1 hK
    clear hr4 c4
    go_wp2_with fail
    go_region_held2 (fun w' => w'.cell? ⟨w.heap.size, 0, none⟩ = some (.slice ao xs.length cap) ∧ w'.cell? ⟨w4.heap.size, 0, none⟩ = some (.slice a4 xs.length k4)) (exact ⟨cell_made1 hB, cell_made1 hK⟩) (first | (go_at_call 20; refine (toVector_any w.heap.size _ _ xs hlx (old_le hB) (hr0.belowW hB (by simp))).mono ?_; rintro e w6 ⟨a6, k6, rfl, ho6, hb6⟩; replace hB := below_seq hB hb6; replace hK := below_seq hK hb6) | (go_at_call 22; refine (eqVector_same w6.heap.size w6.heap.size _ _ _ xs (by omega) (Nat.le_refl _) (Nat.le_refl _) (ho4.below (below_seq (below_alloc _ _) hK) (Nat.le_refl _)).rd ho6.rd).mono ?_; rintro e w7 ⟨rfl, hb7⟩; replace hB := below_seq hB hb7; replace hK := below_seq hK hb7))
    go_wp2_with fail
    go_ret
    exact ⟨rfl, below_seq (below_alloc _ _) hB⟩
  · rw [if_neg h] at hsz
    go_enter Try.func5, Try.ntmps5
    go_wp2_with ((go_at_call 18; refine (hsz _).mono ?_; rintro e w1 ⟨rfl, hb1⟩))
    go_ret
    exact ⟨rfl, below_seq (below_alloc _ _) hb1⟩
end Go.Proofs.Ythkopbkceeggjab
