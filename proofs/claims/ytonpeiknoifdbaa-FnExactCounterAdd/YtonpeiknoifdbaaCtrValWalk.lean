/- The walk of the law over both functions CounterValue: it answers true at every counter. -/
import Derived.Test.YtonpeiknoifdbaaCtrVal
import Derived.Test.YtonpeiknoifdbaaFrame
import Derived.Deep.RegionHeld2
namespace Go.Proofs.Ytonpeiknoifdbaa
open Go.RowKit
set_option linter.unusedVariables false

theorem cVal_tuple (xs ys : List Int) : ∃ x k, cVal xs ys = .tuple #[.int .i64 x, .int .i64 k] := by
  unfold cVal
  split
  · exact ⟨_, _, rfl⟩
  · exact ⟨_, _, rfl⟩
theorem left2_yes {l m n : Nat} (h : m + n ≤ l) : left2 l m n = ((l - m - n : Nat) : Int) := by
  unfold left2
  rw [if_pos (by omega), if_pos (by omega)]
theorem left2_no {l m n : Nat} (h : ¬ m + n ≤ l) : left2 l m n = -1 := by
  unfold left2
  split
  · rw [if_neg (by omega)]
  · rfl
theorem row_len {w : World} {ao : Option Addr} {la ca : Nat} {za : List Int} (h : IsRow .i64 w ao la ca za) : la ≤ maxLen := by
  obtain ⟨⟨_, cap', e, h1, h2, _⟩, hla⟩ := h.rd
  simp only [Value.slice.injEq, List.length_map, hla] at e h1
  omega

set_option maxHeartbeats 4000000 in
set_option maxRecDepth 100000 in
theorem lawCounterValue_walk (ao : Option Addr) (la ca : Nat) (za : List Int) (bo : Option Addr) (lb cb : Nat) (zb : List Int) (w : World) (hra : IsRow .i64 w ao la ca za) (hrb : IsRow .i64 w bo lb cb zb) :
    Calls Try.prog 5 #[.agg #[.slice ao la ca, .slice bo lb cb]] w fun e w' => e = .returned (.bool true) ∧ Below w.heap.size w w' := by
  have hma := row_len hra
  have hmb := row_len hrb
  obtain ⟨ha, hla⟩ := hra.rd
  obtain ⟨hb, hlb⟩ := hrb.rd
  generalize za.take la = xs at ha hla
  generalize zb.take lb = ys at hb hlb
  clear hra hrb
  subst hla hlb
  have hsz := fun w' => szCounter_any ao xs.length ca bo ys.length cb 1048576 (by omega) hma hmb w'
  have hB := Below.refl (w.alloc (.cells #[.slice ao xs.length ca, .slice bo ys.length cb] 50)).heap.size (w.alloc (.cells #[.slice ao xs.length ca, .slice bo ys.length cb] 50))
  by_cases h : xs.length + ys.length ≤ 1048576
  · rw [left2_yes h] at hsz
    have h1 : ¬ ((1048576 - xs.length - ys.length : Nat) : Int) < 0 := by omega
    have hlx : xs.length ≤ 1048576 := by omega
    have hly : ys.length ≤ 1048576 := by omega
    obtain ⟨x, k, hx⟩ := cVal_tuple xs ys
    go_enter Try.func5, Try.ntmps5
    go_wp2_with fail
    refine (hsz _).mono ?_
    rintro e w1 ⟨rfl, hb1⟩
    replace hB := below_seq hB hb1
    clear hsz hb1
    obtain ⟨c0, c1⟩ := two_cells hB
    have hBw := below_seq (below_alloc _ _) hB
    go_wp2_with fail
    refine (toCounter_any w.heap.size w.heap.size _ _ _ xs ys hlx hly hBw.size hBw.size (ha.belowW hBw (Nat.le_refl _)) (hb.belowW hBw (Nat.le_refl _))).mono ?_
    rintro e w2 ⟨a2, k2, b2, l2, rfl, ho2, hp2, hb2⟩
    replace hB := below_seq hB hb2
    clear c0 c1 hBw hb2
    go_wp2_with fail
    have hP := specCounterValue_any _ _ _ _ _ xs ys (Nat.le_refl _) (Nat.le_refl _) ho2.rd hp2.rd
    rw [hx] at hP
    refine hP.mono ?_
    rintro e w3 ⟨rfl, hb3⟩
    replace hB := below_seq hB hb3
    clear hb3 hP ho2 hp2
    obtain ⟨c0, c1⟩ := two_cells hB
    have hBw := below_seq (below_alloc _ _) hB
    go_wp2_with fail
    refine (toCounter_any w.heap.size w.heap.size _ _ _ xs ys hlx hly hBw.size hBw.size (ha.belowW hBw (Nat.le_refl _)) (hb.belowW hBw (Nat.le_refl _))).mono ?_
    rintro e w4 ⟨a4, k4, b4, l4, rfl, ho4, hp4, hb4⟩
    replace hB := below_seq (below_seq hB hb4) (below_alloc _ (.cells #[.slice a4 xs.length k4, .slice b4 ys.length l4] 55))
    have HX : Hid (Dy _ w4.heap.size _ _) := Dy.made w4 (.slice a4 xs.length k4) (.slice b4 ys.length l4) 55
    have ho5 : Own 3 (w4.alloc (.cells #[.slice a4 xs.length k4, .slice b4 ys.length l4] 55)) _ _ _ := World.ownsRow.alloc ho4 _
    have hp5 : Own 3 (w4.alloc (.cells #[.slice a4 xs.length k4, .slice b4 ys.length l4] 55)) _ _ _ := World.ownsRow.alloc hp4 _
    clear c0 c1 hBw hb4 ho4 hp4
    go_wp2_with fail
    have hI := implCounterValue_any _ _ _ _ _ xs ys (Nat.le_refl _) (Nat.le_refl _) ho5.rd hp5.rd
    rw [hx] at hI
    refine hI.mono ?_
    rintro e w6 ⟨rfl, hb6⟩
    replace hB := (below_seq hB hb6).drew
    replace HX : Hid (Dy w6.drew w4.heap.size _ _) := HX.out.on hb6.drew
    have ho6 : Own 3 w6.drew _ _ _ := ho5.below hb6.drew (Nat.le_refl _)
    have hp6 : Own 3 w6.drew _ _ _ := hp5.below hb6.drew (Nat.le_refl _)
    clear hI hb6 ho5 hp5
    go_wp2_with fail
    go_region_held2 (fun w' => w'.cell? ⟨w.heap.size, 0, none⟩ = some (.slice ao xs.length ca) ∧ w'.cell? ⟨w.heap.size, 1, none⟩ = some (.slice bo ys.length cb) ∧ w'.cell? ⟨w4.heap.size, 0, none⟩ = some (.slice a4 xs.length k4) ∧ w'.cell? ⟨w4.heap.size, 1, none⟩ = some (.slice b4 ys.length l4)) (exact ⟨(two_cells hB).1, (two_cells hB).2, HX.out.1.1, HX.out.1.2⟩) (first | (go_at_call 25; have hBw := below_seq (below_alloc _ _) hB; refine (toCounter_any w.heap.size w.heap.size _ _ _ xs ys hlx hly hBw.size hBw.size (ha.belowW hBw (Nat.le_refl _)) (hb.belowW hBw (Nat.le_refl _))).mono ?_; rintro e w7 ⟨a7, k7, b7, l7, rfl, ho7, hp7, hb7⟩; replace hB := below_seq hB hb7; replace HX : Hid (Dy w7 w4.heap.size (.slice a4 xs.length k4) (.slice b4 ys.length l4)) := HX.out.on hb7; replace ho6 := ho6.below hb7 (Nat.le_refl _); replace hp6 := hp6.below hb7 (Nat.le_refl _); clear hBw hb7) | (go_at_call 27; refine (eqCounter_same _ _ _ _ _ _ _ _ _ xs ys (by omega) (by omega) (Nat.le_refl _) (Nat.le_refl _) (Nat.le_refl _) (Nat.le_refl _) ho6.rd hp6.rd ho7.rd hp7.rd).mono ?_; rintro e w8 ⟨rfl, hb8⟩; replace hB := below_seq hB hb8; replace HX : Hid (Dy w8 w4.heap.size (.slice a4 xs.length k4) (.slice b4 ys.length l4)) := HX.out.on hb8; clear hb8))
    go_wp2_with fail
    go_ret
    exact ⟨rfl, below_seq (below_alloc _ _) hB⟩
  · rw [left2_no h] at hsz
    go_enter Try.func5, Try.ntmps5
    go_wp2_with ((go_at_call 23; refine (hsz _).mono ?_; rintro e w1 ⟨rfl, hb1⟩))
    go_ret
    exact ⟨rfl, below_seq (below_alloc _ _) hb1⟩
end Go.Proofs.Ytonpeiknoifdbaa
