/- The walk of the law over both functions StampNext: it answers true at every list of stamps and actor. -/
import Derived.Test.YthkopbkceeggjabStampNextTo
import Derived.Test.YthkopbkceeggjabStampNextSpec
namespace Go.Proofs.Ythkopbkceeggjab
open Go.RowKit
set_option linter.unusedVariables false

theorem nextS_tuple (ls : List (Int × Int)) (c : Int) : ∃ x y z : Int, nextS ls c = .tuple #[.agg #[.int .i64 x, .int .i64 y], .int .i64 z] := by
  unfold nextS
  split
  · exact ⟨_, _, _, rfl⟩
  · split
    · exact ⟨_, _, _, rfl⟩
    · exact above_tuple _ _ _

set_option maxHeartbeats 2000000 in
set_option maxRecDepth 100000 in
theorem lawStampNext_walk (ao : Option Addr) (cap : Nat) (ls : List (Int × Int)) (c : Int) (hm : ls.length ≤ maxLen) (w : World) (hr : SlIn w.heap.size w ao ls) :
    Calls Try.prog 4 #[.slice ao ls.length cap, .int .i64 c] w fun e w' => e = .returned (.bool true) ∧ Below w.heap.size w w' := by
  have hsz := fun w => szStampS_any ao ls.length cap 1048576 (by omega) hm w
  by_cases h : ls.length ≤ 1048576
  · rw [if_pos h] at hsz
    have h1 : ¬ ((1048576 - ls.length : Nat) : Int) < 0 := by omega
    have hn : ls.length < 9223372036854775807 := by omega
    obtain ⟨x, y, z, hx⟩ := nextS_tuple ls c
    have hI := fun w g hg hS => implStampNext_any (cap := ls.length) w g ls c hg hS hn
    have hP := fun w g hg hS => specStampNext_any (cap := ls.length) w g ls c hg hS hn
    have hE := fun w g g' hg hg' hS hS' => eqStampS_same w g g' ls hg hg' hS hS' hn
    have hQ := fun w => eqStamp_same x y w
    rw [hx] at hI hP
    clear hx
    go_enter Try.func4, Try.ntmps4
    go_wp2_with fail
    refine (hsz _).mono ?_
    rintro e w1 ⟨rfl, hw⟩
    obtain rfl := hw.symm
    clear hw hsz
    go_wp2_with fail
    refine (toStampS_any w.heap.size w ao cap ls h (Nat.le_refl _) hr).mono ?_
    rintro e w2 ⟨rfl, hS2, hb2, hs2⟩
    go_wp2_with fail
    refine (hP _ _ hs2 hS2).mono ?_
    rintro e w3 ⟨rfl, hb3⟩
    have hB3 := below_then (below_seq hb2 hb3) (.cells #[.int .i64 x, .int .i64 y] 25)
    have HA : Hid (StAt _ w3.heap.size x y) := StAt.made w3 x y 25
    clear hS2 hb2 hs2 hb3
    go_wp2_with fail
    refine (toStampS_any w.heap.size _ ao cap ls h hB3.size (hr.of_below hB3)).mono ?_
    rintro e w4 ⟨rfl, hS4, hb4, hs4⟩
    replace HA : Hid (StAt w4 w3.heap.size x y) := HA.out.on hb4
    have hB4 := below_seq hB3 hb4
    clear hB3 hb4
    rw [World.size_alloc] at hS4 hs4
    go_wp2_with fail
    refine (hI _ _ hs4 hS4).mono ?_
    rintro e w5 ⟨rfl, hb5⟩
    have hB5 := below_then (below_seq hB4 hb5) (.cells #[.int .i64 x, .int .i64 y] 25)
    have HB : Hid (StAt _ w5.heap.size x y) := StAt.made w5 x y 25
    replace HA : Hid (StAt (w5.alloc (.cells #[.int .i64 x, .int .i64 y] 25)) w3.heap.size x y) := (HA.out.on hb5).on (below_alloc _ _)
    have hS5 : SlS (w5.alloc (.cells #[.int .i64 x, .int .i64 y] 25)) (w3.heap.size + 1) ls := (hS4.of_below hb5 hs4).of_below (below_alloc _ _) (Nat.lt_of_lt_of_le hs4 hb5.size)
    have hs5 : w3.heap.size + 1 < (w5.alloc (.cells #[.int .i64 x, .int .i64 y] 25)).heap.size := Nat.lt_of_lt_of_le hs4 (below_then hb5 _).size
    clear hS4 hs4 hb5 hB4
    obtain ⟨a0, a1, _, _⟩ := HA.out
    go_wp2_with fail
    refine (hQ _).mono ?_
    rintro e w7 ⟨rfl, hb7⟩
    have hB7 := below_seq hB5 hb7
    have hS7 := hS5.of_below hb7 hs5
    have hs7 := Nat.lt_of_lt_of_le hs5 hb7.size
    clear a0 a1 HA HB hB5 hS5 hs5 hb7 hQ hI hP
    go_wp2_with fail
    refine (toStampS_any w.heap.size _ ao cap ls h hB7.size (hr.of_below hB7)).mono ?_
    rintro e w8 ⟨rfl, hS8, hb8, hs8⟩
    go_wp2_with fail
    refine (hE _ _ _ (Nat.lt_trans hs7 hs8) hs8 (hS7.of_below hb8 hs7) hS8).mono ?_
    rintro e w9 ⟨rfl, hb9⟩
    go_wp2_with fail
    go_ret
    exact ⟨rfl, below_seq (below_seq hB7 hb8) hb9⟩
  · rw [if_neg h] at hsz
    go_enter Try.func4, Try.ntmps4
    go_wp2_with ((go_at_call 12; refine (hsz _).mono ?_; rintro e w1 ⟨rfl, rfl⟩))
    go_ret
    exact ⟨rfl, Below.refl _ _⟩
end Go.Proofs.Ythkopbkceeggjab
