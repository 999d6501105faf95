/- The walk of the law over the two functions GetInt: it answers true whatever bytes and place it is given. -/
import Derived.Test.YthkopbkceeggjaaAttempt
import Derived.Test.YthkopbkceeggjaaCells
import Derived.Test.YthkopbkceeggjaaCopies
import Derived.Test.YthkopbkceeggjaaFrame
namespace Go.Proofs.Ythkopbkceeggjaa
open Go.RowKit
set_option linter.unusedVariables false

set_option maxHeartbeats 1000000 in
set_option maxRecDepth 100000 in
theorem lawGetInt_walk (a0 : Option Addr) (len0 cap0 : Nat) (z0 : List Int) (at0 : Int) (w : World) (h0 : IsRow .u8 w a0 len0 cap0 z0) :
    Calls Try.prog 4 #[.slice a0 len0 cap0, .int .i64 at0] w fun e w' => e = .returned (.bool true) ∧ Below w.heap.size w w' := by
  obtain ⟨hr, hlen⟩ := h0.rd
  have hx : Bytes (z0.take len0) := h0.bytes
  have hmx : len0 ≤ maxLen := by rcases h0 with ⟨_, rfl, _⟩ | ⟨_, _, h1, h2, _⟩ <;> omega
  clear h0
  unfold maxLen at hmx
  generalize z0.take len0 = xs at hr hlen hx
  subst hlen
  by_cases hl : (1048576 : Int) < (xs.length : Int)
  · go_enter Try.func4, Try.ntmps4
    go_wp2_with fail
    go_ret
    exact ⟨rfl, Below.refl _ _⟩
  · have hl' : xs.length ≤ 1048576 := by omega
    go_enter Try.func4, Try.ntmps4
    go_wp2_with fail
    refine (toByteS_any w.heap.size w _ xs hl' (Nat.le_refl _) hr).mono ?_
    rintro e w1 ⟨r1, rfl, ho1, hb1⟩
    have hz1 := hb1.size
    go_wp2_with fail
    refine (specGetInt_any _ w1 r1 xs at0 hx hl' ho1.rd).mono ?_
    rintro e w1' ⟨rfl, rfl⟩
    go_wp2_with fail
    refine (toByteS_any w.heap.size w1' _ xs hl' hz1 (hr.below hb1)).mono ?_
    rintro e w2 ⟨r2, rfl, ho2, hb2⟩
    have hz2 := hb2.size
    go_wp2_with fail
    refine (implGetInt_any _ w2 r2 xs at0 hx hl' (Nat.le_refl _) ho2.rd).mono ?_
    rintro e w3 ⟨rfl, hb3⟩
    have hz3 := hb3.size
    have hb03 : Below w.heap.size w w3 := (hb1.trans (hb2.mono hz1)).trans (hb3.mono (by omega))
    go_wp2_with fail
    refine (toByteS_any w.heap.size w3 _ xs hl' hb03.size (hr.below hb03)).mono ?_
    rintro e w4 ⟨r4, rfl, ho4, hb4⟩
    have hz4 := hb4.size
    have ro2 := ((ho2.below hb3 (Nat.le_refl _)).below hb4 (Nat.le_refl _)).rd
    go_wp2_with fail
    refine (eqByteS_same _ _ w4 r2 r4 xs (by omega) ro2 ho4.rd).mono ?_
    rintro e w5 ⟨rfl, n5, rfl⟩
    go_wp2_with fail
    go_ret
    exact ⟨rfl, below_drewN (hb03.trans (hb4.mono (by omega))) _⟩
end Go.Proofs.Ythkopbkceeggjaa
