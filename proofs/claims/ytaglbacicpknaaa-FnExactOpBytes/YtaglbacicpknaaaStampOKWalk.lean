/- What the two functions StampOK do, and the walk of the law over both: it answers true at every stamp. -/
import Derived.Test.YtaglbacicpknaaaStampBase
namespace Go.Proofs.Ytaglbacicpknaaa
open Go.RowKit
set_option linter.unusedVariables false

set_option maxHeartbeats 400000 in
theorem isActor_any (a : Int) (w : World) :
    Calls Try.prog 70 #[.int .i64 a] w fun e w' => e = .returned (.bool (decide (0 ≤ a ∧ a < 16))) ∧ w' = w := by
  by_cases h1 : 0 ≤ a
  · by_cases h2 : a < 16
    · rw [decide_eq_true (show 0 ≤ a ∧ a < 16 from ⟨h1, h2⟩)]
      go_enter Try.func70, Try.ntmps70
      go_wp2_with fail
      go_ret
      simp
    · rw [decide_eq_false (show ¬ (0 ≤ a ∧ a < 16) by omega)]
      go_enter Try.func70, Try.ntmps70
      go_wp2_with fail
      go_ret
      simp
  · rw [decide_eq_false (show ¬ (0 ≤ a ∧ a < 16) by omega)]
    go_enter Try.func70, Try.ntmps70
    go_wp2_with fail
    go_ret
    simp

set_option maxHeartbeats 400000 in
theorem specStampOK_any (t a : Int) (w : World) :
    Calls Try.prog 25 #[.agg #[.int .i64 t, .int .i64 a]] w fun e w' => e = .returned (.bool (stOK t a)) ∧ Below w.heap.size w w' := by
  have hb : Below w.heap.size w (w.alloc (.cells #[.int .i64 t, .int .i64 a] 34)) := below_alloc _ _
  obtain ⟨r, hr, hc⟩ : ∃ r, stOK t a = r ∧ ((r = false ∧ ¬ 1 ≤ t) ∨ (r = false ∧ 1 ≤ t ∧ ¬ t ≤ 1000000000000) ∨ (r = false ∧ 1 ≤ t ∧ t ≤ 1000000000000 ∧ ¬ 0 ≤ a) ∨ (r = false ∧ 1 ≤ t ∧ t ≤ 1000000000000 ∧ 0 ≤ a ∧ ¬ a < 16) ∨ (r = true ∧ 1 ≤ t ∧ t ≤ 1000000000000 ∧ 0 ≤ a ∧ a < 16)) := by
    refine ⟨_, rfl, ?_⟩
    by_cases h1 : 1 ≤ t ∧ t ≤ 1000000000000 ∧ 0 ≤ a ∧ a < 16
    · rw [stOK_yes h1.1 h1.2.1 h1.2.2.1 h1.2.2.2]; simp; omega
    · rw [stOK_no h1]; simp; omega
  rw [hr]
  clear hr
  rcases hc with ⟨rfl, h1⟩ | ⟨rfl, h1, h2⟩ | ⟨rfl, h1, h2, h3⟩ | ⟨rfl, h1, h2, h3, h4⟩ | ⟨rfl, h1, h2, h3, h4⟩
  all_goals
    go_enter Try.func25, Try.ntmps25
    go_wp2_with fail
    go_ret
    exact ⟨by simp, hb⟩

set_option maxHeartbeats 400000 in
theorem implStampOK_any (t a : Int) (w : World) :
    Calls Try.prog 49 #[.agg #[.int .i64 t, .int .i64 a]] w fun e w' => e = .returned (.bool (stOK t a)) ∧ Below w.heap.size w w' := by
  have hb : Below w.heap.size w (w.alloc (.cells #[.int .i64 t, .int .i64 a] 34)) := below_alloc _ _
  obtain ⟨r, hr, hc⟩ : ∃ r, stOK t a = r ∧ ((r = false ∧ ¬ 1 ≤ t) ∨ (r = false ∧ 1 ≤ t ∧ ¬ t ≤ 1000000000000) ∨ (r = decide (0 ≤ a ∧ a < 16) ∧ 1 ≤ t ∧ t ≤ 1000000000000)) := by
    refine ⟨_, rfl, ?_⟩
    by_cases h1 : 1 ≤ t
    · by_cases h2 : t ≤ 1000000000000
      · refine .inr (.inr ⟨?_, h1, h2⟩)
        unfold stOK
        simp [h1, h2]
      · exact .inr (.inl ⟨stOK_no (by omega), h1, h2⟩)
    · exact .inl ⟨stOK_no (by omega), h1⟩
  rw [hr]
  clear hr
  rcases hc with ⟨rfl, h1⟩ | ⟨rfl, h1, h2⟩ | ⟨rfl, h1, h2⟩
  all_goals
    go_enter Try.func49, Try.ntmps49
    go_wp2_with ((go_at_call 70; refine (isActor_any a _).mono ?_; rintro e w' ⟨rfl, rfl⟩))
    go_ret
    exact ⟨by simp, hb⟩

end Go.Proofs.Ytaglbacicpknaaa
