/- What the specification's LogAdd answers, at any arguments. -/
import Derived.Test.YtmmkmkaannlkhaaGreatDoorQSpecAdd
import Derived.Test.YtmmkmkaannlkhaaGreatDoorQSpecAddBad
import Derived.Test.YtmmkmkaannlkhaaGreatDoorQAddStepToSameSpec
namespace Go.Proofs.YtmmkmkaannlkhaaGreatDoor
open Go.RowKit
set_option linter.unusedVariables false

/-- What the specification's LogAdd answers. -/
theorem specAdd_any (C : Nat) (w : World) (v vm : Value) (L M : List Ov) (hC : C ≤ w.heap.size) (hr : RdO C w v L) (hrm : RdO C w vm M) :
    Calls Tryz.prog 45 #[v, vm] w fun e w' => ∃ r0 r1 S0 S1, e = .returned (.tuple #[r0, r1, .int .i64 (resAdd L M).1]) ∧ SameL S0 (resAdd L M).2.1 ∧ SameL S1 (resAdd L M).2.2 ∧ RdO w'.heap.size w' r0 S0 ∧ RdO w'.heap.size w' r1 S1 ∧ Below w.heap.size w w' := by
  have hn : SameL [] [] := ⟨rfl, fun k hk => absurd hk (by simp)⟩
  by_cases hlong : 1024 < M.length
  · have e : resAdd L M = (2, [], []) := by unfold resAdd; rw [if_pos hlong]
    rw [e]
    refine (specAdd_long C w v vm L M hC hr hrm hlong).mono ?_
    rintro e w' ⟨r, rfl, hR, hb⟩
    exact ⟨r, r, [], [], rfl, hn, hn, hR, hR, hb⟩
  · cases hlog : logI L with
    | false =>
      have e : resAdd L M = (1, [], []) := by unfold resAdd; rw [if_neg hlong, if_pos (.inl hlog)]
      rw [e]
      refine (specAdd_log C w v vm L M hC hr hrm hlong hlog).mono ?_
      rintro e w' ⟨r, rfl, hR, hb⟩
      exact ⟨r, r, [], [], rfl, hn, hn, hR, hR, hb⟩
    | true =>
      rcases first_bad (fun q => (ovAt M q).ok) M.length with h | ⟨f, hf, hg, hb⟩
      · exact specAdd_good C w v vm L M _ rfl hC hr hrm hlong hlog h
      · have e : resAdd L M = (1, [], []) := by
          unfold resAdd
          rw [if_neg hlong, if_pos (.inr (List.any_eq_true.2 ⟨ovAt M f, ovAt_mem hf, by unfold wrongB; rw [hb]; rfl⟩))]
        rw [e]
        refine (specAdd_op C w v vm L M hC hr hrm hlong hlog f hf hb hg).mono ?_
        rintro e w' ⟨r, rfl, hR, hb⟩
        exact ⟨r, r, [], [], rfl, hn, hn, hR, hR, hb⟩
end Go.Proofs.YtmmkmkaannlkhaaGreatDoor
