/- What GetRuns answers: plain words. -/
import Derived.Test.YtpiadcjkbbgggaaRunsGet
namespace Go.Proofs.Ytpiadcjkbbgggaa
open Go.RowKit Go.Lib
set_option linter.unusedVariables false

/-- A slice's length. -/
def lenOf : Value → Nat
  | .slice _ n _ => n
  | _ => 0
/-- Numbers that were read, ahead of those still to come. -/
def addTo (out : List Int) : Option (List Int × Nat) → Option (List Int × Nat)
  | none => none
  | some (T, q) => some (out ++ T, q)
/-- What GetRuns answers: numbers and a code. -/
def getRunsB (xs : List Int) : List Int := (getRuns xs).getD []
def getRunsC (xs : List Int) : Int := if (getRuns xs).isSome then 0 else 3
theorem getRuns_no {xs : List Int} (h : getRuns xs = none) : getRunsB xs = [] ∧ getRunsC xs = 3 := by simp [getRunsB, getRunsC, h]
theorem getRuns_yes {xs : List Int} {out : List Int} (h : getRuns xs = some out) : getRunsB xs = out ∧ getRunsC xs = 0 := by simp [getRunsB, getRunsC, h]
theorem runsL_ok {xs T : List Int} {q : Nat} (hx : Bytes xs) (h : runsL xs = some (T, q)) : T.length ≤ 4096 ∧ runsOK T = true := by
  unfold runsL at h
  cases hG : getL xs 0 with
  | none => rw [hG] at h; simp at h
  | some z =>
    obtain ⟨n, p⟩ := z
    rw [hG] at h
    simp only at h
    have o := getL_ok hx hG
    split at h
    · simp at h
    · rename_i h4
      have := parseS_ok hx _ _ _ _ _ o.2.2.2 h
      exact ⟨by omega, this.2.1⟩

end Go.Proofs.Ytpiadcjkbbgggaa
