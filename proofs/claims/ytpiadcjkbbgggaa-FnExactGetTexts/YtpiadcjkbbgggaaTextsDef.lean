/- What GetTexts answers: plain words. -/
import Derived.Test.YtpiadcjkbbgggaaTextsGet
namespace Go.Proofs.Ytpiadcjkbbgggaa
open Go.RowKit Go.Lib
set_option linter.unusedVariables false

/-- What GetTexts answers: texts and a code. -/
def getTextsB (xs : List Int) : List ByteArray := (getTexts xs).getD []
def getTextsC (xs : List Int) : Int := if (getTexts xs).isSome then 0 else 3
theorem getTexts_no {xs : List Int} (h : getTexts xs = none) : getTextsB xs = [] ∧ getTextsC xs = 3 := by simp [getTextsB, getTextsC, h]
theorem getTexts_yes {xs : List Int} {out : List ByteArray} (h : getTexts xs = some out) : getTextsB xs = out ∧ getTextsC xs = 0 := by simp [getTextsB, getTextsC, h]

end Go.Proofs.Ytpiadcjkbbgggaa
