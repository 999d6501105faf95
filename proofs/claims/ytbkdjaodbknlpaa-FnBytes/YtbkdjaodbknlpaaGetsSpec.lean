/- What l01Get and the specification's GetInt do. -/
import Derived.Test.YtbkdjaodbknlpaaNums
import Derived.Test.YtbkdjaodbknlpaaGets
namespace Go.Proofs.Ytbkdjaodbknlpaa
open Go.RowKit
set_option linter.unusedVariables false

/-- What l01Get answers. -/
def getR (xs : List Int) (p : Nat) (e : Ending) : Prop := match getL xs p with
  | some (a, q) => e = .returned (.tuple #[.int .i64 a, .int .i64 (q : Int), .bool true])
  | none => ∃ a b : Int, e = .returned (.tuple #[.int .i64 a, .int .i64 b, .bool false])

/-- What GetInt answers, of at most MaxBytes bytes. -/
def getI (xs : List Int) (a : Int) : Int × Int × Int := if a < 0 ∨ (xs.length : Int) < a then (0, 0, 1) else match getL xs a.toNat with
  | some (v, q) => (v, (q : Int), 0)
  | none => (0, 0, 3)
theorem getI_out {xs : List Int} {a : Int} (h : a < 0 ∨ (xs.length : Int) < a) : getI xs a = (0, 0, 1) := by unfold getI; rw [if_pos h]
theorem getI_none {xs : List Int} {p : Nat} (h : p ≤ xs.length) (hG : getL xs p = none) : getI xs (p : Int) = (0, 0, 3) := by unfold getI; rw [if_neg (by omega), Int.toNat_natCast, hG]
theorem getI_some {xs : List Int} {p q : Nat} {v : Int} (h : p ≤ xs.length) (hG : getL xs p = some (v, q)) : getI xs (p : Int) = (v, (q : Int), 0) := by unfold getI; rw [if_neg (by omega), Int.toNat_natCast, hG]

end Go.Proofs.Ytbkdjaodbknlpaa
