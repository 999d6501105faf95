/- The name of an operation as a map's key; a map from names to operations. -/
import Derived.DeepKeys4
import Derived.Test.YtfjekbfejbgneaaQMapRow
import Derived.Test.YtfjekbfejbgneaaQGrowOpsToFindOps
namespace Go.Proofs.Ytfjekbfejbgneaa
open Go.RowKit
open Go.Maps (Keyed)
set_option linter.unusedVariables false

theorem nmLaid : laidOutB Try.prog = true := by kernel_rfl
theorem nmSome : 1 ≤ Try.prog.types.size := of_decide_eq_true (by kernel_rfl)
theorem nmWf {t : Int} (h0 : -9223372036854775808 ≤ t) (h1 : t ≤ 9223372036854775807) : (Lit.int .i64 t).wf = true := by
  show (decide (IntKind.i64.min ≤ t) && decide (t ≤ IntKind.i64.max)) = true
  rw [show IntKind.i64.min = -9223372036854775808 by decide, show IntKind.i64.max = 9223372036854775807 by decide, decide_eq_true h0, decide_eq_true h1]
  rfl
theorem nmInt : Try.prog.cellsOf 3 = 1 := by kernel_rfl
theorem zeroOpV (w : World) : (zeroValue 47).run Try.prog w = .ok (.agg #[.int .i64 0, .int .i64 0, .int .i64 0, .slice none 0 0, .int .i64 0, .int .i64 0, .int .i64 0, .int .i64 0, .int .i64 0, .int .i64 0, .string ByteArray.empty, .string ByteArray.empty]) w := by kernel_rfl
theorem apart_at {X : List Ov} (h : Apart X) {i j : Nat} (hi : i < X.length) (hj : j < X.length) (e1 : (ovAt X i).a = (ovAt X j).a) (e2 : (ovAt X i).s = (ovAt X j).s) : i = j := by
  have e : ∀ q (hq : q < X.length), ovAt X q = X[q] := fun q hq => by have := ovAt_get hq; rw [List.getElem?_eq_getElem hq] at this; exact (Option.some.inj this).symm
  rw [e i hi, e j hj] at e1 e2
  unfold Apart at h
  rw [List.pairwise_iff_getElem] at h
  rcases Nat.lt_trichotomy i j with l | l | l
  · exact absurd ⟨e1, e2⟩ (h i j hi hj l)
  · exact l
  · exact absurd ⟨e1.symm, e2.symm⟩ (h j i hj hi l)
end Go.Proofs.Ytfjekbfejbgneaa
