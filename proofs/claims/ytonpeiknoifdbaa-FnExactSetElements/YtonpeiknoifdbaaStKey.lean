/- A stamp as a map's key. -/
import Derived.Test.YtonpeiknoifdbaaMapBase
namespace Go.Proofs.Ytonpeiknoifdbaa
open Go.RowKit
open Go.Maps (Keyed)
set_option linter.unusedVariables false

theorem stLaid : laidOutB Try.prog = true := by kernel_rfl
theorem stRow : (41 : TypeId) < Try.prog.types.size := of_decide_eq_true (by kernel_rfl)
theorem stWide : (match Try.prog.underlying 41 with | some (.array _ _) | some (.struct _) => true | _ => false) = true := by rw [Try.underlying41]
theorem stAt : Try.prog.keyTypeAt 2 41 = true := by kernel_rfl
/-- The law of the key type. -/
theorem stKeyed : Keyed Try.prog 41 := by
  refine Keyed.of_law (deep_law_laid stLaid (m := 2) ?_ stRow stAt ?_)
  · exact Nat.le_of_ble_eq_true rfl
  · rw [Try.underlying41]
theorem stSome : 1 ≤ Try.prog.types.size := of_decide_eq_true (by kernel_rfl)
theorem wf64 {t : Int} (h0 : -9223372036854775808 ≤ t) (h1 : t ≤ 9223372036854775807) : (Lit.int .i64 t).wf = true := by
  show (decide (IntKind.i64.min ≤ t) && decide (t ≤ IntKind.i64.max)) = true
  rw [show IntKind.i64.min = -9223372036854775808 by decide, show IntKind.i64.max = 9223372036854775807 by decide, decide_eq_true h0, decide_eq_true h1]
  rfl
theorem stKeyType : Try.prog.keyType 41 = true := by kernel_rfl
theorem stCells : Try.prog.cellsOf 41 = 2 := by kernel_rfl
theorem intCells : Try.prog.cellsOf 3 = 1 := by kernel_rfl
/-- A stamp of numbers that an int holds reads as a key. -/
theorem stKey {t a : Int} (h0 : -9223372036854775808 ≤ t) (h1 : t ≤ 9223372036854775807) (h2 : -9223372036854775808 ≤ a) (h3 : a ≤ 9223372036854775807) : ∃ l, keyOf Try.prog 41 (.agg #[.int .i64 t, .int .i64 a]) = some l := by
  have wt := wf64 h0 h1
  have wa := wf64 h2 h3
  obtain ⟨m, hm⟩ : ∃ m, Try.prog.types.size = m + 1 := ⟨_, (Nat.sub_add_cancel stSome).symm⟩
  unfold keyOf
  rw [Try.underlying41]
  simp only
  rw [if_pos (by simp [stKeyType, Value.formed, Try.underlying41, stCells]), hm]
  simp [Program.keyLits, Try.underlying41, Try.underlying3, stCells, intCells, Value.cells, wt, wa]

end Go.Proofs.Ytonpeiknoifdbaa
