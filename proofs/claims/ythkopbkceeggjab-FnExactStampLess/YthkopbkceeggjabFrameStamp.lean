/- What a stamp, or a vector, that came in is. -/
import Derived.Test.YthkopbkceeggjabFrame
import Derived.Test.YthkopbkceeggjabInfo
import Derived.ProofKit
import Derived.OpenShut
import Derived.ChangeOld
import Derived.ChangeSame
import Derived.Below
namespace Go.Proofs.Ythkopbkceeggjab
open Go.ChangeShapes Go.WideShapes Go.ChangeAt Go.RowKit
set_option linter.unusedVariables false

theorem own_knob : ownKnob Try.prog.godebug = none := by kernel_rfl
theorem laid_out : laidOutB Try.prog = true := by kernel_rfl
theorem cells_int : Try.prog.cellsOf 3 = 1 := by kernel_rfl
theorem cells_stamp : Try.prog.cellsOf 23 = 2 := by kernel_rfl

set_option maxRecDepth 100000 in
theorem open_stamp {W : World} {H : Type} {enc : TypeId × Value → H} {base : Nat} {r : Reach} {v : Value} {d : DataW H} {p : List MemPlace} {sp : Nat → Bool} (hok : Value.okWide Try.prog W r base 23 v)
    (h : DataW.Trod enc Try.prog W 0 sp true 23 v d p) : ∃ t a, v = .agg #[.int .i64 t, .int .i64 a] := by
  obtain ⟨cs, rfl, hsz⟩ := okWide_struct Try.underlying23 hok
  rw [cells_stamp] at hsz
  obtain ⟨l⟩ := cs
  match l, hsz with
  | [c0, c1], _ =>
  obtain ⟨fuel, hf⟩ := h
  obtain ⟨y0, y1, m, hx, _, hy0, hy1⟩ := trod_struct2 Try.underlying23 hf
  obtain ⟨a, e0, rfl, wa⟩ := DataW.trod_int Try.underlying3 hy0
  obtain ⟨b, e1, rfl, wb⟩ := DataW.trod_int Try.underlying3 hy1
  simp [Value.cells, cells_int] at e0 e1
  subst e0 e1
  exact ⟨_, _, rfl⟩
end Go.Proofs.Ythkopbkceeggjab
