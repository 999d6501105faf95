/- What a vector that came in is. -/
import Derived.ProofKit
import Derived.OpenShut
import Derived.ShutString
import Derived.ChangeOld
import Derived.ChangeSame
import Derived.Below
import Derived.Test.YtgmhfhjmepkchaaGreatQFrame
import Derived.Test.YtgmhfhjmepkchaaGreatQInfoToStr
namespace Go.Proofs.YtgmhfhjmepkchaaGreat
open Go.ChangeShapes Go.WideShapes Go.ChangeAt Go.RowKit
set_option linter.unusedVariables false

theorem own_knob : ownKnob Tryz.prog.godebug = none := by kernel_rfl
theorem laid_out : laidOutB Tryz.prog = true := by kernel_rfl
theorem cells_ints : Tryz.prog.cellsOf 31 = 1 := by kernel_rfl
theorem cells_vector : Tryz.prog.cellsOf 33 = 1 := by kernel_rfl

set_option maxRecDepth 100000 in
theorem open_vector {W : World} {H : Type} {enc : TypeId × Value → H} {base : Nat} {r : Reach} {v : Value} {d : DataW H} {p : List MemPlace}  (hok : Value.okWide Tryz.prog W r base 33 v)
    (h : DataW.Trod enc Tryz.prog W 0 (fun _ => true) true 33 v d p) : ∃ a len cap zs, v = .agg #[.slice a len cap] ∧ IsRow .i64 W a len cap zs := by
  obtain ⟨cs, rfl, hsz⟩ := okWide_struct Tryz.underlying33 hok
  rw [cells_vector] at hsz
  obtain ⟨l⟩ := cs
  match l, hsz with
  | [c0], _ =>
  obtain ⟨fuel, hf⟩ := h
  obtain ⟨y0, m, hx, _, hy0⟩ := trod_struct1 Tryz.underlying33 hf
  rcases open_ints Tryz.underlying31 Tryz.underlying3 (by kernel_rfl) hy0 with ⟨hcs, _⟩ | ⟨x, l, c, zs, hcs, _, hl, hm, hz, _, hcell, hwz⟩
  · simp [Value.cells, cells_ints] at hcs
    subst hcs
    exact ⟨none, 0, 0, [], rfl, .inl ⟨rfl, rfl, rfl, rfl⟩⟩
  · simp [Value.cells, cells_ints] at hcs
    subst hcs
    exact ⟨_, _, _, zs, rfl, .inr ⟨_, rfl, hl, hm, by simpa using hz, hcell, hwz⟩⟩
end Go.Proofs.YtgmhfhjmepkchaaGreat
