/- What a counter that came in is. -/
import Derived.Test.YtonpeiknoifdbaaFrameVec
namespace Go.Proofs.Ytonpeiknoifdbaa
open Go.ChangeShapes Go.WideShapes Go.ChangeAt Go.RowKit
set_option linter.unusedVariables false

theorem cells_counter : Try.prog.cellsOf 50 = 2 := by kernel_rfl

set_option maxRecDepth 100000 in
theorem open_row {W : World} {H : Type} {enc : TypeId × Value → H} {fuel : Nat} {c : Value} {x : DataW H × List MemPlace} (h : DataW.trod enc Try.prog W 0 (fun _ => true) true fuel 24 [c] = some x) : ∃ a len cap zs, c = .slice a len cap ∧ IsRow .i64 W a len cap zs := by
  obtain ⟨y0, m, hx, _, hy0⟩ := trod_struct1 Try.underlying24 h
  rcases open_ints Try.underlying22 Try.underlying3 (by kernel_rfl) hy0 with ⟨hcs, _⟩ | ⟨x, l, c, zs, hcs, _, hl, hm, hz, _, hcell, hwz⟩
  · simp [cells_ints] at hcs
    subst hcs
    exact ⟨none, 0, 0, [], rfl, .inl ⟨rfl, rfl, rfl, rfl⟩⟩
  · simp [cells_ints] at hcs
    subst hcs
    exact ⟨_, _, _, zs, rfl, .inr ⟨_, rfl, hl, hm, by simpa using hz, hcell, hwz⟩⟩

set_option maxRecDepth 100000 in
theorem open_counter {W : World} {H : Type} {enc : TypeId × Value → H} {base : Nat} {r : Reach} {v : Value} {d : DataW H} {p : List MemPlace} (hok : Value.okWide Try.prog W r base 50 v)
    (h : DataW.Trod enc Try.prog W 0 (fun _ => true) true 50 v d p) : ∃ a la ca za b lb cb zb, v = .agg #[.slice a la ca, .slice b lb cb] ∧ IsRow .i64 W a la ca za ∧ IsRow .i64 W b lb cb zb := by
  obtain ⟨cs, rfl, hsz⟩ := okWide_struct Try.underlying50 hok
  rw [cells_counter] at hsz
  obtain ⟨l⟩ := cs
  match l, hsz with
  | [c0, c1], _ =>
  obtain ⟨fuel, hf⟩ := h
  obtain ⟨y0, y1, m, hx, _, hy0, hy1⟩ := trod_struct2 Try.underlying50 hf
  simp only [Value.cells, cells_vector] at hy0 hy1
  obtain ⟨a, la, ca, za, rfl, ha⟩ := open_row (c := c0) hy0
  obtain ⟨b, lb, cb, zb, rfl, hb⟩ := open_row (c := c1) hy1
  exact ⟨a, la, ca, za, b, lb, cb, zb, rfl, ha, hb⟩
end Go.Proofs.Ytonpeiknoifdbaa
