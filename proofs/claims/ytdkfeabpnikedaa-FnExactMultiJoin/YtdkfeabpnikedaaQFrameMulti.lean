/- What a register of several that came in is. -/
import Derived.Test.YtdkfeabpnikedaaQFrameSet
namespace Go.Proofs.Ytdkfeabpnikedaa
open Go.ChangeShapes Go.WideShapes Go.ChangeAt Go.RowKit
set_option linter.unusedVariables false

theorem cellsE_multi : Try.prog.cellsOf 27 = 2 := by kernel_rfl

set_option maxRecDepth 100000 in
theorem open_multi {W : World} {H : Type} {enc : TypeId × Value → H} {base : Nat} {r : Reach} {v : Value} {d : DataW H} {p : List MemPlace} (hok : Value.okWide Try.prog W r base 27 v)
    (h : DataW.Trod enc Try.prog W 0 (fun _ => true) true 27 v d p) : ∃ a la ca za ve ls, v = .agg #[.slice a la ca, ve] ∧ IsRow .i64 W a la ca za ∧ RdE W.heap.size W ve ls ∧ ls.length ≤ maxLen ∧ ∀ k, (enAt ls k).2.2.size ≤ maxLen := by
  obtain ⟨cs, rfl, hsz⟩ := okWide_struct Try.underlying27 hok
  rw [cellsE_multi] at hsz
  obtain ⟨l⟩ := cs
  match l, hsz with
  | [c0, c1], _ =>
  obtain ⟨fuel, hf⟩ := h
  obtain ⟨y0, y1, m, hx, _, hy0, hy1⟩ := trod_struct2 Try.underlying27 hf
  simp only [Value.cells, cells_vector, cellsE_entries] at hy0 hy1
  obtain ⟨a, la, ca, za, rfl, ha⟩ := open_rowS (c := c0) hy0
  obtain ⟨ls, he, h1, h2⟩ := open_entries (c := c1) hy1
  exact ⟨a, la, ca, za, c1, ls, rfl, ha, he, h1, h2⟩
end Go.Proofs.Ytdkfeabpnikedaa
