/- What operations that came in are. An operation that came in by itself, opened. -/
import Derived.Deep.SlicePairs
import Derived.Test.YtfedbcmifeahpaaQFrameVec
import Derived.Test.YtfedbcmifeahpaaQOpComesToOpSpecBase
namespace Go.Proofs.Ytfedbcmifeahpaa
open Go.ChangeShapes Go.WideShapes Go.ChangeAt Go.RowKit
set_option linter.unusedVariables false

theorem cellsO_int : Try.prog.cellsOf 3 = 1 := by kernel_rfl
theorem cellsO_text : Try.prog.cellsOf 9 = 1 := by kernel_rfl
theorem cellsO_stamp : Try.prog.cellsOf 26 = 2 := by kernel_rfl
theorem cellsO_vec : Try.prog.cellsOf 24 = 1 := by kernel_rfl
theorem cellsO_op : Try.prog.cellsOf 28 = 12 := by kernel_rfl

set_option maxRecDepth 100000 in
theorem open_rowO {W : World} {H : Type} {enc : TypeId × Value → H} {fuel : Nat} {c : Value} {x : DataW H × List MemPlace} (h : DataW.trod enc Try.prog W 0 (fun _ => true) true fuel 24 [c] = some x) : ∃ a len cap zs, c = .slice a len cap ∧ IsRow .i64 W a len cap zs := by
  obtain ⟨y0, m, hx, _, hy0⟩ := trod_struct1 Try.underlying24 h
  rcases open_ints Try.underlying22 Try.underlying3 (by kernel_rfl) hy0 with ⟨hcs, _⟩ | ⟨x, l, c, zs, hcs, _, hl, hm, hz, _, hcell, hwz⟩
  · simp [cells_ints] at hcs
    subst hcs
    exact ⟨none, 0, 0, [], rfl, .inl ⟨rfl, rfl, rfl, rfl⟩⟩
  · simp [cells_ints] at hcs
    subst hcs
    exact ⟨_, _, _, zs, rfl, .inr ⟨_, rfl, hl, hm, by simpa using hz, hcell, hwz⟩⟩

set_option maxHeartbeats 1000000 in
set_option maxRecDepth 100000 in
theorem open_op {W : World} {H : Type} {enc : TypeId × Value → H} {fuel : Nat} {c0 c1 c2 c3 c4 c5 c6 c7 c8 c9 c10 c11 : Value} {x : DataW H × List MemPlace} (h : DataW.trod enc Try.prog W 0 (fun _ => true) true fuel 28 [c0, c1, c2, c3, c4, c5, c6, c7, c8, c9, c10, c11] = some x) :
    ∃ y : Ov, [c0, c1, c2, c3, c4, c5, c6, c7, c8, c9, c10, c11] = y.cs ∧ Rd W.heap.size W y.dv (y.ds.map (Value.int .i64)) ∧ y.ky.size ≤ maxLen ∧ y.tx.size ≤ maxLen := by
  obtain ⟨xs, n, _, _, _, hlen, hf⟩ := DataW.trod_struct Try.underlying28 h
  match xs, hlen with
  | [y0, y1, y2, y3, y4, y5, y6, y7, y8, y9, y10], _ =>
    obtain ⟨a0, e0, _, _⟩ := DataW.trod_int Try.underlying3 ((hf 0 _ rfl).trans rfl)
    obtain ⟨a1, e1, _, _⟩ := DataW.trod_int Try.underlying3 ((hf 1 _ rfl).trans rfl)
    obtain ⟨a2, e2, _, _⟩ := DataW.trod_int Try.underlying3 ((hf 2 _ rfl).trans rfl)
    obtain ⟨a4, e4, _, _⟩ := DataW.trod_int Try.underlying3 ((hf 4 _ rfl).trans rfl)
    obtain ⟨a5, e5, _, _⟩ := DataW.trod_int Try.underlying3 ((hf 5 _ rfl).trans rfl)
    obtain ⟨a6, e6, _, _⟩ := DataW.trod_int Try.underlying3 ((hf 6 _ rfl).trans rfl)
    obtain ⟨a7, e7, _, _⟩ := DataW.trod_int Try.underlying3 ((hf 7 _ rfl).trans rfl)
    obtain ⟨z0, z1, m', hx', _, hz0, hz1⟩ := trod_struct2 Try.underlying26 ((hf 8 _ rfl).trans rfl)
    obtain ⟨a8, e8, _, _⟩ := DataW.trod_int Try.underlying3 hz0
    obtain ⟨a9, e9, _, _⟩ := DataW.trod_int Try.underlying3 hz1
    obtain ⟨s1, e10, _, hs1⟩ := DataW.trod_string Try.underlying9 ((hf 9 _ rfl).trans rfl)
    obtain ⟨s2, e11, _, hs2⟩ := DataW.trod_string Try.underlying9 ((hf 10 _ rfl).trans rfl)
    have h3 := hf 3 _ rfl
    simp [cellsO_int, cellsO_stamp, cellsO_text, cellsO_vec] at e0 e1 e2 e4 e5 e6 e7 e8 e9 e10 e11 h3
    obtain ⟨a, len, cap, zs, rfl, hrow⟩ := open_rowO h3
    subst e0 e1 e2 e4 e5 e6 e7 e8 e9 e10 e11
    exact ⟨⟨a0, a1, a2, .slice a len cap, a4, a5, a6, a7, a8, a9, s1, s2, zs.take len⟩, rfl, hrow.rd.1, hs1, hs2⟩

end Go.Proofs.Ytfedbcmifeahpaa

namespace Go.Proofs.Ytfedbcmifeahpaa
open Go.ChangeShapes Go.WideShapes Go.ChangeAt Go.RowKit
set_option linter.unusedVariables false

set_option maxRecDepth 100000 in
theorem open_opV {W : World} {H : Type} {enc : TypeId × Value → H} {base : Nat} {r : Reach} {v : Value} {d : DataW H} {p : List MemPlace} (hok : Value.okWide Try.prog W r base 28 v)
    (h : DataW.Trod enc Try.prog W 0 (fun _ => true) true 28 v d p) : ∃ y : Ov, v = .agg y.cs.toArray ∧ Rd W.heap.size W y.dv (y.ds.map (Value.int .i64)) ∧ y.ky.size ≤ maxLen ∧ y.tx.size ≤ maxLen := by
  obtain ⟨cs, rfl, hsz⟩ := okWide_struct Try.underlying28 hok
  rw [cellsO_op] at hsz
  obtain ⟨l⟩ := cs
  match l, hsz with
  | [c0, c1, c2, c3, c4, c5, c6, c7, c8, c9, c10, c11], _ =>
  obtain ⟨fuel, hf⟩ := h
  obtain ⟨y, hy, h1, h2, h3⟩ := open_op hf
  exact ⟨y, by rw [← hy], h1, h2, h3⟩

end Go.Proofs.Ytfedbcmifeahpaa
