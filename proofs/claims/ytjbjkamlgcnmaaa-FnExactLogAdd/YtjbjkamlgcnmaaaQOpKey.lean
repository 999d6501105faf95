/- The name of an operation as a map's key; a map from names to operations. -/
import Derived.DeepKeys4
import Derived.Test.YtjbjkamlgcnmaaaQMapRow
import Derived.Test.YtjbjkamlgcnmaaaQGrowOpsToFindOps
namespace Go.Proofs.Ytjbjkamlgcnmaaa
open Go.RowKit
open Go.Maps (Keyed)
set_option linter.unusedVariables false

theorem nmLaid : laidOutB Try.prog = true := by kernel_rfl
theorem nmRow : (85 : TypeId) < Try.prog.types.size := of_decide_eq_true (by kernel_rfl)
theorem nmAt : Try.prog.keyTypeAt 2 85 = true := by kernel_rfl
theorem nmKeyed : Keyed Try.prog 85 := by
  refine Keyed.of_law (deep_law_laid nmLaid (m := 2) ?_ nmRow nmAt ?_)
  · exact Nat.le_of_ble_eq_true rfl
  · rw [Try.underlying85]
theorem nmSome : 1 ≤ Try.prog.types.size := of_decide_eq_true (by kernel_rfl)
theorem nmWf {t : Int} (h0 : -9223372036854775808 ≤ t) (h1 : t ≤ 9223372036854775807) : (Lit.int .i64 t).wf = true := by
  show (decide (IntKind.i64.min ≤ t) && decide (t ≤ IntKind.i64.max)) = true
  rw [show IntKind.i64.min = -9223372036854775808 by decide, show IntKind.i64.max = 9223372036854775807 by decide, decide_eq_true h0, decide_eq_true h1]
  rfl
theorem nmKeyType : Try.prog.keyType 85 = true := by kernel_rfl
theorem nmCells : Try.prog.cellsOf 85 = 2 := by kernel_rfl
theorem nmInt : Try.prog.cellsOf 3 = 1 := by kernel_rfl
theorem nmKey {t a : Int} (h0 : -9223372036854775808 ≤ t) (h1 : t ≤ 9223372036854775807) (h2 : -9223372036854775808 ≤ a) (h3 : a ≤ 9223372036854775807) : ∃ l, keyOf Try.prog 85 (.agg #[.int .i64 t, .int .i64 a]) = some l := by
  have wt := nmWf h0 h1
  have wa := nmWf h2 h3
  obtain ⟨m, hm⟩ : ∃ m, Try.prog.types.size = m + 1 := ⟨_, (Nat.sub_add_cancel nmSome).symm⟩
  unfold keyOf
  rw [Try.underlying85]
  simp only
  rw [if_pos (by simp [nmKeyType, Value.formed, Try.underlying85, nmCells]), hm]
  simp [Program.keyLits, Try.underlying85, Try.underlying3, nmCells, nmInt, Value.cells, wt, wa]
theorem zeroOpV (w : World) : (zeroValue 44).run Try.prog w = .ok (.agg #[.int .i64 0, .int .i64 0, .int .i64 0, .slice none 0 0, .int .i64 0, .int .i64 0, .int .i64 0, .int .i64 0, .int .i64 0, .int .i64 0, .string ByteArray.empty, .string ByteArray.empty]) w := by kernel_rfl
/-- The map in block b has these operations by their names. -/
def Met (W : World) (b : Nat) (X : List Ov) : Prop := ∃ es clock, W.heap[b]? = some (.map es clock) ∧ Names Try.prog 85 es X
theorem Met.kept {W W' : World} {b : Nat} {X : List Ov} (h : Met W b X) (e : W'.heap[b]? = W.heap[b]?) : Met W' b X := by
  obtain ⟨es, c, hb, hn⟩ := h
  exact ⟨es, c, e.trans hb, hn⟩
theorem Met.lt {W : World} {b : Nat} {X : List Ov} (h : Met W b X) : b < W.heap.size := by
  obtain ⟨es, c, hb, hn⟩ := h
  exact (Array.getElem?_eq_some_iff.1 hb).1
theorem Met.on {W W' : World} {b : Nat} {X : List Ov} (h : Met W b X) (hb : Below W.heap.size W W') : Met W' b X := h.kept (hb.block b h.lt)
theorem met_made (w : World) : Met (w.alloc (.map #[] 0)) w.heap.size [] := ⟨#[], 0, heap_alloc_new w _, ⟨fun x hx => by simp at hx, rfl, fun i hi => absurd hi (by simp)⟩⟩
theorem met_lacks {W : World} {b : Nat} {X : List Ov} {a s : Int} (h : Met W b X) {l : Lit} (hl : keyOf Try.prog 85 (.agg #[.int .i64 a, .int .i64 s]) = some l) (hn : ∀ y ∈ X, ¬ (y.a = a ∧ y.s = s)) :
    (Instr.lookup 83 (.map (some b)) (.agg #[.int .i64 a, .int .i64 s]) true).run Try.prog W = .ok (.tuple #[.agg #[.int .i64 0, .int .i64 0, .int .i64 0, .slice none 0 0, .int .i64 0, .int .i64 0, .int .i64 0, .int .i64 0, .int .i64 0, .int .i64 0, .string ByteArray.empty, .string ByteArray.empty], .bool false]) W := by
  obtain ⟨es, c, hb, hN⟩ := h
  rcases look_row true nmKeyed Try.underlying83 (zeroOpV W) hb hN.read hl with ⟨h1, _⟩ | ⟨e0, h1, h2, _⟩
  · exact h1
  · obtain ⟨i, hi, e1, e2, _⟩ := hN.finds h1 h2
    exact absurd ⟨e1, e2⟩ (hn _ (ovAt_mem hi))
theorem apart_at {X : List Ov} (h : Apart X) {i j : Nat} (hi : i < X.length) (hj : j < X.length) (e1 : (ovAt X i).a = (ovAt X j).a) (e2 : (ovAt X i).s = (ovAt X j).s) : i = j := by
  have e : ∀ q (hq : q < X.length), ovAt X q = X[q] := fun q hq => by have := ovAt_get hq; rw [List.getElem?_eq_getElem hq] at this; exact (Option.some.inj this).symm
  rw [e i hi, e j hj] at e1 e2
  unfold Apart at h
  rw [List.pairwise_iff_getElem] at h
  rcases Nat.lt_trichotomy i j with l | l | l
  · exact absurd ⟨e1, e2⟩ (h i j hi hj l)
  · exact l
  · exact absurd ⟨e1.symm, e2.symm⟩ (h j i hj hi l)
theorem met_has {W : World} {b : Nat} {X : List Ov} {i : Nat} (h : Met W b X) (hA : Apart X) (hi : i < X.length) {l : Lit} (hl : keyOf Try.prog 85 (.agg #[.int .i64 (ovAt X i).a, .int .i64 (ovAt X i).s]) = some l) :
    (Instr.lookup 83 (.map (some b)) (.agg #[.int .i64 (ovAt X i).a, .int .i64 (ovAt X i).s]) true).run Try.prog W = .ok (.tuple #[.agg (ovAt X i).cs.toArray, .bool true]) W := by
  obtain ⟨es, c, hb, hN⟩ := h
  rcases look_row true nmKeyed Try.underlying83 (zeroOpV W) hb hN.read hl with ⟨_, h1⟩ | ⟨e0, h1, h2, h3⟩
  · exact absurd ⟨rfl, rfl⟩ (hN.lacks h1 _ (ovAt_mem hi))
  · obtain ⟨j, hj, e1, e2, e3⟩ := hN.finds h1 h2
    have := apart_at hA hj hi e1 e2
    subst this
    rw [h3, e3]
    rfl
theorem met_put {W : World} {b : Nat} {X : List Ov} (h : Met W b X) (x : Ov) {l : Lit} (hl : keyOf Try.prog 85 (.agg #[.int .i64 x.a, .int .i64 x.s]) = some l) (hn : ∀ y ∈ X, ¬ (y.a = x.a ∧ y.s = x.s)) :
    ∃ W', (Instr.mapUpdate 83 (.map (some b)) (.agg #[.int .i64 x.a, .int .i64 x.s]) (.agg x.cs.toArray)).run Try.prog W = .ok () W' ∧ Met W' b (X ++ [x]) ∧ W.grownBy W' (some b) := by
  obtain ⟨es, c, hb, hN⟩ := h
  have hnew : ∀ e ∈ es.toList, e.key ≠ .agg #[.int .i64 x.a, .int .i64 x.s] := fun e he hk => by
    obtain ⟨i, hi, e1, e2, _⟩ := hN.finds he hk
    exact hn _ (ovAt_mem hi) ⟨e1, e2⟩
  refine ⟨_, put_row nmKeyed Try.underlying83 hb hN.read hl hnew, ⟨_, _, ChangeMaps.heap_setBlock_same hb _, hN.push x c hl⟩, ?_⟩
  exact ⟨rfl, rfl, rfl, by simp [ChangeMaps.setBlock], fun i _ hi => ChangeMaps.heap_setBlock_other hb _ (fun e => hi (by rw [e]))⟩
theorem valid_name {x : Ov} (h : x.ok = true) : ∃ l, keyOf Try.prog 85 (.agg #[.int .i64 x.a, .int .i64 x.s]) = some l := by
  have h1 := (ok_parts h).1
  unfold Ov.ok opB comesOK at h
  simp only [Bool.and_eq_true, decide_eq_true_eq] at h
  exact nmKey (by omega) (by omega) (by omega) (by omega)
end Go.Proofs.Ytjbjkamlgcnmaaa
