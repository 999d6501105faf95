/- What the code's MultiWrite does; over the contract of slices.SortFunc at one stamp. -/
import Derived.Test.YtdbipcmfolgjgaaMultiOf
import Derived.Test.YtdbipcmfolgjgaaMultiTold
import Derived.Test.YtdbipcmfolgjgaaNextImpl
namespace Go.Proofs.Ytdbipcmfolgjgaa
open Go.RowKit
open Go.ChangeMaps (setBlock heap_setBlock_same)
open Go.MapKept (Stamped)
set_option linter.unusedVariables false

theorem Mp.clear {P : Program} {k t e : TypeId} {w : World} {b : Nat} {L : List (Value × Value)} (h : Mp P k w b L) (ht : P.underlying t = some (.map k e)) (ty : TypeId) :
    ∃ w', (Builtin.clear_ #[t] ty #[.map (some b)]).run P w = .ok (.tuple #[]) w' ∧ Mp P k w' b [] ∧ w.grownBy w' (some b) := by
  obtain ⟨es, clock, hb, hs, rfl, hK⟩ := h
  refine ⟨_, by simp [Builtin.clear_, run_underlying ht, MapKept.run_getObj_map hb, MapKept.run_setObj_map _ hb, Result.andThen]; rfl, ⟨#[], clock, heap_setBlock_same hb _, MapKept.stamped_empty clock, rfl, by simp⟩, grown_setBlock hb _⟩
theorem wpList_clear_mp {P : Program} {ops : Array Oper} {rest : List Oper} {o : Oper} {a : Act} {w : World} {Q : Exit → Act → World → Prop} (hg : o.guard = none) (m : Operand) (t : TypeId) (hop : o.op = Op.call { callee := Callee.builtin Builtin.clear, args := #[m], argTypes := #[t] })
    (k e : TypeId) (ht : P.underlying t = some (.map k e)) (b : Nat) (L : List (Value × Value)) (hm : a.eval m = .map (some b)) (hM : Mp P k w b L)
    (hK : ∀ w', Mp P k w' b [] → w.grownBy w' (some b) → wpList P ops Q rest (a.put o.dst (.tuple #[])) w') : wpList P ops Q (o :: rest) a w := by
  refine wpList_plain hg fun K' hK' => ?_
  obtain ⟨w', hrun, h1, h2⟩ := hM.clear ht o.type
  unfold Oper.wp
  simp [execOp, hop, resolve, invoke, builtin, hm, hrun, Result.andThen]
  exact hK' _ _ (hK w' h1 h2)
/-- The code of a writing; the counts and the entries behind it. -/
def inA (c : Int) : Prop := 0 ≤ c ∧ c < 16
def wrC (xs : List Int) (ls : List En) (c : Int) (s : ByteArray) : Int :=
  if okJ xs ls = true then (if (0 ≤ c ∧ c < 16) ∧ s.size ≤ 200 then (if xs.getD c.toNat 0 = 1000000000000 then 11 else 0) else 4) else 1
def wrV (xs : List Int) (ls : List En) (c : Int) (s : ByteArray) : List Int := if wrC xs ls c s = 0 then xs.set c.toNat (xs.getD c.toNat 0 + 1) else []
def wrE (xs : List Int) (ls : List En) (c : Int) (s : ByteArray) : List En := if wrC xs ls c s = 0 then [(xs.getD c.toNat 0 + 1, c, s)] else []
theorem wr_bad {xs : List Int} {ls : List En} (c : Int) (s : ByteArray) (h : okJ xs ls = false) : wrC xs ls c s = 1 ∧ wrV xs ls c s = [] ∧ wrE xs ls c s = [] := by
  have : wrC xs ls c s = 1 := by simp [wrC, h]
  simp [wrV, wrE, this]
theorem wr_out {xs : List Int} {ls : List En} {c : Int} {s : ByteArray} (h : okJ xs ls = true) (hc : ¬ ((0 ≤ c ∧ c < 16) ∧ s.size ≤ 200)) : wrC xs ls c s = 4 ∧ wrV xs ls c s = [] ∧ wrE xs ls c s = [] := by
  have : wrC xs ls c s = 4 := by unfold wrC; rw [if_pos h, if_neg hc]
  simp [wrV, wrE, this]
theorem wr_full {xs : List Int} {ls : List En} {c : Int} {s : ByteArray} (h : okJ xs ls = true) (hc : (0 ≤ c ∧ c < 16) ∧ s.size ≤ 200) (hx : xs.getD c.toNat 0 = 1000000000000) : wrC xs ls c s = 11 ∧ wrV xs ls c s = [] ∧ wrE xs ls c s = [] := by
  have : wrC xs ls c s = 11 := by unfold wrC; rw [if_pos h, if_pos hc, if_pos hx]
  simp [wrV, wrE, this]
theorem wr_done {xs : List Int} {ls : List En} {c : Int} {s : ByteArray} (h : okJ xs ls = true) (hc : (0 ≤ c ∧ c < 16) ∧ s.size ≤ 200) (hx : ¬ xs.getD c.toNat 0 = 1000000000000) : wrC xs ls c s = 0 ∧ wrV xs ls c s = xs.set c.toNat (xs.getD c.toNat 0 + 1) ∧ wrE xs ls c s = [(xs.getD c.toNat 0 + 1, c, s)] := by
  have : wrC xs ls c s = 0 := by unfold wrC; rw [if_pos h, if_pos hc, if_neg hx]
  simp [wrV, wrE, this]
theorem vecOK_of {xs : List Int} {ls : List En} (h : okJ xs ls = true) : vecOK xs = true ∧ ls.length ≤ 256 := by
  unfold okJ at h
  simp only [Bool.and_eq_true, decide_eq_true_eq] at h
  exact ⟨h.1, h.2.1⟩
/-- What multiOf answered at a valid value, laid into a new block. -/
theorem jm_laid {w w2 : World} {b : Nat} {xs : List Int} {ls : List En} {T : TypeId} (h16 : xs.length = 16) (hM : Mp Try.prog 70 w2 b (ls.map kvE)) :
    Jm ((w2.alloc (.cells zeroJ.toArray T)).setCells w2.heap.size 0 (arrC xs ++ [Value.map (some b)])) w2.heap.size xs b ∧ Mp Try.prog 70 ((w2.alloc (.cells zeroJ.toArray T)).setCells w2.heap.size 0 (arrC xs ++ [Value.map (some b)])) b (ls.map kvE) := by
  have hl : (arrC xs ++ [Value.map (some b)]).length = 17 := by simp [arrC_len, h16]
  have ht : (w2.alloc (.cells zeroJ.toArray T)).there w2.heap.size 0 17 := there_new (n := 17) (by rw [zeroJ_size]; exact Nat.le_refl _)
  have hlt := hM.lt
  exact ⟨⟨World.rangeAt_setCells_same _ _ _ _ (by rw [hl]; exact ht), World.there_setCells ht _ _ _⟩, mp_setCells (hM.alloc _) (by omega) _ _⟩

end Go.Proofs.Ytdbipcmfolgjgaa
