/- Vectors: plain facts, and what the laws' own helpers do with them. -/
import Derived.Test.YtonpeiknoifdbabStampBase
import Derived.Test.YtonpeiknoifdbabIntCells
namespace Go.Proofs.Ytonpeiknoifdbab
open Go.RowKit
set_option linter.unusedVariables false

/-- A count is one; a vector is valid. -/
def cOK (c : Int) : Bool := decide (0 ≤ c ∧ c ≤ 1000000000000)
def vecOK (xs : List Int) : Bool := decide (xs.length = 16) && xs.all cOK
theorem vecOK_len {xs : List Int} (h : ¬ xs.length = 16) : vecOK xs = false := by unfold vecOK; rw [decide_eq_false h]; rfl
theorem vecOK_bad {xs : List Int} {k : Nat} (hk : k < xs.length) (h : cOK xs[k] = false) : vecOK xs = false := by
  unfold vecOK
  rw [Bool.and_eq_false_iff]
  exact .inr (List.all_eq_false.2 ⟨xs[k], List.getElem_mem hk, by rw [h]; decide⟩)
theorem vecOK_all {xs : List Int} (h16 : xs.length = 16) (h : ∀ k (hk : k < xs.length), cOK xs[k] = true) : vecOK xs = true := by
  unfold vecOK
  rw [decide_eq_true h16, Bool.true_and]
  refine List.all_eq_true.2 fun c hc => ?_
  obtain ⟨k, hk, rfl⟩ := List.mem_iff_getElem.1 hc
  exact h k hk
theorem vecOK_get {xs : List Int} (h : vecOK xs = true) : xs.length = 16 ∧ ∀ k (hk : k < xs.length), 0 ≤ xs[k] ∧ xs[k] ≤ 1000000000000 := by
  unfold vecOK at h
  rw [Bool.and_eq_true, decide_eq_true_eq] at h
  refine ⟨h.1, fun k hk => ?_⟩
  have := List.all_eq_true.1 h.2 xs[k] (List.getElem_mem hk)
  simpa [cOK] using this

/-- A slice that can be read, behind whatever leaves old memory as it is. -/
theorem Rd.belowW {C : Nat} {w w' : World} {v : Value} {cs : List Value} (h : Rd C w v cs) (hb : Below w.heap.size w w') (hC : C ≤ w.heap.size) : Rd C w' v cs := h.below (hb.mono hC)
theorem Rd.alloc {C : Nat} {w : World} {v : Value} {cs : List Value} (h : Rd C w v cs) (o : Obj) (hC : C ≤ w.heap.size) : Rd C (w.alloc o) v cs := h.belowW (below_alloc w o) hC

end Go.Proofs.Ytonpeiknoifdbab
