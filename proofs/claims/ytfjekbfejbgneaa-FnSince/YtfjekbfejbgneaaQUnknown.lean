/- The code's unknown: those of more that a log has not, each once. -/
import Derived.Test.YtfjekbfejbgneaaQOpKey
import Derived.Test.YtfjekbfejbgneaaQOpRangeToRdCut
import Derived.Test.YtfjekbfejbgneaaQSameOp
import Derived.Test.YtfjekbfejbgneaaQLedClosedToLogOKImpl
import Derived.Test.YtfjekbfejbgneaaQLedgerToRowRd
import Derived.Test.YtfjekbfejbgneaaQTakeKitToBigKit
namespace Go.Proofs.Ytfjekbfejbgneaa
open Go.RowKit
set_option linter.unusedVariables false

theorem OpBlk.lt {W : World} {B : Nat} {x : Ov} (h : OpBlk W B x) : B < W.heap.size := (Array.getElem?_eq_some_iff.1 h).1
theorem apart_take {L : List Ov} (h : Apart L) {k : Nat} (hk : k < L.length) : ∀ y ∈ L.take k, ¬ (y.a = (ovAt L k).a ∧ y.s = (ovAt L k).s) := by
  intro y hy e
  obtain ⟨i, hi, e1⟩ := List.getElem_of_mem hy
  rw [List.length_take] at hi
  have ei : ovAt L i = y := by
    rw [← e1, List.getElem_take]
    have := ovAt_get (L := L) (k := i) (by omega)
    rw [List.getElem?_eq_getElem (by omega)] at this
    exact (Option.some.inj this).symm
  rw [← ei] at e
  have := apart_at h (i := i) (j := k) (by omega) hk e.1 e.2
  omega
theorem causes_len' {x : Ov} (h : x.ok = true) : vecOK x.ds = true := (ok_parts h).2.2
theorem owns_low {w : World} {B B' : Nat} {e : TypeId} {s n : Nat} {v : Value} {xs : List Value} (h : w.ownsRow B e s v n xs) (hb : B' ≤ B) : w.ownsRow B' e s v n xs := by
  obtain ⟨h1, h2⟩ := h
  refine ⟨h1, ?_⟩
  rcases h2 with h2 | ⟨g, cap, cur, hv, hg, hh, r⟩
  · exact .inl h2
  · exact .inr ⟨g, cap, cur, hv, by omega, hh, r⟩
theorem oneCell_dv {C : Nat} {w : World} {v : Value} {L : List Ov} (h : RdO C w v L) : ∀ x ∈ L, x.dv.oneCell' = true := by
  intro x hx
  obtain ⟨a, c, e, _⟩ := h.2 x hx
  rw [e]
  rfl

end Go.Proofs.Ytfjekbfejbgneaa
