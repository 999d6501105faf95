/- Rows of operations that are one's own: what is shared by LogSince and LogAt. -/
import Derived.BigQuiet
import Derived.Test.YtcjlihfkibpgoaaGreatDoorQMarkOpsToCopyOps
import Derived.Test.YtcjlihfkibpgoaaGreatDoorQLedgerToLogFind
import Derived.Test.YtcjlihfkibpgoaaGreatDoorQOpNumsToOpRange
import Derived.Test.YtcjlihfkibpgoaaGreatDoorQLedClosedToByMath
import Derived.Test.YtcjlihfkibpgoaaGreatDoorQLogOKSpec
import Derived.Test.YtcjlihfkibpgoaaGreatDoorQInfoToCopies
import Derived.Test.YtcjlihfkibpgoaaGreatDoorQThereKit
namespace Go.Proofs.YtcjlihfkibpgoaaGreatDoor
open Go.RowKit
set_option linter.unusedVariables false

theorem owns_ne {w : World} {B B' n : Nat} {v dv : Value} {xs ds : List Value} (h : w.ownsRow B 41 12 v n xs) (hd : Own 3 w B' dv ds) : ∀ k, dv.ownBlock = some k → v.ownBlock ≠ some k := by
  intro k hk hv
  obtain ⟨_, h2⟩ := h
  obtain ⟨_, d2⟩ := hd
  rcases h2 with ⟨e, _⟩ | ⟨g, cap, cur, e, _, hh, _⟩
  · rw [e] at hv; cases hv
  · rcases d2 with ⟨e', _⟩ | ⟨g', cap', cur', e', _, hh', _⟩
    · rw [e'] at hk; cases hk
    · rw [e] at hv
      rw [e'] at hk
      cases hv
      cases hk
      rw [hh] at hh'
      simp at hh'
theorem owns_any {w : World} {B n : Nat} {v : Value} {xs : List Value} (h : w.ownsRow B 41 12 v n xs) : ∃ ao cap, v = .slice ao n cap := by
  obtain ⟨_, h2⟩ := h
  rcases h2 with ⟨hv, hn⟩ | ⟨g, cap, cur, hv, _⟩
  · exact ⟨none, 0, by rw [hv, hn]⟩
  · exact ⟨_, cap, hv⟩
theorem ownSame' {e : TypeId} {w w' : World} {B : Nat} {v : Value} {cs : List Value} (h : Own e w B v cs) (hs : ∀ k, v.ownBlock = Option.some k → w'.heap[k]? = w.heap[k]?) : Own e w' B v cs := by
  obtain ⟨h1, h2⟩ := h
  refine ⟨h1, ?_⟩
  rcases h2 with h2 | ⟨g, cap, cur, rfl, hg, hh, r⟩
  · exact .inl h2
  · exact .inr ⟨g, cap, cur, rfl, hg, (hs g rfl).trans hh, r⟩
theorem sameL_snoc {M S : List Ov} {y x : Ov} (h : SameL M S) (hx : y.same x) : SameL (M ++ [y]) (S ++ [x]) := by
  refine ⟨by rw [List.length_append, List.length_append, h.1]; rfl, fun k hk => ?_⟩
  rw [List.length_append, List.length_singleton] at hk
  unfold ovAt
  rw [List.getD_eq_getElem?_getD, List.getD_eq_getElem?_getD]
  by_cases e : k = S.length
  · subst e
    rw [List.getElem?_append_right (by rw [h.1]; omega), List.getElem?_append_right (by omega), h.1, Nat.sub_self]
    exact hx
  · rw [List.getElem?_append_left (by rw [h.1]; omega), List.getElem?_append_left (by omega), ← List.getD_eq_getElem?_getD, ← List.getD_eq_getElem?_getD]
    exact h.2 k (by omega)

end Go.Proofs.YtcjlihfkibpgoaaGreatDoor
