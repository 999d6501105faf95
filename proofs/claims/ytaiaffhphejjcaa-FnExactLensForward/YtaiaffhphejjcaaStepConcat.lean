/- slices.Grow of no steps, and slices.Concat of lists of steps. -/
import Derived.Test.YtaiaffhphejjcaaStepRows
import Derived.Lib.AppendZerosOnto
namespace Go.Proofs.Ytaiaffhphejjcaa
open Go.RowKit
set_option linter.unusedVariables false

theorem ownM_mono {T : TypeId} {m : Nat} {w : World} {B B' : Nat} {v : Value} {n : Nat} {cs : List Value} (h : w.ownsRow B T m v n cs) (hb : B' ≤ B) : w.ownsRow B' T m v n cs := by
  obtain ⟨h1, h2⟩ := h
  refine ⟨h1, ?_⟩
  rcases h2 with h2 | ⟨g, cap, cur, hv, hg, hh, r⟩
  · exact .inl h2
  · exact .inr ⟨g, cap, cur, hv, by omega, hh, r⟩

/-- What the first k of these lists have, one behind the other. -/
def catSt (vs : List (Value × List St)) : Nat → List St
  | 0 => []
  | k + 1 => catSt vs k ++ (vs.getD k (.slice none 0 0, [])).2
theorem catSt_le (vs : List (Value × List St)) (n : Nat) : ∀ k, k ≤ n → (catSt vs k).length ≤ (catSt vs n).length := by
  induction n with
  | zero => intro k hk; obtain rfl : k = 0 := by omega
            exact Nat.le_refl _
  | succ n ih =>
    intro k hk
    by_cases e : k = n + 1
    · subst e; exact Nat.le_refl _
    · have := ih k (by omega)
      rw [catSt, List.length_append]
      omega

end Go.Proofs.Ytaiaffhphejjcaa
