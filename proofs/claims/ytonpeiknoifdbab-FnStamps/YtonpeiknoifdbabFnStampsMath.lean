/- Plain facts on stamps for FnStamps: the order's three ways; the next stamp is above all of a list, and the one before it is not. -/
import Derived.Test.YtonpeiknoifdbabStampNextCode
namespace Go.Proofs.Ytonpeiknoifdbab
open Go.RowKit
set_option linter.unusedVariables false

theorem lessS_five (t a t' a' : Int) : (t = t' ∧ a = a' ∧ lessS t a t' a' = false) ∨ ((t == t') = false ∧ lessS t a t' a' = true ∧ lessS t' a' t a = false) ∨ ((t == t') = false ∧ lessS t a t' a' = false ∧ lessS t' a' t a = true)
    ∨ (t = t' ∧ (a == a') = false ∧ lessS t a t' a' = true ∧ lessS t' a' t a = false) ∨ (t = t' ∧ (a == a') = false ∧ lessS t a t' a' = false ∧ lessS t' a' t a = true) := by
  simp only [lessS, decide_eq_true_eq, decide_eq_false_iff_not, beq_eq_false_iff_ne, ne_eq]
  omega

/-- All so far are below the stamp before the next one. -/
def abvTo (ls : List (Int × Int)) (u c : Int) : Nat → Bool
  | 0 => true
  | k + 1 => abvTo ls u c k && lessS (ls.getD k (0, 0)).1 (ls.getD k (0, 0)).2 (u - 1) c
theorem abvTo_get {ls : List (Int × Int)} {u c : Int} {n : Nat} (h : abvTo ls u c n = true) : ∀ k, k < n → lessS (ls.getD k (0, 0)).1 (ls.getD k (0, 0)).2 (u - 1) c = true := by
  induction n with
  | zero => intro k hk; omega
  | succ n ih =>
    intro k hk
    unfold abvTo at h
    rw [Bool.and_eq_true] at h
    by_cases e : k = n
    · rw [e]; exact h.2
    · exact ih h.1 k (by omega)
/-- The greatest so far is not below any of them, and is one of them or zero. -/
theorem topTo_ge (ls : List (Int × Int)) : ∀ n k, k < n → lessS (topTo ls n).1 (topTo ls n).2 (ls.getD k (0, 0)).1 (ls.getD k (0, 0)).2 = false := by
  intro n
  induction n with
  | zero => intro k hk; omega
  | succ n ih =>
    intro k hk
    have e : topTo ls (n + 1) = mxS (topTo ls n) (ls.getD n (0, 0)) := rfl
    rw [e]
    by_cases h : k = n
    · subst h
      by_cases hc : lessS (topTo ls k).1 (topTo ls k).2 (ls.getD k (0, 0)).1 (ls.getD k (0, 0)).2 = true
      · rw [show mxS (topTo ls k) (ls.getD k (0, 0)) = ls.getD k (0, 0) from if_pos hc]
        simp [lessS]
      · rw [show mxS (topTo ls k) (ls.getD k (0, 0)) = topTo ls k from if_neg hc]
        simpa using hc
    · have := ih k (by omega)
      by_cases hc : lessS (topTo ls n).1 (topTo ls n).2 (ls.getD n (0, 0)).1 (ls.getD n (0, 0)).2 = true
      · rw [show mxS (topTo ls n) (ls.getD n (0, 0)) = ls.getD n (0, 0) from if_pos hc]
        generalize topTo ls n = m at *
        generalize ls.getD n (0, 0) = s at *
        generalize ls.getD k (0, 0) = x at *
        simp only [lessS, decide_eq_true_eq, decide_eq_false_iff_not] at *
        omega
      · rw [show mxS (topTo ls n) (ls.getD n (0, 0)) = topTo ls n from if_neg hc]
        exact this
theorem topTo_in (ls : List (Int × Int)) : ∀ n, topTo ls n = (0, 0) ∨ ∃ k, k < n ∧ ls.getD k (0, 0) = topTo ls n := by
  intro n
  induction n with
  | zero => exact .inl rfl
  | succ n ih =>
    have e : topTo ls (n + 1) = mxS (topTo ls n) (ls.getD n (0, 0)) := rfl
    rw [e]
    unfold mxS
    split
    · exact .inr ⟨n, by omega, rfl⟩
    · rcases ih with h | ⟨k, hk, h⟩
      · exact .inl h
      · exact .inr ⟨k, by omega, h⟩

/-- The next stamp is above all. -/
theorem next_above {ls : List (Int × Int)} {c : Int} (h0 : 0 ≤ c) (h : allS ls = true) (k : Nat) (hk : k < ls.length) :
    lessS (ls.getD k (0, 0)).1 (ls.getD k (0, 0)).2 (upT (topTo ls ls.length).1 (topTo ls ls.length).2 c) c = true := by
  have ho := okS_bd (topTo_ok h ls.length)
  have hg := topTo_ge ls ls.length k hk
  have hk' := okS_bd (allS_get h k)
  rw [upT_eq ho]
  generalize topTo ls ls.length = m at *
  generalize ls.getD k (0, 0) = s at *
  simp only [lessS, decide_eq_true_eq, decide_eq_false_iff_not] at *
  split
  · omega
  · split <;> omega
/-- No earlier one of its actor is. -/
theorem next_least {ls : List (Int × Int)} {c : Int} (h0 : 0 ≤ c) (h : allS ls = true) :
    upT (topTo ls ls.length).1 (topTo ls ls.length).2 c = 1 ∨ abvTo ls (upT (topTo ls ls.length).1 (topTo ls ls.length).2 c) c ls.length = false := by
  have ho := okS_bd (topTo_ok h ls.length)
  rcases topTo_in ls ls.length with e | ⟨k, hk, e⟩
  · left
    rw [upT_eq ho, e]
    simp
  · by_cases h1 : upT (topTo ls ls.length).1 (topTo ls ls.length).2 c = 1
    · exact .inl h1
    · right
      cases hb : abvTo ls (upT (topTo ls ls.length).1 (topTo ls ls.length).2 c) c ls.length with
      | false => rfl
      | true =>
        exfalso
        have hl := abvTo_get hb k hk
        rw [e] at hl
        rw [upT_eq ho] at hl h1
        generalize topTo ls ls.length = m at *
        simp only [lessS, decide_eq_true_eq] at hl
        split at hl
        · rename_i hz
          rw [if_pos hz] at h1
          omega
        · split at hl <;> omega
/-- What StampNext answers: a code, or a stamp above all. -/
theorem nextS_ways (ls : List (Int × Int)) (c : Int) (hl : ls.length ≤ 20) : (∃ z : Int, (z = 4 ∨ z = 11) ∧ nextS ls c = .tuple #[.agg #[.int .i64 0, .int .i64 0], .int .i64 z])
    ∨ (∃ u : Int, nextS ls c = .tuple #[.agg #[.int .i64 u, .int .i64 c], .int .i64 0] ∧ stOK u c = true ∧ 1 ≤ u ∧ u ≤ 1000000000000 ∧ (∀ k, k < ls.length → lessS (ls.getD k (0, 0)).1 (ls.getD k (0, 0)).2 u c = true) ∧ (u = 1 ∨ abvTo ls u c ls.length = false)) := by
  have h4 : ¬ 4096 < ls.length := by omega
  by_cases hc : 0 ≤ c ∧ c < 16
  · cases ha : allS ls with
    | false => exact .inl ⟨4, .inl rfl, nextS_bad h4 (.inr ha)⟩
    | true =>
      rw [nextS_good h4 hc ha]
      cases ho : stOK (upT (topTo ls ls.length).1 (topTo ls ls.length).2 c) c with
      | false => exact .inl ⟨11, .inr rfl, above_no ho⟩
      | true =>
        refine .inr ⟨_, above_yes ho, ho, ?_, ?_, next_above hc.1 ha, next_least hc.1 ha⟩
        · have := ho
          simp only [stOK, decide_eq_true_eq] at this
          omega
        · have := ho
          simp only [stOK, decide_eq_true_eq] at this
          omega
  · exact .inl ⟨4, .inl rfl, nextS_bad h4 (.inl hc)⟩
end Go.Proofs.Ytonpeiknoifdbab
