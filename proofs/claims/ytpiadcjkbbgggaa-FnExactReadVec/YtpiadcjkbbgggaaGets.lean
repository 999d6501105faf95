/- Numbers read from bytes: plain facts. -/
import Derived.Test.YtpiadcjkbbgggaaBase
namespace Go.Proofs.Ytpiadcjkbbgggaa
open Go.RowKit
set_option linter.unusedVariables false

/-- All bytes. -/
def Bytes (xs : List Int) : Prop := ∀ c ∈ xs, 0 ≤ c ∧ c ≤ 255

/-- The number that stands at place p, of which i bytes were read and made v: at most f bytes more. -/
def getF (xs : List Int) : Nat → Nat → Nat → Int → Option (Int × Nat)
  | 0, _, _, _ => none
  | f + 1, i, p, v => match xs[p]? with
    | none => none
    | some c => if c < 128 then (if (i = 8 ∧ 63 < c) ∨ (i ≠ 0 ∧ c = 0) then none else some (v + c * 128 ^ i, p + 1)) else getF xs f (i + 1) (p + 1) (v + (c % 128) * 128 ^ i)
/-- The number at a place, and the place behind it. -/
def getL (xs : List Int) (p : Nat) : Option (Int × Nat) := getF xs 9 0 p 0

theorem getF_end {xs : List Int} {f i p : Nat} {v : Int} (h : xs.length ≤ p) : getF xs f i p v = none := by
  cases f with
  | zero => rfl
  | succ f => simp only [getF]; rw [List.getElem?_eq_none h]
theorem getF_last {xs : List Int} {f i p : Nat} {v : Int} (h : p < xs.length) (hc : xs[p] < 128) : getF xs (f + 1) i p v = if (i = 8 ∧ 63 < xs[p]) ∨ (i ≠ 0 ∧ xs[p] = 0) then none else some (v + xs[p] * 128 ^ i, p + 1) := by
  simp only [getF]; rw [List.getElem?_eq_getElem h]; simp only [hc, if_true]
theorem getF_more {xs : List Int} {f i p : Nat} {v : Int} (h : p < xs.length) (hc : ¬ xs[p] < 128) : getF xs (f + 1) i p v = getF xs f (i + 1) (p + 1) (v + (xs[p] % 128) * 128 ^ i) := by
  rw [getF]; rw [List.getElem?_eq_getElem h]; simp only [hc, if_false]

theorem pow_step (i : Nat) : (128 : Int) ^ (i + 1) = 128 ^ i * 128 := by rw [Int.pow_succ]
theorem pow_pos (i : Nat) : (0 : Int) < 128 ^ i := by
  induction i with
  | zero => decide
  | succ i ih => rw [pow_step]; omega
theorem pow_le {i j : Nat} (h : i ≤ j) : (128 : Int) ^ i ≤ 128 ^ j := by
  induction j with
  | zero => have : i = 0 := by omega
            subst this; omega
  | succ j ih =>
    by_cases e : i = j + 1
    · subst e; omega
    · have := ih (by omega); have := pow_pos j; rw [pow_step]; omega
theorem pow_8 {i : Nat} (h : i ≤ 8) : (128 : Int) ^ i ≤ 72057594037927936 := pow_le (j := 8) h
theorem mul_bd {c u : Int} {k : Int} (h0 : 0 ≤ c) (h1 : c ≤ k) (hu : 0 ≤ u) : 0 ≤ c * u ∧ c * u ≤ k * u := ⟨Int.mul_nonneg h0 hu, Int.mul_le_mul_of_nonneg_right h1 hu⟩

theorem getF_ok (xs : List Int) (hx : Bytes xs) : ∀ f i p v, f + i ≤ 9 → 0 ≤ v → v < 128 ^ i → ∀ a q, getF xs f i p v = some (a, q) → 0 ≤ a ∧ a ≤ 4611686018427387903 ∧ p < q ∧ q ≤ xs.length := by
  intro f
  induction f with
  | zero => intro i p v _ _ _ a q h; simp [getF] at h
  | succ f ih =>
    intro i p v hf h0 h1 a q h
    by_cases hp : p < xs.length
    · have hb := hx xs[p] (List.getElem_mem hp)
      have hpw := pow_pos i
      have hp8 := pow_8 (i := i) (by omega)
      by_cases hc : xs[p] < 128
      · rw [getF_last hp hc] at h
        split at h
        · simp at h
        · simp only [Option.some.injEq, Prod.mk.injEq] at h
          obtain ⟨rfl, rfl⟩ := h
          rename_i hn
          by_cases hi : i = 8
          · subst hi
            have e8 : (128 : Int) ^ 8 = 72057594037927936 := by decide
            rw [e8] at h1 ⊢
            omega
          · have hp7 := pow_le (i := i) (j := 7) (by omega)
            have e7 : (128 : Int) ^ 7 = 562949953421312 := by decide
            have := mul_bd (k := 127) hb.1 (by omega) (Int.le_of_lt hpw)
            omega
      · rw [getF_more hp hc] at h
        have hm := mul_bd (c := xs[p] % 128) (k := 127) (by omega) (by omega) (Int.le_of_lt hpw)
        have hs := pow_step i
        have := ih (i + 1) (p + 1) _ (by omega) (by omega) (by omega) a q h
        omega
    · rw [getF_end (by omega)] at h; simp at h
theorem getL_ok {xs : List Int} (hx : Bytes xs) {p q : Nat} {a : Int} (h : getL xs p = some (a, q)) : 0 ≤ a ∧ a ≤ 4611686018427387903 ∧ p < q ∧ q ≤ xs.length :=
  getF_ok xs hx 9 0 p 0 (by omega) (by omega) (by decide) a q h

/-- One byte more: the five ways. -/
theorem get_cases {xs : List Int} {p i : Nat} {v u c : Int} (hi : i ≤ 8) (hu : u = 128 ^ i) (hv0 : 0 ≤ v) (hv1 : v < u) (hG : getL xs p = getF xs (9 - i) i (p + i) v) (hlt : p + i < xs.length) (hc : xs[p + i] = c) (h0 : 0 ≤ c) (h1 : c ≤ 255) :
    (i = 8 ∧ 63 < c ∧ getL xs p = none) ∨ (i = 0 ∧ c < 128 ∧ getL xs p = some (v + c % 128 * u, p + i + 1)) ∨ (0 < i ∧ c = 0 ∧ getL xs p = none) ∨
    (0 < i ∧ 0 < c ∧ c < 128 ∧ (i = 8 → c ≤ 63) ∧ getL xs p = some (v + c % 128 * u, p + i + 1)) ∨
    (i < 8 ∧ 128 ≤ c ∧ getL xs p = getF xs (9 - (i + 1)) (i + 1) (p + (i + 1)) (v + c % 128 * u) ∧ u * 128 = 128 ^ (i + 1) ∧ 0 ≤ v + c % 128 * u ∧ v + c % 128 * u < u * 128) := by
  subst hc
  have hf : 9 - i = (8 - i) + 1 := by omega
  rw [hf] at hG
  by_cases h128 : xs[p + i] < 128
  · rw [getF_last hlt h128, ← hu] at hG
    have e : xs[p + i] % 128 = xs[p + i] := by omega
    rw [e]
    by_cases h8 : i = 8 ∧ 63 < xs[p + i]
    · rw [if_pos (.inl h8)] at hG
      exact .inl ⟨h8.1, h8.2, hG⟩
    · by_cases hz : i ≠ 0 ∧ xs[p + i] = 0
      · rw [if_pos (.inr hz)] at hG
        exact .inr (.inr (.inl ⟨by omega, hz.2, hG⟩))
      · rw [if_neg (by omega)] at hG
        by_cases hi0 : i = 0
        · exact .inr (.inl ⟨hi0, h128, hG⟩)
        · exact .inr (.inr (.inr (.inl ⟨by omega, by omega, h128, by omega, hG⟩)))
  · rw [getF_more hlt h128, ← hu] at hG
    by_cases h8 : i = 8
    · subst h8
      exact .inl ⟨rfl, by omega, by rw [hG]; rfl⟩
    · have hm := mul_bd (c := xs[p + i] % 128) (u := u) (k := 127) (by omega) (by omega) (by omega)
      refine .inr (.inr (.inr (.inr ⟨by omega, by omega, ?_, by rw [pow_step, hu], by omega, by omega⟩)))
      rw [hG, show 9 - (i + 1) = 8 - i by omega]
      rfl
theorem get_stop {xs : List Int} {p i : Nat} {v : Int} (hG : getL xs p = getF xs (9 - i) i (p + i) v) (h : xs.length ≤ p + i) : getL xs p = none := by rw [hG, getF_end h]
end Go.Proofs.Ytpiadcjkbbgggaa
