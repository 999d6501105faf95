/- The records with which bytes begin: plain facts. -/
import Derived.Test.YtcjlihfkibpgoaaGreatDoorQReadRec
namespace Go.Proofs.YtcjlihfkibpgoaaGreatDoor
open Go.RowKit
set_option linter.unusedVariables false

theorem recRd_step {xs : List Int} (hx : Bytes xs) {p r : Nat} {x : Ov} (h : recRd xs p = some (x, r)) : p < r ∧ r ≤ xs.length := by
  unfold recRd at h
  cases hg : getL xs p with
  | none => rw [hg] at h; cases h
  | some z =>
    obtain ⟨n, q⟩ := z
    rw [hg] at h
    simp only at h
    have hq := getL_ok hx hg
    split at h
    · rename_i hc
      split at h
      · cases h
      · simp only [Option.some.injEq, Prod.mk.injEq] at h
        omega
    · cases h
theorem opCd_ok {xs : List Int} {x : Ov} (h : opCd xs = some x) : x.ok = true := by
  unfold opCd at h
  split at h
  · cases h
  · split at h
    · split at h
      · cases h
      · split at h
        · rename_i hc
          simp only [Option.some.injEq] at h
          rw [← h]; exact hc.2.2
        · cases h
    · cases h
theorem opCd_ds {xs : List Int} {x : Ov} (h : opCd xs = some x) : x.ds.length = 16 := by
  unfold opCd at h
  split at h
  · cases h
  · split at h
    · rename_i hT
      split at h
      · cases h
      · split at h
        · simp only [Option.some.injEq] at h
          rw [← h]
          show (List.drop 9 _).length = 16
          rw [List.length_drop, hT]
        · cases h
    · cases h
theorem recRd_op {xs : List Int} {p r : Nat} {x : Ov} (h : recRd xs p = some (x, r)) : x.ok = true ∧ x.ds.length = 16 := by
  unfold recRd at h
  split at h
  · cases h
  · split at h
    · split at h
      · cases h
      · rename_i hc
        simp only [Option.some.injEq, Prod.mk.injEq] at h
        rw [← h.1]
        exact ⟨opCd_ok hc, opCd_ds hc⟩
    · cases h
theorem recRd_end {xs : List Int} (hx : Bytes xs) : recRd xs xs.length = none := by
  cases h : recRd xs xs.length with
  | none => rfl
  | some z => obtain ⟨x, r⟩ := z; have := recRd_step hx h; omega

/-- The operations of the records from a place on, and the place behind them. -/
def recsF (xs : List Int) : Nat → Nat → List Ov × Nat
  | 0, p => ([], p)
  | f + 1, p => match recRd xs p with
    | none => ([], p)
    | some (x, r) => (x :: (recsF xs f r).1, (recsF xs f r).2)
theorem recsF_more {xs : List Int} (hx : Bytes xs) : ∀ f g p, p ≤ xs.length → xs.length + 1 - p ≤ f → xs.length + 1 - p ≤ g → recsF xs f p = recsF xs g p
  | 0, _, p, hp, hf, _ => by omega
  | _ + 1, 0, p, hp, _, hg => by omega
  | f + 1, g + 1, p, hp, hf, hg => by
    unfold recsF
    cases h : recRd xs p with
    | none => rfl
    | some z =>
      obtain ⟨x, r⟩ := z
      have hr := recRd_step hx h
      simp only
      rw [recsF_more hx f g r hr.2 (by omega) (by omega)]
def recs (xs : List Int) (p : Nat) : List Ov × Nat := recsF xs (xs.length + 1 - p) p
theorem recs_none {xs : List Int} {p : Nat} (h : recRd xs p = none) : recs xs p = ([], p) := by
  unfold recs
  cases xs.length + 1 - p with
  | zero => rfl
  | succ f => unfold recsF; rw [h]
theorem recs_some {xs : List Int} (hx : Bytes xs) {p r : Nat} {x : Ov} (hp : p ≤ xs.length) (h : recRd xs p = some (x, r)) : recs xs p = (x :: (recs xs r).1, (recs xs r).2) := by
  have hr := recRd_step hx h
  unfold recs
  obtain ⟨f, hf⟩ : ∃ f, xs.length + 1 - p = f + 1 := ⟨xs.length - p, by omega⟩
  rw [hf]
  conv => lhs; unfold recsF
  rw [h]
  simp only
  rw [recsF_more hx f (xs.length + 1 - r) r hr.2 (by omega) (by omega)]
theorem recs_len {xs : List Int} (hx : Bytes xs) : ∀ n p, xs.length - p ≤ n → p ≤ xs.length → (recs xs p).1.length + p ≤ (recs xs p).2 ∧ (recs xs p).2 ≤ xs.length
  | 0, p, h, hp => by
    obtain rfl : p = xs.length := by omega
    rw [recs_none (recRd_end hx)]
    simp
  | n + 1, p, h, hp => by
    cases hr : recRd xs p with
    | none => rw [recs_none hr]; simpa using hp
    | some z =>
      obtain ⟨x, r⟩ := z
      have h1 := recRd_step hx hr
      have ih := recs_len hx n r (by omega) h1.2
      rw [recs_some hx hp hr]
      simp only [List.length_cons]
      omega
theorem recs_ops {xs : List Int} (hx : Bytes xs) : ∀ n p, xs.length - p ≤ n → p ≤ xs.length → ∀ x ∈ (recs xs p).1, x.ok = true ∧ x.ds.length = 16
  | 0, p, h, hp => by
    obtain rfl : p = xs.length := by omega
    rw [recs_none (recRd_end hx)]
    simp
  | n + 1, p, h, hp => by
    cases hr : recRd xs p with
    | none => rw [recs_none hr]; simp
    | some z =>
      obtain ⟨y, r⟩ := z
      have h1 := recRd_step hx hr
      have ih := recs_ops hx n r (by omega) h1.2
      rw [recs_some hx hp hr]
      intro x hm
      rcases List.mem_cons.1 hm with rfl | hm
      · exact recRd_op hr
      · exact ih x hm
end Go.Proofs.YtcjlihfkibpgoaaGreatDoor
