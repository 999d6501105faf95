/- Logs, plain facts: what says the same is valid alike. -/
import Derived.Test.YtnpiinjdaiobgaaLedgerOf
import Derived.Test.YtnpiinjdaiobgaaOpToS
namespace Go.Proofs.Ytnpiinjdaiobgaa
open Go.RowKit
set_option linter.unusedVariables false

theorem same_ok {x y : Ov} (h : x.same y) : x.ok = y.ok := by
  obtain ⟨h1, h2, h3, h4, h5, h6, h7, h8, h9, h10, h11, h12⟩ := h
  unfold Ov.ok
  rw [h1, h2, h3, h4, h5, h6, h7, h8, h9, h10, h11, h12]
theorem same_refl (x : Ov) : x.same x := ⟨rfl, rfl, rfl, rfl, rfl, rfl, rfl, rfl, rfl, rfl, rfl, rfl⟩
/-- Two lists say the same. -/
inductive Sm : List Ov → List Ov → Prop where
  | nil : Sm [] []
  | cons {x y : Ov} {M L : List Ov} : x.same y → Sm M L → Sm (x :: M) (y :: L)
theorem sm_of : ∀ (M L : List Ov), SameL M L → Sm M L
  | [], [], _ => .nil
  | [], y :: L, h => by have := h.1; simp at this
  | x :: M, [], h => by have := h.1; simp at this
  | x :: M, y :: L, h => .cons (h.2 0 (by simp)) (sm_of M L ⟨by have := h.1; simpa using this, fun k hk => h.2 (k + 1) (by simpa using hk)⟩)
theorem Sm.len {M L : List Ov} (h : Sm M L) : M.length = L.length := by
  induction h with
  | nil => rfl
  | cons _ _ ih => simp [ih]
theorem Sm.at {M L : List Ov} (h : Sm M L) : ∀ k, (ovAt M k).same (ovAt L k) := by
  induction h with
  | nil => intro k; exact same_refl _
  | cons hx _ ih =>
    intro k
    cases k with
    | zero => exact hx
    | succ k => exact ih k
theorem Sm.take {M L : List Ov} (h : Sm M L) : ∀ k, Sm (M.take k) (L.take k) := by
  induction h with
  | nil => intro k; simp; exact .nil
  | cons hx _ ih =>
    intro k
    cases k with
    | zero => exact .nil
    | succ k => exact .cons hx (ih k)
theorem Sm.byA {M L : List Ov} (h : Sm M L) (a : Nat) : Sm (byA M a) (byA L a) := by
  induction h with
  | nil => exact .nil
  | cons hx _ ih =>
    unfold Go.Proofs.Ytnpiinjdaiobgaa.byA at ih ⊢
    simp only [List.filter_cons, hx.1]
    split
    · exact .cons hx ih
    · exact ih
theorem Sm.ts {M L : List Ov} (h : Sm M L) : tsOf M = tsOf L := by
  unfold tsOf
  generalize List.replicate 101 (0 : Int) = ts
  induction h generalizing ts with
  | nil => rfl
  | cons hx _ ih =>
    obtain ⟨h1, h2, h3, h4, h5, h6, _⟩ := hx
    simp only [List.foldl_cons, h5, h6]
    exact ih _
theorem Sm.cause {M L : List Ov} (h : Sm M L) {x y : Ov} (hxy : x.same y) (a : Nat) : causeOK M x a = causeOK L y a := by
  obtain ⟨h1, h2, h3, h4, _⟩ := hxy
  have hb := h.byA a
  have ha := hb.at (y.ds.getD a 0 - 1).toNat
  unfold causeOK
  rw [h1, h3, h4, hb.len, ha.1, ha.2.2.1]
theorem Sm.causes {M L : List Ov} (h : Sm M L) {x y : Ov} (hxy : x.same y) : causesB M x = causesB L y := by
  unfold causesB
  rw [show causeOK M x = causeOK L y from funext (h.cause hxy)]
theorem Sm.step {M L : List Ov} (h : Sm M L) (i : Nat) : stepI M i = stepI L i := by
  have ha := h.at i
  have hp := h.at (i - 1)
  have ht := h.take i
  unfold stepI nextB suitB
  rw [same_ok ha, ht.ts, (ht.byA _).len, ha.1, ha.2.1, ha.2.2.2.2.1, ha.2.2.2.2.2.1, hp.1]
theorem Sm.all {M L : List Ov} (h : Sm M L) {A B : List Ov} (hA : Sm A B) : A.all (causesB M) = B.all (causesB L) := by
  induction hA with
  | nil => rfl
  | cons hx _ ih => simp only [List.all_cons, h.causes hx, ih]
theorem logI_same {M L : List Ov} (h : SameL M L) : logI M = logI L := by
  have hs := sm_of M L h
  unfold logI
  rw [hs.len, show stepI M = stepI L from funext hs.step, hs.all hs]
end Go.Proofs.Ytnpiinjdaiobgaa
