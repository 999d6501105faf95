/- The order of texts, byte by byte: plain facts. -/
import Derived.Test.YtlncfeakcgjioaaBase
import Derived.Lib.Bytealg
namespace Go.Proofs.Ytlncfeakcgjioaa
open Go.RowKit
set_option linter.unusedVariables false

theorem bl_irreflL (x : List UInt8) : Op.bytesLess x x = false := by
  induction x with
  | nil => rfl
  | cons a x ih => simp [Op.bytesLess, ih]
theorem bl_transL : ∀ (x y z : List UInt8), Op.bytesLess x y = true → Op.bytesLess y z = true → Op.bytesLess x z = true := by
  intro x
  induction x with
  | nil =>
    intro y z h1 h2
    cases z with
    | nil => cases y <;> simp [Op.bytesLess] at h2
    | cons c z => rfl
  | cons a x ih =>
    intro y z h1 h2
    cases y with
    | nil => simp [Op.bytesLess] at h1
    | cons b y =>
      cases z with
      | nil => simp [Op.bytesLess] at h2
      | cons c z =>
        simp only [Op.bytesLess, Bool.or_eq_true, decide_eq_true_eq, Bool.and_eq_true, beq_iff_eq] at h1 h2 ⊢
        rcases h1 with h1 | ⟨rfl, h1⟩
        · rcases h2 with h2 | ⟨rfl, h2⟩
          · exact .inl (UInt8.lt_trans h1 h2)
          · exact .inl h1
        · rcases h2 with h2 | ⟨rfl, h2⟩
          · exact .inl h2
          · exact .inr ⟨rfl, ih y z h1 h2⟩
theorem bl_triL : ∀ x y : List UInt8, Op.bytesLess x y = true ∨ x = y ∨ Op.bytesLess y x = true := by
  intro x
  induction x with
  | nil =>
    intro y
    cases y with
    | nil => exact .inr (.inl rfl)
    | cons b y => exact .inl rfl
  | cons a x ih =>
    intro y
    cases y with
    | nil => exact .inr (.inr rfl)
    | cons b y =>
      simp only [Op.bytesLess, Bool.or_eq_true, decide_eq_true_eq, Bool.and_eq_true, beq_iff_eq]
      by_cases h1 : a < b
      · exact .inl (.inl h1)
      · by_cases h2 : b < a
        · exact .inr (.inr (.inl h2))
        · have e : a = b := by
            have h1' : ¬ a.toNat < b.toNat := h1
            have h2' : ¬ b.toNat < a.toNat := h2
            exact UInt8.toNat_inj.1 (by omega)
          subst e
          rcases ih y with h | rfl | h
          · exact .inl (.inr ⟨rfl, h⟩)
          · exact .inr (.inl rfl)
          · exact .inr (.inr (.inr ⟨rfl, h⟩))
theorem cmp_lt : ∀ x y : List UInt8, (Lib.compareBytes x y < 0) ↔ Op.bytesLess x y = true
  | [], [] => by simp [Lib.compareBytes, Op.bytesLess]
  | [], _ :: _ => by simp [Lib.compareBytes, Op.bytesLess]
  | _ :: _, [] => by simp [Lib.compareBytes, Op.bytesLess]
  | a :: xs, b :: ys => by
    have ih := cmp_lt xs ys
    rw [Lib.compareBytes]
    by_cases h1 : a < b
    · simp [h1, Op.bytesLess]
    · by_cases h2 : b < a
      · have : ¬ a = b := fun e => by subst e; exact h1 h2
        simp [h1, h2, Op.bytesLess, this]
      · have e : a = b := UInt8.le_antisymm (UInt8.not_lt.1 h2) (UInt8.not_lt.1 h1)
        subst e
        simp [Op.bytesLess, ih]
theorem cmp_zero : ∀ x y : List UInt8, (Lib.compareBytes x y = 0) ↔ x = y
  | [], [] => by simp [Lib.compareBytes]
  | [], _ :: _ => by simp [Lib.compareBytes]
  | _ :: _, [] => by simp [Lib.compareBytes]
  | a :: xs, b :: ys => by
    have ih := cmp_zero xs ys
    rw [Lib.compareBytes]
    by_cases h1 : a < b
    · have : ¬ a = b := fun e => by subst e; exact UInt8.lt_irrefl _ h1
      simp [h1, this]
    · by_cases h2 : b < a
      · have : ¬ a = b := fun e => by subst e; exact h1 h2
        simp [h1, h2, this]
      · have e : a = b := UInt8.le_antisymm (UInt8.not_lt.1 h2) (UInt8.not_lt.1 h1)
        subst e
        simp [ih]

/-- One name stands ahead of another one. -/
def ltN (a b : ByteArray) : Bool := Op.bytesLess a.toList b.toList
def eqN (a b : ByteArray) : Bool := a.toList == b.toList
theorem ltN_cmp (a b : ByteArray) : (Lib.compareBytes a.data.toList b.data.toList < 0) ↔ ltN a b = true := by
  unfold ltN
  rw [ByteArray.toList_eq, ByteArray.toList_eq]
  exact cmp_lt _ _
theorem eqN_cmp (a b : ByteArray) : (Lib.compareBytes a.data.toList b.data.toList = 0) ↔ eqN a b = true := by
  unfold eqN
  rw [ByteArray.toList_eq, ByteArray.toList_eq, beq_iff_eq]
  exact cmp_zero _ _
theorem ltN_irrefl (a : ByteArray) : ltN a a = false := bl_irreflL _
theorem ltN_trans {a b c : ByteArray} (h : ltN a b = true) (k : ltN b c = true) : ltN a c = true := bl_transL _ _ _ h k
theorem eqN_lt {a b : ByteArray} (h : eqN a b = true) : ltN a b = false := by
  unfold eqN at h
  unfold ltN
  rw [eq_of_beq h]
  exact bl_irreflL _
theorem ltN_tri {a b : ByteArray} (h : ltN a b = false) (k : eqN a b = false) : ltN b a = true := by
  unfold ltN at *
  rcases bl_triL a.toList b.toList with h1 | h1 | h1
  · rw [h1] at h; cases h
  · unfold eqN at k; rw [h1] at k; simp at k
  · exact h1
theorem ltN_eq {a b c : ByteArray} (h : eqN a b = true) : ltN a c = ltN b c ∧ ltN c a = ltN c b ∧ eqN a c = eqN b c := by
  unfold ltN eqN at *
  rw [eq_of_beq h]
  exact ⟨rfl, rfl, rfl⟩

theorem leN (a b : ByteArray) : (Op.bytesLess a.toList b.toList || a.toList == b.toList) = !ltN b a := by
  cases h : ltN b a with
  | true =>
    have h1 : ltN a b = false := by
      cases h2 : ltN a b with
      | false => rfl
      | true => have := ltN_trans h h2; rw [ltN_irrefl] at this; cases this
    have h3 : eqN a b = false := by
      cases h4 : eqN a b with
      | false => rfl
      | true =>
        have h5 := (ltN_eq (c := b) h4).2.1
        rw [h, ltN_irrefl] at h5
        cases h5
    unfold ltN at h1
    unfold eqN at h3
    rw [h1, h3]
    rfl
  | false =>
    cases h3 : eqN a b with
    | true => unfold eqN at h3; rw [h3]; simp
    | false =>
      have h1 : ltN a b = true := by
        cases h2 : ltN a b with
        | true => rfl
        | false => have := ltN_tri h2 h3; rw [h] at this; cases this
      unfold ltN at h1
      rw [h1]
      rfl

end Go.Proofs.Ytlncfeakcgjioaa
