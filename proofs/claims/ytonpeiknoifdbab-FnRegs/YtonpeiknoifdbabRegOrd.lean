/- The order of registers: plain facts. -/
import Derived.Test.YtonpeiknoifdbabRegJoins
namespace Go.Proofs.Ytonpeiknoifdbab
open Go.RowKit
set_option linter.unusedVariables false

theorem bl_irrefl (x : List UInt8) : Op.bytesLess x x = false := by
  induction x with
  | nil => rfl
  | cons a x ih => simp [Op.bytesLess, ih]
theorem bl_trans : ∀ (x y z : List UInt8), Op.bytesLess x y = true → Op.bytesLess y z = true → Op.bytesLess x z = true := by
  intro x
  induction x with
  | nil =>
    intro y z h1 h2
    cases z with
    | nil => cases y <;> simp [Op.bytesLess] at h2
    | cons c z => rfl
  | cons a x ih =>
    intro y z h1 h2
    cases y with
    | nil => simp [Op.bytesLess] at h1
    | cons b y =>
      cases z with
      | nil => simp [Op.bytesLess] at h2
      | cons c z =>
        simp only [Op.bytesLess, Bool.or_eq_true, decide_eq_true_eq, Bool.and_eq_true, beq_iff_eq] at h1 h2 ⊢
        rcases h1 with h1 | ⟨rfl, h1⟩
        · rcases h2 with h2 | ⟨rfl, h2⟩
          · exact .inl (UInt8.lt_trans h1 h2)
          · exact .inl h1
        · rcases h2 with h2 | ⟨rfl, h2⟩
          · exact .inl h2
          · exact .inr ⟨rfl, ih y z h1 h2⟩
theorem bl_tri : ∀ x y : List UInt8, Op.bytesLess x y = true ∨ x = y ∨ Op.bytesLess y x = true := by
  intro x
  induction x with
  | nil =>
    intro y
    cases y with
    | nil => exact .inr (.inl rfl)
    | cons b y => exact .inl rfl
  | cons a x ih =>
    intro y
    cases y with
    | nil => exact .inr (.inr rfl)
    | cons b y =>
      simp only [Op.bytesLess, Bool.or_eq_true, decide_eq_true_eq, Bool.and_eq_true, beq_iff_eq]
      by_cases h1 : a < b
      · exact .inl (.inl h1)
      · by_cases h2 : b < a
        · exact .inr (.inr (.inl h2))
        · have e : a = b := by
            have h1' : ¬ a.toNat < b.toNat := h1
            have h2' : ¬ b.toNat < a.toNat := h2
            exact UInt8.toNat_inj.1 (by omega)
          subst e
          rcases ih y with h | rfl | h
          · exact .inl (.inr ⟨rfl, h⟩)
          · exact .inr (.inl rfl)
          · exact .inr (.inr (.inr ⟨rfl, h⟩))
theorem toList_same' (a : ByteArray) : a.toList = a.data.toList := by
  have loop : ∀ (n i : Nat) (r : List UInt8), a.size - i = n → ByteArray.toList.loop a i r = r.reverse ++ a.data.toList.drop i := by
    intro n
    induction n with
    | zero =>
      intro i r h
      rw [ByteArray.toList.loop]
      have hi : ¬ i < a.size := by omega
      rw [if_neg hi, List.drop_of_length_le (by rw [Array.length_toList]; exact Nat.le_of_not_lt hi), List.append_nil]
    | succ n ih =>
      intro i r h
      rw [ByteArray.toList.loop]
      have hi : i < a.size := by omega
      rw [if_pos hi, ih (i + 1) _ (by omega), List.reverse_cons, List.append_assoc]
      congr 1
      have hj : i < a.data.toList.length := by rw [Array.length_toList]; exact hi
      rw [List.drop_eq_getElem_cons hj]
      simp [ByteArray.get!, hi]
  have := loop a.size 0 [] (by omega)
  simpa [ByteArray.toList] using this
theorem bytes_inj {a b : ByteArray} (h : a.toList = b.toList) : a = b := by
  rw [toList_same', toList_same'] at h
  cases a with
  | mk x =>
    cases b with
    | mk y =>
      simp only [ByteArray.mk.injEq]
      exact Array.toList_inj.1 h

/-- A register; its value; whether it is valid; its order; the greater of two. -/
abbrev Rg := Int × Int × ByteArray
def rgV (A : Rg) : Value := .agg #[.int .i64 A.1, .int .i64 A.2.1, .string A.2.2]
def rgOk (A : Rg) : Bool := rgOK A.1 A.2.1 A.2.2
abbrev rgLt (A B : Rg) : Prop := lessR A.1 A.2.1 A.2.2 B.1 B.2.1 B.2.2 = true
def rgG (A B : Rg) : Rg := if rgLt A B then B else A
theorem rgLt_iff (A B : Rg) : rgLt A B ↔ (A.1 < B.1 ∨ A.1 = B.1 ∧ A.2.1 < B.2.1) ∨ (A.1 = B.1 ∧ A.2.1 = B.2.1) ∧ Op.bytesLess A.2.2.toList B.2.2.toList = true := lessR_iff _ _ _ _ _ _
theorem rgLt_asym {A B : Rg} (h : rgLt A B) (k : rgLt B A) : False := by
  rw [rgLt_iff] at h k
  rcases h with h | ⟨h, hb⟩
  · rcases k with k | ⟨k, _⟩ <;> omega
  · rcases k with k | ⟨_, kb⟩
    · omega
    · have := bl_trans _ _ _ hb kb
      rw [bl_irrefl] at this
      cases this
theorem rgLt_trans {A B C : Rg} (h : rgLt A B) (k : rgLt B C) : rgLt A C := by
  rw [rgLt_iff] at h k ⊢
  rcases h with h | ⟨h, hb⟩
  · refine .inl ?_
    rcases k with k | ⟨k, _⟩ <;> omega
  · rcases k with k | ⟨k, kb⟩
    · refine .inl ?_
      omega
    · exact .inr ⟨⟨h.1.trans k.1, h.2.trans k.2⟩, bl_trans _ _ _ hb kb⟩
theorem rgLt_tri (A B : Rg) : rgLt A B ∨ A = B ∨ rgLt B A := by
  obtain ⟨t, a, s⟩ := A
  obtain ⟨t', a', s'⟩ := B
  rw [rgLt_iff, rgLt_iff]
  simp only
  by_cases h1 : t = t'
  · by_cases h2 : a = a'
    · subst h1 h2
      rcases bl_tri s.toList s'.toList with h | h | h
      · exact .inl (.inr ⟨⟨rfl, rfl⟩, h⟩)
      · exact .inr (.inl (by rw [bytes_inj h]))
      · exact .inr (.inr (.inr ⟨⟨rfl, rfl⟩, h⟩))
    · by_cases h3 : a < a'
      · exact .inl (.inl (.inr ⟨h1, h3⟩))
      · exact .inr (.inr (.inl (.inr ⟨h1.symm, by omega⟩)))
  · by_cases h3 : t < t'
    · exact .inl (.inl (.inl h3))
    · exact .inr (.inr (.inl (.inl (by omega))))
theorem rgG_comm (A B : Rg) : rgG A B = rgG B A := by
  unfold rgG
  by_cases h : rgLt A B
  · rw [if_pos h, if_neg (fun k => rgLt_asym h k)]
  · rw [if_neg h]
    by_cases k : rgLt B A
    · rw [if_pos k]
    · rw [if_neg k]
      rcases rgLt_tri A B with e | e | e
      · exact absurd e h
      · exact e
      · exact absurd e k
theorem rgG_mem (A B : Rg) : rgG A B = A ∨ rgG A B = B := by
  unfold rgG
  split
  · exact .inr rfl
  · exact .inl rfl
theorem rgG_assoc (A B C : Rg) : rgG (rgG A B) C = rgG A (rgG B C) := by
  unfold rgG
  by_cases h1 : rgLt A B
  · rw [if_pos h1]
    by_cases h2 : rgLt B C
    · rw [if_pos h2, if_pos (rgLt_trans h1 h2)]
    · rw [if_neg h2, if_pos h1]
  · rw [if_neg h1]
    by_cases h2 : rgLt B C
    · rw [if_pos h2]
    · rw [if_neg h2, if_neg h1, if_neg]
      intro k
      rcases rgLt_tri A B with e | e | e
      · exact h1 e
      · rw [e] at k; exact h2 k
      · exact h2 (rgLt_trans e k)
theorem rgG_ok {A B : Rg} (h : rgOk A = true) (k : rgOk B = true) : rgOk (rgG A B) = true := by
  rcases rgG_mem A B with e | e <;> rw [e] <;> assumption

/-- What both functions RegJoin answer. -/
theorem rJoin_yes {A B : Rg} (h : rgOk A = true) (k : rgOk B = true) : rJoin A.1 A.2.1 A.2.2 B.1 B.2.1 B.2.2 = .tuple #[rgV (rgG A B), .int .i64 0] := by
  have h' : rgOK A.1 A.2.1 A.2.2 = true := h
  have k' : rgOK B.1 B.2.1 B.2.2 = true := k
  unfold rJoin
  rw [h', k', Bool.and_self, if_pos rfl]
  by_cases hl : rgLt A B
  · have hl' : lessR A.1 A.2.1 A.2.2 B.1 B.2.1 B.2.2 = true := hl
    unfold rgG rGr
    rw [if_pos hl, if_pos hl']
    rfl
  · have hl' : ¬ lessR A.1 A.2.1 A.2.2 B.1 B.2.1 B.2.2 = true := hl
    unfold rgG rGr
    rw [if_neg hl, if_neg hl']
    rfl
theorem rJoin_no {A B : Rg} (h : (rgOk A && rgOk B) = false) : rJoin A.1 A.2.1 A.2.2 B.1 B.2.1 B.2.2 = .tuple #[.agg #[.int .i64 0, .int .i64 0, .string ⟨#[]⟩], .int .i64 1] := by
  have h' : (rgOK A.1 A.2.1 A.2.2 && rgOK B.1 B.2.1 B.2.2) = false := h
  unfold rJoin
  rw [h', if_neg (by decide)]
  rfl

end Go.Proofs.Ytonpeiknoifdbab
