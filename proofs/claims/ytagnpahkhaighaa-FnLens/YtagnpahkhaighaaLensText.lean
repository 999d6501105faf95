/- The order of names, where a name stands in a form that rises, and what a step makes of a form: plain facts. -/
import Derived.Test.YtagnpahkhaighaaPairRows
import Derived.Test.YtagnpahkhaighaaLensOK
import Derived.Lib.Bytealg
namespace Go.Proofs.Ytagnpahkhaighaa
open Go.RowKit
set_option linter.unusedVariables false

theorem bl_irreflL (x : List UInt8) : Op.bytesLess x x = false := by
  induction x with
  | nil => rfl
  | cons a x ih => simp [Op.bytesLess, ih]
theorem bl_transL : ∀ (x y z : List UInt8), Op.bytesLess x y = true → Op.bytesLess y z = true → Op.bytesLess x z = true := by
  intro x
  induction x with
  | nil =>
    intro y z h1 h2
    cases z with
    | nil => cases y <;> simp [Op.bytesLess] at h2
    | cons c z => rfl
  | cons a x ih =>
    intro y z h1 h2
    cases y with
    | nil => simp [Op.bytesLess] at h1
    | cons b y =>
      cases z with
      | nil => simp [Op.bytesLess] at h2
      | cons c z =>
        simp only [Op.bytesLess, Bool.or_eq_true, decide_eq_true_eq, Bool.and_eq_true, beq_iff_eq] at h1 h2 ⊢
        rcases h1 with h1 | ⟨rfl, h1⟩
        · rcases h2 with h2 | ⟨rfl, h2⟩
          · exact .inl (UInt8.lt_trans h1 h2)
          · exact .inl h1
        · rcases h2 with h2 | ⟨rfl, h2⟩
          · exact .inl h2
          · exact .inr ⟨rfl, ih y z h1 h2⟩
theorem bl_triL : ∀ x y : List UInt8, Op.bytesLess x y = true ∨ x = y ∨ Op.bytesLess y x = true := by
  intro x
  induction x with
  | nil =>
    intro y
    cases y with
    | nil => exact .inr (.inl rfl)
    | cons b y => exact .inl rfl
  | cons a x ih =>
    intro y
    cases y with
    | nil => exact .inr (.inr rfl)
    | cons b y =>
      simp only [Op.bytesLess, Bool.or_eq_true, decide_eq_true_eq, Bool.and_eq_true, beq_iff_eq]
      by_cases h1 : a < b
      · exact .inl (.inl h1)
      · by_cases h2 : b < a
        · exact .inr (.inr (.inl h2))
        · have e : a = b := by
            have h1' : ¬ a.toNat < b.toNat := h1
            have h2' : ¬ b.toNat < a.toNat := h2
            exact UInt8.toNat_inj.1 (by omega)
          subst e
          rcases ih y with h | rfl | h
          · exact .inl (.inr ⟨rfl, h⟩)
          · exact .inr (.inl rfl)
          · exact .inr (.inr (.inr ⟨rfl, h⟩))
theorem cmp_lt : ∀ x y : List UInt8, (Lib.compareBytes x y < 0) ↔ Op.bytesLess x y = true
  | [], [] => by simp [Lib.compareBytes, Op.bytesLess]
  | [], _ :: _ => by simp [Lib.compareBytes, Op.bytesLess]
  | _ :: _, [] => by simp [Lib.compareBytes, Op.bytesLess]
  | a :: xs, b :: ys => by
    have ih := cmp_lt xs ys
    rw [Lib.compareBytes]
    by_cases h1 : a < b
    · simp [h1, Op.bytesLess]
    · by_cases h2 : b < a
      · have : ¬ a = b := fun e => by subst e; exact h1 h2
        simp [h1, h2, Op.bytesLess, this]
      · have e : a = b := UInt8.le_antisymm (UInt8.not_lt.1 h2) (UInt8.not_lt.1 h1)
        subst e
        simp [Op.bytesLess, ih]
theorem cmp_zero : ∀ x y : List UInt8, (Lib.compareBytes x y = 0) ↔ x = y
  | [], [] => by simp [Lib.compareBytes]
  | [], _ :: _ => by simp [Lib.compareBytes]
  | _ :: _, [] => by simp [Lib.compareBytes]
  | a :: xs, b :: ys => by
    have ih := cmp_zero xs ys
    rw [Lib.compareBytes]
    by_cases h1 : a < b
    · have : ¬ a = b := fun e => by subst e; exact UInt8.lt_irrefl _ h1
      simp [h1, this]
    · by_cases h2 : b < a
      · have : ¬ a = b := fun e => by subst e; exact h1 h2
        simp [h1, h2, this]
      · have e : a = b := UInt8.le_antisymm (UInt8.not_lt.1 h2) (UInt8.not_lt.1 h1)
        subst e
        simp [ih]

/-- One name stands ahead of another one. -/
def ltN (a b : ByteArray) : Bool := Op.bytesLess a.toList b.toList
def eqN (a b : ByteArray) : Bool := a.toList == b.toList
theorem ltN_cmp (a b : ByteArray) : (Lib.compareBytes a.data.toList b.data.toList < 0) ↔ ltN a b = true := by
  unfold ltN
  rw [ByteArray.toList_eq, ByteArray.toList_eq]
  exact cmp_lt _ _
theorem eqN_cmp (a b : ByteArray) : (Lib.compareBytes a.data.toList b.data.toList = 0) ↔ eqN a b = true := by
  unfold eqN
  rw [ByteArray.toList_eq, ByteArray.toList_eq, beq_iff_eq]
  exact cmp_zero _ _
theorem ltN_irrefl (a : ByteArray) : ltN a a = false := bl_irreflL _
theorem ltN_trans {a b c : ByteArray} (h : ltN a b = true) (k : ltN b c = true) : ltN a c = true := bl_transL _ _ _ h k
theorem eqN_lt {a b : ByteArray} (h : eqN a b = true) : ltN a b = false := by
  unfold eqN at h
  unfold ltN
  rw [eq_of_beq h]
  exact bl_irreflL _
theorem ltN_tri {a b : ByteArray} (h : ltN a b = false) (k : eqN a b = false) : ltN b a = true := by
  unfold ltN at *
  rcases bl_triL a.toList b.toList with h1 | h1 | h1
  · rw [h1] at h; cases h
  · unfold eqN at k; rw [h1] at k; simp at k
  · exact h1
theorem ltN_eq {a b c : ByteArray} (h : eqN a b = true) : ltN a c = ltN b c ∧ ltN c a = ltN c b ∧ eqN a c = eqN b c := by
  unfold ltN eqN at *
  rw [eq_of_beq h]
  exact ⟨rfl, rfl, rfl⟩

/-- The Names rise. -/
def Rises (ls : List Pr) : Prop := ∀ i j, i < j → j < ls.length → ltN (prAt ls i).1 (prAt ls j).1 = true
/-- p is the place of a name: just the pairs ahead of it have lesser ones. -/
def IsPos (ls : List Pr) (n : ByteArray) (p : Nat) : Prop := p ≤ ls.length ∧ (∀ k, k < p → ltN (prAt ls k).1 n = true) ∧ ∀ k, p ≤ k → k < ls.length → ltN (prAt ls k).1 n = false
theorem IsPos.uniq {ls : List Pr} {n : ByteArray} {p q : Nat} (h : IsPos ls n p) (k : IsPos ls n q) : p = q := by
  obtain ⟨h1, h2, h3⟩ := h
  obtain ⟨k1, k2, k3⟩ := k
  rcases Nat.lt_trichotomy p q with e | e | e
  · have := k2 p e; rw [h3 p (Nat.le_refl _) (by omega)] at this; cases this
  · exact e
  · have := h2 q e; rw [k3 q (Nat.le_refl _) (by omega)] at this; cases this
/-- The place of a name. -/
def posP (n : ByteArray) : List Pr → Nat
  | [] => 0
  | p :: r => if ltN p.1 n then posP n r + 1 else 0
theorem prAt_succ (p : Pr) (r : List Pr) (k : Nat) : prAt (p :: r) (k + 1) = prAt r k := by simp [prAt]
theorem prAt_zero (p : Pr) (r : List Pr) : prAt (p :: r) 0 = p := by simp [prAt]
theorem Rises.tail {p : Pr} {r : List Pr} (h : Rises (p :: r)) : Rises r := fun i j hi hj => by
  have := h (i + 1) (j + 1) (by omega) (by simp; omega)
  rwa [prAt_succ, prAt_succ] at this
theorem posP_is {n : ByteArray} : ∀ {ls : List Pr}, Rises ls → IsPos ls n (posP n ls)
  | [], _ => ⟨Nat.le_refl _, fun k hk => absurd hk (by simp [posP]), fun k _ hk => absurd hk (by simp)⟩
  | p :: r, h => by
    have ih := posP_is (n := n) h.tail
    unfold posP
    cases hb : ltN p.1 n with
    | true =>
      rw [if_pos rfl]
      refine ⟨by simpa using ih.1, fun k hk => ?_, fun k hk hl => ?_⟩
      · cases k with
        | zero => rw [prAt_zero]; exact hb
        | succ k => rw [prAt_succ]; exact ih.2.1 k (by omega)
      · cases k with
        | zero => omega
        | succ k => rw [prAt_succ]; exact ih.2.2 k (by omega) (by simpa using hl)
    | false =>
      rw [if_neg Bool.false_ne_true]
      refine ⟨Nat.zero_le _, fun k hk => absurd hk (by omega), fun k _ hl => ?_⟩
      cases k with
      | zero => rw [prAt_zero]; exact hb
      | succ k =>
        cases hc : ltN (prAt (p :: r) (k + 1)).1 n with
        | false => rfl
        | true =>
          have := h 0 (k + 1) (by omega) hl
          rw [prAt_zero] at this
          have := ltN_trans this hc
          rw [hb] at this
          cases this
theorem posP_le (n : ByteArray) : ∀ ls : List Pr, posP n ls ≤ ls.length
  | [] => Nat.le_refl _
  | p :: r => by
    unfold posP
    have := posP_le n r
    split <;> simp <;> omega
/-- Whether a pair has that name. -/
def hasP (n : ByteArray) (ls : List Pr) : Bool := decide (posP n ls < ls.length) && eqN (prAt ls (posP n ls)).1 n
theorem hasP_lt {n : ByteArray} {ls : List Pr} (h : hasP n ls = true) : posP n ls < ls.length ∧ eqN (prAt ls (posP n ls)).1 n = true := by
  unfold hasP at h
  rw [Bool.and_eq_true] at h
  exact ⟨of_decide_eq_true h.1, h.2⟩
/-- In a form that rises the one pair of a name stands at its place. -/
theorem eqN_pos {n : ByteArray} {ls : List Pr} (h : Rises ls) {k : Nat} (hk : k < ls.length) (he : eqN (prAt ls k).1 n = true) : k = posP n ls ∧ hasP n ls = true := by
  have hp := posP_is (n := n) h
  have h1 : ltN (prAt ls k).1 n = false := eqN_lt he
  have h2 : posP n ls ≤ k := by
    rcases Nat.lt_or_ge k (posP n ls) with e | e
    · have := hp.2.1 k e; rw [h1] at this; cases this
    · exact e
  have h3 : k = posP n ls := by
    rcases Nat.lt_or_ge (posP n ls) k with e | e
    · have := h (posP n ls) k e hk
      rw [(ltN_eq (c := (prAt ls (posP n ls)).1) he).2.1] at this
      rw [hp.2.2 _ (Nat.le_refl _) (by omega)] at this
      cases this
    · omega
  refine ⟨h3, ?_⟩
  unfold hasP
  rw [← h3, he, decide_eq_true hk]
  rfl
theorem hasP_none {n : ByteArray} {ls : List Pr} (h : Rises ls) (hn : hasP n ls = false) {k : Nat} (hk : k < ls.length) : eqN (prAt ls k).1 n = false := by
  cases he : eqN (prAt ls k).1 n with
  | false => rfl
  | true => rw [(eqN_pos h hk he).2] at hn; cases hn

/-- A pair more; a pair less. -/
def putP (p : Pr) (ls : List Pr) : List Pr := ls.take (posP p.1 ls) ++ p :: ls.drop (posP p.1 ls)
def dropP (n : ByteArray) (ls : List Pr) : List Pr := ls.take (posP n ls) ++ ls.drop (posP n ls + 1)
theorem putP_len (p : Pr) (ls : List Pr) : (putP p ls).length = ls.length + 1 := by
  have := posP_le p.1 ls
  unfold putP
  simp
  omega
theorem dropP_len {n : ByteArray} {ls : List Pr} (h : hasP n ls = true) : (dropP n ls).length + 1 = ls.length := by
  have := (hasP_lt h).1
  unfold dropP
  simp
  omega
theorem prAt_get {ls : List Pr} {k : Nat} (h : k < ls.length) : prAt ls k = ls[k] := by simp [prAt, h]
theorem putP_at {p : Pr} {ls : List Pr} {k : Nat} (hk : k < ls.length + 1) : prAt (putP p ls) k = if k < posP p.1 ls then prAt ls k else if k = posP p.1 ls then p else prAt ls (k - 1) := by
  have hle := posP_le p.1 ls
  unfold putP prAt
  simp only [List.getD_eq_getElem?_getD]
  by_cases h1 : k < posP p.1 ls
  · rw [if_pos h1, List.getElem?_append_left (by simp; omega), List.getElem?_take, if_pos h1]
  · rw [if_neg h1, List.getElem?_append_right (by simp; omega)]
    rw [List.length_take, Nat.min_eq_left hle]
    by_cases h2 : k = posP p.1 ls
    · rw [if_pos h2, h2, Nat.sub_self]; rfl
    · rw [if_neg h2]
      obtain ⟨j, hj⟩ : ∃ j, k - posP p.1 ls = j + 1 := ⟨k - posP p.1 ls - 1, by omega⟩
      rw [hj, List.getElem?_cons_succ, List.getElem?_drop]
      congr 2
      omega
theorem dropP_at {n : ByteArray} {ls : List Pr} {k : Nat} : prAt (dropP n ls) k = if k < posP n ls then prAt ls k else prAt ls (k + 1) := by
  have hle := posP_le n ls
  unfold dropP prAt
  simp only [List.getD_eq_getElem?_getD]
  by_cases h1 : k < posP n ls
  · rw [if_pos h1, List.getElem?_append_left (by simp; omega), List.getElem?_take, if_pos h1]
  · rw [if_neg h1, List.getElem?_append_right (by simp; omega), List.length_take, Nat.min_eq_left hle, List.getElem?_drop]
    congr 2
    omega
theorem putP_rises {p : Pr} {ls : List Pr} (h : Rises ls) (hn : hasP p.1 ls = false) : Rises (putP p ls) := by
  intro i j hij hj
  rw [putP_len] at hj
  have hp := posP_is (n := p.1) h
  have hple := hp.1
  rw [putP_at (by omega), putP_at hj]
  have hgt : ∀ k, posP p.1 ls ≤ k → k < ls.length → ltN p.1 (prAt ls k).1 = true := fun k h1 h2 => ltN_tri (hp.2.2 k h1 h2) (hasP_none h hn h2)
  by_cases h1 : j < posP p.1 ls
  · rw [if_pos (by omega), if_pos h1]
    exact h i j hij (by omega)
  · rw [if_neg h1]
    by_cases h2 : j = posP p.1 ls
    · rw [if_pos h2, if_pos (by omega)]
      exact hp.2.1 i (by omega)
    · rw [if_neg h2]
      by_cases h3 : i < posP p.1 ls
      · rw [if_pos h3]
        exact h i (j - 1) (by omega) (by omega)
      · rw [if_neg h3]
        by_cases h4 : i = posP p.1 ls
        · rw [if_pos h4]
          exact hgt (j - 1) (by omega) (by omega)
        · rw [if_neg h4]
          exact h (i - 1) (j - 1) (by omega) (by omega)
theorem dropP_rises {n : ByteArray} {ls : List Pr} (h : Rises ls) (hn : hasP n ls = true) : Rises (dropP n ls) := by
  intro i j hij hj
  have hl := dropP_len hn
  rw [dropP_at, dropP_at]
  by_cases h1 : j < posP n ls
  · rw [if_pos (by omega), if_pos h1]
    exact h i j hij (by omega)
  · rw [if_neg h1]
    by_cases h3 : i < posP n ls
    · rw [if_pos h3]
      exact h i (j + 1) (by omega) (by omega)
    · rw [if_neg h3]
      exact h (i + 1) (j + 1) (by omega) (by omega)
/-- Another name is there when a pair is gone just if it was. -/
theorem hasP_drop {n m : ByteArray} {ls : List Pr} (h : Rises ls) (hn : hasP n ls = true) (hne : eqN n m = false) : hasP m (dropP n ls) = hasP m ls := by
  have hl := dropP_len hn
  have hd := dropP_rises h hn
  have hq := hasP_lt hn
  cases hm : hasP m ls with
  | true =>
    have hp := hasP_lt hm
    have hne' : posP m ls ≠ posP n ls := fun e => by
      rw [e] at hp
      have := (ltN_eq (c := m) hq.2).2.2
      rw [hp.2] at this
      rw [hne] at this
      cases this
    rcases Nat.lt_or_ge (posP m ls) (posP n ls) with e | e
    · refine (eqN_pos hd (k := posP m ls) (by omega) ?_).2
      rw [dropP_at, if_pos e]
      exact hp.2
    · refine (eqN_pos hd (k := posP m ls - 1) (by omega) ?_).2
      rw [dropP_at, if_neg (by omega), show posP m ls - 1 + 1 = posP m ls by omega]
      exact hp.2
  | false =>
    cases hm' : hasP m (dropP n ls) with
    | false => rfl
    | true =>
      have hp := hasP_lt hm'
      have he := hp.2
      rw [dropP_at] at he
      split at he
      · have := (eqN_pos h (by omega) he).2; rw [hm] at this; cases this
      · have := (eqN_pos h (k := posP m (dropP n ls) + 1) (by omega) he).2; rw [hm] at this; cases this

/-- What a step makes of a form: the code, the form. -/
def withP (p : Pr) (ls : List Pr) : Int × List Pr := if hasP p.1 ls then (14, []) else if ls.length = 64 then (11, []) else (0, putP p ls)
def doP (e : St) (ls : List Pr) : Int × List Pr :=
  if e.1 = 1 then (if hasP e.2.1 ls && !hasP e.2.2.1 ls then (0, putP (e.2.2.1, (prAt ls (posP e.2.1 ls)).2) (dropP e.2.1 ls)) else (14, []))
  else if e.1 = 2 then withP (e.2.1, e.2.2.2) ls
  else if hasP e.2.1 ls then (0, dropP e.2.1 ls) else (14, [])
def fwdP : List St → List Pr → Int × List Pr
  | [], ls => (0, ls)
  | e :: r, ls => if (doP e ls).1 = 0 then fwdP r (doP e ls).2 else ((doP e ls).1, [])
theorem withP_rises {p : Pr} {ls : List Pr} (h : Rises ls) (hl : ls.length ≤ 64) (hc : (withP p ls).1 = 0) : Rises (withP p ls).2 ∧ (withP p ls).2.length ≤ 64 := by
  unfold withP at *
  split at hc
  · cases hc
  · rename_i h1
    split at hc
    · cases hc
    · rename_i h2
      rw [if_neg h1, if_neg h2]
      refine ⟨putP_rises h (by simpa using h1), ?_⟩
      show (putP p ls).length ≤ 64
      rw [putP_len]
      omega
theorem doP_rises {e : St} {ls : List Pr} (h : Rises ls) (hl : ls.length ≤ 64) (he : okSt e = true) (hc : (doP e ls).1 = 0) : Rises (doP e ls).2 ∧ (doP e ls).2.length ≤ 64 := by
  obtain ⟨k, n, t, x⟩ := e
  unfold doP at *
  by_cases h1 : k = 1
  · simp only [h1, if_true] at hc ⊢
    by_cases h2 : (hasP n ls && !hasP t ls) = true
    · rw [if_pos h2]
      rw [Bool.and_eq_true] at h2
      have hne : eqN n t = false := by
        unfold okSt at he
        simp only [h1, if_true, Bool.and_eq_true, Bool.not_eq_true'] at he
        exact he.1.2
      have hd := dropP_len h2.1
      refine ⟨putP_rises (dropP_rises h h2.1) ?_, ?_⟩
      · show hasP t (dropP n ls) = false
        rw [hasP_drop h h2.1 hne]
        simpa using h2.2
      · show (putP _ (dropP n ls)).length ≤ 64
        rw [putP_len]
        omega
    · rw [if_neg h2] at hc; cases hc
  · simp only [h1, if_false] at hc ⊢
    by_cases h2 : k = 2
    · simp only [h2, if_true] at hc ⊢
      exact withP_rises h hl hc
    · simp only [h2, if_false] at hc ⊢
      by_cases h3 : hasP n ls = true
      · rw [if_pos h3]
        have := dropP_len h3
        exact ⟨dropP_rises h h3, by show (dropP n ls).length ≤ 64; omega⟩
      · rw [if_neg h3] at hc; cases hc
end Go.Proofs.Ytagnpahkhaighaa
