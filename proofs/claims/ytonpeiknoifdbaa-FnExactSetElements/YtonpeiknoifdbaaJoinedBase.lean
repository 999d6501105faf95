/- Entries in memory, which of them are valid, and the parts of a map of entries that are joined: plain facts. -/
import Derived.Test.YtonpeiknoifdbaaEntOKs
import Derived.Test.YtonpeiknoifdbaaStampNextMax
import Derived.Laws.Tables
namespace Go.Proofs.Ytonpeiknoifdbaa
open Go.RowKit
set_option linter.unusedVariables false

/-- An entry's numbers and its text. -/
abbrev En := Int × Int × ByteArray
def kvE (e : En) : Value × Value := (.agg #[.int .i64 e.1, .int .i64 e.2.1], .agg #[.int .i64 e.1, .int .i64 e.2.1, .string e.2.2])
def enAt (ls : List En) (k : Nat) : En := ls.getD k (0, 0, ByteArray.empty)
/-- The slice v reads as these entries, three cells each, in a block below C. -/
def RdE (C : Nat) (w : World) (v : Value) (ls : List En) : Prop :=
  ∃ ao cap, v = .slice ao ls.length cap ∧ (0 < ls.length → ∃ g off, ao = some ⟨g, off, none⟩ ∧ g < C ∧ ∀ k, k < ls.length → w.cell? ⟨g, off + k * 3, none⟩ = some (.int .i64 (enAt ls k).1) ∧ w.cell? ⟨g, off + (k * 3 + 1), none⟩ = some (.int .i64 (enAt ls k).2.1) ∧ w.cell? ⟨g, off + (k * 3 + 2), none⟩ = some (.string (enAt ls k).2.2))
theorem RdE.below {C : Nat} {w w' : World} {v : Value} {ls : List En} (h : RdE C w v ls) (hb : Below C w w') : RdE C w' v ls := by
  obtain ⟨ao, cap, rfl, h⟩ := h
  refine ⟨ao, cap, rfl, fun hp => ?_⟩
  obtain ⟨g, off, rfl, hg, hc⟩ := h hp
  refine ⟨g, off, rfl, hg, fun k hk => ?_⟩
  rw [hb.cell (p := ⟨g, off + k * 3, none⟩) hg, hb.cell (p := ⟨g, off + (k * 3 + 1), none⟩) hg, hb.cell (p := ⟨g, off + (k * 3 + 2), none⟩) hg]
  exact hc k hk
/-- One entry behind a stamp: it is valid, above that stamp, and was seen. -/
def okOne (X : List Int) (p : Int × Int) (e : En) : Bool := (stOK e.1 e.2.1 && decide (e.2.2.size ≤ 200)) && (lessS p.1 p.2 e.1 e.2.1 && decide (e.1 ≤ X.getD e.2.1.toNat 0))
/-- The stamp ahead of the k-th entry. -/
def prevS (ls : List En) : Nat → Int × Int
  | 0 => (0, 0)
  | k + 1 => ((enAt ls k).1, (enAt ls k).2.1)
def allOne (X : List Int) (ls : List En) : Nat → Bool
  | 0 => true
  | k + 1 => allOne X ls k && okOne X (prevS ls k) (enAt ls k)
/-- A vector and entries make a valid value. -/
def okJ (xs : List Int) (ls : List En) : Bool := vecOK xs && (decide (ls.length ≤ 256) && allOne xs ls ls.length)
theorem allOne_step {X : List Int} {ls : List En} {k : Nat} (h : allOne X ls k = true) (h1 : okOne X (prevS ls k) (enAt ls k) = true) : allOne X ls (k + 1) = true := by simp [allOne, h, h1]
theorem allOne_mono {X : List Int} {ls : List En} {k : Nat} : ∀ {m}, k ≤ m → allOne X ls m = true → allOne X ls k = true := by
  intro m
  induction m with
  | zero => intro h h1; rw [show k = 0 by omega]; exact h1
  | succ m ih =>
    intro h h1
    by_cases e : k = m + 1
    · rw [e]; exact h1
    · simp only [allOne, Bool.and_eq_true] at h1
      exact ih (by omega) h1.1
theorem okJ_bad {xs : List Int} {ls : List En} {k : Nat} (hk : k < ls.length) (h : okOne xs (prevS ls k) (enAt ls k) = false) : okJ xs ls = false := by
  cases hc : okJ xs ls with
  | false => rfl
  | true =>
    unfold okJ at hc
    simp only [Bool.and_eq_true] at hc
    have := allOne_mono (k := k + 1) (by omega) hc.2.2
    simp [allOne, h] at this
theorem okJ_all {xs : List Int} {ls : List En} (hv : vecOK xs = true) (hl : ls.length ≤ 256) (h : allOne xs ls ls.length = true) : okJ xs ls = true := by simp [okJ, hv, hl, h]
theorem okJ_vec {xs : List Int} {ls : List En} (h : vecOK xs = false) : okJ xs ls = false := by simp [okJ, h]
theorem okJ_long {xs : List Int} {ls : List En} (h : ¬ ls.length ≤ 256) : okJ xs ls = false := by simp [okJ, h]
theorem lessS_trans {a b c d e f : Int} (h : lessS a b c d = true) (k : lessS c d e f = true) : lessS a b e f = true := by
  rw [lessS_iff] at *
  omega
theorem lessS_irr (a b : Int) : lessS a b a b = false := by
  cases h : lessS a b a b with
  | false => rfl
  | true => rw [lessS_iff] at h; omega
theorem one_parts {X : List Int} {p : Int × Int} {e : En} (h : okOne X p e = true) : stOK e.1 e.2.1 = true ∧ e.2.2.size ≤ 200 ∧ lessS p.1 p.2 e.1 e.2.1 = true ∧ e.1 ≤ X.getD e.2.1.toNat 0 := by
  unfold okOne at h
  simp only [Bool.and_eq_true, decide_eq_true_eq] at h
  exact ⟨h.1.1, h.1.2, h.2.1, h.2.2⟩
/-- Stamps rise. -/
theorem all_less {X : List Int} {ls : List En} : ∀ k, allOne X ls k = true → ∀ j, j < k → lessS (enAt ls j).1 (enAt ls j).2.1 (prevS ls k).1 (prevS ls k).2 = true ∨ j + 1 = k := by
  intro k
  induction k with
  | zero => intro _ j hj; omega
  | succ k ih =>
    intro h j hj
    simp only [allOne, Bool.and_eq_true] at h
    by_cases e : j + 1 = k + 1
    · exact .inr e
    · refine .inl ?_
      have h1 := (one_parts h.2).2.2.1
      rcases ih h.1 j (by omega) with h2 | h2
      · exact lessS_trans h2 h1
      · subst h2
        exact h1
theorem key_new {X : List Int} {ls : List En} {k : Nat} (hk : k < ls.length) (h : allOne X ls k = true) (h1 : okOne X (prevS ls k) (enAt ls k) = true) : ∀ p ∈ (ls.take k).map kvE, p.1 ≠ (kvE (enAt ls k)).1 := by
  intro p hp he
  obtain ⟨e, hm, rfl⟩ := List.mem_map.1 hp
  obtain ⟨j, hj, rfl⟩ := List.getElem_of_mem hm
  rw [List.length_take] at hj
  have e1 : enAt ls j = (ls.take k)[j]'(by rw [List.length_take]; omega) := by simp [enAt, show j < ls.length by omega]
  rw [← e1] at he
  simp only [kvE, Value.agg.injEq] at he
  have he1 : (enAt ls j).1 = (enAt ls k).1 ∧ (enAt ls j).2.1 = (enAt ls k).2.1 := by simpa using he
  have h2 := (one_parts h1).2.2.1
  have h3 : lessS (enAt ls j).1 (enAt ls j).2.1 (enAt ls k).1 (enAt ls k).2.1 = true := by
    rcases all_less k h j (by omega) with h3 | h3
    · exact lessS_trans h3 h2
    · subst h3; exact h2
  rw [he1.1, he1.2, lessS_irr] at h3
  exact absurd h3 (by decide)
theorem take_step {ls : List En} {k : Nat} (hk : k < ls.length) : (ls.take (k + 1)).map kvE = (ls.take k).map kvE ++ [kvE (enAt ls k)] := by
  have : ls.take (k + 1) = ls.take k ++ [enAt ls k] := by simp [enAt, hk]
  rw [this, List.map_append]
  rfl

theorem built_jm (X : List Int) (hX : X.length = 16) (b : Nat) (w : World) : (Instr.build 110 #[(0, .agg (arrC X).toArray), (1, .map (some b))]).run Try.prog w = .ok (.agg (arrC X ++ [Value.map (some b)]).toArray) w := by
  match X, hX with
  | [x0, x1, x2, x3, x4, x5, x6, x7, x8, x9, x10, x11, x12, x13, x14, x15], _ => exact run_build w _ _ _ (by kernel_rfl)
/-- The zero of the map's parts. -/
def zeroJ : List Value := arrC (List.replicate 16 0) ++ [Value.map none]

end Go.Proofs.Ytonpeiknoifdbaa
