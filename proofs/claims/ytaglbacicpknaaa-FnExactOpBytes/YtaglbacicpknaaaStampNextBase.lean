/- The next stamp: plain facts. The greatest of a list of stamps, and the specification's step, both number by number. -/
import Derived.Test.YtaglbacicpknaaaStampNextImpl
namespace Go.Proofs.Ytaglbacicpknaaa
open Go.RowKit
set_option linter.unusedVariables false

theorem okS_bd {t a : Int} (h : okS t a = true) : (t = 0 ∧ a = 0) ∨ (1 ≤ t ∧ t ≤ 1000000000000 ∧ 0 ≤ a ∧ a < 16) := by
  unfold okS stOK at h
  simpa using h
theorem lessS_iff (t a t' a' : Int) : lessS t a t' a' = true ↔ t < t' ∨ t = t' ∧ a < a' := by simp [lessS]

/-- The later of two stamps; the greatest of the first k (zero, if there is none). -/
def mxS (m s : Int × Int) : Int × Int := if lessS m.1 m.2 s.1 s.2 = true then s else m
def topTo (ls : List (Int × Int)) : Nat → Int × Int
  | 0 => (0, 0)
  | k + 1 => mxS (topTo ls k) (ls.getD k (0, 0))
/-- All are zero or valid. -/
def allS (ls : List (Int × Int)) : Bool := ls.all fun s => okS s.1 s.2
theorem allS_get {ls : List (Int × Int)} (h : allS ls = true) (k : Nat) : okS (ls.getD k (0, 0)).1 (ls.getD k (0, 0)).2 = true := by
  by_cases hk : k < ls.length
  · have := List.all_eq_true.1 h ls[k] (List.getElem_mem hk)
    simpa [hk] using this
  · simp [hk, okS]
theorem allS_of {ls : List (Int × Int)} (h : ∀ k, k < ls.length → okS (ls.getD k (0, 0)).1 (ls.getD k (0, 0)).2 = true) : allS ls = true := by
  unfold allS
  rw [List.all_eq_true]
  intro s hs
  obtain ⟨k, hk, rfl⟩ := List.getElem_of_mem hs
  have := h k hk
  simpa [hk] using this
theorem allS_not {ls : List (Int × Int)} {k : Nat} (hk : k < ls.length) (h : okS (ls.getD k (0, 0)).1 (ls.getD k (0, 0)).2 = false) : allS ls = false := by
  cases e : allS ls with
  | false => rfl
  | true => rw [allS_get e k] at h; cases h
theorem mxS_ok {m s : Int × Int} (hm : okS m.1 m.2 = true) (hs : okS s.1 s.2 = true) : okS (mxS m s).1 (mxS m s).2 = true := by
  unfold mxS
  split
  · exact hs
  · exact hm
theorem topTo_ok {ls : List (Int × Int)} (h : allS ls = true) : ∀ k, okS (topTo ls k).1 (topTo ls k).2 = true := by
  intro k
  induction k with
  | zero => simp [topTo, okS]
  | succ k ih => exact mxS_ok ih (allS_get h k)
/-- The greatest of one stamp is that stamp. -/
theorem topTo_one {ls : List (Int × Int)} (h : allS ls = true) : topTo ls 1 = ls.getD 0 (0, 0) := by
  have hb := okS_bd (allS_get h 0)
  show mxS (0, 0) (ls.getD 0 (0, 0)) = _
  generalize ls.getD 0 (0, 0) = s at hb ⊢
  obtain ⟨t, a⟩ := s
  unfold mxS
  split
  · rfl
  · rename_i hn
    rw [lessS_iff] at hn
    simp only at hb hn ⊢
    have h1 : t = 0 := by omega
    have h2 : a = 0 := by omega
    rw [h1, h2]

/-- The specification's step. -/
def stepS (c u : Int) (s : Int × Int) : Int := if lessS s.1 s.2 u c = true then u else if c ≤ s.2 then s.1 + 1 else s.1
def timeTo (c : Int) (ls : List (Int × Int)) : Nat → Int
  | 0 => 1
  | k + 1 => stepS c (timeTo c ls k) (ls.getD k (0, 0))
theorem upT_eq {t a c : Int} (h : (t = 0 ∧ a = 0) ∨ (1 ≤ t ∧ t ≤ 1000000000000 ∧ 0 ≤ a ∧ a < 16)) : upT t a c = if t = 0 then 1 else if a < c then t else t + 1 := by
  unfold upT
  rcases h with ⟨rfl, rfl⟩ | h
  · rw [if_pos (by rw [lessS_iff]; omega)]
    rfl
  · rw [show max t 1 = t by omega, if_neg (show ¬ t = 0 by omega)]
    by_cases hc : a < c
    · rw [if_pos hc, if_pos (by rw [lessS_iff]; omega)]
    · rw [if_neg hc, if_neg (by rw [lessS_iff]; omega)]
theorem step_top {c : Int} {m s : Int × Int} (hc : 0 ≤ c) (hm : okS m.1 m.2 = true) (hs : okS s.1 s.2 = true) : stepS c (upT m.1 m.2 c) s = upT (mxS m s).1 (mxS m s).2 c := by
  have bm := okS_bd hm
  have bs := okS_bd hs
  have bx := okS_bd (mxS_ok hm hs)
  rw [upT_eq bx, upT_eq bm]
  obtain ⟨t, a⟩ := s
  obtain ⟨t', a'⟩ := m
  unfold stepS mxS
  simp only [lessS_iff] at *
  repeat' split
  all_goals first | omega | (simp only at *; omega) | (simp only at *; done)
theorem time_top {c : Int} {ls : List (Int × Int)} (hc : 0 ≤ c) (h : allS ls = true) : ∀ k, timeTo c ls k = upT (topTo ls k).1 (topTo ls k).2 c := by
  intro k
  induction k with
  | zero => exact (upT_zero).symm
  | succ k ih =>
    show stepS c (timeTo c ls k) _ = _
    rw [ih]
    exact step_top hc (topTo_ok h k) (allS_get h k)
theorem time_bd {c : Int} {ls : List (Int × Int)} (hc : 0 ≤ c) (h : allS ls = true) (k : Nat) : 1 ≤ timeTo c ls k ∧ timeTo c ls k ≤ 1000000000001 := by
  have hb := okS_bd (topTo_ok h k)
  rw [time_top hc h, upT_eq hb]
  split
  · omega
  · split <;> omega

/-- What both functions StampNext answer. -/
def nextS (ls : List (Int × Int)) (c : Int) : Value :=
  if 4096 < ls.length then .tuple #[.agg #[.int .i64 0, .int .i64 0], .int .i64 2]
  else if ¬ (0 ≤ c ∧ c < 16) ∨ allS ls = false then .tuple #[.agg #[.int .i64 0, .int .i64 0], .int .i64 4]
  else above (topTo ls ls.length).1 (topTo ls ls.length).2 c
theorem above_time {c : Int} {ls : List (Int × Int)} (h0 : 0 ≤ c) (h1 : c < 16) (h : allS ls = true) :
    above (topTo ls ls.length).1 (topTo ls ls.length).2 c = if 1000000000000 < timeTo c ls ls.length then .tuple #[.agg #[.int .i64 0, .int .i64 0], .int .i64 11] else .tuple #[.agg #[.int .i64 (timeTo c ls ls.length), .int .i64 c], .int .i64 0] := by
  have hb := time_bd h0 h ls.length
  unfold above
  rw [← time_top h0 h]
  by_cases hk : 1000000000000 < timeTo c ls ls.length
  · rw [if_pos hk, if_neg (by rw [stOK_no (by omega)]; decide)]
  · rw [if_neg hk, if_pos (stOK_yes (by omega) (by omega) h0 h1)]

end Go.Proofs.Ytaglbacicpknaaa
