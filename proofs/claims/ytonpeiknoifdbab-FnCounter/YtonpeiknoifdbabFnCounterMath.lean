/- Counters: plain facts on joins and on what is added. -/
import Derived.Test.YtonpeiknoifdbabCtrAddSpec
import Derived.Test.YtonpeiknoifdbabCtrJoinImpl
namespace Go.Proofs.Ytonpeiknoifdbab
open Go.RowKit
set_option linter.unusedVariables false

theorem mxI_comm (a b : Int) : mxI a b = mxI b a := by unfold mxI; split <;> split <;> omega
theorem mxI_idem (a b : Int) : mxI (mxI a b) a = mxI a b := by
  unfold mxI
  by_cases h : a < b
  · rw [if_pos h, if_neg (by omega)]
  · rw [if_neg h, if_neg (by omega)]
theorem zip_comm (xs ys : List Int) : List.zipWith mxI xs ys = List.zipWith mxI ys xs := by
  rw [List.zipWith_comm]
  congr 1
  funext a b
  exact mxI_comm b a
theorem zip_idem (xs ys : List Int) (h : xs.length = ys.length) : List.zipWith mxI (List.zipWith mxI xs ys) xs = List.zipWith mxI xs ys := by
  apply List.ext_getElem
  · simp
  · intro k h1 h2
    simp [mxI_idem]
theorem zip_ok {xs ys : List Int} (hx : vecOK xs = true) (hy : vecOK ys = true) : vecOK (List.zipWith mxI xs ys) = true := by
  obtain ⟨lx, gx⟩ := vecOK_get hx
  obtain ⟨ly, gy⟩ := vecOK_get hy
  refine vecOK_all (by simp [lx, ly]) fun k hk => ?_
  have h1 : k < xs.length := by simp at hk; omega
  have h2 : k < ys.length := by simp at hk; omega
  have := gx k h1
  have := gy k h2
  simp only [List.getElem_zipWith, cOK, mxI, decide_eq_true_eq]
  split <;> omega
theorem valTo_setP (xs ys : List Int) (k : Nat) (n : Int) (hk : k < xs.length) : ∀ m, valTo (xs.set k (xs.getD k 0 + n)) ys m = valTo xs ys m + (if k < m then n else 0) := by
  intro m
  induction m with
  | zero => simp [valTo]
  | succ m ih =>
    unfold valTo
    rw [ih]
    by_cases e : m = k
    · subst e
      have : (xs.set m (xs.getD m 0 + n)).getD m 0 = xs.getD m 0 + n := by simp [List.getD, hk]
      rw [this, if_neg (Nat.lt_irrefl _), if_pos (Nat.lt_succ_self _)]
      omega
    · have : (xs.set k (xs.getD k 0 + n)).getD m 0 = xs.getD m 0 := by simp [List.getD, Ne.symm e]
      rw [this]
      by_cases h : k < m
      · rw [if_pos h, if_pos (by omega)]
        omega
      · rw [if_neg h, if_neg (by omega)]
        omega
theorem valTo_setM (xs ys : List Int) (k : Nat) (n : Int) (hk : k < ys.length) : ∀ m, valTo xs (ys.set k (ys.getD k 0 - n)) m = valTo xs ys m + (if k < m then n else 0) := by
  intro m
  induction m with
  | zero => simp [valTo]
  | succ m ih =>
    unfold valTo
    rw [ih]
    by_cases e : m = k
    · subst e
      have : (ys.set m (ys.getD m 0 - n)).getD m 0 = ys.getD m 0 - n := by simp [List.getD, hk]
      rw [this, if_neg (Nat.lt_irrefl _), if_pos (Nat.lt_succ_self _)]
      omega
    · have : (ys.set k (ys.getD k 0 - n)).getD m 0 = ys.getD m 0 := by simp [List.getD, Ne.symm e]
      rw [this]
      by_cases h : k < m
      · rw [if_pos h, if_pos (by omega)]
        omega
      · rw [if_neg h, if_neg (by omega)]
        omega
/-- Adding n makes the value n more. -/
theorem val_add {xs ys : List Int} {c n : Int} (hx : vecOK xs = true) (hy : vecOK ys = true) (hi : inB c n) : valTo (addP xs c n) (addM ys c n) 16 = valTo xs ys 16 + n := by
  have lx := (vecOK_get hx).1
  have ly := (vecOK_get hy).1
  obtain ⟨k, rfl⟩ : ∃ k : Nat, c = (k : Int) := ⟨c.toNat, by have := hi.1; omega⟩
  have hk : k < 16 := by have := hi.2.1; omega
  unfold addP addM
  rw [Int.toNat_natCast]
  by_cases h : 0 ≤ n
  · rw [if_pos h, if_pos h, valTo_setP xs ys k n (by omega) 16, if_pos hk]
  · rw [if_neg h, if_neg h, valTo_setM xs ys k n (by omega) 16, if_pos hk]
/-- What a CounterAdd's code says. -/
theorem add_parts (xs ys : List Int) (c n : Int) : (¬ addC xs ys c n = 0) ∨ (addC xs ys c n = 0 ∧ vecOK xs = true ∧ vecOK ys = true ∧ inB c n ∧ addA xs ys c n = addP xs c n ∧ addB xs ys c n = addM ys c n ∧ vecOK (addP xs c n) = true ∧ vecOK (addM ys c n) = true) := by
  cases h : (vecOK xs && vecOK ys) with
  | false => exact .inl (by rw [(addC_bad h).1]; decide)
  | true =>
    have h2 := h
    rw [Bool.and_eq_true] at h2
    by_cases hi : inB c n
    · have hm := add_ok h2.1 h2.2 hi
      cases hb : addMany xs ys c n with
      | true => exact .inl (by rw [(addC_many h hi hb).1]; decide)
      | false =>
        rw [hb] at hm
        have hm' := Bool.and_eq_true_iff.1 (hm.trans rfl)
        obtain ⟨e1, e2, e3⟩ := addC_good h hi hb
        exact .inr ⟨e1, h2.1, h2.2, hi, e2, e3, hm'.1, hm'.2⟩
    · exact .inl (by rw [(addC_range h hi).1]; decide)
theorem cVal_ok {xs ys : List Int} (hx : vecOK xs = true) (hy : vecOK ys = true) : cVal xs ys = .tuple #[.int .i64 (valTo xs ys 16), .int .i64 0] := by
  unfold cVal
  rw [hx, hy]
  rfl
/-- Two counters in variables, behind whatever leaves old memory as it is. -/
theorem vars4 {w1 wr : World} {va vb vc vd : Value} {U V : TypeId} (h : Below ((w1.alloc (.cells #[va, vb] U)).alloc (.cells #[vc, vd] V)).heap.size ((w1.alloc (.cells #[va, vb] U)).alloc (.cells #[vc, vd] V)) wr) : (wr.cell? ⟨w1.heap.size, 0, none⟩ = some va ∧ wr.cell? ⟨w1.heap.size, 1, none⟩ = some vb) ∧ (wr.cell? ⟨w1.heap.size + 1, 0, none⟩ = some vc ∧ wr.cell? ⟨w1.heap.size + 1, 1, none⟩ = some vd) := by
  have c1 := two_cells h
  rw [World.size_alloc] at c1
  exact ⟨two_cells (below_seq (below_alloc _ _) h), c1⟩

end Go.Proofs.Ytonpeiknoifdbab
