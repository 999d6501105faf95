/- What the code's CounterAdd does. -/
import Derived.Test.YtonpeiknoifdbabCtrOf
import Derived.Test.YtonpeiknoifdbabStampOKWalk
namespace Go.Proofs.Ytonpeiknoifdbab
open Go.RowKit
set_option linter.unusedVariables false

/-- What CounterAdd makes of Plus, of Minus; its code; what it answers. -/
def addP (xs : List Int) (c n : Int) : List Int := if 0 ≤ n then xs.set c.toNat (xs.getD c.toNat 0 + n) else xs
def addM (ys : List Int) (c n : Int) : List Int := if 0 ≤ n then ys else ys.set c.toNat (ys.getD c.toNat 0 - n)
abbrev inB (c n : Int) : Prop := 0 ≤ c ∧ c < 16 ∧ -1000000000000 ≤ n ∧ n ≤ 1000000000000
def addMany (xs ys : List Int) (c n : Int) : Bool := decide (1000000000000 < (addP xs c n).getD c.toNat 0 ∨ 1000000000000 < (addM ys c n).getD c.toNat 0)
def addC (xs ys : List Int) (c n : Int) : Int := if (vecOK xs && vecOK ys) = false then 1 else if ¬ inB c n then 4 else if addMany xs ys c n = true then 11 else 0
def addA (xs ys : List Int) (c n : Int) : List Int := if addC xs ys c n = 0 then addP xs c n else []
def addB (xs ys : List Int) (c n : Int) : List Int := if addC xs ys c n = 0 then addM ys c n else []
theorem addP_len (xs : List Int) (c n : Int) : (addP xs c n).length = xs.length := by unfold addP; split <;> simp
theorem addM_len (xs : List Int) (c n : Int) : (addM xs c n).length = xs.length := by unfold addM; split <;> simp
theorem addC_bad {xs ys : List Int} {c n : Int} (h : (vecOK xs && vecOK ys) = false) : addC xs ys c n = 1 ∧ addA xs ys c n = [] ∧ addB xs ys c n = [] := by
  have e : addC xs ys c n = 1 := if_pos h
  exact ⟨e, if_neg (by rw [e]; decide), if_neg (by rw [e]; decide)⟩
theorem addC_range {xs ys : List Int} {c n : Int} (h : (vecOK xs && vecOK ys) = true) (hi : ¬ inB c n) : addC xs ys c n = 4 ∧ addA xs ys c n = [] ∧ addB xs ys c n = [] := by
  have e : addC xs ys c n = 4 := by unfold addC; rw [if_neg (by simp [h]), if_pos hi]
  exact ⟨e, if_neg (by rw [e]; decide), if_neg (by rw [e]; decide)⟩
theorem addC_many {xs ys : List Int} {c n : Int} (h : (vecOK xs && vecOK ys) = true) (hi : inB c n) (hm : addMany xs ys c n = true) : addC xs ys c n = 11 ∧ addA xs ys c n = [] ∧ addB xs ys c n = [] := by
  have e : addC xs ys c n = 11 := by unfold addC; rw [if_neg (by simp [h]), if_neg (by simp [hi]), if_pos hm]
  exact ⟨e, if_neg (by rw [e]; decide), if_neg (by rw [e]; decide)⟩
theorem addC_good {xs ys : List Int} {c n : Int} (h : (vecOK xs && vecOK ys) = true) (hi : inB c n) (hm : addMany xs ys c n = false) : addC xs ys c n = 0 ∧ addA xs ys c n = addP xs c n ∧ addB xs ys c n = addM ys c n := by
  have e : addC xs ys c n = 0 := by unfold addC; rw [if_neg (by simp [h]), if_neg (by simp [hi]), if_neg (by simp [hm])]
  exact ⟨e, if_pos e, if_pos e⟩
theorem addAB_len (xs ys : List Int) (c n : Int) : (addA xs ys c n).length ≤ 16 ∧ (addB xs ys c n).length ≤ 16 := by
  cases h : (vecOK xs && vecOK ys) with
  | false => rw [(addC_bad h).2.1, (addC_bad h).2.2]; simp
  | true =>
    have h2 := h
    rw [Bool.and_eq_true] at h2
    have l1 := (vecOK_get h2.1).1
    have l2 := (vecOK_get h2.2).1
    unfold addA addB
    split
    · rw [addP_len, addM_len]; omega
    · simp

/-- What a CounterAdd answers: two rows of its own, and the code. -/
def AddAns (xs ys : List Int) (c n : Int) (w : World) (e : Ending) (w' : World) : Prop :=
  ∃ a la ca b lb cb T, e = .returned (.tuple #[.agg #[.slice a la ca, .slice b lb cb], .int .i64 (addC xs ys c n)]) ∧ Own T w' w.heap.size (.slice a la ca) ((addA xs ys c n).map (Value.int .i64)) ∧ Own T w' w.heap.size (.slice b lb cb) ((addB xs ys c n).map (Value.int .i64)) ∧ Apart (.slice a la ca) (.slice b lb cb) ∧ Below w.heap.size w w'
theorem addNone {xs ys : List Int} {c n k : Int} {w w' : World} (h : addC xs ys c n = k ∧ addA xs ys c n = [] ∧ addB xs ys c n = []) (hb : Below w.heap.size w w') : AddAns xs ys c n w (.returned (.tuple #[.agg #[.slice none 0 0, .slice none 0 0], .int .i64 k])) w' := by
  refine ⟨none, 0, 0, none, 0, 0, 3, by rw [h.1], ?_, ?_, fun i j hi => by simp [Value.ownBlock] at hi, hb⟩
  · rw [h.2.1]; exact World.ownsRow_nil _ _ _ _
  · rw [h.2.2]; exact World.ownsRow_nil _ _ _ _

theorem range_put {w : World} {g : Nat} {X : List Int} {k : Nat} (h : w.rangeAt g 0 (arrC X)) (hk : k < X.length) (x : Int) : (w.setCell ⟨g, k, none⟩ (.int .i64 x)).rangeAt g 0 (arrC (X.set k x)) := by
  intro j v hj
  rw [Nat.zero_add]
  by_cases e : j = k
  · subst e
    have : v = .int .i64 x := by simpa [arrC, hk] using hj.symm
    subst this
    have h0 := h j (.int .i64 X[j]) (by simp [arrC, hk])
    rw [Nat.zero_add] at h0
    exact World.cell?_setCell_same _ _ _ h0
  · have hj' : (arrC X)[j]? = some v := by
      rw [← hj]
      simp only [arrC, List.getElem?_map, List.getElem?_set_ne (Ne.symm e)]
    have h0 := h j v hj'
    rw [Nat.zero_add] at h0
    exact (World.cell?_setCells_out g [.int .i64 x] k w _ (fun _ => by simp; omega)).trans h0
theorem range_else {w : World} {g g' k : Nat} {cs : List Value} (h : w.rangeAt g 0 cs) (hn : g ≠ g') (u : Value) : (w.setCell ⟨g', k, none⟩ u).rangeAt g 0 cs := World.rangeAt_setCells_apart h g' k [u] (.inl hn)

end Go.Proofs.Ytonpeiknoifdbab
