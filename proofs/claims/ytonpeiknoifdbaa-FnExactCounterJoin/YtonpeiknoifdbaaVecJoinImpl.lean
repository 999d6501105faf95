/- What the code's VecJoin does. -/
import Derived.Test.YtonpeiknoifdbaaVecJoins
namespace Go.Proofs.Ytonpeiknoifdbaa
open Go.RowKit
set_option linter.unusedVariables false

/-- What VecJoin (or VecMeet) answers: counts and a code. -/
def zipB (f : Int → Int → Int) (xs ys : List Int) : List Int := if (vecOK xs && vecOK ys) = true then List.zipWith f xs ys else []
def zipC (xs ys : List Int) : Int := if (vecOK xs && vecOK ys) = true then 0 else 1
theorem zipB_len (f : Int → Int → Int) (xs ys : List Int) : (zipB f xs ys).length ≤ 16 := by
  unfold zipB
  split
  · rename_i h
    rw [Bool.and_eq_true] at h
    simp [(vecOK_get h.1).1, (vecOK_get h.2).1]
  · simp
theorem zip_yes {f : Int → Int → Int} {xs ys : List Int} (h : (vecOK xs && vecOK ys) = true) : zipB f xs ys = List.zipWith f (cnt xs) (cnt ys) ∧ zipC xs ys = 0 := by
  have h2 := h
  rw [Bool.and_eq_true] at h2
  unfold zipB zipC cnt
  rw [if_pos h, if_pos h, if_pos h2.1, if_pos h2.2]
  exact ⟨rfl, rfl⟩
theorem zip_no {f : Int → Int → Int} {xs ys : List Int} (h : (vecOK xs && vecOK ys) = false) : zipB f xs ys = [] ∧ zipC xs ys = 1 := by
  unfold zipB zipC
  rw [if_neg (by rw [h]; decide), if_neg (by rw [h]; decide)]
  exact ⟨rfl, rfl⟩
/-- Two new arrays, written. -/
theorem arr_two {B : Nat} {a w : World} (h : Below B a w) (hB : B ≤ w.heap.size) (Z : Array Value) (hZ : Z.size = 16) (T : TypeId) (X Y : List Int) (hx : X.length = 16) (hy : Y.length = 16) :
    ((w.alloc (.cells Z T)).alloc (.cells Z T)).there w.heap.size 0 (arrC X).toArray.size ∧ (((w.alloc (.cells Z T)).alloc (.cells Z T)).setCells w.heap.size 0 (arrC X)).there (w.heap.size + 1) 0 (arrC Y).toArray.size ∧
    Below B a ((((w.alloc (.cells Z T)).alloc (.cells Z T)).setCells w.heap.size 0 (arrC X)).setCells (w.heap.size + 1) 0 (arrC Y)) ∧
    ((((w.alloc (.cells Z T)).alloc (.cells Z T)).setCells w.heap.size 0 (arrC X)).setCells (w.heap.size + 1) 0 (arrC Y)).rangeAt w.heap.size 0 (arrC X) ∧
    ((((w.alloc (.cells Z T)).alloc (.cells Z T)).setCells w.heap.size 0 (arrC X)).setCells (w.heap.size + 1) 0 (arrC Y)).rangeAt (w.heap.size + 1) 0 (arrC Y) := by
  have sx : (arrC X).toArray.size = 16 := by simp [arrC_len, hx]
  have sy : (arrC Y).toArray.size = 16 := by simp [arrC_len, hy]
  have t1 : ((w.alloc (.cells Z T)).alloc (.cells Z T)).there w.heap.size 0 16 := there_made (below_alloc _ _) (by omega)
  have t2 : ((w.alloc (.cells Z T)).alloc (.cells Z T)).there (w.heap.size + 1) 0 16 := by
    have := there_made (n := 16) (w := w.alloc (.cells Z T)) (cs := Z) (T := T) (Below.refl _ _) (by omega)
    rw [World.size_alloc] at this
    exact this
  have t3 := World.there_setCells t2 w.heap.size 0 (arrC X)
  refine ⟨by rw [sx]; exact t1, by rw [sy]; exact t3, ?_, ?_, ?_⟩
  · exact below_setCells (by omega) _ _ _ (below_setCells hB _ _ _ ((h.alloc hB _).alloc (by rw [World.size_alloc]; omega) _))
  · exact World.rangeAt_setCells_apart (World.rangeAt_setCells_same _ _ _ _ (by rw [arrC_len, hx]; exact t1)) _ _ _ (.inl (by omega))
  · exact World.rangeAt_setCells_same _ _ _ _ (by rw [arrC_len, hy]; exact t3)

end Go.Proofs.Ytonpeiknoifdbaa
