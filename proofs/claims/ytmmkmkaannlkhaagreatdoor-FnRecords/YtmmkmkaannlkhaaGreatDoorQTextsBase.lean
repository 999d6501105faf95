/- Texts and their bytes: plain facts. -/
import Derived.Lib.AppendStr
import Derived.Lib.Strings
import Derived.Lib.IndexBytes
import Derived.Test.YtmmkmkaannlkhaaGreatDoorQBaseToOwnType
namespace Go.Proofs.YtmmkmkaannlkhaaGreatDoor
open Go.RowKit Go.Lib
set_option linter.unusedVariables false

/-- A text's bytes. -/
def strInts (s : ByteArray) : List Int := s.data.toList.map fun b => (b.toNat : Int)
theorem strInts_len (s : ByteArray) : (strInts s).length = s.size := by simp [strInts]
theorem strCells_eq (s : ByteArray) : strCells s = (strInts s).map (Value.int .u8) := by simp [strCells, strInts]
theorem strCells_from (s : ByteArray) (k : Nat) (h : k ≤ s.size) : strCells (s.extract k s.size) = ((strInts s).drop k).map (Value.int .u8) := by
  have e : (s.extract k s.size).data.toList = s.data.toList.drop k := by
    rw [ByteArray.data_extract, Array.toList_extract]
    rw [List.extract_eq_take_drop]
    apply List.take_of_length_le
    rw [List.length_drop, Array.length_toList]
    exact Nat.le_refl _
  rw [strCells, strInts, e, List.map_drop, List.map_drop, List.map_map]
  rfl

/-- How many of their first bytes two lists share. -/
def alikeL : List UInt8 → List UInt8 → Nat
  | a :: x, b :: y => if a = b then alikeL x y + 1 else 0
  | _, _ => 0
def alike (a b : ByteArray) : Nat := alikeL a.data.toList b.data.toList
theorem alikeL_le (a b : List UInt8) : alikeL a b ≤ a.length ∧ alikeL a b ≤ b.length := by
  induction a generalizing b with
  | nil => simp [alikeL]
  | cons x a ih =>
    cases b with
    | nil => simp [alikeL]
    | cons y b =>
      simp only [alikeL]
      have := ih b
      split <;> simp <;> omega
theorem alike_le (a b : ByteArray) : alike a b ≤ a.size ∧ alike a b ≤ b.size := by
  have := alikeL_le a.data.toList b.data.toList
  rw [Array.length_toList, Array.length_toList] at this
  exact this
theorem drop_cons (a : ByteArray) (k : Nat) (h : k < a.size) : a.data.toList.drop k = a[k] :: a.data.toList.drop (k + 1) := by
  rw [List.drop_eq_getElem_cons (by simpa using h)]
  rfl
theorem alike_step {a b : ByteArray} {k : Nat} (ha : k < a.size) (hb : k < b.size) (he : a[k] = b[k]) (h : alike a b = k + alikeL (a.data.toList.drop k) (b.data.toList.drop k)) : alike a b = (k + 1) + alikeL (a.data.toList.drop (k + 1)) (b.data.toList.drop (k + 1)) := by
  rw [h, drop_cons a k ha, drop_cons b k hb]
  simp only [alikeL, he, if_true]
  omega
theorem alike_stop {a b : ByteArray} {k : Nat} (hs : ∀ (ha : k < a.size) (hb : k < b.size), ¬ a[k] = b[k]) (h : alike a b = k + alikeL (a.data.toList.drop k) (b.data.toList.drop k)) : alike a b = k := by
  by_cases ha : k < a.size
  · by_cases hb : k < b.size
    · rw [h, drop_cons a k ha, drop_cons b k hb]
      simp only [alikeL, hs ha hb, if_false, Nat.add_zero]
    · rw [h, show b.data.toList.drop k = [] from List.drop_of_length_le (by rw [Array.length_toList]; exact Nat.le_of_not_lt hb)]
      cases a.data.toList.drop k <;> simp [alikeL]
  · rw [h, show a.data.toList.drop k = [] from List.drop_of_length_le (by rw [Array.length_toList]; exact Nat.le_of_not_lt ha)]
    simp [alikeL]

/-- The text at a place; the one ahead of it. -/
def txt (ss : List ByteArray) (k : Nat) : ByteArray := ss.getD k ByteArray.empty
def ahead (ss : List ByteArray) : Nat → ByteArray
  | 0 => ByteArray.empty
  | k + 1 => txt ss k
/-- The bytes of all of the first k texts together. -/
def tot (ss : List ByteArray) : Nat → Nat
  | 0 => 0
  | k + 1 => tot ss k + (txt ss k).size
/-- What PutTexts writes of the k-th text. -/
def piece (ss : List ByteArray) (k : Nat) : List Int :=
  enc (alike (ahead ss k) (txt ss k)) ++ enc ((txt ss k).size - alike (ahead ss k) (txt ss k)) ++ (strInts (txt ss k)).drop (alike (ahead ss k) (txt ss k))
/-- What PutTexts writes down to the k-th text. -/
def putN (ss : List ByteArray) : Nat → List Int
  | 0 => enc ss.length
  | k + 1 => putN ss k ++ piece ss k
theorem txt_get {ss : List ByteArray} {k : Nat} (h : k < ss.length) : txt ss k = ss[k] := by simp [txt, h]
theorem tot_mono (ss : List ByteArray) {j k : Nat} (h : j ≤ k) : tot ss j ≤ tot ss k := by
  induction k with
  | zero => have : j = 0 := by omega
            subst this; omega
  | succ k ih =>
    by_cases e : j = k + 1
    · subst e; omega
    · have := ih (by omega); simp only [tot]; omega
theorem tot_size (ss : List ByteArray) {k n : Nat} (h : k < n) : (txt ss k).size ≤ tot ss n := by
  have := tot_mono ss (show k + 1 ≤ n by omega)
  simp only [tot] at this
  omega
theorem piece_len (ss : List ByteArray) (k : Nat) (h : (txt ss k).size < 9223372036854775808) : (piece ss k).length ≤ 20 + (txt ss k).size := by
  have h1 := (alike_le (ahead ss k) (txt ss k)).2
  have h2 := enc_len (n := alike (ahead ss k) (txt ss k)) (by omega)
  have h3 := enc_len (n := (txt ss k).size - alike (ahead ss k) (txt ss k)) (by omega)
  unfold piece
  simp only [List.length_append, List.length_drop, strInts_len]
  omega
theorem putN_len (ss : List ByteArray) (hn : ss.length ≤ 1048576) (n : Nat) (ht : tot ss n ≤ 1048576) : ∀ k, k ≤ n → (putN ss k).length ≤ 10 + 20 * k + tot ss k := by
  intro k
  induction k with
  | zero => intro _; have := enc_len (n := ss.length) (by omega); simp only [putN, tot]; omega
  | succ k ih =>
    intro h
    have h1 := ih (by omega)
    have h2 := tot_size ss (show k < n by omega)
    have h3 := piece_len ss k (by omega)
    simp only [putN, tot, List.length_append]
    omega
theorem putN_mono (ss : List ByteArray) {j k : Nat} (h : j ≤ k) : (putN ss j).length ≤ (putN ss k).length := by
  induction k with
  | zero => have : j = 0 := by omega
            subst this; omega
  | succ k ih =>
    by_cases e : j = k + 1
    · subst e; omega
    · have := ih (by omega); simp only [putN, List.length_append]; omega
/-- What PutTexts answers: bytes and a code. -/
def putTextsB (ss : List ByteArray) : List Int := if ss.length ≤ 4096 ∧ tot ss ss.length ≤ 1048576 ∧ (putN ss ss.length).length ≤ 1048576 then putN ss ss.length else []
def putTextsC (ss : List ByteArray) : Int := if ss.length ≤ 4096 ∧ tot ss ss.length ≤ 1048576 ∧ (putN ss ss.length).length ≤ 1048576 then 0 else 2
theorem putTexts_no {ss : List ByteArray} (h : ¬ (ss.length ≤ 4096 ∧ tot ss ss.length ≤ 1048576 ∧ (putN ss ss.length).length ≤ 1048576)) : putTextsB ss = [] ∧ putTextsC ss = 2 := by
  unfold putTextsB putTextsC
  rw [if_neg h, if_neg h]
  exact ⟨rfl, rfl⟩
theorem putTexts_yes {ss : List ByteArray} (h : ss.length ≤ 4096 ∧ tot ss ss.length ≤ 1048576 ∧ (putN ss ss.length).length ≤ 1048576) : putTextsB ss = putN ss ss.length ∧ putTextsC ss = 0 := by
  unfold putTextsB putTextsC
  rw [if_pos h, if_pos h]
  exact ⟨rfl, rfl⟩
theorem putTextsB_len (ss : List ByteArray) : (putTextsB ss).length ≤ 1048576 := by
  unfold putTextsB
  split
  · rename_i h; exact h.2.2
  · simp
end Go.Proofs.YtmmkmkaannlkhaaGreatDoor
