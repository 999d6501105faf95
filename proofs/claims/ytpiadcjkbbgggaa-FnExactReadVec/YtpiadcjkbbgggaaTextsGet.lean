/- Texts read from bytes: plain facts. -/
import Derived.Test.YtpiadcjkbbgggaaTextsBase
import Derived.Test.YtpiadcjkbbgggaaGets
import Derived.Test.YtpiadcjkbbgggaaStr
namespace Go.Proofs.Ytpiadcjkbbgggaa
open Go.RowKit Go.Lib
set_option linter.unusedVariables false

theorem grownBy_own {w w1 w2 : World} {b : Nat} {row : Option Nat} (h : w.grownBy w1 (some b)) (k : w1.grownBy w2 row) (hr : ∀ g, row = some g → w.heap.size ≤ g) : w.grownBy w2 (some b) :=
  ⟨k.os.trans h.os, k.tape.trans h.tape, k.output.trans h.output, Nat.le_trans h.size k.size, fun i hi hb => (k.block i (Nat.lt_of_lt_of_le hi h.size) (fun e => by have := hr i e.symm; omega)).trans (h.block i hi hb)⟩

/-- The m bytes from p on, as a text. -/
def bytesAt (bs : List Int) (p m : Nat) : ByteArray := ofInts ((bs.drop p).take m)
theorem bytesAt_size {bs : List Int} {p m : Nat} (h : m ≤ bs.length - p) : (bytesAt bs p m).size = m := by
  show ((((bs.drop p).take m).map fun n => UInt8.ofNat n.toNat).toArray).size = m
  simp
  omega
/-- The text of k bytes of the one ahead and m bytes of its own. -/
def mkText (bs : List Int) (last : ByteArray) (k p m : Nat) : ByteArray := last.extract 0 k ++ bytesAt bs p m
theorem mkText_size {bs : List Int} {last : ByteArray} {k p m : Nat} (hk : k ≤ last.size) (h : m ≤ bs.length - p) : (mkText bs last k p m).size = k + m := by
  unfold mkText
  rw [ByteArray.size_append, bytesAt_size h, ByteArray.size_extract]
  omega
/-- One text more: it, and the place behind it. -/
def oneText (bs : List Int) (p : Nat) (last : ByteArray) (all : Nat) : Option (ByteArray × Nat) := match getL bs p with
  | none => none
  | some (k, p1) => if last.size < k.toNat then none else match getL bs p1 with
    | none => none
    | some (m, p2) => if bs.length - p2 < m.toNat then none else
      if k.toNat ≠ alike last (mkText bs last k.toNat p2 m.toNat) ∨ 1048576 < all + (k.toNat + m.toNat) then none else some (mkText bs last k.toNat p2 m.toNat, p2 + m.toNat)
def textsF (bs : List Int) : Nat → Nat → ByteArray → Nat → List ByteArray → Option (List ByteArray × Nat)
  | 0, p, _, _, out => some (out, p)
  | n + 1, p, last, all, out => match oneText bs p last all with
    | none => none
    | some (t, q) => textsF bs n q t (all + t.size) (out ++ [t])
/-- The texts, and the place behind them. -/
def textsL (bs : List Int) : Option (List ByteArray × Nat) := match getL bs 0 with
  | none => none
  | some (n, p) => if 4096 < n then none else textsF bs n.toNat p ByteArray.empty 0 []
/-- What GetTexts answers. -/
def getTexts (bs : List Int) : Option (List ByteArray) := match textsL bs with
  | none => none
  | some (out, q) => if q = bs.length then some out else none

theorem one_none1 {bs : List Int} {p : Nat} {last : ByteArray} {all : Nat} (h : getL bs p = none) : oneText bs p last all = none := by simp [oneText, h]
theorem one_none2 {bs : List Int} {p p1 : Nat} {last : ByteArray} {all : Nat} {k : Int} (h : getL bs p = some (k, p1)) (hk : last.size < k.toNat) : oneText bs p last all = none := by simp [oneText, h, hk]
theorem one_none3 {bs : List Int} {p p1 : Nat} {last : ByteArray} {all : Nat} {k : Int} (h : getL bs p = some (k, p1)) (h2 : getL bs p1 = none) : oneText bs p last all = none := by simp [oneText, h, h2]
theorem one_none4 {bs : List Int} {p p1 p2 : Nat} {last : ByteArray} {all : Nat} {k m : Int} (h : getL bs p = some (k, p1)) (h2 : getL bs p1 = some (m, p2)) (hm : bs.length - p2 < m.toNat) : oneText bs p last all = none := by simp [oneText, h, h2, hm]
theorem one_none5 {bs : List Int} {p p1 p2 : Nat} {last : ByteArray} {all : Nat} {k m : Int} (h : getL bs p = some (k, p1)) (h2 : getL bs p1 = some (m, p2)) (hb : k.toNat ≠ alike last (mkText bs last k.toNat p2 m.toNat) ∨ 1048576 < all + (k.toNat + m.toNat)) : oneText bs p last all = none := by
  unfold oneText
  rw [h]
  simp only
  split
  · rfl
  · rw [h2]
    simp only
    split
    · rfl
    · first | rfl | rw [if_pos hb]
theorem one_some {bs : List Int} {p p1 p2 : Nat} {last : ByteArray} {all : Nat} {k m : Int} (h : getL bs p = some (k, p1)) (hk : ¬ last.size < k.toNat) (h2 : getL bs p1 = some (m, p2)) (hm : ¬ bs.length - p2 < m.toNat) (hb : ¬ (k.toNat ≠ alike last (mkText bs last k.toNat p2 m.toNat) ∨ 1048576 < all + (k.toNat + m.toNat))) :
    oneText bs p last all = some (mkText bs last k.toNat p2 m.toNat, p2 + m.toNat) := by
  unfold oneText
  rw [h]
  simp only
  rw [if_neg hk, h2]
  simp only
  rw [if_neg hm, if_neg hb]
theorem textsF_none {bs : List Int} {n p : Nat} {last : ByteArray} {all : Nat} {out : List ByteArray} (h : oneText bs p last all = none) : textsF bs (n + 1) p last all out = none := by simp [textsF, h]
theorem textsF_some {bs : List Int} {n p q : Nat} {last t : ByteArray} {all : Nat} {out : List ByteArray} (h : oneText bs p last all = some (t, q)) : textsF bs (n + 1) p last all out = textsF bs n q t (all + t.size) (out ++ [t]) := by simp [textsF, h]

theorem take_extract (a : ByteArray) (k : Nat) : (a.extract 0 k).data.toList = a.data.toList.take k := by
  rw [ByteArray.data_extract, Array.toList_extract, List.extract_eq_take_drop]
  simp
theorem mkText_list (bs : List Int) (last : ByteArray) (k p m : Nat) : (mkText bs last k p m).data.toList = last.data.toList.take k ++ ((bs.drop p).take m).map fun n => UInt8.ofNat n.toNat := by
  unfold mkText
  rw [ByteArray.data_append, Array.toList_append, take_extract]
  simp [bytesAt, ofInts]
theorem alikeL_take (a b : List UInt8) : alikeL a (a ++ b) = a.length := by
  induction a with
  | nil => cases b <;> simp [alikeL]
  | cons x a ih => simp [alikeL, ih]
theorem alikeL_pre (x a b : List UInt8) : alikeL (x ++ a) (x ++ b) = x.length + alikeL a b := by
  induction x with
  | nil => simp
  | cons c x ih => simp [alikeL, ih]; omega
/-- When the shared beginning is as long as can be. -/
theorem alike_mk {bs : List Int} {last : ByteArray} {k p m : Nat} (hk : k ≤ last.size) : alike last (mkText bs last k p m) = k + alikeL (last.data.toList.drop k) (((bs.drop p).take m).map fun n => UInt8.ofNat n.toNat) := by
  unfold alike
  rw [mkText_list]
  conv => lhs; arg 1; rw [← List.take_append_drop k last.data.toList]
  rw [alikeL_pre, List.length_take, Array.length_toList, show min k last.data.size = k from Nat.min_eq_left hk]
theorem alike_mk_zero {bs : List Int} {last : ByteArray} {k p : Nat} (hk : k ≤ last.size) : alike last (mkText bs last k p 0) = k := by
  rw [alike_mk hk]
  simp only [List.take_zero, List.map_nil]
  cases last.data.toList.drop k <;> simp [alikeL]
theorem alike_mk_end {bs : List Int} {last : ByteArray} {k p m : Nat} (hk : k = last.size) : alike last (mkText bs last k p m) = k := by
  rw [alike_mk (by omega), List.drop_of_length_le (by rw [Array.length_toList]; exact Nat.le_of_eq hk.symm)]
  simp [alikeL]
theorem alike_mk_in {bs : List Int} {last : ByteArray} {k p m : Nat} (hk : k < last.size) (hm : 0 < m) (hp : p < bs.length) : alike last (mkText bs last k p m) = k ↔ last[k] ≠ UInt8.ofNat (bs[p]).toNat := by
  rw [alike_mk (by omega), drop_cons last k hk]
  obtain ⟨m, rfl⟩ : ∃ m', m = m' + 1 := ⟨m - 1, by omega⟩
  rw [List.drop_eq_getElem_cons hp, List.take_succ_cons, List.map_cons]
  simp only [alikeL]
  split
  · rename_i h; simp [h]
  · rename_i h; simp [h]
end Go.Proofs.Ytpiadcjkbbgggaa
