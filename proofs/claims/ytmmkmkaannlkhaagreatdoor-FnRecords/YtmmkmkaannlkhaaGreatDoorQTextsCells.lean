/- What toStringS, eqStringS, markText, markStringS and heldStringS do. -/
import Derived.Deep.RegionHeld2
import Derived.Test.YtmmkmkaannlkhaaGreatDoorQTextsToBackRuns
import Derived.Test.YtmmkmkaannlkhaaGreatDoorQInfoToLawAt
namespace Go.Proofs.YtmmkmkaannlkhaaGreatDoor
open Go.RowKit Go.Lib
set_option linter.unusedVariables false

/-- The decimal digits of a number, ahead of a text. -/
def digs : Nat → Nat → List UInt8 → List UInt8
  | 0, _, l => l
  | f + 1, k, l => if k = 0 then l else digs f (k / 10) (UInt8.ofNat (48 + k % 10) :: l)
/-- What markText answers. -/
def mt (k : Nat) : ByteArray := if k = 0 then ⟨#[109, 48]⟩ else ⟨(109 :: digs k k []).toArray⟩

theorem digs_zero (f : Nat) (l : List UInt8) : digs f 0 l = l := by cases f <;> simp [digs]
theorem bytes_cons (x : Int) (l : List UInt8) : ofInts [x] ++ (⟨l.toArray⟩ : ByteArray) = ⟨(UInt8.ofNat x.toNat :: l).toArray⟩ := by
  apply ByteArray.ext
  simp [ofInts]

/-- What is written over m texts, from q on. -/
def marksT (q m : Nat) : List ByteArray := (List.range m).map fun i => mt (q + i)
theorem marksT_cells (q m : Nat) : (marksT q m).map Value.string = (List.range m).map fun i => Value.string (mt (q + i)) := by simp [marksT]

end Go.Proofs.YtmmkmkaannlkhaaGreatDoor
