/- What toStringS, eqStringS, markText, markStringS and heldStringS do. -/
import Derived.Test.YtagnpahkhaighaaTexts
import Derived.Test.YtagnpahkhaighaaStr
import Derived.Deep.RegionHeld2
namespace Go.Proofs.Ytagnpahkhaighaa
open Go.RowKit Go.Lib
set_option linter.unusedVariables false

/-- The decimal digits of a number, ahead of a text. -/
def digs : Nat → Nat → List UInt8 → List UInt8
  | 0, _, l => l
  | f + 1, k, l => if k = 0 then l else digs f (k / 10) (UInt8.ofNat (48 + k % 10) :: l)
/-- What markText answers. -/
def mt (k : Nat) : ByteArray := if k = 0 then ⟨#[109, 48]⟩ else ⟨(109 :: digs k k []).toArray⟩

theorem digs_zero (f : Nat) (l : List UInt8) : digs f 0 l = l := by cases f <;> simp [digs]
theorem bytes_cons (x : Int) (l : List UInt8) : ofInts [x] ++ (⟨l.toArray⟩ : ByteArray) = ⟨(UInt8.ofNat x.toNat :: l).toArray⟩ := by
  apply ByteArray.ext
  simp [ofInts]

set_option maxHeartbeats 1000000 in
set_option maxRecDepth 100000 in
theorem markText_any (k : Nat) (hk : k ≤ 140737488355328) (w : World) : Calls Try.prog 38 #[.int .i64 (k : Int)] w fun e w' => e = .returned (.string (mt k)) ∧ Below w.heap.size w w' := by
  by_cases hz : k = 0
  · subst hz
    go_enter Try.func38, Try.ntmps38
    go_wp2
    go_ret
    exact ⟨rfl, Below.refl _ _⟩
  · have hpos : (0 : Int) < (k : Int) := by omega
    go_enter Try.func38, Try.ntmps38
    go_wp2
    go_loopw [0, 3] (fun t s wr => ∃ (j f : Nat) (l : List UInt8), j ≤ f ∧ l.length + j ≤ k ∧ t = .int .i64 j ∧ s = .string ⟨l.toArray⟩ ∧ Hid (digs k k [] = digs f j l) ∧ Below w.heap.size w wr) (fun t _ _ => (intOf t).toNat)
    case atStart => exact ⟨k, k, [], Nat.le_refl _, by simp, rfl, rfl, rfl, Below.refl _ _⟩
    case round =>
      obtain ⟨j, f, l, hf, hj, rfl, rfl, H, hbel⟩ := hrel
      by_cases h0 : j = 0
      · subst h0
        have HR : Hid (mt k = (⟨#[109]⟩ : ByteArray) ++ ⟨l.toArray⟩) := by
          unfold Hid
          unfold mt
          rw [if_neg hz, H.out, digs_zero]
          apply ByteArray.ext
          simp
        go_wp2
        go_ret
        exact ⟨by rw [HR.out]; rfl, hbel⟩
      · have hst := run_string_of (own_lit wr 5 [.int .u8 (48 + (j : Int) % 10)] 1 rfl (by decide)).rd (xs := [48 + (j : Int) % 10])
        have hcat := bytes_cons (48 + (j : Int) % 10) l
        have HD : Hid (digs k k [] = digs (f - 1) (j / 10) (UInt8.ofNat (48 + j % 10) :: l)) := by
          unfold Hid
          rw [H.out]
          obtain ⟨f, rfl⟩ : ∃ f', f = f' + 1 := ⟨f - 1, by omega⟩
          rw [digs, if_neg h0, Nat.add_sub_cancel]
        have hb2 : Below w.heap.size w (wr.alloc (.cells #[.int .u8 (48 + (j : Int) % 10)] 5)) := hbel.alloc hbel.size _
        have hlen : (ofInts [48 + (j : Int) % 10]).size = 1 := rfl
        clear H
        go_wp2
        go_roundw
        case rel => exact ⟨j / 10, f - 1, UInt8.ofNat (48 + j % 10) :: l, by omega, by simp; omega, by go_num, rfl, HD, hb2⟩
        case measure => simp [intOf]; omega

/-- What is written over m texts, from q on. -/
def marksT (q m : Nat) : List ByteArray := (List.range m).map fun i => mt (q + i)
theorem marksT_cells (q m : Nat) : (marksT q m).map Value.string = (List.range m).map fun i => Value.string (mt (q + i)) := by simp [marksT]

end Go.Proofs.Ytagnpahkhaighaa
