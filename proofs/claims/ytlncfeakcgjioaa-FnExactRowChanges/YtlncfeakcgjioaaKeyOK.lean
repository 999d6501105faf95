/- Whether a text can be a name, a key or a word: isKey, isWord. No condition: they are lemmas. -/
import Derived.Test.YtlncfeakcgjioaaWordOKs
import Derived.Test.YtlncfeakcgjioaaTextOrd
namespace Go.Proofs.Ytlncfeakcgjioaa
open Go.RowKit
set_option linter.unusedVariables false

def keyB (s : ByteArray) : Bool := !s.toList.isEmpty && decide (s.size ≤ 200)

set_option maxHeartbeats 400000 in
theorem isKey_any (s : ByteArray) (w : World) :
    Calls Try.prog 37 #[.string s] w fun e w' => e = .returned (.bool (keyB s)) ∧ w' = w := by
  have hK : Hid (keyB s = (!s.toList.isEmpty && decide (s.size ≤ 200))) := rfl
  cases hb : s.toList.isEmpty with
  | true =>
    have h : s.toList = [] := by simpa using hb
    go_enter Try.func37, Try.ntmps37
    go_wp2_with fail
    go_ret
    exact ⟨by rw [hK.out, hb]; rfl, rfl⟩
  | false =>
    have h : ¬ s.toList = [] := by simpa using hb
    have hW := fun w => isWord_any s w
    generalize decide (s.size ≤ 200) = d at hW hK
    go_enter Try.func37, Try.ntmps37
    go_wp2_with (go_at_call 40; refine (hW _).mono ?_; rintro e w' ⟨rfl, hw⟩; obtain rfl := hw.symm)
    go_ret
    exact ⟨by rw [hK.out, hb]; rfl, rfl⟩

theorem isKey_b (s : ByteArray) (w : World) : Calls Try.prog 37 #[.string s] w fun e w' => e = .returned (.bool (keyB s)) ∧ Below w.heap.size w w' :=
  (isKey_any s w).mono fun e w' h => ⟨h.1, by rw [h.2]; exact Below.refl _ _⟩
theorem isWord_b (s : ByteArray) (w : World) : Calls Try.prog 40 #[.string s] w fun e w' => e = .returned (.bool (decide (s.size ≤ 200))) ∧ Below w.heap.size w w' :=
  (isWord_any s w).mono fun e w' h => ⟨h.1, by rw [h.2]; exact Below.refl _ _⟩

theorem empty_size (s : ByteArray) : s.toList.isEmpty = decide (s.size = 0) := by
  have : s.toList.length = s.size := by rw [ByteArray.toList_eq]; simp
  cases h : s.toList with
  | nil => rw [h] at this; simp at this; simp [this.symm]
  | cons a r => rw [h] at this; simp at this; simp [← this]
theorem keyB_eq (s : ByteArray) : keyB s = (decide (1 ≤ s.size) && decide (s.size ≤ 200)) := by
  unfold keyB
  rw [empty_size]
  by_cases h : s.size = 0
  · simp [h]
  · have : 1 ≤ s.size := by omega
    simp [h, this]

end Go.Proofs.Ytlncfeakcgjioaa
