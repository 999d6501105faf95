/- What the two functions PutInt do, and the walk of the law over both: it answers true at every int. -/
import Derived.Test.YtbkdjaodbknlpaaNums
import Derived.Test.YtbkdjaodbknlpaaCells
namespace Go.Proofs.Ytbkdjaodbknlpaa
open Go.RowKit
set_option linter.unusedVariables false

/-- What PutInt answers: bytes and a code. -/
def putIntBytes (v : Int) : List Int := if 0 ≤ v ∧ v ≤ 4611686018427387903 then enc v.toNat else []
def putIntCode (v : Int) : Int := if 0 ≤ v ∧ v ≤ 4611686018427387903 then 0 else 4
theorem putIntBytes_len (v : Int) : (putIntBytes v).length ≤ 10 := by
  unfold putIntBytes
  split
  · exact enc_len (by omega)
  · simp

set_option maxHeartbeats 400000 in
theorem implPutInt_any (v : Int) (w : World) :
    Calls Try.prog 8 #[.int .i64 v] w fun e w' => ∃ r, e = .returned (.tuple #[r, .int .i64 (putIntCode v)]) ∧ Own 5 w' w.heap.size r ((putIntBytes v).map (Value.int .u8)) ∧ Below w.heap.size w w' := by
  by_cases h : 0 ≤ v ∧ v ≤ 4611686018427387903
  · obtain ⟨h0, h1⟩ := h
    obtain ⟨n, rfl⟩ := Int.eq_ofNat_of_zero_le h0
    have e1 : putIntBytes (n : Int) = enc n := by unfold putIntBytes; rw [if_pos ⟨h0, h1⟩, Int.toNat_natCast]
    have e2 : putIntCode (n : Int) = 0 := by unfold putIntCode; rw [if_pos ⟨h0, h1⟩]
    rw [e1, e2]
    clear e1 e2
    go_enter Try.func8, Try.ntmps8
    go_wp2_with (first | (go_at_call 46; refine (appendInt_any w.heap.size w _ [] n (by omega) (by simp) (Nat.le_refl _) (World.ownsRow_nil _ _ _ _)).mono ?_; rintro e w1 ⟨r, rfl, hown, hbel⟩))
    go_ret2
    exact ⟨_, rfl, hown, hbel⟩
  · have e1 : putIntBytes v = [] := by unfold putIntBytes; rw [if_neg h]
    have e2 : putIntCode v = 4 := by unfold putIntCode; rw [if_neg h]
    rw [e1, e2]
    clear e1 e2
    by_cases hv : v < 0
    · clear h
      go_enter Try.func8, Try.ntmps8
      go_wp2_with fail
      go_ret2
      exact ⟨_, rfl, World.ownsRow_nil _ _ _ _, Below.refl _ _⟩
    · have h2 : 4611686018427387903 < v := by omega
      clear h
      go_enter Try.func8, Try.ntmps8
      go_wp2_with fail
      go_ret2
      exact ⟨_, rfl, World.ownsRow_nil _ _ _ _, Below.refl _ _⟩

end Go.Proofs.Ytbkdjaodbknlpaa
