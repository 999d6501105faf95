/- What the two functions PutInt do, and the walk of the law over both: it answers true at every int. -/
import Derived.Test.YthkopbkceeggjaaNums
import Derived.Test.YthkopbkceeggjaaCells
namespace Go.Proofs.Ythkopbkceeggjaa
open Go.RowKit
set_option linter.unusedVariables false

/-- What PutInt answers: bytes and a code. -/
def putIntBytes (v : Int) : List Int := if 0 ≤ v ∧ v ≤ 4611686018427387903 then enc v.toNat else []
def putIntCode (v : Int) : Int := if 0 ≤ v ∧ v ≤ 4611686018427387903 then 0 else 4
theorem putIntBytes_len (v : Int) : (putIntBytes v).length ≤ 10 := by
  unfold putIntBytes
  split
  · exact enc_len (by omega)
  · simp

set_option maxHeartbeats 400000 in
theorem specPutInt_any (v : Int) (w : World) :
    Calls Try.prog 9 #[.int .i64 v] w fun e w' => ∃ r, e = .returned (.tuple #[r, .int .i64 (putIntCode v)]) ∧ Own 5 w' w.heap.size r ((putIntBytes v).map (Value.int .u8)) ∧ Below w.heap.size w w' := by
  by_cases h : 0 ≤ v ∧ v ≤ 4611686018427387903
  · obtain ⟨h0, h1⟩ := h
    obtain ⟨n, rfl⟩ := Int.eq_ofNat_of_zero_le h0
    have e1 : putIntBytes (n : Int) = enc n := by unfold putIntBytes; rw [if_pos ⟨h0, h1⟩, Int.toNat_natCast]
    have e2 : putIntCode (n : Int) = 0 := by unfold putIntCode; rw [if_pos ⟨h0, h1⟩]
    rw [e1, e2]
    clear e1 e2
    go_enter Try.func9, Try.ntmps9
    go_wp2_with (first | (go_at_call 33; refine (l01Num_yes _ _ (by omega) (by omega)).mono ?_; rintro e w' ⟨rfl, rfl⟩) | (go_at_call 34; refine (l01Put_any n n _ (by omega) (by omega)).mono ?_; rintro e w1 ⟨r, rfl, hown, hbel⟩))
    go_ret2
    exact ⟨_, rfl, hown, hbel⟩
  · have e1 : putIntBytes v = [] := by unfold putIntBytes; rw [if_neg h]
    have e2 : putIntCode v = 4 := by unfold putIntCode; rw [if_neg h]
    rw [e1, e2]
    clear e1 e2
    go_enter Try.func9, Try.ntmps9
    go_wp2_with (first | (go_at_call 33; refine (l01Num_no _ _ (by omega)).mono ?_; rintro e w' ⟨rfl, rfl⟩))
    go_ret2
    exact ⟨_, rfl, own_lit _ 5 [] 0 rfl (by decide), (Below.refl _ _).alloc (Nat.le_refl _) _⟩

set_option maxHeartbeats 400000 in
theorem implPutInt_any (v : Int) (w : World) :
    Calls Try.prog 10 #[.int .i64 v] w fun e w' => ∃ r, e = .returned (.tuple #[r, .int .i64 (putIntCode v)]) ∧ Own 5 w' w.heap.size r ((putIntBytes v).map (Value.int .u8)) ∧ Below w.heap.size w w' := by
  by_cases h : 0 ≤ v ∧ v ≤ 4611686018427387903
  · obtain ⟨h0, h1⟩ := h
    obtain ⟨n, rfl⟩ := Int.eq_ofNat_of_zero_le h0
    have e1 : putIntBytes (n : Int) = enc n := by unfold putIntBytes; rw [if_pos ⟨h0, h1⟩, Int.toNat_natCast]
    have e2 : putIntCode (n : Int) = 0 := by unfold putIntCode; rw [if_pos ⟨h0, h1⟩]
    rw [e1, e2]
    clear e1 e2
    go_enter Try.func10, Try.ntmps10
    go_wp2_with (first | (go_at_call 35; refine (appendInt_any w.heap.size w _ [] n (by omega) (by simp) (Nat.le_refl _) (World.ownsRow_nil _ _ _ _)).mono ?_; rintro e w1 ⟨r, rfl, hown, hbel⟩))
    go_ret2
    exact ⟨_, rfl, hown, hbel⟩
  · have e1 : putIntBytes v = [] := by unfold putIntBytes; rw [if_neg h]
    have e2 : putIntCode v = 4 := by unfold putIntCode; rw [if_neg h]
    rw [e1, e2]
    clear e1 e2
    by_cases hv : v < 0
    · clear h
      go_enter Try.func10, Try.ntmps10
      go_wp2_with fail
      go_ret2
      exact ⟨_, rfl, World.ownsRow_nil _ _ _ _, Below.refl _ _⟩
    · have h2 : 4611686018427387903 < v := by omega
      clear h
      go_enter Try.func10, Try.ntmps10
      go_wp2_with fail
      go_ret2
      exact ⟨_, rfl, World.ownsRow_nil _ _ _ _, Below.refl _ _⟩

set_option maxHeartbeats 1000000 in
set_option maxRecDepth 100000 in
theorem lawPutInt_walk (v : Int) (w : World) : Calls Try.prog 3 #[.int .i64 v] w fun e w' => e = .returned (.bool true) ∧ Below w.heap.size w w' := by
  have hlen := putIntBytes_len v
  go_enter Try.func3, Try.ntmps3
  go_wp2_with fail
  refine (specPutInt_any v w).mono ?_
  rintro e w1 ⟨r0, rfl, ho0, hb1⟩
  go_wp2_with fail
  refine (implPutInt_any v w1).mono ?_
  rintro e w2 ⟨r1, rfl, ho1, hb2⟩
  have ro0 := (ho0.rd).below hb2
  go_wp2_with fail
  refine (eqByteS_same _ _ w2 r1 r0 (putIntBytes v) (by omega) ho1.rd ro0).mono ?_
  rintro e w3 ⟨rfl, n3, rfl⟩
  go_wp2_with fail
  refine (markByteS_any w1.heap.size (w2.drewN n3) r1 _ 1 (by simp; omega) (by omega) ho1).mono ?_
  rintro e w4 ⟨rfl, ho4, hb4, _⟩
  rw [List.length_map] at ho4 ⊢
  go_wp2_with fail
  refine (heldByteS_same _ w4 r1 1 (putIntBytes v).length (by omega) (by omega) ho4.rd).mono ?_
  rintro e w5 ⟨rfl, rfl⟩
  go_wp2_with fail
  refine (implPutInt_any v w5).mono ?_
  rintro e w6 ⟨r2, rfl, ho6, hb6⟩
  have hz5 : w1.heap.size ≤ w5.heap.size := Nat.le_trans hb2.size hb4.size
  have ro6 : Rd w1.heap.size w6 r0 _ := ((ro0.below (below_drewN (Below.refl _ _) n3)).below hb4).below (hb6.mono hz5)
  go_wp2_with fail
  refine (eqByteS_same _ _ w6 r2 r0 (putIntBytes v) (by omega) ho6.rd ro6).mono ?_
  rintro e w7 ⟨rfl, n7, rfl⟩
  have ho7 := ho4.below hb6 (Nat.le_refl _)
  go_wp2_with fail
  refine (heldByteS_same _ (w6.drewN n7) r1 1 (putIntBytes v).length (by omega) (by omega) ho7.rd).mono ?_
  rintro e w8 ⟨rfl, rfl⟩
  go_wp2_with fail
  go_ret
  have hz1 := hb1.size
  exact ⟨rfl, below_drewN ((((hb1.trans (hb2.mono hz1)).trans (below_drewN (Below.refl _ _) n3)).trans (hb4.mono hz1)).trans (hb6.mono (Nat.le_trans hz1 hz5))) n7⟩
end Go.Proofs.Ythkopbkceeggjaa
