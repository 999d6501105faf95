/- What l01Num, l01Put and appendInt do: the bytes of a number from 0 to MaxNum, behind a row that the call owns. -/
import Derived.Test.YtaglbacicpknaaaInfo
namespace Go.Proofs.Ytaglbacicpknaaa
open Go.RowKit
set_option linter.unusedVariables false


set_option maxRecDepth 100000 in
set_option maxHeartbeats 400000 in
theorem l01Put_any (k : Nat) : ∀ (n : Nat) (w : World), n ≤ k → n ≤ 4611686018427387903 →
    Calls Try.prog 46 #[.int .i64 (n : Int)] w fun e w' => ∃ r, e = .returned r ∧ Own 5 w' w.heap.size r ((enc n).map (Value.int .u8)) ∧ Below w.heap.size w w' := by
  obtain ⟨i0, hi, hz0, hz1, hz2⟩ := info_parts info5
  induction k with
  | zero =>
    intro n w hk hn
    have : n = 0 := by omega
    subst this
    go_enter Try.func46, Try.ntmps46
    go_wp2_with fail
    go_ret
    refine ⟨_, rfl, ?_, (Below.refl _ _).alloc (Nat.le_refl _) _⟩
    rw [enc_small (by omega)]
    exact World.ownsRow_lit w #[.int .u8 0] 1 (Nat.le_refl _) (by decide) rfl
  | succ k ih =>
    intro n w hk hn
    by_cases hs : n < 128
    · go_enter Try.func46, Try.ntmps46
      go_wp2_with fail
      go_ret
      refine ⟨_, rfl, ?_, (Below.refl _ _).alloc (Nat.le_refl _) _⟩
      rw [enc_small hs]
      exact own_lit w 5 [.int .u8 (n : Int)] 1 rfl (by decide)
    · go_enter Try.func46, Try.ntmps46
      go_wp2_with fail
      rw [show ((n : Int) / 128) = ((n / 128 : Nat) : Int) by omega]
      refine (ih (n / 128) _ (by omega) (by omega)).mono ?_
      clear ih
      rintro e w1 ⟨r, rfl, hown, hbel⟩
      have hlen := enc_len (n := n / 128) (by omega)
      have hv : Own 5 w1 w.heap.size (.slice (some ⟨w.heap.size, 0, none⟩) 1 1) [.int .u8 (128 + (n : Int) % 128)] := (own_lit w 5 [.int .u8 (128 + (n : Int) % 128)] 1 rfl (by decide)).below hbel (Nat.le_refl _)
      obtain ⟨g, cap, rfl, hb, hlt, hc⟩ := hown.some (by simpa using enc_pos _)
      have hb1 := hbel.size
      rw [List.length_map] at hown ⊢
      simp at hb1
      go_wp2_with (at_builtin; refine wpList_append_own _ rfl _ _ 30 rfl w.heap.size 5 i0 (.int .u8 0) 1 1 Try.underlying30 hi hz0 hz1 hz2 rfl (by decide) _ 1 _ rfl hv ⟨g, 0, none⟩ (enc (n / 128)).length cap ((enc (n / 128)).map (Value.int .u8)) rfl (by simp) hc (ints_oneCell _ _) (by unfold maxLen; omega) (by omega) (by omega) ?_)
      intro v' w2 hown' hgrow _
      go_wp2_with fail
      go_ret
      refine ⟨_, rfl, ?_, ?_⟩
      · have := own_of hown'
        rw [enc_big (n := n) (by omega), List.map_cons, show ((n % 128 + 128 : Nat) : Int) = 128 + (n : Int) % 128 by omega]
        exact this
      · exact ((((Below.refl _ _).alloc (Nat.le_refl _) _).trans (hbel.mono (by simp)))).grown hgrow (by omega) (fun k hk => by simp [Value.ownBlock] at hk; omega)

set_option maxRecDepth 100000 in
set_option maxHeartbeats 400000 in
theorem appendInt_any (B : Nat) (w : World) (v : Value) (xs : List Int) (n : Nat) (hn : n ≤ 4611686018427387903) (hx : xs.length ≤ 100000000) (hB : B ≤ w.heap.size) (ho : Own 5 w B v (xs.map (Value.int .u8))) :
    Calls Try.prog 65 #[v, .int .i64 (n : Int)] w fun e w' => ∃ r, e = .returned r ∧ Own 5 w' B r ((xs ++ enc n).map (Value.int .u8)) ∧ Below B w w' := by
  obtain ⟨i0, hi, hz0, hz1, hz2⟩ := info_parts info5
  have hlen := enc_len (n := n) (by omega)
  go_enter Try.func65, Try.ntmps65
  go_wp2
  go_loopw [0, 1] (fun r t wr => ∃ (ys : List Int) (m : Nat), m ≤ 4611686018427387903 ∧ t = .int .i64 m ∧ Own 5 wr B r (ys.map (Value.int .u8)) ∧ Below B w wr ∧ Hid (ys ++ enc m = xs ++ enc n)) (fun _ t _ => (intOf t).toNat)
  case atStart => exact ⟨xs, n, hn, rfl, ho, Below.refl _ _, rfl⟩
  case round =>
    obtain ⟨ys, m, hm, rfl, how, hbel, HE⟩ := hrel
    have hl : ys.length ≤ 100000010 := by have := congrArg List.length HE.out; simp only [List.length_append] at this; omega
    have hsz := hbel.size
    by_cases hs : m < 128
    · go_wp2_with (at_builtin; refine wpList_append_own _ rfl _ _ 30 rfl B 5 i0 (.int .u8 0) 1 1 Try.underlying30 hi hz0 hz1 hz2 rfl (by decide) _ _ _ rfl (how.alloc _) ⟨wr.heap.size, 0, none⟩ 1 1 [.int .u8 (m : Int)] rfl rfl (cell_one_new _ _ _) (by simp [Value.oneCell']) (by simp [maxLen]; omega) (by simp; omega) (by simp; omega) ?_)
      intro v' w2 ho2 hg2 _
      have ho3 := own_of ho2
      have hb2 : Below B w w2 := (hbel.alloc (by omega) _).grown hg2 (by simp; omega) how.lt
      clear ho2 hg2 how
      go_wp2_with fail
      go_ret
      refine ⟨_, rfl, ?_, hb2⟩
      rw [← HE.out, enc_small hs, List.map_append]
      exact ho3
    · go_wp2_with (at_builtin; refine wpList_append_own _ rfl _ _ 30 rfl B 5 i0 (.int .u8 0) 1 1 Try.underlying30 hi hz0 hz1 hz2 rfl (by decide) _ _ _ rfl (how.alloc _) ⟨wr.heap.size, 0, none⟩ 1 1 [.int .u8 ((m : Int) % 128 + 128)] rfl rfl (cell_one_new _ _ _) (by simp [Value.oneCell']) (by simp [maxLen]; omega) (by simp; omega) (by simp; omega) ?_)
      intro v' w2 ho2 hg2 _
      have ho3 := own_of ho2
      have hb2 : Below B w w2 := (hbel.alloc (by omega) _).grown hg2 (by simp; omega) how.lt
      have HE' : Hid ((ys ++ [(m : Int) % 128 + 128]) ++ enc (m / 128) = xs ++ enc n) := by
        unfold Hid
        rw [← HE.out, enc_big (n := m) (by omega)]
        simp
      clear ho2 hg2 how
      go_wp2_with fail
      go_roundw
      case rel => exact ⟨ys ++ [(m : Int) % 128 + 128], m / 128, by omega, by go_num, by rw [List.map_append]; exact ho3, hb2, HE'⟩
      case measure => simp [intOf]; omega
end Go.Proofs.Ytaglbacicpknaaa
