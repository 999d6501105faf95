/- What eqByteS, markByteS and heldByteS do: equal bytes are told equal; a row that the call owns is written over; what was written is found again. -/
import Derived.Test.YtnomplfnblmciaaInfo
namespace Go.Proofs.Ytnomplfnblmciaa
open Go.RowKit
set_option linter.unusedVariables false

set_option maxHeartbeats 400000 in
theorem eqByteS_same (C C' : Nat) (w : World) (va vb : Value) (xs : List Int) (hl : xs.length ≤ 140737488355328)
    (ha : Rd C w va (xs.map (Value.int .u8))) (hb : Rd C' w vb (xs.map (Value.int .u8))) :
    Calls Try.prog 13 #[va, vb] w fun e w' => e = .returned (.bool true) ∧ ∃ n, w' = w.drewN n := by
  obtain ⟨ao, ca, rfl, _, _, _, ha⟩ := ha
  obtain ⟨bo, cb, rfl, _, _, _, hb⟩ := hb
  rw [List.length_map] at ha hb ⊢
  go_enter Try.func13, Try.ntmps13
  go_wp2
  go_loopw [5] (fun i wr => ∃ k : Nat, k ≤ xs.length ∧ i = .int .i64 k ∧ ∃ n, wr = w.drewN n) (fun i _ => xs.length - (intOf i).toNat)
  case atStart => exact ⟨0, Nat.zero_le _, rfl, 0, rfl⟩
  case round =>
    obtain ⟨k, hk, rfl, n, rfl⟩ := hrel
    by_cases hlt : k < xs.length
    · obtain ⟨g, off, rfl, _, hc⟩ := ha (by omega)
      obtain ⟨g', off', rfl, _, hc'⟩ := hb (by omega)
      have c1 := hc k (.int .u8 xs[k]) (by simp [hlt])
      have c2 := hc' k (.int .u8 xs[k]) (by simp [hlt])
      clear hc hc' ha hb
      go_wp2
      go_quiet (fail)
      go_wp2
      go_roundw
      case rel => exact ⟨k + 1, by omega, by go_num, _, rfl⟩
      case measure => simp [intOf]; omega
    · go_wp2
      go_ret
      exact ⟨rfl, n, rfl⟩

set_option maxHeartbeats 400000 in
theorem heldByteS_same (C : Nat) (w : World) (va : Value) (q : Nat) (m : Nat) (hm : m ≤ 140737488355328) (hq : q ≤ 140737488355328)
    (ha : Rd C w va ((marks q m).map (Value.int .u8))) :
    Calls Try.prog 15 #[va, .int .i64 (q : Int)] w fun e w' => e = .returned (.int .i64 ((q + m : Nat) : Int)) ∧ w' = w := by
  obtain ⟨ao, ca, rfl, _, _, _, ha⟩ := ha
  rw [List.length_map, marks_len] at ha ⊢
  go_enter Try.func15, Try.ntmps15
  go_wp2
  go_loop [1, 5] (fun t i => ∃ k : Nat, k ≤ m ∧ i = .int .i64 k ∧ t = .int .i64 ((q + k : Nat) : Int)) (fun _ i => m - (intOf i).toNat)
  case atStart => exact ⟨0, Nat.zero_le _, rfl, rfl⟩
  case round =>
    obtain ⟨k, hk, rfl, rfl⟩ := hrel
    by_cases hlt : k < m
    · obtain ⟨g, off, rfl, _, hc⟩ := ha (by omega)
      have c1 := hc k (.int .u8 (((q + k) % 256 : Nat) : Int)) (by rw [List.getElem?_map, marks_get hlt]; rfl)
      clear hc ha
      go_wp2
      go_round
      case rel => exact ⟨k + 1, by omega, by go_num, by go_num⟩
      case measure => simp [intOf]; omega
    · go_wp2
      go_ret
      exact ⟨by rw [show k = m by omega]; rfl, rfl⟩

set_option maxHeartbeats 400000 in
theorem markByteS_any (B : Nat) (w : World) (v : Value) (cs : List Value) (q : Nat) (hm : cs.length ≤ 140737488355328) (hq : q ≤ 140737488355328)
    (ho : Own 5 w B v cs) :
    Calls Try.prog 14 #[v, .int .i64 (q : Int)] w fun e w' => e = .returned (.int .i64 ((q + cs.length : Nat) : Int)) ∧ Own 5 w' B v ((marks q cs.length).map (Value.int .u8)) ∧ Below B w w' ∧ w.grownBy w' v.ownBlock := by
  obtain ⟨ao, cap, rfl, hsh⟩ := ho.slice
  go_enter Try.func14, Try.ntmps14
  go_wp2
  go_loopw [1, 5] (fun t i wr => ∃ k : Nat, k ≤ cs.length ∧ i = .int .i64 k ∧ t = .int .i64 ((q + k : Nat) : Int) ∧ Own 5 wr B (.slice ao cs.length cap) ((marks q k).map (Value.int .u8) ++ cs.drop k) ∧ Below B w wr ∧ w.grownBy wr (Value.slice ao cs.length cap).ownBlock) (fun _ i _ => cs.length - (intOf i).toNat)
  case atStart => exact ⟨0, Nat.zero_le _, rfl, rfl, ho, Below.refl _ _, World.grownBy.refl _ _⟩
  case round =>
    obtain ⟨k, hk, rfl, rfl, how, hbel, hgr⟩ := hrel
    by_cases hlt : k < cs.length
    · obtain ⟨g, rfl⟩ := hsh (by omega)
      have c1 := own_cell how (k := k) (by simp [marks_len]; omega)
      have f1 := own_free how k
      have R := own_set how k (Value.int .u8 (((q + k) % 256 : Nat) : Int))
      rw [mark_step q k cs hlt] at R
      have hB := own_lt how
      have R2 : Below B w (wr.setCell ⟨g, k, none⟩ (Value.int .u8 (((q + k) % 256 : Nat) : Int))) := hbel.setCell (by exact hB) _
      have R3 := grownBy_trans hgr (grownBy_set wr g k (Value.int .u8 (((q + k) % 256 : Nat) : Int)))
      clear hgr
      go_wp2
      go_roundw
      case rel => exact ⟨k + 1, by omega, by go_num, by go_num, R, R2, R3⟩
      case measure => simp [intOf]; omega
    · go_wp2
      go_ret
      exact ⟨by rw [show k = cs.length by omega]; rfl, by rw [show k = cs.length by omega] at how; simpa using how, hbel, hgr⟩
end Go.Proofs.Ytnomplfnblmciaa
