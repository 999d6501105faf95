/- What sharedStart, l01Alike, textsSize, szStringS, toStringS and eqStringS do. -/
import Derived.Test.YtaglbacicpknaaaNums
import Derived.Test.YtaglbacicpknaaaTextsBase
namespace Go.Proofs.Ytaglbacicpknaaa
open Go.RowKit Go.Lib
set_option linter.unusedVariables false

theorem info9 : (Try.prog.info? 9).map (fun i => (i.zero, i.size, i.bytes)) = some (some (.string ByteArray.empty), 1, 16) := by kernel_rfl

set_option maxHeartbeats 1000000 in
theorem l01Alike_any (a b : ByteArray) (w : World) (ha : a.size ≤ 140737488355328) (hb : b.size ≤ 140737488355328) :
    Calls Try.prog 48 #[.string a, .string b] w fun e w' => e = .returned (.int .i64 ((alike a b : Nat) : Int)) ∧ ∃ n, w' = w.drewN n := by
  go_enter Try.func48, Try.ntmps48
  go_wp2
  go_loopw [5] (fun i wr => ∃ k : Nat, k ≤ a.size ∧ k ≤ b.size ∧ i = .int .i64 k ∧ (∃ n, wr = w.drewN n) ∧ Hid (alike a b = k + alikeL (a.data.toList.drop k) (b.data.toList.drop k))) (fun i _ => a.size - (intOf i).toNat)
  case atStart => exact ⟨0, Nat.zero_le _, Nat.zero_le _, rfl, ⟨0, rfl⟩, by simp [Hid, alike]⟩
  case round =>
    obtain ⟨k, hka, hkb, rfl, ⟨n, rfl⟩, H⟩ := hrel
    by_cases h1 : k < a.size
    · have hi1 : (k : Int) < (a.size : Int) := by omega
      by_cases h2 : k < b.size
      · have hi2 : (k : Int) < (b.size : Int) := by omega
        by_cases he : a[k] = b[k]
        · have HS : Hid _ := alike_step h1 h2 he H.out
          clear H
          go_wp2
          go_quiet (fail)
          go_wp2
          go_roundw
          case rel => exact ⟨k + 1, by omega, by omega, by go_num, ⟨_, rfl⟩, HS⟩
          case measure => simp [intOf]; omega
        · have HS : Hid _ := alike_stop (fun _ _ => he) H.out
          have hne : ((a[k].toNat : Int) == (b[k].toNat : Int)) = false := by
            rw [beq_eq_false_iff_ne]
            intro h
            exact he (UInt8.toNat_inj.1 (by omega))
          clear H
          go_wp2
          go_quiet (fail)
          go_wp2
          go_ret
          exact ⟨by rw [HS.out]; rfl, n + nq, by simp⟩
      · have HS : Hid _ := alike_stop (fun _ h => absurd h h2) H.out
        have hi2 : decide ((k : Int) < (b.size : Int)) = false := by simp; omega
        clear H
        go_wp2
        go_quiet (fail)
        go_wp2
        go_ret
        exact ⟨by rw [HS.out]; rfl, n + nq, by simp⟩
    · have HS : Hid _ := alike_stop (fun h _ => absurd h h1) H.out
      have hi1 : decide ((k : Int) < (a.size : Int)) = false := by simp; omega
      clear H
      go_wp2
      go_quiet (fail)
      go_wp2
      go_ret
      exact ⟨by rw [HS.out]; rfl, n + nq, by simp⟩

set_option maxHeartbeats 1000000 in
theorem sharedStart_any (a b : ByteArray) (w : World) (ha : a.size ≤ 140737488355328) (hb : b.size ≤ 140737488355328) :
    Calls Try.prog 69 #[.string a, .string b] w fun e w' => e = .returned (.int .i64 ((alike a b : Nat) : Int)) ∧ ∃ n, w' = w.drewN n := by
  go_enter Try.func69, Try.ntmps69
  go_wp2
  go_loopw [5] (fun i wr => ∃ k : Nat, k ≤ a.size ∧ k ≤ b.size ∧ i = .int .i64 k ∧ (∃ n, wr = w.drewN n) ∧ Hid (alike a b = k + alikeL (a.data.toList.drop k) (b.data.toList.drop k))) (fun i _ => a.size - (intOf i).toNat)
  case atStart => exact ⟨0, Nat.zero_le _, Nat.zero_le _, rfl, ⟨0, rfl⟩, by simp [Hid, alike]⟩
  case round =>
    obtain ⟨k, hka, hkb, rfl, ⟨n, rfl⟩, H⟩ := hrel
    by_cases h1 : k < a.size
    · have hi1 : (k : Int) < (a.size : Int) := by omega
      by_cases h2 : k < b.size
      · have hi2 : (k : Int) < (b.size : Int) := by omega
        by_cases he : a[k] = b[k]
        · have HS : Hid _ := alike_step h1 h2 he H.out
          clear H
          go_wp2
          go_quiet (fail)
          go_wp2
          go_roundw
          case rel => exact ⟨k + 1, by omega, by omega, by go_num, ⟨_, rfl⟩, HS⟩
          case measure => simp [intOf]; omega
        · have HS : Hid _ := alike_stop (fun _ _ => he) H.out
          have hne : ((a[k].toNat : Int) == (b[k].toNat : Int)) = false := by
            rw [beq_eq_false_iff_ne]
            intro h
            exact he (UInt8.toNat_inj.1 (by omega))
          clear H
          go_wp2
          go_quiet (fail)
          go_wp2
          go_ret
          exact ⟨by rw [HS.out]; rfl, n + nq, by simp⟩
      · have HS : Hid _ := alike_stop (fun _ h => absurd h h2) H.out
        have hi2 : decide ((k : Int) < (b.size : Int)) = false := by simp; omega
        clear H
        go_wp2
        go_quiet (fail)
        go_wp2
        go_ret
        exact ⟨by rw [HS.out]; rfl, n + nq, by simp⟩
    · have HS : Hid _ := alike_stop (fun h _ => absurd h h1) H.out
      have hi1 : decide ((k : Int) < (a.size : Int)) = false := by simp; omega
      clear H
      go_wp2
      go_quiet (fail)
      go_wp2
      go_ret
      exact ⟨by rw [HS.out]; rfl, n + nq, by simp⟩

set_option maxHeartbeats 400000 in
theorem textsSize_any (C : Nat) (w : World) (v : Value) (ss : List ByteArray) (hl : ss.length ≤ 1048576) (ht : tot ss ss.length ≤ 1048576) (hr : Rd C w v (ss.map Value.string)) :
    Calls Try.prog 68 #[v] w fun e w' => e = .returned (.int .i64 ((tot ss ss.length : Nat) : Int)) ∧ w' = w := by
  obtain ⟨ao, cap, rfl, _, _, _, hr⟩ := hr
  rw [List.length_map] at hr ⊢
  go_enter Try.func68, Try.ntmps68
  go_wp2
  go_loop [3, 8] (fun t i => ∃ k : Nat, k ≤ ss.length ∧ i = .int .i64 k ∧ t = .int .i64 ((tot ss k : Nat) : Int)) (fun _ i => ss.length - (intOf i).toNat)
  case atStart => exact ⟨0, Nat.zero_le _, rfl, rfl⟩
  case round =>
    obtain ⟨k, hk, rfl, rfl⟩ := hrel
    have hm := tot_mono ss hk
    by_cases hlt : k < ss.length
    · obtain ⟨g, off, rfl, _, hc⟩ := hr (by omega)
      have c1 := hc k (.string (txt ss k)) (by simp [txt, hlt])
      have hm1 := tot_mono ss (show k + 1 ≤ ss.length from hlt)
      simp only [tot] at hm1
      clear hc hr
      go_wp2
      go_round
      case rel => exact ⟨k + 1, by omega, by go_num, by simp [tot]⟩
      case measure => simp [intOf]; omega
    · go_wp2
      go_ret
      exact ⟨by rw [show k = ss.length by omega]; rfl, rfl⟩

end Go.Proofs.Ytaglbacicpknaaa
