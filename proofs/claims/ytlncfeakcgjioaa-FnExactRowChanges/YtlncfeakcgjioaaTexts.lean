/- What sharedStart, l01Alike, textsSize, szStringS, toStringS and eqStringS do. -/
import Derived.Test.YtlncfeakcgjioaaNums
import Derived.Test.YtlncfeakcgjioaaTextsBase
namespace Go.Proofs.Ytlncfeakcgjioaa
open Go.RowKit Go.Lib
set_option linter.unusedVariables false

theorem info9 : (Try.prog.info? 9).map (fun i => (i.zero, i.size, i.bytes)) = some (some (.string ByteArray.empty), 1, 16) := by kernel_rfl

set_option maxHeartbeats 1000000 in
theorem szStringS_any (C : Nat) (w : World) (v : Value) (ss : List ByteArray) (hl : ss.length ≤ 9223372036854775807) (hsz : ∀ k, (txt ss k).size ≤ 9223372036854775807) (hr : Rd C w v (ss.map Value.string)) :
    Calls Try.prog 33 #[v, .int .i64 1048576] w fun e w' => (∃ x : Int, e = .returned (.int .i64 x) ∧ (0 ≤ x → ss.length + tot ss ss.length ≤ 1048576)) ∧ w' = w := by
  obtain ⟨ao, cap, rfl, _, _, _, hr⟩ := hr
  rw [List.length_map] at hr ⊢
  by_cases hb : 1048576 < ss.length
  · go_enter Try.func33, Try.ntmps33
    go_wp2
    go_ret
    exact ⟨⟨_, rfl, by omega⟩, rfl⟩
  · go_enter Try.func33, Try.ntmps33
    go_wp2
    go_loop [1, 5] (fun t i => ∃ k : Nat, k ≤ ss.length ∧ i = .int .i64 k ∧ ss.length + tot ss k ≤ 1048576 ∧ t = .int .i64 (1048576 - (ss.length : Int) - ((tot ss k : Nat) : Int))) (fun _ i => ss.length - (intOf i).toNat)
    case atStart => exact ⟨0, Nat.zero_le _, rfl, by simp [tot]; omega, by simp [tot]⟩
    case round =>
      obtain ⟨k, hk, rfl, hle, rfl⟩ := hrel
      by_cases hlt : k < ss.length
      · obtain ⟨g, off, rfl, _, hc⟩ := hr (by omega)
        have c1 := hc k (.string (txt ss k)) (by simp [txt, hlt])
        have hs := hsz k
        clear hc hr
        by_cases hbig : 1048576 < ss.length + tot ss k + (txt ss k).size
        · go_wp2
          go_ret
          exact ⟨⟨_, rfl, by omega⟩, rfl⟩
        · go_wp2
          go_round
          case rel => exact ⟨k + 1, by omega, by go_num, by simp [tot]; omega, by simp [tot]; omega⟩
          case measure => simp [intOf]; omega
      · go_wp2
        go_ret
        exact ⟨⟨_, rfl, fun _ => by rw [show ss.length = k by omega] at hle ⊢; exact hle⟩, rfl⟩
end Go.Proofs.Ytlncfeakcgjioaa
