/- What the draw of VecBytes answers; and what the laws' sameTexts and sameInts say of two lists that are alike. -/
import Derived.Test.YtfjekbfejbgneaaQSrcVec2
import Derived.Test.YtfjekbfejbgneaaQTextsBase
namespace Go.Proofs.Ytfjekbfejbgneaa
open Go.RowKit
set_option linter.unusedVariables false

set_option maxHeartbeats 1000000 in
set_option maxRecDepth 100000 in
theorem sameInts_same (C C' : Nat) (w : World) (va vb : Value) (xs : List Int) (hl : xs.length ≤ 140737488355328) (ha : Rd C w va (xs.map (Value.int .i64))) (hb : Rd C' w vb (xs.map (Value.int .i64))) :
    Calls Try.prog 32 #[va, vb] w fun e w' => e = .returned (.bool true) ∧ ∃ n, w' = w.drewN n := by
  obtain ⟨ao, ca, rfl, _, _, _, ha⟩ := ha
  obtain ⟨bo, cb, rfl, _, _, _, hb⟩ := hb
  simp only [List.length_map] at ha hb ⊢
  go_enter Try.func32, Try.ntmps32
  go_wp2_with fail
  go_loopw [5] (fun i wr => ∃ k : Nat, k ≤ xs.length ∧ i = .int .i64 k ∧ ∃ n, wr = w.drewN n) (fun i _ => xs.length - (intOf i).toNat)
  case atStart => exact ⟨0, Nat.zero_le _, rfl, 0, rfl⟩
  case round =>
    obtain ⟨k, hk, rfl, n, rfl⟩ := hrel
    by_cases hlt : k < xs.length
    · obtain ⟨g, off, rfl, _, hc⟩ := ha (by omega)
      obtain ⟨g', off', rfl, _, hc'⟩ := hb (by omega)
      have c1 : w.cell? ⟨g, off + k, none⟩ = some (.int .i64 xs[k]) := hc k _ (by simp [hlt])
      have c2 : w.cell? ⟨g', off' + k, none⟩ = some (.int .i64 xs[k]) := hc' k _ (by simp [hlt])
      generalize xs[k] = x at c1 c2
      have q1 : (k : Int) < (xs.length : Int) := by omega
      clear hc hc' ha hb
      go_wp2_with fail
      go_quiet (fail)
      go_wp2_with fail
      go_roundw
      case rel => exact ⟨k + 1, by omega, by go_num, n + nq, by simp⟩
      case measure => simp [intOf]; omega
    · have q1 : ¬ (k : Int) < (xs.length : Int) := by omega
      go_wp2_with fail
      go_ret
      exact ⟨rfl, n, rfl⟩

end Go.Proofs.Ytfjekbfejbgneaa
