/- The specification's l08Find: the place of an actor's operation in a log whose operations of each actor stand together. -/
import Derived.Test.YtnpiinjdaiobgaaLedCauses
namespace Go.Proofs.Ytnpiinjdaiobgaa
open Go.RowKit
set_option linter.unusedVariables false

/-- The operations of actor a stand together, from place i on. -/
structure Stand (L : List Ov) (a i : Nat) : Prop where
  no : ∀ q, q < i → (ovAt L q).a ≠ (a : Int)
  yes : ∀ q, q < (byA L a).length → ovAt L (i + q) = ovAt (byA L a) q ∧ (ovAt L (i + q)).a = (a : Int)
  fit : i + (byA L a).length ≤ L.length

set_option maxHeartbeats 2000000 in
set_option maxRecDepth 100000 in
theorem l08Find_any (C : Nat) (w : World) (v : Value) (L : List Ov) (a i m : Nat) (hC : C ≤ w.heap.size) (hr : RdO C w v L) (hl : L.length ≤ 1024) (hS : Stand L a i) (hm : m < (byA L a).length) :
    Calls Try.prog 25 #[v, .int .i64 (a : Int), .int .i64 ((m + 1 : Nat) : Int)] w fun e w' => e = .returned (.int .i64 ((i + m : Nat) : Int)) ∧ w' = w := by
  obtain ⟨⟨ao, cap, rfl, hcap, hmax, hnil, hrow⟩, hdv⟩ := hr
  have hfit := hS.fit
  obtain ⟨g, off, rfl, hg, hcs⟩ := hrow (by omega)
  clear hdv hrow
  have HC : Hid (∀ k, k < L.length → w.cell? ⟨g, off + k * 12, none⟩ = some (.int .i64 (ovAt L k).a)) := fun k hk => (hcs k hk).c0
  go_enter Try.func25, Try.ntmps25
  go_wp2_with fail
  go_loop [7] (fun ti => ∃ k : Nat, k ≤ i ∧ ti = .int .i64 (k : Int)) (fun ti => i + 1 - (intOf ti).toNat)
  case atStart => exact ⟨0, Nat.zero_le _, rfl⟩
  case round =>
    obtain ⟨k, hk, rfl⟩ := hrel
    have hkl : (k : Int) < (L.length : Int) := by omega
    have hk2 : (k : Int) + 1 < 9223372036854775808 := by omega
    have c0 := HC.out k (by omega)
    by_cases e : k = i
    · have hy := (hS.yes 0 (by omega)).2
      rw [Nat.add_zero, ← e] at hy
      rw [hy] at c0
      have hz := (hS.yes m hm).2
      rw [← e] at hz
      have c1 := HC.out (k + m) (by omega)
      rw [hz] at c1
      have h1 : ¬ ((m : Int) + 1 < 1) := by omega
      have h2 : ¬ ((L.length : Int) - (k : Int) < (m : Int) + 1) := by omega
      have HE : Hid ((k + m : Nat) = i + m) := by unfold Hid; omega
      have hkm : ((k + m : Nat) : Int) < (L.length : Int) := by omega
      clear hy hz e
      go_wp2_with fail
      go_ret
      refine ⟨?_, rfl⟩
      have := HE.out
      simp
      omega
    · have hne : ((ovAt L k).a == (a : Int)) = false := by simpa using hS.no k (by omega)
      generalize (ovAt L k).a = z at c0 hne
      have hki : k < i := by omega
      clear e
      go_wp2_with fail
      go_round
      case rel => exact ⟨k + 1, by omega, by go_num⟩
      case measure => simp [intOf]; omega
end Go.Proofs.Ytnpiinjdaiobgaa
