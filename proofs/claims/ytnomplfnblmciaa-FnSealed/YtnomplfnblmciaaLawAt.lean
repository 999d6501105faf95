/- The laws' own 'at': a number below n, out of bytes. -/
import Derived.Test.YtnomplfnblmciaaStampBase
import Derived.Test.YtnomplfnblmciaaCells
import Derived.BigQuiet
namespace Go.Proofs.Ytnomplfnblmciaa
open Go.RowKit
set_option linter.unusedVariables false

set_option maxHeartbeats 2000000 in
set_option maxRecDepth 100000 in
theorem at_any (C : Nat) (w : World) (v : Value) (xs : List Int) (i n : Nat) (hi : i ≤ 1000) (hn : 1 ≤ n) (hn' : n ≤ 1048576) (hx : ∀ c ∈ xs, 0 ≤ c ∧ c ≤ 255) (hl : xs.length ≤ 1048576) (hr : Rd C w v (xs.map (Value.int .u8))) :
    Calls Try.prog 10 #[v, .int .i64 (i : Int), .int .i64 (n : Int)] w fun e w' => ∃ r : Nat, e = .returned (.int .i64 (r : Int)) ∧ r < n ∧ ∃ q, w' = w.drewN q := by
  obtain ⟨ao, cap, rfl, _, _, _, hc⟩ := hr
  rw [List.length_map] at hc ⊢
  by_cases h1 : n = 1
  · subst h1
    go_enter Try.func10, Try.ntmps10
    go_wp2_with fail
    go_ret
    exact ⟨0, rfl, by omega, 0, rfl⟩
  · have h2 : (1 : Int) < (n : Int) := by omega
    have hz : ¬ (n : Int) = 0 := by omega
    by_cases h0 : xs.length = 0
    · have e0 : (xs.length : Int) = 0 := by omega
      have m0 := Int.emod_nonneg ((i : Int) * 7) hz
      have m1 := Int.emod_lt_of_pos ((i : Int) * 7) (show 0 < (n : Int) by omega)
      have t0 : ((i : Int) * 7).tmod (n : Int) = ((i : Int) * 7) % (n : Int) := Int.tmod_eq_emod_of_nonneg (by omega)
      rw [h0]
      clear hc h0
      go_enter Try.func10, Try.ntmps10
      go_wp2_with fail
      go_ret
      exact ⟨((i : Int) * 7 % (n : Int)).toNat, by rw [Int.toNat_of_nonneg m0]; rfl, by omega, 0, rfl⟩
    · obtain ⟨g, off, rfl, _, hc⟩ := hc (by omega)
      have ha1 : i % xs.length < xs.length := Nat.mod_lt _ (by omega)
      have ha2 : (i + 1) % xs.length < xs.length := Nat.mod_lt _ (by omega)
      have c1 := hc (i % xs.length) (.int .u8 xs[i % xs.length]) (by simp [ha1])
      have c2 := hc ((i + 1) % xs.length) (.int .u8 xs[(i + 1) % xs.length]) (by simp [ha2])
      obtain ⟨x0, x1⟩ := hx _ (List.getElem_mem ha1)
      obtain ⟨y0, y1⟩ := hx _ (List.getElem_mem ha2)
      have k1 : (i : Int) % (xs.length : Int) = ((i % xs.length : Nat) : Int) := by simp
      have k2 : ((i : Int) + 1) % (xs.length : Int) = (((i + 1) % xs.length : Nat) : Int) := by simp
      have k3 : (i : Int) / (xs.length : Int) = ((i / xs.length : Nat) : Int) := by simp
      have t1 : (i : Int).tmod (xs.length : Int) = ((i % xs.length : Nat) : Int) := by rw [Int.tmod_eq_emod_of_nonneg (by omega)]; exact k1
      have t2 : ((i : Int) + 1).tmod (xs.length : Int) = (((i + 1) % xs.length : Nat) : Int) := by rw [Int.tmod_eq_emod_of_nonneg (by omega)]; exact k2
      have t3 : (i : Int).tdiv (xs.length : Int) = ((i / xs.length : Nat) : Int) := by rw [Int.tdiv_eq_ediv_of_nonneg (by omega)]; exact k3
      have hle : i / xs.length ≤ i := Nat.div_le_self _ _
      generalize xs[i % xs.length] = x at *
      generalize xs[(i + 1) % xs.length] = y at *
      generalize i % xs.length = a1 at *
      generalize (i + 1) % xs.length = a2 at *
      generalize i / xs.length = d at *
      have hl0 : ¬ (xs.length : Int) = 0 := by omega
      have hl1 : decide ((xs.length : Int) = 0) = false := decide_eq_false hl0
      have j1 : (a1 : Int) < (xs.length : Int) := by omega
      have j2 : (a2 : Int) < (xs.length : Int) := by omega
      have hn1 : ¬ (n : Int) ≤ 1 := by omega
      have w1 : IntKind.i64.wrap (x * 31) = x * 31 := by rw [IntKind.wrap_i64]; omega
      have w2 : IntKind.i64.wrap (x * 31 + y) = x * 31 + y := by rw [IntKind.wrap_i64]; omega
      have w3 : IntKind.i64.wrap (x * 31 + y + (d : Int)) = x * 31 + y + (d : Int) := by rw [IntKind.wrap_i64]; omega
      have m0 := Int.emod_nonneg (x * 31 + y + (d : Int)) hz
      have m1 := Int.emod_lt_of_pos (x * 31 + y + (d : Int)) (show 0 < (n : Int) by omega)
      have t4 : (x * 31 + y + (d : Int)).tmod (n : Int) = (x * 31 + y + (d : Int)) % (n : Int) := Int.tmod_eq_emod_of_nonneg (by omega)
      clear hc h1 h0
      go_enter Try.func10, Try.ntmps10
      go_wp2_with fail
      go_quiet (fail)
      go_wp2_with fail
      go_ret
      exact ⟨((x * 31 + y + (d : Int)) % (n : Int)).toNat, by rw [Int.toNat_of_nonneg m0]; rfl, by omega, _, rfl⟩
end Go.Proofs.Ytnomplfnblmciaa
