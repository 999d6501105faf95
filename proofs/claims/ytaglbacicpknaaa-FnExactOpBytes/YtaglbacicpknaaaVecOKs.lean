/- What isCount and the two functions VecOK do. -/
import Derived.Test.YtaglbacicpknaaaVecBase
namespace Go.Proofs.Ytaglbacicpknaaa
open Go.RowKit
set_option linter.unusedVariables false

set_option maxHeartbeats 400000 in
theorem isCount_any (c : Int) (w : World) :
    Calls Try.prog 71 #[.int .i64 c] w fun e w' => e = .returned (.bool (cOK c)) ∧ w' = w := by
  obtain ⟨r, hr, hc⟩ : ∃ r, cOK c = r ∧ ((r = false ∧ ¬ 0 ≤ c) ∨ (r = false ∧ 0 ≤ c ∧ ¬ c ≤ 1000000000000) ∨ (r = true ∧ 0 ≤ c ∧ c ≤ 1000000000000)) := by
    refine ⟨_, rfl, ?_⟩
    unfold cOK
    by_cases h1 : 0 ≤ c <;> by_cases h2 : c ≤ 1000000000000 <;> simp [h1, h2]
  rw [hr]
  clear hr
  rcases hc with ⟨rfl, h1⟩ | ⟨rfl, h1, h2⟩ | ⟨rfl, h1, h2⟩
  all_goals
    go_enter Try.func71, Try.ntmps71
    go_wp2_with fail
    go_ret
    exact ⟨by simp, rfl⟩

set_option maxHeartbeats 400000 in
theorem specVecOK_any (C : Nat) (w : World) (v : Value) (xs : List Int) (hC : C ≤ w.heap.size) (hr : Rd C w v (xs.map (Value.int .i64))) :
    Calls Try.prog 26 #[.agg #[v]] w fun e w' => e = .returned (.bool (vecOK xs)) ∧ Below w.heap.size w w' := by
  obtain ⟨ao, cap, rfl, hcap, hmax, _, hr⟩ := hr
  rw [List.length_map] at hr hcap ⊢
  unfold maxLen at hmax
  by_cases h16 : xs.length = 16
  · have H16 : Hid _ := h16
    obtain ⟨g, off, rfl, hg, hc⟩ := hr (by omega)
    have HC : Hid (∀ k (hk : k < xs.length), (w.alloc (.cells #[.slice (some ⟨g, off, none⟩) 16 cap] 33)).cell? ⟨g, off + k, none⟩ = some (.int .i64 xs[k])) := fun k hk => by
      rw [World.cell?_alloc_past _ _ _ (show g < w.heap.size by omega)]
      exact hc k _ (by simp [hk])
    rw [h16]
    clear hr hc h16 hcap
    go_enter Try.func26, Try.ntmps26
    go_wp2_with fail
    go_loop [3] (fun i => ∃ k : Nat, k ≤ 16 ∧ i = .int .i64 (k : Int) ∧ Hid (∀ j (hj : j < xs.length), j < k → cOK xs[j] = true)) (fun i => 16 - (intOf i).toNat)
    case atStart => exact ⟨0, by omega, rfl, fun j hj h => absurd h (by omega)⟩
    case round =>
      obtain ⟨k, hk, rfl, HA⟩ := hrel
      by_cases hlt : k < 16
      · have hk16 : k < xs.length := by rw [H16.out]; exact hlt
        have c1 := HC.out k hk16
        have HN : Hid (cOK xs[k] = true → Hid (∀ j (hj : j < xs.length), j < k + 1 → cOK xs[j] = true)) := fun h j hj hjk => by
          by_cases e : j = k
          · subst e; exact h
          · exact HA.out j hj (by omega)
        have hcs : (Hid (cOK xs[k] = true) ∧ ¬ xs[k] < 0 ∧ ¬ 1000000000000 < xs[k]) ∨ (Hid (cOK xs[k] = false) ∧ xs[k] < 0) ∨ (Hid (cOK xs[k] = false) ∧ ¬ xs[k] < 0 ∧ 1000000000000 < xs[k]) := by
          unfold cOK Hid
          by_cases h1 : xs[k] < 0
          · exact .inr (.inl ⟨decide_eq_false (by omega), h1⟩)
          · by_cases h2 : 1000000000000 < xs[k]
            · exact .inr (.inr ⟨decide_eq_false (by omega), h1, h2⟩)
            · exact .inl ⟨decide_eq_true (by omega), h1, h2⟩
        rcases hcs with ⟨HR, h1, h2⟩ | ⟨HR, h1⟩ | ⟨HR, h1, h2⟩
        · go_wp2_with fail
          go_round
          case rel => exact ⟨k + 1, by omega, by go_num, HN.out HR.out⟩
          case measure => simp [intOf]; omega
        · go_wp2_with fail
          go_ret
          exact ⟨by rw [vecOK_bad hk16 HR.out]; rfl, below_alloc _ _⟩
        · go_wp2_with fail
          go_ret
          exact ⟨by rw [vecOK_bad hk16 HR.out]; rfl, below_alloc _ _⟩
      · obtain rfl : k = 16 := by omega
        have HV : Hid _ := vecOK_all H16.out (fun k hk => HA.out k hk (by rw [H16.out] at hk; exact hk))
        go_wp2_with fail
        go_ret
        exact ⟨by rw [HV.out]; rfl, below_alloc _ _⟩
  · have hb : ((xs.length : Int) != 16) = true := by simp; omega
    rw [vecOK_len h16]
    go_enter Try.func26, Try.ntmps26
    go_wp2_with fail
    go_ret
    exact ⟨rfl, below_alloc _ _⟩

set_option maxHeartbeats 400000 in
theorem implVecOK_any (C : Nat) (w : World) (v : Value) (xs : List Int) (hC : C ≤ w.heap.size) (hr : Rd C w v (xs.map (Value.int .i64))) :
    Calls Try.prog 50 #[.agg #[v]] w fun e w' => e = .returned (.bool (vecOK xs)) ∧ Below w.heap.size w w' := by
  obtain ⟨ao, cap, rfl, hcap, hmax, _, hr⟩ := hr
  rw [List.length_map] at hr hcap ⊢
  unfold maxLen at hmax
  by_cases h16 : xs.length = 16
  · have H16 : Hid _ := h16
    obtain ⟨g, off, rfl, hg, hc⟩ := hr (by omega)
    have HC : Hid (∀ k (hk : k < xs.length), (w.alloc (.cells #[.slice (some ⟨g, off, none⟩) 16 cap] 33)).cell? ⟨g, off + k, none⟩ = some (.int .i64 xs[k])) := fun k hk => by
      rw [World.cell?_alloc_past _ _ _ (show g < w.heap.size by omega)]
      exact hc k _ (by simp [hk])
    rw [h16]
    clear hr hc h16 hcap
    go_enter Try.func50, Try.ntmps50
    go_wp2_with fail
    go_loop [12] (fun i => ∃ k : Nat, k ≤ 16 ∧ i = .int .i64 (k : Int) ∧ Hid (∀ j (hj : j < xs.length), j < k → cOK xs[j] = true)) (fun i => 16 - (intOf i).toNat)
    case atStart => exact ⟨0, by omega, rfl, fun j hj h => absurd h (by omega)⟩
    case round =>
      obtain ⟨k, hk, rfl, HA⟩ := hrel
      by_cases hlt : k < 16
      · have hk16 : k < xs.length := by rw [H16.out]; exact hlt
        have c1 := HC.out k hk16
        have HN : Hid (cOK xs[k] = true → Hid (∀ j (hj : j < xs.length), j < k + 1 → cOK xs[j] = true)) := fun h j hj hjk => by
          by_cases e : j = k
          · subst e; exact h
          · exact HA.out j hj (by omega)
        have hcs : (Hid (cOK xs[k] = true) ∧ ¬ xs[k] < 0 ∧ ¬ 1000000000000 < xs[k]) ∨ (Hid (cOK xs[k] = false) ∧ xs[k] < 0) ∨ (Hid (cOK xs[k] = false) ∧ ¬ xs[k] < 0 ∧ 1000000000000 < xs[k]) := by
          unfold cOK Hid
          by_cases h1 : xs[k] < 0
          · exact .inr (.inl ⟨decide_eq_false (by omega), h1⟩)
          · by_cases h2 : 1000000000000 < xs[k]
            · exact .inr (.inr ⟨decide_eq_false (by omega), h1, h2⟩)
            · exact .inl ⟨decide_eq_true (by omega), h1, h2⟩
        have hcc := isCount_any xs[k]
        clear hcs
        cases hck : cOK xs[k] with
        | true =>
          rw [hck] at hcc
          have HR : Hid _ := hck
          clear hck
          generalize xs[k] = c at c1 hcc
          go_wp2_with ((go_at_call 71; refine (hcc _).mono ?_; rintro e w' ⟨rfl, rfl⟩))
          go_round
          case rel => exact ⟨k + 1, by omega, by go_num, HN.out HR.out⟩
          case measure => simp [intOf]; omega
        | false =>
          rw [hck] at hcc
          have HR : Hid _ := hck
          clear hck
          have HB : Hid _ := vecOK_bad hk16 HR.out
          generalize xs[k] = c at c1 hcc
          go_wp2_with ((go_at_call 71; refine (hcc _).mono ?_; rintro e w' ⟨rfl, rfl⟩))
          go_ret
          exact ⟨by rw [HB.out]; rfl, below_alloc _ _⟩
      · obtain rfl : k = 16 := by omega
        have HV : Hid _ := vecOK_all H16.out (fun k hk => HA.out k hk (by rw [H16.out] at hk; exact hk))
        go_wp2_with fail
        go_ret
        exact ⟨by rw [HV.out]; rfl, below_alloc _ _⟩
  · have hb : ((xs.length : Int) != 16) = true := by simp; omega
    rw [vecOK_len h16]
    go_enter Try.func50, Try.ntmps50
    go_wp2_with fail
    go_ret
    exact ⟨rfl, below_alloc _ _⟩

end Go.Proofs.Ytaglbacicpknaaa
