/- What inRun, foldSign, runSize, appendRun and the code's PutRuns do. -/
import Derived.Test.YtaglbacicpknaaaNums
import Derived.Test.YtaglbacicpknaaaRunsBase
import Derived.Deep.RegionHeld2
namespace Go.Proofs.Ytaglbacicpknaaa
open Go.RowKit
set_option linter.unusedVariables false

set_option maxHeartbeats 400000 in
theorem inRun_yes (v : Int) (w : World) (h0 : 0 ≤ v) (h1 : v ≤ 1152921504606846975) : Calls Try.prog 64 #[.int .i64 v] w fun e w' => e = .returned (.bool true) ∧ w' = w := by
  go_enter Try.func64, Try.ntmps64
  go_wp2
  go_ret
  exact ⟨rfl, rfl⟩
set_option maxHeartbeats 400000 in
theorem inRun_no (v : Int) (w : World) (h : ¬ (0 ≤ v ∧ v ≤ 1152921504606846975)) : Calls Try.prog 64 #[.int .i64 v] w fun e w' => e = .returned (.bool false) ∧ w' = w := by
  by_cases hv : v < 0
  · clear h
    go_enter Try.func64, Try.ntmps64
    go_wp2
    go_ret
    exact ⟨rfl, rfl⟩
  · have h2 : 1152921504606846975 < v := by omega
    have h3 : decide (v ≤ 1152921504606846975) = false := by simpa using h2
    clear h
    go_enter Try.func64, Try.ntmps64
    go_wp2
    go_ret
    exact ⟨by simp, rfl⟩

set_option maxHeartbeats 400000 in
theorem foldSign_any (d : Int) (w : World) (h0 : -1152921504606846975 ≤ d) (h1 : d ≤ 1152921504606846975) : Calls Try.prog 40 #[.int .i64 d] w fun e w' => e = .returned (.int .i64 ((foldS d : Nat) : Int)) ∧ w' = w := by
  by_cases hd : d < 0
  · have e : ((foldS d : Nat) : Int) = -2 * d - 1 := by unfold foldS; rw [if_pos hd]; omega
    rw [e]
    clear e
    go_enter Try.func40, Try.ntmps40
    go_wp2
    go_ret
    exact ⟨rfl, rfl⟩
  · have e : ((foldS d : Nat) : Int) = 2 * d := by unfold foldS; rw [if_neg hd]; omega
    rw [e]
    clear e
    go_enter Try.func40, Try.ntmps40
    go_wp2
    go_ret
    exact ⟨rfl, rfl⟩

set_option maxHeartbeats 1000000 in
set_option maxRecDepth 100000 in
theorem runSize_any (C : Nat) (w : World) (v : Value) (ls : List Int) (hp : 0 < ls.length) (hl : ls.length ≤ 4096) (hok : runsOK ls = true) (hr : Rd C w v (ls.map (Value.int .i64))) :
    Calls Try.prog 66 #[v] w fun e w' => e = .returned (.int .i64 ((runEnd ls 0 : Nat) : Int)) ∧ ∃ n, w' = w.drewN n := by
  obtain ⟨ao, cap, rfl, _, _, _, hr⟩ := hr
  rw [List.length_map] at hr ⊢
  obtain ⟨g, off, rfl, _, hc⟩ := hr hp
  have hcell : ∀ j, j < ls.length → w.cell? ⟨g, off + j, none⟩ = some (.int .i64 (nth ls j)) := fun j hj => hc j _ (by simp [nth, hj])
  have HCELL : Hid _ := hcell
  clear hc hr hcell
  by_cases h1 : ls.length = 1
  · have HE : Hid (runEnd ls 0 = 1) := ext_stop (k := 1) (by simp [goesOn]; omega) rfl
    have hb1 : ((ls.length : Int) == 1) = true := by rw [beq_iff_eq]; omega
    have H1 : Hid _ := h1
    clear h1
    go_enter Try.func66, Try.ntmps66
    go_wp2_with fail
    go_ret
    exact ⟨by rw [HE.out]; rfl, 0, rfl⟩
  · have hb1 : ((ls.length : Int) == 1) = false := by rw [beq_eq_false_iff_ne]; omega
    obtain ⟨f0, hf0, hE0⟩ := ext_step (ls := ls) (i := 0) (k := 1) (f := ls.length) (E := runEnd ls 0) (by simp [goesOn]; omega) (by omega) rfl
    have HE0 : Hid _ := hE0
    clear hE0
    have q0 := runsOK_nth hok 0
    have q1 := runsOK_nth hok 1
    have cC := HCELL.out 1 (by omega)
    have cD := HCELL.out 0 (by omega)
    rw [Nat.add_zero] at cD
    have h2I : (1 : Int) < (ls.length : Int) := by omega
    go_enter Try.func66, Try.ntmps66
    go_wp2_with fail
    go_loopw [3] (fun tk wq => ∃ (k f n : Nat), 2 ≤ k ∧ k ≤ ls.length ∧ tk = .int .i64 k ∧ wq = w.drewN n ∧ ls.length - k ≤ f ∧ Hid (runEnd ls 0 = k + extF ls 0 f k)) (fun tk _ => ls.length - (intOf tk).toNat)
    case atStart => exact ⟨2, f0, 0, by omega, by omega, rfl, rfl, hf0, HE0⟩
    case round =>
      clear HE0 hf0
      obtain ⟨k, f, n, hk1, hk2, rfl, rfl, hf, HE⟩ := hrel
      obtain ⟨j, rfl⟩ : ∃ j, k = j + 1 := ⟨k - 1, by omega⟩
      by_cases hkl : j + 1 < ls.length
      · have q2 := runsOK_nth hok j
        have q3 := runsOK_nth hok (j + 1)
        have cA := HCELL.out (j + 1) hkl
        have cB := HCELL.out j (by omega)
        have hjI : (0 : Int) ≤ (j : Int) ∧ (j : Int) < (ls.length : Int) := by omega
        have hI' : (j : Int) + 1 < (ls.length : Int) := by omega
        by_cases hd : nth ls (j + 1) - nth ls j = nth ls 1 - nth ls 0
        · obtain ⟨f', hf', hE'⟩ := ext_step (ls := ls) (i := 0) (k := j + 1) (by simp [goesOn, hkl, hd]) hf HE.out
          have HE' : Hid _ := hE'
          have hdb : (nth ls (j + 1) - nth ls j == nth ls 1 - nth ls 0) = true := by rw [beq_iff_eq]; exact hd
          clear hE' HE hd
          go_wp2_with fail
          go_quiet (fail)
          go_wp2_with fail
          go_roundw
          case rel => exact ⟨j + 1 + 1, f', n + nq, by omega, by omega, by go_num, by simp, hf', HE'⟩
          case measure => simp [intOf]; omega
        · have HE' : Hid (runEnd ls 0 = j + 1) := ext_stop (by simp [goesOn, hd]; omega) HE.out
          have hdb : (nth ls (j + 1) - nth ls j == nth ls 1 - nth ls 0) = false := by rw [beq_eq_false_iff_ne]; exact hd
          clear HE hd
          go_wp2_with fail
          go_quiet (fail)
          go_wp2_with fail
          go_ret
          exact ⟨by rw [HE'.out]; rfl, n + nq, by simp⟩
      · have HE' : Hid (runEnd ls 0 = j + 1) := ext_stop (by simp [goesOn]; omega) HE.out
        have hI : decide ((j : Int) + 1 < (ls.length : Int)) = false := by simp; omega
        clear HE
        go_wp2_with fail
        go_quiet (fail)
        go_wp2_with fail
        go_ret
        exact ⟨by rw [HE'.out]; rfl, n + nq, by simp⟩
end Go.Proofs.Ytaglbacicpknaaa
