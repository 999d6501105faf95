/- What reverseRangeCmpFunc does at stamps. -/
import Derived.Test.YtdbipcmfolgjgaaSortIns
namespace Go.Proofs.Ytdbipcmfolgjgaa
open Go.RowKit
open Go.Sort (swp insInner insOuter insertionSort siftDown heapBuild heapPop heapSort reverseLoop reverseRange)
set_option linter.unusedVariables false

set_option maxHeartbeats 8000000 in
set_option maxRecDepth 100000 in
theorem reverse_any (W0 : World) (B g cap n a b : Nat) (d : Array Sp) (w : World) (hn : d.size = n) (hsz : n ≤ 1048576) (hab : a < b) (hb : b ≤ n) (hS : Sw W0 B g cap d w) :
    Calls Try.prog 100 #[.slice (some ⟨g, 0, none⟩) n cap, .int .i64 (a : Int), .int .i64 (b : Int), ordV] w fun e w' => e = .returned (.tuple #[]) ∧ Sw W0 B g cap (reverseRange d a b) w' := by
  unfold ordV reverseRange
  obtain ⟨b1, hb1⟩ : ∃ b1 : Nat, b1 = b - 1 := ⟨_, rfl⟩
  have hb1I : (b : Int) - 1 = (b1 : Int) := by omega
  rw [← hb1]
  have HS : Hid _ := hS
  have hbn : b1 < n := by omega
  clear hS hb1
  go_enter Try.func100, Try.ntmps100
  go_wp2_with fail
  go_loopw [8, 9] (fun t8 t9 wr => ∃ (i j : Nat) (dk : Array Sp), t8 = .int .i64 (i : Int) ∧ t9 = .int .i64 (j : Int) ∧ i ≤ n ∧ j < n ∧ dk.size = n ∧ Hid (Sw W0 B g cap dk wr) ∧ Hid (reverseLoop i j dk = reverseLoop a b1 d)) (fun t8 t9 _ => (intOf t9).toNat - (intOf t8).toNat)
  case atStart => exact ⟨a, b1, d, rfl, rfl, by omega, hbn, hn, HS, rfl⟩
  case round =>
    clear HS
    obtain ⟨i, j, dk, rfl, rfl, hi, hj, hdk, HS, HE⟩ := hrel
    by_cases hlt : i < j
    · have hltI : (i : Int) < (j : Int) := by omega
      have HN : Hid (reverseLoop i j dk = reverseLoop (i + 1) (j - 1) (swp dk i j)) := by
        unfold Hid
        rw [reverseLoop, if_pos hlt]
      obtain ⟨j1, hj1⟩ : ∃ j1 : Nat, j1 = j - 1 := ⟨_, rfl⟩
      have hj1I : (j : Int) - 1 = (j1 : Int) := by omega
      rw [← hj1] at HN
      have HJ : Hid (j1 + 1 = j) := by unfold Hid; omega
      have b0 : (0 : Int) ≤ (i : Int) := by omega
      have b1' : (i : Int) < (n : Int) := by omega
      have b2 : (0 : Int) ≤ (j : Int) := by omega
      have b3 : (j : Int) < (n : Int) := by omega
      have b4 : (i : Int) + 1 < 9223372036854775808 := by omega
      clear hj1
      have hxy := cmp_lt dk[i]! dk[j]!
      obtain ⟨x0, x1⟩ := HS.out.at (i := i) (by omega)
      obtain ⟨y0, y1⟩ := HS.out.at (i := j) (by omega)
      have HWW : Hid _ := fun w' (h : Sw W0 B g cap dk w') => h.swp (i := i) (j := j) (by omega) (by omega)
      obtain ⟨⟨xt, xa⟩, hx⟩ : ∃ x, dk[i]! = x := ⟨_, rfl⟩
      obtain ⟨⟨yt, ya⟩, hy⟩ : ∃ x, dk[j]! = x := ⟨_, rfl⟩
      rw [hx, hy] at hxy HWW
      rw [hx] at x0 x1
      rw [hy] at y0 y1
      simp only at x0 x1 y0 y1 hxy
      have hC := fun w => order_any xt xa yt ya w
      generalize cmpS xt xa yt ya = r at hC hxy
      clear hxy hC
      go_upto_region 3 with fail
      have hSd := (swDrew HS).out
      obtain ⟨x0, x1⟩ := hSd.at (i := i) (by omega)
      obtain ⟨y0, y1⟩ := hSd.at (i := j) (by omega)
      rw [hx] at x0 x1
      rw [hy] at y0 y1
      obtain ⟨u0, u1, u2, u3, ⟨e0, f0⟩, ⟨e1, f1⟩, ⟨e2, f2⟩, ⟨e3, f3⟩⟩ := HS.out.steps (i := i) (j := j) (by omega) (by omega) (.int .i64 yt) (.int .i64 ya) (.int .i64 xt)
      have HF : Hid (Sw W0 B g cap (swp dk i j) ((((wr.setCell ⟨g, i * 2, none⟩ (.int .i64 yt)).setCell ⟨g, i * 2 + 1, none⟩ (.int .i64 ya)).setCell ⟨g, j * 2, none⟩ (.int .i64 xt)).setCell ⟨g, j * 2 + 1, none⟩ (.int .i64 xa)).drew) := HWW.out _ hSd
      simp only at x0 x1 y0 y1
      clear hSd hx hy e0
      refine wp_region_held_drew (S := fun w' => True) (by kernel_rfl) trivial (fun hHeld => ?_)
      refine wpAnyH_take (i := 0) (v := (.slice (some ⟨g, 0, none⟩) n cap)) rfl (by kernel_rfl) (by kernel_rfl) (by kernel_rfl) (fun _ _ _ h => h) (Or.inl ⟨by rfl, by intro w hSw; go_simp⟩) hHeld ?_
      simp only [List.getElem_toArray, List.getElem_cons_zero, Act.put, List.setIfInBounds_toArray, List.set_cons_zero, List.set_cons_succ]
      refine wpAnyH_take (i := 1) (v := (.int .i64 (i : Int))) rfl (by kernel_rfl) (by kernel_rfl) (by kernel_rfl) (fun _ _ _ h => h) (Or.inl ⟨by rfl, by intro w hSw; go_simp⟩) hHeld ?_
      simp only [List.getElem_toArray, List.getElem_cons_succ, List.getElem_cons_zero, Act.put, List.setIfInBounds_toArray, List.set_cons_zero, List.set_cons_succ]
      refine wpAnyH_take (i := 2) (v := (.slice (some ⟨g, 0, none⟩) n cap)) rfl (by kernel_rfl) (by kernel_rfl) (by kernel_rfl) (fun _ _ _ h => h) (Or.inl ⟨by rfl, by intro w hSw; go_simp⟩) hHeld ?_
      simp only [List.getElem_toArray, List.getElem_cons_succ, List.getElem_cons_zero, Act.put, List.setIfInBounds_toArray, List.set_cons_zero, List.set_cons_succ]
      refine wpAnyH_take (i := 3) (v := (.int .i64 (j : Int))) rfl (by kernel_rfl) (by kernel_rfl) (by kernel_rfl) (fun _ _ _ h => h) (Or.inl ⟨by rfl, by intro w hSw; go_simp⟩) hHeld ?_
      simp only [List.getElem_toArray, List.getElem_cons_succ, List.getElem_cons_zero, Act.put, List.setIfInBounds_toArray, List.set_cons_zero, List.set_cons_succ]
      refine wpAnyH_take (i := 4) (v := (.slice (some ⟨g, 0, none⟩) n cap)) rfl (by kernel_rfl) (by kernel_rfl) (by kernel_rfl) (fun _ _ _ h => h) (Or.inl ⟨by rfl, by intro w hSw; go_simp⟩) hHeld ?_
      simp only [List.getElem_toArray, List.getElem_cons_succ, List.getElem_cons_zero, Act.put, List.setIfInBounds_toArray, List.set_cons_zero, List.set_cons_succ]
      refine wpAnyH_take (i := 5) (v := (.int .i64 (j : Int))) rfl (by kernel_rfl) (by kernel_rfl) (by kernel_rfl) (fun _ _ _ h => h) (Or.inl ⟨by rfl, by intro w hSw; go_simp⟩) hHeld ?_
      simp only [List.getElem_toArray, List.getElem_cons_succ, List.getElem_cons_zero, Act.put, List.setIfInBounds_toArray, List.set_cons_zero, List.set_cons_succ]
      refine wpAnyH_take (i := 6) (v := (.pointer (some ⟨g, j * 2, none⟩))) rfl (by kernel_rfl) (by kernel_rfl) (by kernel_rfl) (fun _ _ _ h => h) (Or.inl ⟨by rfl, by intro w hSw; go_simp⟩) hHeld ?_
      simp only [List.getElem_toArray, List.getElem_cons_succ, List.getElem_cons_zero, Act.put, List.setIfInBounds_toArray, List.set_cons_zero, List.set_cons_succ]
      refine wpAnyH_take (i := 8) (v := (.slice (some ⟨g, 0, none⟩) n cap)) rfl (by kernel_rfl) (by kernel_rfl) (by kernel_rfl) (fun _ _ _ h => h) (Or.inl ⟨by rfl, by intro w hSw; go_simp⟩) hHeld ?_
      simp only [List.getElem_toArray, List.getElem_cons_succ, List.getElem_cons_zero, Act.put, List.setIfInBounds_toArray, List.set_cons_zero, List.set_cons_succ]
      refine wpAnyH_take (i := 9) (v := (.int .i64 (i : Int))) rfl (by kernel_rfl) (by kernel_rfl) (by kernel_rfl) (fun _ _ _ h => h) (Or.inl ⟨by rfl, by intro w hSw; go_simp⟩) hHeld ?_
      simp only [List.getElem_toArray, List.getElem_cons_succ, List.getElem_cons_zero, Act.put, List.setIfInBounds_toArray, List.set_cons_zero, List.set_cons_succ]
      refine wpAnyH_take (i := 10) (v := (.pointer (some ⟨g, i * 2, none⟩))) rfl (by kernel_rfl) (by kernel_rfl) (by kernel_rfl) (fun _ _ _ h => h) (Or.inl ⟨by rfl, by intro w hSw; go_simp⟩) hHeld ?_
      simp only [List.getElem_toArray, List.getElem_cons_succ, List.getElem_cons_zero, Act.put, List.setIfInBounds_toArray, List.set_cons_zero, List.set_cons_succ]
      refine wpAnyH_ready (rs := [7, 11]) (by kernel_rfl) (by simp) ?_
      refine AllReadyH.cons rfl (fun K hK => ?wayA1) (AllReadyH.cons rfl (fun K hK => ?wayB1) AllReadyH.nil)
      case' wayA1 =>
        go_simp
        refine hK.out _ _ trivial (fun hHeld1 => ?_)
        clear hK K
        refine wpAnyH_ready (rs := [11]) (by kernel_rfl) (by simp) ?_
        refine AllReadyH.cons rfl (fun K hK => ?_) AllReadyH.nil
        go_simp
        refine hK.out _ _ trivial (fun hHeld2 => ?_)
        clear hK K
      case' wayB1 =>
        go_simp
        refine hK.out _ _ trivial (fun hHeld1 => ?_)
        clear hK K
        refine wpAnyH_ready (rs := [7]) (by kernel_rfl) (by simp) ?_
        refine AllReadyH.cons rfl (fun K hK => ?_) AllReadyH.nil
        go_simp
        refine hK.out _ _ trivial (fun hHeld2 => ?_)
        clear hK K
      all_goals
        refine wpAnyH_take (i := 12) (v := (.pointer (some ⟨g, i * 2, none⟩))) rfl (by kernel_rfl) (by kernel_rfl) (by kernel_rfl) (fun _ _ _ h => h) (Or.inl ⟨by rfl, by intro w hSw; go_simp⟩) hHeld2 ?_
        simp only [List.getElem_toArray, List.getElem_cons_succ, List.getElem_cons_zero, Act.put, List.setIfInBounds_toArray, List.set_cons_zero, List.set_cons_succ]
        refine wpAnyH_ready (rs := [13]) (by kernel_rfl) (by simp) ?_
        refine AllReadyH.cons rfl (fun K hK => ?_) AllReadyH.nil
        go_simp
        refine hK.out _ _ trivial (fun hHeld3 => ?_)
        clear hK K
        refine wpAnyH_take (i := 14) (v := (.pointer (some ⟨g, j * 2, none⟩))) rfl (by kernel_rfl) (by kernel_rfl) (by kernel_rfl) (fun _ _ _ h => h) (Or.inl ⟨by rfl, by intro w hSw; go_simp⟩) hHeld3 ?_
        simp only [List.getElem_toArray, List.getElem_cons_succ, List.getElem_cons_zero, Act.put, List.setIfInBounds_toArray, List.set_cons_zero, List.set_cons_succ]
        refine wpAnyH_ready (rs := [15]) (by kernel_rfl) (by simp) ?_
        refine AllReadyH.cons rfl (fun K hK => ?_) AllReadyH.nil
        go_simp
        refine hK.out _ _ trivial (fun hHeld4 => ?_)
        clear hK K
        refine wpAnyH_done (by kernel_rfl) ?_ _
      all_goals
        go_wp2_with fail
        go_roundw
        case rel => exact ⟨i + 1, j1, swp dk i j, by go_num, by go_num, by omega, by have := HJ.out; omega, by rw [swp_size]; exact hdk, HF, by unfold Hid; rw [← HE.out, HN.out]⟩
        case measure => have := HJ.out; simp [intOf]; omega
    · have hltI : ¬ (i : Int) < (j : Int) := by omega
      have HN : Hid (reverseLoop i j dk = dk) := by
        unfold Hid
        rw [reverseLoop, if_neg hlt]
      go_wp2_with fail
      refine bodyPost_end (v := .tuple #[]) ?_ rfl ⟨rfl, ?_⟩
      · simp [results, Try.results100, go_sem]
      · rw [← HE.out, HN.out]
        exact HS.out

end Go.Proofs.Ytdbipcmfolgjgaa
