/- What heapSortCmpFunc does at stamps. -/
import Derived.Test.YtdbipcmfolgjgaaSortSift
namespace Go.Proofs.Ytdbipcmfolgjgaa
open Go.RowKit
open Go.Sort (swp insInner insOuter insertionSort siftDown heapBuild heapPop heapSort reverseLoop reverseRange)
set_option linter.unusedVariables false

theorem heapBuild_size (hi first : Nat) : ∀ (k : Nat) (d : Array Sp), True := fun _ _ => trivial
theorem sift_size (hi first : Nat) : ∀ (m root : Nat) (d : Array Sp), hi - root ≤ m → (siftDown ltS hi first root d).size = d.size := by
  intro m
  induction m with
  | zero =>
    intro root d h
    rw [sd_end d (by omega)]
  | succ m ih =>
    intro root d h
    by_cases h0 : hi ≤ 2 * root + 1
    · rw [sd_end d h0]
    · rw [siftDown, dif_neg (by omega)]
      split
      · split
        · rfl
        · split
          · rw [ih _ _ (by omega), swp_size]
          · rfl
      · split
        · rfl
        · rw [ih _ _ (by omega), swp_size]

set_option maxHeartbeats 8000000 in
set_option maxRecDepth 100000 in
theorem heapSort_any (W0 : World) (B g cap n a b : Nat) (d : Array Sp) (w : World) (hn : d.size = n) (hsz : n ≤ 1048576) (hab : a < b) (hb : b ≤ n) (hS : Sw W0 B g cap d w) :
    Calls Try.prog 97 #[.slice (some ⟨g, 0, none⟩) n cap, .int .i64 (a : Int), .int .i64 (b : Int), ordV] w fun e w' => e = .returned (.tuple #[]) ∧ Sw W0 B g cap (heapSort ltS d a b) w' := by
  obtain ⟨hi, hhi⟩ : ∃ hi : Nat, hi = b - a := ⟨_, rfl⟩
  have hhiI : (b : Int) - (a : Int) = (hi : Int) := by omega
  have HSD := fun W0 B g cap lo hi first d w h1 h2 h3 h4 h5 => siftDown_any W0 B g cap n lo hi first d w h1 h2 h3 h4 h5
  unfold ordV at HSD ⊢
  unfold heapSort
  rw [← hhi]
  have h1 : 1 ≤ hi := by omega
  have hbn : a + hi ≤ n := by omega
  have hsI : ((hi : Int) - 1).tdiv 2 = (((hi - 1) / 2 : Nat) : Int) := by
    obtain ⟨e, rfl⟩ : ∃ e, hi = e + 1 := ⟨hi - 1, by omega⟩
    simp
  have hw0 : IntKind.i64.wrap ((hi : Int) - 1) = (hi : Int) - 1 := by rw [IntKind.wrap_i64]; omega
  have HS : Hid _ := hS
  clear hS hhi
  go_enter Try.func97, Try.ntmps97
  go_wp2_with fail
  go_loopw [11] (fun t11 wr => ∃ (k : Nat) (z : Int) (dk : Array Sp), t11 = .int .i64 z ∧ z = (k : Int) - 1 ∧ k ≤ (hi - 1) / 2 + 1 ∧ dk.size = n ∧ Hid (Sw W0 B g cap dk wr) ∧ Hid (heapBuild ltS hi a k dk = heapBuild ltS hi a ((hi - 1) / 2 + 1) d)) (fun t11 _ => (intOf t11 + 1).toNat)
  case atStart => exact ⟨(hi - 1) / 2 + 1, _, d, rfl, by first | omega | (push_cast; omega) | (simp; omega), Nat.le_refl _, hn, HS, rfl⟩
  case round =>
    clear HS hsI
    obtain ⟨k, z, dk, rfl, hz, hk, hdk, HS, HE⟩ := hrel
    cases k with
    | succ m =>
      obtain rfl : z = (m : Int) := by omega
      have hm0 : (0 : Int) ≤ (m : Int) := by omega
      have HN : Hid (heapBuild ltS hi a (m + 1) dk = heapBuild ltS hi a m (siftDown ltS hi a m dk)) := rfl
      have hcall := HSD W0 B g cap m hi a dk wr hdk hsz (by omega) hbn HS.out
      clear hz
      go_wp2_with (first | (go_at_call 106; refine hcall.mono ?_; rintro e w2 ⟨rfl, HS2⟩))
      have HS3 : Hid _ := HS2
      clear HS2 hcall
      go_wp2_with fail
      go_roundw
      case rel => exact ⟨m, _, _, rfl, by omega, by omega, by rw [sift_size hi a hi m dk (by omega)]; exact hdk, HS3, by unfold Hid; rw [← HE.out, HN.out]⟩
      case measure => first | (simp [intOf]; done) | (simp [intOf]; omega)
    | zero =>
      obtain rfl : z = -1 := by omega
      have HD : Hid (dk = heapBuild ltS hi a ((hi - 1) / 2 + 1) d) := HE.out
      clear hz HE
      go_wp2_with fail
      go_loopw [12] (fun t12 wr => ∃ (k : Nat) (z : Int) (dj : Array Sp), t12 = .int .i64 z ∧ z = (k : Int) - 1 ∧ k ≤ hi ∧ dj.size = n ∧ Hid (Sw W0 B g cap dj wr) ∧ Hid (heapPop ltS a k dj = heapPop ltS a hi dk)) (fun t12 _ => (intOf t12 + 1).toNat)
      case atStart => exact ⟨hi, _, dk, rfl, by omega, Nat.le_refl _, hdk, HS, rfl⟩
      case round =>
        clear HS
        obtain ⟨k, z, dj, rfl, hz, hk, hdj, HS, HE⟩ := hrel
        cases k with
        | succ m =>
          obtain rfl : z = (m : Int) := by omega
          have hm0 : (0 : Int) ≤ (m : Int) := by omega
          obtain ⟨q, hq⟩ : ∃ q : Nat, q = a + m := ⟨_, rfl⟩
          have hqI : (a : Int) + (m : Int) = (q : Int) := by omega
          have HN : Hid (heapPop ltS a (m + 1) dj = heapPop ltS a m (siftDown ltS m a 0 (swp dj a q))) := by
            unfold Hid
            rw [hq]
            rfl
          have an : a < n := by omega
          have qn : q < n := by omega
          have b0 : (0 : Int) ≤ (a : Int) := by omega
          have b1 : (a : Int) < (n : Int) := by omega
          have b2 : (0 : Int) ≤ (q : Int) := by omega
          have b3 : (q : Int) < (n : Int) := by omega
          clear hz hq
          have hxy := cmp_lt dj[a]! dj[q]!
          obtain ⟨x0, x1⟩ := HS.out.at (i := a) (by omega)
          obtain ⟨y0, y1⟩ := HS.out.at (i := q) (by omega)
          have HWW : Hid _ := fun w' (h : Sw W0 B g cap dj w') => h.swp (i := a) (j := q) (by omega) (by omega)
          obtain ⟨⟨xt, xa⟩, hx⟩ : ∃ x, dj[a]! = x := ⟨_, rfl⟩
          obtain ⟨⟨yt, ya⟩, hy⟩ : ∃ x, dj[q]! = x := ⟨_, rfl⟩
          rw [hx, hy] at hxy HWW
          rw [hx] at x0 x1
          rw [hy] at y0 y1
          simp only at x0 x1 y0 y1 hxy
          have hC := fun w => order_any xt xa yt ya w
          generalize cmpS xt xa yt ya = r at hC hxy
          clear hxy hC
          go_upto_region 10 with fail
          have hSd := (swDrew HS).out
          obtain ⟨x0, x1⟩ := hSd.at (i := a) (by omega)
          obtain ⟨y0, y1⟩ := hSd.at (i := q) (by omega)
          rw [hx] at x0 x1
          rw [hy] at y0 y1
          obtain ⟨u0, u1, u2, u3, ⟨e0, f0⟩, ⟨e1, f1⟩, ⟨e2, f2⟩, ⟨e3, f3⟩⟩ := HS.out.steps (i := a) (j := q) (by omega) (by omega) (.int .i64 yt) (.int .i64 ya) (.int .i64 xt)
          have HF : Hid (Sw W0 B g cap (swp dj a q) ((((wr.setCell ⟨g, a * 2, none⟩ (.int .i64 yt)).setCell ⟨g, a * 2 + 1, none⟩ (.int .i64 ya)).setCell ⟨g, q * 2, none⟩ (.int .i64 xt)).setCell ⟨g, q * 2 + 1, none⟩ (.int .i64 xa)).drew) := HWW.out _ hSd
          simp only at x0 x1 y0 y1
          clear hSd hx hy e0
          refine wp_region_held_drew (S := fun w' => True) (by kernel_rfl) trivial (fun hHeld => ?_)
          refine wpAnyH_take (i := 0) (v := (.slice (some ⟨g, 0, none⟩) n cap)) rfl (by kernel_rfl) (by kernel_rfl) (by kernel_rfl) (fun _ _ _ h => h) (Or.inl ⟨by rfl, by intro w hSw; go_simp⟩) hHeld ?_
          simp only [List.getElem_toArray, List.getElem_cons_zero, Act.put, List.setIfInBounds_toArray, List.set_cons_zero, List.set_cons_succ]
          refine wpAnyH_take (i := 1) (v := (.int .i64 (a : Int))) rfl (by kernel_rfl) (by kernel_rfl) (by kernel_rfl) (fun _ _ _ h => h) (Or.inl ⟨by rfl, by intro w hSw; go_simp⟩) hHeld ?_
          simp only [List.getElem_toArray, List.getElem_cons_succ, List.getElem_cons_zero, Act.put, List.setIfInBounds_toArray, List.set_cons_zero, List.set_cons_succ]
          refine wpAnyH_take (i := 2) (v := (.slice (some ⟨g, 0, none⟩) n cap)) rfl (by kernel_rfl) (by kernel_rfl) (by kernel_rfl) (fun _ _ _ h => h) (Or.inl ⟨by rfl, by intro w hSw; go_simp⟩) hHeld ?_
          simp only [List.getElem_toArray, List.getElem_cons_succ, List.getElem_cons_zero, Act.put, List.setIfInBounds_toArray, List.set_cons_zero, List.set_cons_succ]
          refine wpAnyH_take (i := 3) (v := (.int .i64 (a : Int))) rfl (by kernel_rfl) (by kernel_rfl) (by kernel_rfl) (fun _ _ _ h => h) (Or.inl ⟨by rfl, by intro w hSw; go_simp⟩) hHeld ?_
          simp only [List.getElem_toArray, List.getElem_cons_succ, List.getElem_cons_zero, Act.put, List.setIfInBounds_toArray, List.set_cons_zero, List.set_cons_succ]
          refine wpAnyH_take (i := 4) (v := (.int .i64 (m : Int))) rfl (by kernel_rfl) (by kernel_rfl) (by kernel_rfl) (fun _ _ _ h => h) (Or.inl ⟨by rfl, by intro w hSw; go_simp⟩) hHeld ?_
          simp only [List.getElem_toArray, List.getElem_cons_succ, List.getElem_cons_zero, Act.put, List.setIfInBounds_toArray, List.set_cons_zero, List.set_cons_succ]
          refine wpAnyH_take (i := 5) (v := (.int .i64 (q : Int))) rfl (by kernel_rfl) (by kernel_rfl) (by kernel_rfl) (fun _ _ _ h => h) (Or.inl ⟨by rfl, by intro w hSw; go_simp; rw [IntKind.wrap_i64]; omega⟩) hHeld ?_
          simp only [List.getElem_toArray, List.getElem_cons_succ, List.getElem_cons_zero, Act.put, List.setIfInBounds_toArray, List.set_cons_zero, List.set_cons_succ]
          refine wpAnyH_take (i := 6) (v := (.slice (some ⟨g, 0, none⟩) n cap)) rfl (by kernel_rfl) (by kernel_rfl) (by kernel_rfl) (fun _ _ _ h => h) (Or.inl ⟨by rfl, by intro w hSw; go_simp⟩) hHeld ?_
          simp only [List.getElem_toArray, List.getElem_cons_succ, List.getElem_cons_zero, Act.put, List.setIfInBounds_toArray, List.set_cons_zero, List.set_cons_succ]
          refine wpAnyH_take (i := 7) (v := (.int .i64 (a : Int))) rfl (by kernel_rfl) (by kernel_rfl) (by kernel_rfl) (fun _ _ _ h => h) (Or.inl ⟨by rfl, by intro w hSw; go_simp⟩) hHeld ?_
          simp only [List.getElem_toArray, List.getElem_cons_succ, List.getElem_cons_zero, Act.put, List.setIfInBounds_toArray, List.set_cons_zero, List.set_cons_succ]
          refine wpAnyH_take (i := 8) (v := (.int .i64 (m : Int))) rfl (by kernel_rfl) (by kernel_rfl) (by kernel_rfl) (fun _ _ _ h => h) (Or.inl ⟨by rfl, by intro w hSw; go_simp⟩) hHeld ?_
          simp only [List.getElem_toArray, List.getElem_cons_succ, List.getElem_cons_zero, Act.put, List.setIfInBounds_toArray, List.set_cons_zero, List.set_cons_succ]
          refine wpAnyH_take (i := 9) (v := (.int .i64 (q : Int))) rfl (by kernel_rfl) (by kernel_rfl) (by kernel_rfl) (fun _ _ _ h => h) (Or.inl ⟨by rfl, by intro w hSw; go_simp; rw [IntKind.wrap_i64]; omega⟩) hHeld ?_
          simp only [List.getElem_toArray, List.getElem_cons_succ, List.getElem_cons_zero, Act.put, List.setIfInBounds_toArray, List.set_cons_zero, List.set_cons_succ]
          refine wpAnyH_take (i := 10) (v := (.pointer (some ⟨g, q * 2, none⟩))) rfl (by kernel_rfl) (by kernel_rfl) (by kernel_rfl) (fun _ _ _ h => h) (Or.inl ⟨by rfl, by intro w hSw; go_simp⟩) hHeld ?_
          simp only [List.getElem_toArray, List.getElem_cons_succ, List.getElem_cons_zero, Act.put, List.setIfInBounds_toArray, List.set_cons_zero, List.set_cons_succ]
          refine wpAnyH_take (i := 12) (v := (.slice (some ⟨g, 0, none⟩) n cap)) rfl (by kernel_rfl) (by kernel_rfl) (by kernel_rfl) (fun _ _ _ h => h) (Or.inl ⟨by rfl, by intro w hSw; go_simp⟩) hHeld ?_
          simp only [List.getElem_toArray, List.getElem_cons_succ, List.getElem_cons_zero, Act.put, List.setIfInBounds_toArray, List.set_cons_zero, List.set_cons_succ]
          refine wpAnyH_take (i := 13) (v := (.int .i64 (a : Int))) rfl (by kernel_rfl) (by kernel_rfl) (by kernel_rfl) (fun _ _ _ h => h) (Or.inl ⟨by rfl, by intro w hSw; go_simp⟩) hHeld ?_
          simp only [List.getElem_toArray, List.getElem_cons_succ, List.getElem_cons_zero, Act.put, List.setIfInBounds_toArray, List.set_cons_zero, List.set_cons_succ]
          refine wpAnyH_take (i := 14) (v := (.pointer (some ⟨g, a * 2, none⟩))) rfl (by kernel_rfl) (by kernel_rfl) (by kernel_rfl) (fun _ _ _ h => h) (Or.inl ⟨by rfl, by intro w hSw; go_simp⟩) hHeld ?_
          simp only [List.getElem_toArray, List.getElem_cons_succ, List.getElem_cons_zero, Act.put, List.setIfInBounds_toArray, List.set_cons_zero, List.set_cons_succ]
          refine wpAnyH_ready (rs := [11, 15]) (by kernel_rfl) (by simp) ?_
          refine AllReadyH.cons rfl (fun K hK => ?wayA4) (AllReadyH.cons rfl (fun K hK => ?wayB4) AllReadyH.nil)
          case' wayA4 =>
            go_simp
            refine hK.out _ _ trivial (fun hHeld1 => ?_)
            clear hK K
            refine wpAnyH_ready (rs := [15]) (by kernel_rfl) (by simp) ?_
            refine AllReadyH.cons rfl (fun K hK => ?_) AllReadyH.nil
            go_simp
            refine hK.out _ _ trivial (fun hHeld2 => ?_)
            clear hK K
          case' wayB4 =>
            go_simp
            refine hK.out _ _ trivial (fun hHeld1 => ?_)
            clear hK K
            refine wpAnyH_ready (rs := [11]) (by kernel_rfl) (by simp) ?_
            refine AllReadyH.cons rfl (fun K hK => ?_) AllReadyH.nil
            go_simp
            refine hK.out _ _ trivial (fun hHeld2 => ?_)
            clear hK K
          all_goals
            refine wpAnyH_take (i := 16) (v := (.pointer (some ⟨g, a * 2, none⟩))) rfl (by kernel_rfl) (by kernel_rfl) (by kernel_rfl) (fun _ _ _ h => h) (Or.inl ⟨by rfl, by intro w hSw; go_simp⟩) hHeld2 ?_
            simp only [List.getElem_toArray, List.getElem_cons_succ, List.getElem_cons_zero, Act.put, List.setIfInBounds_toArray, List.set_cons_zero, List.set_cons_succ]
            refine wpAnyH_ready (rs := [17]) (by kernel_rfl) (by simp) ?_
            refine AllReadyH.cons rfl (fun K hK => ?_) AllReadyH.nil
            go_simp
            refine hK.out _ _ trivial (fun hHeld3 => ?_)
            clear hK K
            refine wpAnyH_take (i := 18) (v := (.pointer (some ⟨g, q * 2, none⟩))) rfl (by kernel_rfl) (by kernel_rfl) (by kernel_rfl) (fun _ _ _ h => h) (Or.inl ⟨by rfl, by intro w hSw; go_simp⟩) hHeld3 ?_
            simp only [List.getElem_toArray, List.getElem_cons_succ, List.getElem_cons_zero, Act.put, List.setIfInBounds_toArray, List.set_cons_zero, List.set_cons_succ]
            refine wpAnyH_ready (rs := [19]) (by kernel_rfl) (by simp) ?_
            refine AllReadyH.cons rfl (fun K hK => ?_) AllReadyH.nil
            go_simp
            refine hK.out _ _ trivial (fun hHeld4 => ?_)
            clear hK K
            refine wpAnyH_done (by kernel_rfl) ?_ _
          all_goals
            have hcall := HSD W0 B g cap 0 m a (swp dj a q) _ (by rw [swp_size]; exact hdj) hsz (by omega) (by omega) HF.out
            go_wp2_with (first | (go_at_call 106; refine hcall.mono ?_; rintro e w5 ⟨rfl, HS5⟩))
            have HS6 : Hid _ := HS5
            clear HS5 hcall
            go_wp2_with fail
            go_roundw
            case rel => exact ⟨m, _, _, rfl, by omega, by omega, by rw [sift_size m a m 0 _ (by omega), swp_size]; exact hdj, HS6, by unfold Hid; rw [← HE.out, HN.out]⟩
            case measure => first | (simp [intOf]; done) | (simp [intOf]; omega)
        | zero =>
          obtain rfl : z = -1 := by omega
          clear hz
          go_wp2_with fail
          refine bodyPost_end (v := .tuple #[]) ?_ rfl ⟨rfl, ?_⟩
          · simp [results, Try.results97, go_sem]
          · rw [← HD.out, ← HE.out]
            exact HS.out

end Go.Proofs.Ytdbipcmfolgjgaa
