/- What heapSortCmpFunc does at stamps. What reverseRangeCmpFunc does at stamps. What choosePivotCmpFunc and its helpers do at stamps. -/
import Derived.Test.YtfnlnigeaioocaaGreatQTakeKit
import Derived.Test.YtfnlnigeaioocaaGreatQSortSift
import Derived.Test.YtfnlnigeaioocaaGreatQSortIns
namespace Go.Proofs.YtfnlnigeaioocaaGreat
open Go.RowKit
open Go.Sort (swp insInner insOuter insertionSort siftDown heapBuild heapPop heapSort reverseLoop reverseRange)
set_option linter.unusedVariables false

theorem heapBuild_size (hi first : Nat) : ∀ (k : Nat) (d : Array Sp), True := fun _ _ => trivial
theorem sift_size (hi first : Nat) : ∀ (m root : Nat) (d : Array Sp), hi - root ≤ m → (siftDown ltS hi first root d).size = d.size := by
  intro m
  induction m with
  | zero =>
    intro root d h
    rw [sd_end d (by omega)]
  | succ m ih =>
    intro root d h
    by_cases h0 : hi ≤ 2 * root + 1
    · rw [sd_end d h0]
    · rw [siftDown, dif_neg (by omega)]
      split
      · split
        · rfl
        · split
          · rw [ih _ _ (by omega), swp_size]
          · rfl
      · split
        · rfl
        · rw [ih _ _ (by omega), swp_size]

set_option maxHeartbeats 8000000 in
set_option maxRecDepth 100000 in
theorem heapSort_any (W0 : World) (B g cap n a b : Nat) (d : Array Sp) (w : World) (hn : d.size = n) (hsz : n ≤ 1048576) (hab : a < b) (hb : b ≤ n) (hS : Sw W0 B g cap d w) :
    Calls Tryz.prog 99 #[.slice (some ⟨g, 0, none⟩) n cap, .int .i64 (a : Int), .int .i64 (b : Int), ordV] w fun e w' => e = .returned (.tuple #[]) ∧ Sw W0 B g cap (heapSort ltS d a b) w' := by
  obtain ⟨hi, hhi⟩ : ∃ hi : Nat, hi = b - a := ⟨_, rfl⟩
  have hhiI : (b : Int) - (a : Int) = (hi : Int) := by omega
  have HSD := fun W0 B g cap lo hi first d w h1 h2 h3 h4 h5 => siftDown_any W0 B g cap n lo hi first d w h1 h2 h3 h4 h5
  unfold ordV at HSD ⊢
  unfold heapSort
  rw [← hhi]
  have h1 : 1 ≤ hi := by omega
  have hbn : a + hi ≤ n := by omega
  have hsI : ((hi : Int) - 1).tdiv 2 = (((hi - 1) / 2 : Nat) : Int) := by
    obtain ⟨e, rfl⟩ : ∃ e, hi = e + 1 := ⟨hi - 1, by omega⟩
    simp
  have hw0 : IntKind.i64.wrap ((hi : Int) - 1) = (hi : Int) - 1 := by rw [IntKind.wrap_i64]; omega
  have HS : Hid _ := hS
  clear hS hhi
  go_enter Tryz.func99, Tryz.ntmps99
  go_wp2_with fail
  go_loopw [11] (fun t11 wr => ∃ (k : Nat) (z : Int) (dk : Array Sp), t11 = .int .i64 z ∧ z = (k : Int) - 1 ∧ k ≤ (hi - 1) / 2 + 1 ∧ dk.size = n ∧ Hid (Sw W0 B g cap dk wr) ∧ Hid (heapBuild ltS hi a k dk = heapBuild ltS hi a ((hi - 1) / 2 + 1) d)) (fun t11 _ => (intOf t11 + 1).toNat)
  case atStart => exact ⟨(hi - 1) / 2 + 1, _, d, rfl, by first | omega | (push_cast; omega) | (simp; omega), Nat.le_refl _, hn, HS, rfl⟩
  case round =>
    clear HS hsI
    obtain ⟨k, z, dk, rfl, hz, hk, hdk, HS, HE⟩ := hrel
    cases k with
    | succ m =>
      obtain rfl : z = (m : Int) := by omega
      have hm0 : (0 : Int) ≤ (m : Int) := by omega
      have HN : Hid (heapBuild ltS hi a (m + 1) dk = heapBuild ltS hi a m (siftDown ltS hi a m dk)) := rfl
      have hcall := HSD W0 B g cap m hi a dk wr hdk hsz (by omega) hbn HS.out
      clear hz
      go_wp2_with (first | (go_at_call 107; refine hcall.mono ?_; rintro e w2 ⟨rfl, HS2⟩))
      have HS3 : Hid _ := HS2
      clear HS2 hcall
      go_wp2_with fail
      go_roundw
      case rel => exact ⟨m, _, _, rfl, by omega, by omega, by rw [sift_size hi a hi m dk (by omega)]; exact hdk, HS3, by unfold Hid; rw [← HE.out, HN.out]⟩
      case measure => first | (simp [intOf]; done) | (simp [intOf]; omega)
    | zero =>
      obtain rfl : z = -1 := by omega
      have HD : Hid (dk = heapBuild ltS hi a ((hi - 1) / 2 + 1) d) := HE.out
      clear hz HE
      go_wp2_with fail
      go_loopw [12] (fun t12 wr => ∃ (k : Nat) (z : Int) (dj : Array Sp), t12 = .int .i64 z ∧ z = (k : Int) - 1 ∧ k ≤ hi ∧ dj.size = n ∧ Hid (Sw W0 B g cap dj wr) ∧ Hid (heapPop ltS a k dj = heapPop ltS a hi dk)) (fun t12 _ => (intOf t12 + 1).toNat)
      case atStart => exact ⟨hi, _, dk, rfl, by omega, Nat.le_refl _, hdk, HS, rfl⟩
      case round =>
        clear HS
        obtain ⟨k, z, dj, rfl, hz, hk, hdj, HS, HE⟩ := hrel
        cases k with
        | succ m =>
          obtain rfl : z = (m : Int) := by omega
          have hm0 : (0 : Int) ≤ (m : Int) := by omega
          obtain ⟨q, hq⟩ : ∃ q : Nat, q = a + m := ⟨_, rfl⟩
          have hqI : (a : Int) + (m : Int) = (q : Int) := by omega
          have HN : Hid (heapPop ltS a (m + 1) dj = heapPop ltS a m (siftDown ltS m a 0 (swp dj a q))) := by
            unfold Hid
            rw [hq]
            rfl
          have an : a < n := by omega
          have qn : q < n := by omega
          have b0 : (0 : Int) ≤ (a : Int) := by omega
          have b1 : (a : Int) < (n : Int) := by omega
          have b2 : (0 : Int) ≤ (q : Int) := by omega
          have b3 : (q : Int) < (n : Int) := by omega
          clear hz hq
          have hxy := cmp_lt dj[a]! dj[q]!
          obtain ⟨x0, x1⟩ := HS.out.at (i := a) (by omega)
          obtain ⟨y0, y1⟩ := HS.out.at (i := q) (by omega)
          have HWW : Hid _ := fun w' (h : Sw W0 B g cap dj w') => h.swp (i := a) (j := q) (by omega) (by omega)
          obtain ⟨⟨xt, xa⟩, hx⟩ : ∃ x, dj[a]! = x := ⟨_, rfl⟩
          obtain ⟨⟨yt, ya⟩, hy⟩ : ∃ x, dj[q]! = x := ⟨_, rfl⟩
          rw [hx, hy] at hxy HWW
          rw [hx] at x0 x1
          rw [hy] at y0 y1
          simp only at x0 x1 y0 y1 hxy
          have hC := fun w => order_any xt xa yt ya w
          generalize cmpS xt xa yt ya = r at hC hxy
          clear hxy hC
          go_upto_region 10 with fail
          have hSd := (swDrew HS).out
          obtain ⟨x0, x1⟩ := hSd.at (i := a) (by omega)
          obtain ⟨y0, y1⟩ := hSd.at (i := q) (by omega)
          rw [hx] at x0 x1
          rw [hy] at y0 y1
          obtain ⟨u0, u1, u2, u3, ⟨e0, f0⟩, ⟨e1, f1⟩, ⟨e2, f2⟩, ⟨e3, f3⟩⟩ := HS.out.steps (i := a) (j := q) (by omega) (by omega) (.int .i64 yt) (.int .i64 ya) (.int .i64 xt)
          have HF : Hid (Sw W0 B g cap (swp dj a q) ((((wr.setCell ⟨g, a * 2, none⟩ (.int .i64 yt)).setCell ⟨g, a * 2 + 1, none⟩ (.int .i64 ya)).setCell ⟨g, q * 2, none⟩ (.int .i64 xt)).setCell ⟨g, q * 2 + 1, none⟩ (.int .i64 xa)).drew) := HWW.out _ hSd
          simp only at x0 x1 y0 y1
          clear hSd hx hy e0
          refine wp_region_held_drew (S := fun w' => True) (by kernel_rfl) trivial (fun hHeld => ?_)
          refine tkH 0 ((.slice (some ⟨g, 0, none⟩) n cap)) rfl (Or.inl ⟨by rfl, by intro w hSw; go_simp⟩) hHeld ?_
          simp only [tkS, Act.put]
          refine tkH 1 ((.int .i64 (a : Int))) rfl (Or.inl ⟨by rfl, by intro w hSw; go_simp⟩) hHeld ?_
          simp only [tkS, Act.put]
          refine tkH 2 ((.slice (some ⟨g, 0, none⟩) n cap)) rfl (Or.inl ⟨by rfl, by intro w hSw; go_simp⟩) hHeld ?_
          simp only [tkS, Act.put]
          refine tkH 3 ((.int .i64 (a : Int))) rfl (Or.inl ⟨by rfl, by intro w hSw; go_simp⟩) hHeld ?_
          simp only [tkS, Act.put]
          refine tkH 4 ((.int .i64 (m : Int))) rfl (Or.inl ⟨by rfl, by intro w hSw; go_simp⟩) hHeld ?_
          simp only [tkS, Act.put]
          refine tkH 5 ((.int .i64 (q : Int))) rfl (Or.inl ⟨by rfl, by intro w hSw; go_simp; rw [IntKind.wrap_i64]; omega⟩) hHeld ?_
          simp only [tkS, Act.put]
          refine tkH 6 ((.slice (some ⟨g, 0, none⟩) n cap)) rfl (Or.inl ⟨by rfl, by intro w hSw; go_simp⟩) hHeld ?_
          simp only [tkS, Act.put]
          refine tkH 7 ((.int .i64 (a : Int))) rfl (Or.inl ⟨by rfl, by intro w hSw; go_simp⟩) hHeld ?_
          simp only [tkS, Act.put]
          refine tkH 8 ((.int .i64 (m : Int))) rfl (Or.inl ⟨by rfl, by intro w hSw; go_simp⟩) hHeld ?_
          simp only [tkS, Act.put]
          refine tkH 9 ((.int .i64 (q : Int))) rfl (Or.inl ⟨by rfl, by intro w hSw; go_simp; rw [IntKind.wrap_i64]; omega⟩) hHeld ?_
          simp only [tkS, Act.put]
          refine tkH 10 ((.pointer (some ⟨g, q * 2, none⟩))) rfl (Or.inl ⟨by rfl, by intro w hSw; go_simp⟩) hHeld ?_
          simp only [tkS, Act.put]
          refine tkH 12 ((.slice (some ⟨g, 0, none⟩) n cap)) rfl (Or.inl ⟨by rfl, by intro w hSw; go_simp⟩) hHeld ?_
          simp only [tkS, Act.put]
          refine tkH 13 ((.int .i64 (a : Int))) rfl (Or.inl ⟨by rfl, by intro w hSw; go_simp⟩) hHeld ?_
          simp only [tkS, Act.put]
          refine tkH 14 ((.pointer (some ⟨g, a * 2, none⟩))) rfl (Or.inl ⟨by rfl, by intro w hSw; go_simp⟩) hHeld ?_
          simp only [tkS, Act.put]
          refine wpAnyH_ready (rs := [11, 15]) (by kernel_rfl) (by simp) ?_
          refine AllReadyH.cons rfl (fun K hK => ?wayA4) (AllReadyH.cons rfl (fun K hK => ?wayB4) AllReadyH.nil)
          case' wayA4 =>
            go_simp
            refine hK.out _ _ trivial (fun hHeld1 => ?_)
            clear hK K
            refine wpAnyH_ready (rs := [15]) (by kernel_rfl) (by simp) ?_
            refine AllReadyH.cons rfl (fun K hK => ?_) AllReadyH.nil
            go_simp
            refine hK.out _ _ trivial (fun hHeld2 => ?_)
            clear hK K
          case' wayB4 =>
            go_simp
            refine hK.out _ _ trivial (fun hHeld1 => ?_)
            clear hK K
            refine wpAnyH_ready (rs := [11]) (by kernel_rfl) (by simp) ?_
            refine AllReadyH.cons rfl (fun K hK => ?_) AllReadyH.nil
            go_simp
            refine hK.out _ _ trivial (fun hHeld2 => ?_)
            clear hK K
          all_goals
            refine wpAnyH_take (i := 16) (v := (.pointer (some ⟨g, a * 2, none⟩))) rfl (by kernel_rfl) (by kernel_rfl) (by kernel_rfl) (fun _ _ _ h => h) (Or.inl ⟨by rfl, by intro w hSw; go_simp⟩) hHeld2 ?_
            simp only [tkS, Act.put]
            refine wpAnyH_ready (rs := [17]) (by kernel_rfl) (by simp) ?_
            refine AllReadyH.cons rfl (fun K hK => ?_) AllReadyH.nil
            go_simp
            refine hK.out _ _ trivial (fun hHeld3 => ?_)
            clear hK K
            refine wpAnyH_take (i := 18) (v := (.pointer (some ⟨g, q * 2, none⟩))) rfl (by kernel_rfl) (by kernel_rfl) (by kernel_rfl) (fun _ _ _ h => h) (Or.inl ⟨by rfl, by intro w hSw; go_simp⟩) hHeld3 ?_
            simp only [tkS, Act.put]
            refine wpAnyH_ready (rs := [19]) (by kernel_rfl) (by simp) ?_
            refine AllReadyH.cons rfl (fun K hK => ?_) AllReadyH.nil
            go_simp
            refine hK.out _ _ trivial (fun hHeld4 => ?_)
            clear hK K
            refine wpAnyH_done (by kernel_rfl) ?_ _
          all_goals
            have hcall := HSD W0 B g cap 0 m a (swp dj a q) _ (by rw [swp_size]; exact hdj) hsz (by omega) (by omega) HF.out
            go_wp2_with (first | (go_at_call 107; refine hcall.mono ?_; rintro e w5 ⟨rfl, HS5⟩))
            have HS6 : Hid _ := HS5
            clear HS5 hcall
            go_wp2_with fail
            go_roundw
            case rel => exact ⟨m, _, _, rfl, by omega, by omega, by rw [sift_size m a m 0 _ (by omega), swp_size]; exact hdj, HS6, by unfold Hid; rw [← HE.out, HN.out]⟩
            case measure => first | (simp [intOf]; done) | (simp [intOf]; omega)
        | zero =>
          obtain rfl : z = -1 := by omega
          clear hz
          go_wp2_with fail
          refine bodyPost_end (v := .tuple #[]) ?_ rfl ⟨rfl, ?_⟩
          · simp [results, Tryz.results99, go_sem]
          · rw [← HD.out, ← HE.out]
            exact HS.out

end Go.Proofs.YtfnlnigeaioocaaGreat

namespace Go.Proofs.YtfnlnigeaioocaaGreat
open Go.RowKit
open Go.Sort (swp insInner insOuter insertionSort siftDown heapBuild heapPop heapSort reverseLoop reverseRange)
set_option linter.unusedVariables false

set_option maxHeartbeats 8000000 in
set_option maxRecDepth 100000 in
theorem reverse_any (W0 : World) (B g cap n a b : Nat) (d : Array Sp) (w : World) (hn : d.size = n) (hsz : n ≤ 1048576) (hab : a < b) (hb : b ≤ n) (hS : Sw W0 B g cap d w) :
    Calls Tryz.prog 102 #[.slice (some ⟨g, 0, none⟩) n cap, .int .i64 (a : Int), .int .i64 (b : Int), ordV] w fun e w' => e = .returned (.tuple #[]) ∧ Sw W0 B g cap (reverseRange d a b) w' := by
  unfold ordV reverseRange
  obtain ⟨b1, hb1⟩ : ∃ b1 : Nat, b1 = b - 1 := ⟨_, rfl⟩
  have hb1I : (b : Int) - 1 = (b1 : Int) := by omega
  rw [← hb1]
  have HS : Hid _ := hS
  have hbn : b1 < n := by omega
  clear hS hb1
  go_enter Tryz.func102, Tryz.ntmps102
  go_wp2_with fail
  go_loopw [8, 9] (fun t8 t9 wr => ∃ (i j : Nat) (dk : Array Sp), t8 = .int .i64 (i : Int) ∧ t9 = .int .i64 (j : Int) ∧ i ≤ n ∧ j < n ∧ dk.size = n ∧ Hid (Sw W0 B g cap dk wr) ∧ Hid (reverseLoop i j dk = reverseLoop a b1 d)) (fun t8 t9 _ => (intOf t9).toNat - (intOf t8).toNat)
  case atStart => exact ⟨a, b1, d, rfl, rfl, by omega, hbn, hn, HS, rfl⟩
  case round =>
    clear HS
    obtain ⟨i, j, dk, rfl, rfl, hi, hj, hdk, HS, HE⟩ := hrel
    by_cases hlt : i < j
    · have hltI : (i : Int) < (j : Int) := by omega
      have HN : Hid (reverseLoop i j dk = reverseLoop (i + 1) (j - 1) (swp dk i j)) := by
        unfold Hid
        rw [reverseLoop, if_pos hlt]
      obtain ⟨j1, hj1⟩ : ∃ j1 : Nat, j1 = j - 1 := ⟨_, rfl⟩
      have hj1I : (j : Int) - 1 = (j1 : Int) := by omega
      rw [← hj1] at HN
      have HJ : Hid (j1 + 1 = j) := by unfold Hid; omega
      have b0 : (0 : Int) ≤ (i : Int) := by omega
      have b1' : (i : Int) < (n : Int) := by omega
      have b2 : (0 : Int) ≤ (j : Int) := by omega
      have b3 : (j : Int) < (n : Int) := by omega
      have b4 : (i : Int) + 1 < 9223372036854775808 := by omega
      clear hj1
      have hxy := cmp_lt dk[i]! dk[j]!
      obtain ⟨x0, x1⟩ := HS.out.at (i := i) (by omega)
      obtain ⟨y0, y1⟩ := HS.out.at (i := j) (by omega)
      have HWW : Hid _ := fun w' (h : Sw W0 B g cap dk w') => h.swp (i := i) (j := j) (by omega) (by omega)
      obtain ⟨⟨xt, xa⟩, hx⟩ : ∃ x, dk[i]! = x := ⟨_, rfl⟩
      obtain ⟨⟨yt, ya⟩, hy⟩ : ∃ x, dk[j]! = x := ⟨_, rfl⟩
      rw [hx, hy] at hxy HWW
      rw [hx] at x0 x1
      rw [hy] at y0 y1
      simp only at x0 x1 y0 y1 hxy
      have hC := fun w => order_any xt xa yt ya w
      generalize cmpS xt xa yt ya = r at hC hxy
      clear hxy hC
      go_upto_region 3 with fail
      have hSd := (swDrew HS).out
      obtain ⟨x0, x1⟩ := hSd.at (i := i) (by omega)
      obtain ⟨y0, y1⟩ := hSd.at (i := j) (by omega)
      rw [hx] at x0 x1
      rw [hy] at y0 y1
      obtain ⟨u0, u1, u2, u3, ⟨e0, f0⟩, ⟨e1, f1⟩, ⟨e2, f2⟩, ⟨e3, f3⟩⟩ := HS.out.steps (i := i) (j := j) (by omega) (by omega) (.int .i64 yt) (.int .i64 ya) (.int .i64 xt)
      have HF : Hid (Sw W0 B g cap (swp dk i j) ((((wr.setCell ⟨g, i * 2, none⟩ (.int .i64 yt)).setCell ⟨g, i * 2 + 1, none⟩ (.int .i64 ya)).setCell ⟨g, j * 2, none⟩ (.int .i64 xt)).setCell ⟨g, j * 2 + 1, none⟩ (.int .i64 xa)).drew) := HWW.out _ hSd
      simp only at x0 x1 y0 y1
      clear hSd hx hy e0
      refine wp_region_held_drew (S := fun w' => True) (by kernel_rfl) trivial (fun hHeld => ?_)
      refine tkH 0 ((.slice (some ⟨g, 0, none⟩) n cap)) rfl (Or.inl ⟨by rfl, by intro w hSw; go_simp⟩) hHeld ?_
      simp only [tkS, Act.put]
      refine tkH 1 ((.int .i64 (i : Int))) rfl (Or.inl ⟨by rfl, by intro w hSw; go_simp⟩) hHeld ?_
      simp only [tkS, Act.put]
      refine tkH 2 ((.slice (some ⟨g, 0, none⟩) n cap)) rfl (Or.inl ⟨by rfl, by intro w hSw; go_simp⟩) hHeld ?_
      simp only [tkS, Act.put]
      refine tkH 3 ((.int .i64 (j : Int))) rfl (Or.inl ⟨by rfl, by intro w hSw; go_simp⟩) hHeld ?_
      simp only [tkS, Act.put]
      refine tkH 4 ((.slice (some ⟨g, 0, none⟩) n cap)) rfl (Or.inl ⟨by rfl, by intro w hSw; go_simp⟩) hHeld ?_
      simp only [tkS, Act.put]
      refine tkH 5 ((.int .i64 (j : Int))) rfl (Or.inl ⟨by rfl, by intro w hSw; go_simp⟩) hHeld ?_
      simp only [tkS, Act.put]
      refine tkH 6 ((.pointer (some ⟨g, j * 2, none⟩))) rfl (Or.inl ⟨by rfl, by intro w hSw; go_simp⟩) hHeld ?_
      simp only [tkS, Act.put]
      refine tkH 8 ((.slice (some ⟨g, 0, none⟩) n cap)) rfl (Or.inl ⟨by rfl, by intro w hSw; go_simp⟩) hHeld ?_
      simp only [tkS, Act.put]
      refine tkH 9 ((.int .i64 (i : Int))) rfl (Or.inl ⟨by rfl, by intro w hSw; go_simp⟩) hHeld ?_
      simp only [tkS, Act.put]
      refine tkH 10 ((.pointer (some ⟨g, i * 2, none⟩))) rfl (Or.inl ⟨by rfl, by intro w hSw; go_simp⟩) hHeld ?_
      simp only [tkS, Act.put]
      refine wpAnyH_ready (rs := [7, 11]) (by kernel_rfl) (by simp) ?_
      refine AllReadyH.cons rfl (fun K hK => ?wayA1) (AllReadyH.cons rfl (fun K hK => ?wayB1) AllReadyH.nil)
      case' wayA1 =>
        go_simp
        refine hK.out _ _ trivial (fun hHeld1 => ?_)
        clear hK K
        refine wpAnyH_ready (rs := [11]) (by kernel_rfl) (by simp) ?_
        refine AllReadyH.cons rfl (fun K hK => ?_) AllReadyH.nil
        go_simp
        refine hK.out _ _ trivial (fun hHeld2 => ?_)
        clear hK K
      case' wayB1 =>
        go_simp
        refine hK.out _ _ trivial (fun hHeld1 => ?_)
        clear hK K
        refine wpAnyH_ready (rs := [7]) (by kernel_rfl) (by simp) ?_
        refine AllReadyH.cons rfl (fun K hK => ?_) AllReadyH.nil
        go_simp
        refine hK.out _ _ trivial (fun hHeld2 => ?_)
        clear hK K
      all_goals
        refine wpAnyH_take (i := 12) (v := (.pointer (some ⟨g, i * 2, none⟩))) rfl (by kernel_rfl) (by kernel_rfl) (by kernel_rfl) (fun _ _ _ h => h) (Or.inl ⟨by rfl, by intro w hSw; go_simp⟩) hHeld2 ?_
        simp only [tkS, Act.put]
        refine wpAnyH_ready (rs := [13]) (by kernel_rfl) (by simp) ?_
        refine AllReadyH.cons rfl (fun K hK => ?_) AllReadyH.nil
        go_simp
        refine hK.out _ _ trivial (fun hHeld3 => ?_)
        clear hK K
        refine wpAnyH_take (i := 14) (v := (.pointer (some ⟨g, j * 2, none⟩))) rfl (by kernel_rfl) (by kernel_rfl) (by kernel_rfl) (fun _ _ _ h => h) (Or.inl ⟨by rfl, by intro w hSw; go_simp⟩) hHeld3 ?_
        simp only [tkS, Act.put]
        refine wpAnyH_ready (rs := [15]) (by kernel_rfl) (by simp) ?_
        refine AllReadyH.cons rfl (fun K hK => ?_) AllReadyH.nil
        go_simp
        refine hK.out _ _ trivial (fun hHeld4 => ?_)
        clear hK K
        refine wpAnyH_done (by kernel_rfl) ?_ _
      all_goals
        go_wp2_with fail
        go_roundw
        case rel => exact ⟨i + 1, j1, swp dk i j, by go_num, by go_num, by omega, by have := HJ.out; omega, by rw [swp_size]; exact hdk, HF, by unfold Hid; rw [← HE.out, HN.out]⟩
        case measure => have := HJ.out; simp [intOf]; omega
    · have hltI : ¬ (i : Int) < (j : Int) := by omega
      have HN : Hid (reverseLoop i j dk = dk) := by
        unfold Hid
        rw [reverseLoop, if_neg hlt]
      go_wp2_with fail
      refine bodyPost_end (v := .tuple #[]) ?_ rfl ⟨rfl, ?_⟩
      · simp [results, Tryz.results102, go_sem]
      · rw [← HE.out, HN.out]
        exact HS.out

end Go.Proofs.YtfnlnigeaioocaaGreat

namespace Go.Proofs.YtfnlnigeaioocaaGreat
open Go.RowKit
open Go.Sort (swp insInner insOuter insertionSort siftDown heapBuild heapPop heapSort reverseLoop reverseRange)
set_option linter.unusedVariables false

open Go.Sort (order2 median medianAdjacent choosePivot Hint)
/-- The row, and a counter in a block that was made since. -/
structure Cn (W0 : World) (B g cap : Nat) (d : Array Sp) (cb s : Nat) (w : World) : Prop where
  sw : Sw W0 B g cap d w
  cell : w.cell? ⟨cb, 0, none⟩ = some (.int .i64 (s : Int))
  free : w.frozen? ⟨cb, 0, none⟩ = false
  lo : W0.heap.size ≤ cb
  gw : g < W0.heap.size
theorem Cn.on {W0 w w' : World} {B g cap cb s : Nat} {d : Array Sp} (h : Cn W0 B g cap d cb s w) (hb : Below w.heap.size w w') : Cn W0 B g cap d cb s w' :=
  ⟨h.sw.on hb, cell_on hb h.cell, (hb.frozen (p := ⟨cb, 0, none⟩) (cell_lt h.cell)).trans h.free, h.lo, h.gw⟩
theorem Cn.drew {W0 w : World} {B g cap cb s : Nat} {d : Array Sp} (h : Cn W0 B g cap d cb s w) : Cn W0 B g cap d cb s w.drew := h.on (show Below _ w w.drew from (Below.refl _ w).drew)
theorem Cn.bump {W0 w : World} {B g cap cb s : Nat} {d : Array Sp} (h : Cn W0 B g cap d cb s w) (t : Nat) : Cn W0 B g cap d cb t (w.setCell ⟨cb, 0, none⟩ (.int .i64 (t : Int))) := by
  have hlo := h.lo
  have hgw := h.gw
  refine ⟨⟨?_, ?_⟩, World.cell?_setCell_same' _ _ _ (by rw [h.cell]; rfl), by rw [World.frozen?_setCell]; exact h.free, h.lo, h.gw⟩
  · obtain ⟨k1, k2⟩ := h.sw.own
    refine ⟨k1, ?_⟩
    rcases k2 with k2 | ⟨g', cap', cur, hv, hg, hh, r⟩
    · exact .inl k2
    · have hgg : g = g' := by have := hv; simp at this; exact this.1
      exact .inr ⟨g', cap', cur, hv, hg, (heap_setCell_other w ⟨cb, 0, none⟩ g' _ (by show g' ≠ cb; omega)).trans hh, r⟩
  · have hgr := h.sw.gr
    exact ⟨hgr.os, hgr.tape, hgr.output, by simpa using hgr.size, fun i hi hn => (heap_setCell_other w ⟨cb, 0, none⟩ i _ (by show i ≠ cb; omega)).trans (hgr.block i hi hn)⟩
theorem cnOn {W0 w w' : World} {B g cap cb s : Nat} {d : Array Sp} (h : Hid (Cn W0 B g cap d cb s w)) (hb : Below w.heap.size w w') : Hid (Cn W0 B g cap d cb s w') := h.out.on hb
theorem cnDrew {W0 w : World} {B g cap cb s : Nat} {d : Array Sp} (h : Hid (Cn W0 B g cap d cb s w)) : Hid (Cn W0 B g cap d cb s w.drew) := h.out.drew
theorem order2_in (d : Array Sp) (a b s n : Nat) (ha : a < n) (hb : b < n) : (order2 ltS d a b s).1 < n ∧ (order2 ltS d a b s).2.1 < n ∧ (order2 ltS d a b s).2.2 ≤ s + 1 := by
  unfold order2
  split <;> simp <;> omega
theorem median_in (d : Array Sp) (a b c s n : Nat) (ha : a < n) (hb : b < n) (hc : c < n) : (median ltS d a b c s).1 < n ∧ (median ltS d a b c s).2 ≤ s + 3 := by
  unfold median
  obtain ⟨h1, h2, h3⟩ := order2_in d a b s n ha hb
  obtain ⟨k1, k2, k3⟩ := order2_in d _ c (order2 ltS d a b s).2.2 n h2 hc
  obtain ⟨l1, l2, l3⟩ := order2_in d _ _ (order2 ltS d (order2 ltS d a b s).2.1 c (order2 ltS d a b s).2.2).2.2 n h1 k1
  exact ⟨l2, Nat.le_trans l3 (by omega)⟩

set_option maxHeartbeats 4000000 in
set_option maxRecDepth 100000 in
theorem order2_any (W0 : World) (B g cap n a b cb s : Nat) (d : Array Sp) (w : World) (hn : d.size = n) (hsz : n ≤ 1048576) (ha : a < n) (hb : b < n) (hs : s ≤ 1000) (hS : Cn W0 B g cap d cb s w) :
    Calls Tryz.prog 110 #[.slice (some ⟨g, 0, none⟩) n cap, .int .i64 (a : Int), .int .i64 (b : Int), .pointer (some ⟨cb, 0, none⟩), ordV] w fun e w' => e = .returned (.tuple #[.int .i64 ((order2 ltS d a b s).1 : Int), .int .i64 ((order2 ltS d a b s).2.1 : Int)]) ∧ Cn W0 B g cap d cb (order2 ltS d a b s).2.2 w' := by
  unfold ordV
  have b0 : (0 : Int) ≤ (a : Int) := by omega
  have b1 : (a : Int) < (n : Int) := by omega
  have b2 : (0 : Int) ≤ (b : Int) := by omega
  have b3 : (b : Int) < (n : Int) := by omega
  have b4 : (s : Int) + 1 < 9223372036854775808 := by omega
  have HO : Hid ((ltS d[b]! d[a]! = true → order2 ltS d a b s = (b, a, s + 1)) ∧ (ltS d[b]! d[a]! = false → order2 ltS d a b s = (a, b, s))) := ⟨fun h => by simp [order2, h], fun h => by simp [order2, h]⟩
  have hxy := cmp_lt d[b]! d[a]!
  obtain ⟨x0, x1⟩ := hS.sw.drew.at (i := b) (by omega)
  obtain ⟨y0, y1⟩ := hS.sw.drew.at (i := a) (by omega)
  obtain ⟨x0, x1⟩ := hS.sw.at (i := b) (by omega)
  obtain ⟨y0, y1⟩ := hS.sw.at (i := a) (by omega)
  generalize order2 ltS d a b s = res at HO ⊢
  obtain ⟨⟨xt, xa⟩, hx⟩ : ∃ x, d[b]! = x := ⟨_, rfl⟩
  obtain ⟨⟨yt, ya⟩, hy⟩ : ∃ x, d[a]! = x := ⟨_, rfl⟩
  rw [hx, hy] at hxy HO
  rw [hx] at x0 x1
  rw [hy] at y0 y1
  simp only at x0 x1 y0 y1 hxy
  have hC := fun w => order_any xt xa yt ya w
  generalize cmpS xt xa yt ya = r at hC hxy
  have HS : Hid _ := hS
  clear hx hy hS
  rcases hxy with ⟨hr, hl⟩ | ⟨hr, hl⟩
  · obtain rfl := HO.out.1 hl
    clear hl HO
    go_enter Tryz.func110, Tryz.ntmps110
    go_wp2_with fail
    refine wp_region_held_drew (S := fun w' => w'.cell? ⟨g, b * 2, none⟩ = some (.int .i64 xt) ∧ w'.cell? ⟨g, b * 2 + 1, none⟩ = some (.int .i64 xa) ∧ w'.cell? ⟨g, a * 2, none⟩ = some (.int .i64 yt) ∧ w'.cell? ⟨g, a * 2 + 1, none⟩ = some (.int .i64 ya)) (by kernel_rfl) ⟨x0, x1, y0, y1⟩ (fun hHeld => ?_)
    refine tkH 0 ((.func (.func 53) #[.agg #[]] #[])) rfl (Or.inl ⟨by rfl, by intro w hSw; obtain ⟨s0, s1, s2, s3⟩ := hSw; go_simp⟩) hHeld ?_
    simp only [tkS, Act.put]
    refine tkH 1 ((.slice (some ⟨g, 0, none⟩) n cap)) rfl (Or.inl ⟨by rfl, by intro w hSw; obtain ⟨s0, s1, s2, s3⟩ := hSw; go_simp⟩) hHeld ?_
    simp only [tkS, Act.put]
    refine tkH 2 ((.int .i64 (b : Int))) rfl (Or.inl ⟨by rfl, by intro w hSw; obtain ⟨s0, s1, s2, s3⟩ := hSw; go_simp⟩) hHeld ?_
    simp only [tkS, Act.put]
    refine tkH 3 ((.pointer (some ⟨g, b * 2, none⟩))) rfl (Or.inl ⟨by rfl, by intro w hSw; obtain ⟨s0, s1, s2, s3⟩ := hSw; go_simp⟩) hHeld ?_
    simp only [tkS, Act.put]
    refine tkH 4 ((.agg #[.int .i64 xt, .int .i64 xa])) rfl (Or.inl ⟨by rfl, by intro w hSw; obtain ⟨s0, s1, s2, s3⟩ := hSw; go_simp⟩) hHeld ?_
    simp only [tkS, Act.put]
    refine tkH 5 ((.slice (some ⟨g, 0, none⟩) n cap)) rfl (Or.inl ⟨by rfl, by intro w hSw; obtain ⟨s0, s1, s2, s3⟩ := hSw; go_simp⟩) hHeld ?_
    simp only [tkS, Act.put]
    refine tkH 6 ((.int .i64 (a : Int))) rfl (Or.inl ⟨by rfl, by intro w hSw; obtain ⟨s0, s1, s2, s3⟩ := hSw; go_simp⟩) hHeld ?_
    simp only [tkS, Act.put]
    refine tkH 7 ((.pointer (some ⟨g, a * 2, none⟩))) rfl (Or.inl ⟨by rfl, by intro w hSw; obtain ⟨s0, s1, s2, s3⟩ := hSw; go_simp⟩) hHeld ?_
    simp only [tkS, Act.put]
    refine tkH 8 ((.agg #[.int .i64 yt, .int .i64 ya])) rfl (Or.inl ⟨by rfl, by intro w hSw; obtain ⟨s0, s1, s2, s3⟩ := hSw; go_simp⟩) hHeld ?_
    simp only [tkS, Act.put]
    refine wpAnyH_ready (rs := [9]) (by kernel_rfl) (by simp) ?_
    refine AllReadyH.cons rfl (fun K hK => ?_) AllReadyH.nil
    go_simp
    refine (hC _).mono ?_
    rintro e w2 ⟨rfl, hb2⟩
    go_wp2_with fail
    refine hK.out _ _ ⟨cell_on hb2 hHeld.1, cell_on hb2 hHeld.2.1, cell_on hb2 hHeld.2.2.1, cell_on hb2 hHeld.2.2.2⟩ (fun hHeld2 => ?_)
    clear hK K
    replace HS := cnOn (cnDrew HS) hb2
    clear hb2 x0 x1 y0 y1
    refine wpAnyH_take (i := 10) (v := (.bool true)) rfl (by kernel_rfl) (by kernel_rfl) (by kernel_rfl) (fun _ _ _ h => h) (Or.inl ⟨by rfl, by intro w hSw; obtain ⟨s0, s1, s2, s3⟩ := hSw; go_simp⟩) hHeld2 ?_
    simp only [tkS, Act.put]
    refine wpAnyH_done (by kernel_rfl) ?_ _
    clear hHeld hHeld2
    obtain ⟨_, c0, c1, _, _⟩ := HS.out
    have HB : Hid (Cn W0 B g cap d cb (s + 1) (w2.setCell ⟨cb, 0, none⟩ (.int .i64 ((s : Int) + 1)))) := by
      have := HS.out.bump (s + 1)
      rw [show ((s + 1 : Nat) : Int) = (s : Int) + 1 by omega] at this
      exact this
    go_wp2_with fail
    refine bodyPost_ret (v := .tuple #[.int .i64 (b : Int), .int .i64 (a : Int)]) ?_ rfl ⟨rfl, HB.out⟩
    simp [results, Tryz.results110, go_sem]
  · obtain rfl := HO.out.2 hl
    clear hl HO
    go_enter Tryz.func110, Tryz.ntmps110
    go_wp2_with fail
    refine wp_region_held_drew (S := fun w' => w'.cell? ⟨g, b * 2, none⟩ = some (.int .i64 xt) ∧ w'.cell? ⟨g, b * 2 + 1, none⟩ = some (.int .i64 xa) ∧ w'.cell? ⟨g, a * 2, none⟩ = some (.int .i64 yt) ∧ w'.cell? ⟨g, a * 2 + 1, none⟩ = some (.int .i64 ya)) (by kernel_rfl) ⟨x0, x1, y0, y1⟩ (fun hHeld => ?_)
    refine tkH 0 ((.func (.func 53) #[.agg #[]] #[])) rfl (Or.inl ⟨by rfl, by intro w hSw; obtain ⟨s0, s1, s2, s3⟩ := hSw; go_simp⟩) hHeld ?_
    simp only [tkS, Act.put]
    refine tkH 1 ((.slice (some ⟨g, 0, none⟩) n cap)) rfl (Or.inl ⟨by rfl, by intro w hSw; obtain ⟨s0, s1, s2, s3⟩ := hSw; go_simp⟩) hHeld ?_
    simp only [tkS, Act.put]
    refine tkH 2 ((.int .i64 (b : Int))) rfl (Or.inl ⟨by rfl, by intro w hSw; obtain ⟨s0, s1, s2, s3⟩ := hSw; go_simp⟩) hHeld ?_
    simp only [tkS, Act.put]
    refine tkH 3 ((.pointer (some ⟨g, b * 2, none⟩))) rfl (Or.inl ⟨by rfl, by intro w hSw; obtain ⟨s0, s1, s2, s3⟩ := hSw; go_simp⟩) hHeld ?_
    simp only [tkS, Act.put]
    refine tkH 4 ((.agg #[.int .i64 xt, .int .i64 xa])) rfl (Or.inl ⟨by rfl, by intro w hSw; obtain ⟨s0, s1, s2, s3⟩ := hSw; go_simp⟩) hHeld ?_
    simp only [tkS, Act.put]
    refine tkH 5 ((.slice (some ⟨g, 0, none⟩) n cap)) rfl (Or.inl ⟨by rfl, by intro w hSw; obtain ⟨s0, s1, s2, s3⟩ := hSw; go_simp⟩) hHeld ?_
    simp only [tkS, Act.put]
    refine tkH 6 ((.int .i64 (a : Int))) rfl (Or.inl ⟨by rfl, by intro w hSw; obtain ⟨s0, s1, s2, s3⟩ := hSw; go_simp⟩) hHeld ?_
    simp only [tkS, Act.put]
    refine tkH 7 ((.pointer (some ⟨g, a * 2, none⟩))) rfl (Or.inl ⟨by rfl, by intro w hSw; obtain ⟨s0, s1, s2, s3⟩ := hSw; go_simp⟩) hHeld ?_
    simp only [tkS, Act.put]
    refine tkH 8 ((.agg #[.int .i64 yt, .int .i64 ya])) rfl (Or.inl ⟨by rfl, by intro w hSw; obtain ⟨s0, s1, s2, s3⟩ := hSw; go_simp⟩) hHeld ?_
    simp only [tkS, Act.put]
    refine wpAnyH_ready (rs := [9]) (by kernel_rfl) (by simp) ?_
    refine AllReadyH.cons rfl (fun K hK => ?_) AllReadyH.nil
    go_simp
    refine (hC _).mono ?_
    rintro e w2 ⟨rfl, hb2⟩
    go_wp2_with fail
    refine hK.out _ _ ⟨cell_on hb2 hHeld.1, cell_on hb2 hHeld.2.1, cell_on hb2 hHeld.2.2.1, cell_on hb2 hHeld.2.2.2⟩ (fun hHeld2 => ?_)
    clear hK K
    replace HS := cnOn (cnDrew HS) hb2
    clear hb2 x0 x1 y0 y1
    refine wpAnyH_take (i := 10) (v := (.bool false)) rfl (by kernel_rfl) (by kernel_rfl) (by kernel_rfl) (fun _ _ _ h => h) (Or.inl ⟨by rfl, by intro w hSw; obtain ⟨s0, s1, s2, s3⟩ := hSw; go_simp⟩) hHeld2 ?_
    simp only [tkS, Act.put]
    refine wpAnyH_done (by kernel_rfl) ?_ _
    clear hHeld hHeld2
    go_wp2_with fail
    refine bodyPost_ret (v := .tuple #[.int .i64 (a : Int), .int .i64 (b : Int)]) ?_ rfl ⟨rfl, HS.out⟩
    simp [results, Tryz.results110, go_sem]

set_option maxHeartbeats 4000000 in
set_option maxRecDepth 100000 in
theorem median_any (W0 : World) (B g cap n a b c cb s : Nat) (d : Array Sp) (w : World) (hn : d.size = n) (hsz : n ≤ 1048576) (ha : a < n) (hb : b < n) (hc : c < n) (hs : s ≤ 900) (hS : Cn W0 B g cap d cb s w) :
    Calls Tryz.prog 109 #[.slice (some ⟨g, 0, none⟩) n cap, .int .i64 (a : Int), .int .i64 (b : Int), .int .i64 (c : Int), .pointer (some ⟨cb, 0, none⟩), ordV] w fun e w' => e = .returned (.int .i64 ((median ltS d a b c s).1 : Int)) ∧ Cn W0 B g cap d cb (median ltS d a b c s).2 w' := by
  have HO := fun a b s w (h1 : a < n) (h2 : b < n) (h3 : s ≤ 1000) h => order2_any W0 B g cap n a b cb s d w hn hsz h1 h2 h3 h
  unfold ordV at HO ⊢
  unfold median
  obtain ⟨i1, i2, i3⟩ := order2_in d a b s n ha hb
  have h1 := HO a b s w ha hb (by omega) hS
  generalize order2 ltS d a b s = r1 at *
  obtain ⟨p1, q1, s1⟩ := r1
  simp only at i1 i2 i3 h1 ⊢
  obtain ⟨k1, k2, k3⟩ := order2_in d q1 c s1 n i2 hc
  have h2 := fun w => HO q1 c s1 w i2 hc (by omega)
  generalize order2 ltS d q1 c s1 = r2 at *
  obtain ⟨p2, q2, s2⟩ := r2
  simp only at k1 k2 k3 h2 ⊢
  have h3 := fun w => HO p1 p2 s2 w i1 k1 (by omega)
  generalize order2 ltS d p1 p2 s2 = r3 at *
  obtain ⟨p3, q3, s3⟩ := r3
  simp only at h3 ⊢
  clear HO hS
  go_enter Tryz.func109, Tryz.ntmps109
  go_wp2_with fail
  refine h1.mono ?_
  rintro e w1 ⟨rfl, H1⟩
  go_wp2_with fail
  refine (h2 w1 H1).mono ?_
  rintro e w2 ⟨rfl, H2⟩
  go_wp2_with fail
  refine (h3 w2 H2).mono ?_
  rintro e w3 ⟨rfl, H3⟩
  go_wp2_with fail
  go_ret
  exact ⟨rfl, H3⟩

set_option maxHeartbeats 4000000 in
theorem medianAdj_any (W0 : World) (B g cap n a cb s : Nat) (d : Array Sp) (w : World) (hn : d.size = n) (hsz : n ≤ 1048576) (ha0 : 1 ≤ a) (ha : a + 1 < n) (hs : s ≤ 900) (hS : Cn W0 B g cap d cb s w) :
    Calls Tryz.prog 108 #[.slice (some ⟨g, 0, none⟩) n cap, .int .i64 (a : Int), .pointer (some ⟨cb, 0, none⟩), ordV] w fun e w' => e = .returned (.int .i64 ((medianAdjacent ltS d a s).1 : Int)) ∧ Cn W0 B g cap d cb (medianAdjacent ltS d a s).2 w' := by
  unfold medianAdjacent
  have h1 := median_any W0 B g cap n (a - 1) a (a + 1) cb s d w hn hsz (by omega) (by omega) ha hs hS
  unfold ordV at h1 ⊢
  generalize median ltS d (a - 1) a (a + 1) s = r at *
  rw [show ((a - 1 : Nat) : Int) = (a : Int) - 1 by omega, show ((a + 1 : Nat) : Int) = (a : Int) + 1 by omega] at h1
  have b0 : -9223372036854775808 ≤ (a : Int) - 1 := by omega
  have b1 : (a : Int) - 1 < 9223372036854775808 := by omega
  have b2 : (a : Int) + 1 < 9223372036854775808 := by omega
  go_enter Tryz.func108, Tryz.ntmps108
  go_wp2_with fail
  refine h1.mono ?_
  rintro e w1 ⟨rfl, H1⟩
  go_wp2_with fail
  go_ret
  exact ⟨rfl, H1⟩

/-- The hint's number. -/
def hintI : Hint → Int
  | .unknown => 0
  | .increasing => 1
  | .decreasing => 2

set_option maxHeartbeats 4000000 in
set_option maxRecDepth 100000 in
theorem pivot_any (W0 : World) (B g cap n a b : Nat) (d : Array Sp) (w : World) (hn : d.size = n) (hsz : n ≤ 1048576) (hab : a + 12 < b) (hb : b ≤ n) (hgw : g < W0.heap.size) (hS : Sw W0 B g cap d w) :
    Calls Tryz.prog 101 #[.slice (some ⟨g, 0, none⟩) n cap, .int .i64 (a : Int), .int .i64 (b : Int), ordV] w fun e w' => e = .returned (.tuple #[.int .i64 ((choosePivot ltS d a b).1 : Int), .int .i64 (hintI (choosePivot ltS d a b).2)]) ∧ Sw W0 B g cap d w' := by
  have HM := fun a b c cb s w (h1 : a < n) (h2 : b < n) (h3 : c < n) (h4 : s ≤ 900) h => median_any W0 B g cap n a b c cb s d w hn hsz h1 h2 h3 h4 h
  have HA := fun a cb s w (h1 : 1 ≤ a) (h2 : a + 1 < n) (h4 : s ≤ 900) h => medianAdj_any W0 B g cap n a cb s d w hn hsz h1 h2 h4 h
  unfold ordV at HM HA ⊢
  obtain ⟨l, hl⟩ : ∃ l : Nat, l = b - a := ⟨_, rfl⟩
  have hlI : (b : Int) - (a : Int) = (l : Int) := by omega
  obtain ⟨m, hm⟩ : ∃ m : Nat, m = l / 4 := ⟨_, rfl⟩
  have hmI : (l : Int).tdiv 4 = (m : Int) := by rw [hm]; simp
  obtain ⟨i, hi⟩ : ∃ i : Nat, i = a + m * 1 := ⟨_, rfl⟩
  obtain ⟨j, hj⟩ : ∃ i : Nat, i = a + m * 2 := ⟨_, rfl⟩
  obtain ⟨k, hk⟩ : ∃ i : Nat, i = a + m * 3 := ⟨_, rfl⟩
  have hiI : (a : Int) + (m : Int) = (i : Int) := by omega
  have hjI : (a : Int) + (m : Int) * 2 = (j : Int) := by omega
  have hkI : (a : Int) + (m : Int) * 3 = (k : Int) := by omega
  have w1 : IntKind.i64.wrap (m : Int) = (m : Int) := by rw [IntKind.wrap_i64]; omega
  have w2 : IntKind.i64.wrap ((m : Int) * 2) = (m : Int) * 2 := by rw [IntKind.wrap_i64]; omega
  have w3 : IntKind.i64.wrap ((m : Int) * 3) = (m : Int) * 3 := by rw [IntKind.wrap_i64]; omega
  have w4 : IntKind.i64.wrap (i : Int) = (i : Int) := by rw [IntKind.wrap_i64]; omega
  have w5 : IntKind.i64.wrap (j : Int) = (j : Int) := by rw [IntKind.wrap_i64]; omega
  have w6 : IntKind.i64.wrap (k : Int) = (k : Int) := by rw [IntKind.wrap_i64]; omega
  have w7 : IntKind.i64.wrap (l : Int) = (l : Int) := by rw [IntKind.wrap_i64]; omega
  have h8 : (8 : Int) ≤ (l : Int) := by omega
  have hC0 : Cn W0 B g cap d w.heap.size 0 (w.alloc (.cells #[.int .i64 0] 3)) := ⟨hS.on (below_alloc w _), by simp, by simp, hS.gr.size, hgw⟩
  have i1 : 1 ≤ i := by omega
  have i2 : i + 1 < n := by omega
  have j1 : 1 ≤ j := by omega
  have j2 : j + 1 < n := by omega
  have k1 : 1 ≤ k := by omega
  have k2 : k + 1 < n := by omega
  have HP : Hid (choosePivot ltS d a b = (let r : Nat × Nat := if l ≥ 50 then (let ri := medianAdjacent ltS d i 0; let rj := medianAdjacent ltS d j ri.2; let rk := medianAdjacent ltS d k rj.2; median ltS d ri.1 rj.1 rk.1 rk.2) else median ltS d i j k 0; (r.1, if r.2 = 0 then Hint.increasing else if r.2 = 12 then Hint.decreasing else Hint.unknown))) := by
    subst hk hj hi hm hl
    unfold Hid choosePivot
    simp only [show b - a ≥ 8 by omega, if_true]
  generalize choosePivot ltS d a b = cp at HP ⊢
  clear hl hm hi hj hk hS
  by_cases h50 : 50 ≤ l
  · have h50I : (50 : Int) ≤ (l : Int) := by omega
    have hi1 := median_in d (i - 1) i (i + 1) 0 n (by omega) (by omega) (by omega)
    have hA1 := HA i w.heap.size 0 _ i1 i2 (by omega) hC0
    simp only [if_pos (show l ≥ 50 from h50)] at HP
    have e1 : medianAdjacent ltS d i 0 = median ltS d (i - 1) i (i + 1) 0 := rfl
    rw [← e1] at hi1
    clear e1
    generalize medianAdjacent ltS d i 0 = r1 at HP hA1 hi1
    obtain ⟨p1, s1⟩ := r1
    simp only at HP hA1 hi1
    have hj1' := median_in d (j - 1) j (j + 1) s1 n (by omega) (by omega) (by omega)
    have hA2 := fun cb w => HA j cb s1 w j1 j2 (by omega)
    have e1 : medianAdjacent ltS d j s1 = median ltS d (j - 1) j (j + 1) s1 := rfl
    rw [← e1] at hj1'
    clear e1
    generalize medianAdjacent ltS d j s1 = r2 at HP hA2 hj1'
    obtain ⟨p2, s2⟩ := r2
    simp only at HP hA2 hj1'
    have hk1' := median_in d (k - 1) k (k + 1) s2 n (by omega) (by omega) (by omega)
    have hA3 := fun cb w => HA k cb s2 w k1 k2 (by omega)
    have e1 : medianAdjacent ltS d k s2 = median ltS d (k - 1) k (k + 1) s2 := rfl
    rw [← e1] at hk1'
    clear e1
    generalize medianAdjacent ltS d k s2 = r3 at HP hA3 hk1'
    obtain ⟨p3, s3⟩ := r3
    simp only at HP hA3 hk1'
    have hM1 := fun cb w => HM p1 p2 p3 cb s3 w hi1.1 hj1'.1 hk1'.1 (by omega)
    generalize median ltS d p1 p2 p3 s3 = r4 at HP hM1
    obtain ⟨p4, s4⟩ := r4
    simp only at HP hM1
    clear HM HA hi1 hj1' hk1'
    go_enter Tryz.func101, Tryz.ntmps101
    go_wp2_with fail
    refine hA1.mono ?_
    rintro e y1 ⟨rfl, C1⟩
    go_wp2_with fail
    refine (hA2 _ _ C1).mono ?_
    rintro e y2 ⟨rfl, C2⟩
    go_wp2_with fail
    refine (hA3 _ _ C2).mono ?_
    rintro e y3 ⟨rfl, C3⟩
    go_wp2_with fail
    refine (hM1 _ _ C3).mono ?_
    rintro e y4 ⟨rfl, C4⟩
    have c4 := C4.cell
    have HS4 : Hid _ := C4.sw
    clear C4
    by_cases h0 : s4 = 0
    · subst h0
      have HQ : Hid (cp = (p4, Hint.increasing)) := by unfold Hid; simpa using HP.out
      clear HP
      obtain rfl := HQ.out
      go_wp2_with fail
      exact bodyPost_ret (v := .tuple #[.int .i64 (p4 : Int), .int .i64 1]) (by simp [results, Tryz.results101, go_sem]) rfl ⟨rfl, HS4.out⟩
    · have h0I : ¬ (s4 : Int) = 0 := by omega
      by_cases h12 : s4 = 12
      · subst h12
        have HQ : Hid (cp = (p4, Hint.decreasing)) := by unfold Hid; simpa using HP.out
        clear HP
        obtain rfl := HQ.out
        go_wp2_with fail
        exact bodyPost_ret (v := .tuple #[.int .i64 (p4 : Int), .int .i64 2]) (by simp [results, Tryz.results101, go_sem]) rfl ⟨rfl, HS4.out⟩
      · have h12I : ¬ (s4 : Int) = 12 := by omega
        have HQ : Hid (cp = (p4, Hint.unknown)) := by unfold Hid; simpa [h0, h12] using HP.out
        clear HP
        obtain rfl := HQ.out
        go_wp2_with fail
        exact bodyPost_ret (v := .tuple #[.int .i64 (p4 : Int), .int .i64 0]) (by simp [results, Tryz.results101, go_sem]) rfl ⟨rfl, HS4.out⟩
  · have h50I : ¬ (50 : Int) ≤ (l : Int) := by omega
    simp only [if_neg (show ¬ l ≥ 50 from h50)] at HP
    have hM1 := HM i j k w.heap.size 0 _ (by omega) (by omega) (by omega) (by omega) hC0
    generalize median ltS d i j k 0 = r4 at HP hM1
    obtain ⟨p4, s4⟩ := r4
    simp only at HP hM1
    clear HM HA
    go_enter Tryz.func101, Tryz.ntmps101
    go_wp2_with fail
    refine hM1.mono ?_
    rintro e y4 ⟨rfl, C4⟩
    have c4 := C4.cell
    have HS4 : Hid _ := C4.sw
    clear C4
    by_cases h0 : s4 = 0
    · subst h0
      have HQ : Hid (cp = (p4, Hint.increasing)) := by unfold Hid; simpa using HP.out
      clear HP
      obtain rfl := HQ.out
      go_wp2_with fail
      exact bodyPost_ret (v := .tuple #[.int .i64 (p4 : Int), .int .i64 1]) (by simp [results, Tryz.results101, go_sem]) rfl ⟨rfl, HS4.out⟩
    · have h0I : ¬ (s4 : Int) = 0 := by omega
      by_cases h12 : s4 = 12
      · subst h12
        have HQ : Hid (cp = (p4, Hint.decreasing)) := by unfold Hid; simpa using HP.out
        clear HP
        obtain rfl := HQ.out
        go_wp2_with fail
        exact bodyPost_ret (v := .tuple #[.int .i64 (p4 : Int), .int .i64 2]) (by simp [results, Tryz.results101, go_sem]) rfl ⟨rfl, HS4.out⟩
      · have h12I : ¬ (s4 : Int) = 12 := by omega
        have HQ : Hid (cp = (p4, Hint.unknown)) := by unfold Hid; simpa [h0, h12] using HP.out
        clear HP
        obtain rfl := HQ.out
        go_wp2_with fail
        exact bodyPost_ret (v := .tuple #[.int .i64 (p4 : Int), .int .i64 0]) (by simp [results, Tryz.results101, go_sem]) rfl ⟨rfl, HS4.out⟩

end Go.Proofs.YtfnlnigeaioocaaGreat
