/- What partitionEqualCmpFunc does at stamps. -/
import Derived.Deep.CutBlock
import Derived.Test.YtfnlnigeaioocaaGreatQTakeKit
import Derived.Test.YtfnlnigeaioocaaGreatQSortIns
namespace Go.Proofs.YtfnlnigeaioocaaGreat
open Go.RowKit
open Go.Sort (swp insInner insOuter insertionSort siftDown heapBuild heapPop heapSort reverseLoop reverseRange)
set_option linter.unusedVariables false

open Go.Sort (scanUp scanDown partEqLoop partitionEqual)

set_option maxHeartbeats 8000000 in
set_option maxRecDepth 100000 in
theorem partEq_any (W0 : World) (B g cap n a b pivot : Nat) (d : Array Sp) (w : World) (hn : d.size = n) (hsz : n ≤ 1048576) (hab : a + 1 < b) (hb : b ≤ n) (hp0 : a ≤ pivot) (hp1 : pivot < b) (hS : Sw W0 B g cap d w) :
    Calls Tryz.prog 104 #[.slice (some ⟨g, 0, none⟩) n cap, .int .i64 (a : Int), .int .i64 (b : Int), .int .i64 (pivot : Int), ordV] w fun e w' => e = .returned (.int .i64 ((partitionEqual ltS d a b pivot).1 : Int)) ∧ Sw W0 B g cap (partitionEqual ltS d a b pivot).2 w' := by
  unfold ordV partitionEqual
  have a0 : (0 : Int) ≤ (a : Int) := by omega
  have a1 : (a : Int) < (n : Int) := by omega
  have p0 : (0 : Int) ≤ (pivot : Int) := by omega
  have p1 : (pivot : Int) < (n : Int) := by omega
  have HS : Hid _ := hS
  clear hS
  obtain ⟨b1, hb1⟩ : ∃ b1 : Nat, b1 = b - 1 := ⟨_, rfl⟩
  have hb1I : (b : Int) - 1 = (b1 : Int) := by omega
  rw [← hb1]
  have hbb : b1 + 1 = b := by omega
  have HBB : Hid _ := hbb
  have a2 : (a : Int) + 1 < 9223372036854775808 := by omega
  have hbn : b1 < n := by omega
  have han : a < n := by omega
  have hab1 : a < b1 := by omega
  clear hb1 hbb
  go_enter Tryz.func104, Tryz.ntmps104
  go_upto_region 1 with fail
  go_cut [26] from 13 to 26 (fun tt wx => Hid (Sw W0 B g cap (swp d a pivot) wx))
  case first =>
    have hxy := cmp_lt d[a]! d[pivot]!
    obtain ⟨x0, x1⟩ := HS.out.at (i := a) (by omega)
    obtain ⟨y0, y1⟩ := HS.out.at (i := pivot) (by omega)
    have HWW : Hid _ := fun w' (h : Sw W0 B g cap d w') => h.swp (i := a) (j := pivot) (by omega) (by omega)
    obtain ⟨⟨xt, xa⟩, hx⟩ : ∃ x, d[a]! = x := ⟨_, rfl⟩
    obtain ⟨⟨yt, ya⟩, hy⟩ : ∃ x, d[pivot]! = x := ⟨_, rfl⟩
    rw [hx, hy] at hxy HWW
    rw [hx] at x0 x1
    rw [hy] at y0 y1
    simp only at x0 x1 y0 y1 hxy
    have hC := fun w => order_any xt xa yt ya w
    generalize cmpS xt xa yt ya = r at hC hxy
    clear hxy hC
    have hSd := (swDrew HS).out
    obtain ⟨x0, x1⟩ := hSd.at (i := a) (by omega)
    obtain ⟨y0, y1⟩ := hSd.at (i := pivot) (by omega)
    rw [hx] at x0 x1
    rw [hy] at y0 y1
    obtain ⟨u0, u1, u2, u3, ⟨e0, f0⟩, ⟨e1, f1⟩, ⟨e2, f2⟩, ⟨e3, f3⟩⟩ := HS.out.steps (i := a) (j := pivot) (by omega) (by omega) (.int .i64 yt) (.int .i64 ya) (.int .i64 xt)
    have HF : Hid (Sw W0 B g cap (swp d a pivot) ((((w.setCell ⟨g, a * 2, none⟩ (.int .i64 yt)).setCell ⟨g, a * 2 + 1, none⟩ (.int .i64 ya)).setCell ⟨g, pivot * 2, none⟩ (.int .i64 xt)).setCell ⟨g, pivot * 2 + 1, none⟩ (.int .i64 xa)).drew) := HWW.out _ hSd
    simp only at x0 x1 y0 y1
    clear hSd hx hy e0
    refine wp_region_held_drew (S := fun w' => True) (by kernel_rfl) trivial (fun hHeld => ?_)
    refine tkH 0 ((.slice (some ⟨g, 0, none⟩) n cap)) rfl (Or.inl ⟨by rfl, by intro w hSw; go_simp⟩) hHeld ?_
    simp only [tkS, Act.put]
    refine tkH 1 ((.int .i64 (a : Int))) rfl (Or.inl ⟨by rfl, by intro w hSw; go_simp⟩) hHeld ?_
    simp only [tkS, Act.put]
    refine tkH 2 ((.slice (some ⟨g, 0, none⟩) n cap)) rfl (Or.inl ⟨by rfl, by intro w hSw; go_simp⟩) hHeld ?_
    simp only [tkS, Act.put]
    refine tkH 3 ((.int .i64 (pivot : Int))) rfl (Or.inl ⟨by rfl, by intro w hSw; go_simp⟩) hHeld ?_
    simp only [tkS, Act.put]
    refine tkH 4 ((.slice (some ⟨g, 0, none⟩) n cap)) rfl (Or.inl ⟨by rfl, by intro w hSw; go_simp⟩) hHeld ?_
    simp only [tkS, Act.put]
    refine tkH 5 ((.int .i64 (pivot : Int))) rfl (Or.inl ⟨by rfl, by intro w hSw; go_simp⟩) hHeld ?_
    simp only [tkS, Act.put]
    refine tkH 6 ((.pointer (some ⟨g, pivot * 2, none⟩))) rfl (Or.inl ⟨by rfl, by intro w hSw; go_simp⟩) hHeld ?_
    simp only [tkS, Act.put]
    refine tkH 8 ((.slice (some ⟨g, 0, none⟩) n cap)) rfl (Or.inl ⟨by rfl, by intro w hSw; go_simp⟩) hHeld ?_
    simp only [tkS, Act.put]
    refine tkH 9 ((.int .i64 (a : Int))) rfl (Or.inl ⟨by rfl, by intro w hSw; go_simp⟩) hHeld ?_
    simp only [tkS, Act.put]
    refine tkH 10 ((.pointer (some ⟨g, a * 2, none⟩))) rfl (Or.inl ⟨by rfl, by intro w hSw; go_simp⟩) hHeld ?_
    simp only [tkS, Act.put]
    refine wpAnyH_ready (rs := [7, 11]) (by kernel_rfl) (by simp) ?_
    refine AllReadyH.cons rfl (fun K hK => ?wayA1) (AllReadyH.cons rfl (fun K hK => ?wayB1) AllReadyH.nil)
    case' wayA1 =>
      go_simp
      refine hK.out _ _ trivial (fun hHeld1 => ?_)
      clear hK K
      refine wpAnyH_ready (rs := [11]) (by kernel_rfl) (by simp) ?_
      refine AllReadyH.cons rfl (fun K hK => ?_) AllReadyH.nil
      go_simp
      refine hK.out _ _ trivial (fun hHeld2 => ?_)
      clear hK K
    case' wayB1 =>
      go_simp
      refine hK.out _ _ trivial (fun hHeld1 => ?_)
      clear hK K
      refine wpAnyH_ready (rs := [7]) (by kernel_rfl) (by simp) ?_
      refine AllReadyH.cons rfl (fun K hK => ?_) AllReadyH.nil
      go_simp
      refine hK.out _ _ trivial (fun hHeld2 => ?_)
      clear hK K
    all_goals
      refine wpAnyH_take (i := 12) (v := (.pointer (some ⟨g, a * 2, none⟩))) rfl (by kernel_rfl) (by kernel_rfl) (by kernel_rfl) (fun _ _ _ h => h) (Or.inl ⟨by rfl, by intro w hSw; go_simp⟩) hHeld2 ?_
      simp only [tkS, Act.put]
      refine wpAnyH_ready (rs := [13]) (by kernel_rfl) (by simp) ?_
      refine AllReadyH.cons rfl (fun K hK => ?_) AllReadyH.nil
      go_simp
      refine hK.out _ _ trivial (fun hHeld3 => ?_)
      clear hK K
      refine wpAnyH_take (i := 14) (v := (.pointer (some ⟨g, pivot * 2, none⟩))) rfl (by kernel_rfl) (by kernel_rfl) (by kernel_rfl) (fun _ _ _ h => h) (Or.inl ⟨by rfl, by intro w hSw; go_simp⟩) hHeld3 ?_
      simp only [tkS, Act.put]
      refine wpAnyH_ready (rs := [15]) (by kernel_rfl) (by simp) ?_
      refine AllReadyH.cons rfl (fun K hK => ?_) AllReadyH.nil
      go_simp
      refine hK.out _ _ trivial (fun hHeld4 => ?_)
      clear hK K
      refine wpAnyH_done (by kernel_rfl) ?_ _
    all_goals
      go_wp2_with fail
      go_meet
      case rel => exact HF
  case rest =>
    replace HS := hcut
    clear hcut
    have hn1 : (swp d a pivot).size = n := by rw [swp_size]; exact hn
    obtain ⟨d1, hd1⟩ : ∃ d1, swp d a pivot = d1 := ⟨_, rfl⟩
    rw [hd1] at HS hn1
    have HD1 : Hid _ := hd1
    clear hd1
    go_wp2_with fail
    go_loopw [11, 12] (fun t11 t12 wr => ∃ (i j : Nat) (dk : Array Sp), t11 = .int .i64 (i : Int) ∧ t12 = .int .i64 (j : Int) ∧ a + 1 ≤ i ∧ i ≤ n ∧ j < n ∧ dk.size = n ∧ Hid (Sw W0 B g cap dk wr) ∧ Hid (partEqLoop ltS a i j dk = partEqLoop ltS a (a + 1) b1 d1)) (fun t11 t12 _ => (intOf t12 + 1).toNat - (intOf t11).toNat)
    case atStart => exact ⟨a + 1, b1, d1, by go_num, rfl, Nat.le_refl _, by omega, hbn, hn1, HS, rfl⟩
    case round =>
      clear HS
      obtain ⟨i, j, dk, rfl, rfl, hi0, hi1, hj, hdk, HS, HE⟩ := hrel
      go_upto_block 2 with fail
      go_cut [11] from 31 to 49 (fun tt wx => ∃ m : Nat, tt = .int .i64 (m : Int) ∧ i ≤ m ∧ m ≤ (max i j) + 1 ∧ Hid (scanUp (fun x => !ltS dk[a]! x) dk j i = m) ∧ Hid (Sw W0 B g cap dk wx))
      case first =>
        go_wp2_with fail
        go_loopw [11] (fun tt wx => ∃ m : Nat, tt = .int .i64 (m : Int) ∧ i ≤ m ∧ m ≤ max i j + 1 ∧ Hid (scanUp (fun x => !ltS dk[a]! x) dk j m = scanUp (fun x => !ltS dk[a]! x) dk j i) ∧ Hid (Sw W0 B g cap dk wx)) (fun tt _ => (j + 1) - (intOf tt).toNat)
        case atStart => exact ⟨i, rfl, Nat.le_refl _, by omega, rfl, HS⟩
        case round =>
          clear HS
          obtain ⟨m, rfl, hm0, hm1, HM, HS⟩ := hrel
          by_cases hmj : m ≤ j
          · have hmjI : (m : Int) ≤ (j : Int) := by omega
            have m0 : (0 : Int) ≤ (m : Int) := by omega
            have m1 : (m : Int) < (n : Int) := by omega
            have m2 : (m : Int) + 1 < 9223372036854775808 := by omega
            have HU : Hid ((ltS dk[a]! dk[m]! = false → scanUp (fun x => !ltS dk[a]! x) dk j m = scanUp (fun x => !ltS dk[a]! x) dk j (m + 1)) ∧ (ltS dk[a]! dk[m]! = true → scanUp (fun x => !ltS dk[a]! x) dk j m = m)) := by
              refine ⟨fun h => ?_, fun h => ?_⟩
              · rw [scanUp, if_pos (by simp [hmj, h])]
              · rw [scanUp, if_neg (by simp [h])]
            have hxy := cmp_lt dk[a]! dk[m]!
            obtain ⟨x0, x1⟩ := HS.out.at (i := a) (by omega)
            obtain ⟨y0, y1⟩ := HS.out.at (i := m) (by omega)
            have HWW : Hid _ := fun w' (h : Sw W0 B g cap dk w') => h.swp (i := a) (j := m) (by omega) (by omega)
            obtain ⟨⟨xt, xa⟩, hx⟩ : ∃ x, dk[a]! = x := ⟨_, rfl⟩
            obtain ⟨⟨yt, ya⟩, hy⟩ : ∃ x, dk[m]! = x := ⟨_, rfl⟩
            rw [hx, hy] at hxy HWW
            rw [hx] at x0 x1
            rw [hy] at y0 y1
            simp only at x0 x1 y0 y1 hxy
            have hC := fun w => order_any xt xa yt ya w
            generalize cmpS xt xa yt ya = r at hC hxy
            rcases hxy with ⟨hr, hl⟩ | ⟨hr, hl⟩
            · have HN : Hid _ := HU.out.2 (by rw [hx, hy]; exact hl)
              clear hl HU HWW hx hy
              go_wp2_with fail
              refine wp_region_held_drew (S := fun w' => w'.cell? ⟨g, a * 2, none⟩ = some (.int .i64 xt) ∧ w'.cell? ⟨g, a * 2 + 1, none⟩ = some (.int .i64 xa) ∧ w'.cell? ⟨g, m * 2, none⟩ = some (.int .i64 yt) ∧ w'.cell? ⟨g, m * 2 + 1, none⟩ = some (.int .i64 ya)) (by kernel_rfl) ⟨x0, x1, y0, y1⟩ (fun hHeld => ?_)
              refine tkH 0 ((.int .i64 (m : Int))) rfl (Or.inl ⟨by rfl, by intro w hSw; obtain ⟨s0, s1, s2, s3⟩ := hSw; go_simp⟩) hHeld ?_
              simp only [tkS, Act.put]
              refine tkH 1 ((.int .i64 (j : Int))) rfl (Or.inl ⟨by rfl, by intro w hSw; obtain ⟨s0, s1, s2, s3⟩ := hSw; go_simp⟩) hHeld ?_
              simp only [tkS, Act.put]
              refine tkH 2 ((.bool true)) rfl (Or.inl ⟨by rfl, by intro w hSw; obtain ⟨s0, s1, s2, s3⟩ := hSw; go_simp⟩) hHeld ?_
              simp only [tkS, Act.put]
              refine tkH 3 ((.bool true)) rfl (Or.inl ⟨by rfl, by intro w hSw; obtain ⟨s0, s1, s2, s3⟩ := hSw; go_simp⟩) hHeld ?_
              simp only [tkS, Act.put]
              refine tkH 4 ((.func (.func 53) #[.agg #[]] #[])) rfl (Or.inl ⟨by rfl, by intro w hSw; obtain ⟨s0, s1, s2, s3⟩ := hSw; go_simp⟩) hHeld ?_
              simp only [tkS, Act.put]
              refine tkH 5 ((.slice (some ⟨g, 0, none⟩) n cap)) rfl (Or.inl ⟨by rfl, by intro w hSw; obtain ⟨s0, s1, s2, s3⟩ := hSw; go_simp⟩) hHeld ?_
              simp only [tkS, Act.put]
              refine tkH 6 ((.int .i64 (a : Int))) rfl (Or.inl ⟨by rfl, by intro w hSw; obtain ⟨s0, s1, s2, s3⟩ := hSw; go_simp⟩) hHeld ?_
              simp only [tkS, Act.put]
              refine tkH 7 ((.pointer (some ⟨g, a * 2, none⟩))) rfl (Or.inl ⟨by rfl, by intro w hSw; obtain ⟨s0, s1, s2, s3⟩ := hSw; go_simp⟩) hHeld ?_
              simp only [tkS, Act.put]
              refine tkH 8 ((.agg #[.int .i64 xt, .int .i64 xa])) rfl (Or.inl ⟨by rfl, by intro w hSw; obtain ⟨s0, s1, s2, s3⟩ := hSw; go_simp⟩) hHeld ?_
              simp only [tkS, Act.put]
              refine tkH 9 ((.slice (some ⟨g, 0, none⟩) n cap)) rfl (Or.inl ⟨by rfl, by intro w hSw; obtain ⟨s0, s1, s2, s3⟩ := hSw; go_simp⟩) hHeld ?_
              simp only [tkS, Act.put]
              refine tkH 10 ((.int .i64 (m : Int))) rfl (Or.inl ⟨by rfl, by intro w hSw; obtain ⟨s0, s1, s2, s3⟩ := hSw; go_simp⟩) hHeld ?_
              simp only [tkS, Act.put]
              refine tkH 11 ((.pointer (some ⟨g, m * 2, none⟩))) rfl (Or.inl ⟨by rfl, by intro w hSw; obtain ⟨s0, s1, s2, s3⟩ := hSw; go_simp⟩) hHeld ?_
              simp only [tkS, Act.put]
              refine tkH 12 ((.agg #[.int .i64 yt, .int .i64 ya])) rfl (Or.inl ⟨by rfl, by intro w hSw; obtain ⟨s0, s1, s2, s3⟩ := hSw; go_simp⟩) hHeld ?_
              simp only [tkS, Act.put]
              refine wpAnyH_ready (rs := [13]) (by kernel_rfl) (by simp) ?_
              refine AllReadyH.cons rfl (fun K hK => ?_) AllReadyH.nil
              go_simp
              refine (hC _).mono ?_
              rintro e w2 ⟨rfl, hb2⟩
              go_wp2_with fail
              refine hK.out _ _ ⟨cell_on hb2 hHeld.1, cell_on hb2 hHeld.2.1, cell_on hb2 hHeld.2.2.1, cell_on hb2 hHeld.2.2.2⟩ (fun hHeld2 => ?_)
              clear hK K
              replace HS := swOn (swDrew HS) hb2
              clear hb2 x0 x1 y0 y1
              refine wpAnyH_take (i := 14) (v := (.bool true)) rfl (by kernel_rfl) (by kernel_rfl) (by kernel_rfl) (fun _ _ _ h => h) (Or.inl ⟨by rfl, by intro w hSw; obtain ⟨s0, s1, s2, s3⟩ := hSw; go_simp⟩) hHeld2 ?_
              simp only [tkS, Act.put]
              refine wpAnyH_take (i := 15) (v := (.bool false)) rfl (by kernel_rfl) (by kernel_rfl) (by kernel_rfl) (fun _ _ _ h => h) (Or.inl ⟨by rfl, by intro w hSw; obtain ⟨s0, s1, s2, s3⟩ := hSw; go_simp⟩) hHeld2 ?_
              simp only [tkS, Act.put]
              refine wpAnyH_take (i := 16) (v := (.bool false)) rfl (by kernel_rfl) (by kernel_rfl) (by kernel_rfl) (fun _ _ _ h => h) (Or.inl ⟨by rfl, by intro w hSw; obtain ⟨s0, s1, s2, s3⟩ := hSw; go_simp⟩) hHeld2 ?_
              simp only [tkS, Act.put]
              refine wpAnyH_done (by kernel_rfl) ?_ _
              clear hHeld hHeld2
              go_wp2_with fail
              go_meet
              case rel => exact ⟨m, rfl, hm0, hm1, by unfold Hid; rw [← HM.out, HN.out], HS⟩
            · have HN : Hid _ := HU.out.1 (by rw [hx, hy]; exact hl)
              clear hl HU HWW hx hy
              go_wp2_with fail
              refine wp_region_held_drew (S := fun w' => w'.cell? ⟨g, a * 2, none⟩ = some (.int .i64 xt) ∧ w'.cell? ⟨g, a * 2 + 1, none⟩ = some (.int .i64 xa) ∧ w'.cell? ⟨g, m * 2, none⟩ = some (.int .i64 yt) ∧ w'.cell? ⟨g, m * 2 + 1, none⟩ = some (.int .i64 ya)) (by kernel_rfl) ⟨x0, x1, y0, y1⟩ (fun hHeld => ?_)
              refine tkH 0 ((.int .i64 (m : Int))) rfl (Or.inl ⟨by rfl, by intro w hSw; obtain ⟨s0, s1, s2, s3⟩ := hSw; go_simp⟩) hHeld ?_
              simp only [tkS, Act.put]
              refine tkH 1 ((.int .i64 (j : Int))) rfl (Or.inl ⟨by rfl, by intro w hSw; obtain ⟨s0, s1, s2, s3⟩ := hSw; go_simp⟩) hHeld ?_
              simp only [tkS, Act.put]
              refine tkH 2 ((.bool true)) rfl (Or.inl ⟨by rfl, by intro w hSw; obtain ⟨s0, s1, s2, s3⟩ := hSw; go_simp⟩) hHeld ?_
              simp only [tkS, Act.put]
              refine tkH 3 ((.bool true)) rfl (Or.inl ⟨by rfl, by intro w hSw; obtain ⟨s0, s1, s2, s3⟩ := hSw; go_simp⟩) hHeld ?_
              simp only [tkS, Act.put]
              refine tkH 4 ((.func (.func 53) #[.agg #[]] #[])) rfl (Or.inl ⟨by rfl, by intro w hSw; obtain ⟨s0, s1, s2, s3⟩ := hSw; go_simp⟩) hHeld ?_
              simp only [tkS, Act.put]
              refine tkH 5 ((.slice (some ⟨g, 0, none⟩) n cap)) rfl (Or.inl ⟨by rfl, by intro w hSw; obtain ⟨s0, s1, s2, s3⟩ := hSw; go_simp⟩) hHeld ?_
              simp only [tkS, Act.put]
              refine tkH 6 ((.int .i64 (a : Int))) rfl (Or.inl ⟨by rfl, by intro w hSw; obtain ⟨s0, s1, s2, s3⟩ := hSw; go_simp⟩) hHeld ?_
              simp only [tkS, Act.put]
              refine tkH 7 ((.pointer (some ⟨g, a * 2, none⟩))) rfl (Or.inl ⟨by rfl, by intro w hSw; obtain ⟨s0, s1, s2, s3⟩ := hSw; go_simp⟩) hHeld ?_
              simp only [tkS, Act.put]
              refine tkH 8 ((.agg #[.int .i64 xt, .int .i64 xa])) rfl (Or.inl ⟨by rfl, by intro w hSw; obtain ⟨s0, s1, s2, s3⟩ := hSw; go_simp⟩) hHeld ?_
              simp only [tkS, Act.put]
              refine tkH 9 ((.slice (some ⟨g, 0, none⟩) n cap)) rfl (Or.inl ⟨by rfl, by intro w hSw; obtain ⟨s0, s1, s2, s3⟩ := hSw; go_simp⟩) hHeld ?_
              simp only [tkS, Act.put]
              refine tkH 10 ((.int .i64 (m : Int))) rfl (Or.inl ⟨by rfl, by intro w hSw; obtain ⟨s0, s1, s2, s3⟩ := hSw; go_simp⟩) hHeld ?_
              simp only [tkS, Act.put]
              refine tkH 11 ((.pointer (some ⟨g, m * 2, none⟩))) rfl (Or.inl ⟨by rfl, by intro w hSw; obtain ⟨s0, s1, s2, s3⟩ := hSw; go_simp⟩) hHeld ?_
              simp only [tkS, Act.put]
              refine tkH 12 ((.agg #[.int .i64 yt, .int .i64 ya])) rfl (Or.inl ⟨by rfl, by intro w hSw; obtain ⟨s0, s1, s2, s3⟩ := hSw; go_simp⟩) hHeld ?_
              simp only [tkS, Act.put]
              refine wpAnyH_ready (rs := [13]) (by kernel_rfl) (by simp) ?_
              refine AllReadyH.cons rfl (fun K hK => ?_) AllReadyH.nil
              go_simp
              refine (hC _).mono ?_
              rintro e w2 ⟨rfl, hb2⟩
              go_wp2_with fail
              refine hK.out _ _ ⟨cell_on hb2 hHeld.1, cell_on hb2 hHeld.2.1, cell_on hb2 hHeld.2.2.1, cell_on hb2 hHeld.2.2.2⟩ (fun hHeld2 => ?_)
              clear hK K
              replace HS := swOn (swDrew HS) hb2
              clear hb2 x0 x1 y0 y1
              refine wpAnyH_take (i := 14) (v := (.bool false)) rfl (by kernel_rfl) (by kernel_rfl) (by kernel_rfl) (fun _ _ _ h => h) (Or.inl ⟨by rfl, by intro w hSw; obtain ⟨s0, s1, s2, s3⟩ := hSw; go_simp⟩) hHeld2 ?_
              simp only [tkS, Act.put]
              refine wpAnyH_take (i := 15) (v := (.bool true)) rfl (by kernel_rfl) (by kernel_rfl) (by kernel_rfl) (fun _ _ _ h => h) (Or.inl ⟨by rfl, by intro w hSw; obtain ⟨s0, s1, s2, s3⟩ := hSw; go_simp⟩) hHeld2 ?_
              simp only [tkS, Act.put]
              refine wpAnyH_take (i := 16) (v := (.bool true)) rfl (by kernel_rfl) (by kernel_rfl) (by kernel_rfl) (fun _ _ _ h => h) (Or.inl ⟨by rfl, by intro w hSw; obtain ⟨s0, s1, s2, s3⟩ := hSw; go_simp⟩) hHeld2 ?_
              simp only [tkS, Act.put]
              refine wpAnyH_done (by kernel_rfl) ?_ _
              clear hHeld hHeld2
              go_wp2_with fail
              go_roundw
              case rel => exact ⟨m + 1, by go_num, by omega, by omega, by unfold Hid; rw [← HM.out, HN.out], HS⟩
              case measure => simp [intOf]; omega
          · have hmjI : ¬ (m : Int) ≤ (j : Int) := by omega
            have HN : Hid (scanUp (fun x => !ltS dk[a]! x) dk j m = m) := by
              unfold Hid
              rw [scanUp, if_neg (by simp [hmj])]
            go_wp2_with fail
            go_quiet (fail)
            go_wp2_with fail
            go_meet
            case rel => exact ⟨m, rfl, hm0, hm1, by unfold Hid; rw [← HM.out, HN.out], swDrewN HS nq⟩
      case rest =>
        clear HS
        obtain ⟨i2, rfl, hi2, hi3, HI2, HS⟩ := hcut
        go_upto_block 4 with fail
        go_cut [12] from 50 to 67 (fun tt wx => ∃ m : Nat, tt = .int .i64 (m : Int) ∧ m ≤ j ∧ Hid (scanDown (fun x => ltS dk[a]! x) dk i2 j = m) ∧ Hid (Sw W0 B g cap dk wx))
        case first =>
          go_wp2_with fail
          go_loopw [12] (fun tt wx => ∃ m : Nat, tt = .int .i64 (m : Int) ∧ m ≤ j ∧ Hid (scanDown (fun x => ltS dk[a]! x) dk i2 m = scanDown (fun x => ltS dk[a]! x) dk i2 j) ∧ Hid (Sw W0 B g cap dk wx)) (fun tt _ => (intOf tt).toNat)
          case atStart => exact ⟨j, rfl, Nat.le_refl _, rfl, HS⟩
          case round =>
            clear HS
            obtain ⟨m, rfl, hm0, HM, HS⟩ := hrel
            by_cases hmj : i2 ≤ m
            · have hmjI : (i2 : Int) ≤ (m : Int) := by omega
              have m0 : (0 : Int) ≤ (m : Int) := by omega
              have m1 : (m : Int) < (n : Int) := by omega
              obtain ⟨m', hm'⟩ : ∃ m', m = m' + 1 := ⟨m - 1, by omega⟩
              have hm'I : (m : Int) - 1 = (m' : Int) := by omega
              have HU : Hid ((ltS dk[a]! dk[m]! = true → scanDown (fun x => ltS dk[a]! x) dk i2 m = scanDown (fun x => ltS dk[a]! x) dk i2 m') ∧ (ltS dk[a]! dk[m]! = false → scanDown (fun x => ltS dk[a]! x) dk i2 m = m)) := by
                subst hm'
                refine ⟨fun h => ?_, fun h => ?_⟩
                · rw [scanDown, if_pos (by simp [hmj, h])]
                · rw [scanDown, if_neg (by simp [h])]
              have HM' : Hid (m = m' + 1) := hm'
              clear hm'
              have hxy := cmp_lt dk[a]! dk[m]!
              obtain ⟨x0, x1⟩ := HS.out.at (i := a) (by omega)
              obtain ⟨y0, y1⟩ := HS.out.at (i := m) (by omega)
              have HWW : Hid _ := fun w' (h : Sw W0 B g cap dk w') => h.swp (i := a) (j := m) (by omega) (by omega)
              obtain ⟨⟨xt, xa⟩, hx⟩ : ∃ x, dk[a]! = x := ⟨_, rfl⟩
              obtain ⟨⟨yt, ya⟩, hy⟩ : ∃ x, dk[m]! = x := ⟨_, rfl⟩
              rw [hx, hy] at hxy HWW
              rw [hx] at x0 x1
              rw [hy] at y0 y1
              simp only at x0 x1 y0 y1 hxy
              have hC := fun w => order_any xt xa yt ya w
              generalize cmpS xt xa yt ya = r at hC hxy
              rcases hxy with ⟨hr, hl⟩ | ⟨hr, hl⟩
              · have HN : Hid _ := HU.out.1 (by rw [hx, hy]; exact hl)
                clear hl HU HWW hx hy
                go_wp2_with fail
                refine wp_region_held_drew (S := fun w' => w'.cell? ⟨g, a * 2, none⟩ = some (.int .i64 xt) ∧ w'.cell? ⟨g, a * 2 + 1, none⟩ = some (.int .i64 xa) ∧ w'.cell? ⟨g, m * 2, none⟩ = some (.int .i64 yt) ∧ w'.cell? ⟨g, m * 2 + 1, none⟩ = some (.int .i64 ya)) (by kernel_rfl) ⟨x0, x1, y0, y1⟩ (fun hHeld => ?_)
                refine tkH 0 ((.int .i64 (i2 : Int))) rfl (Or.inl ⟨by rfl, by intro w hSw; obtain ⟨s0, s1, s2, s3⟩ := hSw; go_simp⟩) hHeld ?_
                simp only [tkS, Act.put]
                refine tkH 1 ((.int .i64 (m : Int))) rfl (Or.inl ⟨by rfl, by intro w hSw; obtain ⟨s0, s1, s2, s3⟩ := hSw; go_simp⟩) hHeld ?_
                simp only [tkS, Act.put]
                refine tkH 2 ((.bool true)) rfl (Or.inl ⟨by rfl, by intro w hSw; obtain ⟨s0, s1, s2, s3⟩ := hSw; go_simp⟩) hHeld ?_
                simp only [tkS, Act.put]
                refine tkH 3 ((.bool true)) rfl (Or.inl ⟨by rfl, by intro w hSw; obtain ⟨s0, s1, s2, s3⟩ := hSw; go_simp⟩) hHeld ?_
                simp only [tkS, Act.put]
                refine tkH 4 ((.func (.func 53) #[.agg #[]] #[])) rfl (Or.inl ⟨by rfl, by intro w hSw; obtain ⟨s0, s1, s2, s3⟩ := hSw; go_simp⟩) hHeld ?_
                simp only [tkS, Act.put]
                refine tkH 5 ((.slice (some ⟨g, 0, none⟩) n cap)) rfl (Or.inl ⟨by rfl, by intro w hSw; obtain ⟨s0, s1, s2, s3⟩ := hSw; go_simp⟩) hHeld ?_
                simp only [tkS, Act.put]
                refine tkH 6 ((.int .i64 (a : Int))) rfl (Or.inl ⟨by rfl, by intro w hSw; obtain ⟨s0, s1, s2, s3⟩ := hSw; go_simp⟩) hHeld ?_
                simp only [tkS, Act.put]
                refine tkH 7 ((.pointer (some ⟨g, a * 2, none⟩))) rfl (Or.inl ⟨by rfl, by intro w hSw; obtain ⟨s0, s1, s2, s3⟩ := hSw; go_simp⟩) hHeld ?_
                simp only [tkS, Act.put]
                refine tkH 8 ((.agg #[.int .i64 xt, .int .i64 xa])) rfl (Or.inl ⟨by rfl, by intro w hSw; obtain ⟨s0, s1, s2, s3⟩ := hSw; go_simp⟩) hHeld ?_
                simp only [tkS, Act.put]
                refine tkH 9 ((.slice (some ⟨g, 0, none⟩) n cap)) rfl (Or.inl ⟨by rfl, by intro w hSw; obtain ⟨s0, s1, s2, s3⟩ := hSw; go_simp⟩) hHeld ?_
                simp only [tkS, Act.put]
                refine tkH 10 ((.int .i64 (m : Int))) rfl (Or.inl ⟨by rfl, by intro w hSw; obtain ⟨s0, s1, s2, s3⟩ := hSw; go_simp⟩) hHeld ?_
                simp only [tkS, Act.put]
                refine tkH 11 ((.pointer (some ⟨g, m * 2, none⟩))) rfl (Or.inl ⟨by rfl, by intro w hSw; obtain ⟨s0, s1, s2, s3⟩ := hSw; go_simp⟩) hHeld ?_
                simp only [tkS, Act.put]
                refine tkH 12 ((.agg #[.int .i64 yt, .int .i64 ya])) rfl (Or.inl ⟨by rfl, by intro w hSw; obtain ⟨s0, s1, s2, s3⟩ := hSw; go_simp⟩) hHeld ?_
                simp only [tkS, Act.put]
                refine wpAnyH_ready (rs := [13]) (by kernel_rfl) (by simp) ?_
                refine AllReadyH.cons rfl (fun K hK => ?_) AllReadyH.nil
                go_simp
                refine (hC _).mono ?_
                rintro e w2 ⟨rfl, hb2⟩
                go_wp2_with fail
                refine hK.out _ _ ⟨cell_on hb2 hHeld.1, cell_on hb2 hHeld.2.1, cell_on hb2 hHeld.2.2.1, cell_on hb2 hHeld.2.2.2⟩ (fun hHeld2 => ?_)
                clear hK K
                replace HS := swOn (swDrew HS) hb2
                clear hb2 x0 x1 y0 y1
                refine wpAnyH_take (i := 14) (v := (.bool true)) rfl (by kernel_rfl) (by kernel_rfl) (by kernel_rfl) (fun _ _ _ h => h) (Or.inl ⟨by rfl, by intro w hSw; obtain ⟨s0, s1, s2, s3⟩ := hSw; go_simp⟩) hHeld2 ?_
                simp only [tkS, Act.put]
                refine wpAnyH_take (i := 15) (v := (.bool true)) rfl (by kernel_rfl) (by kernel_rfl) (by kernel_rfl) (fun _ _ _ h => h) (Or.inl ⟨by rfl, by intro w hSw; obtain ⟨s0, s1, s2, s3⟩ := hSw; go_simp⟩) hHeld2 ?_
                simp only [tkS, Act.put]
                refine wpAnyH_done (by kernel_rfl) ?_ _
                clear hHeld hHeld2
                go_wp2_with fail
                go_roundw
                case rel => exact ⟨m', by go_num, by have := HM'.out; omega, by unfold Hid; rw [← HM.out, HN.out], HS⟩
                case measure => have := HM'.out; simp [intOf]; omega
              · have HN : Hid _ := HU.out.2 (by rw [hx, hy]; exact hl)
                clear hl HU HWW hx hy
                go_wp2_with fail
                refine wp_region_held_drew (S := fun w' => w'.cell? ⟨g, a * 2, none⟩ = some (.int .i64 xt) ∧ w'.cell? ⟨g, a * 2 + 1, none⟩ = some (.int .i64 xa) ∧ w'.cell? ⟨g, m * 2, none⟩ = some (.int .i64 yt) ∧ w'.cell? ⟨g, m * 2 + 1, none⟩ = some (.int .i64 ya)) (by kernel_rfl) ⟨x0, x1, y0, y1⟩ (fun hHeld => ?_)
                refine tkH 0 ((.int .i64 (i2 : Int))) rfl (Or.inl ⟨by rfl, by intro w hSw; obtain ⟨s0, s1, s2, s3⟩ := hSw; go_simp⟩) hHeld ?_
                simp only [tkS, Act.put]
                refine tkH 1 ((.int .i64 (m : Int))) rfl (Or.inl ⟨by rfl, by intro w hSw; obtain ⟨s0, s1, s2, s3⟩ := hSw; go_simp⟩) hHeld ?_
                simp only [tkS, Act.put]
                refine tkH 2 ((.bool true)) rfl (Or.inl ⟨by rfl, by intro w hSw; obtain ⟨s0, s1, s2, s3⟩ := hSw; go_simp⟩) hHeld ?_
                simp only [tkS, Act.put]
                refine tkH 3 ((.bool true)) rfl (Or.inl ⟨by rfl, by intro w hSw; obtain ⟨s0, s1, s2, s3⟩ := hSw; go_simp⟩) hHeld ?_
                simp only [tkS, Act.put]
                refine tkH 4 ((.func (.func 53) #[.agg #[]] #[])) rfl (Or.inl ⟨by rfl, by intro w hSw; obtain ⟨s0, s1, s2, s3⟩ := hSw; go_simp⟩) hHeld ?_
                simp only [tkS, Act.put]
                refine tkH 5 ((.slice (some ⟨g, 0, none⟩) n cap)) rfl (Or.inl ⟨by rfl, by intro w hSw; obtain ⟨s0, s1, s2, s3⟩ := hSw; go_simp⟩) hHeld ?_
                simp only [tkS, Act.put]
                refine tkH 6 ((.int .i64 (a : Int))) rfl (Or.inl ⟨by rfl, by intro w hSw; obtain ⟨s0, s1, s2, s3⟩ := hSw; go_simp⟩) hHeld ?_
                simp only [tkS, Act.put]
                refine tkH 7 ((.pointer (some ⟨g, a * 2, none⟩))) rfl (Or.inl ⟨by rfl, by intro w hSw; obtain ⟨s0, s1, s2, s3⟩ := hSw; go_simp⟩) hHeld ?_
                simp only [tkS, Act.put]
                refine tkH 8 ((.agg #[.int .i64 xt, .int .i64 xa])) rfl (Or.inl ⟨by rfl, by intro w hSw; obtain ⟨s0, s1, s2, s3⟩ := hSw; go_simp⟩) hHeld ?_
                simp only [tkS, Act.put]
                refine tkH 9 ((.slice (some ⟨g, 0, none⟩) n cap)) rfl (Or.inl ⟨by rfl, by intro w hSw; obtain ⟨s0, s1, s2, s3⟩ := hSw; go_simp⟩) hHeld ?_
                simp only [tkS, Act.put]
                refine tkH 10 ((.int .i64 (m : Int))) rfl (Or.inl ⟨by rfl, by intro w hSw; obtain ⟨s0, s1, s2, s3⟩ := hSw; go_simp⟩) hHeld ?_
                simp only [tkS, Act.put]
                refine tkH 11 ((.pointer (some ⟨g, m * 2, none⟩))) rfl (Or.inl ⟨by rfl, by intro w hSw; obtain ⟨s0, s1, s2, s3⟩ := hSw; go_simp⟩) hHeld ?_
                simp only [tkS, Act.put]
                refine tkH 12 ((.agg #[.int .i64 yt, .int .i64 ya])) rfl (Or.inl ⟨by rfl, by intro w hSw; obtain ⟨s0, s1, s2, s3⟩ := hSw; go_simp⟩) hHeld ?_
                simp only [tkS, Act.put]
                refine wpAnyH_ready (rs := [13]) (by kernel_rfl) (by simp) ?_
                refine AllReadyH.cons rfl (fun K hK => ?_) AllReadyH.nil
                go_simp
                refine (hC _).mono ?_
                rintro e w2 ⟨rfl, hb2⟩
                go_wp2_with fail
                refine hK.out _ _ ⟨cell_on hb2 hHeld.1, cell_on hb2 hHeld.2.1, cell_on hb2 hHeld.2.2.1, cell_on hb2 hHeld.2.2.2⟩ (fun hHeld2 => ?_)
                clear hK K
                replace HS := swOn (swDrew HS) hb2
                clear hb2 x0 x1 y0 y1
                refine wpAnyH_take (i := 14) (v := (.bool false)) rfl (by kernel_rfl) (by kernel_rfl) (by kernel_rfl) (fun _ _ _ h => h) (Or.inl ⟨by rfl, by intro w hSw; obtain ⟨s0, s1, s2, s3⟩ := hSw; go_simp⟩) hHeld2 ?_
                simp only [tkS, Act.put]
                refine wpAnyH_take (i := 15) (v := (.bool false)) rfl (by kernel_rfl) (by kernel_rfl) (by kernel_rfl) (fun _ _ _ h => h) (Or.inl ⟨by rfl, by intro w hSw; obtain ⟨s0, s1, s2, s3⟩ := hSw; go_simp⟩) hHeld2 ?_
                simp only [tkS, Act.put]
                refine wpAnyH_done (by kernel_rfl) ?_ _
                clear hHeld hHeld2
                go_wp2_with fail
                go_meet
                case rel => exact ⟨m, rfl, hm0, by unfold Hid; rw [← HM.out, HN.out], HS⟩
            · have hmjI : ¬ (i2 : Int) ≤ (m : Int) := by omega
              have HN : Hid (scanDown (fun x => ltS dk[a]! x) dk i2 m = m) := by
                unfold Hid
                cases m with
                | zero => rfl
                | succ m => rw [scanDown, if_neg (by simp [hmj])]
              go_wp2_with fail
              go_quiet (fail)
              go_wp2_with fail
              go_meet
              case rel => exact ⟨m, rfl, hm0, by unfold Hid; rw [← HM.out, HN.out], swDrewN HS nq⟩
        case rest =>
          clear HS
          obtain ⟨j2, rfl, hj2, HJ2, HS⟩ := hcut
          have HST : Hid (partEqLoop ltS a i j dk = if i2 > j2 then (i2, dk) else if h : (j2 - 1) + 1 - (i2 + 1) < j + 1 - i then partEqLoop ltS a (i2 + 1) (j2 - 1) (swp dk i2 j2) else (i2, dk)) := by
            unfold Hid
            rw [partEqLoop]
            simp only [HI2.out, HJ2.out]
          by_cases hgt : j2 < i2
          · have hgtI : (j2 : Int) < (i2 : Int) := by omega
            have HN : Hid (partEqLoop ltS a i j dk = (i2, dk)) := by
              unfold Hid
              rw [HST.out, if_pos hgt]
            clear HST
            go_wp2_with fail
            refine bodyPost_ret (v := .int .i64 (i2 : Int)) ?_ rfl ⟨?_, ?_⟩
            · simp [results, Tryz.results104, go_sem]
            · rw [HD1.out, ← HE.out, HN.out]
            · rw [HD1.out, ← HE.out, HN.out]
              exact HS.out
          · have hgtI : ¬ (j2 : Int) < (i2 : Int) := by omega
            obtain ⟨j3, hj3⟩ : ∃ j3, j3 = j2 - 1 := ⟨_, rfl⟩
            have hj3I : (j2 : Int) - 1 = (j3 : Int) := by omega
            have HN : Hid (partEqLoop ltS a i j dk = partEqLoop ltS a (i2 + 1) j3 (swp dk i2 j2)) := by
              unfold Hid
              rw [HST.out, if_neg (by omega), dif_pos (by omega), hj3]
            have HJ3 : Hid (j3 + 1 = j2) := by unfold Hid; omega
            have i20 : (0 : Int) ≤ (i2 : Int) := by omega
            have i21 : (i2 : Int) < (n : Int) := by omega
            have j20 : (0 : Int) ≤ (j2 : Int) := by omega
            have j21 : (j2 : Int) < (n : Int) := by omega
            have i22 : (i2 : Int) + 1 < 9223372036854775808 := by omega
            clear HST hj3
            go_upto_region 8 with fail
            go_cut [84] from 71 to 84 (fun tt wx => Hid (Sw W0 B g cap (swp dk i2 j2) wx))
            case first =>
              have hxy := cmp_lt dk[i2]! dk[j2]!
              obtain ⟨x0, x1⟩ := HS.out.at (i := i2) (by omega)
              obtain ⟨y0, y1⟩ := HS.out.at (i := j2) (by omega)
              have HWW : Hid _ := fun w' (h : Sw W0 B g cap dk w') => h.swp (i := i2) (j := j2) (by omega) (by omega)
              obtain ⟨⟨xt, xa⟩, hx⟩ : ∃ x, dk[i2]! = x := ⟨_, rfl⟩
              obtain ⟨⟨yt, ya⟩, hy⟩ : ∃ x, dk[j2]! = x := ⟨_, rfl⟩
              rw [hx, hy] at hxy HWW
              rw [hx] at x0 x1
              rw [hy] at y0 y1
              simp only at x0 x1 y0 y1 hxy
              have hC := fun w => order_any xt xa yt ya w
              generalize cmpS xt xa yt ya = r at hC hxy
              clear hxy hC
              have hSd := (swDrew HS).out
              obtain ⟨x0, x1⟩ := hSd.at (i := i2) (by omega)
              obtain ⟨y0, y1⟩ := hSd.at (i := j2) (by omega)
              rw [hx] at x0 x1
              rw [hy] at y0 y1
              obtain ⟨u0, u1, u2, u3, ⟨e0, f0⟩, ⟨e1, f1⟩, ⟨e2, f2⟩, ⟨e3, f3⟩⟩ := HS.out.steps (i := i2) (j := j2) (by omega) (by omega) (.int .i64 yt) (.int .i64 ya) (.int .i64 xt)
              have HF : Hid (Sw W0 B g cap (swp dk i2 j2) ((((wc.setCell ⟨g, i2 * 2, none⟩ (.int .i64 yt)).setCell ⟨g, i2 * 2 + 1, none⟩ (.int .i64 ya)).setCell ⟨g, j2 * 2, none⟩ (.int .i64 xt)).setCell ⟨g, j2 * 2 + 1, none⟩ (.int .i64 xa)).drew) := HWW.out _ hSd
              simp only at x0 x1 y0 y1
              clear hSd hx hy e0
              refine wp_region_held_drew (S := fun w' => True) (by kernel_rfl) trivial (fun hHeld => ?_)
              refine tkH 0 ((.slice (some ⟨g, 0, none⟩) n cap)) rfl (Or.inl ⟨by rfl, by intro w hSw; go_simp⟩) hHeld ?_
              simp only [tkS, Act.put]
              refine tkH 1 ((.int .i64 (i2 : Int))) rfl (Or.inl ⟨by rfl, by intro w hSw; go_simp⟩) hHeld ?_
              simp only [tkS, Act.put]
              refine tkH 2 ((.slice (some ⟨g, 0, none⟩) n cap)) rfl (Or.inl ⟨by rfl, by intro w hSw; go_simp⟩) hHeld ?_
              simp only [tkS, Act.put]
              refine tkH 3 ((.int .i64 (j2 : Int))) rfl (Or.inl ⟨by rfl, by intro w hSw; go_simp⟩) hHeld ?_
              simp only [tkS, Act.put]
              refine tkH 4 ((.slice (some ⟨g, 0, none⟩) n cap)) rfl (Or.inl ⟨by rfl, by intro w hSw; go_simp⟩) hHeld ?_
              simp only [tkS, Act.put]
              refine tkH 5 ((.int .i64 (j2 : Int))) rfl (Or.inl ⟨by rfl, by intro w hSw; go_simp⟩) hHeld ?_
              simp only [tkS, Act.put]
              refine tkH 6 ((.pointer (some ⟨g, j2 * 2, none⟩))) rfl (Or.inl ⟨by rfl, by intro w hSw; go_simp⟩) hHeld ?_
              simp only [tkS, Act.put]
              refine tkH 8 ((.slice (some ⟨g, 0, none⟩) n cap)) rfl (Or.inl ⟨by rfl, by intro w hSw; go_simp⟩) hHeld ?_
              simp only [tkS, Act.put]
              refine tkH 9 ((.int .i64 (i2 : Int))) rfl (Or.inl ⟨by rfl, by intro w hSw; go_simp⟩) hHeld ?_
              simp only [tkS, Act.put]
              refine tkH 10 ((.pointer (some ⟨g, i2 * 2, none⟩))) rfl (Or.inl ⟨by rfl, by intro w hSw; go_simp⟩) hHeld ?_
              simp only [tkS, Act.put]
              refine wpAnyH_ready (rs := [7, 11]) (by kernel_rfl) (by simp) ?_
              refine AllReadyH.cons rfl (fun K hK => ?wayA2) (AllReadyH.cons rfl (fun K hK => ?wayB2) AllReadyH.nil)
              case' wayA2 =>
                go_simp
                refine hK.out _ _ trivial (fun hHeld1 => ?_)
                clear hK K
                refine wpAnyH_ready (rs := [11]) (by kernel_rfl) (by simp) ?_
                refine AllReadyH.cons rfl (fun K hK => ?_) AllReadyH.nil
                go_simp
                refine hK.out _ _ trivial (fun hHeld2 => ?_)
                clear hK K
              case' wayB2 =>
                go_simp
                refine hK.out _ _ trivial (fun hHeld1 => ?_)
                clear hK K
                refine wpAnyH_ready (rs := [7]) (by kernel_rfl) (by simp) ?_
                refine AllReadyH.cons rfl (fun K hK => ?_) AllReadyH.nil
                go_simp
                refine hK.out _ _ trivial (fun hHeld2 => ?_)
                clear hK K
              all_goals
                refine wpAnyH_take (i := 12) (v := (.pointer (some ⟨g, i2 * 2, none⟩))) rfl (by kernel_rfl) (by kernel_rfl) (by kernel_rfl) (fun _ _ _ h => h) (Or.inl ⟨by rfl, by intro w hSw; go_simp⟩) hHeld2 ?_
                simp only [tkS, Act.put]
                refine wpAnyH_ready (rs := [13]) (by kernel_rfl) (by simp) ?_
                refine AllReadyH.cons rfl (fun K hK => ?_) AllReadyH.nil
                go_simp
                refine hK.out _ _ trivial (fun hHeld3 => ?_)
                clear hK K
                refine wpAnyH_take (i := 14) (v := (.pointer (some ⟨g, j2 * 2, none⟩))) rfl (by kernel_rfl) (by kernel_rfl) (by kernel_rfl) (fun _ _ _ h => h) (Or.inl ⟨by rfl, by intro w hSw; go_simp⟩) hHeld3 ?_
                simp only [tkS, Act.put]
                refine wpAnyH_ready (rs := [15]) (by kernel_rfl) (by simp) ?_
                refine AllReadyH.cons rfl (fun K hK => ?_) AllReadyH.nil
                go_simp
                refine hK.out _ _ trivial (fun hHeld4 => ?_)
                clear hK K
                refine wpAnyH_done (by kernel_rfl) ?_ _
              all_goals
                go_wp2_with fail
                go_meet
                case rel => exact HF
            case rest =>
              replace HS := hcut
              clear hcut
              go_wp2_with fail
              go_roundw
              case rel => exact ⟨i2 + 1, j3, swp dk i2 j2, by go_num, by go_num, by omega, by omega, by have := HJ3.out; omega, by rw [swp_size]; exact hdk, HS, by unfold Hid; rw [← HE.out, HN.out]⟩
              case measure => have := HJ3.out; simp [intOf]; omega

end Go.Proofs.YtfnlnigeaioocaaGreat
