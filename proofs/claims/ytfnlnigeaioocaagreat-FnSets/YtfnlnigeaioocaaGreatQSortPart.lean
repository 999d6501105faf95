/- What partitionCmpFunc does at stamps. -/
import Derived.Deep.CutBlock
import Derived.Test.YtfnlnigeaioocaaGreatQTakeKit
import Derived.Test.YtfnlnigeaioocaaGreatQSortIns
namespace Go.Proofs.YtfnlnigeaioocaaGreat
open Go.RowKit
open Go.Sort (swp insInner insOuter insertionSort siftDown heapBuild heapPop heapSort reverseLoop reverseRange)
set_option linter.unusedVariables false

open Go.Sort (scanUp scanDown partLoop partition)

set_option maxHeartbeats 16000000 in
set_option maxRecDepth 200000 in
theorem part_any (W0 : World) (B g cap n a b pivot : Nat) (d : Array Sp) (w : World) (hn : d.size = n) (hsz : n ≤ 1048576) (hab : a + 1 < b) (hb : b ≤ n) (hp0 : a ≤ pivot) (hp1 : pivot < b) (hS : Sw W0 B g cap d w) :
    Calls Tryz.prog 105 #[.slice (some ⟨g, 0, none⟩) n cap, .int .i64 (a : Int), .int .i64 (b : Int), .int .i64 (pivot : Int), ordV] w fun e w' => e = .returned (.tuple #[.int .i64 ((partition ltS d a b pivot).1 : Int), .bool (partition ltS d a b pivot).2.1]) ∧ Sw W0 B g cap (partition ltS d a b pivot).2.2 w' := by
  unfold ordV
  have a0 : (0 : Int) ≤ (a : Int) := by omega
  have a1' : (a : Int) < (n : Int) := by omega
  have p0 : (0 : Int) ≤ (pivot : Int) := by omega
  have p1 : (pivot : Int) < (n : Int) := by omega
  have HS : Hid _ := hS
  clear hS
  obtain ⟨b1, hb1⟩ : ∃ b1 : Nat, b1 = b - 1 := ⟨_, rfl⟩
  have hb1I : (b : Int) - 1 = (b1 : Int) := by omega
  obtain ⟨a1, ha1⟩ : ∃ a1 : Nat, a1 = a + 1 := ⟨_, rfl⟩
  have ha1I : (a : Int) + 1 = (a1 : Int) := by omega
  have HP0 : Hid (∀ d1, swp d a pivot = d1 → partition ltS d a b pivot = (if scanUp (fun x => ltS x d1[a]!) d1 b1 a1 > scanDown (fun x => !ltS x d1[a]!) d1 (scanUp (fun x => ltS x d1[a]!) d1 b1 a1) b1 then (scanDown (fun x => !ltS x d1[a]!) d1 (scanUp (fun x => ltS x d1[a]!) d1 b1 a1) b1, true, swp d1 (scanDown (fun x => !ltS x d1[a]!) d1 (scanUp (fun x => ltS x d1[a]!) d1 b1 a1) b1) a) else
      (let r := partLoop ltS a (scanUp (fun x => ltS x d1[a]!) d1 b1 a1 + 1) (scanDown (fun x => !ltS x d1[a]!) d1 (scanUp (fun x => ltS x d1[a]!) d1 b1 a1) b1 - 1) (swp d1 (scanUp (fun x => ltS x d1[a]!) d1 b1 a1) (scanDown (fun x => !ltS x d1[a]!) d1 (scanUp (fun x => ltS x d1[a]!) d1 b1 a1) b1)); (r.1, false, swp r.2 r.1 a)))) := by
    intro d1 h
    subst h hb1 ha1
    rfl
  have hbn : b1 < n := by omega
  have han : a < n := by omega
  have hab1 : a < b1 := by omega
  have ha11 : 1 ≤ a1 := by omega
  have ha1n : a1 ≤ n := by omega
  have ha1b : a1 ≤ b1 := by omega
  clear hb1 ha1
  go_enter Tryz.func105, Tryz.ntmps105
  go_upto_region 1 with fail
  go_cut [27] from 14 to 27 (fun tt wx => Hid (Sw W0 B g cap (swp d a pivot) wx))
  case first =>
    have hxy := cmp_lt d[a]! d[pivot]!
    obtain ⟨x0, x1⟩ := HS.out.at (i := a) (by omega)
    obtain ⟨y0, y1⟩ := HS.out.at (i := pivot) (by omega)
    have HWW : Hid _ := fun w' (h : Sw W0 B g cap d w') => h.swp (i := a) (j := pivot) (by omega) (by omega)
    obtain ⟨⟨xt, xa⟩, hx⟩ : ∃ x, d[a]! = x := ⟨_, rfl⟩
    obtain ⟨⟨yt, ya⟩, hy⟩ : ∃ x, d[pivot]! = x := ⟨_, rfl⟩
    rw [hx, hy] at hxy HWW
    rw [hx] at x0 x1
    rw [hy] at y0 y1
    simp only at x0 x1 y0 y1 hxy
    have hC := fun w => order_any xt xa yt ya w
    generalize cmpS xt xa yt ya = r at hC hxy
    clear hxy hC
    have hSd := (swDrew HS).out
    obtain ⟨x0, x1⟩ := hSd.at (i := a) (by omega)
    obtain ⟨y0, y1⟩ := hSd.at (i := pivot) (by omega)
    rw [hx] at x0 x1
    rw [hy] at y0 y1
    obtain ⟨u0, u1, u2, u3, ⟨e0, f0⟩, ⟨e1, f1⟩, ⟨e2, f2⟩, ⟨e3, f3⟩⟩ := HS.out.steps (i := a) (j := pivot) (by omega) (by omega) (.int .i64 yt) (.int .i64 ya) (.int .i64 xt)
    have HF : Hid (Sw W0 B g cap (swp d a pivot) ((((w.setCell ⟨g, a * 2, none⟩ (.int .i64 yt)).setCell ⟨g, a * 2 + 1, none⟩ (.int .i64 ya)).setCell ⟨g, pivot * 2, none⟩ (.int .i64 xt)).setCell ⟨g, pivot * 2 + 1, none⟩ (.int .i64 xa)).drew) := HWW.out _ hSd
    simp only at x0 x1 y0 y1
    clear hSd hx hy e0
    refine wp_region_held_drew (S := fun w' => True) (by kernel_rfl) trivial (fun hHeld => ?_)
    refine tkH 0 ((.slice (some ⟨g, 0, none⟩) n cap)) rfl (Or.inl ⟨by rfl, by intro w hSw; go_simp⟩) hHeld ?_
    simp only [tkS, Act.put]
    refine tkH 1 ((.int .i64 (a : Int))) rfl (Or.inl ⟨by rfl, by intro w hSw; go_simp⟩) hHeld ?_
    simp only [tkS, Act.put]
    refine tkH 2 ((.slice (some ⟨g, 0, none⟩) n cap)) rfl (Or.inl ⟨by rfl, by intro w hSw; go_simp⟩) hHeld ?_
    simp only [tkS, Act.put]
    refine tkH 3 ((.int .i64 (pivot : Int))) rfl (Or.inl ⟨by rfl, by intro w hSw; go_simp⟩) hHeld ?_
    simp only [tkS, Act.put]
    refine tkH 4 ((.slice (some ⟨g, 0, none⟩) n cap)) rfl (Or.inl ⟨by rfl, by intro w hSw; go_simp⟩) hHeld ?_
    simp only [tkS, Act.put]
    refine tkH 5 ((.int .i64 (pivot : Int))) rfl (Or.inl ⟨by rfl, by intro w hSw; go_simp⟩) hHeld ?_
    simp only [tkS, Act.put]
    refine tkH 6 ((.pointer (some ⟨g, pivot * 2, none⟩))) rfl (Or.inl ⟨by rfl, by intro w hSw; go_simp⟩) hHeld ?_
    simp only [tkS, Act.put]
    refine tkH 8 ((.slice (some ⟨g, 0, none⟩) n cap)) rfl (Or.inl ⟨by rfl, by intro w hSw; go_simp⟩) hHeld ?_
    simp only [tkS, Act.put]
    refine tkH 9 ((.int .i64 (a : Int))) rfl (Or.inl ⟨by rfl, by intro w hSw; go_simp⟩) hHeld ?_
    simp only [tkS, Act.put]
    refine tkH 10 ((.pointer (some ⟨g, a * 2, none⟩))) rfl (Or.inl ⟨by rfl, by intro w hSw; go_simp⟩) hHeld ?_
    simp only [tkS, Act.put]
    refine wpAnyH_ready (rs := [7, 11]) (by kernel_rfl) (by simp) ?_
    refine AllReadyH.cons rfl (fun K hK => ?wayA1) (AllReadyH.cons rfl (fun K hK => ?wayB1) AllReadyH.nil)
    case' wayA1 =>
      go_simp
      refine hK.out _ _ trivial (fun hHeld1 => ?_)
      clear hK K
      refine wpAnyH_ready (rs := [11]) (by kernel_rfl) (by simp) ?_
      refine AllReadyH.cons rfl (fun K hK => ?_) AllReadyH.nil
      go_simp
      refine hK.out _ _ trivial (fun hHeld2 => ?_)
      clear hK K
    case' wayB1 =>
      go_simp
      refine hK.out _ _ trivial (fun hHeld1 => ?_)
      clear hK K
      refine wpAnyH_ready (rs := [7]) (by kernel_rfl) (by simp) ?_
      refine AllReadyH.cons rfl (fun K hK => ?_) AllReadyH.nil
      go_simp
      refine hK.out _ _ trivial (fun hHeld2 => ?_)
      clear hK K
    all_goals
      refine wpAnyH_take (i := 12) (v := (.pointer (some ⟨g, a * 2, none⟩))) rfl (by kernel_rfl) (by kernel_rfl) (by kernel_rfl) (fun _ _ _ h => h) (Or.inl ⟨by rfl, by intro w hSw; go_simp⟩) hHeld2 ?_
      simp only [tkS, Act.put]
      refine wpAnyH_ready (rs := [13]) (by kernel_rfl) (by simp) ?_
      refine AllReadyH.cons rfl (fun K hK => ?_) AllReadyH.nil
      go_simp
      refine hK.out _ _ trivial (fun hHeld3 => ?_)
      clear hK K
      refine wpAnyH_take (i := 14) (v := (.pointer (some ⟨g, pivot * 2, none⟩))) rfl (by kernel_rfl) (by kernel_rfl) (by kernel_rfl) (fun _ _ _ h => h) (Or.inl ⟨by rfl, by intro w hSw; go_simp⟩) hHeld3 ?_
      simp only [tkS, Act.put]
      refine wpAnyH_ready (rs := [15]) (by kernel_rfl) (by simp) ?_
      refine AllReadyH.cons rfl (fun K hK => ?_) AllReadyH.nil
      go_simp
      refine hK.out _ _ trivial (fun hHeld4 => ?_)
      clear hK K
      refine wpAnyH_done (by kernel_rfl) ?_ _
    all_goals
      go_wp2_with fail
      go_meet
      case rel => exact HF
  case rest =>
    replace HS := hcut
    clear hcut
    have hn1 : (swp d a pivot).size = n := by rw [swp_size]; exact hn
    obtain ⟨d1, hd1⟩ : ∃ d1, swp d a pivot = d1 := ⟨_, rfl⟩
    rw [hd1] at HS hn1
    have HPP := HP0.out d1 hd1
    clear hd1 HP0
    go_upto_block 0 with fail
    go_cut [12] from 32 to 49 (fun tt wx => ∃ m : Nat, tt = .int .i64 (m : Int) ∧ a1 ≤ m ∧ m ≤ (max a1 b1) + 1 ∧ Hid (scanUp (fun x => ltS x d1[a]!) d1 b1 a1 = m) ∧ Hid (Sw W0 B g cap d1 wx))
    case first =>
      go_wp2_with fail
      go_loopw [12] (fun tt wx => ∃ m : Nat, tt = .int .i64 (m : Int) ∧ a1 ≤ m ∧ m ≤ max a1 b1 + 1 ∧ Hid (scanUp (fun x => ltS x d1[a]!) d1 b1 m = scanUp (fun x => ltS x d1[a]!) d1 b1 a1) ∧ Hid (Sw W0 B g cap d1 wx)) (fun tt _ => (b1 + 1) - (intOf tt).toNat)
      case atStart => exact ⟨a1, rfl, Nat.le_refl _, by omega, rfl, HS⟩
      case round =>
        clear HS
        obtain ⟨m, rfl, hm0, hm1, HM, HS⟩ := hrel
        by_cases hmj : m ≤ b1
        · have hmjI : (m : Int) ≤ (b1 : Int) := by omega
          have m0 : (0 : Int) ≤ (m : Int) := by omega
          have m1 : (m : Int) < (n : Int) := by omega
          have m2 : (m : Int) + 1 < 9223372036854775808 := by omega
          have HU : Hid ((ltS d1[m]! d1[a]! = true → scanUp (fun x => ltS x d1[a]!) d1 b1 m = scanUp (fun x => ltS x d1[a]!) d1 b1 (m + 1)) ∧ (ltS d1[m]! d1[a]! = false → scanUp (fun x => ltS x d1[a]!) d1 b1 m = m)) := by
            refine ⟨fun h => ?_, fun h => ?_⟩
            · rw [scanUp, if_pos (by simp [hmj, h])]
            · rw [scanUp, if_neg (by simp [h])]
          have hxy := cmp_lt d1[m]! d1[a]!
          obtain ⟨x0, x1⟩ := HS.out.at (i := m) (by omega)
          obtain ⟨y0, y1⟩ := HS.out.at (i := a) (by omega)
          have HWW : Hid _ := fun w' (h : Sw W0 B g cap d1 w') => h.swp (i := m) (j := a) (by omega) (by omega)
          obtain ⟨⟨xt, xa⟩, hx⟩ : ∃ x, d1[m]! = x := ⟨_, rfl⟩
          obtain ⟨⟨yt, ya⟩, hy⟩ : ∃ x, d1[a]! = x := ⟨_, rfl⟩
          rw [hx, hy] at hxy HWW
          rw [hx] at x0 x1
          rw [hy] at y0 y1
          simp only at x0 x1 y0 y1 hxy
          have hC := fun w => order_any xt xa yt ya w
          generalize cmpS xt xa yt ya = r at hC hxy
          rcases hxy with ⟨hr, hl⟩ | ⟨hr, hl⟩
          · have HN : Hid _ := HU.out.1 (by rw [hx, hy]; exact hl)
            clear hl HU HWW hx hy
            go_wp2_with fail
            refine wp_region_held_drew (S := fun w' => w'.cell? ⟨g, m * 2, none⟩ = some (.int .i64 xt) ∧ w'.cell? ⟨g, m * 2 + 1, none⟩ = some (.int .i64 xa) ∧ w'.cell? ⟨g, a * 2, none⟩ = some (.int .i64 yt) ∧ w'.cell? ⟨g, a * 2 + 1, none⟩ = some (.int .i64 ya)) (by kernel_rfl) ⟨x0, x1, y0, y1⟩ (fun hHeld => ?_)
            refine tkH 0 ((.int .i64 (m : Int))) rfl (Or.inl ⟨by rfl, by intro w hSw; obtain ⟨s0, s1, s2, s3⟩ := hSw; go_simp⟩) hHeld ?_
            simp only [tkS, Act.put]
            refine tkH 1 ((.int .i64 (b1 : Int))) rfl (Or.inl ⟨by rfl, by intro w hSw; obtain ⟨s0, s1, s2, s3⟩ := hSw; go_simp⟩) hHeld ?_
            simp only [tkS, Act.put]
            refine tkH 2 ((.bool true)) rfl (Or.inl ⟨by rfl, by intro w hSw; obtain ⟨s0, s1, s2, s3⟩ := hSw; go_simp⟩) hHeld ?_
            simp only [tkS, Act.put]
            refine tkH 3 ((.bool true)) rfl (Or.inl ⟨by rfl, by intro w hSw; obtain ⟨s0, s1, s2, s3⟩ := hSw; go_simp⟩) hHeld ?_
            simp only [tkS, Act.put]
            refine tkH 4 ((.func (.func 53) #[.agg #[]] #[])) rfl (Or.inl ⟨by rfl, by intro w hSw; obtain ⟨s0, s1, s2, s3⟩ := hSw; go_simp⟩) hHeld ?_
            simp only [tkS, Act.put]
            refine tkH 5 ((.slice (some ⟨g, 0, none⟩) n cap)) rfl (Or.inl ⟨by rfl, by intro w hSw; obtain ⟨s0, s1, s2, s3⟩ := hSw; go_simp⟩) hHeld ?_
            simp only [tkS, Act.put]
            refine tkH 6 ((.int .i64 (m : Int))) rfl (Or.inl ⟨by rfl, by intro w hSw; obtain ⟨s0, s1, s2, s3⟩ := hSw; go_simp⟩) hHeld ?_
            simp only [tkS, Act.put]
            refine tkH 7 ((.pointer (some ⟨g, m * 2, none⟩))) rfl (Or.inl ⟨by rfl, by intro w hSw; obtain ⟨s0, s1, s2, s3⟩ := hSw; go_simp⟩) hHeld ?_
            simp only [tkS, Act.put]
            refine tkH 8 ((.agg #[.int .i64 xt, .int .i64 xa])) rfl (Or.inl ⟨by rfl, by intro w hSw; obtain ⟨s0, s1, s2, s3⟩ := hSw; go_simp⟩) hHeld ?_
            simp only [tkS, Act.put]
            refine tkH 9 ((.slice (some ⟨g, 0, none⟩) n cap)) rfl (Or.inl ⟨by rfl, by intro w hSw; obtain ⟨s0, s1, s2, s3⟩ := hSw; go_simp⟩) hHeld ?_
            simp only [tkS, Act.put]
            refine tkH 10 ((.int .i64 (a : Int))) rfl (Or.inl ⟨by rfl, by intro w hSw; obtain ⟨s0, s1, s2, s3⟩ := hSw; go_simp⟩) hHeld ?_
            simp only [tkS, Act.put]
            refine tkH 11 ((.pointer (some ⟨g, a * 2, none⟩))) rfl (Or.inl ⟨by rfl, by intro w hSw; obtain ⟨s0, s1, s2, s3⟩ := hSw; go_simp⟩) hHeld ?_
            simp only [tkS, Act.put]
            refine tkH 12 ((.agg #[.int .i64 yt, .int .i64 ya])) rfl (Or.inl ⟨by rfl, by intro w hSw; obtain ⟨s0, s1, s2, s3⟩ := hSw; go_simp⟩) hHeld ?_
            simp only [tkS, Act.put]
            refine wpAnyH_ready (rs := [13]) (by kernel_rfl) (by simp) ?_
            refine AllReadyH.cons rfl (fun K hK => ?_) AllReadyH.nil
            go_simp
            refine (hC _).mono ?_
            rintro e w2 ⟨rfl, hb2⟩
            go_wp2_with fail
            refine hK.out _ _ ⟨cell_on hb2 hHeld.1, cell_on hb2 hHeld.2.1, cell_on hb2 hHeld.2.2.1, cell_on hb2 hHeld.2.2.2⟩ (fun hHeld2 => ?_)
            clear hK K
            replace HS := swOn (swDrew HS) hb2
            clear hb2 x0 x1 y0 y1
            refine wpAnyH_take (i := 14) (v := (.bool true)) rfl (by kernel_rfl) (by kernel_rfl) (by kernel_rfl) (fun _ _ _ h => h) (Or.inl ⟨by rfl, by intro w hSw; obtain ⟨s0, s1, s2, s3⟩ := hSw; go_simp⟩) hHeld2 ?_
            simp only [tkS, Act.put]
            refine wpAnyH_take (i := 15) (v := (.bool true)) rfl (by kernel_rfl) (by kernel_rfl) (by kernel_rfl) (fun _ _ _ h => h) (Or.inl ⟨by rfl, by intro w hSw; obtain ⟨s0, s1, s2, s3⟩ := hSw; go_simp⟩) hHeld2 ?_
            simp only [tkS, Act.put]
            refine wpAnyH_done (by kernel_rfl) ?_ _
            clear hHeld hHeld2
            go_wp2_with fail
            go_roundw
            case rel => exact ⟨m + 1, by go_num, by omega, by omega, by unfold Hid; rw [← HM.out, HN.out], HS⟩
            case measure => simp [intOf]; omega
          · have HN : Hid _ := HU.out.2 (by rw [hx, hy]; exact hl)
            clear hl HU HWW hx hy
            go_wp2_with fail
            refine wp_region_held_drew (S := fun w' => w'.cell? ⟨g, m * 2, none⟩ = some (.int .i64 xt) ∧ w'.cell? ⟨g, m * 2 + 1, none⟩ = some (.int .i64 xa) ∧ w'.cell? ⟨g, a * 2, none⟩ = some (.int .i64 yt) ∧ w'.cell? ⟨g, a * 2 + 1, none⟩ = some (.int .i64 ya)) (by kernel_rfl) ⟨x0, x1, y0, y1⟩ (fun hHeld => ?_)
            refine tkH 0 ((.int .i64 (m : Int))) rfl (Or.inl ⟨by rfl, by intro w hSw; obtain ⟨s0, s1, s2, s3⟩ := hSw; go_simp⟩) hHeld ?_
            simp only [tkS, Act.put]
            refine tkH 1 ((.int .i64 (b1 : Int))) rfl (Or.inl ⟨by rfl, by intro w hSw; obtain ⟨s0, s1, s2, s3⟩ := hSw; go_simp⟩) hHeld ?_
            simp only [tkS, Act.put]
            refine tkH 2 ((.bool true)) rfl (Or.inl ⟨by rfl, by intro w hSw; obtain ⟨s0, s1, s2, s3⟩ := hSw; go_simp⟩) hHeld ?_
            simp only [tkS, Act.put]
            refine tkH 3 ((.bool true)) rfl (Or.inl ⟨by rfl, by intro w hSw; obtain ⟨s0, s1, s2, s3⟩ := hSw; go_simp⟩) hHeld ?_
            simp only [tkS, Act.put]
            refine tkH 4 ((.func (.func 53) #[.agg #[]] #[])) rfl (Or.inl ⟨by rfl, by intro w hSw; obtain ⟨s0, s1, s2, s3⟩ := hSw; go_simp⟩) hHeld ?_
            simp only [tkS, Act.put]
            refine tkH 5 ((.slice (some ⟨g, 0, none⟩) n cap)) rfl (Or.inl ⟨by rfl, by intro w hSw; obtain ⟨s0, s1, s2, s3⟩ := hSw; go_simp⟩) hHeld ?_
            simp only [tkS, Act.put]
            refine tkH 6 ((.int .i64 (m : Int))) rfl (Or.inl ⟨by rfl, by intro w hSw; obtain ⟨s0, s1, s2, s3⟩ := hSw; go_simp⟩) hHeld ?_
            simp only [tkS, Act.put]
            refine tkH 7 ((.pointer (some ⟨g, m * 2, none⟩))) rfl (Or.inl ⟨by rfl, by intro w hSw; obtain ⟨s0, s1, s2, s3⟩ := hSw; go_simp⟩) hHeld ?_
            simp only [tkS, Act.put]
            refine tkH 8 ((.agg #[.int .i64 xt, .int .i64 xa])) rfl (Or.inl ⟨by rfl, by intro w hSw; obtain ⟨s0, s1, s2, s3⟩ := hSw; go_simp⟩) hHeld ?_
            simp only [tkS, Act.put]
            refine tkH 9 ((.slice (some ⟨g, 0, none⟩) n cap)) rfl (Or.inl ⟨by rfl, by intro w hSw; obtain ⟨s0, s1, s2, s3⟩ := hSw; go_simp⟩) hHeld ?_
            simp only [tkS, Act.put]
            refine tkH 10 ((.int .i64 (a : Int))) rfl (Or.inl ⟨by rfl, by intro w hSw; obtain ⟨s0, s1, s2, s3⟩ := hSw; go_simp⟩) hHeld ?_
            simp only [tkS, Act.put]
            refine tkH 11 ((.pointer (some ⟨g, a * 2, none⟩))) rfl (Or.inl ⟨by rfl, by intro w hSw; obtain ⟨s0, s1, s2, s3⟩ := hSw; go_simp⟩) hHeld ?_
            simp only [tkS, Act.put]
            refine tkH 12 ((.agg #[.int .i64 yt, .int .i64 ya])) rfl (Or.inl ⟨by rfl, by intro w hSw; obtain ⟨s0, s1, s2, s3⟩ := hSw; go_simp⟩) hHeld ?_
            simp only [tkS, Act.put]
            refine wpAnyH_ready (rs := [13]) (by kernel_rfl) (by simp) ?_
            refine AllReadyH.cons rfl (fun K hK => ?_) AllReadyH.nil
            go_simp
            refine (hC _).mono ?_
            rintro e w2 ⟨rfl, hb2⟩
            go_wp2_with fail
            refine hK.out _ _ ⟨cell_on hb2 hHeld.1, cell_on hb2 hHeld.2.1, cell_on hb2 hHeld.2.2.1, cell_on hb2 hHeld.2.2.2⟩ (fun hHeld2 => ?_)
            clear hK K
            replace HS := swOn (swDrew HS) hb2
            clear hb2 x0 x1 y0 y1
            refine wpAnyH_take (i := 14) (v := (.bool false)) rfl (by kernel_rfl) (by kernel_rfl) (by kernel_rfl) (fun _ _ _ h => h) (Or.inl ⟨by rfl, by intro w hSw; obtain ⟨s0, s1, s2, s3⟩ := hSw; go_simp⟩) hHeld2 ?_
            simp only [tkS, Act.put]
            refine wpAnyH_take (i := 15) (v := (.bool false)) rfl (by kernel_rfl) (by kernel_rfl) (by kernel_rfl) (fun _ _ _ h => h) (Or.inl ⟨by rfl, by intro w hSw; obtain ⟨s0, s1, s2, s3⟩ := hSw; go_simp⟩) hHeld2 ?_
            simp only [tkS, Act.put]
            refine wpAnyH_done (by kernel_rfl) ?_ _
            clear hHeld hHeld2
            go_wp2_with fail
            go_meet
            case rel => exact ⟨m, rfl, hm0, hm1, by unfold Hid; rw [← HM.out, HN.out], HS⟩
        · have hmjI : ¬ (m : Int) ≤ (b1 : Int) := by omega
          have HN : Hid (scanUp (fun x => ltS x d1[a]!) d1 b1 m = m) := by
            unfold Hid
            rw [scanUp, if_neg (by simp [hmj])]
          go_wp2_with fail
          go_quiet (fail)
          go_wp2_with fail
          go_meet
          case rel => exact ⟨m, rfl, hm0, hm1, by unfold Hid; rw [← HM.out, HN.out], swDrewN HS nq⟩
    case rest =>
      clear HS
      obtain ⟨i2, rfl, hi2, hi3, HI2, HS⟩ := hcut
      rw [HI2.out] at HPP
      go_upto_block 2 with fail
      go_cut [13] from 50 to 68 (fun tt wx => ∃ m : Nat, tt = .int .i64 (m : Int) ∧ m ≤ b1 ∧ Hid (scanDown (fun x => !ltS x d1[a]!) d1 i2 b1 = m) ∧ Hid (Sw W0 B g cap d1 wx))
      case first =>
        go_wp2_with fail
        go_loopw [13] (fun tt wx => ∃ m : Nat, tt = .int .i64 (m : Int) ∧ m ≤ b1 ∧ Hid (scanDown (fun x => !ltS x d1[a]!) d1 i2 m = scanDown (fun x => !ltS x d1[a]!) d1 i2 b1) ∧ Hid (Sw W0 B g cap d1 wx)) (fun tt _ => (intOf tt).toNat)
        case atStart => exact ⟨b1, rfl, Nat.le_refl _, rfl, HS⟩
        case round =>
          clear HS
          obtain ⟨m, rfl, hm0, HM, HS⟩ := hrel
          by_cases hmj : i2 ≤ m
          · have hmjI : (i2 : Int) ≤ (m : Int) := by omega
            have m0 : (0 : Int) ≤ (m : Int) := by omega
            have m1 : (m : Int) < (n : Int) := by omega
            obtain ⟨m', hm'⟩ : ∃ m', m = m' + 1 := ⟨m - 1, by omega⟩
            have hm'I : (m : Int) - 1 = (m' : Int) := by omega
            have HU : Hid ((ltS d1[m]! d1[a]! = false → scanDown (fun x => !ltS x d1[a]!) d1 i2 m = scanDown (fun x => !ltS x d1[a]!) d1 i2 m') ∧ (ltS d1[m]! d1[a]! = true → scanDown (fun x => !ltS x d1[a]!) d1 i2 m = m)) := by
              subst hm'
              refine ⟨fun h => ?_, fun h => ?_⟩
              · rw [scanDown, if_pos (by simp [hmj, h])]
              · rw [scanDown, if_neg (by simp [h])]
            have HM' : Hid (m = m' + 1) := hm'
            clear hm'
            have hxy := cmp_lt d1[m]! d1[a]!
            obtain ⟨x0, x1⟩ := HS.out.at (i := m) (by omega)
            obtain ⟨y0, y1⟩ := HS.out.at (i := a) (by omega)
            have HWW : Hid _ := fun w' (h : Sw W0 B g cap d1 w') => h.swp (i := m) (j := a) (by omega) (by omega)
            obtain ⟨⟨xt, xa⟩, hx⟩ : ∃ x, d1[m]! = x := ⟨_, rfl⟩
            obtain ⟨⟨yt, ya⟩, hy⟩ : ∃ x, d1[a]! = x := ⟨_, rfl⟩
            rw [hx, hy] at hxy HWW
            rw [hx] at x0 x1
            rw [hy] at y0 y1
            simp only at x0 x1 y0 y1 hxy
            have hC := fun w => order_any xt xa yt ya w
            generalize cmpS xt xa yt ya = r at hC hxy
            rcases hxy with ⟨hr, hl⟩ | ⟨hr, hl⟩
            · have HN : Hid _ := HU.out.2 (by rw [hx, hy]; exact hl)
              clear hl HU HWW hx hy
              go_wp2_with fail
              refine wp_region_held_drew (S := fun w' => w'.cell? ⟨g, m * 2, none⟩ = some (.int .i64 xt) ∧ w'.cell? ⟨g, m * 2 + 1, none⟩ = some (.int .i64 xa) ∧ w'.cell? ⟨g, a * 2, none⟩ = some (.int .i64 yt) ∧ w'.cell? ⟨g, a * 2 + 1, none⟩ = some (.int .i64 ya)) (by kernel_rfl) ⟨x0, x1, y0, y1⟩ (fun hHeld => ?_)
              refine tkH 0 ((.int .i64 (i2 : Int))) rfl (Or.inl ⟨by rfl, by intro w hSw; obtain ⟨s0, s1, s2, s3⟩ := hSw; go_simp⟩) hHeld ?_
              simp only [tkS, Act.put]
              refine tkH 1 ((.int .i64 (m : Int))) rfl (Or.inl ⟨by rfl, by intro w hSw; obtain ⟨s0, s1, s2, s3⟩ := hSw; go_simp⟩) hHeld ?_
              simp only [tkS, Act.put]
              refine tkH 2 ((.bool true)) rfl (Or.inl ⟨by rfl, by intro w hSw; obtain ⟨s0, s1, s2, s3⟩ := hSw; go_simp⟩) hHeld ?_
              simp only [tkS, Act.put]
              refine tkH 3 ((.bool true)) rfl (Or.inl ⟨by rfl, by intro w hSw; obtain ⟨s0, s1, s2, s3⟩ := hSw; go_simp⟩) hHeld ?_
              simp only [tkS, Act.put]
              refine tkH 4 ((.func (.func 53) #[.agg #[]] #[])) rfl (Or.inl ⟨by rfl, by intro w hSw; obtain ⟨s0, s1, s2, s3⟩ := hSw; go_simp⟩) hHeld ?_
              simp only [tkS, Act.put]
              refine tkH 5 ((.slice (some ⟨g, 0, none⟩) n cap)) rfl (Or.inl ⟨by rfl, by intro w hSw; obtain ⟨s0, s1, s2, s3⟩ := hSw; go_simp⟩) hHeld ?_
              simp only [tkS, Act.put]
              refine tkH 6 ((.int .i64 (m : Int))) rfl (Or.inl ⟨by rfl, by intro w hSw; obtain ⟨s0, s1, s2, s3⟩ := hSw; go_simp⟩) hHeld ?_
              simp only [tkS, Act.put]
              refine tkH 7 ((.pointer (some ⟨g, m * 2, none⟩))) rfl (Or.inl ⟨by rfl, by intro w hSw; obtain ⟨s0, s1, s2, s3⟩ := hSw; go_simp⟩) hHeld ?_
              simp only [tkS, Act.put]
              refine tkH 8 ((.agg #[.int .i64 xt, .int .i64 xa])) rfl (Or.inl ⟨by rfl, by intro w hSw; obtain ⟨s0, s1, s2, s3⟩ := hSw; go_simp⟩) hHeld ?_
              simp only [tkS, Act.put]
              refine tkH 9 ((.slice (some ⟨g, 0, none⟩) n cap)) rfl (Or.inl ⟨by rfl, by intro w hSw; obtain ⟨s0, s1, s2, s3⟩ := hSw; go_simp⟩) hHeld ?_
              simp only [tkS, Act.put]
              refine tkH 10 ((.int .i64 (a : Int))) rfl (Or.inl ⟨by rfl, by intro w hSw; obtain ⟨s0, s1, s2, s3⟩ := hSw; go_simp⟩) hHeld ?_
              simp only [tkS, Act.put]
              refine tkH 11 ((.pointer (some ⟨g, a * 2, none⟩))) rfl (Or.inl ⟨by rfl, by intro w hSw; obtain ⟨s0, s1, s2, s3⟩ := hSw; go_simp⟩) hHeld ?_
              simp only [tkS, Act.put]
              refine tkH 12 ((.agg #[.int .i64 yt, .int .i64 ya])) rfl (Or.inl ⟨by rfl, by intro w hSw; obtain ⟨s0, s1, s2, s3⟩ := hSw; go_simp⟩) hHeld ?_
              simp only [tkS, Act.put]
              refine wpAnyH_ready (rs := [13]) (by kernel_rfl) (by simp) ?_
              refine AllReadyH.cons rfl (fun K hK => ?_) AllReadyH.nil
              go_simp
              refine (hC _).mono ?_
              rintro e w2 ⟨rfl, hb2⟩
              go_wp2_with fail
              refine hK.out _ _ ⟨cell_on hb2 hHeld.1, cell_on hb2 hHeld.2.1, cell_on hb2 hHeld.2.2.1, cell_on hb2 hHeld.2.2.2⟩ (fun hHeld2 => ?_)
              clear hK K
              replace HS := swOn (swDrew HS) hb2
              clear hb2 x0 x1 y0 y1
              refine wpAnyH_take (i := 14) (v := (.bool true)) rfl (by kernel_rfl) (by kernel_rfl) (by kernel_rfl) (fun _ _ _ h => h) (Or.inl ⟨by rfl, by intro w hSw; obtain ⟨s0, s1, s2, s3⟩ := hSw; go_simp⟩) hHeld2 ?_
              simp only [tkS, Act.put]
              refine wpAnyH_take (i := 15) (v := (.bool false)) rfl (by kernel_rfl) (by kernel_rfl) (by kernel_rfl) (fun _ _ _ h => h) (Or.inl ⟨by rfl, by intro w hSw; obtain ⟨s0, s1, s2, s3⟩ := hSw; go_simp⟩) hHeld2 ?_
              simp only [tkS, Act.put]
              refine wpAnyH_take (i := 16) (v := (.bool false)) rfl (by kernel_rfl) (by kernel_rfl) (by kernel_rfl) (fun _ _ _ h => h) (Or.inl ⟨by rfl, by intro w hSw; obtain ⟨s0, s1, s2, s3⟩ := hSw; go_simp⟩) hHeld2 ?_
              simp only [tkS, Act.put]
              refine wpAnyH_done (by kernel_rfl) ?_ _
              clear hHeld hHeld2
              go_wp2_with fail
              go_meet
              case rel => exact ⟨m, rfl, hm0, by unfold Hid; rw [← HM.out, HN.out], HS⟩
            · have HN : Hid _ := HU.out.1 (by rw [hx, hy]; exact hl)
              clear hl HU HWW hx hy
              go_wp2_with fail
              refine wp_region_held_drew (S := fun w' => w'.cell? ⟨g, m * 2, none⟩ = some (.int .i64 xt) ∧ w'.cell? ⟨g, m * 2 + 1, none⟩ = some (.int .i64 xa) ∧ w'.cell? ⟨g, a * 2, none⟩ = some (.int .i64 yt) ∧ w'.cell? ⟨g, a * 2 + 1, none⟩ = some (.int .i64 ya)) (by kernel_rfl) ⟨x0, x1, y0, y1⟩ (fun hHeld => ?_)
              refine tkH 0 ((.int .i64 (i2 : Int))) rfl (Or.inl ⟨by rfl, by intro w hSw; obtain ⟨s0, s1, s2, s3⟩ := hSw; go_simp⟩) hHeld ?_
              simp only [tkS, Act.put]
              refine tkH 1 ((.int .i64 (m : Int))) rfl (Or.inl ⟨by rfl, by intro w hSw; obtain ⟨s0, s1, s2, s3⟩ := hSw; go_simp⟩) hHeld ?_
              simp only [tkS, Act.put]
              refine tkH 2 ((.bool true)) rfl (Or.inl ⟨by rfl, by intro w hSw; obtain ⟨s0, s1, s2, s3⟩ := hSw; go_simp⟩) hHeld ?_
              simp only [tkS, Act.put]
              refine tkH 3 ((.bool true)) rfl (Or.inl ⟨by rfl, by intro w hSw; obtain ⟨s0, s1, s2, s3⟩ := hSw; go_simp⟩) hHeld ?_
              simp only [tkS, Act.put]
              refine tkH 4 ((.func (.func 53) #[.agg #[]] #[])) rfl (Or.inl ⟨by rfl, by intro w hSw; obtain ⟨s0, s1, s2, s3⟩ := hSw; go_simp⟩) hHeld ?_
              simp only [tkS, Act.put]
              refine tkH 5 ((.slice (some ⟨g, 0, none⟩) n cap)) rfl (Or.inl ⟨by rfl, by intro w hSw; obtain ⟨s0, s1, s2, s3⟩ := hSw; go_simp⟩) hHeld ?_
              simp only [tkS, Act.put]
              refine tkH 6 ((.int .i64 (m : Int))) rfl (Or.inl ⟨by rfl, by intro w hSw; obtain ⟨s0, s1, s2, s3⟩ := hSw; go_simp⟩) hHeld ?_
              simp only [tkS, Act.put]
              refine tkH 7 ((.pointer (some ⟨g, m * 2, none⟩))) rfl (Or.inl ⟨by rfl, by intro w hSw; obtain ⟨s0, s1, s2, s3⟩ := hSw; go_simp⟩) hHeld ?_
              simp only [tkS, Act.put]
              refine tkH 8 ((.agg #[.int .i64 xt, .int .i64 xa])) rfl (Or.inl ⟨by rfl, by intro w hSw; obtain ⟨s0, s1, s2, s3⟩ := hSw; go_simp⟩) hHeld ?_
              simp only [tkS, Act.put]
              refine tkH 9 ((.slice (some ⟨g, 0, none⟩) n cap)) rfl (Or.inl ⟨by rfl, by intro w hSw; obtain ⟨s0, s1, s2, s3⟩ := hSw; go_simp⟩) hHeld ?_
              simp only [tkS, Act.put]
              refine tkH 10 ((.int .i64 (a : Int))) rfl (Or.inl ⟨by rfl, by intro w hSw; obtain ⟨s0, s1, s2, s3⟩ := hSw; go_simp⟩) hHeld ?_
              simp only [tkS, Act.put]
              refine tkH 11 ((.pointer (some ⟨g, a * 2, none⟩))) rfl (Or.inl ⟨by rfl, by intro w hSw; obtain ⟨s0, s1, s2, s3⟩ := hSw; go_simp⟩) hHeld ?_
              simp only [tkS, Act.put]
              refine tkH 12 ((.agg #[.int .i64 yt, .int .i64 ya])) rfl (Or.inl ⟨by rfl, by intro w hSw; obtain ⟨s0, s1, s2, s3⟩ := hSw; go_simp⟩) hHeld ?_
              simp only [tkS, Act.put]
              refine wpAnyH_ready (rs := [13]) (by kernel_rfl) (by simp) ?_
              refine AllReadyH.cons rfl (fun K hK => ?_) AllReadyH.nil
              go_simp
              refine (hC _).mono ?_
              rintro e w2 ⟨rfl, hb2⟩
              go_wp2_with fail
              refine hK.out _ _ ⟨cell_on hb2 hHeld.1, cell_on hb2 hHeld.2.1, cell_on hb2 hHeld.2.2.1, cell_on hb2 hHeld.2.2.2⟩ (fun hHeld2 => ?_)
              clear hK K
              replace HS := swOn (swDrew HS) hb2
              clear hb2 x0 x1 y0 y1
              refine wpAnyH_take (i := 14) (v := (.bool false)) rfl (by kernel_rfl) (by kernel_rfl) (by kernel_rfl) (fun _ _ _ h => h) (Or.inl ⟨by rfl, by intro w hSw; obtain ⟨s0, s1, s2, s3⟩ := hSw; go_simp⟩) hHeld2 ?_
              simp only [tkS, Act.put]
              refine wpAnyH_take (i := 15) (v := (.bool true)) rfl (by kernel_rfl) (by kernel_rfl) (by kernel_rfl) (fun _ _ _ h => h) (Or.inl ⟨by rfl, by intro w hSw; obtain ⟨s0, s1, s2, s3⟩ := hSw; go_simp⟩) hHeld2 ?_
              simp only [tkS, Act.put]
              refine wpAnyH_take (i := 16) (v := (.bool true)) rfl (by kernel_rfl) (by kernel_rfl) (by kernel_rfl) (fun _ _ _ h => h) (Or.inl ⟨by rfl, by intro w hSw; obtain ⟨s0, s1, s2, s3⟩ := hSw; go_simp⟩) hHeld2 ?_
              simp only [tkS, Act.put]
              refine wpAnyH_done (by kernel_rfl) ?_ _
              clear hHeld hHeld2
              go_wp2_with fail
              go_roundw
              case rel => exact ⟨m', by go_num, by have := HM'.out; omega, by unfold Hid; rw [← HM.out, HN.out], HS⟩
              case measure => have := HM'.out; simp [intOf]; omega
          · have hmjI : ¬ (i2 : Int) ≤ (m : Int) := by omega
            have HN : Hid (scanDown (fun x => !ltS x d1[a]!) d1 i2 m = m) := by
              unfold Hid
              cases m with
              | zero => rfl
              | succ m => rw [scanDown, if_neg (by simp [hmj])]
            go_wp2_with fail
            go_quiet (fail)
            go_wp2_with fail
            go_meet
            case rel => exact ⟨m, rfl, hm0, by unfold Hid; rw [← HM.out, HN.out], swDrewN HS nq⟩
      case rest =>
        clear HS
        obtain ⟨j2, rfl, hj2, HJ2, HS⟩ := hcut
        rw [HJ2.out] at HPP
        by_cases hgt : j2 < i2
        · have hgtI : (j2 : Int) < (i2 : Int) := by omega
          rw [if_pos hgt] at HPP
          have HN : Hid _ := HPP
          have j20 : (0 : Int) ≤ (j2 : Int) := by omega
          have j21 : (j2 : Int) < (n : Int) := by omega
          clear HPP
          go_upto_region 8 with fail
          go_cut [85] from 72 to 85 (fun tt wx => Hid (Sw W0 B g cap (swp d1 j2 a) wx))
          case first =>
            have hxy := cmp_lt d1[j2]! d1[a]!
            obtain ⟨x0, x1⟩ := HS.out.at (i := j2) (by omega)
            obtain ⟨y0, y1⟩ := HS.out.at (i := a) (by omega)
            have HWW : Hid _ := fun w' (h : Sw W0 B g cap d1 w') => h.swp (i := j2) (j := a) (by omega) (by omega)
            obtain ⟨⟨xt, xa⟩, hx⟩ : ∃ x, d1[j2]! = x := ⟨_, rfl⟩
            obtain ⟨⟨yt, ya⟩, hy⟩ : ∃ x, d1[a]! = x := ⟨_, rfl⟩
            rw [hx, hy] at hxy HWW
            rw [hx] at x0 x1
            rw [hy] at y0 y1
            simp only at x0 x1 y0 y1 hxy
            have hC := fun w => order_any xt xa yt ya w
            generalize cmpS xt xa yt ya = r at hC hxy
            clear hxy hC
            have hSd := (swDrew HS).out
            obtain ⟨x0, x1⟩ := hSd.at (i := j2) (by omega)
            obtain ⟨y0, y1⟩ := hSd.at (i := a) (by omega)
            rw [hx] at x0 x1
            rw [hy] at y0 y1
            obtain ⟨u0, u1, u2, u3, ⟨e0, f0⟩, ⟨e1, f1⟩, ⟨e2, f2⟩, ⟨e3, f3⟩⟩ := HS.out.steps (i := j2) (j := a) (by omega) (by omega) (.int .i64 yt) (.int .i64 ya) (.int .i64 xt)
            have HF : Hid (Sw W0 B g cap (swp d1 j2 a) ((((wc.setCell ⟨g, j2 * 2, none⟩ (.int .i64 yt)).setCell ⟨g, j2 * 2 + 1, none⟩ (.int .i64 ya)).setCell ⟨g, a * 2, none⟩ (.int .i64 xt)).setCell ⟨g, a * 2 + 1, none⟩ (.int .i64 xa)).drew) := HWW.out _ hSd
            simp only at x0 x1 y0 y1
            clear hSd hx hy e0
            refine wp_region_held_drew (S := fun w' => True) (by kernel_rfl) trivial (fun hHeld => ?_)
            refine tkH 0 ((.slice (some ⟨g, 0, none⟩) n cap)) rfl (Or.inl ⟨by rfl, by intro w hSw; go_simp⟩) hHeld ?_
            simp only [tkS, Act.put]
            refine tkH 1 ((.int .i64 (j2 : Int))) rfl (Or.inl ⟨by rfl, by intro w hSw; go_simp⟩) hHeld ?_
            simp only [tkS, Act.put]
            refine tkH 2 ((.slice (some ⟨g, 0, none⟩) n cap)) rfl (Or.inl ⟨by rfl, by intro w hSw; go_simp⟩) hHeld ?_
            simp only [tkS, Act.put]
            refine tkH 3 ((.int .i64 (a : Int))) rfl (Or.inl ⟨by rfl, by intro w hSw; go_simp⟩) hHeld ?_
            simp only [tkS, Act.put]
            refine tkH 4 ((.slice (some ⟨g, 0, none⟩) n cap)) rfl (Or.inl ⟨by rfl, by intro w hSw; go_simp⟩) hHeld ?_
            simp only [tkS, Act.put]
            refine tkH 5 ((.int .i64 (a : Int))) rfl (Or.inl ⟨by rfl, by intro w hSw; go_simp⟩) hHeld ?_
            simp only [tkS, Act.put]
            refine tkH 6 ((.pointer (some ⟨g, a * 2, none⟩))) rfl (Or.inl ⟨by rfl, by intro w hSw; go_simp⟩) hHeld ?_
            simp only [tkS, Act.put]
            refine tkH 8 ((.slice (some ⟨g, 0, none⟩) n cap)) rfl (Or.inl ⟨by rfl, by intro w hSw; go_simp⟩) hHeld ?_
            simp only [tkS, Act.put]
            refine tkH 9 ((.int .i64 (j2 : Int))) rfl (Or.inl ⟨by rfl, by intro w hSw; go_simp⟩) hHeld ?_
            simp only [tkS, Act.put]
            refine tkH 10 ((.pointer (some ⟨g, j2 * 2, none⟩))) rfl (Or.inl ⟨by rfl, by intro w hSw; go_simp⟩) hHeld ?_
            simp only [tkS, Act.put]
            refine wpAnyH_ready (rs := [7, 11]) (by kernel_rfl) (by simp) ?_
            refine AllReadyH.cons rfl (fun K hK => ?wayA2) (AllReadyH.cons rfl (fun K hK => ?wayB2) AllReadyH.nil)
            case' wayA2 =>
              go_simp
              refine hK.out _ _ trivial (fun hHeld1 => ?_)
              clear hK K
              refine wpAnyH_ready (rs := [11]) (by kernel_rfl) (by simp) ?_
              refine AllReadyH.cons rfl (fun K hK => ?_) AllReadyH.nil
              go_simp
              refine hK.out _ _ trivial (fun hHeld2 => ?_)
              clear hK K
            case' wayB2 =>
              go_simp
              refine hK.out _ _ trivial (fun hHeld1 => ?_)
              clear hK K
              refine wpAnyH_ready (rs := [7]) (by kernel_rfl) (by simp) ?_
              refine AllReadyH.cons rfl (fun K hK => ?_) AllReadyH.nil
              go_simp
              refine hK.out _ _ trivial (fun hHeld2 => ?_)
              clear hK K
            all_goals
              refine wpAnyH_take (i := 12) (v := (.pointer (some ⟨g, j2 * 2, none⟩))) rfl (by kernel_rfl) (by kernel_rfl) (by kernel_rfl) (fun _ _ _ h => h) (Or.inl ⟨by rfl, by intro w hSw; go_simp⟩) hHeld2 ?_
              simp only [tkS, Act.put]
              refine wpAnyH_ready (rs := [13]) (by kernel_rfl) (by simp) ?_
              refine AllReadyH.cons rfl (fun K hK => ?_) AllReadyH.nil
              go_simp
              refine hK.out _ _ trivial (fun hHeld3 => ?_)
              clear hK K
              refine wpAnyH_take (i := 14) (v := (.pointer (some ⟨g, a * 2, none⟩))) rfl (by kernel_rfl) (by kernel_rfl) (by kernel_rfl) (fun _ _ _ h => h) (Or.inl ⟨by rfl, by intro w hSw; go_simp⟩) hHeld3 ?_
              simp only [tkS, Act.put]
              refine wpAnyH_ready (rs := [15]) (by kernel_rfl) (by simp) ?_
              refine AllReadyH.cons rfl (fun K hK => ?_) AllReadyH.nil
              go_simp
              refine hK.out _ _ trivial (fun hHeld4 => ?_)
              clear hK K
              refine wpAnyH_done (by kernel_rfl) ?_ _
            all_goals
              go_wp2_with fail
              go_meet
              case rel => exact HF
          case rest =>
            replace HS := hcut
            clear hcut
            go_wp2_with fail
            refine bodyPost_ret (v := .tuple #[.int .i64 (j2 : Int), .bool true]) ?_ rfl ⟨?_, ?_⟩
            · simp [results, Tryz.results105, go_sem]
            · rw [HN.out]
            · rw [HN.out]
              exact HS.out
        · have hgtI : ¬ (j2 : Int) < (i2 : Int) := by omega
          rw [if_neg hgt] at HPP
          have HN : Hid _ := HPP
          have i20 : (0 : Int) ≤ (i2 : Int) := by omega
          have i21 : (i2 : Int) < (n : Int) := by omega
          have j20 : (0 : Int) ≤ (j2 : Int) := by omega
          have j21 : (j2 : Int) < (n : Int) := by omega
          have i22 : (i2 : Int) + 1 < 9223372036854775808 := by omega
          obtain ⟨j3, hj3⟩ : ∃ j3, j3 = j2 - 1 := ⟨_, rfl⟩
          have hj3I : (j2 : Int) - 1 = (j3 : Int) := by omega
          have hj3n : j3 < n := by omega
          rw [← hj3] at HN
          clear HPP hj3 HI2 HJ2
          go_upto_region 10 with fail
          go_cut [100] from 87 to 100 (fun tt wx => Hid (Sw W0 B g cap (swp d1 i2 j2) wx))
          case first =>
            have hxy := cmp_lt d1[i2]! d1[j2]!
            obtain ⟨x0, x1⟩ := HS.out.at (i := i2) (by omega)
            obtain ⟨y0, y1⟩ := HS.out.at (i := j2) (by omega)
            have HWW : Hid _ := fun w' (h : Sw W0 B g cap d1 w') => h.swp (i := i2) (j := j2) (by omega) (by omega)
            obtain ⟨⟨xt, xa⟩, hx⟩ : ∃ x, d1[i2]! = x := ⟨_, rfl⟩
            obtain ⟨⟨yt, ya⟩, hy⟩ : ∃ x, d1[j2]! = x := ⟨_, rfl⟩
            rw [hx, hy] at hxy HWW
            rw [hx] at x0 x1
            rw [hy] at y0 y1
            simp only at x0 x1 y0 y1 hxy
            have hC := fun w => order_any xt xa yt ya w
            generalize cmpS xt xa yt ya = r at hC hxy
            clear hxy hC
            have hSd := (swDrew HS).out
            obtain ⟨x0, x1⟩ := hSd.at (i := i2) (by omega)
            obtain ⟨y0, y1⟩ := hSd.at (i := j2) (by omega)
            rw [hx] at x0 x1
            rw [hy] at y0 y1
            obtain ⟨u0, u1, u2, u3, ⟨e0, f0⟩, ⟨e1, f1⟩, ⟨e2, f2⟩, ⟨e3, f3⟩⟩ := HS.out.steps (i := i2) (j := j2) (by omega) (by omega) (.int .i64 yt) (.int .i64 ya) (.int .i64 xt)
            have HF : Hid (Sw W0 B g cap (swp d1 i2 j2) ((((wc.setCell ⟨g, i2 * 2, none⟩ (.int .i64 yt)).setCell ⟨g, i2 * 2 + 1, none⟩ (.int .i64 ya)).setCell ⟨g, j2 * 2, none⟩ (.int .i64 xt)).setCell ⟨g, j2 * 2 + 1, none⟩ (.int .i64 xa)).drew) := HWW.out _ hSd
            simp only at x0 x1 y0 y1
            clear hSd hx hy e0
            refine wp_region_held_drew (S := fun w' => True) (by kernel_rfl) trivial (fun hHeld => ?_)
            refine tkH 0 ((.slice (some ⟨g, 0, none⟩) n cap)) rfl (Or.inl ⟨by rfl, by intro w hSw; go_simp⟩) hHeld ?_
            simp only [tkS, Act.put]
            refine tkH 1 ((.int .i64 (i2 : Int))) rfl (Or.inl ⟨by rfl, by intro w hSw; go_simp⟩) hHeld ?_
            simp only [tkS, Act.put]
            refine tkH 2 ((.slice (some ⟨g, 0, none⟩) n cap)) rfl (Or.inl ⟨by rfl, by intro w hSw; go_simp⟩) hHeld ?_
            simp only [tkS, Act.put]
            refine tkH 3 ((.int .i64 (j2 : Int))) rfl (Or.inl ⟨by rfl, by intro w hSw; go_simp⟩) hHeld ?_
            simp only [tkS, Act.put]
            refine tkH 4 ((.slice (some ⟨g, 0, none⟩) n cap)) rfl (Or.inl ⟨by rfl, by intro w hSw; go_simp⟩) hHeld ?_
            simp only [tkS, Act.put]
            refine tkH 5 ((.int .i64 (j2 : Int))) rfl (Or.inl ⟨by rfl, by intro w hSw; go_simp⟩) hHeld ?_
            simp only [tkS, Act.put]
            refine tkH 6 ((.pointer (some ⟨g, j2 * 2, none⟩))) rfl (Or.inl ⟨by rfl, by intro w hSw; go_simp⟩) hHeld ?_
            simp only [tkS, Act.put]
            refine tkH 8 ((.slice (some ⟨g, 0, none⟩) n cap)) rfl (Or.inl ⟨by rfl, by intro w hSw; go_simp⟩) hHeld ?_
            simp only [tkS, Act.put]
            refine tkH 9 ((.int .i64 (i2 : Int))) rfl (Or.inl ⟨by rfl, by intro w hSw; go_simp⟩) hHeld ?_
            simp only [tkS, Act.put]
            refine tkH 10 ((.pointer (some ⟨g, i2 * 2, none⟩))) rfl (Or.inl ⟨by rfl, by intro w hSw; go_simp⟩) hHeld ?_
            simp only [tkS, Act.put]
            refine wpAnyH_ready (rs := [7, 11]) (by kernel_rfl) (by simp) ?_
            refine AllReadyH.cons rfl (fun K hK => ?wayA3) (AllReadyH.cons rfl (fun K hK => ?wayB3) AllReadyH.nil)
            case' wayA3 =>
              go_simp
              refine hK.out _ _ trivial (fun hHeld1 => ?_)
              clear hK K
              refine wpAnyH_ready (rs := [11]) (by kernel_rfl) (by simp) ?_
              refine AllReadyH.cons rfl (fun K hK => ?_) AllReadyH.nil
              go_simp
              refine hK.out _ _ trivial (fun hHeld2 => ?_)
              clear hK K
            case' wayB3 =>
              go_simp
              refine hK.out _ _ trivial (fun hHeld1 => ?_)
              clear hK K
              refine wpAnyH_ready (rs := [7]) (by kernel_rfl) (by simp) ?_
              refine AllReadyH.cons rfl (fun K hK => ?_) AllReadyH.nil
              go_simp
              refine hK.out _ _ trivial (fun hHeld2 => ?_)
              clear hK K
            all_goals
              refine wpAnyH_take (i := 12) (v := (.pointer (some ⟨g, i2 * 2, none⟩))) rfl (by kernel_rfl) (by kernel_rfl) (by kernel_rfl) (fun _ _ _ h => h) (Or.inl ⟨by rfl, by intro w hSw; go_simp⟩) hHeld2 ?_
              simp only [tkS, Act.put]
              refine wpAnyH_ready (rs := [13]) (by kernel_rfl) (by simp) ?_
              refine AllReadyH.cons rfl (fun K hK => ?_) AllReadyH.nil
              go_simp
              refine hK.out _ _ trivial (fun hHeld3 => ?_)
              clear hK K
              refine wpAnyH_take (i := 14) (v := (.pointer (some ⟨g, j2 * 2, none⟩))) rfl (by kernel_rfl) (by kernel_rfl) (by kernel_rfl) (fun _ _ _ h => h) (Or.inl ⟨by rfl, by intro w hSw; go_simp⟩) hHeld3 ?_
              simp only [tkS, Act.put]
              refine wpAnyH_ready (rs := [15]) (by kernel_rfl) (by simp) ?_
              refine AllReadyH.cons rfl (fun K hK => ?_) AllReadyH.nil
              go_simp
              refine hK.out _ _ trivial (fun hHeld4 => ?_)
              clear hK K
              refine wpAnyH_done (by kernel_rfl) ?_ _
            all_goals
              go_wp2_with fail
              go_meet
              case rel => exact HF
          case rest =>
            replace HS := hcut
            clear hcut
            have hn2 : (swp d1 i2 j2).size = n := by rw [swp_size]; exact hn1
            generalize swp d1 i2 j2 = d2 at HS hn2 HN
            go_wp2_with fail
            go_loopw [12, 13] (fun t12 t13 wr => ∃ (i j : Nat) (dk : Array Sp), t12 = .int .i64 (i : Int) ∧ t13 = .int .i64 (j : Int) ∧ 1 ≤ i ∧ i ≤ n ∧ j < n ∧ dk.size = n ∧ Hid (Sw W0 B g cap dk wr) ∧ Hid (partLoop ltS a i j dk = partLoop ltS a (i2 + 1) j3 d2)) (fun t12 t13 _ => (intOf t13 + 1).toNat - (intOf t12).toNat)
            case atStart => exact ⟨i2 + 1, j3, d2, by go_num, by go_num, by omega, by omega, hj3n, hn2, HS, rfl⟩
            case round =>
              clear HS
              obtain ⟨i, j, dk, rfl, rfl, hi0, hi1, hj, hdk, HS, HE⟩ := hrel
              go_upto_block 6 with fail
              go_cut [12] from 105 to 122 (fun tt wx => ∃ m : Nat, tt = .int .i64 (m : Int) ∧ i ≤ m ∧ m ≤ (max i j) + 1 ∧ Hid (scanUp (fun x => ltS x dk[a]!) dk j i = m) ∧ Hid (Sw W0 B g cap dk wx))
              case first =>
                go_wp2_with fail
                go_loopw [12] (fun tt wx => ∃ m : Nat, tt = .int .i64 (m : Int) ∧ i ≤ m ∧ m ≤ max i j + 1 ∧ Hid (scanUp (fun x => ltS x dk[a]!) dk j m = scanUp (fun x => ltS x dk[a]!) dk j i) ∧ Hid (Sw W0 B g cap dk wx)) (fun tt _ => (j + 1) - (intOf tt).toNat)
                case atStart => exact ⟨i, rfl, Nat.le_refl _, by omega, rfl, HS⟩
                case round =>
                  clear HS
                  obtain ⟨m, rfl, hm0, hm1, HM, HS⟩ := hrel
                  by_cases hmj : m ≤ j
                  · have hmjI : (m : Int) ≤ (j : Int) := by omega
                    have m0 : (0 : Int) ≤ (m : Int) := by omega
                    have m1 : (m : Int) < (n : Int) := by omega
                    have m2 : (m : Int) + 1 < 9223372036854775808 := by omega
                    have HU : Hid ((ltS dk[m]! dk[a]! = true → scanUp (fun x => ltS x dk[a]!) dk j m = scanUp (fun x => ltS x dk[a]!) dk j (m + 1)) ∧ (ltS dk[m]! dk[a]! = false → scanUp (fun x => ltS x dk[a]!) dk j m = m)) := by
                      refine ⟨fun h => ?_, fun h => ?_⟩
                      · rw [scanUp, if_pos (by simp [hmj, h])]
                      · rw [scanUp, if_neg (by simp [h])]
                    have hxy := cmp_lt dk[m]! dk[a]!
                    obtain ⟨x0, x1⟩ := HS.out.at (i := m) (by omega)
                    obtain ⟨y0, y1⟩ := HS.out.at (i := a) (by omega)
                    have HWW : Hid _ := fun w' (h : Sw W0 B g cap dk w') => h.swp (i := m) (j := a) (by omega) (by omega)
                    obtain ⟨⟨xt, xa⟩, hx⟩ : ∃ x, dk[m]! = x := ⟨_, rfl⟩
                    obtain ⟨⟨yt, ya⟩, hy⟩ : ∃ x, dk[a]! = x := ⟨_, rfl⟩
                    rw [hx, hy] at hxy HWW
                    rw [hx] at x0 x1
                    rw [hy] at y0 y1
                    simp only at x0 x1 y0 y1 hxy
                    have hC := fun w => order_any xt xa yt ya w
                    generalize cmpS xt xa yt ya = r at hC hxy
                    rcases hxy with ⟨hr, hl⟩ | ⟨hr, hl⟩
                    · have HN : Hid _ := HU.out.1 (by rw [hx, hy]; exact hl)
                      clear hl HU HWW hx hy
                      go_wp2_with fail
                      refine wp_region_held_drew (S := fun w' => w'.cell? ⟨g, m * 2, none⟩ = some (.int .i64 xt) ∧ w'.cell? ⟨g, m * 2 + 1, none⟩ = some (.int .i64 xa) ∧ w'.cell? ⟨g, a * 2, none⟩ = some (.int .i64 yt) ∧ w'.cell? ⟨g, a * 2 + 1, none⟩ = some (.int .i64 ya)) (by kernel_rfl) ⟨x0, x1, y0, y1⟩ (fun hHeld => ?_)
                      refine tkH 0 ((.int .i64 (m : Int))) rfl (Or.inl ⟨by rfl, by intro w hSw; obtain ⟨s0, s1, s2, s3⟩ := hSw; go_simp⟩) hHeld ?_
                      simp only [tkS, Act.put]
                      refine tkH 1 ((.int .i64 (j : Int))) rfl (Or.inl ⟨by rfl, by intro w hSw; obtain ⟨s0, s1, s2, s3⟩ := hSw; go_simp⟩) hHeld ?_
                      simp only [tkS, Act.put]
                      refine tkH 2 ((.bool true)) rfl (Or.inl ⟨by rfl, by intro w hSw; obtain ⟨s0, s1, s2, s3⟩ := hSw; go_simp⟩) hHeld ?_
                      simp only [tkS, Act.put]
                      refine tkH 3 ((.bool true)) rfl (Or.inl ⟨by rfl, by intro w hSw; obtain ⟨s0, s1, s2, s3⟩ := hSw; go_simp⟩) hHeld ?_
                      simp only [tkS, Act.put]
                      refine tkH 4 ((.func (.func 53) #[.agg #[]] #[])) rfl (Or.inl ⟨by rfl, by intro w hSw; obtain ⟨s0, s1, s2, s3⟩ := hSw; go_simp⟩) hHeld ?_
                      simp only [tkS, Act.put]
                      refine tkH 5 ((.slice (some ⟨g, 0, none⟩) n cap)) rfl (Or.inl ⟨by rfl, by intro w hSw; obtain ⟨s0, s1, s2, s3⟩ := hSw; go_simp⟩) hHeld ?_
                      simp only [tkS, Act.put]
                      refine tkH 6 ((.int .i64 (m : Int))) rfl (Or.inl ⟨by rfl, by intro w hSw; obtain ⟨s0, s1, s2, s3⟩ := hSw; go_simp⟩) hHeld ?_
                      simp only [tkS, Act.put]
                      refine tkH 7 ((.pointer (some ⟨g, m * 2, none⟩))) rfl (Or.inl ⟨by rfl, by intro w hSw; obtain ⟨s0, s1, s2, s3⟩ := hSw; go_simp⟩) hHeld ?_
                      simp only [tkS, Act.put]
                      refine tkH 8 ((.agg #[.int .i64 xt, .int .i64 xa])) rfl (Or.inl ⟨by rfl, by intro w hSw; obtain ⟨s0, s1, s2, s3⟩ := hSw; go_simp⟩) hHeld ?_
                      simp only [tkS, Act.put]
                      refine tkH 9 ((.slice (some ⟨g, 0, none⟩) n cap)) rfl (Or.inl ⟨by rfl, by intro w hSw; obtain ⟨s0, s1, s2, s3⟩ := hSw; go_simp⟩) hHeld ?_
                      simp only [tkS, Act.put]
                      refine tkH 10 ((.int .i64 (a : Int))) rfl (Or.inl ⟨by rfl, by intro w hSw; obtain ⟨s0, s1, s2, s3⟩ := hSw; go_simp⟩) hHeld ?_
                      simp only [tkS, Act.put]
                      refine tkH 11 ((.pointer (some ⟨g, a * 2, none⟩))) rfl (Or.inl ⟨by rfl, by intro w hSw; obtain ⟨s0, s1, s2, s3⟩ := hSw; go_simp⟩) hHeld ?_
                      simp only [tkS, Act.put]
                      refine tkH 12 ((.agg #[.int .i64 yt, .int .i64 ya])) rfl (Or.inl ⟨by rfl, by intro w hSw; obtain ⟨s0, s1, s2, s3⟩ := hSw; go_simp⟩) hHeld ?_
                      simp only [tkS, Act.put]
                      refine wpAnyH_ready (rs := [13]) (by kernel_rfl) (by simp) ?_
                      refine AllReadyH.cons rfl (fun K hK => ?_) AllReadyH.nil
                      go_simp
                      refine (hC _).mono ?_
                      rintro e w2 ⟨rfl, hb2⟩
                      go_wp2_with fail
                      refine hK.out _ _ ⟨cell_on hb2 hHeld.1, cell_on hb2 hHeld.2.1, cell_on hb2 hHeld.2.2.1, cell_on hb2 hHeld.2.2.2⟩ (fun hHeld2 => ?_)
                      clear hK K
                      replace HS := swOn (swDrew HS) hb2
                      clear hb2 x0 x1 y0 y1
                      refine wpAnyH_take (i := 14) (v := (.bool true)) rfl (by kernel_rfl) (by kernel_rfl) (by kernel_rfl) (fun _ _ _ h => h) (Or.inl ⟨by rfl, by intro w hSw; obtain ⟨s0, s1, s2, s3⟩ := hSw; go_simp⟩) hHeld2 ?_
                      simp only [tkS, Act.put]
                      refine wpAnyH_take (i := 15) (v := (.bool true)) rfl (by kernel_rfl) (by kernel_rfl) (by kernel_rfl) (fun _ _ _ h => h) (Or.inl ⟨by rfl, by intro w hSw; obtain ⟨s0, s1, s2, s3⟩ := hSw; go_simp⟩) hHeld2 ?_
                      simp only [tkS, Act.put]
                      refine wpAnyH_done (by kernel_rfl) ?_ _
                      clear hHeld hHeld2
                      go_wp2_with fail
                      go_roundw
                      case rel => exact ⟨m + 1, by go_num, by omega, by omega, by unfold Hid; rw [← HM.out, HN.out], HS⟩
                      case measure => simp [intOf]; omega
                    · have HN : Hid _ := HU.out.2 (by rw [hx, hy]; exact hl)
                      clear hl HU HWW hx hy
                      go_wp2_with fail
                      refine wp_region_held_drew (S := fun w' => w'.cell? ⟨g, m * 2, none⟩ = some (.int .i64 xt) ∧ w'.cell? ⟨g, m * 2 + 1, none⟩ = some (.int .i64 xa) ∧ w'.cell? ⟨g, a * 2, none⟩ = some (.int .i64 yt) ∧ w'.cell? ⟨g, a * 2 + 1, none⟩ = some (.int .i64 ya)) (by kernel_rfl) ⟨x0, x1, y0, y1⟩ (fun hHeld => ?_)
                      refine tkH 0 ((.int .i64 (m : Int))) rfl (Or.inl ⟨by rfl, by intro w hSw; obtain ⟨s0, s1, s2, s3⟩ := hSw; go_simp⟩) hHeld ?_
                      simp only [tkS, Act.put]
                      refine tkH 1 ((.int .i64 (j : Int))) rfl (Or.inl ⟨by rfl, by intro w hSw; obtain ⟨s0, s1, s2, s3⟩ := hSw; go_simp⟩) hHeld ?_
                      simp only [tkS, Act.put]
                      refine tkH 2 ((.bool true)) rfl (Or.inl ⟨by rfl, by intro w hSw; obtain ⟨s0, s1, s2, s3⟩ := hSw; go_simp⟩) hHeld ?_
                      simp only [tkS, Act.put]
                      refine tkH 3 ((.bool true)) rfl (Or.inl ⟨by rfl, by intro w hSw; obtain ⟨s0, s1, s2, s3⟩ := hSw; go_simp⟩) hHeld ?_
                      simp only [tkS, Act.put]
                      refine tkH 4 ((.func (.func 53) #[.agg #[]] #[])) rfl (Or.inl ⟨by rfl, by intro w hSw; obtain ⟨s0, s1, s2, s3⟩ := hSw; go_simp⟩) hHeld ?_
                      simp only [tkS, Act.put]
                      refine tkH 5 ((.slice (some ⟨g, 0, none⟩) n cap)) rfl (Or.inl ⟨by rfl, by intro w hSw; obtain ⟨s0, s1, s2, s3⟩ := hSw; go_simp⟩) hHeld ?_
                      simp only [tkS, Act.put]
                      refine tkH 6 ((.int .i64 (m : Int))) rfl (Or.inl ⟨by rfl, by intro w hSw; obtain ⟨s0, s1, s2, s3⟩ := hSw; go_simp⟩) hHeld ?_
                      simp only [tkS, Act.put]
                      refine tkH 7 ((.pointer (some ⟨g, m * 2, none⟩))) rfl (Or.inl ⟨by rfl, by intro w hSw; obtain ⟨s0, s1, s2, s3⟩ := hSw; go_simp⟩) hHeld ?_
                      simp only [tkS, Act.put]
                      refine tkH 8 ((.agg #[.int .i64 xt, .int .i64 xa])) rfl (Or.inl ⟨by rfl, by intro w hSw; obtain ⟨s0, s1, s2, s3⟩ := hSw; go_simp⟩) hHeld ?_
                      simp only [tkS, Act.put]
                      refine tkH 9 ((.slice (some ⟨g, 0, none⟩) n cap)) rfl (Or.inl ⟨by rfl, by intro w hSw; obtain ⟨s0, s1, s2, s3⟩ := hSw; go_simp⟩) hHeld ?_
                      simp only [tkS, Act.put]
                      refine tkH 10 ((.int .i64 (a : Int))) rfl (Or.inl ⟨by rfl, by intro w hSw; obtain ⟨s0, s1, s2, s3⟩ := hSw; go_simp⟩) hHeld ?_
                      simp only [tkS, Act.put]
                      refine tkH 11 ((.pointer (some ⟨g, a * 2, none⟩))) rfl (Or.inl ⟨by rfl, by intro w hSw; obtain ⟨s0, s1, s2, s3⟩ := hSw; go_simp⟩) hHeld ?_
                      simp only [tkS, Act.put]
                      refine tkH 12 ((.agg #[.int .i64 yt, .int .i64 ya])) rfl (Or.inl ⟨by rfl, by intro w hSw; obtain ⟨s0, s1, s2, s3⟩ := hSw; go_simp⟩) hHeld ?_
                      simp only [tkS, Act.put]
                      refine wpAnyH_ready (rs := [13]) (by kernel_rfl) (by simp) ?_
                      refine AllReadyH.cons rfl (fun K hK => ?_) AllReadyH.nil
                      go_simp
                      refine (hC _).mono ?_
                      rintro e w2 ⟨rfl, hb2⟩
                      go_wp2_with fail
                      refine hK.out _ _ ⟨cell_on hb2 hHeld.1, cell_on hb2 hHeld.2.1, cell_on hb2 hHeld.2.2.1, cell_on hb2 hHeld.2.2.2⟩ (fun hHeld2 => ?_)
                      clear hK K
                      replace HS := swOn (swDrew HS) hb2
                      clear hb2 x0 x1 y0 y1
                      refine wpAnyH_take (i := 14) (v := (.bool false)) rfl (by kernel_rfl) (by kernel_rfl) (by kernel_rfl) (fun _ _ _ h => h) (Or.inl ⟨by rfl, by intro w hSw; obtain ⟨s0, s1, s2, s3⟩ := hSw; go_simp⟩) hHeld2 ?_
                      simp only [tkS, Act.put]
                      refine wpAnyH_take (i := 15) (v := (.bool false)) rfl (by kernel_rfl) (by kernel_rfl) (by kernel_rfl) (fun _ _ _ h => h) (Or.inl ⟨by rfl, by intro w hSw; obtain ⟨s0, s1, s2, s3⟩ := hSw; go_simp⟩) hHeld2 ?_
                      simp only [tkS, Act.put]
                      refine wpAnyH_done (by kernel_rfl) ?_ _
                      clear hHeld hHeld2
                      go_wp2_with fail
                      go_meet
                      case rel => exact ⟨m, rfl, hm0, hm1, by unfold Hid; rw [← HM.out, HN.out], HS⟩
                  · have hmjI : ¬ (m : Int) ≤ (j : Int) := by omega
                    have HN : Hid (scanUp (fun x => ltS x dk[a]!) dk j m = m) := by
                      unfold Hid
                      rw [scanUp, if_neg (by simp [hmj])]
                    go_wp2_with fail
                    go_quiet (fail)
                    go_wp2_with fail
                    go_meet
                    case rel => exact ⟨m, rfl, hm0, hm1, by unfold Hid; rw [← HM.out, HN.out], swDrewN HS nq⟩
              case rest =>
                clear HS
                obtain ⟨i4, rfl, hi4, hi5, HI4, HS⟩ := hcut
                go_upto_block 8 with fail
                go_cut [13] from 123 to 141 (fun tt wx => ∃ m : Nat, tt = .int .i64 (m : Int) ∧ m ≤ j ∧ Hid (scanDown (fun x => !ltS x dk[a]!) dk i4 j = m) ∧ Hid (Sw W0 B g cap dk wx))
                case first =>
                  go_wp2_with fail
                  go_loopw [13] (fun tt wx => ∃ m : Nat, tt = .int .i64 (m : Int) ∧ m ≤ j ∧ Hid (scanDown (fun x => !ltS x dk[a]!) dk i4 m = scanDown (fun x => !ltS x dk[a]!) dk i4 j) ∧ Hid (Sw W0 B g cap dk wx)) (fun tt _ => (intOf tt).toNat)
                  case atStart => exact ⟨j, rfl, Nat.le_refl _, rfl, HS⟩
                  case round =>
                    clear HS
                    obtain ⟨m, rfl, hm0, HM, HS⟩ := hrel
                    by_cases hmj : i4 ≤ m
                    · have hmjI : (i4 : Int) ≤ (m : Int) := by omega
                      have m0 : (0 : Int) ≤ (m : Int) := by omega
                      have m1 : (m : Int) < (n : Int) := by omega
                      obtain ⟨m', hm'⟩ : ∃ m', m = m' + 1 := ⟨m - 1, by omega⟩
                      have hm'I : (m : Int) - 1 = (m' : Int) := by omega
                      have HU : Hid ((ltS dk[m]! dk[a]! = false → scanDown (fun x => !ltS x dk[a]!) dk i4 m = scanDown (fun x => !ltS x dk[a]!) dk i4 m') ∧ (ltS dk[m]! dk[a]! = true → scanDown (fun x => !ltS x dk[a]!) dk i4 m = m)) := by
                        subst hm'
                        refine ⟨fun h => ?_, fun h => ?_⟩
                        · rw [scanDown, if_pos (by simp [hmj, h])]
                        · rw [scanDown, if_neg (by simp [h])]
                      have HM' : Hid (m = m' + 1) := hm'
                      clear hm'
                      have hxy := cmp_lt dk[m]! dk[a]!
                      obtain ⟨x0, x1⟩ := HS.out.at (i := m) (by omega)
                      obtain ⟨y0, y1⟩ := HS.out.at (i := a) (by omega)
                      have HWW : Hid _ := fun w' (h : Sw W0 B g cap dk w') => h.swp (i := m) (j := a) (by omega) (by omega)
                      obtain ⟨⟨xt, xa⟩, hx⟩ : ∃ x, dk[m]! = x := ⟨_, rfl⟩
                      obtain ⟨⟨yt, ya⟩, hy⟩ : ∃ x, dk[a]! = x := ⟨_, rfl⟩
                      rw [hx, hy] at hxy HWW
                      rw [hx] at x0 x1
                      rw [hy] at y0 y1
                      simp only at x0 x1 y0 y1 hxy
                      have hC := fun w => order_any xt xa yt ya w
                      generalize cmpS xt xa yt ya = r at hC hxy
                      rcases hxy with ⟨hr, hl⟩ | ⟨hr, hl⟩
                      · have HN : Hid _ := HU.out.2 (by rw [hx, hy]; exact hl)
                        clear hl HU HWW hx hy
                        go_wp2_with fail
                        refine wp_region_held_drew (S := fun w' => w'.cell? ⟨g, m * 2, none⟩ = some (.int .i64 xt) ∧ w'.cell? ⟨g, m * 2 + 1, none⟩ = some (.int .i64 xa) ∧ w'.cell? ⟨g, a * 2, none⟩ = some (.int .i64 yt) ∧ w'.cell? ⟨g, a * 2 + 1, none⟩ = some (.int .i64 ya)) (by kernel_rfl) ⟨x0, x1, y0, y1⟩ (fun hHeld => ?_)
                        refine tkH 0 ((.int .i64 (i4 : Int))) rfl (Or.inl ⟨by rfl, by intro w hSw; obtain ⟨s0, s1, s2, s3⟩ := hSw; go_simp⟩) hHeld ?_
                        simp only [tkS, Act.put]
                        refine tkH 1 ((.int .i64 (m : Int))) rfl (Or.inl ⟨by rfl, by intro w hSw; obtain ⟨s0, s1, s2, s3⟩ := hSw; go_simp⟩) hHeld ?_
                        simp only [tkS, Act.put]
                        refine tkH 2 ((.bool true)) rfl (Or.inl ⟨by rfl, by intro w hSw; obtain ⟨s0, s1, s2, s3⟩ := hSw; go_simp⟩) hHeld ?_
                        simp only [tkS, Act.put]
                        refine tkH 3 ((.bool true)) rfl (Or.inl ⟨by rfl, by intro w hSw; obtain ⟨s0, s1, s2, s3⟩ := hSw; go_simp⟩) hHeld ?_
                        simp only [tkS, Act.put]
                        refine tkH 4 ((.func (.func 53) #[.agg #[]] #[])) rfl (Or.inl ⟨by rfl, by intro w hSw; obtain ⟨s0, s1, s2, s3⟩ := hSw; go_simp⟩) hHeld ?_
                        simp only [tkS, Act.put]
                        refine tkH 5 ((.slice (some ⟨g, 0, none⟩) n cap)) rfl (Or.inl ⟨by rfl, by intro w hSw; obtain ⟨s0, s1, s2, s3⟩ := hSw; go_simp⟩) hHeld ?_
                        simp only [tkS, Act.put]
                        refine tkH 6 ((.int .i64 (m : Int))) rfl (Or.inl ⟨by rfl, by intro w hSw; obtain ⟨s0, s1, s2, s3⟩ := hSw; go_simp⟩) hHeld ?_
                        simp only [tkS, Act.put]
                        refine tkH 7 ((.pointer (some ⟨g, m * 2, none⟩))) rfl (Or.inl ⟨by rfl, by intro w hSw; obtain ⟨s0, s1, s2, s3⟩ := hSw; go_simp⟩) hHeld ?_
                        simp only [tkS, Act.put]
                        refine tkH 8 ((.agg #[.int .i64 xt, .int .i64 xa])) rfl (Or.inl ⟨by rfl, by intro w hSw; obtain ⟨s0, s1, s2, s3⟩ := hSw; go_simp⟩) hHeld ?_
                        simp only [tkS, Act.put]
                        refine tkH 9 ((.slice (some ⟨g, 0, none⟩) n cap)) rfl (Or.inl ⟨by rfl, by intro w hSw; obtain ⟨s0, s1, s2, s3⟩ := hSw; go_simp⟩) hHeld ?_
                        simp only [tkS, Act.put]
                        refine tkH 10 ((.int .i64 (a : Int))) rfl (Or.inl ⟨by rfl, by intro w hSw; obtain ⟨s0, s1, s2, s3⟩ := hSw; go_simp⟩) hHeld ?_
                        simp only [tkS, Act.put]
                        refine tkH 11 ((.pointer (some ⟨g, a * 2, none⟩))) rfl (Or.inl ⟨by rfl, by intro w hSw; obtain ⟨s0, s1, s2, s3⟩ := hSw; go_simp⟩) hHeld ?_
                        simp only [tkS, Act.put]
                        refine tkH 12 ((.agg #[.int .i64 yt, .int .i64 ya])) rfl (Or.inl ⟨by rfl, by intro w hSw; obtain ⟨s0, s1, s2, s3⟩ := hSw; go_simp⟩) hHeld ?_
                        simp only [tkS, Act.put]
                        refine wpAnyH_ready (rs := [13]) (by kernel_rfl) (by simp) ?_
                        refine AllReadyH.cons rfl (fun K hK => ?_) AllReadyH.nil
                        go_simp
                        refine (hC _).mono ?_
                        rintro e w2 ⟨rfl, hb2⟩
                        go_wp2_with fail
                        refine hK.out _ _ ⟨cell_on hb2 hHeld.1, cell_on hb2 hHeld.2.1, cell_on hb2 hHeld.2.2.1, cell_on hb2 hHeld.2.2.2⟩ (fun hHeld2 => ?_)
                        clear hK K
                        replace HS := swOn (swDrew HS) hb2
                        clear hb2 x0 x1 y0 y1
                        refine wpAnyH_take (i := 14) (v := (.bool true)) rfl (by kernel_rfl) (by kernel_rfl) (by kernel_rfl) (fun _ _ _ h => h) (Or.inl ⟨by rfl, by intro w hSw; obtain ⟨s0, s1, s2, s3⟩ := hSw; go_simp⟩) hHeld2 ?_
                        simp only [tkS, Act.put]
                        refine wpAnyH_take (i := 15) (v := (.bool false)) rfl (by kernel_rfl) (by kernel_rfl) (by kernel_rfl) (fun _ _ _ h => h) (Or.inl ⟨by rfl, by intro w hSw; obtain ⟨s0, s1, s2, s3⟩ := hSw; go_simp⟩) hHeld2 ?_
                        simp only [tkS, Act.put]
                        refine wpAnyH_take (i := 16) (v := (.bool false)) rfl (by kernel_rfl) (by kernel_rfl) (by kernel_rfl) (fun _ _ _ h => h) (Or.inl ⟨by rfl, by intro w hSw; obtain ⟨s0, s1, s2, s3⟩ := hSw; go_simp⟩) hHeld2 ?_
                        simp only [tkS, Act.put]
                        refine wpAnyH_done (by kernel_rfl) ?_ _
                        clear hHeld hHeld2
                        go_wp2_with fail
                        go_meet
                        case rel => exact ⟨m, rfl, hm0, by unfold Hid; rw [← HM.out, HN.out], HS⟩
                      · have HN : Hid _ := HU.out.1 (by rw [hx, hy]; exact hl)
                        clear hl HU HWW hx hy
                        go_wp2_with fail
                        refine wp_region_held_drew (S := fun w' => w'.cell? ⟨g, m * 2, none⟩ = some (.int .i64 xt) ∧ w'.cell? ⟨g, m * 2 + 1, none⟩ = some (.int .i64 xa) ∧ w'.cell? ⟨g, a * 2, none⟩ = some (.int .i64 yt) ∧ w'.cell? ⟨g, a * 2 + 1, none⟩ = some (.int .i64 ya)) (by kernel_rfl) ⟨x0, x1, y0, y1⟩ (fun hHeld => ?_)
                        refine tkH 0 ((.int .i64 (i4 : Int))) rfl (Or.inl ⟨by rfl, by intro w hSw; obtain ⟨s0, s1, s2, s3⟩ := hSw; go_simp⟩) hHeld ?_
                        simp only [tkS, Act.put]
                        refine tkH 1 ((.int .i64 (m : Int))) rfl (Or.inl ⟨by rfl, by intro w hSw; obtain ⟨s0, s1, s2, s3⟩ := hSw; go_simp⟩) hHeld ?_
                        simp only [tkS, Act.put]
                        refine tkH 2 ((.bool true)) rfl (Or.inl ⟨by rfl, by intro w hSw; obtain ⟨s0, s1, s2, s3⟩ := hSw; go_simp⟩) hHeld ?_
                        simp only [tkS, Act.put]
                        refine tkH 3 ((.bool true)) rfl (Or.inl ⟨by rfl, by intro w hSw; obtain ⟨s0, s1, s2, s3⟩ := hSw; go_simp⟩) hHeld ?_
                        simp only [tkS, Act.put]
                        refine tkH 4 ((.func (.func 53) #[.agg #[]] #[])) rfl (Or.inl ⟨by rfl, by intro w hSw; obtain ⟨s0, s1, s2, s3⟩ := hSw; go_simp⟩) hHeld ?_
                        simp only [tkS, Act.put]
                        refine tkH 5 ((.slice (some ⟨g, 0, none⟩) n cap)) rfl (Or.inl ⟨by rfl, by intro w hSw; obtain ⟨s0, s1, s2, s3⟩ := hSw; go_simp⟩) hHeld ?_
                        simp only [tkS, Act.put]
                        refine tkH 6 ((.int .i64 (m : Int))) rfl (Or.inl ⟨by rfl, by intro w hSw; obtain ⟨s0, s1, s2, s3⟩ := hSw; go_simp⟩) hHeld ?_
                        simp only [tkS, Act.put]
                        refine tkH 7 ((.pointer (some ⟨g, m * 2, none⟩))) rfl (Or.inl ⟨by rfl, by intro w hSw; obtain ⟨s0, s1, s2, s3⟩ := hSw; go_simp⟩) hHeld ?_
                        simp only [tkS, Act.put]
                        refine tkH 8 ((.agg #[.int .i64 xt, .int .i64 xa])) rfl (Or.inl ⟨by rfl, by intro w hSw; obtain ⟨s0, s1, s2, s3⟩ := hSw; go_simp⟩) hHeld ?_
                        simp only [tkS, Act.put]
                        refine tkH 9 ((.slice (some ⟨g, 0, none⟩) n cap)) rfl (Or.inl ⟨by rfl, by intro w hSw; obtain ⟨s0, s1, s2, s3⟩ := hSw; go_simp⟩) hHeld ?_
                        simp only [tkS, Act.put]
                        refine tkH 10 ((.int .i64 (a : Int))) rfl (Or.inl ⟨by rfl, by intro w hSw; obtain ⟨s0, s1, s2, s3⟩ := hSw; go_simp⟩) hHeld ?_
                        simp only [tkS, Act.put]
                        refine tkH 11 ((.pointer (some ⟨g, a * 2, none⟩))) rfl (Or.inl ⟨by rfl, by intro w hSw; obtain ⟨s0, s1, s2, s3⟩ := hSw; go_simp⟩) hHeld ?_
                        simp only [tkS, Act.put]
                        refine tkH 12 ((.agg #[.int .i64 yt, .int .i64 ya])) rfl (Or.inl ⟨by rfl, by intro w hSw; obtain ⟨s0, s1, s2, s3⟩ := hSw; go_simp⟩) hHeld ?_
                        simp only [tkS, Act.put]
                        refine wpAnyH_ready (rs := [13]) (by kernel_rfl) (by simp) ?_
                        refine AllReadyH.cons rfl (fun K hK => ?_) AllReadyH.nil
                        go_simp
                        refine (hC _).mono ?_
                        rintro e w2 ⟨rfl, hb2⟩
                        go_wp2_with fail
                        refine hK.out _ _ ⟨cell_on hb2 hHeld.1, cell_on hb2 hHeld.2.1, cell_on hb2 hHeld.2.2.1, cell_on hb2 hHeld.2.2.2⟩ (fun hHeld2 => ?_)
                        clear hK K
                        replace HS := swOn (swDrew HS) hb2
                        clear hb2 x0 x1 y0 y1
                        refine wpAnyH_take (i := 14) (v := (.bool false)) rfl (by kernel_rfl) (by kernel_rfl) (by kernel_rfl) (fun _ _ _ h => h) (Or.inl ⟨by rfl, by intro w hSw; obtain ⟨s0, s1, s2, s3⟩ := hSw; go_simp⟩) hHeld2 ?_
                        simp only [tkS, Act.put]
                        refine wpAnyH_take (i := 15) (v := (.bool true)) rfl (by kernel_rfl) (by kernel_rfl) (by kernel_rfl) (fun _ _ _ h => h) (Or.inl ⟨by rfl, by intro w hSw; obtain ⟨s0, s1, s2, s3⟩ := hSw; go_simp⟩) hHeld2 ?_
                        simp only [tkS, Act.put]
                        refine wpAnyH_take (i := 16) (v := (.bool true)) rfl (by kernel_rfl) (by kernel_rfl) (by kernel_rfl) (fun _ _ _ h => h) (Or.inl ⟨by rfl, by intro w hSw; obtain ⟨s0, s1, s2, s3⟩ := hSw; go_simp⟩) hHeld2 ?_
                        simp only [tkS, Act.put]
                        refine wpAnyH_done (by kernel_rfl) ?_ _
                        clear hHeld hHeld2
                        go_wp2_with fail
                        go_roundw
                        case rel => exact ⟨m', by go_num, by have := HM'.out; omega, by unfold Hid; rw [← HM.out, HN.out], HS⟩
                        case measure => have := HM'.out; simp [intOf]; omega
                    · have hmjI : ¬ (i4 : Int) ≤ (m : Int) := by omega
                      have HN : Hid (scanDown (fun x => !ltS x dk[a]!) dk i4 m = m) := by
                        unfold Hid
                        cases m with
                        | zero => rfl
                        | succ m => rw [scanDown, if_neg (by simp [hmj])]
                      go_wp2_with fail
                      go_quiet (fail)
                      go_wp2_with fail
                      go_meet
                      case rel => exact ⟨m, rfl, hm0, by unfold Hid; rw [← HM.out, HN.out], swDrewN HS nq⟩
                case rest =>
                  clear HS
                  obtain ⟨j4, rfl, hj4, HJ4, HS⟩ := hcut
                  have HST : Hid (partLoop ltS a i j dk = if i4 > j4 then (j4, dk) else if h : (j4 - 1) + 1 - (i4 + 1) < j + 1 - i then partLoop ltS a (i4 + 1) (j4 - 1) (swp dk i4 j4) else (j4, dk)) := by
                    unfold Hid
                    rw [partLoop]
                    simp only [HI4.out, HJ4.out]
                  have j40 : (0 : Int) ≤ (j4 : Int) := by omega
                  have j41 : (j4 : Int) < (n : Int) := by omega
                  by_cases hgt4 : j4 < i4
                  · have hgt4I : (j4 : Int) < (i4 : Int) := by omega
                    have HM : Hid (partLoop ltS a (i2 + 1) j3 d2 = (j4, dk)) := by
                      unfold Hid
                      rw [← HE.out, HST.out, if_pos hgt4]
                    clear HST HE HI4 HJ4
                    go_upto_region 21 with fail
                    go_cut [176] from 163 to 176 (fun tt wx => Hid (Sw W0 B g cap (swp dk j4 a) wx))
                    case first =>
                      have hxy := cmp_lt dk[j4]! dk[a]!
                      obtain ⟨x0, x1⟩ := HS.out.at (i := j4) (by omega)
                      obtain ⟨y0, y1⟩ := HS.out.at (i := a) (by omega)
                      have HWW : Hid _ := fun w' (h : Sw W0 B g cap dk w') => h.swp (i := j4) (j := a) (by omega) (by omega)
                      obtain ⟨⟨xt, xa⟩, hx⟩ : ∃ x, dk[j4]! = x := ⟨_, rfl⟩
                      obtain ⟨⟨yt, ya⟩, hy⟩ : ∃ x, dk[a]! = x := ⟨_, rfl⟩
                      rw [hx, hy] at hxy HWW
                      rw [hx] at x0 x1
                      rw [hy] at y0 y1
                      simp only at x0 x1 y0 y1 hxy
                      have hC := fun w => order_any xt xa yt ya w
                      generalize cmpS xt xa yt ya = r at hC hxy
                      clear hxy hC
                      have hSd := (swDrew HS).out
                      obtain ⟨x0, x1⟩ := hSd.at (i := j4) (by omega)
                      obtain ⟨y0, y1⟩ := hSd.at (i := a) (by omega)
                      rw [hx] at x0 x1
                      rw [hy] at y0 y1
                      obtain ⟨u0, u1, u2, u3, ⟨e0, f0⟩, ⟨e1, f1⟩, ⟨e2, f2⟩, ⟨e3, f3⟩⟩ := HS.out.steps (i := j4) (j := a) (by omega) (by omega) (.int .i64 yt) (.int .i64 ya) (.int .i64 xt)
                      have HF : Hid (Sw W0 B g cap (swp dk j4 a) ((((wc.setCell ⟨g, j4 * 2, none⟩ (.int .i64 yt)).setCell ⟨g, j4 * 2 + 1, none⟩ (.int .i64 ya)).setCell ⟨g, a * 2, none⟩ (.int .i64 xt)).setCell ⟨g, a * 2 + 1, none⟩ (.int .i64 xa)).drew) := HWW.out _ hSd
                      simp only at x0 x1 y0 y1
                      clear hSd hx hy e0
                      refine wp_region_held_drew (S := fun w' => True) (by kernel_rfl) trivial (fun hHeld => ?_)
                      refine tkH 0 ((.slice (some ⟨g, 0, none⟩) n cap)) rfl (Or.inl ⟨by rfl, by intro w hSw; go_simp⟩) hHeld ?_
                      simp only [tkS, Act.put]
                      refine tkH 1 ((.int .i64 (j4 : Int))) rfl (Or.inl ⟨by rfl, by intro w hSw; go_simp⟩) hHeld ?_
                      simp only [tkS, Act.put]
                      refine tkH 2 ((.slice (some ⟨g, 0, none⟩) n cap)) rfl (Or.inl ⟨by rfl, by intro w hSw; go_simp⟩) hHeld ?_
                      simp only [tkS, Act.put]
                      refine tkH 3 ((.int .i64 (a : Int))) rfl (Or.inl ⟨by rfl, by intro w hSw; go_simp⟩) hHeld ?_
                      simp only [tkS, Act.put]
                      refine tkH 4 ((.slice (some ⟨g, 0, none⟩) n cap)) rfl (Or.inl ⟨by rfl, by intro w hSw; go_simp⟩) hHeld ?_
                      simp only [tkS, Act.put]
                      refine tkH 5 ((.int .i64 (a : Int))) rfl (Or.inl ⟨by rfl, by intro w hSw; go_simp⟩) hHeld ?_
                      simp only [tkS, Act.put]
                      refine tkH 6 ((.pointer (some ⟨g, a * 2, none⟩))) rfl (Or.inl ⟨by rfl, by intro w hSw; go_simp⟩) hHeld ?_
                      simp only [tkS, Act.put]
                      refine tkH 8 ((.slice (some ⟨g, 0, none⟩) n cap)) rfl (Or.inl ⟨by rfl, by intro w hSw; go_simp⟩) hHeld ?_
                      simp only [tkS, Act.put]
                      refine tkH 9 ((.int .i64 (j4 : Int))) rfl (Or.inl ⟨by rfl, by intro w hSw; go_simp⟩) hHeld ?_
                      simp only [tkS, Act.put]
                      refine tkH 10 ((.pointer (some ⟨g, j4 * 2, none⟩))) rfl (Or.inl ⟨by rfl, by intro w hSw; go_simp⟩) hHeld ?_
                      simp only [tkS, Act.put]
                      refine wpAnyH_ready (rs := [7, 11]) (by kernel_rfl) (by simp) ?_
                      refine AllReadyH.cons rfl (fun K hK => ?wayA4) (AllReadyH.cons rfl (fun K hK => ?wayB4) AllReadyH.nil)
                      case' wayA4 =>
                        go_simp
                        refine hK.out _ _ trivial (fun hHeld1 => ?_)
                        clear hK K
                        refine wpAnyH_ready (rs := [11]) (by kernel_rfl) (by simp) ?_
                        refine AllReadyH.cons rfl (fun K hK => ?_) AllReadyH.nil
                        go_simp
                        refine hK.out _ _ trivial (fun hHeld2 => ?_)
                        clear hK K
                      case' wayB4 =>
                        go_simp
                        refine hK.out _ _ trivial (fun hHeld1 => ?_)
                        clear hK K
                        refine wpAnyH_ready (rs := [7]) (by kernel_rfl) (by simp) ?_
                        refine AllReadyH.cons rfl (fun K hK => ?_) AllReadyH.nil
                        go_simp
                        refine hK.out _ _ trivial (fun hHeld2 => ?_)
                        clear hK K
                      all_goals
                        refine wpAnyH_take (i := 12) (v := (.pointer (some ⟨g, j4 * 2, none⟩))) rfl (by kernel_rfl) (by kernel_rfl) (by kernel_rfl) (fun _ _ _ h => h) (Or.inl ⟨by rfl, by intro w hSw; go_simp⟩) hHeld2 ?_
                        simp only [tkS, Act.put]
                        refine wpAnyH_ready (rs := [13]) (by kernel_rfl) (by simp) ?_
                        refine AllReadyH.cons rfl (fun K hK => ?_) AllReadyH.nil
                        go_simp
                        refine hK.out _ _ trivial (fun hHeld3 => ?_)
                        clear hK K
                        refine wpAnyH_take (i := 14) (v := (.pointer (some ⟨g, a * 2, none⟩))) rfl (by kernel_rfl) (by kernel_rfl) (by kernel_rfl) (fun _ _ _ h => h) (Or.inl ⟨by rfl, by intro w hSw; go_simp⟩) hHeld3 ?_
                        simp only [tkS, Act.put]
                        refine wpAnyH_ready (rs := [15]) (by kernel_rfl) (by simp) ?_
                        refine AllReadyH.cons rfl (fun K hK => ?_) AllReadyH.nil
                        go_simp
                        refine hK.out _ _ trivial (fun hHeld4 => ?_)
                        clear hK K
                        refine wpAnyH_done (by kernel_rfl) ?_ _
                      all_goals
                        go_wp2_with fail
                        go_meet
                        case rel => exact HF
                    case rest =>
                      replace HS := hcut
                      clear hcut
                      go_wp2_with fail
                      refine bodyPost_ret (v := .tuple #[.int .i64 (j4 : Int), .bool false]) ?_ rfl ⟨?_, ?_⟩
                      · simp [results, Tryz.results105, go_sem]
                      · rw [HN.out, HM.out]
                      · rw [HN.out, HM.out]
                        exact HS.out
                  · have hgt4I : ¬ (j4 : Int) < (i4 : Int) := by omega
                    obtain ⟨j5, hj5⟩ : ∃ j5, j5 = j4 - 1 := ⟨_, rfl⟩
                    have hj5I : (j4 : Int) - 1 = (j5 : Int) := by omega
                    have HM : Hid (partLoop ltS a i j dk = partLoop ltS a (i4 + 1) j5 (swp dk i4 j4)) := by
                      unfold Hid
                      rw [HST.out, if_neg (by omega), dif_pos (by omega), hj5]
                    have HJ5 : Hid (j5 + 1 = j4) := by unfold Hid; omega
                    have i40 : (0 : Int) ≤ (i4 : Int) := by omega
                    have i41 : (i4 : Int) < (n : Int) := by omega
                    have i42 : (i4 : Int) + 1 < 9223372036854775808 := by omega
                    clear HST hj5 HI4 HJ4
                    go_upto_region 18 with fail
                    go_cut [158] from 145 to 158 (fun tt wx => Hid (Sw W0 B g cap (swp dk i4 j4) wx))
                    case first =>
                      have hxy := cmp_lt dk[i4]! dk[j4]!
                      obtain ⟨x0, x1⟩ := HS.out.at (i := i4) (by omega)
                      obtain ⟨y0, y1⟩ := HS.out.at (i := j4) (by omega)
                      have HWW : Hid _ := fun w' (h : Sw W0 B g cap dk w') => h.swp (i := i4) (j := j4) (by omega) (by omega)
                      obtain ⟨⟨xt, xa⟩, hx⟩ : ∃ x, dk[i4]! = x := ⟨_, rfl⟩
                      obtain ⟨⟨yt, ya⟩, hy⟩ : ∃ x, dk[j4]! = x := ⟨_, rfl⟩
                      rw [hx, hy] at hxy HWW
                      rw [hx] at x0 x1
                      rw [hy] at y0 y1
                      simp only at x0 x1 y0 y1 hxy
                      have hC := fun w => order_any xt xa yt ya w
                      generalize cmpS xt xa yt ya = r at hC hxy
                      clear hxy hC
                      have hSd := (swDrew HS).out
                      obtain ⟨x0, x1⟩ := hSd.at (i := i4) (by omega)
                      obtain ⟨y0, y1⟩ := hSd.at (i := j4) (by omega)
                      rw [hx] at x0 x1
                      rw [hy] at y0 y1
                      obtain ⟨u0, u1, u2, u3, ⟨e0, f0⟩, ⟨e1, f1⟩, ⟨e2, f2⟩, ⟨e3, f3⟩⟩ := HS.out.steps (i := i4) (j := j4) (by omega) (by omega) (.int .i64 yt) (.int .i64 ya) (.int .i64 xt)
                      have HF : Hid (Sw W0 B g cap (swp dk i4 j4) ((((wc.setCell ⟨g, i4 * 2, none⟩ (.int .i64 yt)).setCell ⟨g, i4 * 2 + 1, none⟩ (.int .i64 ya)).setCell ⟨g, j4 * 2, none⟩ (.int .i64 xt)).setCell ⟨g, j4 * 2 + 1, none⟩ (.int .i64 xa)).drew) := HWW.out _ hSd
                      simp only at x0 x1 y0 y1
                      clear hSd hx hy e0
                      refine wp_region_held_drew (S := fun w' => True) (by kernel_rfl) trivial (fun hHeld => ?_)
                      refine tkH 0 ((.slice (some ⟨g, 0, none⟩) n cap)) rfl (Or.inl ⟨by rfl, by intro w hSw; go_simp⟩) hHeld ?_
                      simp only [tkS, Act.put]
                      refine tkH 1 ((.int .i64 (i4 : Int))) rfl (Or.inl ⟨by rfl, by intro w hSw; go_simp⟩) hHeld ?_
                      simp only [tkS, Act.put]
                      refine tkH 2 ((.slice (some ⟨g, 0, none⟩) n cap)) rfl (Or.inl ⟨by rfl, by intro w hSw; go_simp⟩) hHeld ?_
                      simp only [tkS, Act.put]
                      refine tkH 3 ((.int .i64 (j4 : Int))) rfl (Or.inl ⟨by rfl, by intro w hSw; go_simp⟩) hHeld ?_
                      simp only [tkS, Act.put]
                      refine tkH 4 ((.slice (some ⟨g, 0, none⟩) n cap)) rfl (Or.inl ⟨by rfl, by intro w hSw; go_simp⟩) hHeld ?_
                      simp only [tkS, Act.put]
                      refine tkH 5 ((.int .i64 (j4 : Int))) rfl (Or.inl ⟨by rfl, by intro w hSw; go_simp⟩) hHeld ?_
                      simp only [tkS, Act.put]
                      refine tkH 6 ((.pointer (some ⟨g, j4 * 2, none⟩))) rfl (Or.inl ⟨by rfl, by intro w hSw; go_simp⟩) hHeld ?_
                      simp only [tkS, Act.put]
                      refine tkH 8 ((.slice (some ⟨g, 0, none⟩) n cap)) rfl (Or.inl ⟨by rfl, by intro w hSw; go_simp⟩) hHeld ?_
                      simp only [tkS, Act.put]
                      refine tkH 9 ((.int .i64 (i4 : Int))) rfl (Or.inl ⟨by rfl, by intro w hSw; go_simp⟩) hHeld ?_
                      simp only [tkS, Act.put]
                      refine tkH 10 ((.pointer (some ⟨g, i4 * 2, none⟩))) rfl (Or.inl ⟨by rfl, by intro w hSw; go_simp⟩) hHeld ?_
                      simp only [tkS, Act.put]
                      refine wpAnyH_ready (rs := [7, 11]) (by kernel_rfl) (by simp) ?_
                      refine AllReadyH.cons rfl (fun K hK => ?wayA5) (AllReadyH.cons rfl (fun K hK => ?wayB5) AllReadyH.nil)
                      case' wayA5 =>
                        go_simp
                        refine hK.out _ _ trivial (fun hHeld1 => ?_)
                        clear hK K
                        refine wpAnyH_ready (rs := [11]) (by kernel_rfl) (by simp) ?_
                        refine AllReadyH.cons rfl (fun K hK => ?_) AllReadyH.nil
                        go_simp
                        refine hK.out _ _ trivial (fun hHeld2 => ?_)
                        clear hK K
                      case' wayB5 =>
                        go_simp
                        refine hK.out _ _ trivial (fun hHeld1 => ?_)
                        clear hK K
                        refine wpAnyH_ready (rs := [7]) (by kernel_rfl) (by simp) ?_
                        refine AllReadyH.cons rfl (fun K hK => ?_) AllReadyH.nil
                        go_simp
                        refine hK.out _ _ trivial (fun hHeld2 => ?_)
                        clear hK K
                      all_goals
                        refine wpAnyH_take (i := 12) (v := (.pointer (some ⟨g, i4 * 2, none⟩))) rfl (by kernel_rfl) (by kernel_rfl) (by kernel_rfl) (fun _ _ _ h => h) (Or.inl ⟨by rfl, by intro w hSw; go_simp⟩) hHeld2 ?_
                        simp only [tkS, Act.put]
                        refine wpAnyH_ready (rs := [13]) (by kernel_rfl) (by simp) ?_
                        refine AllReadyH.cons rfl (fun K hK => ?_) AllReadyH.nil
                        go_simp
                        refine hK.out _ _ trivial (fun hHeld3 => ?_)
                        clear hK K
                        refine wpAnyH_take (i := 14) (v := (.pointer (some ⟨g, j4 * 2, none⟩))) rfl (by kernel_rfl) (by kernel_rfl) (by kernel_rfl) (fun _ _ _ h => h) (Or.inl ⟨by rfl, by intro w hSw; go_simp⟩) hHeld3 ?_
                        simp only [tkS, Act.put]
                        refine wpAnyH_ready (rs := [15]) (by kernel_rfl) (by simp) ?_
                        refine AllReadyH.cons rfl (fun K hK => ?_) AllReadyH.nil
                        go_simp
                        refine hK.out _ _ trivial (fun hHeld4 => ?_)
                        clear hK K
                        refine wpAnyH_done (by kernel_rfl) ?_ _
                      all_goals
                        go_wp2_with fail
                        go_meet
                        case rel => exact HF
                    case rest =>
                      replace HS := hcut
                      clear hcut
                      go_wp2_with fail
                      go_roundw
                      case rel => exact ⟨i4 + 1, j5, swp dk i4 j4, by go_num, by go_num, by omega, by omega, by have := HJ5.out; omega, by rw [swp_size]; exact hdk, HS, by unfold Hid; rw [← HE.out, HM.out]⟩
                      case measure => have := HJ5.out; simp [intOf]; omega

end Go.Proofs.YtfnlnigeaioocaaGreat
