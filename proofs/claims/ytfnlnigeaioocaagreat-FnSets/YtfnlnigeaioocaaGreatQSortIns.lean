/- What insertionSortCmpFunc does at stamps. -/
import Derived.Test.YtfnlnigeaioocaaGreatQTakeKit
import Derived.Test.YtfnlnigeaioocaaGreatQSortBase
namespace Go.Proofs.YtfnlnigeaioocaaGreat
open Go.RowKit
open Go.Sort (swp insInner insOuter insertionSort)
set_option linter.unusedVariables false

theorem ins_stop {a j : Nat} (h : ¬ a < j) (d : Array Sp) : insInner ltS a j d = d := by
  cases j with
  | zero => rfl
  | succ j => simp [insInner, show ¬ a < j + 1 from h]
theorem ins_no {a j : Nat} {d : Array Sp} (h : ltS d[j + 1]! d[j]! = false) : insInner ltS a (j + 1) d = d := by simp [insInner, h]
theorem ins_yes {a j : Nat} {d : Array Sp} (ha : a < j + 1) (h : ltS d[j + 1]! d[j]! = true) : insInner ltS a (j + 1) d = insInner ltS a j (swp d (j + 1) j) := by simp [insInner, h, ha]
theorem swOn {W0 w w' : World} {B g cap : Nat} {d : Array Sp} (h : Hid (Sw W0 B g cap d w)) (hb : Below w.heap.size w w') : Hid (Sw W0 B g cap d w') := h.out.on hb
theorem swDrew {W0 w : World} {B g cap : Nat} {d : Array Sp} (h : Hid (Sw W0 B g cap d w)) : Hid (Sw W0 B g cap d w.drew) := h.out.drew
theorem swDrewN {W0 w : World} {B g cap : Nat} {d : Array Sp} (h : Hid (Sw W0 B g cap d w)) (n : Nat) : Hid (Sw W0 B g cap d (w.drewN n)) := h.out.on (below_drewN (Below.refl _ _) n)

set_option maxHeartbeats 4000000 in
set_option maxRecDepth 100000 in
theorem insertion_any (W0 : World) (B g cap n a b : Nat) (d : Array Sp) (w : World) (hn : d.size = n) (hsz : n ≤ 1048576) (hab : a ≤ b) (hb : b ≤ n) (hS : Sw W0 B g cap d w) :
    Calls Tryz.prog 98 #[.slice (some ⟨g, 0, none⟩) n cap, .int .i64 (a : Int), .int .i64 (b : Int), ordV] w fun e w' => e = .returned (.tuple #[]) ∧ Sw W0 B g cap (insertionSort ltS d a b) w' := by
  unfold ordV insertionSort
  have HS : Hid _ := hS
  clear hS
  go_enter Tryz.func98, Tryz.ntmps98
  have ha1 : (a : Int) + 1 < 9223372036854775808 := by omega
  go_wp2_with fail
  go_loopw [8] (fun t8 wr => ∃ (i : Nat) (dk : Array Sp), t8 = .int .i64 (i : Int) ∧ a + 1 ≤ i ∧ i ≤ b + 1 ∧ dk.size = n ∧ Hid (Sw W0 B g cap dk wr) ∧ Hid (insOuter ltS a b i dk = insOuter ltS a b (a + 1) d)) (fun t8 _ => b - (intOf t8).toNat)
  case atStart => exact ⟨a + 1, d, by go_num, Nat.le_refl _, by omega, hn, HS, rfl⟩
  case round =>
    clear HS
    obtain ⟨i, dk, rfl, hi0, hi1, hdk, HS, HE⟩ := hrel
    by_cases hlt : i < b
    · have j1 : (i : Int) < (b : Int) := by omega
      have HO : Hid (insOuter ltS a b i dk = insOuter ltS a b (i + 1) (insInner ltS a i dk)) := by
        unfold Hid
        rw [insOuter, if_pos hlt]
      go_wp2_with fail
      go_loopw [9] (fun t9 wr => ∃ (j : Nat) (dj : Array Sp), t9 = .int .i64 (j : Int) ∧ a ≤ j ∧ j ≤ i ∧ dj.size = n ∧ Hid (Sw W0 B g cap dj wr) ∧ Hid (insInner ltS a j dj = insInner ltS a i dk)) (fun t9 _ => (intOf t9).toNat)
      case atStart => exact ⟨i, dk, rfl, by omega, Nat.le_refl _, hdk, HS, rfl⟩
      case round =>
        clear HS
        obtain ⟨j, dj, rfl, hj0, hj1, hdj, HS, HJ⟩ := hrel
        by_cases hja : a < j
        · have g1 : (a : Int) < (j : Int) := by omega
          obtain ⟨m, hjm⟩ : ∃ m, j = m + 1 := ⟨j - 1, by omega⟩
          have hm : (j : Int) - 1 = (m : Int) := by omega
          have HI : Hid ((ltS dj[j]! dj[m]! = true → insInner ltS a j dj = insInner ltS a m (swp dj j m)) ∧ (ltS dj[j]! dj[m]! = false → insInner ltS a j dj = dj)) := by
            subst hjm
            exact ⟨fun h => ins_yes (by omega) h, fun h => ins_no h⟩
          have HM : Hid (j = m + 1) := hjm
          have jn : j < n := by omega
          have mn : m < n := by omega
          have b0 : (0 : Int) ≤ (j : Int) := by omega
          have b1 : (j : Int) < (n : Int) := by omega
          have b2 : (0 : Int) ≤ (m : Int) := by omega
          have b3 : (m : Int) < (n : Int) := by omega
          have hxy := cmp_lt dj[j]! dj[m]!
          obtain ⟨x0, x1⟩ := HS.out.at (i := j) (by omega)
          obtain ⟨y0, y1⟩ := HS.out.at (i := m) (by omega)
          have HW := fun w' (h : Sw W0 B g cap dj w') => h.swp (i := j) (j := m) (by omega) (by omega)
          have HWW : Hid _ := HW
          clear HW hjm
          obtain ⟨⟨xt, xa⟩, hx⟩ : ∃ x, dj[j]! = x := ⟨_, rfl⟩
          obtain ⟨⟨yt, ya⟩, hy⟩ : ∃ x, dj[m]! = x := ⟨_, rfl⟩
          rw [hx, hy] at hxy HI
          rw [hx] at x0 x1
          rw [hy] at y0 y1
          rw [hx, hy] at HWW
          simp only at x0 x1 y0 y1 hxy
          have hC := fun w => order_any xt xa yt ya w
          generalize cmpS xt xa yt ya = r at hC hxy
          rcases hxy with ⟨hr, hl⟩ | ⟨hr, hl⟩
          · have HN : Hid _ := HI.out.1 hl
            clear hl HI
            go_wp2_with fail
            refine wp_region_held_drew (S := fun w' => w'.cell? ⟨g, j * 2, none⟩ = some (.int .i64 xt) ∧ w'.cell? ⟨g, j * 2 + 1, none⟩ = some (.int .i64 xa) ∧ w'.cell? ⟨g, m * 2, none⟩ = some (.int .i64 yt) ∧ w'.cell? ⟨g, m * 2 + 1, none⟩ = some (.int .i64 ya)) (by kernel_rfl) ⟨x0, x1, y0, y1⟩ (fun hHeld => ?_)
            refine tkH 0 ((.int .i64 (j : Int))) rfl (Or.inl ⟨by rfl, by intro w hSw; obtain ⟨s0, s1, s2, s3⟩ := hSw; go_simp⟩) hHeld ?_
            simp only [tkS, Act.put]
            refine tkH 1 ((.int .i64 (a : Int))) rfl (Or.inl ⟨by rfl, by intro w hSw; obtain ⟨s0, s1, s2, s3⟩ := hSw; go_simp⟩) hHeld ?_
            simp only [tkS, Act.put]
            refine tkH 2 ((.bool true)) rfl (Or.inl ⟨by rfl, by intro w hSw; obtain ⟨s0, s1, s2, s3⟩ := hSw; go_simp⟩) hHeld ?_
            simp only [tkS, Act.put]
            refine tkH 3 ((.bool true)) rfl (Or.inl ⟨by rfl, by intro w hSw; obtain ⟨s0, s1, s2, s3⟩ := hSw; go_simp⟩) hHeld ?_
            simp only [tkS, Act.put]
            refine tkH 4 ((.func (.func 53) #[.agg #[]] #[])) rfl (Or.inl ⟨by rfl, by intro w hSw; obtain ⟨s0, s1, s2, s3⟩ := hSw; go_simp⟩) hHeld ?_
            simp only [tkS, Act.put]
            refine tkH 5 ((.slice (some ⟨g, 0, none⟩) n cap)) rfl (Or.inl ⟨by rfl, by intro w hSw; obtain ⟨s0, s1, s2, s3⟩ := hSw; go_simp⟩) hHeld ?_
            simp only [tkS, Act.put]
            refine tkH 6 ((.int .i64 (j : Int))) rfl (Or.inl ⟨by rfl, by intro w hSw; obtain ⟨s0, s1, s2, s3⟩ := hSw; go_simp⟩) hHeld ?_
            simp only [tkS, Act.put]
            refine tkH 7 ((.pointer (some ⟨g, j * 2, none⟩))) rfl (Or.inl ⟨by rfl, by intro w hSw; obtain ⟨s0, s1, s2, s3⟩ := hSw; go_simp⟩) hHeld ?_
            simp only [tkS, Act.put]
            refine tkH 8 ((.agg #[.int .i64 xt, .int .i64 xa])) rfl (Or.inl ⟨by rfl, by intro w hSw; obtain ⟨s0, s1, s2, s3⟩ := hSw; go_simp⟩) hHeld ?_
            simp only [tkS, Act.put]
            refine tkH 9 ((.slice (some ⟨g, 0, none⟩) n cap)) rfl (Or.inl ⟨by rfl, by intro w hSw; obtain ⟨s0, s1, s2, s3⟩ := hSw; go_simp⟩) hHeld ?_
            simp only [tkS, Act.put]
            refine tkH 10 ((.int .i64 (j : Int))) rfl (Or.inl ⟨by rfl, by intro w hSw; obtain ⟨s0, s1, s2, s3⟩ := hSw; go_simp⟩) hHeld ?_
            simp only [tkS, Act.put]
            refine tkH 11 ((.int .i64 (m : Int))) rfl (Or.inl ⟨by rfl, by intro w hSw; obtain ⟨s0, s1, s2, s3⟩ := hSw; go_simp; rw [IntKind.wrap_i64]; omega⟩) hHeld ?_
            simp only [tkS, Act.put]
            refine tkH 12 ((.pointer (some ⟨g, m * 2, none⟩))) rfl (Or.inl ⟨by rfl, by intro w hSw; obtain ⟨s0, s1, s2, s3⟩ := hSw; go_simp⟩) hHeld ?_
            simp only [tkS, Act.put]
            refine tkH 13 ((.agg #[.int .i64 yt, .int .i64 ya])) rfl (Or.inl ⟨by rfl, by intro w hSw; obtain ⟨s0, s1, s2, s3⟩ := hSw; go_simp⟩) hHeld ?_
            simp only [tkS, Act.put]
            refine wpAnyH_ready (rs := [14]) (by kernel_rfl) (by simp) ?_
            refine AllReadyH.cons rfl (fun K hK => ?_) AllReadyH.nil
            go_simp
            refine (hC _).mono ?_
            rintro e w2 ⟨rfl, hb2⟩
            go_wp2_with fail
            refine hK.out _ _ ⟨cell_on hb2 hHeld.1, cell_on hb2 hHeld.2.1, cell_on hb2 hHeld.2.2.1, cell_on hb2 hHeld.2.2.2⟩ (fun hHeld2 => ?_)
            clear hK K
            replace HS := swOn (swDrew HS) hb2
            clear hb2 x0 x1 y0 y1
            refine wpAnyH_take (i := 15) (v := (.bool true)) rfl (by kernel_rfl) (by kernel_rfl) (by kernel_rfl) (fun _ _ _ h => h) (Or.inl ⟨by rfl, by intro w hSw; obtain ⟨s0, s1, s2, s3⟩ := hSw; go_simp⟩) hHeld2 ?_
            simp only [tkS, Act.put]
            refine wpAnyH_take (i := 16) (v := (.bool true)) rfl (by kernel_rfl) (by kernel_rfl) (by kernel_rfl) (fun _ _ _ h => h) (Or.inl ⟨by rfl, by intro w hSw; obtain ⟨s0, s1, s2, s3⟩ := hSw; go_simp⟩) hHeld2 ?_
            simp only [tkS, Act.put]
            refine wpAnyH_done (by kernel_rfl) ?_ _
            clear hHeld hHeld2
            go_upto_region 6 with fail
            have hSd := (swDrew HS).out
            obtain ⟨x0, x1⟩ := hSd.at (i := j) (by omega)
            obtain ⟨y0, y1⟩ := hSd.at (i := m) (by omega)
            rw [hx] at x0 x1
            rw [hy] at y0 y1
            obtain ⟨u0, u1, u2, u3, ⟨e0, f0⟩, ⟨e1, f1⟩, ⟨e2, f2⟩, ⟨e3, f3⟩⟩ := HS.out.steps (i := j) (j := m) (by omega) (by omega) (.int .i64 yt) (.int .i64 ya) (.int .i64 xt)
            have HF : Hid (Sw W0 B g cap (swp dj j m) ((((w2.setCell ⟨g, j * 2, none⟩ (.int .i64 yt)).setCell ⟨g, j * 2 + 1, none⟩ (.int .i64 ya)).setCell ⟨g, m * 2, none⟩ (.int .i64 xt)).setCell ⟨g, m * 2 + 1, none⟩ (.int .i64 xa)).drew) := HWW.out _ hSd
            simp only at x0 x1 y0 y1
            clear hSd hx hy e0
            refine wp_region_held_drew (S := fun w' => True) (by kernel_rfl) trivial (fun hHeld => ?_)
            refine tkH 0 ((.slice (some ⟨g, 0, none⟩) n cap)) rfl (Or.inl ⟨by rfl, by intro w hSw; go_simp⟩) hHeld ?_
            simp only [tkS, Act.put]
            refine tkH 1 ((.int .i64 (j : Int))) rfl (Or.inl ⟨by rfl, by intro w hSw; go_simp⟩) hHeld ?_
            simp only [tkS, Act.put]
            refine tkH 2 ((.slice (some ⟨g, 0, none⟩) n cap)) rfl (Or.inl ⟨by rfl, by intro w hSw; go_simp⟩) hHeld ?_
            simp only [tkS, Act.put]
            refine tkH 3 ((.int .i64 (j : Int))) rfl (Or.inl ⟨by rfl, by intro w hSw; go_simp⟩) hHeld ?_
            simp only [tkS, Act.put]
            refine tkH 4 ((.int .i64 (m : Int))) rfl (Or.inl ⟨by rfl, by intro w hSw; go_simp; rw [IntKind.wrap_i64]; omega⟩) hHeld ?_
            simp only [tkS, Act.put]
            refine tkH 5 ((.slice (some ⟨g, 0, none⟩) n cap)) rfl (Or.inl ⟨by rfl, by intro w hSw; go_simp⟩) hHeld ?_
            simp only [tkS, Act.put]
            refine tkH 6 ((.int .i64 (j : Int))) rfl (Or.inl ⟨by rfl, by intro w hSw; go_simp⟩) hHeld ?_
            simp only [tkS, Act.put]
            refine tkH 7 ((.int .i64 (m : Int))) rfl (Or.inl ⟨by rfl, by intro w hSw; go_simp; rw [IntKind.wrap_i64]; omega⟩) hHeld ?_
            simp only [tkS, Act.put]
            refine tkH 8 ((.pointer (some ⟨g, m * 2, none⟩))) rfl (Or.inl ⟨by rfl, by intro w hSw; go_simp⟩) hHeld ?_
            simp only [tkS, Act.put]
            refine tkH 10 ((.slice (some ⟨g, 0, none⟩) n cap)) rfl (Or.inl ⟨by rfl, by intro w hSw; go_simp⟩) hHeld ?_
            simp only [tkS, Act.put]
            refine tkH 11 ((.int .i64 (j : Int))) rfl (Or.inl ⟨by rfl, by intro w hSw; go_simp⟩) hHeld ?_
            simp only [tkS, Act.put]
            refine tkH 12 ((.pointer (some ⟨g, j * 2, none⟩))) rfl (Or.inl ⟨by rfl, by intro w hSw; go_simp⟩) hHeld ?_
            simp only [tkS, Act.put]
            refine wpAnyH_ready (rs := [9, 13]) (by kernel_rfl) (by simp) ?_
            refine AllReadyH.cons rfl (fun K hK => ?wayA) (AllReadyH.cons rfl (fun K hK => ?wayB) AllReadyH.nil)
            case' wayA =>
              go_simp
              refine hK.out _ _ trivial (fun hHeld1 => ?_)
              clear hK K
              refine wpAnyH_ready (rs := [13]) (by kernel_rfl) (by simp) ?_
              refine AllReadyH.cons rfl (fun K hK => ?_) AllReadyH.nil
              go_simp
              refine hK.out _ _ trivial (fun hHeld2 => ?_)
              clear hK K
            case' wayB =>
              go_simp
              refine hK.out _ _ trivial (fun hHeld1 => ?_)
              clear hK K
              refine wpAnyH_ready (rs := [9]) (by kernel_rfl) (by simp) ?_
              refine AllReadyH.cons rfl (fun K hK => ?_) AllReadyH.nil
              go_simp
              refine hK.out _ _ trivial (fun hHeld2 => ?_)
              clear hK K
            all_goals
              refine wpAnyH_take (i := 14) (v := (.pointer (some ⟨g, j * 2, none⟩))) rfl (by kernel_rfl) (by kernel_rfl) (by kernel_rfl) (fun _ _ _ h => h) (Or.inl ⟨by rfl, by intro w hSw; go_simp⟩) hHeld2 ?_
              simp only [tkS, Act.put]
              refine wpAnyH_ready (rs := [15]) (by kernel_rfl) (by simp) ?_
              refine AllReadyH.cons rfl (fun K hK => ?_) AllReadyH.nil
              go_simp
              refine hK.out _ _ trivial (fun hHeld3 => ?_)
              clear hK K
              refine wpAnyH_take (i := 16) (v := (.pointer (some ⟨g, m * 2, none⟩))) rfl (by kernel_rfl) (by kernel_rfl) (by kernel_rfl) (fun _ _ _ h => h) (Or.inl ⟨by rfl, by intro w hSw; go_simp⟩) hHeld3 ?_
              simp only [tkS, Act.put]
              refine wpAnyH_ready (rs := [17]) (by kernel_rfl) (by simp) ?_
              refine AllReadyH.cons rfl (fun K hK => ?_) AllReadyH.nil
              go_simp
              refine hK.out _ _ trivial (fun hHeld4 => ?_)
              clear hK K
              refine wpAnyH_done (by kernel_rfl) ?_ _
            all_goals
              go_wp2_with fail
              go_roundw
              case rel => exact ⟨m, swp dj j m, by go_num, by have := HM.out; omega, by have := HM.out; omega, by rw [swp_size]; exact hdj, HF, by unfold Hid; rw [← HJ.out, HN.out]⟩
              case measure => have := HM.out; simp [intOf]; omega
          · have HN : Hid _ := HI.out.2 hl
            clear hl HI HWW hx hy
            go_wp2_with fail
            refine wp_region_held_drew (S := fun w' => w'.cell? ⟨g, j * 2, none⟩ = some (.int .i64 xt) ∧ w'.cell? ⟨g, j * 2 + 1, none⟩ = some (.int .i64 xa) ∧ w'.cell? ⟨g, m * 2, none⟩ = some (.int .i64 yt) ∧ w'.cell? ⟨g, m * 2 + 1, none⟩ = some (.int .i64 ya)) (by kernel_rfl) ⟨x0, x1, y0, y1⟩ (fun hHeld => ?_)
            refine tkH 0 ((.int .i64 (j : Int))) rfl (Or.inl ⟨by rfl, by intro w hSw; obtain ⟨s0, s1, s2, s3⟩ := hSw; go_simp⟩) hHeld ?_
            simp only [tkS, Act.put]
            refine tkH 1 ((.int .i64 (a : Int))) rfl (Or.inl ⟨by rfl, by intro w hSw; obtain ⟨s0, s1, s2, s3⟩ := hSw; go_simp⟩) hHeld ?_
            simp only [tkS, Act.put]
            refine tkH 2 ((.bool true)) rfl (Or.inl ⟨by rfl, by intro w hSw; obtain ⟨s0, s1, s2, s3⟩ := hSw; go_simp⟩) hHeld ?_
            simp only [tkS, Act.put]
            refine tkH 3 ((.bool true)) rfl (Or.inl ⟨by rfl, by intro w hSw; obtain ⟨s0, s1, s2, s3⟩ := hSw; go_simp⟩) hHeld ?_
            simp only [tkS, Act.put]
            refine tkH 4 ((.func (.func 53) #[.agg #[]] #[])) rfl (Or.inl ⟨by rfl, by intro w hSw; obtain ⟨s0, s1, s2, s3⟩ := hSw; go_simp⟩) hHeld ?_
            simp only [tkS, Act.put]
            refine tkH 5 ((.slice (some ⟨g, 0, none⟩) n cap)) rfl (Or.inl ⟨by rfl, by intro w hSw; obtain ⟨s0, s1, s2, s3⟩ := hSw; go_simp⟩) hHeld ?_
            simp only [tkS, Act.put]
            refine tkH 6 ((.int .i64 (j : Int))) rfl (Or.inl ⟨by rfl, by intro w hSw; obtain ⟨s0, s1, s2, s3⟩ := hSw; go_simp⟩) hHeld ?_
            simp only [tkS, Act.put]
            refine tkH 7 ((.pointer (some ⟨g, j * 2, none⟩))) rfl (Or.inl ⟨by rfl, by intro w hSw; obtain ⟨s0, s1, s2, s3⟩ := hSw; go_simp⟩) hHeld ?_
            simp only [tkS, Act.put]
            refine tkH 8 ((.agg #[.int .i64 xt, .int .i64 xa])) rfl (Or.inl ⟨by rfl, by intro w hSw; obtain ⟨s0, s1, s2, s3⟩ := hSw; go_simp⟩) hHeld ?_
            simp only [tkS, Act.put]
            refine tkH 9 ((.slice (some ⟨g, 0, none⟩) n cap)) rfl (Or.inl ⟨by rfl, by intro w hSw; obtain ⟨s0, s1, s2, s3⟩ := hSw; go_simp⟩) hHeld ?_
            simp only [tkS, Act.put]
            refine tkH 10 ((.int .i64 (j : Int))) rfl (Or.inl ⟨by rfl, by intro w hSw; obtain ⟨s0, s1, s2, s3⟩ := hSw; go_simp⟩) hHeld ?_
            simp only [tkS, Act.put]
            refine tkH 11 ((.int .i64 (m : Int))) rfl (Or.inl ⟨by rfl, by intro w hSw; obtain ⟨s0, s1, s2, s3⟩ := hSw; go_simp; rw [IntKind.wrap_i64]; omega⟩) hHeld ?_
            simp only [tkS, Act.put]
            refine tkH 12 ((.pointer (some ⟨g, m * 2, none⟩))) rfl (Or.inl ⟨by rfl, by intro w hSw; obtain ⟨s0, s1, s2, s3⟩ := hSw; go_simp⟩) hHeld ?_
            simp only [tkS, Act.put]
            refine tkH 13 ((.agg #[.int .i64 yt, .int .i64 ya])) rfl (Or.inl ⟨by rfl, by intro w hSw; obtain ⟨s0, s1, s2, s3⟩ := hSw; go_simp⟩) hHeld ?_
            simp only [tkS, Act.put]
            refine wpAnyH_ready (rs := [14]) (by kernel_rfl) (by simp) ?_
            refine AllReadyH.cons rfl (fun K hK => ?_) AllReadyH.nil
            go_simp
            refine (hC _).mono ?_
            rintro e w2 ⟨rfl, hb2⟩
            go_wp2_with fail
            refine hK.out _ _ ⟨cell_on hb2 hHeld.1, cell_on hb2 hHeld.2.1, cell_on hb2 hHeld.2.2.1, cell_on hb2 hHeld.2.2.2⟩ (fun hHeld2 => ?_)
            clear hK K
            replace HS := swOn (swDrew HS) hb2
            clear hb2 x0 x1 y0 y1
            refine wpAnyH_take (i := 15) (v := (.bool false)) rfl (by kernel_rfl) (by kernel_rfl) (by kernel_rfl) (fun _ _ _ h => h) (Or.inl ⟨by rfl, by intro w hSw; obtain ⟨s0, s1, s2, s3⟩ := hSw; go_simp⟩) hHeld2 ?_
            simp only [tkS, Act.put]
            refine wpAnyH_take (i := 16) (v := (.bool false)) rfl (by kernel_rfl) (by kernel_rfl) (by kernel_rfl) (fun _ _ _ h => h) (Or.inl ⟨by rfl, by intro w hSw; obtain ⟨s0, s1, s2, s3⟩ := hSw; go_simp⟩) hHeld2 ?_
            simp only [tkS, Act.put]
            refine wpAnyH_done (by kernel_rfl) ?_ _
            clear hHeld hHeld2
            go_wp2_with fail
            go_roundw
            case rel => exact ⟨i + 1, dj, by go_num, by omega, by omega, hdj, HS, by unfold Hid; rw [← HE.out, HO.out, ← HJ.out, HN.out]⟩
            case measure => simp [intOf]; omega
        · have g1 : ¬ (a : Int) < (j : Int) := by omega
          have HN : Hid (insInner ltS a j dj = dj) := ins_stop hja dj
          go_wp2_with fail
          go_quiet (fail)
          go_wp2_with fail
          go_roundw
          case rel => exact ⟨i + 1, dj, by go_num, by omega, by omega, hdj, swDrewN HS nq, by unfold Hid; rw [← HE.out, HO.out, ← HJ.out, HN.out]⟩
          case measure => simp [intOf]; omega
    · have hnl : ¬ (i : Int) < (b : Int) := by omega
      have HF : Hid (insOuter ltS a b i dk = dk) := by
        unfold Hid
        rw [insOuter, if_neg hlt]
      go_wp2_with fail
      refine bodyPost_end (v := .tuple #[]) ?_ rfl ⟨rfl, ?_⟩
      · simp [results, Tryz.results98, go_sem]
      · rw [← HE.out, HF.out]
        exact HS.out

end Go.Proofs.YtfnlnigeaioocaaGreat
