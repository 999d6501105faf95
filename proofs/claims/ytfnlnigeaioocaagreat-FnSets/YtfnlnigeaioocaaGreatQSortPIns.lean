/- What partialInsertionSortCmpFunc does at stamps. -/
import Derived.Deep.CutBlock
import Derived.Test.YtfnlnigeaioocaaGreatQTakeKit
import Derived.Test.YtfnlnigeaioocaaGreatQSortIns
namespace Go.Proofs.YtfnlnigeaioocaaGreat
open Go.RowKit
open Go.Sort (swp insInner insOuter insertionSort siftDown heapBuild heapPop heapSort reverseLoop reverseRange)
set_option linter.unusedVariables false

open Go.Sort (scanSorted shiftDown shiftUp partialIns partialInsertionSort)

set_option maxHeartbeats 16000000 in
set_option maxRecDepth 200000 in
theorem pIns_any (W0 : World) (B g cap n a b : Nat) (d : Array Sp) (w : World) (hn : d.size = n) (hsz : n ≤ 1048576) (hab : a < b) (hb : b ≤ n) (hS : Sw W0 B g cap d w) :
    Calls Tryz.prog 103 #[.slice (some ⟨g, 0, none⟩) n cap, .int .i64 (a : Int), .int .i64 (b : Int), ordV] w fun e w' => e = .returned (.bool (partialInsertionSort ltS d a b).2) ∧ Sw W0 B g cap (partialInsertionSort ltS d a b).1 w' := by
  unfold ordV partialInsertionSort
  have HS : Hid _ := hS
  clear hS
  have a2 : (a : Int) + 1 < 9223372036854775808 := by omega
  go_enter Tryz.func103, Tryz.ntmps103
  go_wp2_with fail
  go_loopw [9, 10] (fun t9 t10 wr => ∃ (i k : Nat) (dk : Array Sp), t9 = .int .i64 (i : Int) ∧ t10 = .int .i64 (k : Int) ∧ k ≤ 5 ∧ a + 1 ≤ i ∧ i ≤ b ∧ dk.size = n ∧ Hid (Sw W0 B g cap dk wr) ∧ Hid (partialIns ltS a b (5 - k) i dk = partialIns ltS a b 5 (a + 1) d)) (fun _ t10 _ => 5 - (intOf t10).toNat)
  case atStart => exact ⟨a + 1, 0, d, by go_num, by go_num, by omega, Nat.le_refl _, by omega, hn, HS, rfl⟩
  case round =>
    clear HS
    obtain ⟨i, k, dk, rfl, rfl, hk, hi0, hi1, hdk, HS, HE⟩ := hrel
    by_cases hk5 : k < 5
    · have hk5I : (k : Int) < 5 := by omega
      obtain ⟨s, hs⟩ : ∃ s, 5 - k = s + 1 := ⟨5 - k - 1, by omega⟩
      rw [hs] at HE
      go_upto_block 2 with fail
      go_cut [9] from 19 to 38 (fun tt wx => ∃ m : Nat, tt = .int .i64 (m : Int) ∧ i ≤ m ∧ m ≤ b ∧ Hid (scanSorted ltS dk b i = m) ∧ Hid (Sw W0 B g cap dk wx))
      case first =>
        go_wp2_with fail
        go_loopw [9] (fun tt wx => ∃ m : Nat, tt = .int .i64 (m : Int) ∧ i ≤ m ∧ m ≤ b ∧ Hid (scanSorted ltS dk b m = scanSorted ltS dk b i) ∧ Hid (Sw W0 B g cap dk wx)) (fun tt _ => b - (intOf tt).toNat)
        case atStart => exact ⟨i, rfl, Nat.le_refl _, by omega, rfl, HS⟩
        case round =>
          clear HS
          obtain ⟨m, rfl, hm0, hm1, HM, HS⟩ := hrel
          by_cases hmj : m < b
          · have hmjI : (m : Int) < (b : Int) := by omega
            have m0 : (0 : Int) ≤ (m : Int) := by omega
            have m1 : (m : Int) < (n : Int) := by omega
            have m2 : (m : Int) + 1 < 9223372036854775808 := by omega
            obtain ⟨q, hq⟩ : ∃ q, q = m - 1 := ⟨_, rfl⟩
            have hqI : (m : Int) - 1 = (q : Int) := by omega
            have q0 : (0 : Int) ≤ (q : Int) := by omega
            have q1 : (q : Int) < (n : Int) := by omega
            have HU : Hid ((ltS dk[m]! dk[q]! = false → scanSorted ltS dk b m = scanSorted ltS dk b (m + 1)) ∧ (ltS dk[m]! dk[q]! = true → scanSorted ltS dk b m = m)) := by
              refine ⟨fun h => ?_, fun h => ?_⟩
              · rw [scanSorted, ← hq, if_pos (by simp [hmj, h])]
              · rw [scanSorted, ← hq, if_neg (by simp [h])]
            clear hq
            have hxy := cmp_lt dk[m]! dk[q]!
            obtain ⟨x0, x1⟩ := HS.out.at (i := m) (by omega)
            obtain ⟨y0, y1⟩ := HS.out.at (i := q) (by omega)
            have HWW : Hid _ := fun w' (h : Sw W0 B g cap dk w') => h.swp (i := m) (j := q) (by omega) (by omega)
            obtain ⟨⟨xt, xa⟩, hx⟩ : ∃ x, dk[m]! = x := ⟨_, rfl⟩
            obtain ⟨⟨yt, ya⟩, hy⟩ : ∃ x, dk[q]! = x := ⟨_, rfl⟩
            rw [hx, hy] at hxy HWW
            rw [hx] at x0 x1
            rw [hy] at y0 y1
            simp only at x0 x1 y0 y1 hxy
            have hC := fun w => order_any xt xa yt ya w
            generalize cmpS xt xa yt ya = r at hC hxy
            rcases hxy with ⟨hr, hl⟩ | ⟨hr, hl⟩
            · have HN : Hid _ := HU.out.2 (by rw [hx, hy]; exact hl)
              clear hl HU HWW hx hy
              go_wp2_with fail
              refine wp_region_held_drew (S := fun w' => w'.cell? ⟨g, m * 2, none⟩ = some (.int .i64 xt) ∧ w'.cell? ⟨g, m * 2 + 1, none⟩ = some (.int .i64 xa) ∧ w'.cell? ⟨g, q * 2, none⟩ = some (.int .i64 yt) ∧ w'.cell? ⟨g, q * 2 + 1, none⟩ = some (.int .i64 ya)) (by kernel_rfl) ⟨x0, x1, y0, y1⟩ (fun hHeld => ?_)
              refine tkH 0 ((.int .i64 (m : Int))) rfl (Or.inl ⟨by rfl, by intro w hSw; obtain ⟨s0, s1, s2, s3⟩ := hSw; go_simp⟩) hHeld ?_
              simp only [tkS, Act.put]
              refine tkH 1 ((.int .i64 (b : Int))) rfl (Or.inl ⟨by rfl, by intro w hSw; obtain ⟨s0, s1, s2, s3⟩ := hSw; go_simp⟩) hHeld ?_
              simp only [tkS, Act.put]
              refine tkH 2 ((.bool true)) rfl (Or.inl ⟨by rfl, by intro w hSw; obtain ⟨s0, s1, s2, s3⟩ := hSw; go_simp⟩) hHeld ?_
              simp only [tkS, Act.put]
              refine tkH 3 ((.bool true)) rfl (Or.inl ⟨by rfl, by intro w hSw; obtain ⟨s0, s1, s2, s3⟩ := hSw; go_simp⟩) hHeld ?_
              simp only [tkS, Act.put]
              refine tkH 4 ((.func (.func 53) #[.agg #[]] #[])) rfl (Or.inl ⟨by rfl, by intro w hSw; obtain ⟨s0, s1, s2, s3⟩ := hSw; go_simp⟩) hHeld ?_
              simp only [tkS, Act.put]
              refine tkH 5 ((.slice (some ⟨g, 0, none⟩) n cap)) rfl (Or.inl ⟨by rfl, by intro w hSw; obtain ⟨s0, s1, s2, s3⟩ := hSw; go_simp⟩) hHeld ?_
              simp only [tkS, Act.put]
              refine tkH 6 ((.int .i64 (m : Int))) rfl (Or.inl ⟨by rfl, by intro w hSw; obtain ⟨s0, s1, s2, s3⟩ := hSw; go_simp⟩) hHeld ?_
              simp only [tkS, Act.put]
              refine tkH 7 ((.pointer (some ⟨g, m * 2, none⟩))) rfl (Or.inl ⟨by rfl, by intro w hSw; obtain ⟨s0, s1, s2, s3⟩ := hSw; go_simp⟩) hHeld ?_
              simp only [tkS, Act.put]
              refine tkH 8 ((.agg #[.int .i64 xt, .int .i64 xa])) rfl (Or.inl ⟨by rfl, by intro w hSw; obtain ⟨s0, s1, s2, s3⟩ := hSw; go_simp⟩) hHeld ?_
              simp only [tkS, Act.put]
              refine tkH 9 ((.slice (some ⟨g, 0, none⟩) n cap)) rfl (Or.inl ⟨by rfl, by intro w hSw; obtain ⟨s0, s1, s2, s3⟩ := hSw; go_simp⟩) hHeld ?_
              simp only [tkS, Act.put]
              refine tkH 10 ((.int .i64 (m : Int))) rfl (Or.inl ⟨by rfl, by intro w hSw; obtain ⟨s0, s1, s2, s3⟩ := hSw; go_simp⟩) hHeld ?_
              simp only [tkS, Act.put]
              refine tkH 11 ((.int .i64 (q : Int))) rfl (Or.inl ⟨by rfl, by intro w hSw; obtain ⟨s0, s1, s2, s3⟩ := hSw; go_simp; rw [IntKind.wrap_i64]; omega⟩) hHeld ?_
              simp only [tkS, Act.put]
              refine tkH 12 ((.pointer (some ⟨g, q * 2, none⟩))) rfl (Or.inl ⟨by rfl, by intro w hSw; obtain ⟨s0, s1, s2, s3⟩ := hSw; go_simp⟩) hHeld ?_
              simp only [tkS, Act.put]
              refine tkH 13 ((.agg #[.int .i64 yt, .int .i64 ya])) rfl (Or.inl ⟨by rfl, by intro w hSw; obtain ⟨s0, s1, s2, s3⟩ := hSw; go_simp⟩) hHeld ?_
              simp only [tkS, Act.put]
              refine wpAnyH_ready (rs := [14]) (by kernel_rfl) (by simp) ?_
              refine AllReadyH.cons rfl (fun K hK => ?_) AllReadyH.nil
              go_simp
              refine (hC _).mono ?_
              rintro e w2 ⟨rfl, hb2⟩
              go_wp2_with fail
              refine hK.out _ _ ⟨cell_on hb2 hHeld.1, cell_on hb2 hHeld.2.1, cell_on hb2 hHeld.2.2.1, cell_on hb2 hHeld.2.2.2⟩ (fun hHeld2 => ?_)
              clear hK K
              replace HS := swOn (swDrew HS) hb2
              clear hb2 x0 x1 y0 y1
              refine wpAnyH_take (i := 15) (v := (.bool true)) rfl (by kernel_rfl) (by kernel_rfl) (by kernel_rfl) (fun _ _ _ h => h) (Or.inl ⟨by rfl, by intro w hSw; obtain ⟨s0, s1, s2, s3⟩ := hSw; go_simp⟩) hHeld2 ?_
              simp only [tkS, Act.put]
              refine wpAnyH_take (i := 16) (v := (.bool false)) rfl (by kernel_rfl) (by kernel_rfl) (by kernel_rfl) (fun _ _ _ h => h) (Or.inl ⟨by rfl, by intro w hSw; obtain ⟨s0, s1, s2, s3⟩ := hSw; go_simp⟩) hHeld2 ?_
              simp only [tkS, Act.put]
              refine wpAnyH_take (i := 17) (v := (.bool false)) rfl (by kernel_rfl) (by kernel_rfl) (by kernel_rfl) (fun _ _ _ h => h) (Or.inl ⟨by rfl, by intro w hSw; obtain ⟨s0, s1, s2, s3⟩ := hSw; go_simp⟩) hHeld2 ?_
              simp only [tkS, Act.put]
              refine wpAnyH_done (by kernel_rfl) ?_ _
              clear hHeld hHeld2
              go_wp2_with fail
              go_meet
              case rel => exact ⟨m, rfl, hm0, hm1, by unfold Hid; rw [← HM.out, HN.out], HS⟩
            · have HN : Hid _ := HU.out.1 (by rw [hx, hy]; exact hl)
              clear hl HU HWW hx hy
              go_wp2_with fail
              refine wp_region_held_drew (S := fun w' => w'.cell? ⟨g, m * 2, none⟩ = some (.int .i64 xt) ∧ w'.cell? ⟨g, m * 2 + 1, none⟩ = some (.int .i64 xa) ∧ w'.cell? ⟨g, q * 2, none⟩ = some (.int .i64 yt) ∧ w'.cell? ⟨g, q * 2 + 1, none⟩ = some (.int .i64 ya)) (by kernel_rfl) ⟨x0, x1, y0, y1⟩ (fun hHeld => ?_)
              refine tkH 0 ((.int .i64 (m : Int))) rfl (Or.inl ⟨by rfl, by intro w hSw; obtain ⟨s0, s1, s2, s3⟩ := hSw; go_simp⟩) hHeld ?_
              simp only [tkS, Act.put]
              refine tkH 1 ((.int .i64 (b : Int))) rfl (Or.inl ⟨by rfl, by intro w hSw; obtain ⟨s0, s1, s2, s3⟩ := hSw; go_simp⟩) hHeld ?_
              simp only [tkS, Act.put]
              refine tkH 2 ((.bool true)) rfl (Or.inl ⟨by rfl, by intro w hSw; obtain ⟨s0, s1, s2, s3⟩ := hSw; go_simp⟩) hHeld ?_
              simp only [tkS, Act.put]
              refine tkH 3 ((.bool true)) rfl (Or.inl ⟨by rfl, by intro w hSw; obtain ⟨s0, s1, s2, s3⟩ := hSw; go_simp⟩) hHeld ?_
              simp only [tkS, Act.put]
              refine tkH 4 ((.func (.func 53) #[.agg #[]] #[])) rfl (Or.inl ⟨by rfl, by intro w hSw; obtain ⟨s0, s1, s2, s3⟩ := hSw; go_simp⟩) hHeld ?_
              simp only [tkS, Act.put]
              refine tkH 5 ((.slice (some ⟨g, 0, none⟩) n cap)) rfl (Or.inl ⟨by rfl, by intro w hSw; obtain ⟨s0, s1, s2, s3⟩ := hSw; go_simp⟩) hHeld ?_
              simp only [tkS, Act.put]
              refine tkH 6 ((.int .i64 (m : Int))) rfl (Or.inl ⟨by rfl, by intro w hSw; obtain ⟨s0, s1, s2, s3⟩ := hSw; go_simp⟩) hHeld ?_
              simp only [tkS, Act.put]
              refine tkH 7 ((.pointer (some ⟨g, m * 2, none⟩))) rfl (Or.inl ⟨by rfl, by intro w hSw; obtain ⟨s0, s1, s2, s3⟩ := hSw; go_simp⟩) hHeld ?_
              simp only [tkS, Act.put]
              refine tkH 8 ((.agg #[.int .i64 xt, .int .i64 xa])) rfl (Or.inl ⟨by rfl, by intro w hSw; obtain ⟨s0, s1, s2, s3⟩ := hSw; go_simp⟩) hHeld ?_
              simp only [tkS, Act.put]
              refine tkH 9 ((.slice (some ⟨g, 0, none⟩) n cap)) rfl (Or.inl ⟨by rfl, by intro w hSw; obtain ⟨s0, s1, s2, s3⟩ := hSw; go_simp⟩) hHeld ?_
              simp only [tkS, Act.put]
              refine tkH 10 ((.int .i64 (m : Int))) rfl (Or.inl ⟨by rfl, by intro w hSw; obtain ⟨s0, s1, s2, s3⟩ := hSw; go_simp⟩) hHeld ?_
              simp only [tkS, Act.put]
              refine tkH 11 ((.int .i64 (q : Int))) rfl (Or.inl ⟨by rfl, by intro w hSw; obtain ⟨s0, s1, s2, s3⟩ := hSw; go_simp; rw [IntKind.wrap_i64]; omega⟩) hHeld ?_
              simp only [tkS, Act.put]
              refine tkH 12 ((.pointer (some ⟨g, q * 2, none⟩))) rfl (Or.inl ⟨by rfl, by intro w hSw; obtain ⟨s0, s1, s2, s3⟩ := hSw; go_simp⟩) hHeld ?_
              simp only [tkS, Act.put]
              refine tkH 13 ((.agg #[.int .i64 yt, .int .i64 ya])) rfl (Or.inl ⟨by rfl, by intro w hSw; obtain ⟨s0, s1, s2, s3⟩ := hSw; go_simp⟩) hHeld ?_
              simp only [tkS, Act.put]
              refine wpAnyH_ready (rs := [14]) (by kernel_rfl) (by simp) ?_
              refine AllReadyH.cons rfl (fun K hK => ?_) AllReadyH.nil
              go_simp
              refine (hC _).mono ?_
              rintro e w2 ⟨rfl, hb2⟩
              go_wp2_with fail
              refine hK.out _ _ ⟨cell_on hb2 hHeld.1, cell_on hb2 hHeld.2.1, cell_on hb2 hHeld.2.2.1, cell_on hb2 hHeld.2.2.2⟩ (fun hHeld2 => ?_)
              clear hK K
              replace HS := swOn (swDrew HS) hb2
              clear hb2 x0 x1 y0 y1
              refine wpAnyH_take (i := 15) (v := (.bool false)) rfl (by kernel_rfl) (by kernel_rfl) (by kernel_rfl) (fun _ _ _ h => h) (Or.inl ⟨by rfl, by intro w hSw; obtain ⟨s0, s1, s2, s3⟩ := hSw; go_simp⟩) hHeld2 ?_
              simp only [tkS, Act.put]
              refine wpAnyH_take (i := 16) (v := (.bool true)) rfl (by kernel_rfl) (by kernel_rfl) (by kernel_rfl) (fun _ _ _ h => h) (Or.inl ⟨by rfl, by intro w hSw; obtain ⟨s0, s1, s2, s3⟩ := hSw; go_simp⟩) hHeld2 ?_
              simp only [tkS, Act.put]
              refine wpAnyH_take (i := 17) (v := (.bool true)) rfl (by kernel_rfl) (by kernel_rfl) (by kernel_rfl) (fun _ _ _ h => h) (Or.inl ⟨by rfl, by intro w hSw; obtain ⟨s0, s1, s2, s3⟩ := hSw; go_simp⟩) hHeld2 ?_
              simp only [tkS, Act.put]
              refine wpAnyH_done (by kernel_rfl) ?_ _
              clear hHeld hHeld2
              go_wp2_with fail
              go_roundw
              case rel => exact ⟨m + 1, by go_num, by omega, by omega, by unfold Hid; rw [← HM.out, HN.out], HS⟩
              case measure => simp [intOf]; omega
          · have hmjI : ¬ (m : Int) < (b : Int) := by omega
            have HN : Hid (scanSorted ltS dk b m = m) := by
              unfold Hid
              rw [scanSorted, if_neg (by simp [hmj])]
            go_wp2_with fail
            go_quiet (fail)
            go_wp2_with fail
            go_meet
            case rel => exact ⟨m, rfl, hm0, hm1, by unfold Hid; rw [← HM.out, HN.out], swDrewN HS nq⟩
      case rest =>
        clear HS
        obtain ⟨ia, rfl, hia0, hia1, HIA, HS⟩ := hcut
        have HST : partialIns ltS a b (s + 1) i dk = if ia = b then (dk, true) else if b - a < 50 then (dk, false) else partialIns ltS a b s ia (if b - ia ≥ 2 then shiftUp ltS b (ia + 1) (if ia - a ≥ 2 then shiftDown ltS (ia - 1) (swp dk ia (ia - 1)) else swp dk ia (ia - 1)) else (if ia - a ≥ 2 then shiftDown ltS (ia - 1) (swp dk ia (ia - 1)) else swp dk ia (ia - 1))) := by
          rw [partialIns]
          simp only [HIA.out]
        clear HIA
        by_cases hend : ia = b
        · have hendI : (ia : Int) = (b : Int) := by omega
          rw [if_pos hend] at HST
          have HN : Hid _ := HST
          clear HST hend
          go_wp2_with fail
          refine bodyPost_ret (v := .bool true) ?_ rfl ⟨?_, ?_⟩
          · simp [results, Tryz.results103, go_sem]
          · rw [← HE.out, HN.out]
          · rw [← HE.out, HN.out]
            exact HS.out
        · have hendB : ((ia : Int) == (b : Int)) = false := by simp; omega
          have hiab : ia < b := by omega
          rw [if_neg hend] at HST
          clear hend
          obtain ⟨l, hl⟩ : ∃ l, l = b - a := ⟨_, rfl⟩
          have hlI : (b : Int) - (a : Int) = (l : Int) := by omega
          rw [← hl] at HST
          clear hl
          by_cases h50 : l < 50
          · have h50I : (l : Int) < 50 := by omega
            rw [if_pos h50] at HST
            have HN : Hid _ := HST
            clear HST
            go_wp2_with fail
            refine bodyPost_ret (v := .bool false) ?_ rfl ⟨?_, ?_⟩
            · simp [results, Tryz.results103, go_sem]
            · rw [← HE.out, HN.out]
            · rw [← HE.out, HN.out]
              exact HS.out
          · have h50I : ¬ (l : Int) < 50 := by omega
            rw [if_neg h50] at HST
            obtain ⟨i1, hi1⟩ : ∃ i1 : Nat, i1 = ia - 1 := ⟨_, rfl⟩
            rw [← hi1] at HST
            have hi1I : (ia : Int) - 1 = (i1 : Int) := by omega
            have hi1n : i1 < n := by omega
            have ian : ia < n := by omega
            have i10 : (0 : Int) ≤ (i1 : Int) := by omega
            have i11 : (i1 : Int) < (n : Int) := by omega
            have ia0 : (0 : Int) ≤ (ia : Int) := by omega
            have ia1 : (ia : Int) < (n : Int) := by omega
            clear hi1
            go_upto_region 11 with fail
            go_cut [61] from 46 to 61 (fun tt wx => Hid (Sw W0 B g cap (swp dk ia i1) wx))
            case first =>
              have hxy := cmp_lt dk[ia]! dk[i1]!
              obtain ⟨x0, x1⟩ := HS.out.at (i := ia) (by omega)
              obtain ⟨y0, y1⟩ := HS.out.at (i := i1) (by omega)
              have HWW : Hid _ := fun w' (h : Sw W0 B g cap dk w') => h.swp (i := ia) (j := i1) (by omega) (by omega)
              obtain ⟨⟨xt, xa⟩, hx⟩ : ∃ x, dk[ia]! = x := ⟨_, rfl⟩
              obtain ⟨⟨yt, ya⟩, hy⟩ : ∃ x, dk[i1]! = x := ⟨_, rfl⟩
              rw [hx, hy] at hxy HWW
              rw [hx] at x0 x1
              rw [hy] at y0 y1
              simp only at x0 x1 y0 y1 hxy
              have hC := fun w => order_any xt xa yt ya w
              generalize cmpS xt xa yt ya = r at hC hxy
              clear hxy hC
              have hSd := (swDrew HS).out
              obtain ⟨x0, x1⟩ := hSd.at (i := ia) (by omega)
              obtain ⟨y0, y1⟩ := hSd.at (i := i1) (by omega)
              rw [hx] at x0 x1
              rw [hy] at y0 y1
              obtain ⟨u0, u1, u2, u3, ⟨e0, f0⟩, ⟨e1, f1⟩, ⟨e2, f2⟩, ⟨e3, f3⟩⟩ := HS.out.steps (i := ia) (j := i1) (by omega) (by omega) (.int .i64 yt) (.int .i64 ya) (.int .i64 xt)
              have HF : Hid (Sw W0 B g cap (swp dk ia i1) ((((wc.setCell ⟨g, ia * 2, none⟩ (.int .i64 yt)).setCell ⟨g, ia * 2 + 1, none⟩ (.int .i64 ya)).setCell ⟨g, i1 * 2, none⟩ (.int .i64 xt)).setCell ⟨g, i1 * 2 + 1, none⟩ (.int .i64 xa)).drew) := HWW.out _ hSd
              simp only at x0 x1 y0 y1
              clear hSd hx hy e0
              refine wp_region_held_drew (S := fun w' => True) (by kernel_rfl) trivial (fun hHeld => ?_)
              refine tkH 0 ((.slice (some ⟨g, 0, none⟩) n cap)) rfl (Or.inl ⟨by rfl, by intro w hSw; go_simp⟩) hHeld ?_
              simp only [tkS, Act.put]
              refine tkH 1 ((.int .i64 (ia : Int))) rfl (Or.inl ⟨by rfl, by intro w hSw; go_simp⟩) hHeld ?_
              simp only [tkS, Act.put]
              refine tkH 2 ((.slice (some ⟨g, 0, none⟩) n cap)) rfl (Or.inl ⟨by rfl, by intro w hSw; go_simp⟩) hHeld ?_
              simp only [tkS, Act.put]
              refine tkH 3 ((.int .i64 (ia : Int))) rfl (Or.inl ⟨by rfl, by intro w hSw; go_simp⟩) hHeld ?_
              simp only [tkS, Act.put]
              refine tkH 4 ((.int .i64 (i1 : Int))) rfl (Or.inl ⟨by rfl, by intro w hSw; go_simp; rw [IntKind.wrap_i64]; omega⟩) hHeld ?_
              simp only [tkS, Act.put]
              refine tkH 5 ((.slice (some ⟨g, 0, none⟩) n cap)) rfl (Or.inl ⟨by rfl, by intro w hSw; go_simp⟩) hHeld ?_
              simp only [tkS, Act.put]
              refine tkH 6 ((.int .i64 (ia : Int))) rfl (Or.inl ⟨by rfl, by intro w hSw; go_simp⟩) hHeld ?_
              simp only [tkS, Act.put]
              refine tkH 7 ((.int .i64 (i1 : Int))) rfl (Or.inl ⟨by rfl, by intro w hSw; go_simp; rw [IntKind.wrap_i64]; omega⟩) hHeld ?_
              simp only [tkS, Act.put]
              refine tkH 8 ((.pointer (some ⟨g, i1 * 2, none⟩))) rfl (Or.inl ⟨by rfl, by intro w hSw; go_simp⟩) hHeld ?_
              simp only [tkS, Act.put]
              refine tkH 10 ((.slice (some ⟨g, 0, none⟩) n cap)) rfl (Or.inl ⟨by rfl, by intro w hSw; go_simp⟩) hHeld ?_
              simp only [tkS, Act.put]
              refine tkH 11 ((.int .i64 (ia : Int))) rfl (Or.inl ⟨by rfl, by intro w hSw; go_simp⟩) hHeld ?_
              simp only [tkS, Act.put]
              refine tkH 12 ((.pointer (some ⟨g, ia * 2, none⟩))) rfl (Or.inl ⟨by rfl, by intro w hSw; go_simp⟩) hHeld ?_
              simp only [tkS, Act.put]
              refine wpAnyH_ready (rs := [9, 13]) (by kernel_rfl) (by simp) ?_
              refine AllReadyH.cons rfl (fun K hK => ?wayA1) (AllReadyH.cons rfl (fun K hK => ?wayB1) AllReadyH.nil)
              case' wayA1 =>
                go_simp
                refine hK.out _ _ trivial (fun hHeld1 => ?_)
                clear hK K
                refine wpAnyH_ready (rs := [13]) (by kernel_rfl) (by simp) ?_
                refine AllReadyH.cons rfl (fun K hK => ?_) AllReadyH.nil
                go_simp
                refine hK.out _ _ trivial (fun hHeld2 => ?_)
                clear hK K
              case' wayB1 =>
                go_simp
                refine hK.out _ _ trivial (fun hHeld1 => ?_)
                clear hK K
                refine wpAnyH_ready (rs := [9]) (by kernel_rfl) (by simp) ?_
                refine AllReadyH.cons rfl (fun K hK => ?_) AllReadyH.nil
                go_simp
                refine hK.out _ _ trivial (fun hHeld2 => ?_)
                clear hK K
              all_goals
                refine wpAnyH_take (i := 14) (v := (.pointer (some ⟨g, ia * 2, none⟩))) rfl (by kernel_rfl) (by kernel_rfl) (by kernel_rfl) (fun _ _ _ h => h) (Or.inl ⟨by rfl, by intro w hSw; go_simp⟩) hHeld2 ?_
                simp only [tkS, Act.put]
                refine wpAnyH_ready (rs := [15]) (by kernel_rfl) (by simp) ?_
                refine AllReadyH.cons rfl (fun K hK => ?_) AllReadyH.nil
                go_simp
                refine hK.out _ _ trivial (fun hHeld3 => ?_)
                clear hK K
                refine wpAnyH_take (i := 16) (v := (.pointer (some ⟨g, i1 * 2, none⟩))) rfl (by kernel_rfl) (by kernel_rfl) (by kernel_rfl) (fun _ _ _ h => h) (Or.inl ⟨by rfl, by intro w hSw; go_simp⟩) hHeld3 ?_
                simp only [tkS, Act.put]
                refine wpAnyH_ready (rs := [17]) (by kernel_rfl) (by simp) ?_
                refine AllReadyH.cons rfl (fun K hK => ?_) AllReadyH.nil
                go_simp
                refine hK.out _ _ trivial (fun hHeld4 => ?_)
                clear hK K
                refine wpAnyH_done (by kernel_rfl) ?_ _
              all_goals
                go_wp2_with fail
                go_meet
                case rel => exact HF
            case rest =>
              replace HS := hcut
              clear hcut
              have hd2 : (swp dk ia i1).size = n := by rw [swp_size]; exact hdk
              generalize swp dk ia i1 = d2 at HS hd2 HST
              obtain ⟨l2, hl2⟩ : ∃ l2, l2 = ia - a := ⟨_, rfl⟩
              have hl2I : (ia : Int) - (a : Int) = (l2 : Int) := by omega
              rw [← hl2] at HST
              clear hl2
              by_cases hdn : l2 ≥ 2
              · have hdnI : (2 : Int) ≤ (l2 : Int) := by omega
                rw [if_pos hdn] at HST
                go_upto_block 4 with fail
                go_cut [11] from 68 to 100 (fun tt wx => ∃ dz : Array Sp, dz.size = n ∧ Hid (shiftDown ltS i1 d2 = dz) ∧ Hid (Sw W0 B g cap dz wx))
                case first =>
                  go_wp2_with fail
                  go_loopw [11] (fun tt wx => ∃ (j : Nat) (dj : Array Sp), tt = .int .i64 (j : Int) ∧ j ≤ i1 ∧ dj.size = n ∧ Hid (Sw W0 B g cap dj wx) ∧ Hid (shiftDown ltS j dj = shiftDown ltS i1 d2)) (fun tt _ => (intOf tt).toNat)
                  case atStart => exact ⟨i1, d2, by go_num, Nat.le_refl _, hd2, HS, rfl⟩
                  case round =>
                    clear HS
                    obtain ⟨j, dj, rfl, hj0, hdj, HS, HJ⟩ := hrel
                    by_cases hj1 : 1 ≤ j
                    · have hjI : (1 : Int) ≤ (j : Int) := by omega
                      have j0 : (0 : Int) ≤ (j : Int) := by omega
                      have j1 : (j : Int) < (n : Int) := by omega
                      obtain ⟨m, hm⟩ : ∃ m, j = m + 1 := ⟨j - 1, by omega⟩
                      have hmI : (j : Int) - 1 = (m : Int) := by omega
                      have m0 : (0 : Int) ≤ (m : Int) := by omega
                      have m1 : (m : Int) < (n : Int) := by omega
                      have HU : Hid ((ltS dj[j]! dj[m]! = false → shiftDown ltS j dj = dj) ∧ (ltS dj[j]! dj[m]! = true → shiftDown ltS j dj = shiftDown ltS m (swp dj j m))) := by
                        subst hm
                        refine ⟨fun h => ?_, fun h => ?_⟩
                        · rw [shiftDown, if_pos (by simp [h])]
                        · rw [shiftDown, if_neg (by simp [h])]
                      have HJM : Hid (j = m + 1) := hm
                      clear hm
                      have hxy := cmp_lt dj[j]! dj[m]!
                      obtain ⟨x0, x1⟩ := HS.out.at (i := j) (by omega)
                      obtain ⟨y0, y1⟩ := HS.out.at (i := m) (by omega)
                      have HWW : Hid _ := fun w' (h : Sw W0 B g cap dj w') => h.swp (i := j) (j := m) (by omega) (by omega)
                      obtain ⟨⟨xt, xa⟩, hx⟩ : ∃ x, dj[j]! = x := ⟨_, rfl⟩
                      obtain ⟨⟨yt, ya⟩, hy⟩ : ∃ x, dj[m]! = x := ⟨_, rfl⟩
                      rw [hx, hy] at hxy HWW
                      rw [hx] at x0 x1
                      rw [hy] at y0 y1
                      simp only at x0 x1 y0 y1 hxy
                      have hC := fun w => order_any xt xa yt ya w
                      generalize cmpS xt xa yt ya = r at hC hxy
                      rcases hxy with ⟨hr, hl⟩ | ⟨hr, hl⟩
                      · have HN : Hid _ := HU.out.2 (by rw [hx, hy]; exact hl)
                        clear hl HU
                        go_wp2_with fail
                        refine wp_region_held_drew (S := fun w' => w'.cell? ⟨g, j * 2, none⟩ = some (.int .i64 xt) ∧ w'.cell? ⟨g, j * 2 + 1, none⟩ = some (.int .i64 xa) ∧ w'.cell? ⟨g, m * 2, none⟩ = some (.int .i64 yt) ∧ w'.cell? ⟨g, m * 2 + 1, none⟩ = some (.int .i64 ya)) (by kernel_rfl) ⟨x0, x1, y0, y1⟩ (fun hHeld => ?_)
                        refine tkH 0 ((.func (.func 53) #[.agg #[]] #[])) rfl (Or.inl ⟨by rfl, by intro w hSw; obtain ⟨s0, s1, s2, s3⟩ := hSw; go_simp⟩) hHeld ?_
                        simp only [tkS, Act.put]
                        refine tkH 1 ((.slice (some ⟨g, 0, none⟩) n cap)) rfl (Or.inl ⟨by rfl, by intro w hSw; obtain ⟨s0, s1, s2, s3⟩ := hSw; go_simp⟩) hHeld ?_
                        simp only [tkS, Act.put]
                        refine tkH 2 ((.int .i64 (j : Int))) rfl (Or.inl ⟨by rfl, by intro w hSw; obtain ⟨s0, s1, s2, s3⟩ := hSw; go_simp⟩) hHeld ?_
                        simp only [tkS, Act.put]
                        refine tkH 3 ((.pointer (some ⟨g, j * 2, none⟩))) rfl (Or.inl ⟨by rfl, by intro w hSw; obtain ⟨s0, s1, s2, s3⟩ := hSw; go_simp⟩) hHeld ?_
                        simp only [tkS, Act.put]
                        refine tkH 4 ((.agg #[.int .i64 xt, .int .i64 xa])) rfl (Or.inl ⟨by rfl, by intro w hSw; obtain ⟨s0, s1, s2, s3⟩ := hSw; go_simp⟩) hHeld ?_
                        simp only [tkS, Act.put]
                        refine tkH 5 ((.slice (some ⟨g, 0, none⟩) n cap)) rfl (Or.inl ⟨by rfl, by intro w hSw; obtain ⟨s0, s1, s2, s3⟩ := hSw; go_simp⟩) hHeld ?_
                        simp only [tkS, Act.put]
                        refine tkH 6 ((.int .i64 (j : Int))) rfl (Or.inl ⟨by rfl, by intro w hSw; obtain ⟨s0, s1, s2, s3⟩ := hSw; go_simp⟩) hHeld ?_
                        simp only [tkS, Act.put]
                        refine tkH 7 ((.int .i64 (m : Int))) rfl (Or.inl ⟨by rfl, by intro w hSw; obtain ⟨s0, s1, s2, s3⟩ := hSw; go_simp; rw [IntKind.wrap_i64]; omega⟩) hHeld ?_
                        simp only [tkS, Act.put]
                        refine tkH 8 ((.pointer (some ⟨g, m * 2, none⟩))) rfl (Or.inl ⟨by rfl, by intro w hSw; obtain ⟨s0, s1, s2, s3⟩ := hSw; go_simp⟩) hHeld ?_
                        simp only [tkS, Act.put]
                        refine tkH 9 ((.agg #[.int .i64 yt, .int .i64 ya])) rfl (Or.inl ⟨by rfl, by intro w hSw; obtain ⟨s0, s1, s2, s3⟩ := hSw; go_simp⟩) hHeld ?_
                        simp only [tkS, Act.put]
                        refine wpAnyH_ready (rs := [10]) (by kernel_rfl) (by simp) ?_
                        refine AllReadyH.cons rfl (fun K hK => ?_) AllReadyH.nil
                        go_simp
                        refine (hC _).mono ?_
                        rintro e w2 ⟨rfl, hb2⟩
                        go_wp2_with fail
                        refine hK.out _ _ ⟨cell_on hb2 hHeld.1, cell_on hb2 hHeld.2.1, cell_on hb2 hHeld.2.2.1, cell_on hb2 hHeld.2.2.2⟩ (fun hHeld2 => ?_)
                        clear hK K
                        replace HS := swOn (swDrew HS) hb2
                        clear hb2 x0 x1 y0 y1
                        refine wpAnyH_take (i := 11) (v := (.bool true)) rfl (by kernel_rfl) (by kernel_rfl) (by kernel_rfl) (fun _ _ _ h => h) (Or.inl ⟨by rfl, by intro w hSw; obtain ⟨s0, s1, s2, s3⟩ := hSw; go_simp⟩) hHeld2 ?_
                        simp only [tkS, Act.put]
                        refine wpAnyH_take (i := 12) (v := (.bool false)) rfl (by kernel_rfl) (by kernel_rfl) (by kernel_rfl) (fun _ _ _ h => h) (Or.inl ⟨by rfl, by intro w hSw; obtain ⟨s0, s1, s2, s3⟩ := hSw; go_simp⟩) hHeld2 ?_
                        simp only [tkS, Act.put]
                        refine wpAnyH_done (by kernel_rfl) ?_ _
                        clear hHeld hHeld2
                        go_upto_region 17 with fail
                        have hSd := (swDrew HS).out
                        obtain ⟨x0, x1⟩ := hSd.at (i := j) (by omega)
                        obtain ⟨y0, y1⟩ := hSd.at (i := m) (by omega)
                        rw [hx] at x0 x1
                        rw [hy] at y0 y1
                        obtain ⟨u0, u1, u2, u3, ⟨e0, f0⟩, ⟨e1, f1⟩, ⟨e2, f2⟩, ⟨e3, f3⟩⟩ := HS.out.steps (i := j) (j := m) (by omega) (by omega) (.int .i64 yt) (.int .i64 ya) (.int .i64 xt)
                        have HF : Hid (Sw W0 B g cap (swp dj j m) ((((w2.setCell ⟨g, j * 2, none⟩ (.int .i64 yt)).setCell ⟨g, j * 2 + 1, none⟩ (.int .i64 ya)).setCell ⟨g, m * 2, none⟩ (.int .i64 xt)).setCell ⟨g, m * 2 + 1, none⟩ (.int .i64 xa)).drew) := HWW.out _ hSd
                        simp only at x0 x1 y0 y1
                        clear hSd hx hy e0
                        refine wp_region_held_drew (S := fun w' => True) (by kernel_rfl) trivial (fun hHeld => ?_)
                        refine tkH 0 ((.slice (some ⟨g, 0, none⟩) n cap)) rfl (Or.inl ⟨by rfl, by intro w hSw; go_simp⟩) hHeld ?_
                        simp only [tkS, Act.put]
                        refine tkH 1 ((.int .i64 (j : Int))) rfl (Or.inl ⟨by rfl, by intro w hSw; go_simp⟩) hHeld ?_
                        simp only [tkS, Act.put]
                        refine tkH 2 ((.slice (some ⟨g, 0, none⟩) n cap)) rfl (Or.inl ⟨by rfl, by intro w hSw; go_simp⟩) hHeld ?_
                        simp only [tkS, Act.put]
                        refine tkH 3 ((.int .i64 (j : Int))) rfl (Or.inl ⟨by rfl, by intro w hSw; go_simp⟩) hHeld ?_
                        simp only [tkS, Act.put]
                        refine tkH 4 ((.int .i64 (m : Int))) rfl (Or.inl ⟨by rfl, by intro w hSw; go_simp; rw [IntKind.wrap_i64]; omega⟩) hHeld ?_
                        simp only [tkS, Act.put]
                        refine tkH 5 ((.slice (some ⟨g, 0, none⟩) n cap)) rfl (Or.inl ⟨by rfl, by intro w hSw; go_simp⟩) hHeld ?_
                        simp only [tkS, Act.put]
                        refine tkH 6 ((.int .i64 (j : Int))) rfl (Or.inl ⟨by rfl, by intro w hSw; go_simp⟩) hHeld ?_
                        simp only [tkS, Act.put]
                        refine tkH 7 ((.int .i64 (m : Int))) rfl (Or.inl ⟨by rfl, by intro w hSw; go_simp; rw [IntKind.wrap_i64]; omega⟩) hHeld ?_
                        simp only [tkS, Act.put]
                        refine tkH 8 ((.pointer (some ⟨g, m * 2, none⟩))) rfl (Or.inl ⟨by rfl, by intro w hSw; go_simp⟩) hHeld ?_
                        simp only [tkS, Act.put]
                        refine tkH 10 ((.slice (some ⟨g, 0, none⟩) n cap)) rfl (Or.inl ⟨by rfl, by intro w hSw; go_simp⟩) hHeld ?_
                        simp only [tkS, Act.put]
                        refine tkH 11 ((.int .i64 (j : Int))) rfl (Or.inl ⟨by rfl, by intro w hSw; go_simp⟩) hHeld ?_
                        simp only [tkS, Act.put]
                        refine tkH 12 ((.pointer (some ⟨g, j * 2, none⟩))) rfl (Or.inl ⟨by rfl, by intro w hSw; go_simp⟩) hHeld ?_
                        simp only [tkS, Act.put]
                        refine wpAnyH_ready (rs := [9, 13]) (by kernel_rfl) (by simp) ?_
                        refine AllReadyH.cons rfl (fun K hK => ?wayA2) (AllReadyH.cons rfl (fun K hK => ?wayB2) AllReadyH.nil)
                        case' wayA2 =>
                          go_simp
                          refine hK.out _ _ trivial (fun hHeld1 => ?_)
                          clear hK K
                          refine wpAnyH_ready (rs := [13]) (by kernel_rfl) (by simp) ?_
                          refine AllReadyH.cons rfl (fun K hK => ?_) AllReadyH.nil
                          go_simp
                          refine hK.out _ _ trivial (fun hHeld2 => ?_)
                          clear hK K
                        case' wayB2 =>
                          go_simp
                          refine hK.out _ _ trivial (fun hHeld1 => ?_)
                          clear hK K
                          refine wpAnyH_ready (rs := [9]) (by kernel_rfl) (by simp) ?_
                          refine AllReadyH.cons rfl (fun K hK => ?_) AllReadyH.nil
                          go_simp
                          refine hK.out _ _ trivial (fun hHeld2 => ?_)
                          clear hK K
                        all_goals
                          refine wpAnyH_take (i := 14) (v := (.pointer (some ⟨g, j * 2, none⟩))) rfl (by kernel_rfl) (by kernel_rfl) (by kernel_rfl) (fun _ _ _ h => h) (Or.inl ⟨by rfl, by intro w hSw; go_simp⟩) hHeld2 ?_
                          simp only [tkS, Act.put]
                          refine wpAnyH_ready (rs := [15]) (by kernel_rfl) (by simp) ?_
                          refine AllReadyH.cons rfl (fun K hK => ?_) AllReadyH.nil
                          go_simp
                          refine hK.out _ _ trivial (fun hHeld3 => ?_)
                          clear hK K
                          refine wpAnyH_take (i := 16) (v := (.pointer (some ⟨g, m * 2, none⟩))) rfl (by kernel_rfl) (by kernel_rfl) (by kernel_rfl) (fun _ _ _ h => h) (Or.inl ⟨by rfl, by intro w hSw; go_simp⟩) hHeld3 ?_
                          simp only [tkS, Act.put]
                          refine wpAnyH_ready (rs := [17]) (by kernel_rfl) (by simp) ?_
                          refine AllReadyH.cons rfl (fun K hK => ?_) AllReadyH.nil
                          go_simp
                          refine hK.out _ _ trivial (fun hHeld4 => ?_)
                          clear hK K
                          refine wpAnyH_done (by kernel_rfl) ?_ _
                        all_goals
                          go_wp2_with fail
                          go_roundw
                          case rel => exact ⟨m, swp dj j m, by go_num, by have := HJM.out; omega, by rw [swp_size]; exact hdj, HF, by unfold Hid; rw [← HJ.out, HN.out]⟩
                          case measure => have := HJM.out; simp [intOf]; omega
                      · have HN : Hid _ := HU.out.1 (by rw [hx, hy]; exact hl)
                        clear hl HU HWW hx hy
                        go_wp2_with fail
                        refine wp_region_held_drew (S := fun w' => w'.cell? ⟨g, j * 2, none⟩ = some (.int .i64 xt) ∧ w'.cell? ⟨g, j * 2 + 1, none⟩ = some (.int .i64 xa) ∧ w'.cell? ⟨g, m * 2, none⟩ = some (.int .i64 yt) ∧ w'.cell? ⟨g, m * 2 + 1, none⟩ = some (.int .i64 ya)) (by kernel_rfl) ⟨x0, x1, y0, y1⟩ (fun hHeld => ?_)
                        refine tkH 0 ((.func (.func 53) #[.agg #[]] #[])) rfl (Or.inl ⟨by rfl, by intro w hSw; obtain ⟨s0, s1, s2, s3⟩ := hSw; go_simp⟩) hHeld ?_
                        simp only [tkS, Act.put]
                        refine tkH 1 ((.slice (some ⟨g, 0, none⟩) n cap)) rfl (Or.inl ⟨by rfl, by intro w hSw; obtain ⟨s0, s1, s2, s3⟩ := hSw; go_simp⟩) hHeld ?_
                        simp only [tkS, Act.put]
                        refine tkH 2 ((.int .i64 (j : Int))) rfl (Or.inl ⟨by rfl, by intro w hSw; obtain ⟨s0, s1, s2, s3⟩ := hSw; go_simp⟩) hHeld ?_
                        simp only [tkS, Act.put]
                        refine tkH 3 ((.pointer (some ⟨g, j * 2, none⟩))) rfl (Or.inl ⟨by rfl, by intro w hSw; obtain ⟨s0, s1, s2, s3⟩ := hSw; go_simp⟩) hHeld ?_
                        simp only [tkS, Act.put]
                        refine tkH 4 ((.agg #[.int .i64 xt, .int .i64 xa])) rfl (Or.inl ⟨by rfl, by intro w hSw; obtain ⟨s0, s1, s2, s3⟩ := hSw; go_simp⟩) hHeld ?_
                        simp only [tkS, Act.put]
                        refine tkH 5 ((.slice (some ⟨g, 0, none⟩) n cap)) rfl (Or.inl ⟨by rfl, by intro w hSw; obtain ⟨s0, s1, s2, s3⟩ := hSw; go_simp⟩) hHeld ?_
                        simp only [tkS, Act.put]
                        refine tkH 6 ((.int .i64 (j : Int))) rfl (Or.inl ⟨by rfl, by intro w hSw; obtain ⟨s0, s1, s2, s3⟩ := hSw; go_simp⟩) hHeld ?_
                        simp only [tkS, Act.put]
                        refine tkH 7 ((.int .i64 (m : Int))) rfl (Or.inl ⟨by rfl, by intro w hSw; obtain ⟨s0, s1, s2, s3⟩ := hSw; go_simp; rw [IntKind.wrap_i64]; omega⟩) hHeld ?_
                        simp only [tkS, Act.put]
                        refine tkH 8 ((.pointer (some ⟨g, m * 2, none⟩))) rfl (Or.inl ⟨by rfl, by intro w hSw; obtain ⟨s0, s1, s2, s3⟩ := hSw; go_simp⟩) hHeld ?_
                        simp only [tkS, Act.put]
                        refine tkH 9 ((.agg #[.int .i64 yt, .int .i64 ya])) rfl (Or.inl ⟨by rfl, by intro w hSw; obtain ⟨s0, s1, s2, s3⟩ := hSw; go_simp⟩) hHeld ?_
                        simp only [tkS, Act.put]
                        refine wpAnyH_ready (rs := [10]) (by kernel_rfl) (by simp) ?_
                        refine AllReadyH.cons rfl (fun K hK => ?_) AllReadyH.nil
                        go_simp
                        refine (hC _).mono ?_
                        rintro e w2 ⟨rfl, hb2⟩
                        go_wp2_with fail
                        refine hK.out _ _ ⟨cell_on hb2 hHeld.1, cell_on hb2 hHeld.2.1, cell_on hb2 hHeld.2.2.1, cell_on hb2 hHeld.2.2.2⟩ (fun hHeld2 => ?_)
                        clear hK K
                        replace HS := swOn (swDrew HS) hb2
                        clear hb2 x0 x1 y0 y1
                        refine wpAnyH_take (i := 11) (v := (.bool false)) rfl (by kernel_rfl) (by kernel_rfl) (by kernel_rfl) (fun _ _ _ h => h) (Or.inl ⟨by rfl, by intro w hSw; obtain ⟨s0, s1, s2, s3⟩ := hSw; go_simp⟩) hHeld2 ?_
                        simp only [tkS, Act.put]
                        refine wpAnyH_take (i := 12) (v := (.bool true)) rfl (by kernel_rfl) (by kernel_rfl) (by kernel_rfl) (fun _ _ _ h => h) (Or.inl ⟨by rfl, by intro w hSw; obtain ⟨s0, s1, s2, s3⟩ := hSw; go_simp⟩) hHeld2 ?_
                        simp only [tkS, Act.put]
                        refine wpAnyH_done (by kernel_rfl) ?_ _
                        clear hHeld hHeld2
                        go_wp2_with fail
                        go_meet
                        case rel => exact ⟨dj, hdj, by unfold Hid; rw [← HJ.out, HN.out], HS⟩
                    · have hjI : ¬ (1 : Int) ≤ (j : Int) := by omega
                      have HN : Hid (shiftDown ltS j dj = dj) := by
                        unfold Hid
                        rw [show j = 0 by omega]
                        rfl
                      go_wp2_with fail
                      go_meet
                      case rel => exact ⟨dj, hdj, by unfold Hid; rw [← HJ.out, HN.out], HS⟩
                case rest =>
                  clear HS
                  obtain ⟨d3, hd3, HZ3, HS⟩ := hcut
                  rw [HZ3.out] at HST
                  clear HZ3
                  have HN := HST
                  clear HST
                  obtain ⟨l3, hl3⟩ : ∃ l3, l3 = b - ia := ⟨_, rfl⟩
                  have hl3I : (b : Int) - (ia : Int) = (l3 : Int) := by omega
                  rw [← hl3] at HN
                  clear hl3
                  by_cases hup : l3 ≥ 2
                  · have hupI : (2 : Int) ≤ (l3 : Int) := by omega
                    obtain ⟨i2, hi2⟩ : ∃ i2 : Nat, i2 = ia + 1 := ⟨_, rfl⟩
                    have hi2I : (ia : Int) + 1 = (i2 : Int) := by omega
                    have hi2b : i2 < b := by omega
                    have hi20 : 1 ≤ i2 := by omega
                    rw [if_pos hup, ← hi2] at HN
                    have HNN : Hid _ := HN
                    clear HN hi2
                    go_wp2_with fail
                    go_loopw [12] (fun tt wx => ∃ (j : Nat) (dj : Array Sp), tt = .int .i64 (j : Int) ∧ 1 ≤ j ∧ j ≤ b ∧ dj.size = n ∧ Hid (Sw W0 B g cap dj wx) ∧ Hid (shiftUp ltS b j dj = shiftUp ltS b i2 d3)) (fun tt _ => b - (intOf tt).toNat)
                    case atStart => exact ⟨i2, d3, by go_num, by omega, by omega, hd3, HS, rfl⟩
                    case round =>
                      clear HS
                      obtain ⟨j, dj, rfl, hj0, hj9, hdj, HS, HJ⟩ := hrel
                      by_cases hj1 : j < b
                      · have hjI : (j : Int) < (b : Int) := by omega
                        have j0 : (0 : Int) ≤ (j : Int) := by omega
                        have j1 : (j : Int) < (n : Int) := by omega
                        have j2 : (j : Int) + 1 < 9223372036854775808 := by omega
                        obtain ⟨m, hm⟩ : ∃ m, m = j - 1 := ⟨_, rfl⟩
                        have hmI : (j : Int) - 1 = (m : Int) := by omega
                        have m0 : (0 : Int) ≤ (m : Int) := by omega
                        have m1 : (m : Int) < (n : Int) := by omega
                        have HU : Hid ((ltS dj[j]! dj[m]! = false → shiftUp ltS b j dj = dj) ∧ (ltS dj[j]! dj[m]! = true → shiftUp ltS b j dj = shiftUp ltS b (j + 1) (swp dj j m))) := by
                          refine ⟨fun h => ?_, fun h => ?_⟩
                          · rw [shiftUp, if_pos hj1, ← hm, if_pos (by simp [h])]
                          · rw [shiftUp, if_pos hj1, ← hm, if_neg (by simp [h])]
                        clear hm
                        have hxy := cmp_lt dj[j]! dj[m]!
                        obtain ⟨x0, x1⟩ := HS.out.at (i := j) (by omega)
                        obtain ⟨y0, y1⟩ := HS.out.at (i := m) (by omega)
                        have HWW : Hid _ := fun w' (h : Sw W0 B g cap dj w') => h.swp (i := j) (j := m) (by omega) (by omega)
                        obtain ⟨⟨xt, xa⟩, hx⟩ : ∃ x, dj[j]! = x := ⟨_, rfl⟩
                        obtain ⟨⟨yt, ya⟩, hy⟩ : ∃ x, dj[m]! = x := ⟨_, rfl⟩
                        rw [hx, hy] at hxy HWW
                        rw [hx] at x0 x1
                        rw [hy] at y0 y1
                        simp only at x0 x1 y0 y1 hxy
                        have hC := fun w => order_any xt xa yt ya w
                        generalize cmpS xt xa yt ya = r at hC hxy
                        rcases hxy with ⟨hr, hl⟩ | ⟨hr, hl⟩
                        · have HN : Hid _ := HU.out.2 (by rw [hx, hy]; exact hl)
                          clear hl HU
                          go_wp2_with fail
                          refine wp_region_held_drew (S := fun w' => w'.cell? ⟨g, j * 2, none⟩ = some (.int .i64 xt) ∧ w'.cell? ⟨g, j * 2 + 1, none⟩ = some (.int .i64 xa) ∧ w'.cell? ⟨g, m * 2, none⟩ = some (.int .i64 yt) ∧ w'.cell? ⟨g, m * 2 + 1, none⟩ = some (.int .i64 ya)) (by kernel_rfl) ⟨x0, x1, y0, y1⟩ (fun hHeld => ?_)
                          refine tkH 0 ((.func (.func 53) #[.agg #[]] #[])) rfl (Or.inl ⟨by rfl, by intro w hSw; obtain ⟨s0, s1, s2, s3⟩ := hSw; go_simp⟩) hHeld ?_
                          simp only [tkS, Act.put]
                          refine tkH 1 ((.slice (some ⟨g, 0, none⟩) n cap)) rfl (Or.inl ⟨by rfl, by intro w hSw; obtain ⟨s0, s1, s2, s3⟩ := hSw; go_simp⟩) hHeld ?_
                          simp only [tkS, Act.put]
                          refine tkH 2 ((.int .i64 (j : Int))) rfl (Or.inl ⟨by rfl, by intro w hSw; obtain ⟨s0, s1, s2, s3⟩ := hSw; go_simp⟩) hHeld ?_
                          simp only [tkS, Act.put]
                          refine tkH 3 ((.pointer (some ⟨g, j * 2, none⟩))) rfl (Or.inl ⟨by rfl, by intro w hSw; obtain ⟨s0, s1, s2, s3⟩ := hSw; go_simp⟩) hHeld ?_
                          simp only [tkS, Act.put]
                          refine tkH 4 ((.agg #[.int .i64 xt, .int .i64 xa])) rfl (Or.inl ⟨by rfl, by intro w hSw; obtain ⟨s0, s1, s2, s3⟩ := hSw; go_simp⟩) hHeld ?_
                          simp only [tkS, Act.put]
                          refine tkH 5 ((.slice (some ⟨g, 0, none⟩) n cap)) rfl (Or.inl ⟨by rfl, by intro w hSw; obtain ⟨s0, s1, s2, s3⟩ := hSw; go_simp⟩) hHeld ?_
                          simp only [tkS, Act.put]
                          refine tkH 6 ((.int .i64 (j : Int))) rfl (Or.inl ⟨by rfl, by intro w hSw; obtain ⟨s0, s1, s2, s3⟩ := hSw; go_simp⟩) hHeld ?_
                          simp only [tkS, Act.put]
                          refine tkH 7 ((.int .i64 (m : Int))) rfl (Or.inl ⟨by rfl, by intro w hSw; obtain ⟨s0, s1, s2, s3⟩ := hSw; go_simp; rw [IntKind.wrap_i64]; omega⟩) hHeld ?_
                          simp only [tkS, Act.put]
                          refine tkH 8 ((.pointer (some ⟨g, m * 2, none⟩))) rfl (Or.inl ⟨by rfl, by intro w hSw; obtain ⟨s0, s1, s2, s3⟩ := hSw; go_simp⟩) hHeld ?_
                          simp only [tkS, Act.put]
                          refine tkH 9 ((.agg #[.int .i64 yt, .int .i64 ya])) rfl (Or.inl ⟨by rfl, by intro w hSw; obtain ⟨s0, s1, s2, s3⟩ := hSw; go_simp⟩) hHeld ?_
                          simp only [tkS, Act.put]
                          refine wpAnyH_ready (rs := [10]) (by kernel_rfl) (by simp) ?_
                          refine AllReadyH.cons rfl (fun K hK => ?_) AllReadyH.nil
                          go_simp
                          refine (hC _).mono ?_
                          rintro e w2 ⟨rfl, hb2⟩
                          go_wp2_with fail
                          refine hK.out _ _ ⟨cell_on hb2 hHeld.1, cell_on hb2 hHeld.2.1, cell_on hb2 hHeld.2.2.1, cell_on hb2 hHeld.2.2.2⟩ (fun hHeld2 => ?_)
                          clear hK K
                          replace HS := swOn (swDrew HS) hb2
                          clear hb2 x0 x1 y0 y1
                          refine wpAnyH_take (i := 11) (v := (.bool true)) rfl (by kernel_rfl) (by kernel_rfl) (by kernel_rfl) (fun _ _ _ h => h) (Or.inl ⟨by rfl, by intro w hSw; obtain ⟨s0, s1, s2, s3⟩ := hSw; go_simp⟩) hHeld2 ?_
                          simp only [tkS, Act.put]
                          refine wpAnyH_take (i := 12) (v := (.bool false)) rfl (by kernel_rfl) (by kernel_rfl) (by kernel_rfl) (fun _ _ _ h => h) (Or.inl ⟨by rfl, by intro w hSw; obtain ⟨s0, s1, s2, s3⟩ := hSw; go_simp⟩) hHeld2 ?_
                          simp only [tkS, Act.put]
                          refine wpAnyH_done (by kernel_rfl) ?_ _
                          clear hHeld hHeld2
                          go_upto_region 23 with fail
                          have hSd := (swDrew HS).out
                          obtain ⟨x0, x1⟩ := hSd.at (i := j) (by omega)
                          obtain ⟨y0, y1⟩ := hSd.at (i := m) (by omega)
                          rw [hx] at x0 x1
                          rw [hy] at y0 y1
                          obtain ⟨u0, u1, u2, u3, ⟨e0, f0⟩, ⟨e1, f1⟩, ⟨e2, f2⟩, ⟨e3, f3⟩⟩ := HS.out.steps (i := j) (j := m) (by omega) (by omega) (.int .i64 yt) (.int .i64 ya) (.int .i64 xt)
                          have HF : Hid (Sw W0 B g cap (swp dj j m) ((((w2.setCell ⟨g, j * 2, none⟩ (.int .i64 yt)).setCell ⟨g, j * 2 + 1, none⟩ (.int .i64 ya)).setCell ⟨g, m * 2, none⟩ (.int .i64 xt)).setCell ⟨g, m * 2 + 1, none⟩ (.int .i64 xa)).drew) := HWW.out _ hSd
                          simp only at x0 x1 y0 y1
                          clear hSd hx hy e0
                          refine wp_region_held_drew (S := fun w' => True) (by kernel_rfl) trivial (fun hHeld => ?_)
                          refine tkH 0 ((.slice (some ⟨g, 0, none⟩) n cap)) rfl (Or.inl ⟨by rfl, by intro w hSw; go_simp⟩) hHeld ?_
                          simp only [tkS, Act.put]
                          refine tkH 1 ((.int .i64 (j : Int))) rfl (Or.inl ⟨by rfl, by intro w hSw; go_simp⟩) hHeld ?_
                          simp only [tkS, Act.put]
                          refine tkH 2 ((.slice (some ⟨g, 0, none⟩) n cap)) rfl (Or.inl ⟨by rfl, by intro w hSw; go_simp⟩) hHeld ?_
                          simp only [tkS, Act.put]
                          refine tkH 3 ((.int .i64 (j : Int))) rfl (Or.inl ⟨by rfl, by intro w hSw; go_simp⟩) hHeld ?_
                          simp only [tkS, Act.put]
                          refine tkH 4 ((.int .i64 (m : Int))) rfl (Or.inl ⟨by rfl, by intro w hSw; go_simp; rw [IntKind.wrap_i64]; omega⟩) hHeld ?_
                          simp only [tkS, Act.put]
                          refine tkH 5 ((.slice (some ⟨g, 0, none⟩) n cap)) rfl (Or.inl ⟨by rfl, by intro w hSw; go_simp⟩) hHeld ?_
                          simp only [tkS, Act.put]
                          refine tkH 6 ((.int .i64 (j : Int))) rfl (Or.inl ⟨by rfl, by intro w hSw; go_simp⟩) hHeld ?_
                          simp only [tkS, Act.put]
                          refine tkH 7 ((.int .i64 (m : Int))) rfl (Or.inl ⟨by rfl, by intro w hSw; go_simp; rw [IntKind.wrap_i64]; omega⟩) hHeld ?_
                          simp only [tkS, Act.put]
                          refine tkH 8 ((.pointer (some ⟨g, m * 2, none⟩))) rfl (Or.inl ⟨by rfl, by intro w hSw; go_simp⟩) hHeld ?_
                          simp only [tkS, Act.put]
                          refine tkH 10 ((.slice (some ⟨g, 0, none⟩) n cap)) rfl (Or.inl ⟨by rfl, by intro w hSw; go_simp⟩) hHeld ?_
                          simp only [tkS, Act.put]
                          refine tkH 11 ((.int .i64 (j : Int))) rfl (Or.inl ⟨by rfl, by intro w hSw; go_simp⟩) hHeld ?_
                          simp only [tkS, Act.put]
                          refine tkH 12 ((.pointer (some ⟨g, j * 2, none⟩))) rfl (Or.inl ⟨by rfl, by intro w hSw; go_simp⟩) hHeld ?_
                          simp only [tkS, Act.put]
                          refine wpAnyH_ready (rs := [9, 13]) (by kernel_rfl) (by simp) ?_
                          refine AllReadyH.cons rfl (fun K hK => ?wayA3) (AllReadyH.cons rfl (fun K hK => ?wayB3) AllReadyH.nil)
                          case' wayA3 =>
                            go_simp
                            refine hK.out _ _ trivial (fun hHeld1 => ?_)
                            clear hK K
                            refine wpAnyH_ready (rs := [13]) (by kernel_rfl) (by simp) ?_
                            refine AllReadyH.cons rfl (fun K hK => ?_) AllReadyH.nil
                            go_simp
                            refine hK.out _ _ trivial (fun hHeld2 => ?_)
                            clear hK K
                          case' wayB3 =>
                            go_simp
                            refine hK.out _ _ trivial (fun hHeld1 => ?_)
                            clear hK K
                            refine wpAnyH_ready (rs := [9]) (by kernel_rfl) (by simp) ?_
                            refine AllReadyH.cons rfl (fun K hK => ?_) AllReadyH.nil
                            go_simp
                            refine hK.out _ _ trivial (fun hHeld2 => ?_)
                            clear hK K
                          all_goals
                            refine wpAnyH_take (i := 14) (v := (.pointer (some ⟨g, j * 2, none⟩))) rfl (by kernel_rfl) (by kernel_rfl) (by kernel_rfl) (fun _ _ _ h => h) (Or.inl ⟨by rfl, by intro w hSw; go_simp⟩) hHeld2 ?_
                            simp only [tkS, Act.put]
                            refine wpAnyH_ready (rs := [15]) (by kernel_rfl) (by simp) ?_
                            refine AllReadyH.cons rfl (fun K hK => ?_) AllReadyH.nil
                            go_simp
                            refine hK.out _ _ trivial (fun hHeld3 => ?_)
                            clear hK K
                            refine wpAnyH_take (i := 16) (v := (.pointer (some ⟨g, m * 2, none⟩))) rfl (by kernel_rfl) (by kernel_rfl) (by kernel_rfl) (fun _ _ _ h => h) (Or.inl ⟨by rfl, by intro w hSw; go_simp⟩) hHeld3 ?_
                            simp only [tkS, Act.put]
                            refine wpAnyH_ready (rs := [17]) (by kernel_rfl) (by simp) ?_
                            refine AllReadyH.cons rfl (fun K hK => ?_) AllReadyH.nil
                            go_simp
                            refine hK.out _ _ trivial (fun hHeld4 => ?_)
                            clear hK K
                            refine wpAnyH_done (by kernel_rfl) ?_ _
                          all_goals
                            go_wp2_with fail
                            go_roundw
                            case rel => exact ⟨j + 1, swp dj j m, by go_num, by omega, by omega, by rw [swp_size]; exact hdj, HF, by unfold Hid; rw [← HJ.out, HN.out]⟩
                            case measure => simp [intOf]; omega
                        · have HN : Hid _ := HU.out.1 (by rw [hx, hy]; exact hl)
                          clear hl HU HWW hx hy
                          go_wp2_with fail
                          refine wp_region_held_drew (S := fun w' => w'.cell? ⟨g, j * 2, none⟩ = some (.int .i64 xt) ∧ w'.cell? ⟨g, j * 2 + 1, none⟩ = some (.int .i64 xa) ∧ w'.cell? ⟨g, m * 2, none⟩ = some (.int .i64 yt) ∧ w'.cell? ⟨g, m * 2 + 1, none⟩ = some (.int .i64 ya)) (by kernel_rfl) ⟨x0, x1, y0, y1⟩ (fun hHeld => ?_)
                          refine tkH 0 ((.func (.func 53) #[.agg #[]] #[])) rfl (Or.inl ⟨by rfl, by intro w hSw; obtain ⟨s0, s1, s2, s3⟩ := hSw; go_simp⟩) hHeld ?_
                          simp only [tkS, Act.put]
                          refine tkH 1 ((.slice (some ⟨g, 0, none⟩) n cap)) rfl (Or.inl ⟨by rfl, by intro w hSw; obtain ⟨s0, s1, s2, s3⟩ := hSw; go_simp⟩) hHeld ?_
                          simp only [tkS, Act.put]
                          refine tkH 2 ((.int .i64 (j : Int))) rfl (Or.inl ⟨by rfl, by intro w hSw; obtain ⟨s0, s1, s2, s3⟩ := hSw; go_simp⟩) hHeld ?_
                          simp only [tkS, Act.put]
                          refine tkH 3 ((.pointer (some ⟨g, j * 2, none⟩))) rfl (Or.inl ⟨by rfl, by intro w hSw; obtain ⟨s0, s1, s2, s3⟩ := hSw; go_simp⟩) hHeld ?_
                          simp only [tkS, Act.put]
                          refine tkH 4 ((.agg #[.int .i64 xt, .int .i64 xa])) rfl (Or.inl ⟨by rfl, by intro w hSw; obtain ⟨s0, s1, s2, s3⟩ := hSw; go_simp⟩) hHeld ?_
                          simp only [tkS, Act.put]
                          refine tkH 5 ((.slice (some ⟨g, 0, none⟩) n cap)) rfl (Or.inl ⟨by rfl, by intro w hSw; obtain ⟨s0, s1, s2, s3⟩ := hSw; go_simp⟩) hHeld ?_
                          simp only [tkS, Act.put]
                          refine tkH 6 ((.int .i64 (j : Int))) rfl (Or.inl ⟨by rfl, by intro w hSw; obtain ⟨s0, s1, s2, s3⟩ := hSw; go_simp⟩) hHeld ?_
                          simp only [tkS, Act.put]
                          refine tkH 7 ((.int .i64 (m : Int))) rfl (Or.inl ⟨by rfl, by intro w hSw; obtain ⟨s0, s1, s2, s3⟩ := hSw; go_simp; rw [IntKind.wrap_i64]; omega⟩) hHeld ?_
                          simp only [tkS, Act.put]
                          refine tkH 8 ((.pointer (some ⟨g, m * 2, none⟩))) rfl (Or.inl ⟨by rfl, by intro w hSw; obtain ⟨s0, s1, s2, s3⟩ := hSw; go_simp⟩) hHeld ?_
                          simp only [tkS, Act.put]
                          refine tkH 9 ((.agg #[.int .i64 yt, .int .i64 ya])) rfl (Or.inl ⟨by rfl, by intro w hSw; obtain ⟨s0, s1, s2, s3⟩ := hSw; go_simp⟩) hHeld ?_
                          simp only [tkS, Act.put]
                          refine wpAnyH_ready (rs := [10]) (by kernel_rfl) (by simp) ?_
                          refine AllReadyH.cons rfl (fun K hK => ?_) AllReadyH.nil
                          go_simp
                          refine (hC _).mono ?_
                          rintro e w2 ⟨rfl, hb2⟩
                          go_wp2_with fail
                          refine hK.out _ _ ⟨cell_on hb2 hHeld.1, cell_on hb2 hHeld.2.1, cell_on hb2 hHeld.2.2.1, cell_on hb2 hHeld.2.2.2⟩ (fun hHeld2 => ?_)
                          clear hK K
                          replace HS := swOn (swDrew HS) hb2
                          clear hb2 x0 x1 y0 y1
                          refine wpAnyH_take (i := 11) (v := (.bool false)) rfl (by kernel_rfl) (by kernel_rfl) (by kernel_rfl) (fun _ _ _ h => h) (Or.inl ⟨by rfl, by intro w hSw; obtain ⟨s0, s1, s2, s3⟩ := hSw; go_simp⟩) hHeld2 ?_
                          simp only [tkS, Act.put]
                          refine wpAnyH_take (i := 12) (v := (.bool true)) rfl (by kernel_rfl) (by kernel_rfl) (by kernel_rfl) (fun _ _ _ h => h) (Or.inl ⟨by rfl, by intro w hSw; obtain ⟨s0, s1, s2, s3⟩ := hSw; go_simp⟩) hHeld2 ?_
                          simp only [tkS, Act.put]
                          refine wpAnyH_done (by kernel_rfl) ?_ _
                          clear hHeld hHeld2
                          go_wp2_with fail
                          go_roundw
                          case rel => exact ⟨ia, k + 1, dj, rfl, by go_num, by omega, by omega, by omega, hdj, HS, by unfold Hid; rw [show 5 - (k + 1) = s by omega, ← HE.out, HNN.out, ← HJ.out, HN.out]⟩
                          case measure => simp [intOf]; omega
                      · have hjI : ¬ (j : Int) < (b : Int) := by omega
                        have HN : Hid (shiftUp ltS b j dj = dj) := by
                          unfold Hid
                          rw [shiftUp, if_neg hj1]
                        go_wp2_with fail
                        go_roundw
                        case rel => exact ⟨ia, k + 1, dj, rfl, by go_num, by omega, by omega, by omega, hdj, HS, by unfold Hid; rw [show 5 - (k + 1) = s by omega, ← HE.out, HNN.out, ← HJ.out, HN.out]⟩
                        case measure => simp [intOf]; omega
                  · have hupI : ¬ (2 : Int) ≤ (l3 : Int) := by omega
                    rw [if_neg hup] at HN
                    have HNN : Hid _ := HN
                    clear HN
                    go_wp2_with fail
                    go_roundw
                    case rel => exact ⟨ia, k + 1, d3, rfl, by go_num, by omega, by omega, by omega, hd3, HS, by unfold Hid; rw [show 5 - (k + 1) = s by omega, ← HE.out, HNN.out]⟩
                    case measure => simp [intOf]; omega
              · have hdnI : ¬ (2 : Int) ≤ (l2 : Int) := by omega
                rw [if_neg hdn] at HST
                have HN := HST
                clear HST
                obtain ⟨l3, hl3⟩ : ∃ l3, l3 = b - ia := ⟨_, rfl⟩
                have hl3I : (b : Int) - (ia : Int) = (l3 : Int) := by omega
                rw [← hl3] at HN
                clear hl3
                by_cases hup : l3 ≥ 2
                · have hupI : (2 : Int) ≤ (l3 : Int) := by omega
                  obtain ⟨i2, hi2⟩ : ∃ i2 : Nat, i2 = ia + 1 := ⟨_, rfl⟩
                  have hi2I : (ia : Int) + 1 = (i2 : Int) := by omega
                  have hi2b : i2 < b := by omega
                  have hi20 : 1 ≤ i2 := by omega
                  rw [if_pos hup, ← hi2] at HN
                  have HNN : Hid _ := HN
                  clear HN hi2
                  go_wp2_with fail
                  go_loopw [12] (fun tt wx => ∃ (j : Nat) (dj : Array Sp), tt = .int .i64 (j : Int) ∧ 1 ≤ j ∧ j ≤ b ∧ dj.size = n ∧ Hid (Sw W0 B g cap dj wx) ∧ Hid (shiftUp ltS b j dj = shiftUp ltS b i2 d2)) (fun tt _ => b - (intOf tt).toNat)
                  case atStart => exact ⟨i2, d2, by go_num, by omega, by omega, hd2, HS, rfl⟩
                  case round =>
                    clear HS
                    obtain ⟨j, dj, rfl, hj0, hj9, hdj, HS, HJ⟩ := hrel
                    by_cases hj1 : j < b
                    · have hjI : (j : Int) < (b : Int) := by omega
                      have j0 : (0 : Int) ≤ (j : Int) := by omega
                      have j1 : (j : Int) < (n : Int) := by omega
                      have j2 : (j : Int) + 1 < 9223372036854775808 := by omega
                      obtain ⟨m, hm⟩ : ∃ m, m = j - 1 := ⟨_, rfl⟩
                      have hmI : (j : Int) - 1 = (m : Int) := by omega
                      have m0 : (0 : Int) ≤ (m : Int) := by omega
                      have m1 : (m : Int) < (n : Int) := by omega
                      have HU : Hid ((ltS dj[j]! dj[m]! = false → shiftUp ltS b j dj = dj) ∧ (ltS dj[j]! dj[m]! = true → shiftUp ltS b j dj = shiftUp ltS b (j + 1) (swp dj j m))) := by
                        refine ⟨fun h => ?_, fun h => ?_⟩
                        · rw [shiftUp, if_pos hj1, ← hm, if_pos (by simp [h])]
                        · rw [shiftUp, if_pos hj1, ← hm, if_neg (by simp [h])]
                      clear hm
                      have hxy := cmp_lt dj[j]! dj[m]!
                      obtain ⟨x0, x1⟩ := HS.out.at (i := j) (by omega)
                      obtain ⟨y0, y1⟩ := HS.out.at (i := m) (by omega)
                      have HWW : Hid _ := fun w' (h : Sw W0 B g cap dj w') => h.swp (i := j) (j := m) (by omega) (by omega)
                      obtain ⟨⟨xt, xa⟩, hx⟩ : ∃ x, dj[j]! = x := ⟨_, rfl⟩
                      obtain ⟨⟨yt, ya⟩, hy⟩ : ∃ x, dj[m]! = x := ⟨_, rfl⟩
                      rw [hx, hy] at hxy HWW
                      rw [hx] at x0 x1
                      rw [hy] at y0 y1
                      simp only at x0 x1 y0 y1 hxy
                      have hC := fun w => order_any xt xa yt ya w
                      generalize cmpS xt xa yt ya = r at hC hxy
                      rcases hxy with ⟨hr, hl⟩ | ⟨hr, hl⟩
                      · have HN : Hid _ := HU.out.2 (by rw [hx, hy]; exact hl)
                        clear hl HU
                        go_wp2_with fail
                        refine wp_region_held_drew (S := fun w' => w'.cell? ⟨g, j * 2, none⟩ = some (.int .i64 xt) ∧ w'.cell? ⟨g, j * 2 + 1, none⟩ = some (.int .i64 xa) ∧ w'.cell? ⟨g, m * 2, none⟩ = some (.int .i64 yt) ∧ w'.cell? ⟨g, m * 2 + 1, none⟩ = some (.int .i64 ya)) (by kernel_rfl) ⟨x0, x1, y0, y1⟩ (fun hHeld => ?_)
                        refine tkH 0 ((.func (.func 53) #[.agg #[]] #[])) rfl (Or.inl ⟨by rfl, by intro w hSw; obtain ⟨s0, s1, s2, s3⟩ := hSw; go_simp⟩) hHeld ?_
                        simp only [tkS, Act.put]
                        refine tkH 1 ((.slice (some ⟨g, 0, none⟩) n cap)) rfl (Or.inl ⟨by rfl, by intro w hSw; obtain ⟨s0, s1, s2, s3⟩ := hSw; go_simp⟩) hHeld ?_
                        simp only [tkS, Act.put]
                        refine tkH 2 ((.int .i64 (j : Int))) rfl (Or.inl ⟨by rfl, by intro w hSw; obtain ⟨s0, s1, s2, s3⟩ := hSw; go_simp⟩) hHeld ?_
                        simp only [tkS, Act.put]
                        refine tkH 3 ((.pointer (some ⟨g, j * 2, none⟩))) rfl (Or.inl ⟨by rfl, by intro w hSw; obtain ⟨s0, s1, s2, s3⟩ := hSw; go_simp⟩) hHeld ?_
                        simp only [tkS, Act.put]
                        refine tkH 4 ((.agg #[.int .i64 xt, .int .i64 xa])) rfl (Or.inl ⟨by rfl, by intro w hSw; obtain ⟨s0, s1, s2, s3⟩ := hSw; go_simp⟩) hHeld ?_
                        simp only [tkS, Act.put]
                        refine tkH 5 ((.slice (some ⟨g, 0, none⟩) n cap)) rfl (Or.inl ⟨by rfl, by intro w hSw; obtain ⟨s0, s1, s2, s3⟩ := hSw; go_simp⟩) hHeld ?_
                        simp only [tkS, Act.put]
                        refine tkH 6 ((.int .i64 (j : Int))) rfl (Or.inl ⟨by rfl, by intro w hSw; obtain ⟨s0, s1, s2, s3⟩ := hSw; go_simp⟩) hHeld ?_
                        simp only [tkS, Act.put]
                        refine tkH 7 ((.int .i64 (m : Int))) rfl (Or.inl ⟨by rfl, by intro w hSw; obtain ⟨s0, s1, s2, s3⟩ := hSw; go_simp; rw [IntKind.wrap_i64]; omega⟩) hHeld ?_
                        simp only [tkS, Act.put]
                        refine tkH 8 ((.pointer (some ⟨g, m * 2, none⟩))) rfl (Or.inl ⟨by rfl, by intro w hSw; obtain ⟨s0, s1, s2, s3⟩ := hSw; go_simp⟩) hHeld ?_
                        simp only [tkS, Act.put]
                        refine tkH 9 ((.agg #[.int .i64 yt, .int .i64 ya])) rfl (Or.inl ⟨by rfl, by intro w hSw; obtain ⟨s0, s1, s2, s3⟩ := hSw; go_simp⟩) hHeld ?_
                        simp only [tkS, Act.put]
                        refine wpAnyH_ready (rs := [10]) (by kernel_rfl) (by simp) ?_
                        refine AllReadyH.cons rfl (fun K hK => ?_) AllReadyH.nil
                        go_simp
                        refine (hC _).mono ?_
                        rintro e w2 ⟨rfl, hb2⟩
                        go_wp2_with fail
                        refine hK.out _ _ ⟨cell_on hb2 hHeld.1, cell_on hb2 hHeld.2.1, cell_on hb2 hHeld.2.2.1, cell_on hb2 hHeld.2.2.2⟩ (fun hHeld2 => ?_)
                        clear hK K
                        replace HS := swOn (swDrew HS) hb2
                        clear hb2 x0 x1 y0 y1
                        refine wpAnyH_take (i := 11) (v := (.bool true)) rfl (by kernel_rfl) (by kernel_rfl) (by kernel_rfl) (fun _ _ _ h => h) (Or.inl ⟨by rfl, by intro w hSw; obtain ⟨s0, s1, s2, s3⟩ := hSw; go_simp⟩) hHeld2 ?_
                        simp only [tkS, Act.put]
                        refine wpAnyH_take (i := 12) (v := (.bool false)) rfl (by kernel_rfl) (by kernel_rfl) (by kernel_rfl) (fun _ _ _ h => h) (Or.inl ⟨by rfl, by intro w hSw; obtain ⟨s0, s1, s2, s3⟩ := hSw; go_simp⟩) hHeld2 ?_
                        simp only [tkS, Act.put]
                        refine wpAnyH_done (by kernel_rfl) ?_ _
                        clear hHeld hHeld2
                        go_upto_region 23 with fail
                        have hSd := (swDrew HS).out
                        obtain ⟨x0, x1⟩ := hSd.at (i := j) (by omega)
                        obtain ⟨y0, y1⟩ := hSd.at (i := m) (by omega)
                        rw [hx] at x0 x1
                        rw [hy] at y0 y1
                        obtain ⟨u0, u1, u2, u3, ⟨e0, f0⟩, ⟨e1, f1⟩, ⟨e2, f2⟩, ⟨e3, f3⟩⟩ := HS.out.steps (i := j) (j := m) (by omega) (by omega) (.int .i64 yt) (.int .i64 ya) (.int .i64 xt)
                        have HF : Hid (Sw W0 B g cap (swp dj j m) ((((w2.setCell ⟨g, j * 2, none⟩ (.int .i64 yt)).setCell ⟨g, j * 2 + 1, none⟩ (.int .i64 ya)).setCell ⟨g, m * 2, none⟩ (.int .i64 xt)).setCell ⟨g, m * 2 + 1, none⟩ (.int .i64 xa)).drew) := HWW.out _ hSd
                        simp only at x0 x1 y0 y1
                        clear hSd hx hy e0
                        refine wp_region_held_drew (S := fun w' => True) (by kernel_rfl) trivial (fun hHeld => ?_)
                        refine tkH 0 ((.slice (some ⟨g, 0, none⟩) n cap)) rfl (Or.inl ⟨by rfl, by intro w hSw; go_simp⟩) hHeld ?_
                        simp only [tkS, Act.put]
                        refine tkH 1 ((.int .i64 (j : Int))) rfl (Or.inl ⟨by rfl, by intro w hSw; go_simp⟩) hHeld ?_
                        simp only [tkS, Act.put]
                        refine tkH 2 ((.slice (some ⟨g, 0, none⟩) n cap)) rfl (Or.inl ⟨by rfl, by intro w hSw; go_simp⟩) hHeld ?_
                        simp only [tkS, Act.put]
                        refine tkH 3 ((.int .i64 (j : Int))) rfl (Or.inl ⟨by rfl, by intro w hSw; go_simp⟩) hHeld ?_
                        simp only [tkS, Act.put]
                        refine tkH 4 ((.int .i64 (m : Int))) rfl (Or.inl ⟨by rfl, by intro w hSw; go_simp; rw [IntKind.wrap_i64]; omega⟩) hHeld ?_
                        simp only [tkS, Act.put]
                        refine tkH 5 ((.slice (some ⟨g, 0, none⟩) n cap)) rfl (Or.inl ⟨by rfl, by intro w hSw; go_simp⟩) hHeld ?_
                        simp only [tkS, Act.put]
                        refine tkH 6 ((.int .i64 (j : Int))) rfl (Or.inl ⟨by rfl, by intro w hSw; go_simp⟩) hHeld ?_
                        simp only [tkS, Act.put]
                        refine tkH 7 ((.int .i64 (m : Int))) rfl (Or.inl ⟨by rfl, by intro w hSw; go_simp; rw [IntKind.wrap_i64]; omega⟩) hHeld ?_
                        simp only [tkS, Act.put]
                        refine tkH 8 ((.pointer (some ⟨g, m * 2, none⟩))) rfl (Or.inl ⟨by rfl, by intro w hSw; go_simp⟩) hHeld ?_
                        simp only [tkS, Act.put]
                        refine tkH 10 ((.slice (some ⟨g, 0, none⟩) n cap)) rfl (Or.inl ⟨by rfl, by intro w hSw; go_simp⟩) hHeld ?_
                        simp only [tkS, Act.put]
                        refine tkH 11 ((.int .i64 (j : Int))) rfl (Or.inl ⟨by rfl, by intro w hSw; go_simp⟩) hHeld ?_
                        simp only [tkS, Act.put]
                        refine tkH 12 ((.pointer (some ⟨g, j * 2, none⟩))) rfl (Or.inl ⟨by rfl, by intro w hSw; go_simp⟩) hHeld ?_
                        simp only [tkS, Act.put]
                        refine wpAnyH_ready (rs := [9, 13]) (by kernel_rfl) (by simp) ?_
                        refine AllReadyH.cons rfl (fun K hK => ?wayA4) (AllReadyH.cons rfl (fun K hK => ?wayB4) AllReadyH.nil)
                        case' wayA4 =>
                          go_simp
                          refine hK.out _ _ trivial (fun hHeld1 => ?_)
                          clear hK K
                          refine wpAnyH_ready (rs := [13]) (by kernel_rfl) (by simp) ?_
                          refine AllReadyH.cons rfl (fun K hK => ?_) AllReadyH.nil
                          go_simp
                          refine hK.out _ _ trivial (fun hHeld2 => ?_)
                          clear hK K
                        case' wayB4 =>
                          go_simp
                          refine hK.out _ _ trivial (fun hHeld1 => ?_)
                          clear hK K
                          refine wpAnyH_ready (rs := [9]) (by kernel_rfl) (by simp) ?_
                          refine AllReadyH.cons rfl (fun K hK => ?_) AllReadyH.nil
                          go_simp
                          refine hK.out _ _ trivial (fun hHeld2 => ?_)
                          clear hK K
                        all_goals
                          refine wpAnyH_take (i := 14) (v := (.pointer (some ⟨g, j * 2, none⟩))) rfl (by kernel_rfl) (by kernel_rfl) (by kernel_rfl) (fun _ _ _ h => h) (Or.inl ⟨by rfl, by intro w hSw; go_simp⟩) hHeld2 ?_
                          simp only [tkS, Act.put]
                          refine wpAnyH_ready (rs := [15]) (by kernel_rfl) (by simp) ?_
                          refine AllReadyH.cons rfl (fun K hK => ?_) AllReadyH.nil
                          go_simp
                          refine hK.out _ _ trivial (fun hHeld3 => ?_)
                          clear hK K
                          refine wpAnyH_take (i := 16) (v := (.pointer (some ⟨g, m * 2, none⟩))) rfl (by kernel_rfl) (by kernel_rfl) (by kernel_rfl) (fun _ _ _ h => h) (Or.inl ⟨by rfl, by intro w hSw; go_simp⟩) hHeld3 ?_
                          simp only [tkS, Act.put]
                          refine wpAnyH_ready (rs := [17]) (by kernel_rfl) (by simp) ?_
                          refine AllReadyH.cons rfl (fun K hK => ?_) AllReadyH.nil
                          go_simp
                          refine hK.out _ _ trivial (fun hHeld4 => ?_)
                          clear hK K
                          refine wpAnyH_done (by kernel_rfl) ?_ _
                        all_goals
                          go_wp2_with fail
                          go_roundw
                          case rel => exact ⟨j + 1, swp dj j m, by go_num, by omega, by omega, by rw [swp_size]; exact hdj, HF, by unfold Hid; rw [← HJ.out, HN.out]⟩
                          case measure => simp [intOf]; omega
                      · have HN : Hid _ := HU.out.1 (by rw [hx, hy]; exact hl)
                        clear hl HU HWW hx hy
                        go_wp2_with fail
                        refine wp_region_held_drew (S := fun w' => w'.cell? ⟨g, j * 2, none⟩ = some (.int .i64 xt) ∧ w'.cell? ⟨g, j * 2 + 1, none⟩ = some (.int .i64 xa) ∧ w'.cell? ⟨g, m * 2, none⟩ = some (.int .i64 yt) ∧ w'.cell? ⟨g, m * 2 + 1, none⟩ = some (.int .i64 ya)) (by kernel_rfl) ⟨x0, x1, y0, y1⟩ (fun hHeld => ?_)
                        refine tkH 0 ((.func (.func 53) #[.agg #[]] #[])) rfl (Or.inl ⟨by rfl, by intro w hSw; obtain ⟨s0, s1, s2, s3⟩ := hSw; go_simp⟩) hHeld ?_
                        simp only [tkS, Act.put]
                        refine tkH 1 ((.slice (some ⟨g, 0, none⟩) n cap)) rfl (Or.inl ⟨by rfl, by intro w hSw; obtain ⟨s0, s1, s2, s3⟩ := hSw; go_simp⟩) hHeld ?_
                        simp only [tkS, Act.put]
                        refine tkH 2 ((.int .i64 (j : Int))) rfl (Or.inl ⟨by rfl, by intro w hSw; obtain ⟨s0, s1, s2, s3⟩ := hSw; go_simp⟩) hHeld ?_
                        simp only [tkS, Act.put]
                        refine tkH 3 ((.pointer (some ⟨g, j * 2, none⟩))) rfl (Or.inl ⟨by rfl, by intro w hSw; obtain ⟨s0, s1, s2, s3⟩ := hSw; go_simp⟩) hHeld ?_
                        simp only [tkS, Act.put]
                        refine tkH 4 ((.agg #[.int .i64 xt, .int .i64 xa])) rfl (Or.inl ⟨by rfl, by intro w hSw; obtain ⟨s0, s1, s2, s3⟩ := hSw; go_simp⟩) hHeld ?_
                        simp only [tkS, Act.put]
                        refine tkH 5 ((.slice (some ⟨g, 0, none⟩) n cap)) rfl (Or.inl ⟨by rfl, by intro w hSw; obtain ⟨s0, s1, s2, s3⟩ := hSw; go_simp⟩) hHeld ?_
                        simp only [tkS, Act.put]
                        refine tkH 6 ((.int .i64 (j : Int))) rfl (Or.inl ⟨by rfl, by intro w hSw; obtain ⟨s0, s1, s2, s3⟩ := hSw; go_simp⟩) hHeld ?_
                        simp only [tkS, Act.put]
                        refine tkH 7 ((.int .i64 (m : Int))) rfl (Or.inl ⟨by rfl, by intro w hSw; obtain ⟨s0, s1, s2, s3⟩ := hSw; go_simp; rw [IntKind.wrap_i64]; omega⟩) hHeld ?_
                        simp only [tkS, Act.put]
                        refine tkH 8 ((.pointer (some ⟨g, m * 2, none⟩))) rfl (Or.inl ⟨by rfl, by intro w hSw; obtain ⟨s0, s1, s2, s3⟩ := hSw; go_simp⟩) hHeld ?_
                        simp only [tkS, Act.put]
                        refine tkH 9 ((.agg #[.int .i64 yt, .int .i64 ya])) rfl (Or.inl ⟨by rfl, by intro w hSw; obtain ⟨s0, s1, s2, s3⟩ := hSw; go_simp⟩) hHeld ?_
                        simp only [tkS, Act.put]
                        refine wpAnyH_ready (rs := [10]) (by kernel_rfl) (by simp) ?_
                        refine AllReadyH.cons rfl (fun K hK => ?_) AllReadyH.nil
                        go_simp
                        refine (hC _).mono ?_
                        rintro e w2 ⟨rfl, hb2⟩
                        go_wp2_with fail
                        refine hK.out _ _ ⟨cell_on hb2 hHeld.1, cell_on hb2 hHeld.2.1, cell_on hb2 hHeld.2.2.1, cell_on hb2 hHeld.2.2.2⟩ (fun hHeld2 => ?_)
                        clear hK K
                        replace HS := swOn (swDrew HS) hb2
                        clear hb2 x0 x1 y0 y1
                        refine wpAnyH_take (i := 11) (v := (.bool false)) rfl (by kernel_rfl) (by kernel_rfl) (by kernel_rfl) (fun _ _ _ h => h) (Or.inl ⟨by rfl, by intro w hSw; obtain ⟨s0, s1, s2, s3⟩ := hSw; go_simp⟩) hHeld2 ?_
                        simp only [tkS, Act.put]
                        refine wpAnyH_take (i := 12) (v := (.bool true)) rfl (by kernel_rfl) (by kernel_rfl) (by kernel_rfl) (fun _ _ _ h => h) (Or.inl ⟨by rfl, by intro w hSw; obtain ⟨s0, s1, s2, s3⟩ := hSw; go_simp⟩) hHeld2 ?_
                        simp only [tkS, Act.put]
                        refine wpAnyH_done (by kernel_rfl) ?_ _
                        clear hHeld hHeld2
                        go_wp2_with fail
                        go_roundw
                        case rel => exact ⟨ia, k + 1, dj, rfl, by go_num, by omega, by omega, by omega, hdj, HS, by unfold Hid; rw [show 5 - (k + 1) = s by omega, ← HE.out, HNN.out, ← HJ.out, HN.out]⟩
                        case measure => simp [intOf]; omega
                    · have hjI : ¬ (j : Int) < (b : Int) := by omega
                      have HN : Hid (shiftUp ltS b j dj = dj) := by
                        unfold Hid
                        rw [shiftUp, if_neg hj1]
                      go_wp2_with fail
                      go_roundw
                      case rel => exact ⟨ia, k + 1, dj, rfl, by go_num, by omega, by omega, by omega, hdj, HS, by unfold Hid; rw [show 5 - (k + 1) = s by omega, ← HE.out, HNN.out, ← HJ.out, HN.out]⟩
                      case measure => simp [intOf]; omega
                · have hupI : ¬ (2 : Int) ≤ (l3 : Int) := by omega
                  rw [if_neg hup] at HN
                  have HNN : Hid _ := HN
                  clear HN
                  go_wp2_with fail
                  go_roundw
                  case rel => exact ⟨ia, k + 1, d2, rfl, by go_num, by omega, by omega, by omega, hd2, HS, by unfold Hid; rw [show 5 - (k + 1) = s by omega, ← HE.out, HNN.out]⟩
                  case measure => simp [intOf]; omega
    · have hk5I : ¬ (k : Int) < 5 := by omega
      rw [show 5 - k = 0 by omega] at HE
      go_wp2_with fail
      refine bodyPost_ret (v := .bool false) ?_ rfl ⟨?_, ?_⟩
      · simp [results, Tryz.results103, go_sem]
      · rw [← HE.out]
        rfl
      · rw [← HE.out]
        exact HS.out

end Go.Proofs.YtfnlnigeaioocaaGreat
