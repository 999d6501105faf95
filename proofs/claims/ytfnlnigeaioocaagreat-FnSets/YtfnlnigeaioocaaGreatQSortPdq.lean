/- What pdqsortCmpFunc does at stamps. -/
import Derived.Deep.CutBlock
import Derived.Test.YtfnlnigeaioocaaGreatQTakeKit
import Derived.Test.YtfnlnigeaioocaaGreatQSortHeapToSortPiv
import Derived.Test.YtfnlnigeaioocaaGreatQSortPartE
import Derived.Test.YtfnlnigeaioocaaGreatQSortPart
import Derived.Test.YtfnlnigeaioocaaGreatQSortPIns
import Derived.Test.YtfnlnigeaioocaaGreatQSortBreak
import Derived.Test.YtfnlnigeaioocaaGreatQSortRnd
namespace Go.Proofs.YtfnlnigeaioocaaGreat
open Go.RowKit
open Go.Sort (swp insertionSort heapSort breakPatterns choosePivot reverseRange partialInsertionSort partitionEqual partition pdq Hint pdq_small pdq_heap)
set_option linter.unusedVariables false

set_option maxHeartbeats 25600000 in
set_option maxRecDepth 200000 in
theorem pdq_any (W0 : World) (B g cap n : Nat) (hsz : n ≤ 1048576) (hgw : g < W0.heap.size) : ∀ (N a b limit : Nat) (d : Array Sp) (w : World), b - a < N → d.size = n → a ≤ b → b ≤ n → limit ≤ 1000 → Go.Sort.Below ltS a b d → Sw W0 B g cap d w →
    Calls Tryz.prog 93 #[.slice (some ⟨g, 0, none⟩) n cap, .int .i64 (a : Int), .int .i64 (b : Int), .int .i64 (limit : Int), ordV] w fun e w' => e = .returned (.tuple #[]) ∧ Sw W0 B g cap (pdq ltS d a b limit true true) w' := by
  intro N
  induction N with
  | zero => intro _ _ _ _ _ h; exact absurd h (Nat.not_lt_zero _)
  | succ N ih =>
    intro a b limit d w hN hn hab hb hlimit hB hS
    have HIH : Hid _ := ih
    have HB : Hid _ := hB
    have HS : Hid _ := hS
    clear ih hB hS
    unfold ordV
    go_enter Tryz.func93, Tryz.ntmps93
    go_wp2_with fail
    go_loopw [1, 2, 3, 10, 11] (fun s1 s2 s3 s10 s11 wr => ∃ (a1 b1 lim : Nat) (wb wp : Bool) (dk : Array Sp), s1 = .int .i64 (a1 : Int) ∧ s2 = .int .i64 (b1 : Int) ∧ s3 = .int .i64 (lim : Int) ∧ s10 = .bool wb ∧ s11 = .bool wp ∧ a1 ≤ b1 ∧ b1 ≤ n ∧ b1 - a1 ≤ b - a ∧ lim ≤ limit ∧ dk.size = n ∧ Hid (Go.Sort.Below ltS a1 b1 dk) ∧ Hid (Sw W0 B g cap dk wr) ∧ Hid (pdq ltS dk a1 b1 lim wb wp = pdq ltS d a b limit true true)) (fun s1 s2 _ _ _ _ => (intOf s2 - intOf s1).toNat)
    case atStart => exact ⟨a, b, limit, true, true, d, rfl, rfl, rfl, rfl, rfl, hab, hb, Nat.le_refl _, Nat.le_refl _, hn, HB, HS, rfl⟩
    case round =>
      clear HS HB
      obtain ⟨a1, b1, lim, wb, wp, dk, rfl, rfl, rfl, rfl, rfl, hab1, hb1, hle, hlim, hdk, HB, HS, HE⟩ := hrel
      obtain ⟨l, hl⟩ : ∃ l, l = b1 - a1 := ⟨_, rfl⟩
      have hlI : (b1 : Int) - (a1 : Int) = (l : Int) := by omega
      by_cases h12 : l ≤ 12
      · have h12I : (l : Int) ≤ 12 := by omega
        have HN : Hid (pdq ltS dk a1 b1 lim wb wp = insertionSort ltS dk a1 b1) := pdq_small (by omega)
        have hc := insertion_any W0 B g cap n a1 b1 dk wr hdk hsz hab1 hb1 HS.out
        clear hl
        go_wp2_with (first | (go_at_call 98; refine hc.mono ?_; rintro e w1 ⟨rfl, H1⟩))
        refine bodyPost_ret (v := .tuple #[]) ?_ rfl ⟨rfl, ?_⟩
        · simp [results, Tryz.results93, go_sem]
        · rw [← HE.out, HN.out]
          exact H1
      · have h12I : ¬ (l : Int) ≤ 12 := by omega
        by_cases hl0 : lim = 0
        · have hl0I : (lim : Int) = 0 := by omega
          have HN : Hid (pdq ltS dk a1 b1 lim wb wp = heapSort ltS dk a1 b1) := pdq_heap (by omega) hl0
          have hc := heapSort_any W0 B g cap n a1 b1 dk wr hdk hsz (by omega) hb1 HS.out
          clear hl hl0
          go_wp2_with (first | (go_at_call 99; refine hc.mono ?_; rintro e w1 ⟨rfl, H1⟩))
          refine bodyPost_ret (v := .tuple #[]) ?_ rfl ⟨rfl, ?_⟩
          · simp [results, Tryz.results93, go_sem]
          · rw [← HE.out, HN.out]
            exact H1
        · have hl0B : ((lim : Int) == 0) = false := by simp; omega
          obtain ⟨d1, lm, c, h, d2, pv, hint, d3, done, hR⟩ := rnd_at dk a1 b1 lim wb wp (by omega) hl0 (by omega) HB.out
          have HR : Hid _ := hR
          have hlm : lm ≤ lim := hR.lmle
          have hc0 := hR.c0
          have hc1 := hR.c1
          have hp0 := hR.p0
          have hp1 := hR.p1
          have hs1 : d1.size = n := hR.s1.trans hdk
          have hs2 : d2.size = n := hR.s2.trans hdk
          have hs3 : d3.size = n := hR.s3.trans hdk
          have hl12 : a1 + 12 < b1 := by omega
          have hlim1 : 1 ≤ lim := by omega
          clear hR hl hl0
          go_upto_if 39 with fail
          go_cut [3] from 21 to 147 (fun s3 wc => s3 = .int .i64 (lm : Int) ∧ Hid (Sw W0 B g cap d1 wc))
          case first =>
            cases wb
            · obtain ⟨e1, e2⟩ := HR.out.brk rfl
              obtain ⟨L, hL⟩ : ∃ L, a1 + L = b1 := ⟨b1 - a1, by omega⟩
              have hc := break_any W0 B g cap n a1 L dk wr hdk hsz (by omega) (by omega) hgw HS.out
              rw [hL, ← e1] at hc
              have hlmI : (lim : Int) - 1 = (lm : Int) := by omega
              clear e1 e2 hL
              go_wp2_with (first | (go_at_call 100; refine hc.mono ?_; rintro e w1 ⟨rfl, H1⟩))
              go_meet
              case rel => exact ⟨by go_num, H1⟩
            · obtain ⟨e1, e2⟩ := HR.out.nbrk rfl
              have HS1 : Hid (Sw W0 B g cap d1 wr) := by rw [e1]; exact HS
              have hlmI : (lim : Int) = (lm : Int) := by omega
              clear e1 e2
              go_wp2_with fail
              go_meet
              case rel => exact ⟨by first | rfl | (rw [hlmI]), HS1⟩
          case rest =>
            clear HS
            obtain ⟨rfl, HS⟩ := hcut
            have hc := pivot_any W0 B g cap n a1 b1 d1 wc hs1 hsz hl12 hb1 hgw HS.out
            rw [HR.out.piv] at hc
            simp only at hc
            obtain ⟨z, hz⟩ : ∃ z : Int, hintI h = z := ⟨_, rfl⟩
            rw [hz] at hc
            have HZ : Hid _ := hz
            clear hz HS
            go_upto_if 56 with (first | (go_at_call 101; refine hc.mono ?_; rintro e w1 ⟨rfl, H1⟩))
            clear hc
            go_cut [13, 14] from 21 to 147 (fun s13 s14 wc => s13 = .int .i64 (pv : Int) ∧ s14 = .int .i64 (hintI hint) ∧ Hid (Sw W0 B g cap d2 wc))
            case first =>
              by_cases hh : h = .decreasing
              · obtain ⟨e1, e2, e3⟩ := HR.out.dec hh
                have hz2 : z = 2 := by rw [← HZ.out, hh]; rfl
                have hc := reverse_any W0 B g cap n a1 b1 d1 w1 hs1 hsz (by omega) hb1 H1
                rw [← e1] at hc
                have HI : Hid (hintI hint = 1) := by unfold Hid; rw [e3]; rfl
                have hpvI : (b1 : Int) - 1 - ((c : Int) - (a1 : Int)) = (pv : Int) := by omega
                have H1' : Hid _ := H1
                clear e1 e2 e3 hh H1
                subst hz2
                go_wp2_with (first | (go_at_call 102; refine hc.mono ?_; rintro e w2 ⟨rfl, H2⟩))
                go_meet
                case rel => exact ⟨by go_num, by rw [HI.out], H2⟩
              · obtain ⟨e1, e2, e3⟩ := HR.out.ndec hh
                have hzB : (z == 2) = false := by
                  rw [← HZ.out]
                  cases h <;> first | rfl | exact absurd rfl hh
                have HS2 : Hid (Sw W0 B g cap d2 w1) := by rw [e1]; exact H1
                have HI : Hid (hintI hint = z) := by unfold Hid; rw [e3, HZ.out]
                have hpvI : (c : Int) = (pv : Int) := by omega
                clear e1 e2 e3 hh H1
                go_wp2_with fail
                go_meet
                case rel => exact ⟨by first | rfl | (rw [hpvI]), by rw [HI.out], HS2⟩
            case rest =>
              clear H1 HZ
              obtain ⟨rfl, rfl, HS⟩ := hcut
              go_upto_region 15 with fail
              go_cut [75] from 68 to 75 (fun s75 wx => s75 = .bool (wb && wp && decide (hint = .increasing)) ∧ wx = wc)
              case first =>
                cases wb <;> cases wp <;> cases hint <;>
                  (simp only [hintI]
                   go_wp2_with fail
                   go_meet
                   exact ⟨rfl, rfl⟩)
              case rest =>
                obtain ⟨rfl, rfl⟩ := hcut
                go_upto_if 75 with fail
                go_cut [] from 21 to 147 (fun wx => done = false ∧ Hid (Sw W0 B g cap d3 wx))
                case first =>
                  cases h75 : (wb && wp && decide (hint = .increasing))
                  · obtain ⟨e1, e2⟩ := HR.out.no h75
                    have HS3 : Hid (Sw W0 B g cap d3 wc) := by rw [e1]; exact HS
                    go_wp2_with fail
                    go_meet
                    case rel => exact ⟨e2, HS3⟩
                  · have hc := pIns_any W0 B g cap n a1 b1 d2 wc hs2 hsz (by omega) hb1 HS.out
                    rw [HR.out.yes h75] at hc
                    simp only at hc
                    cases done
                    · go_wp2_with (first | (go_at_call 103; refine hc.mono ?_; rintro e w1 ⟨rfl, H1⟩))
                      go_meet
                      case rel => exact ⟨by first | rfl | trivial, H1⟩
                    · have HN := HR.out.ready rfl
                      have HN' : Hid _ := HN
                      clear HN
                      go_wp2_with (first | (go_at_call 103; refine hc.mono ?_; rintro e w1 ⟨rfl, H1⟩))
                      refine bodyPost_ret (v := .tuple #[]) ?_ rfl ⟨rfl, ?_⟩
                      · simp [results, Tryz.results93, go_sem]
                      · rw [← HE.out, HN'.out]
                        exact H1
                case rest =>
                  clear HS
                  obtain ⟨hdone, HS⟩ := hcut
                  have HD : Hid _ := hdone
                  clear hdone
                  go_upto_region 17 with fail
                  go_cut [97] from 81 to 97 (fun s97 wx => ∃ bb : Bool, s97 = .bool bb ∧ Hid ((bb = true → 0 < a1 ∧ ltS d3[a1 - 1]! d3[pv]! = false) ∧ (bb = false → a1 = 0 ∨ ltS d3[a1 - 1]! d3[pv]! = true)) ∧ Hid (Sw W0 B g cap d3 wx))
                  case first =>
                    by_cases ha0 : a1 = 0
                    · have ha0I : ¬ (0 : Int) < (a1 : Int) := by omega
                      have HA : Hid (a1 = 0) := ha0
                      have hn0 : ¬ 0 < a1 := by omega
                      have hn0d : decide (0 < a1) = false := decide_eq_false hn0
                      have hn0z : decide ((0 : Int) < (a1 : Int)) = false := decide_eq_false ha0I
                      clear ha0
                      go_wp2_with fail
                      go_quiet (fail)
                      go_wp2_with fail
                      go_meet
                      case rel => exact ⟨false, rfl, ⟨fun h => by simp at h, fun _ => .inl HA.out⟩, swDrewN HS nq⟩
                    · have ha0I : (0 : Int) < (a1 : Int) := by omega
                      have ha0J : 0 < a1 := by omega
                      obtain ⟨q, hq⟩ : ∃ q, q = a1 - 1 := ⟨_, rfl⟩
                      have hqI : (a1 : Int) - 1 = (q : Int) := by omega
                      have q0 : (0 : Int) ≤ (q : Int) := by omega
                      have q1 : (q : Int) < (n : Int) := by omega
                      have v0 : (0 : Int) ≤ (pv : Int) := by omega
                      have v1 : (pv : Int) < (n : Int) := by omega
                      have HQ : Hid (q = a1 - 1) := hq
                      clear hq ha0
                      have hxy := cmp_lt d3[q]! d3[pv]!
                      obtain ⟨x0, x1⟩ := HS.out.at (i := q) (by omega)
                      obtain ⟨y0, y1⟩ := HS.out.at (i := pv) (by omega)
                      have HWW : Hid _ := fun w' (h : Sw W0 B g cap d3 w') => h.swp (i := q) (j := pv) (by omega) (by omega)
                      obtain ⟨⟨xt, xa⟩, hx⟩ : ∃ x, d3[q]! = x := ⟨_, rfl⟩
                      obtain ⟨⟨yt, ya⟩, hy⟩ : ∃ x, d3[pv]! = x := ⟨_, rfl⟩
                      rw [hx, hy] at hxy HWW
                      rw [hx] at x0 x1
                      rw [hy] at y0 y1
                      simp only at x0 x1 y0 y1 hxy
                      have hC := fun w => order_any xt xa yt ya w
                      generalize cmpS xt xa yt ya = r at hC hxy
                      rcases hxy with ⟨hr, hl⟩ | ⟨hr, hl⟩
                      · have HN : Hid (ltS d3[a1 - 1]! d3[pv]! = true) := by unfold Hid; rw [← HQ.out, hx, hy]; exact hl
                        clear hl HWW hx hy
                        go_wp2_with fail
                        refine wp_region_held_drew (S := fun w' => w'.cell? ⟨g, q * 2, none⟩ = some (.int .i64 xt) ∧ w'.cell? ⟨g, q * 2 + 1, none⟩ = some (.int .i64 xa) ∧ w'.cell? ⟨g, pv * 2, none⟩ = some (.int .i64 yt) ∧ w'.cell? ⟨g, pv * 2 + 1, none⟩ = some (.int .i64 ya)) (by kernel_rfl) ⟨x0, x1, y0, y1⟩ (fun hHeld => ?_)
                        refine tkH 0 ((.int .i64 (a1 : Int))) rfl (Or.inl ⟨by rfl, by intro w hSw; obtain ⟨s0, s1, s2, s3⟩ := hSw; go_simp⟩) hHeld ?_
                        simp only [tkS, Act.put]
                        refine tkH 1 ((.bool true)) rfl (Or.inl ⟨by rfl, by intro w hSw; obtain ⟨s0, s1, s2, s3⟩ := hSw; go_simp⟩) hHeld ?_
                        simp only [tkS, Act.put]
                        refine tkH 2 ((.bool true)) rfl (Or.inl ⟨by rfl, by intro w hSw; obtain ⟨s0, s1, s2, s3⟩ := hSw; go_simp⟩) hHeld ?_
                        simp only [tkS, Act.put]
                        refine tkH 3 ((.func (.func 53) #[.agg #[]] #[])) rfl (Or.inl ⟨by rfl, by intro w hSw; obtain ⟨s0, s1, s2, s3⟩ := hSw; go_simp⟩) hHeld ?_
                        simp only [tkS, Act.put]
                        refine tkH 4 ((.slice (some ⟨g, 0, none⟩) n cap)) rfl (Or.inl ⟨by rfl, by intro w hSw; obtain ⟨s0, s1, s2, s3⟩ := hSw; go_simp⟩) hHeld ?_
                        simp only [tkS, Act.put]
                        refine tkH 5 ((.int .i64 (a1 : Int))) rfl (Or.inl ⟨by rfl, by intro w hSw; obtain ⟨s0, s1, s2, s3⟩ := hSw; go_simp⟩) hHeld ?_
                        simp only [tkS, Act.put]
                        refine tkH 6 ((.int .i64 (q : Int))) rfl (Or.inl ⟨by rfl, by intro w hSw; obtain ⟨s0, s1, s2, s3⟩ := hSw; go_simp; rw [IntKind.wrap_i64]; omega⟩) hHeld ?_
                        simp only [tkS, Act.put]
                        refine tkH 7 ((.pointer (some ⟨g, q * 2, none⟩))) rfl (Or.inl ⟨by rfl, by intro w hSw; obtain ⟨s0, s1, s2, s3⟩ := hSw; go_simp⟩) hHeld ?_
                        simp only [tkS, Act.put]
                        refine tkH 8 ((.agg #[.int .i64 xt, .int .i64 xa])) rfl (Or.inl ⟨by rfl, by intro w hSw; obtain ⟨s0, s1, s2, s3⟩ := hSw; go_simp⟩) hHeld ?_
                        simp only [tkS, Act.put]
                        refine tkH 9 ((.slice (some ⟨g, 0, none⟩) n cap)) rfl (Or.inl ⟨by rfl, by intro w hSw; obtain ⟨s0, s1, s2, s3⟩ := hSw; go_simp⟩) hHeld ?_
                        simp only [tkS, Act.put]
                        refine tkH 10 ((.int .i64 (pv : Int))) rfl (Or.inl ⟨by rfl, by intro w hSw; obtain ⟨s0, s1, s2, s3⟩ := hSw; go_simp⟩) hHeld ?_
                        simp only [tkS, Act.put]
                        refine tkH 11 ((.pointer (some ⟨g, pv * 2, none⟩))) rfl (Or.inl ⟨by rfl, by intro w hSw; obtain ⟨s0, s1, s2, s3⟩ := hSw; go_simp⟩) hHeld ?_
                        simp only [tkS, Act.put]
                        refine tkH 12 ((.agg #[.int .i64 yt, .int .i64 ya])) rfl (Or.inl ⟨by rfl, by intro w hSw; obtain ⟨s0, s1, s2, s3⟩ := hSw; go_simp⟩) hHeld ?_
                        simp only [tkS, Act.put]
                        refine wpAnyH_ready (rs := [13]) (by kernel_rfl) (by simp) ?_
                        refine AllReadyH.cons rfl (fun K hK => ?_) AllReadyH.nil
                        go_simp
                        refine (hC _).mono ?_
                        rintro e w2 ⟨rfl, hb2⟩
                        go_wp2_with fail
                        refine hK.out _ _ ⟨cell_on hb2 hHeld.1, cell_on hb2 hHeld.2.1, cell_on hb2 hHeld.2.2.1, cell_on hb2 hHeld.2.2.2⟩ (fun hHeld2 => ?_)
                        clear hK K
                        replace HS := swOn (swDrew HS) hb2
                        clear hb2 x0 x1 y0 y1
                        refine wpAnyH_take (i := 14) (v := (.bool true)) rfl (by kernel_rfl) (by kernel_rfl) (by kernel_rfl) (fun _ _ _ h => h) (Or.inl ⟨by rfl, by intro w hSw; obtain ⟨s0, s1, s2, s3⟩ := hSw; go_simp⟩) hHeld2 ?_
                        simp only [tkS, Act.put]
                        refine wpAnyH_take (i := 15) (v := (.bool false)) rfl (by kernel_rfl) (by kernel_rfl) (by kernel_rfl) (fun _ _ _ h => h) (Or.inl ⟨by rfl, by intro w hSw; obtain ⟨s0, s1, s2, s3⟩ := hSw; go_simp⟩) hHeld2 ?_
                        simp only [tkS, Act.put]
                        refine wpAnyH_take (i := 16) (v := (.bool false)) rfl (by kernel_rfl) (by kernel_rfl) (by kernel_rfl) (fun _ _ _ h => h) (Or.inl ⟨by rfl, by intro w hSw; obtain ⟨s0, s1, s2, s3⟩ := hSw; go_simp⟩) hHeld2 ?_
                        simp only [tkS, Act.put]
                        refine wpAnyH_done (by kernel_rfl) ?_ _
                        clear hHeld hHeld2
                        go_wp2_with fail
                        go_meet
                        case rel => exact ⟨false, rfl, ⟨fun h => by simp at h, fun _ => .inr HN.out⟩, HS⟩
                      · have HN : Hid (ltS d3[a1 - 1]! d3[pv]! = false) := by unfold Hid; rw [← HQ.out, hx, hy]; exact hl
                        clear hl HWW hx hy
                        go_wp2_with fail
                        refine wp_region_held_drew (S := fun w' => w'.cell? ⟨g, q * 2, none⟩ = some (.int .i64 xt) ∧ w'.cell? ⟨g, q * 2 + 1, none⟩ = some (.int .i64 xa) ∧ w'.cell? ⟨g, pv * 2, none⟩ = some (.int .i64 yt) ∧ w'.cell? ⟨g, pv * 2 + 1, none⟩ = some (.int .i64 ya)) (by kernel_rfl) ⟨x0, x1, y0, y1⟩ (fun hHeld => ?_)
                        refine tkH 0 ((.int .i64 (a1 : Int))) rfl (Or.inl ⟨by rfl, by intro w hSw; obtain ⟨s0, s1, s2, s3⟩ := hSw; go_simp⟩) hHeld ?_
                        simp only [tkS, Act.put]
                        refine tkH 1 ((.bool true)) rfl (Or.inl ⟨by rfl, by intro w hSw; obtain ⟨s0, s1, s2, s3⟩ := hSw; go_simp⟩) hHeld ?_
                        simp only [tkS, Act.put]
                        refine tkH 2 ((.bool true)) rfl (Or.inl ⟨by rfl, by intro w hSw; obtain ⟨s0, s1, s2, s3⟩ := hSw; go_simp⟩) hHeld ?_
                        simp only [tkS, Act.put]
                        refine tkH 3 ((.func (.func 53) #[.agg #[]] #[])) rfl (Or.inl ⟨by rfl, by intro w hSw; obtain ⟨s0, s1, s2, s3⟩ := hSw; go_simp⟩) hHeld ?_
                        simp only [tkS, Act.put]
                        refine tkH 4 ((.slice (some ⟨g, 0, none⟩) n cap)) rfl (Or.inl ⟨by rfl, by intro w hSw; obtain ⟨s0, s1, s2, s3⟩ := hSw; go_simp⟩) hHeld ?_
                        simp only [tkS, Act.put]
                        refine tkH 5 ((.int .i64 (a1 : Int))) rfl (Or.inl ⟨by rfl, by intro w hSw; obtain ⟨s0, s1, s2, s3⟩ := hSw; go_simp⟩) hHeld ?_
                        simp only [tkS, Act.put]
                        refine tkH 6 ((.int .i64 (q : Int))) rfl (Or.inl ⟨by rfl, by intro w hSw; obtain ⟨s0, s1, s2, s3⟩ := hSw; go_simp; rw [IntKind.wrap_i64]; omega⟩) hHeld ?_
                        simp only [tkS, Act.put]
                        refine tkH 7 ((.pointer (some ⟨g, q * 2, none⟩))) rfl (Or.inl ⟨by rfl, by intro w hSw; obtain ⟨s0, s1, s2, s3⟩ := hSw; go_simp⟩) hHeld ?_
                        simp only [tkS, Act.put]
                        refine tkH 8 ((.agg #[.int .i64 xt, .int .i64 xa])) rfl (Or.inl ⟨by rfl, by intro w hSw; obtain ⟨s0, s1, s2, s3⟩ := hSw; go_simp⟩) hHeld ?_
                        simp only [tkS, Act.put]
                        refine tkH 9 ((.slice (some ⟨g, 0, none⟩) n cap)) rfl (Or.inl ⟨by rfl, by intro w hSw; obtain ⟨s0, s1, s2, s3⟩ := hSw; go_simp⟩) hHeld ?_
                        simp only [tkS, Act.put]
                        refine tkH 10 ((.int .i64 (pv : Int))) rfl (Or.inl ⟨by rfl, by intro w hSw; obtain ⟨s0, s1, s2, s3⟩ := hSw; go_simp⟩) hHeld ?_
                        simp only [tkS, Act.put]
                        refine tkH 11 ((.pointer (some ⟨g, pv * 2, none⟩))) rfl (Or.inl ⟨by rfl, by intro w hSw; obtain ⟨s0, s1, s2, s3⟩ := hSw; go_simp⟩) hHeld ?_
                        simp only [tkS, Act.put]
                        refine tkH 12 ((.agg #[.int .i64 yt, .int .i64 ya])) rfl (Or.inl ⟨by rfl, by intro w hSw; obtain ⟨s0, s1, s2, s3⟩ := hSw; go_simp⟩) hHeld ?_
                        simp only [tkS, Act.put]
                        refine wpAnyH_ready (rs := [13]) (by kernel_rfl) (by simp) ?_
                        refine AllReadyH.cons rfl (fun K hK => ?_) AllReadyH.nil
                        go_simp
                        refine (hC _).mono ?_
                        rintro e w2 ⟨rfl, hb2⟩
                        go_wp2_with fail
                        refine hK.out _ _ ⟨cell_on hb2 hHeld.1, cell_on hb2 hHeld.2.1, cell_on hb2 hHeld.2.2.1, cell_on hb2 hHeld.2.2.2⟩ (fun hHeld2 => ?_)
                        clear hK K
                        replace HS := swOn (swDrew HS) hb2
                        clear hb2 x0 x1 y0 y1
                        refine wpAnyH_take (i := 14) (v := (.bool false)) rfl (by kernel_rfl) (by kernel_rfl) (by kernel_rfl) (fun _ _ _ h => h) (Or.inl ⟨by rfl, by intro w hSw; obtain ⟨s0, s1, s2, s3⟩ := hSw; go_simp⟩) hHeld2 ?_
                        simp only [tkS, Act.put]
                        refine wpAnyH_take (i := 15) (v := (.bool true)) rfl (by kernel_rfl) (by kernel_rfl) (by kernel_rfl) (fun _ _ _ h => h) (Or.inl ⟨by rfl, by intro w hSw; obtain ⟨s0, s1, s2, s3⟩ := hSw; go_simp⟩) hHeld2 ?_
                        simp only [tkS, Act.put]
                        refine wpAnyH_take (i := 16) (v := (.bool true)) rfl (by kernel_rfl) (by kernel_rfl) (by kernel_rfl) (fun _ _ _ h => h) (Or.inl ⟨by rfl, by intro w hSw; obtain ⟨s0, s1, s2, s3⟩ := hSw; go_simp⟩) hHeld2 ?_
                        simp only [tkS, Act.put]
                        refine wpAnyH_done (by kernel_rfl) ?_ _
                        clear hHeld hHeld2
                        go_wp2_with fail
                        go_meet
                        case rel => exact ⟨true, rfl, ⟨fun _ => ⟨ha0J, HN.out⟩, fun h => by simp at h⟩, HS⟩
                  case rest =>
                    clear HS
                    obtain ⟨bb, rfl, HBB, HS⟩ := hcut
                    cases bb
                    · obtain ⟨mid, ap, d4, hx⟩ : ∃ mid ap d4, partition ltS d3 a1 b1 pv = (mid, ap, d4) := ⟨_, _, _, rfl⟩
                      obtain ⟨r1, r2, r3, r4, r5, r6, r7⟩ := HR.out.part HD.out (HBB.out.2 rfl) mid ap d4 hx
                      have hc := part_any W0 B g cap n a1 b1 pv d3 wc hs3 hsz (by omega) hb1 hp0 hp1 HS.out
                      rw [hx] at hc
                      simp only at hc
                      have hs4 : d4.size = n := r3.trans hdk
                      have R4 : Hid _ := r4
                      have R5 : Hid _ := r5
                      have R6 : Hid _ := r6
                      have R7 : Hid _ := r7
                      clear r3 r4 r5 r6 r7 hx
                      obtain ⟨lf, hlf⟩ : ∃ lf, lf = mid - a1 := ⟨_, rfl⟩
                      obtain ⟨rt, hrt⟩ : ∃ rt, rt = b1 - mid := ⟨_, rfl⟩
                      have hlfI : (mid : Int) - (a1 : Int) = (lf : Int) := by omega
                      have hrtI : (b1 : Int) - (mid : Int) = (rt : Int) := by omega
                      have mI : (mid : Int) + 1 < 9223372036854775808 := by omega
                      by_cases h4 : lf < rt
                      · have h4I : (lf : Int) < (rt : Int) := by omega
                        have hi := fun w7 hw7 => HIH.out a1 mid lm d4 w7 (by omega) hs4 (by omega) (by omega) (by omega) R4.out hw7
                        obtain ⟨d5, h5⟩ : ∃ d5, pdq ltS d4 a1 mid lm true true = d5 := ⟨_, rfl⟩
                        obtain ⟨t1, t2, t3⟩ := R6.out (by omega) d5 h5
                        rw [h5] at hi
                        have T2 : Hid _ := t2
                        have T3 : Hid _ := t3
                        have hs5 : d5.size = n := t1.trans hdk
                        clear t1 t2 t3 h5 hlf hrt HS
                        go_wp2_with (first | (go_at_call 105; refine hc.mono ?_; rintro e w7 ⟨rfl, H7⟩) | (go_at_call 93; refine (hi _ H7).mono ?_; rintro e w8 ⟨rfl, H8⟩))
                        go_roundw
                        case rel => exact ⟨mid + 1, b1, lm, decide (mid - a1 ≥ (b1 - a1) / 8), ap, d5, by go_num, rfl, rfl, by congr 1; rw [decide_eq_decide]; omega, rfl, by omega, hb1, by omega, by omega, hs5, T2, H8, by unfold Hid; rw [← HE.out, T3.out]⟩
                        case measure => simp [intOf]; omega
                      · have h4I : ¬ (lf : Int) < (rt : Int) := by omega
                        have hi := fun w7 hw7 => HIH.out (mid + 1) b1 lm d4 w7 (by omega) hs4 (by omega) (by omega) (by omega) R5.out hw7
                        obtain ⟨d5, h5⟩ : ∃ d5, pdq ltS d4 (mid + 1) b1 lm true true = d5 := ⟨_, rfl⟩
                        obtain ⟨t1, t2, t3⟩ := R7.out (by omega) d5 h5
                        rw [h5] at hi
                        simp only [show ((mid + 1 : Nat) : Int) = (mid : Int) + 1 by omega] at hi
                        have T2 : Hid _ := t2
                        have T3 : Hid _ := t3
                        have hs5 : d5.size = n := t1.trans hdk
                        clear t1 t2 t3 h5 hlf hrt HS
                        go_wp2_with (first | (go_at_call 105; refine hc.mono ?_; rintro e w7 ⟨rfl, H7⟩) | (go_at_call 93; refine (hi _ H7).mono ?_; rintro e w8 ⟨rfl, H8⟩))
                        go_roundw
                        case rel => exact ⟨a1, mid, lm, decide (b1 - mid ≥ (b1 - a1) / 8), ap, d5, rfl, by go_num, rfl, by congr 1; rw [decide_eq_decide]; omega, rfl, by omega, by omega, by omega, by omega, hs5, T2, H8, by unfold Hid; rw [← HE.out, T3.out]⟩
                        case measure => simp [intOf]; omega
                    · obtain ⟨ha0, hlt⟩ := HBB.out.1 rfl
                      obtain ⟨mid, d4, hx⟩ : ∃ mid d4, partitionEqual ltS d3 a1 b1 pv = (mid, d4) := ⟨_, _, rfl⟩
                      obtain ⟨r1, r2, r3, r4, r5⟩ := HR.out.eq HD.out ha0 hlt mid d4 hx
                      have hc := partEq_any W0 B g cap n a1 b1 pv d3 wc hs3 hsz (by omega) hb1 hp0 hp1 HS.out
                      rw [hx] at hc
                      simp only at hc
                      have hs4 : d4.size = n := r3.trans hdk
                      have R4 : Hid _ := r4
                      have R5 : Hid _ := r5
                      clear r3 r4 r5 hx hlt HS
                      go_wp2_with (first | (go_at_call 104; refine hc.mono ?_; rintro e w7 ⟨rfl, H7⟩))
                      go_roundw
                      case rel => exact ⟨mid, b1, lm, wb, wp, d4, by go_num, rfl, rfl, rfl, rfl, r2, hb1, by omega, by omega, hs4, R4, H7, by unfold Hid; rw [← HE.out, R5.out]⟩
                      case measure => simp [intOf]; omega

end Go.Proofs.YtfnlnigeaioocaaGreat
