/- What the specification's StampNext does. -/
import Derived.Test.YtonpeiknoifdbabStampNextCode
namespace Go.Proofs.Ytonpeiknoifdbab
open Go.RowKit
set_option linter.unusedVariables false

set_option maxHeartbeats 400000 in
theorem none_any (t a : Int) (w : World) :
    Calls Try.prog 53 #[.agg #[.int .i64 t, .int .i64 a]] w fun e w' => e = .returned (.bool (decide (t = 0 ∧ a = 0))) ∧ Below w.heap.size w w' := by
  obtain ⟨r, hr, hc⟩ : ∃ r, decide (t = 0 ∧ a = 0) = r ∧ ((r = true ∧ t = 0 ∧ a = 0) ∨ (r = false ∧ (t == 0) = false) ∨ (r = false ∧ (t == 0) = true ∧ (a == 0) = false)) := by
    refine ⟨_, rfl, ?_⟩
    by_cases h1 : t = 0
    · by_cases h2 : a = 0
      · exact .inl ⟨by simp [h1, h2], h1, h2⟩
      · exact .inr (.inr ⟨by simp [h2], by simp [h1], by simp [h2]⟩)
    · exact .inr (.inl ⟨by simp [h1], by simp [h1]⟩)
  rw [hr]
  clear hr
  rcases hc with ⟨rfl, rfl, rfl⟩ | ⟨rfl, h1⟩ | ⟨rfl, h1, h2⟩
  all_goals
    go_enter Try.func53, Try.ntmps53
    go_wp2_with fail
    go_ret
    exact ⟨by simp, below_alloc _ _⟩

theorem StAt.put0 {w : World} {n : Nat} {t a : Int} (h : StAt w n t a) (t' : Int) : StAt (w.setCell ⟨n, 0, none⟩ (.int .i64 t')) n t' a := by
  obtain ⟨h0, h1, f0, f1⟩ := h
  exact ⟨World.cell?_setCell_same _ _ _ h0, (World.cell?_setCells_out n [.int .i64 t'] 0 w _ (fun _ _ => .inr (by simp))).trans h1, (World.frozen?_setCells n [.int .i64 t'] 0 w _).trans f0, (World.frozen?_setCells n [.int .i64 t'] 0 w _).trans f1⟩
theorem StAt.aside0 {w : World} {n m : Nat} {t a : Int} (h : StAt w n t a) (hn : n ≠ m) (u : Value) : StAt (w.setCell ⟨m, 0, none⟩ u) n t a := by
  obtain ⟨h0, h1, f0, f1⟩ := h
  have hc : ∀ k, (w.setCell ⟨m, 0, none⟩ u).cell? ⟨n, k, none⟩ = w.cell? ⟨n, k, none⟩ := fun k => World.cell?_setCells_out m [u] 0 w _ (fun e => absurd e hn)
  have hf : ∀ k, (w.setCell ⟨m, 0, none⟩ u).frozen? ⟨n, k, none⟩ = w.frozen? ⟨n, k, none⟩ := fun k => World.frozen?_setCells m [u] 0 w _
  exact ⟨(hc 0).trans h0, (hc 1).trans h1, (hf 0).trans f0, (hf 1).trans f1⟩

set_option maxHeartbeats 2000000 in
set_option maxRecDepth 100000 in
theorem specStampNext_any {cap : Nat} (w : World) (g : Nat) (ls : List (Int × Int)) (c : Int) (hg : g < w.heap.size) (hS : SlS w g ls) (hn : ls.length < 9223372036854775807) :
    Calls Try.prog 23 #[.slice (some ⟨g, 0, none⟩) ls.length cap, .int .i64 c] w fun e w' => e = .returned (nextS ls c) ∧ Below w.heap.size w w' := by
  by_cases hl : 4096 < ls.length
  · have HN : Hid _ := nextS_long (c := c) hl
    have i0 : (4096 : Int) < (ls.length : Int) := by omega
    clear hl
    go_enter Try.func23, Try.ntmps23
    go_wp2_with fail
    refine bodyPost_ret (v := nextS ls c) ?_ rfl ⟨rfl, ?_⟩
    · rw [HN.out]
      simp [results, Try.results23, go_sem]
    · exact below_alloc _ _
  · have i0 : (ls.length : Int) ≤ 4096 := by omega
    refine if hc0 : 0 ≤ c then ?pa else ?pb
    case' pa => refine if hc1 : c < 16 then ?pc else ?pd
    case' pb => have HN : Hid _ := nextS_bad (ls := ls) (c := c) hl (.inl (by omega))
    case' pd => have HN : Hid _ := nextS_bad (ls := ls) (c := c) hl (.inl (by omega))
    case pc =>
      go_enter Try.func23, Try.ntmps23
      go_wp2_with fail
      go_loopw [7] (fun ti wr => ∃ k : Nat, k ≤ ls.length ∧ ti = .int .i64 (k : Int) ∧ Hid (∀ j, j < k → okS (ls.getD j (0, 0)).1 (ls.getD j (0, 0)).2 = true) ∧ Hid (StAt wr w.heap.size 0 0) ∧ Hid (StAt wr (w.heap.size + 1) 1 c) ∧ Below w.heap.size w wr) (fun ti _ => ls.length - (intOf ti).toNat)
      case atStart =>
        refine ⟨0, Nat.zero_le _, rfl, fun j hj => absurd hj (Nat.not_lt_zero _), (StAt.made w 0 0 24).on (below_alloc _ _), ?_, below_then (below_alloc _ _) _⟩
        have := StAt.made (w.alloc (.cells #[.int .i64 0, .int .i64 0] 24)) 1 c 24
        rw [World.size_alloc] at this
        exact this
      case round =>
        obtain ⟨k, hk, rfl, HK, HR, HX, hB⟩ := hrel
        by_cases hlt : k < ls.length
        · have d0 := hB.cell (p := ⟨g, k * 2, none⟩) hg
          have d1 := hB.cell (p := ⟨g, k * 2 + 1, none⟩) hg
          rw [(hS k hlt).1] at d0
          rw [(hS k hlt).2] at d1
          have j0 : (0 : Int) ≤ (k : Int) := by omega
          have j1 : (k : Int) < (ls.length : Int) := by omega
          have j2 : (k : Int) + 1 < 9223372036854775808 := by omega
          have hO := fun w => specStampOK_any (ls.getD k (0, 0)).1 (ls.getD k (0, 0)).2 w
          have hZ := fun w => none_any (ls.getD k (0, 0)).1 (ls.getD k (0, 0)).2 w
          have hK' : okS (ls.getD k (0, 0)).1 (ls.getD k (0, 0)).2 = true → Hid (∀ j, j < k + 1 → okS (ls.getD j (0, 0)).1 (ls.getD j (0, 0)).2 = true) := fun ho j hj => by
            by_cases e : j = k
            · rw [e]; exact ho
            · exact HK.out j (by omega)
          have hN' : okS (ls.getD k (0, 0)).1 (ls.getD k (0, 0)).2 = false → Hid (nextS ls c = .tuple #[.agg #[.int .i64 0, .int .i64 0], .int .i64 4]) := fun ho => nextS_bad hl (.inr (allS_not hlt ho))
          unfold okS at hK' hN'
          clear HK
          generalize (ls.getD k (0, 0)).1 = t at d0 hO hZ hK' hN'
          generalize (ls.getD k (0, 0)).2 = a at d1 hO hZ hK' hN'
          generalize stOK t a = b1 at hO hK' hN'
          generalize decide (t = 0 ∧ a = 0) = b2 at hZ hK' hN'
          cases b1 <;> cases b2
          case false.false =>
            have HN := hN' rfl
            clear hN' hK'
            go_wp2_with ((first | (go_at_call 24; refine (hO _).mono ?_) | (go_at_call 53; refine (hZ _).mono ?_)); rintro e w' ⟨rfl, hb⟩; replace d0 := cell_on hb d0; replace d1 := cell_on hb d1; replace hB := below_seq hB hb; replace HR : Hid (StAt w' w.heap.size 0 0) := StAt.on HR.out hb; clear hb; obtain ⟨r0, r1, g0, g1⟩ := HR.out)
            have hr := StAt.put HR.out 0 0
            refine bodyPost_ret (v := nextS ls c) ?_ rfl ⟨rfl, ?_⟩
            · rw [HN.out]
              simp [results, Try.results23, go_sem, hr.1, hr.2.1]
            · exact (hB.setCell (Nat.le_refl _) _).setCell (Nat.le_refl _) _
          all_goals
            have HK := hK' rfl
            clear hN' hK'
            go_wp2_with ((first | (go_at_call 24; refine (hO _).mono ?_) | (go_at_call 53; refine (hZ _).mono ?_)); rintro e w' ⟨rfl, hb⟩; replace d0 := cell_on hb d0; replace d1 := cell_on hb d1; replace hB := below_seq hB hb; replace HR : Hid (StAt w' w.heap.size 0 0) := StAt.on HR.out hb; replace HX : Hid (StAt w' (w.heap.size + 1) 1 c) := StAt.on HX.out hb; clear hb)
            go_roundw
            case rel => exact ⟨k + 1, by omega, by go_num, HK, HR, HX, hB⟩
            case measure => simp [intOf]; omega
        · obtain rfl : k = ls.length := by omega
          have hall := allS_of HK.out
          have hN := nextS_good hl ⟨hc0, hc1⟩ hall
          rw [above_time hc0 hc1 hall] at hN
          have HN : Hid _ := hN
          clear hN hl HK
          go_wp2_with fail
          go_loopw [8] (fun ti wr => ∃ k : Nat, k ≤ ls.length ∧ ti = .int .i64 (k : Int) ∧ Hid (StAt wr w.heap.size 0 0) ∧ Hid (StAt wr (w.heap.size + 1) (timeTo c ls k) c) ∧ Below w.heap.size w wr) (fun ti _ => ls.length - (intOf ti).toNat)
          case atStart => exact ⟨0, Nat.zero_le _, rfl, HR, HX, hB⟩
          case round =>
            clear hB HR HX
            obtain ⟨k, hk, rfl, HR, HX, hB⟩ := hrel
            by_cases hlt : k < ls.length
            · have d0 := hB.cell (p := ⟨g, k * 2, none⟩) hg
              have d1 := hB.cell (p := ⟨g, k * 2 + 1, none⟩) hg
              rw [(hS k hlt).1] at d0
              rw [(hS k hlt).2] at d1
              have j0 : (0 : Int) ≤ (k : Int) := by omega
              have j1 : (k : Int) < (ls.length : Int) := by omega
              have j2 : (k : Int) + 1 < 9223372036854775808 := by omega
              have hbd := okS_bd (allS_get hall k)
              have HT : Hid (timeTo c ls (k + 1) = stepS c (timeTo c ls k) (ls.getD k (0, 0))) := rfl
              generalize ls.getD k (0, 0) = x at d0 d1 HT hbd
              generalize hm : timeTo c ls k = u at HX HT
              clear hm
              obtain ⟨t, a⟩ := x
              simp only at d0 d1 hbd
              have t0 : t + 1 < 9223372036854775808 := by omega
              have t1 : -9223372036854775808 ≤ t := by omega
              clear hbd
              obtain ⟨m0, m1, f0, f1⟩ := HX.out
              have hL := fun w => specStampLess_any t a u c w
              cases hl : lessS t a u c with
              | true =>
                have HS : Hid (stepS c u (t, a) = u) := if_pos hl
                rw [hl] at hL
                clear hl
                go_wp2_with fail
                go_region_held2 (fun w' => w'.cell? ⟨g, k * 2, none⟩ = some (.int .i64 t) ∧ w'.cell? ⟨g, k * 2 + 1, none⟩ = some (.int .i64 a) ∧ w'.cell? ⟨w.heap.size + 1, 0, none⟩ = some (.int .i64 u) ∧ w'.cell? ⟨w.heap.size + 1, 1, none⟩ = some (.int .i64 c)) (exact ⟨d0, d1, m0, m1⟩) ((go_at_call 20; refine (hL _).mono ?_; rintro e w' ⟨rfl, hb⟩; replace d0 := cell_on hb d0; replace d1 := cell_on hb d1; clear m0 m1 f0 f1; replace HX : Hid (StAt w' (w.heap.size + 1) u c) := StAt.on (w := wr.drew) HX.out hb; replace HR : Hid (StAt w' w.heap.size 0 0) := StAt.on (w := wr.drew) HR.out hb; obtain ⟨m0, m1, f0, f1⟩ := HX.out; replace hB := below_seq hB.drew hb; clear hb))
                go_wp2_with fail
                go_roundw
                case rel => exact ⟨k + 1, by omega, by go_num, HR, by rw [HT.out, HS.out]; exact HX, hB⟩
                case measure => simp [intOf]; omega
              | false =>
                have hs : stepS c u (t, a) = if c ≤ a then t + 1 else t := if_neg (by simp [hl])
                rw [hl] at hL
                clear hl
                by_cases hca : c ≤ a
                · rw [if_pos hca] at hs
                  have HS : Hid _ := hs
                  clear hs
                  go_wp2_with fail
                  go_region_held2 (fun w' => w'.cell? ⟨g, k * 2, none⟩ = some (.int .i64 t) ∧ w'.cell? ⟨g, k * 2 + 1, none⟩ = some (.int .i64 a) ∧ w'.cell? ⟨w.heap.size + 1, 0, none⟩ = some (.int .i64 u) ∧ w'.cell? ⟨w.heap.size + 1, 1, none⟩ = some (.int .i64 c)) (exact ⟨d0, d1, m0, m1⟩) ((go_at_call 20; refine (hL _).mono ?_; rintro e w' ⟨rfl, hb⟩; replace d0 := cell_on hb d0; replace d1 := cell_on hb d1; clear m0 m1 f0 f1; replace HX : Hid (StAt w' (w.heap.size + 1) u c) := StAt.on (w := wr.drew) HX.out hb; replace HR : Hid (StAt w' w.heap.size 0 0) := StAt.on (w := wr.drew) HR.out hb; obtain ⟨m0, m1, f0, f1⟩ := HX.out; replace hB := below_seq hB.drew hb; clear hb))
                  have hp := StAt.put0 HX.out t
                  have d1' : (w'.setCell ⟨w.heap.size + 1, 0, none⟩ (.int .i64 t)).cell? ⟨g, k * 2 + 1, none⟩ = some (.int .i64 a) := (World.cell?_setCells_out (w.heap.size + 1) [.int .i64 t] 0 w' _ (fun e => absurd e (by show g ≠ _; omega))).trans d1
                  have n0 := hp.1
                  have n2 := hp.2.2.1
                  go_wp2_with fail
                  exact ⟨⟨k + 1, by omega, by go_num, StAt.aside0 (StAt.aside0 HR.out (by omega) _) (by omega) _, by rw [HT.out, HS.out]; exact StAt.put0 hp (t + 1), (hB.setCell (by show _ ≤ w.heap.size + 1; omega) _).setCell (by show _ ≤ w.heap.size + 1; omega) _⟩, by simp [intOf]; omega⟩
                · rw [if_neg hca] at hs
                  have HS : Hid _ := hs
                  have hd : decide (c ≤ a) = false := decide_eq_false hca
                  clear hs hca
                  go_wp2_with fail
                  go_region_held2 (fun w' => w'.cell? ⟨g, k * 2, none⟩ = some (.int .i64 t) ∧ w'.cell? ⟨g, k * 2 + 1, none⟩ = some (.int .i64 a) ∧ w'.cell? ⟨w.heap.size + 1, 0, none⟩ = some (.int .i64 u) ∧ w'.cell? ⟨w.heap.size + 1, 1, none⟩ = some (.int .i64 c)) (exact ⟨d0, d1, m0, m1⟩) ((go_at_call 20; refine (hL _).mono ?_; rintro e w' ⟨rfl, hb⟩; replace d0 := cell_on hb d0; replace d1 := cell_on hb d1; clear m0 m1 f0 f1; replace HX : Hid (StAt w' (w.heap.size + 1) u c) := StAt.on (w := wr.drew) HX.out hb; replace HR : Hid (StAt w' w.heap.size 0 0) := StAt.on (w := wr.drew) HR.out hb; obtain ⟨m0, m1, f0, f1⟩ := HX.out; replace hB := below_seq hB.drew hb; clear hb))
                  have hp := StAt.put0 HX.out t
                  have d1' : (w'.setCell ⟨w.heap.size + 1, 0, none⟩ (.int .i64 t)).cell? ⟨g, k * 2 + 1, none⟩ = some (.int .i64 a) := (World.cell?_setCells_out (w.heap.size + 1) [.int .i64 t] 0 w' _ (fun e => absurd e (by show g ≠ _; omega))).trans d1
                  have n0 := hp.1
                  have n2 := hp.2.2.1
                  go_wp2_with fail
                  exact ⟨⟨k + 1, by omega, by go_num, StAt.aside0 HR.out (by omega) _, by rw [HT.out, HS.out]; exact hp, hB.setCell (by show _ ≤ w.heap.size + 1; omega) _⟩, by simp [intOf]; omega⟩
            · obtain rfl : k = ls.length := by omega
              generalize timeTo c ls ls.length = u at HX HN
              obtain ⟨m0, m1, f0, f1⟩ := HX.out
              obtain ⟨r0, r1, g0, g1⟩ := HR.out
              by_cases hu : 1000000000000 < u
              · rw [if_pos hu] at HN
                go_wp2_with fail
                have hr := StAt.put HR.out 0 0
                refine bodyPost_ret (v := nextS ls c) ?_ rfl ⟨rfl, ?_⟩
                · rw [HN.out]
                  simp [results, Try.results23, go_sem, hr.1, hr.2.1]
                · exact (hB.setCell (Nat.le_refl _) _).setCell (Nat.le_refl _) _
              · rw [if_neg hu] at HN
                replace hu : u ≤ 1000000000000 := by omega
                go_wp2_with fail
                have hr := StAt.put HR.out u c
                refine bodyPost_ret (v := nextS ls c) ?_ rfl ⟨rfl, ?_⟩
                · rw [HN.out]
                  simp [results, Try.results23, go_sem, hr.1, hr.2.1]
                · exact (hB.setCell (Nat.le_refl _) _).setCell (Nat.le_refl _) _
    all_goals
      clear hl
      go_enter Try.func23, Try.ntmps23
      go_wp2_with fail
      refine bodyPost_ret (v := nextS ls c) ?_ rfl ⟨rfl, ?_⟩
      · rw [HN.out]
        simp [results, Try.results23, go_sem]
      · exact below_alloc _ _

end Go.Proofs.Ytonpeiknoifdbab
