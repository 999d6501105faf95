/- What the specification's l03EntriesOK answers: whether a vector and entries make a valid value. -/
import Derived.Deep.CutRange
import Derived.Test.YtfnlnigeaioocaaGreatQTakeKit
import Derived.Test.YtfnlnigeaioocaaGreatQJoinedBaseToEntRows
namespace Go.Proofs.YtfnlnigeaioocaaGreat
open Go.RowKit
set_option linter.unusedVariables false

theorem wrap_in {x : Int} (h0 : -9223372036854775808 ≤ x) (h1 : x < 9223372036854775808) : IntKind.i64.wrap x = x := by
  rw [IntKind.wrap_i64]
  omega

set_option maxHeartbeats 4000000 in
set_option maxRecDepth 100000 in
theorem l03EntriesOK_any (C : Nat) (w : World) (v ve : Value) (xs : List Int) (ls : List En) (hC : C ≤ w.heap.size) (hv : Rd C w v (xs.map (Value.int .i64))) (he : RdE C w ve ls) :
    Calls Tryz.prog 20 #[.agg #[v], ve] w fun e w' => e = .returned (.bool (okJ xs ls)) ∧ Below w.heap.size w w' := by
  have hVK := specVecOK_any C (w.alloc (.cells #[v] 25)) v xs (by simp; omega) (hv.alloc _ hC)
  have hv0 := hv
  obtain ⟨ao, ca, rfl, _, _, _, hvc⟩ := hv
  have he0 := he
  obtain ⟨eo, ec, rfl, hE⟩ := he0
  rw [List.length_map] at hVK hvc ⊢
  cases hok : vecOK xs with
  | false =>
    have HJ0 : Hid (okJ xs ls = false) := okJ_vec hok
    rw [hok] at hVK
    go_enter Tryz.func20, Tryz.ntmps20
    go_wp2_with fail
    refine hVK.mono ?_
    rintro e w1 ⟨rfl, hb1⟩
    go_wp2_with fail
    go_ret
    exact ⟨by rw [HJ0.out]; rfl, below_seq (below_alloc _ _) hb1⟩
  | true =>
    have h16 := (vecOK_get hok).1
    rw [hok] at hVK
    obtain ⟨gv, ov, rfl, hgv, hvc⟩ := hvc (by omega)
    rw [h16] at hVK ⊢
    by_cases hl : ls.length ≤ 256
    · have i0 : ¬ (256 : Int) < (ls.length : Int) := by omega
      have HVC : Hid (∀ k (hk : k < xs.length), w.cell? ⟨gv, ov + k, none⟩ = some (.int .i64 xs[k])) := fun k hk => hvc k _ (by simp [hk])
      have HOK : Hid (vecOK xs = true) := hok
      have H16 : Hid (xs.length = 16) := h16
      clear hvc hok h16
      obtain ⟨cv, hcv⟩ : ∃ cv, ca = cv := ⟨_, rfl⟩
      subst hcv
      go_enter Tryz.func20, Tryz.ntmps20
      go_wp2_with fail
      refine hVK.mono ?_
      rintro e w1 ⟨rfl, hb1⟩
      clear hVK
      go_wp2_with fail
      go_loopw [5] (fun ti wr => ∃ k : Nat, k ≤ ls.length ∧ ti = .int .i64 (k : Int) ∧ Hid (allOne xs ls k = true) ∧ Below (w.alloc (.cells #[.slice (some ⟨gv, ov, none⟩) 16 ca] 25)).heap.size (w.alloc (.cells #[.slice (some ⟨gv, ov, none⟩) 16 ca] 25)) wr) (fun ti _ => ls.length - (intOf ti).toNat)
      case atStart => exact ⟨0, Nat.zero_le _, rfl, rfl, hb1⟩
      case round =>
        clear hb1
        obtain ⟨k, hk, rfl, HA, hB⟩ := hrel
        have hBw := below_seq (below_alloc w _) hB
        have d0 := cell_made1 hB
        by_cases hlt : k < ls.length
        · obtain ⟨g, off, rfl, hg, hc⟩ := hE (by omega)
          obtain ⟨q0, q1, q2⟩ := hc k hlt
          rw [← hBw.cell (p := ⟨g, off + k * 3, none⟩) (by show g < _; omega)] at q0
          rw [← hBw.cell (p := ⟨g, off + (k * 3 + 1), none⟩) (by show g < _; omega)] at q1
          rw [← hBw.cell (p := ⟨g, off + (k * 3 + 2), none⟩) (by show g < _; omega)] at q2
          have j0 : (0 : Int) ≤ (k : Int) := by omega
          have j1 : (k : Int) < (ls.length : Int) := by omega
          have j2 : (k : Int) + 1 < 9223372036854775808 := by omega
          have HAX : Hid (okOne xs (prevS ls k) (enAt ls k) = true → allOne xs ls (k + 1) = true) := fun h => allOne_step HA.out h
          have HBD : Hid (okOne xs (prevS ls k) (enAt ls k) = false → okJ xs ls = false) := fun h => okJ_bad hlt h
          have HPV : Hid (∀ m, k = m + 1 → prevS ls k = ((enAt ls m).1, (enAt ls m).2.1)) := fun m h => by rw [h]; rfl
          have HP0 : Hid (k = 0 → prevS ls k = (0, 0)) := fun h => by rw [h]; rfl
          obtain ⟨t, a, s, hee⟩ : ∃ t a s, enAt ls k = (t, a, s) := ⟨_, _, _, rfl⟩
          rw [hee] at q0 q1 q2 HAX HBD
          replace q0 : wr.cell? ⟨g, off + k * 3, none⟩ = some (.int .i64 t) := q0
          replace q1 : wr.cell? ⟨g, off + k * 3 + 1, none⟩ = some (.int .i64 a) := q1
          replace q2 : wr.cell? ⟨g, off + k * 3 + 2, none⟩ = some (.string s) := q2
          clear hee HA
          go_upto_region 7 with fail
          have hB9 := (Below.refl (wr.alloc (.cells #[.int .i64 t, .int .i64 a, .string s] 60)).heap.size (wr.alloc (.cells #[.int .i64 t, .int .i64 a, .string s] 60))).drew
          have hO := fun w => specStampOK_any t a w
          have hone : ∀ p : Int × Int, okOne xs p (t, a, s) = ((stOK t a && decide (s.size ≤ 200)) && (lessS p.1 p.2 t a && decide (t ≤ xs.getD a.toNat 0))) := fun p => rfl
          have HONE : Hid _ := hone
          clear hone
          cases h1 : stOK t a with
          | false =>
            have HJ0 : Hid (okJ xs ls = false) := HBD.out (by rw [HONE.out, h1]; rfl)
            rw [h1] at hO
            clear h1 HAX HBD HONE q0 q1 q2 hc hE
            have HF : Hid (∀ wx, Below (wr.alloc (.cells #[.int .i64 t, .int .i64 a, .string s] 60)).heap.size (wr.alloc (.cells #[.int .i64 t, .int .i64 a, .string s] 60)) wx → wx.cell? ⟨wr.heap.size, 0, none⟩ = some (.int .i64 t) ∧ wx.cell? ⟨wr.heap.size, 1, none⟩ = some (.int .i64 a) ∧ wx.cell? ⟨wr.heap.size, 2, none⟩ = some (.string s) ∧ wx.cell? ⟨w.heap.size, 0, none⟩ = some (.slice (some ⟨gv, ov, none⟩) 16 ca) ∧ True ∧ True ∧ True) := fun wx h => by
              have h1 := three_cells h
              have h2 := below_seq (below_alloc wr (.cells #[.int .i64 t, .int .i64 a, .string s] 60)) h
              exact ⟨h1.1, h1.2.1, h1.2.2, cell_on h2 d0, trivial, trivial, trivial⟩
            refine wp_region_held_drew (S := fun w' => w'.cell? ⟨wr.heap.size, 0, none⟩ = some (.int .i64 t) ∧ w'.cell? ⟨wr.heap.size, 1, none⟩ = some (.int .i64 a) ∧ w'.cell? ⟨wr.heap.size, 2, none⟩ = some (.string s) ∧ w'.cell? ⟨w.heap.size, 0, none⟩ = some (.slice (some ⟨gv, ov, none⟩) 16 ca) ∧ True ∧ True ∧ True) (by kernel_rfl) (HF.out _ hB9) (fun hHeld => ?_)
            refine tkH 0 ((.pointer (some ⟨wr.heap.size, 0, none⟩))) rfl (Or.inl ⟨by rfl, by intro w hSw; obtain ⟨s0, s1, s2, s3, s4, s5, s6⟩ := hSw; go_simp⟩) hHeld ?_
            simp only [tkS, Act.put]
            refine tkH 1 ((.agg #[.int .i64 t, .int .i64 a])) rfl (Or.inl ⟨by rfl, by intro w hSw; obtain ⟨s0, s1, s2, s3, s4, s5, s6⟩ := hSw; go_simp⟩) hHeld ?_
            simp only [tkS, Act.put]
            refine wpAnyH_ready (rs := [2]) (by kernel_rfl) (by simp) ?_
            refine AllReadyH.cons rfl (fun K hK => ?_) AllReadyH.nil
            go_simp
            refine (hO _).mono ?_
            rintro e wn ⟨rfl, hbn⟩
            replace hB9 := below_seq hB9 hbn
            clear hbn
            go_wp2_with fail
            refine hK.out _ _ (HF.out _ hB9) (fun hHeld => ?_)
            clear hK K
            refine tkH 3 ((.bool true)) rfl (Or.inl ⟨by rfl, by intro w hSw; obtain ⟨s0, s1, s2, s3, s4, s5, s6⟩ := hSw; go_simp⟩) hHeld ?_
            simp only [tkS, Act.put]
            refine tkH 4 ((.bool true)) rfl (Or.inl ⟨by rfl, by intro w hSw; obtain ⟨s0, s1, s2, s3, s4, s5, s6⟩ := hSw; go_simp⟩) hHeld ?_
            simp only [tkS, Act.put]
            refine tkH 5 (undef) rfl (Or.inr ⟨by rfl, rfl⟩) hHeld ?_
            simp only [tkS, Act.put]
            refine tkH 6 (undef) rfl (Or.inr ⟨by rfl, rfl⟩) hHeld ?_
            simp only [tkS, Act.put]
            refine tkH 7 (undef) rfl (Or.inr ⟨by rfl, rfl⟩) hHeld ?_
            simp only [tkS, Act.put]
            refine tkH 8 (undef) rfl (Or.inr ⟨by rfl, rfl⟩) hHeld ?_
            simp only [tkS, Act.put]
            refine tkH 9 ((.bool true)) rfl (Or.inl ⟨by rfl, by intro w hSw; obtain ⟨s0, s1, s2, s3, s4, s5, s6⟩ := hSw; go_simp⟩) hHeld ?_
            simp only [tkS, Act.put]
            refine tkH 10 ((.bool true)) rfl (Or.inl ⟨by rfl, by intro w hSw; obtain ⟨s0, s1, s2, s3, s4, s5, s6⟩ := hSw; go_simp⟩) hHeld ?_
            simp only [tkS, Act.put]
            refine tkH 11 (undef) rfl (Or.inr ⟨by rfl, rfl⟩) hHeld ?_
            simp only [tkS, Act.put]
            refine tkH 12 (undef) rfl (Or.inr ⟨by rfl, rfl⟩) hHeld ?_
            simp only [tkS, Act.put]
            refine tkH 13 (undef) rfl (Or.inr ⟨by rfl, rfl⟩) hHeld ?_
            simp only [tkS, Act.put]
            refine tkH 14 (undef) rfl (Or.inr ⟨by rfl, rfl⟩) hHeld ?_
            simp only [tkS, Act.put]
            refine tkH 15 (undef) rfl (Or.inr ⟨by rfl, rfl⟩) hHeld ?_
            simp only [tkS, Act.put]
            refine tkH 16 (undef) rfl (Or.inr ⟨by rfl, rfl⟩) hHeld ?_
            simp only [tkS, Act.put]
            refine tkH 17 (undef) rfl (Or.inr ⟨by rfl, rfl⟩) hHeld ?_
            simp only [tkS, Act.put]
            refine tkH 18 (undef) rfl (Or.inr ⟨by rfl, rfl⟩) hHeld ?_
            simp only [tkS, Act.put]
            refine tkH 19 (undef) rfl (Or.inr ⟨by rfl, rfl⟩) hHeld ?_
            simp only [tkS, Act.put]
            refine tkH 20 (undef) rfl (Or.inr ⟨by rfl, rfl⟩) hHeld ?_
            simp only [tkS, Act.put]
            refine tkH 21 (undef) rfl (Or.inr ⟨by rfl, rfl⟩) hHeld ?_
            simp only [tkS, Act.put]
            refine tkH 22 ((.bool true)) rfl (Or.inl ⟨by rfl, by intro w hSw; obtain ⟨s0, s1, s2, s3, s4, s5, s6⟩ := hSw; go_simp⟩) hHeld ?_
            simp only [tkS, Act.put]
            refine tkH 23 ((.bool true)) rfl (Or.inl ⟨by rfl, by intro w hSw; obtain ⟨s0, s1, s2, s3, s4, s5, s6⟩ := hSw; go_simp⟩) hHeld ?_
            simp only [tkS, Act.put]
            refine tkH 24 (undef) rfl (Or.inr ⟨by rfl, rfl⟩) hHeld ?_
            simp only [tkS, Act.put]
            refine tkH 25 (undef) rfl (Or.inr ⟨by rfl, rfl⟩) hHeld ?_
            simp only [tkS, Act.put]
            refine tkH 26 (undef) rfl (Or.inr ⟨by rfl, rfl⟩) hHeld ?_
            simp only [tkS, Act.put]
            refine tkH 27 (undef) rfl (Or.inr ⟨by rfl, rfl⟩) hHeld ?_
            simp only [tkS, Act.put]
            refine tkH 28 (undef) rfl (Or.inr ⟨by rfl, rfl⟩) hHeld ?_
            simp only [tkS, Act.put]
            refine tkH 29 (undef) rfl (Or.inr ⟨by rfl, rfl⟩) hHeld ?_
            simp only [tkS, Act.put]
            refine tkH 30 (undef) rfl (Or.inr ⟨by rfl, rfl⟩) hHeld ?_
            simp only [tkS, Act.put]
            refine tkH 31 (undef) rfl (Or.inr ⟨by rfl, rfl⟩) hHeld ?_
            simp only [tkS, Act.put]
            refine tkH 32 (undef) rfl (Or.inr ⟨by rfl, rfl⟩) hHeld ?_
            simp only [tkS, Act.put]
            refine tkH 33 (undef) rfl (Or.inr ⟨by rfl, rfl⟩) hHeld ?_
            simp only [tkS, Act.put]
            refine tkH 34 (undef) rfl (Or.inr ⟨by rfl, rfl⟩) hHeld ?_
            simp only [tkS, Act.put]
            refine wpAnyH_ready (rs := [35]) (by kernel_rfl) (by simp) ?_
            refine AllReadyH.cons rfl (fun K hK => ?_) AllReadyH.nil
            go_simp
            refine hK.out _ _ (HF.out _ hB9) (fun hHeld => ?_)
            clear hK K
            refine tkH 36 (undef) rfl (Or.inr ⟨by rfl, rfl⟩) hHeld ?_
            simp only [tkS, Act.put]
            refine tkH 37 (undef) rfl (Or.inr ⟨by rfl, rfl⟩) hHeld ?_
            simp only [tkS, Act.put]
            refine tkH 38 ((.bool true)) rfl (Or.inl ⟨by rfl, by intro w hSw; obtain ⟨s0, s1, s2, s3, s4, s5, s6⟩ := hSw; go_simp⟩) hHeld ?_
            simp only [tkS, Act.put]
            refine wpAnyH_done (by kernel_rfl) ?_ _
            go_wp2_with fail
            go_ret
            exact ⟨by rw [HJ0.out]; rfl, below_seq hBw (below_seq (below_alloc wr (.cells #[.int .i64 t, .int .i64 a, .string s] 60)) hB9)⟩
          | true =>
            have hst : 1 ≤ t ∧ t ≤ 1000000000000 ∧ 0 ≤ a ∧ a < 16 := of_decide_eq_true h1
            rw [h1] at hO
            by_cases h2 : s.size ≤ 200
            · have z0 : ¬ (200 : Int) < (s.size : Int) := by omega
              obtain ⟨a', rfl⟩ : ∃ m : Nat, a = (m : Int) := ⟨a.toNat, by omega⟩
              have ha : a' < xs.length := by rw [H16.out]; omega
              have x0 := HVC.out a' ha
              rw [← hBw.cell (p := ⟨gv, ov + a', none⟩) (by show gv < _; omega)] at x0
              have hxa : xs.getD (a' : Int).toNat 0 = xs[a'] := by rw [Int.toNat_natCast]; simp [List.getD, ha]
              have b0 : (0 : Int) ≤ (a' : Int) := by omega
              have b1 : (a' : Int) < 16 := by omega
              have HXA : Hid _ := hxa
              obtain ⟨x, hx⟩ : ∃ x, xs[a'] = x := ⟨_, rfl⟩
              rw [hx] at HXA x0
              by_cases h3 : t ≤ x
              · have z1 : ¬ x < t := by omega
                by_cases hk0 : k = 0
                · subst hk0
                  have HAK : Hid (allOne xs ls 1 = true) := HAX.out (by rw [HP0.out rfl, HONE.out, h1, HXA.out, decide_eq_true h2, decide_eq_true h3]; show (true && true && (lessS 0 0 t (a' : Int) && true)) = true; rw [(lessS_iff 0 0 t (a' : Int)).2 (by omega)]; rfl)
                  clear h1 HAX HBD HONE HXA HPV HP0 q0 q1 q2 hc hE hx
                  have HF : Hid (∀ wx, Below (wr.alloc (.cells #[.int .i64 t, .int .i64 (a' : Int), .string s] 60)).heap.size (wr.alloc (.cells #[.int .i64 t, .int .i64 (a' : Int), .string s] 60)) wx → wx.cell? ⟨wr.heap.size, 0, none⟩ = some (.int .i64 t) ∧ wx.cell? ⟨wr.heap.size, 1, none⟩ = some (.int .i64 (a' : Int)) ∧ wx.cell? ⟨wr.heap.size, 2, none⟩ = some (.string s) ∧ wx.cell? ⟨w.heap.size, 0, none⟩ = some (.slice (some ⟨gv, ov, none⟩) 16 ca) ∧ wx.cell? ⟨gv, ov + a', none⟩ = some (.int .i64 x) ∧ True ∧ True) := fun wx h => by
                    have h1 := three_cells h
                    have h2 := below_seq (below_alloc wr (.cells #[.int .i64 t, .int .i64 (a' : Int), .string s] 60)) h
                    exact ⟨h1.1, h1.2.1, h1.2.2, cell_on h2 d0, cell_on h2 x0, trivial, trivial⟩
                  refine wp_region_held_drew (S := fun w' => w'.cell? ⟨wr.heap.size, 0, none⟩ = some (.int .i64 t) ∧ w'.cell? ⟨wr.heap.size, 1, none⟩ = some (.int .i64 (a' : Int)) ∧ w'.cell? ⟨wr.heap.size, 2, none⟩ = some (.string s) ∧ w'.cell? ⟨w.heap.size, 0, none⟩ = some (.slice (some ⟨gv, ov, none⟩) 16 ca) ∧ w'.cell? ⟨gv, ov + a', none⟩ = some (.int .i64 x) ∧ True ∧ True) (by kernel_rfl) (HF.out _ hB9) (fun hHeld => ?_)
                  refine tkH 0 ((.pointer (some ⟨wr.heap.size, 0, none⟩))) rfl (Or.inl ⟨by rfl, by intro w hSw; obtain ⟨s0, s1, s2, s3, s4, s5, s6⟩ := hSw; go_simp⟩) hHeld ?_
                  simp only [tkS, Act.put]
                  refine tkH 1 ((.agg #[.int .i64 t, .int .i64 (a' : Int)])) rfl (Or.inl ⟨by rfl, by intro w hSw; obtain ⟨s0, s1, s2, s3, s4, s5, s6⟩ := hSw; go_simp⟩) hHeld ?_
                  simp only [tkS, Act.put]
                  refine wpAnyH_ready (rs := [2]) (by kernel_rfl) (by simp) ?_
                  refine AllReadyH.cons rfl (fun K hK => ?_) AllReadyH.nil
                  go_simp
                  refine (hO _).mono ?_
                  rintro e wn ⟨rfl, hbn⟩
                  replace hB9 := below_seq hB9 hbn
                  clear hbn
                  go_wp2_with fail
                  refine hK.out _ _ (HF.out _ hB9) (fun hHeld => ?_)
                  clear hK K
                  refine tkH 3 ((.bool false)) rfl (Or.inl ⟨by rfl, by intro w hSw; obtain ⟨s0, s1, s2, s3, s4, s5, s6⟩ := hSw; go_simp⟩) hHeld ?_
                  simp only [tkS, Act.put]
                  refine tkH 4 ((.bool false)) rfl (Or.inl ⟨by rfl, by intro w hSw; obtain ⟨s0, s1, s2, s3, s4, s5, s6⟩ := hSw; go_simp⟩) hHeld ?_
                  simp only [tkS, Act.put]
                  refine tkH 5 ((.pointer (some ⟨wr.heap.size, 2, none⟩))) rfl (Or.inl ⟨by rfl, by intro w hSw; obtain ⟨s0, s1, s2, s3, s4, s5, s6⟩ := hSw; go_simp⟩) hHeld ?_
                  simp only [tkS, Act.put]
                  refine tkH 6 ((.string s)) rfl (Or.inl ⟨by rfl, by intro w hSw; obtain ⟨s0, s1, s2, s3, s4, s5, s6⟩ := hSw; go_simp⟩) hHeld ?_
                  simp only [tkS, Act.put]
                  refine tkH 7 ((.int .i64 (s.size : Int))) rfl (Or.inl ⟨by rfl, by intro w hSw; obtain ⟨s0, s1, s2, s3, s4, s5, s6⟩ := hSw; go_simp⟩) hHeld ?_
                  simp only [tkS, Act.put]
                  refine tkH 8 ((.bool false)) rfl (Or.inl ⟨by rfl, by intro w hSw; obtain ⟨s0, s1, s2, s3, s4, s5, s6⟩ := hSw; go_simp⟩) hHeld ?_
                  simp only [tkS, Act.put]
                  refine tkH 9 ((.bool false)) rfl (Or.inl ⟨by rfl, by intro w hSw; obtain ⟨s0, s1, s2, s3, s4, s5, s6⟩ := hSw; go_simp⟩) hHeld ?_
                  simp only [tkS, Act.put]
                  refine tkH 10 ((.bool false)) rfl (Or.inl ⟨by rfl, by intro w hSw; obtain ⟨s0, s1, s2, s3, s4, s5, s6⟩ := hSw; go_simp⟩) hHeld ?_
                  simp only [tkS, Act.put]
                  refine tkH 11 ((.pointer (some ⟨wr.heap.size, 0, none⟩))) rfl (Or.inl ⟨by rfl, by intro w hSw; obtain ⟨s0, s1, s2, s3, s4, s5, s6⟩ := hSw; go_simp⟩) hHeld ?_
                  simp only [tkS, Act.put]
                  refine tkH 12 ((.pointer (some ⟨wr.heap.size, 0, none⟩))) rfl (Or.inl ⟨by rfl, by intro w hSw; obtain ⟨s0, s1, s2, s3, s4, s5, s6⟩ := hSw; go_simp⟩) hHeld ?_
                  simp only [tkS, Act.put]
                  refine tkH 13 ((.int .i64 t)) rfl (Or.inl ⟨by rfl, by intro w hSw; obtain ⟨s0, s1, s2, s3, s4, s5, s6⟩ := hSw; go_simp⟩) hHeld ?_
                  simp only [tkS, Act.put]
                  refine tkH 14 ((.pointer (some ⟨w.heap.size, 0, none⟩))) rfl (Or.inl ⟨by rfl, by intro w hSw; obtain ⟨s0, s1, s2, s3, s4, s5, s6⟩ := hSw; go_simp⟩) hHeld ?_
                  simp only [tkS, Act.put]
                  refine tkH 15 ((.slice (some ⟨gv, ov, none⟩) 16 ca)) rfl (Or.inl ⟨by rfl, by intro w hSw; obtain ⟨s0, s1, s2, s3, s4, s5, s6⟩ := hSw; go_simp⟩) hHeld ?_
                  simp only [tkS, Act.put]
                  refine tkH 16 ((.pointer (some ⟨wr.heap.size, 0, none⟩))) rfl (Or.inl ⟨by rfl, by intro w hSw; obtain ⟨s0, s1, s2, s3, s4, s5, s6⟩ := hSw; go_simp⟩) hHeld ?_
                  simp only [tkS, Act.put]
                  refine tkH 17 ((.pointer (some ⟨wr.heap.size, 1, none⟩))) rfl (Or.inl ⟨by rfl, by intro w hSw; obtain ⟨s0, s1, s2, s3, s4, s5, s6⟩ := hSw; go_simp⟩) hHeld ?_
                  simp only [tkS, Act.put]
                  refine tkH 18 ((.int .i64 (a' : Int))) rfl (Or.inl ⟨by rfl, by intro w hSw; obtain ⟨s0, s1, s2, s3, s4, s5, s6⟩ := hSw; go_simp⟩) hHeld ?_
                  simp only [tkS, Act.put]
                  refine tkH 19 ((.pointer (some ⟨gv, ov + a', none⟩))) rfl (Or.inl ⟨by rfl, by intro w hSw; obtain ⟨s0, s1, s2, s3, s4, s5, s6⟩ := hSw; go_simp⟩) hHeld ?_
                  simp only [tkS, Act.put]
                  refine tkH 20 ((.int .i64 x)) rfl (Or.inl ⟨by rfl, by intro w hSw; obtain ⟨s0, s1, s2, s3, s4, s5, s6⟩ := hSw; go_simp⟩) hHeld ?_
                  simp only [tkS, Act.put]
                  refine tkH 21 ((.bool false)) rfl (Or.inl ⟨by rfl, by intro w hSw; obtain ⟨s0, s1, s2, s3, s4, s5, s6⟩ := hSw; go_simp⟩) hHeld ?_
                  simp only [tkS, Act.put]
                  refine tkH 22 ((.bool false)) rfl (Or.inl ⟨by rfl, by intro w hSw; obtain ⟨s0, s1, s2, s3, s4, s5, s6⟩ := hSw; go_simp⟩) hHeld ?_
                  simp only [tkS, Act.put]
                  refine tkH 23 ((.bool false)) rfl (Or.inl ⟨by rfl, by intro w hSw; obtain ⟨s0, s1, s2, s3, s4, s5, s6⟩ := hSw; go_simp⟩) hHeld ?_
                  simp only [tkS, Act.put]
                  refine tkH 24 ((.int .i64 0)) rfl (Or.inl ⟨by rfl, by intro w hSw; obtain ⟨s0, s1, s2, s3, s4, s5, s6⟩ := hSw; go_simp⟩) hHeld ?_
                  simp only [tkS, Act.put]
                  refine tkH 25 ((.bool false)) rfl (Or.inl ⟨by rfl, by intro w hSw; obtain ⟨s0, s1, s2, s3, s4, s5, s6⟩ := hSw; go_simp⟩) hHeld ?_
                  simp only [tkS, Act.put]
                  refine tkH 26 ((.bool false)) rfl (Or.inl ⟨by rfl, by intro w hSw; obtain ⟨s0, s1, s2, s3, s4, s5, s6⟩ := hSw; go_simp⟩) hHeld ?_
                  simp only [tkS, Act.put]
                  refine tkH 27 (undef) rfl (Or.inr ⟨by rfl, rfl⟩) hHeld ?_
                  simp only [tkS, Act.put]
                  refine tkH 28 (undef) rfl (Or.inr ⟨by rfl, rfl⟩) hHeld ?_
                  simp only [tkS, Act.put]
                  refine tkH 29 (undef) rfl (Or.inr ⟨by rfl, rfl⟩) hHeld ?_
                  simp only [tkS, Act.put]
                  refine tkH 30 (undef) rfl (Or.inr ⟨by rfl, rfl⟩) hHeld ?_
                  simp only [tkS, Act.put]
                  refine tkH 31 (undef) rfl (Or.inr ⟨by rfl, rfl⟩) hHeld ?_
                  simp only [tkS, Act.put]
                  refine tkH 32 (undef) rfl (Or.inr ⟨by rfl, rfl⟩) hHeld ?_
                  simp only [tkS, Act.put]
                  refine tkH 33 (undef) rfl (Or.inr ⟨by rfl, rfl⟩) hHeld ?_
                  simp only [tkS, Act.put]
                  refine tkH 34 (undef) rfl (Or.inr ⟨by rfl, rfl⟩) hHeld ?_
                  simp only [tkS, Act.put]
                  refine wpAnyH_ready (rs := [35]) (by kernel_rfl) (by simp) ?_
                  refine AllReadyH.cons rfl (fun K hK => ?_) AllReadyH.nil
                  go_simp
                  refine hK.out _ _ (HF.out _ hB9) (fun hHeld => ?_)
                  clear hK K
                  refine tkH 36 (undef) rfl (Or.inr ⟨by rfl, rfl⟩) hHeld ?_
                  simp only [tkS, Act.put]
                  refine tkH 37 ((.bool false)) rfl (Or.inl ⟨by rfl, by intro w hSw; obtain ⟨s0, s1, s2, s3, s4, s5, s6⟩ := hSw; go_simp⟩) hHeld ?_
                  simp only [tkS, Act.put]
                  refine tkH 38 ((.bool false)) rfl (Or.inl ⟨by rfl, by intro w hSw; obtain ⟨s0, s1, s2, s3, s4, s5, s6⟩ := hSw; go_simp⟩) hHeld ?_
                  simp only [tkS, Act.put]
                  refine wpAnyH_done (by kernel_rfl) ?_ _
                  have hBn := below_seq hB (below_seq (below_alloc wr (.cells #[.int .i64 t, .int .i64 (a' : Int), .string s] 60)) hB9)
                  go_wp2_with fail
                  go_roundw
                  case rel => exact ⟨1, by omega, by go_num, HAK, hBn⟩
                  case measure => simp [intOf]; omega
                · obtain ⟨m, rfl⟩ : ∃ m, k = m + 1 := ⟨k - 1, by omega⟩
                  obtain ⟨y0, y1, _⟩ := hc m (by omega)
                  rw [← hBw.cell (p := ⟨g, off + m * 3, none⟩) (by show g < _; omega)] at y0
                  rw [← hBw.cell (p := ⟨g, off + (m * 3 + 1), none⟩) (by show g < _; omega)] at y1
                  have hpv := HPV.out m rfl
                  obtain ⟨p1, p2, s', hpe⟩ : ∃ p1 p2 s', enAt ls m = (p1, p2, s') := ⟨_, _, _, rfl⟩
                  rw [hpe] at y0 y1 hpv
                  replace y0 : wr.cell? ⟨g, off + m * 3, none⟩ = some (.int .i64 p1) := y0
                  replace y1 : wr.cell? ⟨g, off + m * 3 + 1, none⟩ = some (.int .i64 p2) := y1
                  replace hpv : prevS ls (m + 1) = (p1, p2) := hpv
                  have hsub : ((m + 1 : Nat) : Int) - 1 = (m : Int) := by omega
                  have hpos : (0 : Int) < ((m + 1 : Nat) : Int) := by omega
                  have hm1 : (m : Int) < (ls.length : Int) := by omega
                  have hm2 : (m : Int) < 9223372036854775808 := by omega
                  have hm3 : -9223372036854775808 ≤ (m : Int) := by omega
                  have hm4 : (0 : Int) ≤ (m : Int) := by omega
                  have hm5 : m < ls.length := by omega
                  have hm6 : IntKind.i64.wrap (m : Int) = (m : Int) := wrap_in hm3 hm2
                  have hL := fun w => specStampLess_any p1 p2 t (a' : Int) w
                  cases h4 : lessS p1 p2 t (a' : Int) with
                  | true =>
                    have HAK : Hid (allOne xs ls (m + 1 + 1) = true) := HAX.out (by rw [hpv, HONE.out, h1, HXA.out, decide_eq_true h2, decide_eq_true h3, h4]; rfl)
                    rw [h4] at hL
                    clear h1 h4 HAX HBD HONE HXA HPV HP0 q0 q1 q2 hc hE hx hpv hpe
                    have HF : Hid (∀ wx, Below (wr.alloc (.cells #[.int .i64 t, .int .i64 (a' : Int), .string s] 60)).heap.size (wr.alloc (.cells #[.int .i64 t, .int .i64 (a' : Int), .string s] 60)) wx → wx.cell? ⟨wr.heap.size, 0, none⟩ = some (.int .i64 t) ∧ wx.cell? ⟨wr.heap.size, 1, none⟩ = some (.int .i64 (a' : Int)) ∧ wx.cell? ⟨wr.heap.size, 2, none⟩ = some (.string s) ∧ wx.cell? ⟨w.heap.size, 0, none⟩ = some (.slice (some ⟨gv, ov, none⟩) 16 ca) ∧ wx.cell? ⟨gv, ov + a', none⟩ = some (.int .i64 x) ∧ wx.cell? ⟨g, off + m * 3, none⟩ = some (.int .i64 p1) ∧ wx.cell? ⟨g, off + m * 3 + 1, none⟩ = some (.int .i64 p2)) := fun wx h => by
                      have h1 := three_cells h
                      have h2 := below_seq (below_alloc wr (.cells #[.int .i64 t, .int .i64 (a' : Int), .string s] 60)) h
                      exact ⟨h1.1, h1.2.1, h1.2.2, cell_on h2 d0, cell_on h2 x0, cell_on h2 y0, cell_on h2 y1⟩
                    refine wp_region_held_drew (S := fun w' => w'.cell? ⟨wr.heap.size, 0, none⟩ = some (.int .i64 t) ∧ w'.cell? ⟨wr.heap.size, 1, none⟩ = some (.int .i64 (a' : Int)) ∧ w'.cell? ⟨wr.heap.size, 2, none⟩ = some (.string s) ∧ w'.cell? ⟨w.heap.size, 0, none⟩ = some (.slice (some ⟨gv, ov, none⟩) 16 ca) ∧ w'.cell? ⟨gv, ov + a', none⟩ = some (.int .i64 x) ∧ w'.cell? ⟨g, off + m * 3, none⟩ = some (.int .i64 p1) ∧ w'.cell? ⟨g, off + m * 3 + 1, none⟩ = some (.int .i64 p2)) (by kernel_rfl) (HF.out _ hB9) (fun hHeld => ?_)
                    refine tkH 0 ((.pointer (some ⟨wr.heap.size, 0, none⟩))) rfl (Or.inl ⟨by rfl, by intro w hSw; obtain ⟨s0, s1, s2, s3, s4, s5, s6⟩ := hSw; go_simp⟩) hHeld ?_
                    simp only [tkS, Act.put]
                    refine tkH 1 ((.agg #[.int .i64 t, .int .i64 (a' : Int)])) rfl (Or.inl ⟨by rfl, by intro w hSw; obtain ⟨s0, s1, s2, s3, s4, s5, s6⟩ := hSw; go_simp⟩) hHeld ?_
                    simp only [tkS, Act.put]
                    refine wpAnyH_ready (rs := [2]) (by kernel_rfl) (by simp) ?_
                    refine AllReadyH.cons rfl (fun K hK => ?_) AllReadyH.nil
                    go_simp
                    refine (hO _).mono ?_
                    rintro e wn ⟨rfl, hbn⟩
                    replace hB9 := below_seq hB9 hbn
                    clear hbn
                    go_wp2_with fail
                    refine hK.out _ _ (HF.out _ hB9) (fun hHeld => ?_)
                    clear hK K
                    refine tkH 3 ((.bool false)) rfl (Or.inl ⟨by rfl, by intro w hSw; obtain ⟨s0, s1, s2, s3, s4, s5, s6⟩ := hSw; go_simp⟩) hHeld ?_
                    simp only [tkS, Act.put]
                    refine tkH 4 ((.bool false)) rfl (Or.inl ⟨by rfl, by intro w hSw; obtain ⟨s0, s1, s2, s3, s4, s5, s6⟩ := hSw; go_simp⟩) hHeld ?_
                    simp only [tkS, Act.put]
                    refine tkH 5 ((.pointer (some ⟨wr.heap.size, 2, none⟩))) rfl (Or.inl ⟨by rfl, by intro w hSw; obtain ⟨s0, s1, s2, s3, s4, s5, s6⟩ := hSw; go_simp⟩) hHeld ?_
                    simp only [tkS, Act.put]
                    refine tkH 6 ((.string s)) rfl (Or.inl ⟨by rfl, by intro w hSw; obtain ⟨s0, s1, s2, s3, s4, s5, s6⟩ := hSw; go_simp⟩) hHeld ?_
                    simp only [tkS, Act.put]
                    refine tkH 7 ((.int .i64 (s.size : Int))) rfl (Or.inl ⟨by rfl, by intro w hSw; obtain ⟨s0, s1, s2, s3, s4, s5, s6⟩ := hSw; go_simp⟩) hHeld ?_
                    simp only [tkS, Act.put]
                    refine tkH 8 ((.bool false)) rfl (Or.inl ⟨by rfl, by intro w hSw; obtain ⟨s0, s1, s2, s3, s4, s5, s6⟩ := hSw; go_simp⟩) hHeld ?_
                    simp only [tkS, Act.put]
                    refine tkH 9 ((.bool false)) rfl (Or.inl ⟨by rfl, by intro w hSw; obtain ⟨s0, s1, s2, s3, s4, s5, s6⟩ := hSw; go_simp⟩) hHeld ?_
                    simp only [tkS, Act.put]
                    refine tkH 10 ((.bool false)) rfl (Or.inl ⟨by rfl, by intro w hSw; obtain ⟨s0, s1, s2, s3, s4, s5, s6⟩ := hSw; go_simp⟩) hHeld ?_
                    simp only [tkS, Act.put]
                    refine tkH 11 ((.pointer (some ⟨wr.heap.size, 0, none⟩))) rfl (Or.inl ⟨by rfl, by intro w hSw; obtain ⟨s0, s1, s2, s3, s4, s5, s6⟩ := hSw; go_simp⟩) hHeld ?_
                    simp only [tkS, Act.put]
                    refine tkH 12 ((.pointer (some ⟨wr.heap.size, 0, none⟩))) rfl (Or.inl ⟨by rfl, by intro w hSw; obtain ⟨s0, s1, s2, s3, s4, s5, s6⟩ := hSw; go_simp⟩) hHeld ?_
                    simp only [tkS, Act.put]
                    refine tkH 13 ((.int .i64 t)) rfl (Or.inl ⟨by rfl, by intro w hSw; obtain ⟨s0, s1, s2, s3, s4, s5, s6⟩ := hSw; go_simp⟩) hHeld ?_
                    simp only [tkS, Act.put]
                    refine tkH 14 ((.pointer (some ⟨w.heap.size, 0, none⟩))) rfl (Or.inl ⟨by rfl, by intro w hSw; obtain ⟨s0, s1, s2, s3, s4, s5, s6⟩ := hSw; go_simp⟩) hHeld ?_
                    simp only [tkS, Act.put]
                    refine tkH 15 ((.slice (some ⟨gv, ov, none⟩) 16 ca)) rfl (Or.inl ⟨by rfl, by intro w hSw; obtain ⟨s0, s1, s2, s3, s4, s5, s6⟩ := hSw; go_simp⟩) hHeld ?_
                    simp only [tkS, Act.put]
                    refine tkH 16 ((.pointer (some ⟨wr.heap.size, 0, none⟩))) rfl (Or.inl ⟨by rfl, by intro w hSw; obtain ⟨s0, s1, s2, s3, s4, s5, s6⟩ := hSw; go_simp⟩) hHeld ?_
                    simp only [tkS, Act.put]
                    refine tkH 17 ((.pointer (some ⟨wr.heap.size, 1, none⟩))) rfl (Or.inl ⟨by rfl, by intro w hSw; obtain ⟨s0, s1, s2, s3, s4, s5, s6⟩ := hSw; go_simp⟩) hHeld ?_
                    simp only [tkS, Act.put]
                    refine tkH 18 ((.int .i64 (a' : Int))) rfl (Or.inl ⟨by rfl, by intro w hSw; obtain ⟨s0, s1, s2, s3, s4, s5, s6⟩ := hSw; go_simp⟩) hHeld ?_
                    simp only [tkS, Act.put]
                    refine tkH 19 ((.pointer (some ⟨gv, ov + a', none⟩))) rfl (Or.inl ⟨by rfl, by intro w hSw; obtain ⟨s0, s1, s2, s3, s4, s5, s6⟩ := hSw; go_simp⟩) hHeld ?_
                    simp only [tkS, Act.put]
                    refine tkH 20 ((.int .i64 x)) rfl (Or.inl ⟨by rfl, by intro w hSw; obtain ⟨s0, s1, s2, s3, s4, s5, s6⟩ := hSw; go_simp⟩) hHeld ?_
                    simp only [tkS, Act.put]
                    refine tkH 21 ((.bool false)) rfl (Or.inl ⟨by rfl, by intro w hSw; obtain ⟨s0, s1, s2, s3, s4, s5, s6⟩ := hSw; go_simp⟩) hHeld ?_
                    simp only [tkS, Act.put]
                    refine tkH 22 ((.bool false)) rfl (Or.inl ⟨by rfl, by intro w hSw; obtain ⟨s0, s1, s2, s3, s4, s5, s6⟩ := hSw; go_simp⟩) hHeld ?_
                    simp only [tkS, Act.put]
                    refine tkH 23 ((.bool false)) rfl (Or.inl ⟨by rfl, by intro w hSw; obtain ⟨s0, s1, s2, s3, s4, s5, s6⟩ := hSw; go_simp⟩) hHeld ?_
                    simp only [tkS, Act.put]
                    refine tkH 24 ((.int .i64 ((m + 1 : Nat) : Int))) rfl (Or.inl ⟨by rfl, by intro w hSw; obtain ⟨s0, s1, s2, s3, s4, s5, s6⟩ := hSw; go_simp⟩) hHeld ?_
                    simp only [tkS, Act.put]
                    refine tkH 25 ((.bool true)) rfl (Or.inl ⟨by rfl, by intro w hSw; obtain ⟨s0, s1, s2, s3, s4, s5, s6⟩ := hSw; go_simp⟩) hHeld ?_
                    simp only [tkS, Act.put]
                    refine tkH 26 ((.bool true)) rfl (Or.inl ⟨by rfl, by intro w hSw; obtain ⟨s0, s1, s2, s3, s4, s5, s6⟩ := hSw; go_simp⟩) hHeld ?_
                    simp only [tkS, Act.put]
                    refine tkH 27 ((.slice (some ⟨g, off, none⟩) ls.length ec)) rfl (Or.inl ⟨by rfl, by intro w hSw; obtain ⟨s0, s1, s2, s3, s4, s5, s6⟩ := hSw; go_simp⟩) hHeld ?_
                    simp only [tkS, Act.put]
                    refine tkH 28 ((.int .i64 ((m + 1 : Nat) : Int))) rfl (Or.inl ⟨by rfl, by intro w hSw; obtain ⟨s0, s1, s2, s3, s4, s5, s6⟩ := hSw; go_simp⟩) hHeld ?_
                    simp only [tkS, Act.put]
                    refine tkH 29 ((.int .i64 (m : Int))) rfl (Or.inl ⟨by rfl, by intro w hSw; obtain ⟨s0, s1, s2, s3, s4, s5, s6⟩ := hSw; go_simp⟩) hHeld ?_
                    simp only [tkS, Act.put]
                    refine tkH 30 ((.pointer (some ⟨g, off + m * 3, none⟩))) rfl (Or.inl ⟨by rfl, by intro w hSw; obtain ⟨s0, s1, s2, s3, s4, s5, s6⟩ := hSw; go_simp⟩) hHeld ?_
                    simp only [tkS, Act.put]
                    refine tkH 31 ((.pointer (some ⟨g, off + m * 3, none⟩))) rfl (Or.inl ⟨by rfl, by intro w hSw; obtain ⟨s0, s1, s2, s3, s4, s5, s6⟩ := hSw; go_simp⟩) hHeld ?_
                    simp only [tkS, Act.put]
                    refine tkH 32 ((.agg #[.int .i64 p1, .int .i64 p2])) rfl (Or.inl ⟨by rfl, by intro w hSw; obtain ⟨s0, s1, s2, s3, s4, s5, s6⟩ := hSw; go_simp⟩) hHeld ?_
                    simp only [tkS, Act.put]
                    refine tkH 33 ((.pointer (some ⟨wr.heap.size, 0, none⟩))) rfl (Or.inl ⟨by rfl, by intro w hSw; obtain ⟨s0, s1, s2, s3, s4, s5, s6⟩ := hSw; go_simp⟩) hHeld ?_
                    simp only [tkS, Act.put]
                    refine tkH 34 ((.agg #[.int .i64 t, .int .i64 (a' : Int)])) rfl (Or.inl ⟨by rfl, by intro w hSw; obtain ⟨s0, s1, s2, s3, s4, s5, s6⟩ := hSw; go_simp⟩) hHeld ?_
                    simp only [tkS, Act.put]
                    refine wpAnyH_ready (rs := [35]) (by kernel_rfl) (by simp) ?_
                    refine AllReadyH.cons rfl (fun K hK => ?_) AllReadyH.nil
                    go_simp
                    refine (hL _).mono ?_
                    rintro e wn ⟨rfl, hbn⟩
                    replace hB9 := below_seq hB9 hbn
                    clear hbn
                    go_wp2_with fail
                    refine hK.out _ _ (HF.out _ hB9) (fun hHeld => ?_)
                    clear hK K
                    refine tkH 36 ((.bool false)) rfl (Or.inl ⟨by rfl, by intro w hSw; obtain ⟨s0, s1, s2, s3, s4, s5, s6⟩ := hSw; go_simp⟩) hHeld ?_
                    simp only [tkS, Act.put]
                    refine tkH 37 ((.bool false)) rfl (Or.inl ⟨by rfl, by intro w hSw; obtain ⟨s0, s1, s2, s3, s4, s5, s6⟩ := hSw; go_simp⟩) hHeld ?_
                    simp only [tkS, Act.put]
                    refine tkH 38 ((.bool false)) rfl (Or.inl ⟨by rfl, by intro w hSw; obtain ⟨s0, s1, s2, s3, s4, s5, s6⟩ := hSw; go_simp⟩) hHeld ?_
                    simp only [tkS, Act.put]
                    refine wpAnyH_done (by kernel_rfl) ?_ _
                    have hBn := below_seq hB (below_seq (below_alloc wr (.cells #[.int .i64 t, .int .i64 (a' : Int), .string s] 60)) hB9)
                    go_wp2_with fail
                    go_roundw
                    case rel => exact ⟨m + 1 + 1, by omega, by go_num, HAK, hBn⟩
                    case measure => simp [intOf]; omega
                  | false =>
                    have HJ0 : Hid (okJ xs ls = false) := HBD.out (by rw [hpv, HONE.out, h1, HXA.out, decide_eq_true h2, decide_eq_true h3, h4]; rfl)
                    rw [h4] at hL
                    clear h1 h4 HAX HBD HONE HXA HPV HP0 q0 q1 q2 hc hE hx hpv hpe
                    have HF : Hid (∀ wx, Below (wr.alloc (.cells #[.int .i64 t, .int .i64 (a' : Int), .string s] 60)).heap.size (wr.alloc (.cells #[.int .i64 t, .int .i64 (a' : Int), .string s] 60)) wx → wx.cell? ⟨wr.heap.size, 0, none⟩ = some (.int .i64 t) ∧ wx.cell? ⟨wr.heap.size, 1, none⟩ = some (.int .i64 (a' : Int)) ∧ wx.cell? ⟨wr.heap.size, 2, none⟩ = some (.string s) ∧ wx.cell? ⟨w.heap.size, 0, none⟩ = some (.slice (some ⟨gv, ov, none⟩) 16 ca) ∧ wx.cell? ⟨gv, ov + a', none⟩ = some (.int .i64 x) ∧ wx.cell? ⟨g, off + m * 3, none⟩ = some (.int .i64 p1) ∧ wx.cell? ⟨g, off + m * 3 + 1, none⟩ = some (.int .i64 p2)) := fun wx h => by
                      have h1 := three_cells h
                      have h2 := below_seq (below_alloc wr (.cells #[.int .i64 t, .int .i64 (a' : Int), .string s] 60)) h
                      exact ⟨h1.1, h1.2.1, h1.2.2, cell_on h2 d0, cell_on h2 x0, cell_on h2 y0, cell_on h2 y1⟩
                    refine wp_region_held_drew (S := fun w' => w'.cell? ⟨wr.heap.size, 0, none⟩ = some (.int .i64 t) ∧ w'.cell? ⟨wr.heap.size, 1, none⟩ = some (.int .i64 (a' : Int)) ∧ w'.cell? ⟨wr.heap.size, 2, none⟩ = some (.string s) ∧ w'.cell? ⟨w.heap.size, 0, none⟩ = some (.slice (some ⟨gv, ov, none⟩) 16 ca) ∧ w'.cell? ⟨gv, ov + a', none⟩ = some (.int .i64 x) ∧ w'.cell? ⟨g, off + m * 3, none⟩ = some (.int .i64 p1) ∧ w'.cell? ⟨g, off + m * 3 + 1, none⟩ = some (.int .i64 p2)) (by kernel_rfl) (HF.out _ hB9) (fun hHeld => ?_)
                    refine tkH 0 ((.pointer (some ⟨wr.heap.size, 0, none⟩))) rfl (Or.inl ⟨by rfl, by intro w hSw; obtain ⟨s0, s1, s2, s3, s4, s5, s6⟩ := hSw; go_simp⟩) hHeld ?_
                    simp only [tkS, Act.put]
                    refine tkH 1 ((.agg #[.int .i64 t, .int .i64 (a' : Int)])) rfl (Or.inl ⟨by rfl, by intro w hSw; obtain ⟨s0, s1, s2, s3, s4, s5, s6⟩ := hSw; go_simp⟩) hHeld ?_
                    simp only [tkS, Act.put]
                    refine wpAnyH_ready (rs := [2]) (by kernel_rfl) (by simp) ?_
                    refine AllReadyH.cons rfl (fun K hK => ?_) AllReadyH.nil
                    go_simp
                    refine (hO _).mono ?_
                    rintro e wn ⟨rfl, hbn⟩
                    replace hB9 := below_seq hB9 hbn
                    clear hbn
                    go_wp2_with fail
                    refine hK.out _ _ (HF.out _ hB9) (fun hHeld => ?_)
                    clear hK K
                    refine tkH 3 ((.bool false)) rfl (Or.inl ⟨by rfl, by intro w hSw; obtain ⟨s0, s1, s2, s3, s4, s5, s6⟩ := hSw; go_simp⟩) hHeld ?_
                    simp only [tkS, Act.put]
                    refine tkH 4 ((.bool false)) rfl (Or.inl ⟨by rfl, by intro w hSw; obtain ⟨s0, s1, s2, s3, s4, s5, s6⟩ := hSw; go_simp⟩) hHeld ?_
                    simp only [tkS, Act.put]
                    refine tkH 5 ((.pointer (some ⟨wr.heap.size, 2, none⟩))) rfl (Or.inl ⟨by rfl, by intro w hSw; obtain ⟨s0, s1, s2, s3, s4, s5, s6⟩ := hSw; go_simp⟩) hHeld ?_
                    simp only [tkS, Act.put]
                    refine tkH 6 ((.string s)) rfl (Or.inl ⟨by rfl, by intro w hSw; obtain ⟨s0, s1, s2, s3, s4, s5, s6⟩ := hSw; go_simp⟩) hHeld ?_
                    simp only [tkS, Act.put]
                    refine tkH 7 ((.int .i64 (s.size : Int))) rfl (Or.inl ⟨by rfl, by intro w hSw; obtain ⟨s0, s1, s2, s3, s4, s5, s6⟩ := hSw; go_simp⟩) hHeld ?_
                    simp only [tkS, Act.put]
                    refine tkH 8 ((.bool false)) rfl (Or.inl ⟨by rfl, by intro w hSw; obtain ⟨s0, s1, s2, s3, s4, s5, s6⟩ := hSw; go_simp⟩) hHeld ?_
                    simp only [tkS, Act.put]
                    refine tkH 9 ((.bool false)) rfl (Or.inl ⟨by rfl, by intro w hSw; obtain ⟨s0, s1, s2, s3, s4, s5, s6⟩ := hSw; go_simp⟩) hHeld ?_
                    simp only [tkS, Act.put]
                    refine tkH 10 ((.bool false)) rfl (Or.inl ⟨by rfl, by intro w hSw; obtain ⟨s0, s1, s2, s3, s4, s5, s6⟩ := hSw; go_simp⟩) hHeld ?_
                    simp only [tkS, Act.put]
                    refine tkH 11 ((.pointer (some ⟨wr.heap.size, 0, none⟩))) rfl (Or.inl ⟨by rfl, by intro w hSw; obtain ⟨s0, s1, s2, s3, s4, s5, s6⟩ := hSw; go_simp⟩) hHeld ?_
                    simp only [tkS, Act.put]
                    refine tkH 12 ((.pointer (some ⟨wr.heap.size, 0, none⟩))) rfl (Or.inl ⟨by rfl, by intro w hSw; obtain ⟨s0, s1, s2, s3, s4, s5, s6⟩ := hSw; go_simp⟩) hHeld ?_
                    simp only [tkS, Act.put]
                    refine tkH 13 ((.int .i64 t)) rfl (Or.inl ⟨by rfl, by intro w hSw; obtain ⟨s0, s1, s2, s3, s4, s5, s6⟩ := hSw; go_simp⟩) hHeld ?_
                    simp only [tkS, Act.put]
                    refine tkH 14 ((.pointer (some ⟨w.heap.size, 0, none⟩))) rfl (Or.inl ⟨by rfl, by intro w hSw; obtain ⟨s0, s1, s2, s3, s4, s5, s6⟩ := hSw; go_simp⟩) hHeld ?_
                    simp only [tkS, Act.put]
                    refine tkH 15 ((.slice (some ⟨gv, ov, none⟩) 16 ca)) rfl (Or.inl ⟨by rfl, by intro w hSw; obtain ⟨s0, s1, s2, s3, s4, s5, s6⟩ := hSw; go_simp⟩) hHeld ?_
                    simp only [tkS, Act.put]
                    refine tkH 16 ((.pointer (some ⟨wr.heap.size, 0, none⟩))) rfl (Or.inl ⟨by rfl, by intro w hSw; obtain ⟨s0, s1, s2, s3, s4, s5, s6⟩ := hSw; go_simp⟩) hHeld ?_
                    simp only [tkS, Act.put]
                    refine tkH 17 ((.pointer (some ⟨wr.heap.size, 1, none⟩))) rfl (Or.inl ⟨by rfl, by intro w hSw; obtain ⟨s0, s1, s2, s3, s4, s5, s6⟩ := hSw; go_simp⟩) hHeld ?_
                    simp only [tkS, Act.put]
                    refine tkH 18 ((.int .i64 (a' : Int))) rfl (Or.inl ⟨by rfl, by intro w hSw; obtain ⟨s0, s1, s2, s3, s4, s5, s6⟩ := hSw; go_simp⟩) hHeld ?_
                    simp only [tkS, Act.put]
                    refine tkH 19 ((.pointer (some ⟨gv, ov + a', none⟩))) rfl (Or.inl ⟨by rfl, by intro w hSw; obtain ⟨s0, s1, s2, s3, s4, s5, s6⟩ := hSw; go_simp⟩) hHeld ?_
                    simp only [tkS, Act.put]
                    refine tkH 20 ((.int .i64 x)) rfl (Or.inl ⟨by rfl, by intro w hSw; obtain ⟨s0, s1, s2, s3, s4, s5, s6⟩ := hSw; go_simp⟩) hHeld ?_
                    simp only [tkS, Act.put]
                    refine tkH 21 ((.bool false)) rfl (Or.inl ⟨by rfl, by intro w hSw; obtain ⟨s0, s1, s2, s3, s4, s5, s6⟩ := hSw; go_simp⟩) hHeld ?_
                    simp only [tkS, Act.put]
                    refine tkH 22 ((.bool false)) rfl (Or.inl ⟨by rfl, by intro w hSw; obtain ⟨s0, s1, s2, s3, s4, s5, s6⟩ := hSw; go_simp⟩) hHeld ?_
                    simp only [tkS, Act.put]
                    refine tkH 23 ((.bool false)) rfl (Or.inl ⟨by rfl, by intro w hSw; obtain ⟨s0, s1, s2, s3, s4, s5, s6⟩ := hSw; go_simp⟩) hHeld ?_
                    simp only [tkS, Act.put]
                    refine tkH 24 ((.int .i64 ((m + 1 : Nat) : Int))) rfl (Or.inl ⟨by rfl, by intro w hSw; obtain ⟨s0, s1, s2, s3, s4, s5, s6⟩ := hSw; go_simp⟩) hHeld ?_
                    simp only [tkS, Act.put]
                    refine tkH 25 ((.bool true)) rfl (Or.inl ⟨by rfl, by intro w hSw; obtain ⟨s0, s1, s2, s3, s4, s5, s6⟩ := hSw; go_simp⟩) hHeld ?_
                    simp only [tkS, Act.put]
                    refine tkH 26 ((.bool true)) rfl (Or.inl ⟨by rfl, by intro w hSw; obtain ⟨s0, s1, s2, s3, s4, s5, s6⟩ := hSw; go_simp⟩) hHeld ?_
                    simp only [tkS, Act.put]
                    refine tkH 27 ((.slice (some ⟨g, off, none⟩) ls.length ec)) rfl (Or.inl ⟨by rfl, by intro w hSw; obtain ⟨s0, s1, s2, s3, s4, s5, s6⟩ := hSw; go_simp⟩) hHeld ?_
                    simp only [tkS, Act.put]
                    refine tkH 28 ((.int .i64 ((m + 1 : Nat) : Int))) rfl (Or.inl ⟨by rfl, by intro w hSw; obtain ⟨s0, s1, s2, s3, s4, s5, s6⟩ := hSw; go_simp⟩) hHeld ?_
                    simp only [tkS, Act.put]
                    refine tkH 29 ((.int .i64 (m : Int))) rfl (Or.inl ⟨by rfl, by intro w hSw; obtain ⟨s0, s1, s2, s3, s4, s5, s6⟩ := hSw; go_simp⟩) hHeld ?_
                    simp only [tkS, Act.put]
                    refine tkH 30 ((.pointer (some ⟨g, off + m * 3, none⟩))) rfl (Or.inl ⟨by rfl, by intro w hSw; obtain ⟨s0, s1, s2, s3, s4, s5, s6⟩ := hSw; go_simp⟩) hHeld ?_
                    simp only [tkS, Act.put]
                    refine tkH 31 ((.pointer (some ⟨g, off + m * 3, none⟩))) rfl (Or.inl ⟨by rfl, by intro w hSw; obtain ⟨s0, s1, s2, s3, s4, s5, s6⟩ := hSw; go_simp⟩) hHeld ?_
                    simp only [tkS, Act.put]
                    refine tkH 32 ((.agg #[.int .i64 p1, .int .i64 p2])) rfl (Or.inl ⟨by rfl, by intro w hSw; obtain ⟨s0, s1, s2, s3, s4, s5, s6⟩ := hSw; go_simp⟩) hHeld ?_
                    simp only [tkS, Act.put]
                    refine tkH 33 ((.pointer (some ⟨wr.heap.size, 0, none⟩))) rfl (Or.inl ⟨by rfl, by intro w hSw; obtain ⟨s0, s1, s2, s3, s4, s5, s6⟩ := hSw; go_simp⟩) hHeld ?_
                    simp only [tkS, Act.put]
                    refine tkH 34 ((.agg #[.int .i64 t, .int .i64 (a' : Int)])) rfl (Or.inl ⟨by rfl, by intro w hSw; obtain ⟨s0, s1, s2, s3, s4, s5, s6⟩ := hSw; go_simp⟩) hHeld ?_
                    simp only [tkS, Act.put]
                    refine wpAnyH_ready (rs := [35]) (by kernel_rfl) (by simp) ?_
                    refine AllReadyH.cons rfl (fun K hK => ?_) AllReadyH.nil
                    go_simp
                    refine (hL _).mono ?_
                    rintro e wn ⟨rfl, hbn⟩
                    replace hB9 := below_seq hB9 hbn
                    clear hbn
                    go_wp2_with fail
                    refine hK.out _ _ (HF.out _ hB9) (fun hHeld => ?_)
                    clear hK K
                    refine tkH 36 ((.bool true)) rfl (Or.inl ⟨by rfl, by intro w hSw; obtain ⟨s0, s1, s2, s3, s4, s5, s6⟩ := hSw; go_simp⟩) hHeld ?_
                    simp only [tkS, Act.put]
                    refine tkH 37 ((.bool true)) rfl (Or.inl ⟨by rfl, by intro w hSw; obtain ⟨s0, s1, s2, s3, s4, s5, s6⟩ := hSw; go_simp⟩) hHeld ?_
                    simp only [tkS, Act.put]
                    refine tkH 38 ((.bool true)) rfl (Or.inl ⟨by rfl, by intro w hSw; obtain ⟨s0, s1, s2, s3, s4, s5, s6⟩ := hSw; go_simp⟩) hHeld ?_
                    simp only [tkS, Act.put]
                    refine wpAnyH_done (by kernel_rfl) ?_ _
                    go_wp2_with fail
                    go_ret
                    exact ⟨by rw [HJ0.out]; rfl, below_seq hBw (below_seq (below_alloc wr (.cells #[.int .i64 t, .int .i64 (a' : Int), .string s] 60)) hB9)⟩
              · have z1 : x < t := by omega
                have HJ0 : Hid (okJ xs ls = false) := HBD.out (by rw [HONE.out, h1, HXA.out, decide_eq_false h3, Bool.and_false, Bool.and_false])
                clear h1 HAX HBD HONE HXA HPV HP0 q0 q1 q2 hc hE hx
                have HF : Hid (∀ wx, Below (wr.alloc (.cells #[.int .i64 t, .int .i64 (a' : Int), .string s] 60)).heap.size (wr.alloc (.cells #[.int .i64 t, .int .i64 (a' : Int), .string s] 60)) wx → wx.cell? ⟨wr.heap.size, 0, none⟩ = some (.int .i64 t) ∧ wx.cell? ⟨wr.heap.size, 1, none⟩ = some (.int .i64 (a' : Int)) ∧ wx.cell? ⟨wr.heap.size, 2, none⟩ = some (.string s) ∧ wx.cell? ⟨w.heap.size, 0, none⟩ = some (.slice (some ⟨gv, ov, none⟩) 16 ca) ∧ wx.cell? ⟨gv, ov + a', none⟩ = some (.int .i64 x) ∧ True ∧ True) := fun wx h => by
                  have h1 := three_cells h
                  have h2 := below_seq (below_alloc wr (.cells #[.int .i64 t, .int .i64 (a' : Int), .string s] 60)) h
                  exact ⟨h1.1, h1.2.1, h1.2.2, cell_on h2 d0, cell_on h2 x0, trivial, trivial⟩
                refine wp_region_held_drew (S := fun w' => w'.cell? ⟨wr.heap.size, 0, none⟩ = some (.int .i64 t) ∧ w'.cell? ⟨wr.heap.size, 1, none⟩ = some (.int .i64 (a' : Int)) ∧ w'.cell? ⟨wr.heap.size, 2, none⟩ = some (.string s) ∧ w'.cell? ⟨w.heap.size, 0, none⟩ = some (.slice (some ⟨gv, ov, none⟩) 16 ca) ∧ w'.cell? ⟨gv, ov + a', none⟩ = some (.int .i64 x) ∧ True ∧ True) (by kernel_rfl) (HF.out _ hB9) (fun hHeld => ?_)
                refine tkH 0 ((.pointer (some ⟨wr.heap.size, 0, none⟩))) rfl (Or.inl ⟨by rfl, by intro w hSw; obtain ⟨s0, s1, s2, s3, s4, s5, s6⟩ := hSw; go_simp⟩) hHeld ?_
                simp only [tkS, Act.put]
                refine tkH 1 ((.agg #[.int .i64 t, .int .i64 (a' : Int)])) rfl (Or.inl ⟨by rfl, by intro w hSw; obtain ⟨s0, s1, s2, s3, s4, s5, s6⟩ := hSw; go_simp⟩) hHeld ?_
                simp only [tkS, Act.put]
                refine wpAnyH_ready (rs := [2]) (by kernel_rfl) (by simp) ?_
                refine AllReadyH.cons rfl (fun K hK => ?_) AllReadyH.nil
                go_simp
                refine (hO _).mono ?_
                rintro e wn ⟨rfl, hbn⟩
                replace hB9 := below_seq hB9 hbn
                clear hbn
                go_wp2_with fail
                refine hK.out _ _ (HF.out _ hB9) (fun hHeld => ?_)
                clear hK K
                refine tkH 3 ((.bool false)) rfl (Or.inl ⟨by rfl, by intro w hSw; obtain ⟨s0, s1, s2, s3, s4, s5, s6⟩ := hSw; go_simp⟩) hHeld ?_
                simp only [tkS, Act.put]
                refine tkH 4 ((.bool false)) rfl (Or.inl ⟨by rfl, by intro w hSw; obtain ⟨s0, s1, s2, s3, s4, s5, s6⟩ := hSw; go_simp⟩) hHeld ?_
                simp only [tkS, Act.put]
                refine tkH 5 ((.pointer (some ⟨wr.heap.size, 2, none⟩))) rfl (Or.inl ⟨by rfl, by intro w hSw; obtain ⟨s0, s1, s2, s3, s4, s5, s6⟩ := hSw; go_simp⟩) hHeld ?_
                simp only [tkS, Act.put]
                refine tkH 6 ((.string s)) rfl (Or.inl ⟨by rfl, by intro w hSw; obtain ⟨s0, s1, s2, s3, s4, s5, s6⟩ := hSw; go_simp⟩) hHeld ?_
                simp only [tkS, Act.put]
                refine tkH 7 ((.int .i64 (s.size : Int))) rfl (Or.inl ⟨by rfl, by intro w hSw; obtain ⟨s0, s1, s2, s3, s4, s5, s6⟩ := hSw; go_simp⟩) hHeld ?_
                simp only [tkS, Act.put]
                refine tkH 8 ((.bool false)) rfl (Or.inl ⟨by rfl, by intro w hSw; obtain ⟨s0, s1, s2, s3, s4, s5, s6⟩ := hSw; go_simp⟩) hHeld ?_
                simp only [tkS, Act.put]
                refine tkH 9 ((.bool false)) rfl (Or.inl ⟨by rfl, by intro w hSw; obtain ⟨s0, s1, s2, s3, s4, s5, s6⟩ := hSw; go_simp⟩) hHeld ?_
                simp only [tkS, Act.put]
                refine tkH 10 ((.bool false)) rfl (Or.inl ⟨by rfl, by intro w hSw; obtain ⟨s0, s1, s2, s3, s4, s5, s6⟩ := hSw; go_simp⟩) hHeld ?_
                simp only [tkS, Act.put]
                refine tkH 11 ((.pointer (some ⟨wr.heap.size, 0, none⟩))) rfl (Or.inl ⟨by rfl, by intro w hSw; obtain ⟨s0, s1, s2, s3, s4, s5, s6⟩ := hSw; go_simp⟩) hHeld ?_
                simp only [tkS, Act.put]
                refine tkH 12 ((.pointer (some ⟨wr.heap.size, 0, none⟩))) rfl (Or.inl ⟨by rfl, by intro w hSw; obtain ⟨s0, s1, s2, s3, s4, s5, s6⟩ := hSw; go_simp⟩) hHeld ?_
                simp only [tkS, Act.put]
                refine tkH 13 ((.int .i64 t)) rfl (Or.inl ⟨by rfl, by intro w hSw; obtain ⟨s0, s1, s2, s3, s4, s5, s6⟩ := hSw; go_simp⟩) hHeld ?_
                simp only [tkS, Act.put]
                refine tkH 14 ((.pointer (some ⟨w.heap.size, 0, none⟩))) rfl (Or.inl ⟨by rfl, by intro w hSw; obtain ⟨s0, s1, s2, s3, s4, s5, s6⟩ := hSw; go_simp⟩) hHeld ?_
                simp only [tkS, Act.put]
                refine tkH 15 ((.slice (some ⟨gv, ov, none⟩) 16 ca)) rfl (Or.inl ⟨by rfl, by intro w hSw; obtain ⟨s0, s1, s2, s3, s4, s5, s6⟩ := hSw; go_simp⟩) hHeld ?_
                simp only [tkS, Act.put]
                refine tkH 16 ((.pointer (some ⟨wr.heap.size, 0, none⟩))) rfl (Or.inl ⟨by rfl, by intro w hSw; obtain ⟨s0, s1, s2, s3, s4, s5, s6⟩ := hSw; go_simp⟩) hHeld ?_
                simp only [tkS, Act.put]
                refine tkH 17 ((.pointer (some ⟨wr.heap.size, 1, none⟩))) rfl (Or.inl ⟨by rfl, by intro w hSw; obtain ⟨s0, s1, s2, s3, s4, s5, s6⟩ := hSw; go_simp⟩) hHeld ?_
                simp only [tkS, Act.put]
                refine tkH 18 ((.int .i64 (a' : Int))) rfl (Or.inl ⟨by rfl, by intro w hSw; obtain ⟨s0, s1, s2, s3, s4, s5, s6⟩ := hSw; go_simp⟩) hHeld ?_
                simp only [tkS, Act.put]
                refine tkH 19 ((.pointer (some ⟨gv, ov + a', none⟩))) rfl (Or.inl ⟨by rfl, by intro w hSw; obtain ⟨s0, s1, s2, s3, s4, s5, s6⟩ := hSw; go_simp⟩) hHeld ?_
                simp only [tkS, Act.put]
                refine tkH 20 ((.int .i64 x)) rfl (Or.inl ⟨by rfl, by intro w hSw; obtain ⟨s0, s1, s2, s3, s4, s5, s6⟩ := hSw; go_simp⟩) hHeld ?_
                simp only [tkS, Act.put]
                refine tkH 21 ((.bool true)) rfl (Or.inl ⟨by rfl, by intro w hSw; obtain ⟨s0, s1, s2, s3, s4, s5, s6⟩ := hSw; go_simp⟩) hHeld ?_
                simp only [tkS, Act.put]
                refine tkH 22 ((.bool true)) rfl (Or.inl ⟨by rfl, by intro w hSw; obtain ⟨s0, s1, s2, s3, s4, s5, s6⟩ := hSw; go_simp⟩) hHeld ?_
                simp only [tkS, Act.put]
                refine tkH 23 ((.bool true)) rfl (Or.inl ⟨by rfl, by intro w hSw; obtain ⟨s0, s1, s2, s3, s4, s5, s6⟩ := hSw; go_simp⟩) hHeld ?_
                simp only [tkS, Act.put]
                refine tkH 24 (undef) rfl (Or.inr ⟨by rfl, rfl⟩) hHeld ?_
                simp only [tkS, Act.put]
                refine tkH 25 (undef) rfl (Or.inr ⟨by rfl, rfl⟩) hHeld ?_
                simp only [tkS, Act.put]
                refine tkH 26 (undef) rfl (Or.inr ⟨by rfl, rfl⟩) hHeld ?_
                simp only [tkS, Act.put]
                refine tkH 27 (undef) rfl (Or.inr ⟨by rfl, rfl⟩) hHeld ?_
                simp only [tkS, Act.put]
                refine tkH 28 (undef) rfl (Or.inr ⟨by rfl, rfl⟩) hHeld ?_
                simp only [tkS, Act.put]
                refine tkH 29 (undef) rfl (Or.inr ⟨by rfl, rfl⟩) hHeld ?_
                simp only [tkS, Act.put]
                refine tkH 30 (undef) rfl (Or.inr ⟨by rfl, rfl⟩) hHeld ?_
                simp only [tkS, Act.put]
                refine tkH 31 (undef) rfl (Or.inr ⟨by rfl, rfl⟩) hHeld ?_
                simp only [tkS, Act.put]
                refine tkH 32 (undef) rfl (Or.inr ⟨by rfl, rfl⟩) hHeld ?_
                simp only [tkS, Act.put]
                refine tkH 33 (undef) rfl (Or.inr ⟨by rfl, rfl⟩) hHeld ?_
                simp only [tkS, Act.put]
                refine tkH 34 (undef) rfl (Or.inr ⟨by rfl, rfl⟩) hHeld ?_
                simp only [tkS, Act.put]
                refine wpAnyH_ready (rs := [35]) (by kernel_rfl) (by simp) ?_
                refine AllReadyH.cons rfl (fun K hK => ?_) AllReadyH.nil
                go_simp
                refine hK.out _ _ (HF.out _ hB9) (fun hHeld => ?_)
                clear hK K
                refine tkH 36 (undef) rfl (Or.inr ⟨by rfl, rfl⟩) hHeld ?_
                simp only [tkS, Act.put]
                refine tkH 37 (undef) rfl (Or.inr ⟨by rfl, rfl⟩) hHeld ?_
                simp only [tkS, Act.put]
                refine tkH 38 ((.bool true)) rfl (Or.inl ⟨by rfl, by intro w hSw; obtain ⟨s0, s1, s2, s3, s4, s5, s6⟩ := hSw; go_simp⟩) hHeld ?_
                simp only [tkS, Act.put]
                refine wpAnyH_done (by kernel_rfl) ?_ _
                go_wp2_with fail
                go_ret
                exact ⟨by rw [HJ0.out]; rfl, below_seq hBw (below_seq (below_alloc wr (.cells #[.int .i64 t, .int .i64 (a' : Int), .string s] 60)) hB9)⟩
            · have z0 : (200 : Int) < (s.size : Int) := by omega
              have HJ0 : Hid (okJ xs ls = false) := HBD.out (by rw [HONE.out, h1, decide_eq_false h2]; rfl)
              clear h1 HAX HBD HONE q0 q1 q2 hc hE
              have HF : Hid (∀ wx, Below (wr.alloc (.cells #[.int .i64 t, .int .i64 a, .string s] 60)).heap.size (wr.alloc (.cells #[.int .i64 t, .int .i64 a, .string s] 60)) wx → wx.cell? ⟨wr.heap.size, 0, none⟩ = some (.int .i64 t) ∧ wx.cell? ⟨wr.heap.size, 1, none⟩ = some (.int .i64 a) ∧ wx.cell? ⟨wr.heap.size, 2, none⟩ = some (.string s) ∧ wx.cell? ⟨w.heap.size, 0, none⟩ = some (.slice (some ⟨gv, ov, none⟩) 16 ca) ∧ True ∧ True ∧ True) := fun wx h => by
                have h1 := three_cells h
                have h2 := below_seq (below_alloc wr (.cells #[.int .i64 t, .int .i64 a, .string s] 60)) h
                exact ⟨h1.1, h1.2.1, h1.2.2, cell_on h2 d0, trivial, trivial, trivial⟩
              refine wp_region_held_drew (S := fun w' => w'.cell? ⟨wr.heap.size, 0, none⟩ = some (.int .i64 t) ∧ w'.cell? ⟨wr.heap.size, 1, none⟩ = some (.int .i64 a) ∧ w'.cell? ⟨wr.heap.size, 2, none⟩ = some (.string s) ∧ w'.cell? ⟨w.heap.size, 0, none⟩ = some (.slice (some ⟨gv, ov, none⟩) 16 ca) ∧ True ∧ True ∧ True) (by kernel_rfl) (HF.out _ hB9) (fun hHeld => ?_)
              refine tkH 0 ((.pointer (some ⟨wr.heap.size, 0, none⟩))) rfl (Or.inl ⟨by rfl, by intro w hSw; obtain ⟨s0, s1, s2, s3, s4, s5, s6⟩ := hSw; go_simp⟩) hHeld ?_
              simp only [tkS, Act.put]
              refine tkH 1 ((.agg #[.int .i64 t, .int .i64 a])) rfl (Or.inl ⟨by rfl, by intro w hSw; obtain ⟨s0, s1, s2, s3, s4, s5, s6⟩ := hSw; go_simp⟩) hHeld ?_
              simp only [tkS, Act.put]
              refine wpAnyH_ready (rs := [2]) (by kernel_rfl) (by simp) ?_
              refine AllReadyH.cons rfl (fun K hK => ?_) AllReadyH.nil
              go_simp
              refine (hO _).mono ?_
              rintro e wn ⟨rfl, hbn⟩
              replace hB9 := below_seq hB9 hbn
              clear hbn
              go_wp2_with fail
              refine hK.out _ _ (HF.out _ hB9) (fun hHeld => ?_)
              clear hK K
              refine tkH 3 ((.bool false)) rfl (Or.inl ⟨by rfl, by intro w hSw; obtain ⟨s0, s1, s2, s3, s4, s5, s6⟩ := hSw; go_simp⟩) hHeld ?_
              simp only [tkS, Act.put]
              refine tkH 4 ((.bool false)) rfl (Or.inl ⟨by rfl, by intro w hSw; obtain ⟨s0, s1, s2, s3, s4, s5, s6⟩ := hSw; go_simp⟩) hHeld ?_
              simp only [tkS, Act.put]
              refine tkH 5 ((.pointer (some ⟨wr.heap.size, 2, none⟩))) rfl (Or.inl ⟨by rfl, by intro w hSw; obtain ⟨s0, s1, s2, s3, s4, s5, s6⟩ := hSw; go_simp⟩) hHeld ?_
              simp only [tkS, Act.put]
              refine tkH 6 ((.string s)) rfl (Or.inl ⟨by rfl, by intro w hSw; obtain ⟨s0, s1, s2, s3, s4, s5, s6⟩ := hSw; go_simp⟩) hHeld ?_
              simp only [tkS, Act.put]
              refine tkH 7 ((.int .i64 (s.size : Int))) rfl (Or.inl ⟨by rfl, by intro w hSw; obtain ⟨s0, s1, s2, s3, s4, s5, s6⟩ := hSw; go_simp⟩) hHeld ?_
              simp only [tkS, Act.put]
              refine tkH 8 ((.bool true)) rfl (Or.inl ⟨by rfl, by intro w hSw; obtain ⟨s0, s1, s2, s3, s4, s5, s6⟩ := hSw; go_simp⟩) hHeld ?_
              simp only [tkS, Act.put]
              refine tkH 9 ((.bool true)) rfl (Or.inl ⟨by rfl, by intro w hSw; obtain ⟨s0, s1, s2, s3, s4, s5, s6⟩ := hSw; go_simp⟩) hHeld ?_
              simp only [tkS, Act.put]
              refine tkH 10 ((.bool true)) rfl (Or.inl ⟨by rfl, by intro w hSw; obtain ⟨s0, s1, s2, s3, s4, s5, s6⟩ := hSw; go_simp⟩) hHeld ?_
              simp only [tkS, Act.put]
              refine tkH 11 (undef) rfl (Or.inr ⟨by rfl, rfl⟩) hHeld ?_
              simp only [tkS, Act.put]
              refine tkH 12 (undef) rfl (Or.inr ⟨by rfl, rfl⟩) hHeld ?_
              simp only [tkS, Act.put]
              refine tkH 13 (undef) rfl (Or.inr ⟨by rfl, rfl⟩) hHeld ?_
              simp only [tkS, Act.put]
              refine tkH 14 (undef) rfl (Or.inr ⟨by rfl, rfl⟩) hHeld ?_
              simp only [tkS, Act.put]
              refine tkH 15 (undef) rfl (Or.inr ⟨by rfl, rfl⟩) hHeld ?_
              simp only [tkS, Act.put]
              refine tkH 16 (undef) rfl (Or.inr ⟨by rfl, rfl⟩) hHeld ?_
              simp only [tkS, Act.put]
              refine tkH 17 (undef) rfl (Or.inr ⟨by rfl, rfl⟩) hHeld ?_
              simp only [tkS, Act.put]
              refine tkH 18 (undef) rfl (Or.inr ⟨by rfl, rfl⟩) hHeld ?_
              simp only [tkS, Act.put]
              refine tkH 19 (undef) rfl (Or.inr ⟨by rfl, rfl⟩) hHeld ?_
              simp only [tkS, Act.put]
              refine tkH 20 (undef) rfl (Or.inr ⟨by rfl, rfl⟩) hHeld ?_
              simp only [tkS, Act.put]
              refine tkH 21 (undef) rfl (Or.inr ⟨by rfl, rfl⟩) hHeld ?_
              simp only [tkS, Act.put]
              refine tkH 22 ((.bool true)) rfl (Or.inl ⟨by rfl, by intro w hSw; obtain ⟨s0, s1, s2, s3, s4, s5, s6⟩ := hSw; go_simp⟩) hHeld ?_
              simp only [tkS, Act.put]
              refine tkH 23 ((.bool true)) rfl (Or.inl ⟨by rfl, by intro w hSw; obtain ⟨s0, s1, s2, s3, s4, s5, s6⟩ := hSw; go_simp⟩) hHeld ?_
              simp only [tkS, Act.put]
              refine tkH 24 (undef) rfl (Or.inr ⟨by rfl, rfl⟩) hHeld ?_
              simp only [tkS, Act.put]
              refine tkH 25 (undef) rfl (Or.inr ⟨by rfl, rfl⟩) hHeld ?_
              simp only [tkS, Act.put]
              refine tkH 26 (undef) rfl (Or.inr ⟨by rfl, rfl⟩) hHeld ?_
              simp only [tkS, Act.put]
              refine tkH 27 (undef) rfl (Or.inr ⟨by rfl, rfl⟩) hHeld ?_
              simp only [tkS, Act.put]
              refine tkH 28 (undef) rfl (Or.inr ⟨by rfl, rfl⟩) hHeld ?_
              simp only [tkS, Act.put]
              refine tkH 29 (undef) rfl (Or.inr ⟨by rfl, rfl⟩) hHeld ?_
              simp only [tkS, Act.put]
              refine tkH 30 (undef) rfl (Or.inr ⟨by rfl, rfl⟩) hHeld ?_
              simp only [tkS, Act.put]
              refine tkH 31 (undef) rfl (Or.inr ⟨by rfl, rfl⟩) hHeld ?_
              simp only [tkS, Act.put]
              refine tkH 32 (undef) rfl (Or.inr ⟨by rfl, rfl⟩) hHeld ?_
              simp only [tkS, Act.put]
              refine tkH 33 (undef) rfl (Or.inr ⟨by rfl, rfl⟩) hHeld ?_
              simp only [tkS, Act.put]
              refine tkH 34 (undef) rfl (Or.inr ⟨by rfl, rfl⟩) hHeld ?_
              simp only [tkS, Act.put]
              refine wpAnyH_ready (rs := [35]) (by kernel_rfl) (by simp) ?_
              refine AllReadyH.cons rfl (fun K hK => ?_) AllReadyH.nil
              go_simp
              refine hK.out _ _ (HF.out _ hB9) (fun hHeld => ?_)
              clear hK K
              refine tkH 36 (undef) rfl (Or.inr ⟨by rfl, rfl⟩) hHeld ?_
              simp only [tkS, Act.put]
              refine tkH 37 (undef) rfl (Or.inr ⟨by rfl, rfl⟩) hHeld ?_
              simp only [tkS, Act.put]
              refine tkH 38 ((.bool true)) rfl (Or.inl ⟨by rfl, by intro w hSw; obtain ⟨s0, s1, s2, s3, s4, s5, s6⟩ := hSw; go_simp⟩) hHeld ?_
              simp only [tkS, Act.put]
              refine wpAnyH_done (by kernel_rfl) ?_ _
              go_wp2_with fail
              go_ret
              exact ⟨by rw [HJ0.out]; rfl, below_seq hBw (below_seq (below_alloc wr (.cells #[.int .i64 t, .int .i64 a, .string s] 60)) hB9)⟩
        · obtain rfl : k = ls.length := by omega
          have HJ1 : Hid (okJ xs ls = true) := okJ_all HOK.out hl HA.out
          clear hE HVC
          go_wp2_with fail
          go_ret
          exact ⟨by rw [HJ1.out]; rfl, hBw⟩
    · have i0 : (256 : Int) < (ls.length : Int) := by omega
      have HJ0 : Hid (okJ xs ls = false) := okJ_long hl
      clear hvc hok h16
      go_enter Tryz.func20, Tryz.ntmps20
      go_wp2_with fail
      refine hVK.mono ?_
      rintro e w1 ⟨rfl, hb1⟩
      go_wp2_with fail
      go_ret
      exact ⟨by rw [HJ0.out]; rfl, below_seq (below_alloc _ _) hb1⟩

end Go.Proofs.YtfnlnigeaioocaaGreat
