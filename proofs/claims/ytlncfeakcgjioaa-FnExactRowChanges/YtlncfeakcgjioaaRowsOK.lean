/- Whether rows are valid: rowsOK of the code. No condition: they are lemmas. -/
import Derived.Test.YtlncfeakcgjioaaColOK
import Derived.Test.YtlncfeakcgjioaaValsOK
namespace Go.Proofs.Ytlncfeakcgjioaa
open Go.RowKit
set_option linter.unusedVariables false

set_option maxHeartbeats 8000000 in
set_option maxRecDepth 100000 in
theorem rowsOK_any (C : Nat) (w : World) (vc v : Value) (ls : List Cn) (P : List Rw) (hlc : ls.length ≤ 1048576) (hl : P.length ≤ 1048576) (hd : ∀ x ∈ P, x.2.length ≤ 1048576) (hC : C ≤ w.heap.size) (hrc : RdCn C w vc ls) (hr : RdRw C w v P) :
    Calls Try.prog 24 #[vc, v] w fun r w' => r = .returned (.bool (colsOK ls && rowsB ls.length P)) ∧ Below w.heap.size w w' := by
  have hCO := fun (w9 : World) (h : Below w.heap.size w w9) => columnsOK_any C w9 vc ls hlc (Nat.le_trans hC h.size) (hrc.on hC h)
  obtain ⟨co, cc, rfl⟩ : ∃ co cc, vc = .slice co ls.length cc := by
    obtain ⟨co, cc, e, _⟩ := hrc
    exact ⟨co, cc, e⟩
  obtain ⟨ao, cap, rfl, -, -, -, hr⟩ := hr
  clear hrc
  cases hcol : colsOK ls with
  | false =>
    rw [Bool.false_and]
    rw [hcol] at hCO
    go_enter Try.func24, Try.ntmps24
    go_wp2_with fail
    refine (hCO w (Below.refl _ _)).mono ?_
    rintro e w1 ⟨rfl, hb1⟩
    go_wp2_with fail
    go_ret
    exact ⟨rfl, hb1⟩
  | true =>
  rw [Bool.true_and]
  rw [hcol] at hCO
  clear hcol hlc
  generalize ls.length = n at hCO ⊢
  by_cases h16 : 2048 < P.length
  · have HO : Hid (rowsB n P = false) := rowsB_big h16
    have j : (2048 : Int) < (P.length : Int) := by omega
    go_enter Try.func24, Try.ntmps24
    go_wp2_with fail
    refine (hCO w (Below.refl _ _)).mono ?_
    rintro e w1 ⟨rfl, hb1⟩
    go_wp2_with fail
    go_ret
    exact ⟨by rw [HO.out]; rfl, hb1⟩
  · have j : decide ((2048 : Int) < (P.length : Int)) = false := by simp; omega
    have HBAD : Hid (∀ k, k < P.length → rwOK n P k = false → rowsB n P = false) := fun k h hb => rowsB_bad h hb
    have HALL : Hid ((∀ k, k < P.length → rwOK n P k = true) → rowsB n P = true) := fun h => rowsB_of (by omega) h
    obtain ⟨ok, HOKF⟩ : ∃ ok, Hid (rowsB n P = ok) := ⟨_, rfl⟩
    have HPOST : Hid (∀ (r : Ending) (w' : World), (r = .returned (.bool ok) ∧ Below w.heap.size w w') → (r = .returned (.bool (rowsB n P)) ∧ Below w.heap.size w w')) := fun r w' h => by rw [HOKF.out]; exact h
    go_enter Try.func24, Try.ntmps24
    go_wp2_with fail
    refine (hCO w (Below.refl _ _)).mono ?_
    rintro e w1 ⟨rfl, hb1⟩
    clear hCO
    go_wp2_with fail
    go_loopw [17] (fun ti wr => ∃ k : Nat, k ≤ P.length ∧ ti = .int .i64 (k : Int) ∧ Hid (∀ i, i < k → rwOK n P i = true) ∧ Below w.heap.size w wr) (fun ti _ => P.length - (intOf ti).toNat)
    case atStart => exact ⟨0, Nat.zero_le _, rfl, fun i hi => absurd hi (by omega), hb1⟩
    case round =>
      clear hb1
      obtain ⟨k, hk, rfl, HA, hB⟩ := hrel
      have hsz := hB.size
      by_cases hlt : k < P.length
      · obtain ⟨g, off, rfl, hg, hc⟩ := hr (by omega)
        have hx0 := rwAt_get hlt
        obtain ⟨d0, u, d1, r1⟩ := (hc k _ hx0).below (hB.mono hC) hg
        have hxl := hd _ (List.mem_of_getElem? hx0)
        have j0 : (0 : Int) ≤ (k : Int) := by omega
        have j1 : (k : Int) < (P.length : Int) := by omega
        have j2 : (k : Int) + 1 < 9223372036854775808 := by omega
        obtain ⟨x, hx⟩ : ∃ x, (rwAt P k).1 = x := ⟨_, rfl⟩
        obtain ⟨y, hy⟩ : ∃ y, (rwAt P k).2 = y := ⟨_, rfl⟩
        rw [hx] at d0
        rw [hy] at r1 hxl
        have hN := fun w => isKey_b x w
        have HPR : Hid (rwOK n P k = (keyB x && (decide (k = 0) || ltN (rwAt P (k - 1)).1 x) && valsOK n y)) := by unfold Hid rwOK; rw [hx, hy]
        have HNX : Hid (rwOK n P k = true → ∀ i, i < k + 1 → rwOK n P i = true) := fun h i hi => by
          rcases Nat.lt_or_ge i k with e | e
          · exact HA.out i e
          · obtain rfl : i = k := by omega
            exact h
        obtain ⟨ua, uc, rfl⟩ := rd_slice r1
        go_wp2_with fail
        have hne := kept_some (wr.alloc (.cells #[.string x, .slice ua y.length uc] 49))
        have HBL : Hid (∀ w', Below (wr.alloc (.cells #[.string x, .slice ua y.length uc] 49)).heap.size (wr.alloc (.cells #[.string x, .slice ua y.length uc] 49)) w' → Below w.heap.size w w') := fun w' h => below_seq (below_then hB _) h
        have c0 := fun p : KeptBy (wr.alloc (.cells #[.string x, .slice ua y.length uc] 49)) => (show p.W.cell? ⟨wr.heap.size, 0, none⟩ = some (.string x) from cell_made p.kept (k := 0) rfl)
        have c1 := fun p : KeptBy (wr.alloc (.cells #[.string x, .slice ua y.length uc] 49)) => (show p.W.cell? ⟨wr.heap.size, 1, none⟩ = some (.slice ua y.length uc) from cell_made p.kept (k := 1) rfl)
        have hV := fun p : KeptBy (wr.alloc (.cells #[.string x, .slice ua y.length uc] 49)) => valuesOK_any C p.W co n cc _ y hxl (by have := p.kept.size; simp at this; omega) (r1.below ((below_seq (below_alloc _ _) p.kept).mono (by omega)))
        have HPV : Hid (∀ p : KeptBy (wr.alloc (.cells #[.string x, .slice ua y.length uc] 49)), ∀ j, j < P.length → p.W.cell? ⟨g, off + j * 2, none⟩ = some (.string (rwAt P j).1)) := fun p j hj => cell_on (below_seq (below_alloc _ _) p.kept) ((hB.cell (p := ⟨g, off + j * 2, none⟩) (by show g < _; omega)).trans (hc j _ (rwAt_get hj)).1)
        clear hc hr d0 d1 r1 hx hy hx0 hxl hd HA hB hsz
        generalize (wr.alloc (.cells #[.string x, .slice ua y.length uc] 49)) = W at *
        generalize keyB x = bn at *
        generalize valsOK n y = bv at *
        cases bn with
        | false =>
          have HK : Hid (rwOK n P k = false) := by unfold Hid; rw [HPR.out]; rfl
          clear HPR HNX HPV hV
          refine wp_region_kept (by kernel_rfl) (by kernel_rfl) ?_
          iterate 2 quiet_step (fail)
          quiet_step ((go_at_call 37; exact kept_of (hN _)))
          iterate 2 quiet_step (fail)
          iterate 3 (with_reducible refine quiet_pass (by kernel_rfl) ?_)
          simp only [tkS, Act.put]
          iterate 9 (with_reducible refine quiet_pass (by kernel_rfl) ?_)
          simp only [tkS, Act.put]
          iterate 1 (with_reducible refine quiet_pass (by kernel_rfl) ?_)
          simp only [tkS, Act.put]
          iterate 2 quiet_step (fail)
          iterate 5 (with_reducible refine quiet_pass (by kernel_rfl) ?_)
          simp only [tkS, Act.put]
          iterate 1 quiet_step (fail)
          refine wpQuiet_nil ?_
          rintro _ ⟨p, rfl⟩
          have hB2 := HBL.out _ p.kept
          have HF : Hid (ok = false) := by unfold Hid; rw [← HOKF.out]; exact HBAD.out k hlt HK.out
          go_wp2_with fail
          go_ret
          exact HPOST.out _ _ ⟨by rw [HF.out]; rfl, hB2⟩
        | true =>
          cases k with
          | zero =>
            clear HPV
            cases bv with
            | true =>
              have HK : Hid (∀ i, i < 0 + 1 → rwOK n P i = true) := HNX.out (by rw [HPR.out]; rfl)
              clear HPR HNX
              refine wp_region_kept (by kernel_rfl) (by kernel_rfl) ?_
              iterate 2 quiet_step (fail)
              quiet_step ((go_at_call 37; exact kept_of (hN _)))
              iterate 2 quiet_step (fail)
              iterate 3 quiet_step (fail)
              iterate 9 (with_reducible refine quiet_pass (by kernel_rfl) ?_)
              simp only [tkS, Act.put]
              iterate 3 quiet_step (fail)
              iterate 3 quiet_step (fail)
              quiet_step ((go_at_call 38; exact kept_of (hV _)))
              iterate 2 quiet_step (fail)
              refine wpQuiet_nil ?_
              rintro _ ⟨p, rfl⟩
              have hB2 := HBL.out _ p.kept
              generalize p.W = w9 at *
              go_wp2_with fail
              go_roundw
              case rel => exact ⟨0 + 1, by omega, by go_num, HK.out, hB2⟩
              case measure => simp [intOf]; omega
            | false =>
              have HK : Hid (rwOK n P 0 = false) := by unfold Hid; rw [HPR.out]; rfl
              clear HPR HNX
              refine wp_region_kept (by kernel_rfl) (by kernel_rfl) ?_
              iterate 2 quiet_step (fail)
              quiet_step ((go_at_call 37; exact kept_of (hN _)))
              iterate 2 quiet_step (fail)
              iterate 3 quiet_step (fail)
              iterate 9 (with_reducible refine quiet_pass (by kernel_rfl) ?_)
              simp only [tkS, Act.put]
              iterate 3 quiet_step (fail)
              iterate 3 quiet_step (fail)
              quiet_step ((go_at_call 38; exact kept_of (hV _)))
              iterate 2 quiet_step (fail)
              refine wpQuiet_nil ?_
              rintro _ ⟨p, rfl⟩
              have hB2 := HBL.out _ p.kept
              have HF : Hid (ok = false) := by unfold Hid; rw [← HOKF.out]; exact HBAD.out 0 hlt HK.out
              go_wp2_with fail
              go_ret
              exact HPOST.out _ _ ⟨by rw [HF.out]; rfl, hB2⟩
          | succ q =>
            have hpv := fun p => HPV.out p q (by omega)
            have jq0 : (0 : Int) < ((q + 1 : Nat) : Int) := by omega
            have jq1 : ((q + 1 : Nat) : Int) - 1 = (q : Int) := by omega
            have jq2 : (0 : Int) ≤ (q : Int) := by omega
            have jq3 : (q : Int) < (P.length : Int) := by omega
            rw [show q + 1 - 1 = q by omega] at HPR
            obtain ⟨px, hpx⟩ : ∃ px, (rwAt P q).1 = px := ⟨_, rfl⟩
            rw [hpx] at HPR hpv
            clear HPV hpx
            have jq4 : (0 : Int) < (q : Int) + 1 := by omega
            have hwr : IntKind.i64.wrap (q : Int) = (q : Int) := by rw [IntKind.wrap_i64]; omega
            cases hlt9 : ltN px x with
            | true =>
              cases bv with
              | true =>
                have HK : Hid (∀ i, i < q + 1 + 1 → rwOK n P i = true) := HNX.out (by rw [HPR.out, hlt9]; simp)
                unfold ltN at hlt9
                clear HPR HNX
                refine wp_region_kept (by kernel_rfl) (by kernel_rfl) ?_
                iterate 2 quiet_step (fail)
                quiet_step ((go_at_call 37; exact kept_of (hN _)))
                iterate 2 quiet_step (fail)
                iterate 3 quiet_step (fail)
                iterate 9 quiet_step (fail)
                iterate 3 quiet_step (fail)
                iterate 3 quiet_step (fail)
                quiet_step ((go_at_call 38; exact kept_of (hV _)))
                iterate 2 quiet_step (fail)
                refine wpQuiet_nil ?_
                rintro _ ⟨p, rfl⟩
                have hB2 := HBL.out _ p.kept
                generalize p.W = w9 at *
                go_wp2_with fail
                go_roundw
                case rel => exact ⟨q + 1 + 1, by omega, by go_num, HK.out, hB2⟩
                case measure => simp [intOf]; omega
              | false =>
                have HK : Hid (rwOK n P (q + 1) = false) := by unfold Hid; rw [HPR.out, hlt9]; simp
                unfold ltN at hlt9
                clear HPR HNX
                refine wp_region_kept (by kernel_rfl) (by kernel_rfl) ?_
                iterate 2 quiet_step (fail)
                quiet_step ((go_at_call 37; exact kept_of (hN _)))
                iterate 2 quiet_step (fail)
                iterate 3 quiet_step (fail)
                iterate 9 quiet_step (fail)
                iterate 3 quiet_step (fail)
                iterate 3 quiet_step (fail)
                quiet_step ((go_at_call 38; exact kept_of (hV _)))
                iterate 2 quiet_step (fail)
                refine wpQuiet_nil ?_
                rintro _ ⟨p, rfl⟩
                have hB2 := HBL.out _ p.kept
                have HF : Hid (ok = false) := by unfold Hid; rw [← HOKF.out]; exact HBAD.out (q + 1) hlt HK.out
                go_wp2_with fail
                go_ret
                exact HPOST.out _ _ ⟨by rw [HF.out]; rfl, hB2⟩
            | false =>
              have HK : Hid (rwOK n P (q + 1) = false) := by unfold Hid; rw [HPR.out, hlt9]; simp
              unfold ltN at hlt9
              clear HPR HNX hV
              refine wp_region_kept (by kernel_rfl) (by kernel_rfl) ?_
              iterate 2 quiet_step (fail)
              quiet_step ((go_at_call 37; exact kept_of (hN _)))
              iterate 2 quiet_step (fail)
              iterate 3 quiet_step (fail)
              iterate 9 quiet_step (fail)
              iterate 3 quiet_step (fail)
              iterate 5 (with_reducible refine quiet_pass (by kernel_rfl) ?_)
              simp only [tkS, Act.put]
              iterate 1 quiet_step (fail)
              refine wpQuiet_nil ?_
              rintro _ ⟨p, rfl⟩
              have hB2 := HBL.out _ p.kept
              have HF : Hid (ok = false) := by unfold Hid; rw [← HOKF.out]; exact HBAD.out (q + 1) hlt HK.out
              go_wp2_with fail
              go_ret
              exact HPOST.out _ _ ⟨by rw [HF.out]; rfl, hB2⟩
      · obtain rfl : k = P.length := by omega
        have HT : Hid (ok = true) := by unfold Hid; rw [← HOKF.out]; exact HALL.out HA.out
        have hn : ¬ (P.length : Int) < (P.length : Int) := by omega
        go_wp2_with fail
        go_ret
        exact HPOST.out _ _ ⟨by rw [HT.out]; rfl, hB⟩
end Go.Proofs.Ytlncfeakcgjioaa
