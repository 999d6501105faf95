/- Whether columns are valid: columnsOK of the code. No condition: they are lemmas. -/
import Derived.Test.YtlncfeakcgjioaaRowMath
import Derived.Test.YtlncfeakcgjioaaQuietKeep
import Derived.Test.YtlncfeakcgjioaaQuietPass
import Derived.Test.YtlncfeakcgjioaaTakeKit
namespace Go.Proofs.Ytlncfeakcgjioaa
open Go.RowKit
set_option linter.unusedVariables false

set_option maxHeartbeats 4000000 in
set_option maxRecDepth 100000 in
theorem columnsOK_any (C : Nat) (w : World) (v : Value) (ls : List Cn) (hl : ls.length ≤ 1048576) (hC : C ≤ w.heap.size) (hr : RdCn C w v ls) :
    Calls Try.prog 36 #[v] w fun r w' => r = .returned (.bool (colsOK ls)) ∧ Below w.heap.size w w' := by
  obtain ⟨ao, cap, rfl, hr⟩ := hr
  by_cases h1 : ls.length < 1
  · have HO : Hid (colsOK ls = false) := colsOK_small h1
    have j : (ls.length : Int) < 1 := by omega
    go_enter Try.func36, Try.ntmps36
    go_wp2_with fail
    go_ret
    exact ⟨by rw [HO.out]; rfl, Below.refl _ _⟩
  by_cases h16 : 16 < ls.length
  · have HO : Hid (colsOK ls = false) := colsOK_big h16
    have j0 : decide ((ls.length : Int) < 1) = false := by simp; omega
    have j : (16 : Int) < (ls.length : Int) := by omega
    go_enter Try.func36, Try.ntmps36
    go_wp2_with fail
    go_ret
    exact ⟨by rw [HO.out]; rfl, Below.refl _ _⟩
  · have j0 : decide ((ls.length : Int) < 1) = false := by simp; omega
    have j : decide ((16 : Int) < (ls.length : Int)) = false := by simp; omega
    have HBAD : Hid (∀ k, k < ls.length → cnOK ls k = false → colsOK ls = false) := fun k h hb => colsOK_bad h hb
    have HALL : Hid ((∀ k, k < ls.length → cnOK ls k = true) → colsOK ls = true) := fun h => colsOK_of (by omega) (by omega) h
    obtain ⟨ok, HOKF⟩ : ∃ ok, Hid (colsOK ls = ok) := ⟨_, rfl⟩
    have HPOST : Hid (∀ (r : Ending) (w' : World), (r = .returned (.bool ok) ∧ Below w.heap.size w w') → (r = .returned (.bool (colsOK ls)) ∧ Below w.heap.size w w')) := fun r w' h => by rw [HOKF.out]; exact h
    go_enter Try.func36, Try.ntmps36
    go_wp2_with fail
    go_loopw [15] (fun ti wr => ∃ k : Nat, k ≤ ls.length ∧ ti = .int .i64 (k : Int) ∧ Hid (∀ i, i < k → cnOK ls i = true) ∧ Below w.heap.size w wr) (fun ti _ => ls.length - (intOf ti).toNat)
    case atStart => exact ⟨0, Nat.zero_le _, rfl, fun i hi => absurd hi (by omega), Below.refl _ _⟩
    case round =>
      obtain ⟨k, hk, rfl, HA, hB⟩ := hrel
      have hsz := hB.size
      by_cases hlt : k < ls.length
      · obtain ⟨g, off, rfl, hg, hc⟩ := hr (by omega)
        have d0 : wr.cell? ⟨g, off + k * 3, none⟩ = _ := (hB.cell (p := ⟨g, off + k * 3, none⟩) (by show g < _; omega)).trans (hc k hlt).1
        have d1 : wr.cell? ⟨g, off + k * 3 + 1, none⟩ = _ := (hB.cell (p := ⟨g, off + (k * 3 + 1), none⟩) (by show g < _; omega)).trans (hc k hlt).2.1
        have d2 : wr.cell? ⟨g, off + k * 3 + 2, none⟩ = _ := (hB.cell (p := ⟨g, off + (k * 3 + 2), none⟩) (by show g < _; omega)).trans (hc k hlt).2.2
        have j0 : (0 : Int) ≤ (k : Int) := by omega
        have j1 : (k : Int) < (ls.length : Int) := by omega
        have j2 : (k : Int) + 1 < 9223372036854775808 := by omega
        obtain ⟨x, hx⟩ : ∃ x, (cnAt ls k).1 = x := ⟨_, rfl⟩
        rw [hx] at d0
        generalize (cnAt ls k).2.1 = y at d1
        generalize (cnAt ls k).2.2 = z at d2
        have hN := fun w => isKey_b x w
        have HPR : Hid (cnOK ls k = (keyB x && (decide (k = 0) || ltN (cnAt ls (k - 1)).1 x))) := by unfold Hid cnOK; rw [hx]
        have HNX : Hid (cnOK ls k = true → ∀ i, i < k + 1 → cnOK ls i = true) := fun h i hi => by
          rcases Nat.lt_or_ge i k with e | e
          · exact HA.out i e
          · obtain rfl : i = k := by omega
            exact h
        go_wp2_with fail
        have hne := kept_some (wr.alloc (.cells #[.string x, .bool y, .bool z] 53))
        have HBL : Hid (∀ w', Below (wr.alloc (.cells #[.string x, .bool y, .bool z] 53)).heap.size (wr.alloc (.cells #[.string x, .bool y, .bool z] 53)) w' → Below w.heap.size w w') := fun w' h => below_seq (below_then hB _) h
        have c0 := fun p : KeptBy (wr.alloc (.cells #[.string x, .bool y, .bool z] 53)) => (show p.W.cell? ⟨wr.heap.size, 0, none⟩ = some (.string x) from cell_made p.kept (k := 0) rfl)
        have HPV : Hid (∀ p : KeptBy (wr.alloc (.cells #[.string x, .bool y, .bool z] 53)), ∀ j, j < ls.length → p.W.cell? ⟨g, off + j * 3, none⟩ = some (.string (cnAt ls j).1)) := fun p j hj => cell_on (below_seq (below_alloc _ _) p.kept) ((hB.cell (p := ⟨g, off + j * 3, none⟩) (by show g < _; omega)).trans (hc j hj).1)
        clear hc hr d0 d1 d2 hx HA hB hsz
        generalize (wr.alloc (.cells #[.string x, .bool y, .bool z] 53)) = W at *
        generalize keyB x = bn at *
        cases bn with
        | false =>
          have HK : Hid (cnOK ls k = false) := by unfold Hid; rw [HPR.out]; rfl
          clear HPR HNX HPV
          refine wp_region_kept (by kernel_rfl) (by kernel_rfl) ?_
          iterate 2 quiet_step (fail)
          quiet_step ((go_at_call 37; exact kept_of (hN _)))
          iterate 2 quiet_step (fail)
          iterate 3 (with_reducible refine quiet_pass (by kernel_rfl) ?_)
          simp only [tkS, Act.put]
          iterate 9 (with_reducible refine quiet_pass (by kernel_rfl) ?_)
          simp only [tkS, Act.put]
          iterate 1 (with_reducible refine quiet_pass (by kernel_rfl) ?_)
          simp only [tkS, Act.put]
          iterate 1 quiet_step (fail)
          refine wpQuiet_nil ?_
          rintro _ ⟨p, rfl⟩
          have hB2 := HBL.out _ p.kept
          have HF : Hid (ok = false) := by unfold Hid; rw [← HOKF.out]; exact HBAD.out k hlt HK.out
          go_wp2_with fail
          go_ret
          exact HPOST.out _ _ ⟨by rw [HF.out]; rfl, hB2⟩
        | true =>
          cases k with
          | zero =>
            have HK : Hid (∀ i, i < 0 + 1 → cnOK ls i = true) := HNX.out (by rw [HPR.out]; rfl)
            clear HPR HNX HPV
            refine wp_region_kept (by kernel_rfl) (by kernel_rfl) ?_
            iterate 2 quiet_step (fail)
            quiet_step ((go_at_call 37; exact kept_of (hN _)))
            iterate 2 quiet_step (fail)
            iterate 3 quiet_step (fail)
            iterate 9 (with_reducible refine quiet_pass (by kernel_rfl) ?_)
            simp only [tkS, Act.put]
            iterate 2 quiet_step (fail)
            refine wpQuiet_nil ?_
            rintro _ ⟨p, rfl⟩
            have hB2 := HBL.out _ p.kept
            generalize p.W = w9 at *
            go_wp2_with fail
            go_roundw
            case rel => exact ⟨0 + 1, by omega, by go_num, HK.out, hB2⟩
            case measure => simp [intOf]; omega
          | succ q =>
            have hpv := fun p => HPV.out p q (by omega)
            have jq0 : (0 : Int) < ((q + 1 : Nat) : Int) := by omega
            have jq1 : ((q + 1 : Nat) : Int) - 1 = (q : Int) := by omega
            have jq2 : (0 : Int) ≤ (q : Int) := by omega
            have jq3 : (q : Int) < (ls.length : Int) := by omega
            rw [show q + 1 - 1 = q by omega] at HPR
            obtain ⟨px, hpx⟩ : ∃ px, (cnAt ls q).1 = px := ⟨_, rfl⟩
            rw [hpx] at HPR hpv
            clear HPV hpx
            have jq4 : (0 : Int) < (q : Int) + 1 := by omega
            have hwr : IntKind.i64.wrap (q : Int) = (q : Int) := by rw [IntKind.wrap_i64]; omega
            cases hlt9 : ltN px x with
            | true =>
              have HK : Hid (∀ i, i < q + 1 + 1 → cnOK ls i = true) := HNX.out (by rw [HPR.out, hlt9]; simp)
              unfold ltN at hlt9
              clear HPR HNX
              refine wp_region_kept (by kernel_rfl) (by kernel_rfl) ?_
              iterate 2 quiet_step (fail)
              quiet_step ((go_at_call 37; exact kept_of (hN _)))
              iterate 2 quiet_step (fail)
              iterate 3 quiet_step (fail)
              iterate 9 quiet_step (fail)
              iterate 2 quiet_step (fail)
              refine wpQuiet_nil ?_
              rintro _ ⟨p, rfl⟩
              have hB2 := HBL.out _ p.kept
              generalize p.W = w9 at *
              go_wp2_with fail
              go_roundw
              case rel => exact ⟨q + 1 + 1, by omega, by go_num, HK.out, hB2⟩
              case measure => simp [intOf]; omega
            | false =>
              have HK : Hid (cnOK ls (q + 1) = false) := by unfold Hid; rw [HPR.out, hlt9]; simp
              unfold ltN at hlt9
              clear HPR HNX
              refine wp_region_kept (by kernel_rfl) (by kernel_rfl) ?_
              iterate 2 quiet_step (fail)
              quiet_step ((go_at_call 37; exact kept_of (hN _)))
              iterate 2 quiet_step (fail)
              iterate 3 quiet_step (fail)
              iterate 9 quiet_step (fail)
              iterate 2 quiet_step (fail)
              refine wpQuiet_nil ?_
              rintro _ ⟨p, rfl⟩
              have hB2 := HBL.out _ p.kept
              have HF : Hid (ok = false) := by unfold Hid; rw [← HOKF.out]; exact HBAD.out (q + 1) hlt HK.out
              go_wp2_with fail
              go_ret
              exact HPOST.out _ _ ⟨by rw [HF.out]; rfl, hB2⟩
      · obtain rfl : k = ls.length := by omega
        have HT : Hid (ok = true) := by unfold Hid; rw [← HOKF.out]; exact HALL.out HA.out
        have hn : ¬ (ls.length : Int) < (ls.length : Int) := by omega
        go_wp2_with fail
        go_ret
        exact HPOST.out _ _ ⟨by rw [HT.out]; rfl, hB⟩
end Go.Proofs.Ytlncfeakcgjioaa
