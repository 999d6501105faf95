/- Whether columns are valid, by the specification: l07ColumnsOK. No condition: they are lemmas. -/
import Derived.Test.YtlncfeakcgjioaaColOK
namespace Go.Proofs.Ytlncfeakcgjioaa
open Go.RowKit
set_option linter.unusedVariables false

set_option maxHeartbeats 8000000 in
set_option maxRecDepth 100000 in
theorem l07ColumnsOK_any (C : Nat) (w : World) (v : Value) (ls : List Cn) (hl : ls.length ≤ 1048576) (hC : C ≤ w.heap.size) (hr : RdCn C w v ls) :
    Calls Try.prog 19 #[v] w fun r w' => r = .returned (.bool (colsOK ls)) ∧ Below w.heap.size w w' := by
  obtain ⟨ao, cap, rfl, hr⟩ := hr
  by_cases h1 : ls.length < 1
  · have HO : Hid (colsOK ls = false) := colsOK_small h1
    have j : (ls.length : Int) < 1 := by omega
    go_enter Try.func19, Try.ntmps19
    go_wp2_with fail
    go_ret
    exact ⟨by rw [HO.out]; rfl, Below.refl _ _⟩
  by_cases h16 : 16 < ls.length
  · have HO : Hid (colsOK ls = false) := colsOK_big h16
    have j0 : decide ((ls.length : Int) < 1) = false := by simp; omega
    have j : (16 : Int) < (ls.length : Int) := by omega
    go_enter Try.func19, Try.ntmps19
    go_wp2_with fail
    go_ret
    exact ⟨by rw [HO.out]; rfl, Below.refl _ _⟩
  · have j0 : decide ((ls.length : Int) < 1) = false := by simp; omega
    have j : decide ((16 : Int) < (ls.length : Int)) = false := by simp; omega
    have HBAD : Hid (∀ k, k < ls.length → cnOK ls k = false → colsOK ls = false) := fun k h hb => colsOK_bad h hb
    have HALL : Hid ((∀ k, k < ls.length → cnOK ls k = true) → colsOK ls = true) := fun h => colsOK_of (by omega) (by omega) h
    obtain ⟨ok, HOKF⟩ : ∃ ok, Hid (colsOK ls = ok) := ⟨_, rfl⟩
    have HPOST : Hid (∀ (r : Ending) (w' : World), (r = .returned (.bool ok) ∧ Below w.heap.size w w') → (r = .returned (.bool (colsOK ls)) ∧ Below w.heap.size w w')) := fun r w' h => by rw [HOKF.out]; exact h
    go_enter Try.func19, Try.ntmps19
    go_wp2_with fail
    go_loopw [3] (fun ti wr => ∃ k : Nat, k ≤ ls.length ∧ ti = .int .i64 (k : Int) ∧ Hid (∀ i, i < k → cnOK ls i = true) ∧ Below w.heap.size w wr) (fun ti _ => ls.length - (intOf ti).toNat)
    case atStart => exact ⟨0, Nat.zero_le _, rfl, fun i hi => absurd hi (by omega), Below.refl _ _⟩
    case round =>
      obtain ⟨k, hk, rfl, HA, hB⟩ := hrel
      have hsz := hB.size
      by_cases hlt : k < ls.length
      · obtain ⟨g, off, rfl, hg, hc⟩ := hr (by omega)
        have d0 : wr.cell? ⟨g, off + k * 3, none⟩ = _ := (hB.cell (p := ⟨g, off + k * 3, none⟩) (by show g < _; omega)).trans (hc k hlt).1
        have j0 : (0 : Int) ≤ (k : Int) := by omega
        have j1 : (k : Int) < (ls.length : Int) := by omega
        have j2 : (k : Int) + 1 < 9223372036854775808 := by omega
        obtain ⟨x, hx⟩ : ∃ x, (cnAt ls k).1 = x := ⟨_, rfl⟩
        rw [hx] at d0
        have HPR : Hid (cnOK ls k = ((decide (1 ≤ x.size) && decide (x.size ≤ 200)) && (decide (k = 0) || ltN (cnAt ls (k - 1)).1 x))) := by unfold Hid cnOK; rw [hx, keyB_eq]
        have HNX : Hid (cnOK ls k = true → ∀ i, i < k + 1 → cnOK ls i = true) := fun h i hi => by
          rcases Nat.lt_or_ge i k with e | e
          · exact HA.out i e
          · obtain rfl : i = k := by omega
            exact h
        go_wp2_with fail
        have hne := kept_some wr
        have HBL : Hid (∀ w', Below wr.heap.size wr w' → Below w.heap.size w w') := fun w' h => below_seq hB h
        have c0 := fun p : KeptBy wr => (show p.W.cell? ⟨g, off + k * 3, none⟩ = some (.string x) from cell_on p.kept d0)
        have HPV : Hid (∀ p : KeptBy wr, ∀ j, j < ls.length → p.W.cell? ⟨g, off + j * 3, none⟩ = some (.string (cnAt ls j).1)) := fun p j hj => cell_on p.kept ((hB.cell (p := ⟨g, off + j * 3, none⟩) (by show g < _; omega)).trans (hc j hj).1)
        clear hc hr d0 hx HA hB hsz
        by_cases hx1 : x.size < 1
        · have HK : Hid (cnOK ls k = false) := by unfold Hid; rw [HPR.out, decide_eq_false (by omega)]; rfl
          have jx : (x.size : Int) < 1 := by omega
          clear HPR HNX HPV hx1
          refine wp_region_kept (by kernel_rfl) (by kernel_rfl) ?_
          quiet_step (fail)
          try simp only [List.append_eq, List.cons_append, List.nil_append]
          iterate 7 quiet_step (fail)
          iterate 7 (with_reducible refine quiet_pass (by kernel_rfl) ?_)
          simp only [tkS, Act.put]
          iterate 2 quiet_step (fail)
          iterate 3 (with_reducible refine quiet_pass (by kernel_rfl) ?_)
          simp only [tkS, Act.put]
          iterate 12 (with_reducible refine quiet_pass (by kernel_rfl) ?_)
          simp only [tkS, Act.put]
          iterate 1 (with_reducible refine quiet_pass (by kernel_rfl) ?_)
          simp only [tkS, Act.put]
          iterate 1 quiet_step (fail)
          refine wpQuiet_nil ?_
          rintro _ ⟨p, rfl⟩
          have hB2 := HBL.out _ p.kept
          have HF : Hid (ok = false) := by unfold Hid; rw [← HOKF.out]; exact HBAD.out k hlt HK.out
          go_wp2_with fail
          go_ret
          exact HPOST.out _ _ ⟨by rw [HF.out]; rfl, hB2⟩
        by_cases hx2 : 200 < x.size
        · have HK : Hid (cnOK ls k = false) := by unfold Hid; rw [HPR.out, decide_eq_false (p := x.size ≤ 200) (by omega), Bool.and_false]; rfl
          have jx0 : decide ((x.size : Int) < 1) = false := by simp; omega
          have jx : (200 : Int) < (x.size : Int) := by omega
          clear HPR HNX HPV hx1 hx2
          refine wp_region_kept (by kernel_rfl) (by kernel_rfl) ?_
          quiet_step (fail)
          try simp only [List.append_eq, List.cons_append, List.nil_append]
          iterate 7 quiet_step (fail)
          iterate 7 quiet_step (fail)
          iterate 2 quiet_step (fail)
          iterate 3 (with_reducible refine quiet_pass (by kernel_rfl) ?_)
          simp only [tkS, Act.put]
          iterate 12 (with_reducible refine quiet_pass (by kernel_rfl) ?_)
          simp only [tkS, Act.put]
          iterate 1 (with_reducible refine quiet_pass (by kernel_rfl) ?_)
          simp only [tkS, Act.put]
          iterate 1 quiet_step (fail)
          refine wpQuiet_nil ?_
          rintro _ ⟨p, rfl⟩
          have hB2 := HBL.out _ p.kept
          have HF : Hid (ok = false) := by unfold Hid; rw [← HOKF.out]; exact HBAD.out k hlt HK.out
          go_wp2_with fail
          go_ret
          exact HPOST.out _ _ ⟨by rw [HF.out]; rfl, hB2⟩
        rw [decide_eq_true (p := 1 ≤ x.size) (by omega), decide_eq_true (p := x.size ≤ 200) (by omega), Bool.and_true, Bool.true_and] at HPR
        have jx0 : decide ((x.size : Int) < 1) = false := by simp; omega
        have jx : decide ((200 : Int) < (x.size : Int)) = false := by simp; omega
        clear hx1 hx2
        by_cases hk0 : k = 0
        · subst hk0
          have HK : Hid (∀ i, i < 0 + 1 → cnOK ls i = true) := HNX.out (by rw [HPR.out]; rfl)
          have c00 : ∀ p : KeptBy wr, p.W.cell? ⟨g, off, none⟩ = some (.string x) := fun p => by have := c0 p; rwa [Nat.zero_mul, Nat.add_zero] at this
          clear HPR HNX HPV c0
          refine wp_region_kept (by kernel_rfl) (by kernel_rfl) ?_
          quiet_step (fail)
          try simp only [List.append_eq, List.cons_append, List.nil_append]
          iterate 7 quiet_step (fail)
          iterate 7 quiet_step (fail)
          iterate 2 quiet_step (fail)
          iterate 3 quiet_step (fail)
          iterate 12 (with_reducible refine quiet_pass (by kernel_rfl) ?_)
          simp only [tkS, Act.put]
          iterate 2 quiet_step (fail)
          refine wpQuiet_nil ?_
          rintro _ ⟨p, rfl⟩
          have hB2 := HBL.out _ p.kept
          generalize p.W = w9 at *
          try clear hwr jqN jq0 jq2 jq3
          go_wp2_with fail
          go_roundw
          case rel => exact ⟨0 + 1, by omega, by go_num, HK.out, hB2⟩
          case measure => simp [intOf]; omega
        · obtain ⟨q, hq⟩ : ∃ q, k = q + 1 := ⟨k - 1, by omega⟩
          have hpv := fun p => HPV.out p q (by omega)
          have jq0 : (0 : Int) < (k : Int) := by omega
          have jqN : 0 < k := by omega
          have jq2 : (0 : Int) ≤ (q : Int) := by omega
          have jq3 : (q : Int) < (ls.length : Int) := by omega
          rw [show k - 1 = q by omega, decide_eq_false hk0] at HPR
          obtain ⟨px, hpx⟩ : ∃ px, (cnAt ls q).1 = px := ⟨_, rfl⟩
          rw [hpx] at HPR hpv
          have hwr : IntKind.i64.wrap ((k : Int) - 1) = (q : Int) := by rw [IntKind.wrap_i64]; omega
          clear HPV hpx hq hk0
          have hleq := leN x px
          cases hlt9 : ltN px x with
          | true =>
            have HK : Hid (∀ i, i < k + 1 → cnOK ls i = true) := HNX.out (by rw [HPR.out, hlt9]; simp)
            rw [hlt9] at hleq
            obtain ⟨hl1, hl2⟩ : Op.bytesLess x.toList px.toList = false ∧ ¬ x.toList = px.toList := by simpa using hleq
            have hl4 : (x.toList == px.toList) = false := by simpa using hl2
            have hl3 : (Op.bytesLess x.toList px.toList || x.toList == px.toList) = false := by rw [hl1, hl4]; rfl
            clear HPR HNX hleq hlt9
            refine wp_region_kept (by kernel_rfl) (by kernel_rfl) ?_
            quiet_step (fail)
            try simp only [List.append_eq, List.cons_append, List.nil_append]
            iterate 7 quiet_step (fail)
            iterate 7 quiet_step (fail)
            iterate 2 quiet_step (fail)
            iterate 3 quiet_step (fail)
            iterate 12 quiet_step (fail)
            iterate 2 quiet_step (fail)
            refine wpQuiet_nil ?_
            rintro _ ⟨p, rfl⟩
            have hB2 := HBL.out _ p.kept
            generalize p.W = w9 at *
            try clear hwr jqN jq0 jq2 jq3
            go_wp2_with fail
            go_roundw
            case rel => exact ⟨k + 1, by omega, by go_num, HK.out, hB2⟩
            case measure => simp [intOf]; omega
          | false =>
            have HK : Hid (cnOK ls k = false) := by unfold Hid; rw [HPR.out, hlt9]; simp
            rw [hlt9] at hleq
            have hl1 : (Op.bytesLess x.toList px.toList || x.toList == px.toList) = true := by simpa using hleq
            have hl2 : Op.bytesLess x.toList px.toList = true ∨ x.toList = px.toList := by simpa using hleq
            clear HPR HNX hleq hlt9
            refine wp_region_kept (by kernel_rfl) (by kernel_rfl) ?_
            quiet_step (fail)
            try simp only [List.append_eq, List.cons_append, List.nil_append]
            iterate 7 quiet_step (fail)
            iterate 7 quiet_step (fail)
            iterate 2 quiet_step (fail)
            iterate 3 quiet_step (fail)
            iterate 12 quiet_step (fail)
            iterate 2 quiet_step (fail)
            refine wpQuiet_nil ?_
            rintro _ ⟨p, rfl⟩
            have hB2 := HBL.out _ p.kept
            have HF : Hid (ok = false) := by unfold Hid; rw [← HOKF.out]; exact HBAD.out k hlt HK.out
            go_wp2_with fail
            go_ret
            exact HPOST.out _ _ ⟨by rw [HF.out]; rfl, hB2⟩
      · obtain rfl : k = ls.length := by omega
        have HT : Hid (ok = true) := by unfold Hid; rw [← HOKF.out]; exact HALL.out HA.out
        have hn : ¬ (ls.length : Int) < (ls.length : Int) := by omega
        go_wp2_with fail
        go_ret
        exact HPOST.out _ _ ⟨by rw [HT.out]; rfl, hB⟩
end Go.Proofs.Ytlncfeakcgjioaa
