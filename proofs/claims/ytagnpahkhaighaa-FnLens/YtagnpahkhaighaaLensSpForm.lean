/- Whether a form is valid, by the specification: l14FormOK. -/
import Derived.Test.YtagnpahkhaighaaLensForm
import Derived.Test.YtagnpahkhaighaaLensSpecOK
namespace Go.Proofs.Ytagnpahkhaighaa
open Go.RowKit
set_option linter.unusedVariables false

theorem l14Name_b (s : ByteArray) (w : World) : Calls Try.prog 43 #[.string s] w fun e w' => e = .returned (.bool (keyB s)) ∧ Below w.heap.size w w' :=
  (l14Name_any s w).mono fun e w' h => ⟨h.1, by rw [h.2]; exact Below.refl _ _⟩
theorem leN (a b : ByteArray) : (Op.bytesLess a.toList b.toList || a.toList == b.toList) = !ltN b a := by
  cases h : ltN b a with
  | true =>
    have h1 : ltN a b = false := by
      cases h2 : ltN a b with
      | false => rfl
      | true => have := ltN_trans h h2; rw [ltN_irrefl] at this; cases this
    have h3 : eqN a b = false := by
      cases h4 : eqN a b with
      | false => rfl
      | true =>
        have h5 := (ltN_eq (c := b) h4).2.1
        rw [h, ltN_irrefl] at h5
        cases h5
    unfold ltN at h1
    unfold eqN at h3
    rw [h1, h3]
    rfl
  | false =>
    cases h3 : eqN a b with
    | true => unfold eqN at h3; rw [h3]; simp
    | false =>
      have h1 : ltN a b = true := by
        cases h2 : ltN a b with
        | true => rfl
        | false => have := ltN_tri h2 h3; rw [h] at this; cases this
      unfold ltN at h1
      rw [h1]
      rfl

set_option maxHeartbeats 8000000 in
set_option maxRecDepth 100000 in
theorem l14FormOK_any (C : Nat) (w : World) (v : Value) (ls : List Pr) (hl : ls.length ≤ 1048576) (hC : C ≤ w.heap.size) (hr : RdPr C w v ls) :
    Calls Try.prog 27 #[v] w fun r w' => r = .returned (.bool (okForm ls)) ∧ Below w.heap.size w w' := by
  obtain ⟨ao, cap, rfl, hr⟩ := hr
  by_cases h64 : 64 < ls.length
  · have HO : Hid (okForm ls = false) := by unfold Hid okForm; rw [decide_eq_false (by omega), Bool.false_and]
    have j : (64 : Int) < (ls.length : Int) := by omega
    go_enter Try.func27, Try.ntmps27
    go_wp2_with fail
    go_ret
    exact ⟨by rw [HO.out]; rfl, Below.refl _ _⟩
  · have j : decide ((64 : Int) < (ls.length : Int)) = false := by simp; omega
    have HBAD : Hid (∀ k, k < ls.length → okPr ls k = false → okForm ls = false) := fun k h hb => okForm_bad h hb
    have HALL : Hid ((∀ k, k < ls.length → okPr ls k = true) → okForm ls = true) := fun h => okForm_of (by omega) h
    obtain ⟨ok, HOKF⟩ : ∃ ok, Hid (okForm ls = ok) := ⟨_, rfl⟩
    have HPOST : Hid (∀ (r : Ending) (w' : World), (r = .returned (.bool ok) ∧ Below w.heap.size w w') → r = .returned (.bool (okForm ls)) ∧ Below w.heap.size w w') := fun r w' h => by rw [HOKF.out]; exact h
    go_enter Try.func27, Try.ntmps27
    go_wp2_with fail
    go_loopw [3] (fun ti wr => ∃ k : Nat, k ≤ ls.length ∧ ti = .int .i64 (k : Int) ∧ Hid (∀ i, i < k → okPr ls i = true) ∧ Below w.heap.size w wr) (fun ti _ => ls.length - (intOf ti).toNat)
    case atStart => exact ⟨0, Nat.zero_le _, rfl, fun i hi => absurd hi (by omega), Below.refl _ _⟩
    case round =>
      obtain ⟨k, hk, rfl, HA, hB⟩ := hrel
      have hsz := hB.size
      by_cases hlt : k < ls.length
      · obtain ⟨g, off, rfl, hg, hc⟩ := hr (by omega)
        have d0 : wr.cell? ⟨g, off + k * 2, none⟩ = _ := (hB.cell (p := ⟨g, off + k * 2, none⟩) (by show g < _; omega)).trans (hc k hlt).1
        have d1 : wr.cell? ⟨g, off + k * 2 + 1, none⟩ = _ := (hB.cell (p := ⟨g, off + (k * 2 + 1), none⟩) (by show g < _; omega)).trans (hc k hlt).2
        have j0 : (0 : Int) ≤ (k : Int) := by omega
        have j1 : (k : Int) < (ls.length : Int) := by omega
        have j2 : (k : Int) + 1 < 9223372036854775808 := by omega
        obtain ⟨x, hx⟩ : ∃ x, (prAt ls k).1 = x := ⟨_, rfl⟩
        obtain ⟨y, hy⟩ : ∃ y, (prAt ls k).2 = y := ⟨_, rfl⟩
        rw [hx] at d0
        rw [hy] at d1
        have hN := fun w => l14Name_b x w
        have HPR : Hid (okPr ls k = (keyB x && decide (y.size ≤ 200) && (decide (k = 0) || ltN (prAt ls (k - 1)).1 x))) := by unfold Hid okPr; rw [hx, hy]
        have HNX : Hid (okPr ls k = true → ∀ i, i < k + 1 → okPr ls i = true) := fun h i hi => by
          rcases Nat.lt_or_ge i k with e | e
          · exact HA.out i e
          · obtain rfl : i = k := by omega
            exact h
        go_wp2_with fail
        have hne := kept_some wr
        have HBL : Hid (∀ w', Below wr.heap.size wr w' → Below w.heap.size w w') := fun w' h => below_seq hB h
        have c0 := fun p : KeptBy wr => (show p.W.cell? ⟨g, off + k * 2, none⟩ = some (.string x) from cell_on p.kept d0)
        have c1 := fun p : KeptBy wr => (show p.W.cell? ⟨g, off + k * 2 + 1, none⟩ = some (.string y) from cell_on p.kept d1)
        have HPV : Hid (∀ p : KeptBy wr, ∀ j, j < ls.length → p.W.cell? ⟨g, off + j * 2, none⟩ = some (.string (prAt ls j).1)) := fun p j hj => cell_on p.kept ((hB.cell (p := ⟨g, off + j * 2, none⟩) (by show g < _; omega)).trans (hc j hj).1)
        clear hc hr d0 d1 hx hy HA hB hsz
        generalize keyB x = bn at *
        cases bn with
        | false =>
          have HK : Hid (okPr ls k = false) := by unfold Hid; rw [HPR.out]; rfl
          clear HPR HNX HPV
          refine wp_region_kept (by kernel_rfl) (by kernel_rfl) ?_
          quiet_step (fail)
          try simp only [List.append_eq, List.cons_append, List.nil_append]
          iterate 4 quiet_step (fail)
          quiet_step ((go_at_call 43; exact kept_of (hN _)))
          iterate 2 quiet_step (fail)
          iterate 7 (with_reducible refine quiet_pass (by kernel_rfl) ?_)
          simp only [tkS, Act.put]
          iterate 2 quiet_step (fail)
          iterate 3 (with_reducible refine quiet_pass (by kernel_rfl) ?_)
          simp only [tkS, Act.put]
          iterate 12 (with_reducible refine quiet_pass (by kernel_rfl) ?_)
          simp only [tkS, Act.put]
          iterate 1 (with_reducible refine quiet_pass (by kernel_rfl) ?_)
          simp only [tkS, Act.put]
          iterate 1 quiet_step (fail)
          refine wpQuiet_nil ?_
          rintro _ ⟨p, rfl⟩
          have hB2 := HBL.out _ p.kept
          generalize p.W = w9 at *
          have HF : Hid (ok = false) := by unfold Hid; rw [← HOKF.out]; exact HBAD.out k hlt HK.out
          go_wp2_with fail
          go_ret
          exact HPOST.out _ _ ⟨by rw [HF.out]; rfl, hB2⟩
        | true =>
          by_cases hyl : y.size ≤ 200
          · have jy : decide ((200 : Int) < (y.size : Int)) = false := by simp; omega
            rw [decide_eq_true hyl] at HPR
            by_cases hk0 : k = 0
            · skip
              subst hk0
              have HK : Hid (∀ i, i < 0 + 1 → okPr ls i = true) := HNX.out (by rw [HPR.out]; rfl)
              have c00 : ∀ p : KeptBy wr, p.W.cell? ⟨g, off, none⟩ = some (.string x) := fun p => by have := c0 p; rwa [Nat.zero_mul, Nat.add_zero] at this
              have c11 : ∀ p : KeptBy wr, p.W.cell? ⟨g, off + 1, none⟩ = some (.string y) := fun p => by have := c1 p; rwa [Nat.zero_mul, Nat.add_zero] at this
              clear HPR HNX HPV hyl c0 c1
              refine wp_region_kept (by kernel_rfl) (by kernel_rfl) ?_
              quiet_step (fail)
              try simp only [List.append_eq, List.cons_append, List.nil_append]
              iterate 4 quiet_step (fail)
              quiet_step ((go_at_call 43; exact kept_of (hN _)))
              iterate 2 quiet_step (fail)
              iterate 7 quiet_step (fail)
              iterate 2 quiet_step (fail)
              iterate 3 quiet_step (fail)
              iterate 12 (with_reducible refine quiet_pass (by kernel_rfl) ?_)
              simp only [tkS, Act.put]
              iterate 2 quiet_step (fail)
              refine wpQuiet_nil ?_
              rintro _ ⟨p, rfl⟩
              have hB2 := HBL.out _ p.kept
              generalize p.W = w9 at *
              go_wp2_with fail
              go_roundw
              case rel => exact ⟨0 + 1, by omega, by go_num, HK.out, hB2⟩
              case measure => simp [intOf]; omega
            · obtain ⟨q, hq⟩ : ∃ q, k = q + 1 := ⟨k - 1, by omega⟩
              have HQ : Hid (k = q + 1) := hq
              have hpv := fun p => HPV.out p q (by omega)
              have jq0 : (0 : Int) < (k : Int) := by omega
              have jqN : 0 < k := by omega
              have jq2 : (0 : Int) ≤ (q : Int) := by omega
              have jq3 : (q : Int) < (ls.length : Int) := by omega
              have hwr : IntKind.i64.wrap ((k : Int) - 1) = (q : Int) := by rw [IntKind.wrap_i64]; omega
              rw [show k - 1 = q by omega, decide_eq_false hk0] at HPR
              obtain ⟨px, hpx⟩ : ∃ px, (prAt ls q).1 = px := ⟨_, rfl⟩
              rw [hpx] at HPR hpv
              clear HPV hpx hyl hq hk0
              have hleq := leN x px
              cases hlt9 : ltN px x with
              | true =>
                have HK : Hid (∀ i, i < k + 1 → okPr ls i = true) := HNX.out (by rw [HPR.out, hlt9]; simp)
                rw [hlt9] at hleq
                obtain ⟨hl1, hl2⟩ : Op.bytesLess x.toList px.toList = false ∧ ¬ x.toList = px.toList := by simpa using hleq
                have hl4 : (x.toList == px.toList) = false := by simpa using hl2
                have hl3 : (Op.bytesLess x.toList px.toList || x.toList == px.toList) = false := by rw [hl1, hl4]; rfl
                clear HPR HNX hleq hlt9
                refine wp_region_kept (by kernel_rfl) (by kernel_rfl) ?_
                quiet_step (fail)
                try simp only [List.append_eq, List.cons_append, List.nil_append]
                iterate 4 quiet_step (fail)
                quiet_step ((go_at_call 43; exact kept_of (hN _)))
                iterate 2 quiet_step (fail)
                iterate 7 quiet_step (fail)
                iterate 2 quiet_step (fail)
                iterate 3 quiet_step (fail)
                iterate 12 quiet_step (fail)
                iterate 2 quiet_step (fail)
                refine wpQuiet_nil ?_
                rintro _ ⟨p, rfl⟩
                have hB2 := HBL.out _ p.kept
                generalize p.W = w9 at *
                clear hwr jqN jq0 jq2 jq3
                go_wp2_with fail
                go_roundw
                case rel => exact ⟨k + 1, by omega, by go_num, HK.out, hB2⟩
                case measure => simp [intOf]; omega
              | false =>
                have HK : Hid (okPr ls k = false) := by unfold Hid; rw [HPR.out, hlt9]; simp
                rw [hlt9] at hleq
                have hl1 : (Op.bytesLess x.toList px.toList || x.toList == px.toList) = true := by simpa using hleq
                have hl2 : Op.bytesLess x.toList px.toList = true ∨ x.toList = px.toList := by simpa using hleq
                clear HPR HNX hleq hlt9
                refine wp_region_kept (by kernel_rfl) (by kernel_rfl) ?_
                quiet_step (fail)
                try simp only [List.append_eq, List.cons_append, List.nil_append]
                iterate 4 quiet_step (fail)
                quiet_step ((go_at_call 43; exact kept_of (hN _)))
                iterate 2 quiet_step (fail)
                iterate 7 quiet_step (fail)
                iterate 2 quiet_step (fail)
                iterate 3 quiet_step (fail)
                iterate 12 quiet_step (fail)
                iterate 2 quiet_step (fail)
                refine wpQuiet_nil ?_
                rintro _ ⟨p, rfl⟩
                have hB2 := HBL.out _ p.kept
                generalize p.W = w9 at *
                have HF : Hid (ok = false) := by unfold Hid; rw [← HOKF.out]; exact HBAD.out k hlt HK.out
                go_wp2_with fail
                go_ret
                exact HPOST.out _ _ ⟨by rw [HF.out]; rfl, hB2⟩
          · have jy : decide ((200 : Int) < (y.size : Int)) = true := by simp; omega
            have HK : Hid (okPr ls k = false) := by unfold Hid; rw [HPR.out, decide_eq_false hyl]; rfl
            clear HPR HNX HPV hyl
            refine wp_region_kept (by kernel_rfl) (by kernel_rfl) ?_
            quiet_step (fail)
            try simp only [List.append_eq, List.cons_append, List.nil_append]
            iterate 4 quiet_step (fail)
            quiet_step ((go_at_call 43; exact kept_of (hN _)))
            iterate 2 quiet_step (fail)
            iterate 7 quiet_step (fail)
            iterate 2 quiet_step (fail)
            iterate 3 (with_reducible refine quiet_pass (by kernel_rfl) ?_)
            simp only [tkS, Act.put]
            iterate 12 (with_reducible refine quiet_pass (by kernel_rfl) ?_)
            simp only [tkS, Act.put]
            iterate 1 (with_reducible refine quiet_pass (by kernel_rfl) ?_)
            simp only [tkS, Act.put]
            iterate 1 quiet_step (fail)
            refine wpQuiet_nil ?_
            rintro _ ⟨p, rfl⟩
            have hB2 := HBL.out _ p.kept
            generalize p.W = w9 at *
            have HF : Hid (ok = false) := by unfold Hid; rw [← HOKF.out]; exact HBAD.out k hlt HK.out
            go_wp2_with fail
            go_ret
            exact HPOST.out _ _ ⟨by rw [HF.out]; rfl, hB2⟩
      · obtain rfl : k = ls.length := by omega
        have HT : Hid (ok = true) := by unfold Hid; rw [← HOKF.out]; exact HALL.out HA.out
        have hn : ¬ (ls.length : Int) < (ls.length : Int) := by omega
        go_wp2_with fail
        go_ret
        exact HPOST.out _ _ ⟨by rw [HT.out]; rfl, hB⟩
end Go.Proofs.Ytagnpahkhaighaa
