/- Valid forms: what the code's pairsOf answers. -/
import Derived.Test.YtagnpahkhaighaaLensText
import Derived.Test.YtagnpahkhaighaaQuietKeep
import Derived.Test.YtagnpahkhaighaaQuietPass
import Derived.Test.YtagnpahkhaighaaTakeKit
namespace Go.Proofs.Ytagnpahkhaighaa
open Go.RowKit
set_option linter.unusedVariables false

/-- The pair at a place is valid, and behind the one ahead of it. -/
def okPr (ls : List Pr) (i : Nat) : Bool := keyB (prAt ls i).1 && decide ((prAt ls i).2.size ≤ 200) && (decide (i = 0) || ltN (prAt ls (i - 1)).1 (prAt ls i).1)
def okForm (ls : List Pr) : Bool := decide (ls.length ≤ 64) && (List.range ls.length).all (okPr ls)
theorem okForm_len {ls : List Pr} (h : okForm ls = true) : ls.length ≤ 64 := by
  unfold okForm at h
  rw [Bool.and_eq_true] at h
  exact of_decide_eq_true h.1
theorem okForm_at {ls : List Pr} (h : okForm ls = true) {k : Nat} (hk : k < ls.length) : okPr ls k = true := by
  unfold okForm at h
  rw [Bool.and_eq_true] at h
  exact List.all_eq_true.1 h.2 k (by simpa using hk)
theorem okForm_rises {ls : List Pr} (h : okForm ls = true) : Rises ls := by
  have step : ∀ j, j + 1 < ls.length → ltN (prAt ls j).1 (prAt ls (j + 1)).1 = true := fun j hj => by
    have := okForm_at h hj
    unfold okPr at this
    simp only [Bool.and_eq_true, Bool.or_eq_true, decide_eq_true_eq] at this
    rcases this.2 with e | e
    · omega
    · simpa using e
  intro i j hij hj
  induction j with
  | zero => omega
  | succ j ih =>
    rcases Nat.lt_or_ge i j with e | e
    · exact ltN_trans (ih e (by omega)) (step j hj)
    · obtain rfl : i = j := by omega
      exact step i hj
theorem okForm_bad {ls : List Pr} {k : Nat} (hk : k < ls.length) (hb : okPr ls k = false) : okForm ls = false := by
  cases h : okForm ls with
  | false => rfl
  | true => rw [okForm_at h hk] at hb; cases hb
theorem okForm_of {ls : List Pr} (hl : ls.length ≤ 64) (h : ∀ k, k < ls.length → okPr ls k = true) : okForm ls = true := by
  unfold okForm
  rw [decide_eq_true hl, Bool.true_and, List.all_eq_true]
  exact fun k hk => h k (by simpa using hk)

theorem isWord_b (s : ByteArray) (w : World) : Calls Try.prog 46 #[.string s] w fun e w' => e = .returned (.bool (decide (s.size ≤ 200))) ∧ Below w.heap.size w w' :=
  (isWord_any s w).mono fun e w' h => ⟨h.1, by rw [h.2]; exact Below.refl _ _⟩

set_option maxHeartbeats 4000000 in
set_option maxRecDepth 100000 in
theorem pairsOf_any (C : Nat) (w : World) (v : Value) (ls : List Pr) (hl : ls.length ≤ 1048576) (hC : C ≤ w.heap.size) (hr : RdPr C w v ls) :
    Calls Try.prog 34 #[v] w fun r w' => ∃ u, r = .returned (.tuple #[u, .bool (okForm ls)]) ∧ (okForm ls = true → u = v) ∧ (∃ a n c, u = .slice a n c) ∧ Below w.heap.size w w' := by
  obtain ⟨ao, cap, rfl, hr⟩ := hr
  by_cases h64 : 64 < ls.length
  · have HO : Hid (okForm ls = false) := by unfold Hid okForm; rw [decide_eq_false (by omega), Bool.false_and]
    have j : (64 : Int) < (ls.length : Int) := by omega
    go_enter Try.func34, Try.ntmps34
    go_wp2_with fail
    go_ret2
    exact ⟨_, by rw [HO.out]; rfl, fun h => absurd h (by rw [HO.out]; exact Bool.false_ne_true), ⟨_, _, _, rfl⟩, Below.refl _ _⟩
  · have j : decide ((64 : Int) < (ls.length : Int)) = false := by simp; omega
    have HBAD : Hid (∀ k, k < ls.length → okPr ls k = false → okForm ls = false) := fun k h hb => okForm_bad h hb
    have HALL : Hid ((∀ k, k < ls.length → okPr ls k = true) → okForm ls = true) := fun h => okForm_of (by omega) h
    obtain ⟨ok, HOKF⟩ : ∃ ok, Hid (okForm ls = ok) := ⟨_, rfl⟩
    have HPOST : Hid (∀ (r : Ending) (w' : World), (∃ u, r = .returned (.tuple #[u, .bool ok]) ∧ (ok = true → u = .slice ao ls.length cap) ∧ (∃ a n c, u = .slice a n c) ∧ Below w.heap.size w w') → ∃ u, r = .returned (.tuple #[u, .bool (okForm ls)]) ∧ (okForm ls = true → u = .slice ao ls.length cap) ∧ (∃ a n c, u = .slice a n c) ∧ Below w.heap.size w w') := fun r w' h => by rw [HOKF.out]; exact h
    go_enter Try.func34, Try.ntmps34
    go_wp2_with fail
    go_loopw [11] (fun ti wr => ∃ k : Nat, k ≤ ls.length ∧ ti = .int .i64 (k : Int) ∧ Hid (∀ i, i < k → okPr ls i = true) ∧ Below w.heap.size w wr) (fun ti _ => ls.length - (intOf ti).toNat)
    case atStart => exact ⟨0, Nat.zero_le _, rfl, fun i hi => absurd hi (by omega), Below.refl _ _⟩
    case round =>
      obtain ⟨k, hk, rfl, HA, hB⟩ := hrel
      have hsz := hB.size
      by_cases hlt : k < ls.length
      · obtain ⟨g, off, rfl, hg, hc⟩ := hr (by omega)
        have d0 : wr.cell? ⟨g, off + k * 2, none⟩ = _ := (hB.cell (p := ⟨g, off + k * 2, none⟩) (by show g < _; omega)).trans (hc k hlt).1
        have d1 : wr.cell? ⟨g, off + k * 2 + 1, none⟩ = _ := (hB.cell (p := ⟨g, off + (k * 2 + 1), none⟩) (by show g < _; omega)).trans (hc k hlt).2
        have j0 : (0 : Int) ≤ (k : Int) := by omega
        have j1 : (k : Int) < (ls.length : Int) := by omega
        have j2 : (k : Int) + 1 < 9223372036854775808 := by omega
        obtain ⟨x, hx⟩ : ∃ x, (prAt ls k).1 = x := ⟨_, rfl⟩
        obtain ⟨y, hy⟩ : ∃ y, (prAt ls k).2 = y := ⟨_, rfl⟩
        rw [hx] at d0
        rw [hy] at d1
        have hN := fun w => isKey_b x w
        have hW := fun w => isWord_b y w
        have HPR : Hid (okPr ls k = (keyB x && decide (y.size ≤ 200) && (decide (k = 0) || ltN (prAt ls (k - 1)).1 x))) := by unfold Hid okPr; rw [hx, hy]
        have HNX : Hid (okPr ls k = true → ∀ i, i < k + 1 → okPr ls i = true) := fun h i hi => by
          rcases Nat.lt_or_ge i k with e | e
          · exact HA.out i e
          · obtain rfl : i = k := by omega
            exact h
        go_wp2_with fail
        have hne := kept_some (wr.alloc (.cells #[.string x, .string y] 46))
        have HBL : Hid (∀ w', Below (wr.alloc (.cells #[.string x, .string y] 46)).heap.size (wr.alloc (.cells #[.string x, .string y] 46)) w' → Below w.heap.size w w') := fun w' h => below_seq (below_then hB _) h
        have c0 := fun p : KeptBy (wr.alloc (.cells #[.string x, .string y] 46)) => (show p.W.cell? ⟨wr.heap.size, 0, none⟩ = some (.string x) from cell_made p.kept (k := 0) rfl)
        have c1 := fun p : KeptBy (wr.alloc (.cells #[.string x, .string y] 46)) => (show p.W.cell? ⟨wr.heap.size, 1, none⟩ = some (.string y) from cell_made p.kept (k := 1) rfl)
        have HPV : Hid (∀ p : KeptBy (wr.alloc (.cells #[.string x, .string y] 46)), ∀ j, j < ls.length → p.W.cell? ⟨g, off + j * 2, none⟩ = some (.string (prAt ls j).1)) := fun p j hj => cell_on (below_seq (below_alloc _ _) p.kept) ((hB.cell (p := ⟨g, off + j * 2, none⟩) (by show g < _; omega)).trans (hc j hj).1)
        clear hc hr d0 d1 hx hy HA hB hsz
        generalize (wr.alloc (.cells #[.string x, .string y] 46)) = W at *
        generalize keyB x = bn at *
        generalize decide (y.size ≤ 200) = bw at *
        cases bn with
        | false =>
          have HK : Hid (okPr ls k = false) := by unfold Hid; rw [HPR.out]; rfl
          clear HPR HNX HPV
          refine wp_region_kept (by kernel_rfl) (by kernel_rfl) ?_
          iterate 2 quiet_step (fail)
          quiet_step ((go_at_call 45; exact kept_of (hN _)))
          iterate 2 quiet_step (fail)
          iterate 4 (with_reducible refine quiet_pass (by kernel_rfl) ?_)
          simp only [tkS, Act.put]
          iterate 2 quiet_step (fail)
          iterate 3 (with_reducible refine quiet_pass (by kernel_rfl) ?_)
          simp only [tkS, Act.put]
          iterate 9 (with_reducible refine quiet_pass (by kernel_rfl) ?_)
          simp only [tkS, Act.put]
          iterate 1 (with_reducible refine quiet_pass (by kernel_rfl) ?_)
          simp only [tkS, Act.put]
          iterate 1 quiet_step (fail)
          refine wpQuiet_nil ?_
          rintro _ ⟨p, rfl⟩
          have hB2 := HBL.out _ p.kept
          have HF : Hid (ok = false) := by unfold Hid; rw [← HOKF.out]; exact HBAD.out k hlt HK.out

          go_wp2_with fail
          go_ret2
          exact HPOST.out _ _ ⟨.slice none 0 0, by rw [HF.out]; rfl, fun h => absurd h (by rw [HF.out]; exact Bool.false_ne_true), ⟨_, _, _, rfl⟩, hB2⟩
        | true =>
          cases bw with
          | false =>
            have HK : Hid (okPr ls k = false) := by unfold Hid; rw [HPR.out]; rfl
            clear HPR HNX HPV
            refine wp_region_kept (by kernel_rfl) (by kernel_rfl) ?_
            iterate 2 quiet_step (fail)
            quiet_step ((go_at_call 45; exact kept_of (hN _)))
            iterate 2 quiet_step (fail)
            iterate 2 quiet_step (fail)
            quiet_step ((go_at_call 46; exact kept_of (hW _)))
            iterate 1 quiet_step (fail)
            iterate 2 quiet_step (fail)
            iterate 3 (with_reducible refine quiet_pass (by kernel_rfl) ?_)
            simp only [tkS, Act.put]
            iterate 9 (with_reducible refine quiet_pass (by kernel_rfl) ?_)
            simp only [tkS, Act.put]
            iterate 1 (with_reducible refine quiet_pass (by kernel_rfl) ?_)
            simp only [tkS, Act.put]
            iterate 1 quiet_step (fail)
            refine wpQuiet_nil ?_
            rintro _ ⟨p, rfl⟩
            have hB2 := HBL.out _ p.kept
            have HF : Hid (ok = false) := by unfold Hid; rw [← HOKF.out]; exact HBAD.out k hlt HK.out

            go_wp2_with fail
            go_ret2
            exact HPOST.out _ _ ⟨.slice none 0 0, by rw [HF.out]; rfl, fun h => absurd h (by rw [HF.out]; exact Bool.false_ne_true), ⟨_, _, _, rfl⟩, hB2⟩
          | true =>
            cases k with
            | zero =>
              have HK : Hid (∀ i, i < 0 + 1 → okPr ls i = true) := HNX.out (by rw [HPR.out]; rfl)
              clear HPR HNX HPV
              refine wp_region_kept (by kernel_rfl) (by kernel_rfl) ?_
              iterate 2 quiet_step (fail)
              quiet_step ((go_at_call 45; exact kept_of (hN _)))
              iterate 2 quiet_step (fail)
              iterate 2 quiet_step (fail)
              quiet_step ((go_at_call 46; exact kept_of (hW _)))
              iterate 1 quiet_step (fail)
              iterate 2 quiet_step (fail)
              iterate 3 quiet_step (fail)
              iterate 9 (with_reducible refine quiet_pass (by kernel_rfl) ?_)
              simp only [tkS, Act.put]
              iterate 2 quiet_step (fail)
              refine wpQuiet_nil ?_
              rintro _ ⟨p, rfl⟩
              have hB2 := HBL.out _ p.kept
              generalize p.W = w9 at *
              go_wp2_with fail
              go_roundw
              case rel => exact ⟨0 + 1, by omega, by go_num, HK.out, hB2⟩
              case measure => simp [intOf]; omega
            | succ q =>
              have hpv := fun p => HPV.out p q (by omega)
              have jq0 : (0 : Int) < ((q + 1 : Nat) : Int) := by omega
              have jq1 : ((q + 1 : Nat) : Int) - 1 = (q : Int) := by omega
              have jq2 : (0 : Int) ≤ (q : Int) := by omega
              have jq3 : (q : Int) < (ls.length : Int) := by omega
              rw [show q + 1 - 1 = q by omega] at HPR
              obtain ⟨px, hpx⟩ : ∃ px, (prAt ls q).1 = px := ⟨_, rfl⟩
              rw [hpx] at HPR hpv
              clear HPV hpx
              have jq4 : (0 : Int) < (q : Int) + 1 := by omega
              have hwr : IntKind.i64.wrap (q : Int) = (q : Int) := by rw [IntKind.wrap_i64]; omega
              cases hlt9 : ltN px x with
              | true =>
                have HK : Hid (∀ i, i < q + 1 + 1 → okPr ls i = true) := HNX.out (by rw [HPR.out, hlt9]; simp)
                unfold ltN at hlt9
                clear HPR HNX
                refine wp_region_kept (by kernel_rfl) (by kernel_rfl) ?_
                iterate 2 quiet_step (fail)
                quiet_step ((go_at_call 45; exact kept_of (hN _)))
                iterate 2 quiet_step (fail)
                iterate 2 quiet_step (fail)
                quiet_step ((go_at_call 46; exact kept_of (hW _)))
                iterate 1 quiet_step (fail)
                iterate 2 quiet_step (fail)
                iterate 3 quiet_step (fail)
                iterate 9 quiet_step (fail)
                iterate 2 quiet_step (fail)
                refine wpQuiet_nil ?_
                rintro _ ⟨p, rfl⟩
                have hB2 := HBL.out _ p.kept
                generalize p.W = w9 at *
                go_wp2_with fail
                go_roundw
                case rel => exact ⟨q + 1 + 1, by omega, by go_num, HK.out, hB2⟩
                case measure => simp [intOf]; omega
              | false =>
                have HK : Hid (okPr ls (q + 1) = false) := by unfold Hid; rw [HPR.out, hlt9]; simp
                unfold ltN at hlt9
                clear HPR HNX
                refine wp_region_kept (by kernel_rfl) (by kernel_rfl) ?_
                iterate 2 quiet_step (fail)
                quiet_step ((go_at_call 45; exact kept_of (hN _)))
                iterate 2 quiet_step (fail)
                iterate 2 quiet_step (fail)
                quiet_step ((go_at_call 46; exact kept_of (hW _)))
                iterate 1 quiet_step (fail)
                iterate 2 quiet_step (fail)
                iterate 3 quiet_step (fail)
                iterate 9 quiet_step (fail)
                iterate 2 quiet_step (fail)
                refine wpQuiet_nil ?_
                rintro _ ⟨p, rfl⟩
                have hB2 := HBL.out _ p.kept
                have HF : Hid (ok = false) := by unfold Hid; rw [← HOKF.out]; exact HBAD.out (q + 1) hlt HK.out

                go_wp2_with fail
                go_ret2
                exact HPOST.out _ _ ⟨.slice none 0 0, by rw [HF.out]; rfl, fun h => absurd h (by rw [HF.out]; exact Bool.false_ne_true), ⟨_, _, _, rfl⟩, hB2⟩
      · obtain rfl : k = ls.length := by omega
        have HT : Hid (ok = true) := by unfold Hid; rw [← HOKF.out]; exact HALL.out HA.out
        have hn : ¬ (ls.length : Int) < (ls.length : Int) := by omega
        go_wp2_with fail
        go_ret2
        exact HPOST.out _ _ ⟨_, by rw [HT.out]; rfl, fun _ => rfl, ⟨_, _, _, rfl⟩, hB⟩
end Go.Proofs.Ytagnpahkhaighaa
