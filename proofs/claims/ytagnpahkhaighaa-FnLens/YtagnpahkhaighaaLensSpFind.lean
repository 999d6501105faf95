/- The specification's l14Find and l14Put. -/
import Derived.Test.YtagnpahkhaighaaLensCut
import Derived.Test.YtagnpahkhaighaaLensFlipSpec
import Derived.Deep.QuietTactic
import Derived.Test.YtagnpahkhaighaaQuietPass
import Derived.Test.YtagnpahkhaighaaTakeKit
namespace Go.Proofs.Ytagnpahkhaighaa
open Go.RowKit
set_option linter.unusedVariables false

def findV (n : ByteArray) (ls : List Pr) : Int := if hasP n ls then (posP n ls : Int) else -1

set_option maxHeartbeats 2000000 in
set_option maxRecDepth 100000 in
theorem l14Find_any (C : Nat) (w : World) (v : Value) (ls : List Pr) (s : ByteArray) (hl : ls.length ≤ 64) (hR : Rises ls) (hC : C ≤ w.heap.size) (hr : RdPr C w v ls) :
    Calls Try.prog 28 #[v, .string s] w fun e w' => e = .returned (.int .i64 (findV s ls)) ∧ w' = w := by
  obtain ⟨ao, cap, rfl, hr⟩ := hr
  have HHIT : Hid (∀ k, k < ls.length → eqN (prAt ls k).1 s = true → findV s ls = (k : Int)) := fun k hk he => by
    obtain ⟨h1, h2⟩ := eqN_pos hR hk he
    unfold findV
    rw [h2, if_pos rfl, h1]
  have HMISS : Hid ((∀ k, k < ls.length → eqN (prAt ls k).1 s = false) → findV s ls = -1) := fun h => by
    unfold findV
    cases hb : hasP s ls with
    | false => rw [if_neg Bool.false_ne_true]
    | true =>
      have := hasP_lt hb
      rw [h _ this.1] at this
      cases this.2
  generalize findV s ls = fv at *
  clear hR
  go_enter Try.func28, Try.ntmps28
  go_wp2_with fail
  go_loopw [5] (fun ti wr => ∃ k : Nat, k ≤ ls.length ∧ ti = .int .i64 (k : Int) ∧ Hid (∀ i, i < k → eqN (prAt ls i).1 s = false) ∧ Hid (wr = w)) (fun ti _ => ls.length - (intOf ti).toNat)
  case atStart => exact ⟨0, Nat.zero_le _, rfl, fun i hi => absurd hi (by omega), rfl⟩
  case round =>
    obtain ⟨k, hk, rfl, HA, HW⟩ := hrel
    by_cases hlt : k < ls.length
    · obtain ⟨g, off, rfl, hg, hc⟩ := hr (by omega)
      have d0 := (hc k hlt).1
      rw [← HW.out] at d0
      have HHk : Hid (eqN (prAt ls k).1 s = true → fv = (k : Int)) := HHIT.out k hlt
      have HNX : Hid (eqN (prAt ls k).1 s = false → ∀ i, i < k + 1 → eqN (prAt ls i).1 s = false) := fun h i hi => by
        rcases Nat.lt_or_ge i k with e | e
        · exact HA.out i e
        · obtain rfl : i = k := by omega
          exact h
      have j0 : (0 : Int) ≤ (k : Int) := by omega
      have j1 : (k : Int) < (ls.length : Int) := by omega
      have j2 : (k : Int) + 1 < 9223372036854775808 := by omega
      obtain ⟨x, hx⟩ : ∃ x, (prAt ls k).1 = x := ⟨_, rfl⟩
      rw [hx] at d0 HHk HNX
      clear hx hc hr HA
      cases hb : eqN x s with
      | true =>
        have HE : Hid (fv = (k : Int)) := HHk.out hb
        unfold eqN at hb
        have hb' : x.toList = s.toList := by simpa using hb
        clear HHk HNX
        go_wp2_with fail
        go_ret
        exact ⟨by rw [HE.out]; rfl, HW.out⟩
      | false =>
        have HN : Hid (∀ i, i < k + 1 → eqN (prAt ls i).1 s = false) := HNX.out hb
        unfold eqN at hb
        have hb' : ¬ x.toList = s.toList := by simpa using hb
        clear HHk HNX
        go_wp2_with fail
        go_roundw
        case rel => exact ⟨k + 1, by omega, by go_num, HN, HW⟩
        case measure => simp [intOf]; omega
    · obtain rfl : k = ls.length := by omega
      have HE : Hid (fv = -1) := HMISS.out HA.out
      have hn : ¬ (ls.length : Int) < (ls.length : Int) := by omega
      go_wp2_with fail
      go_ret
      exact ⟨by rw [HE.out]; rfl, HW.out⟩

theorem below_drewNL {C : Nat} {w w1 : World} (h : Below C w w1) (n : Nat) : Below C w (w1.drewN n) := ⟨h.os, h.tape, h.output, h.size, h.block⟩
theorem own_slice3 {w : World} {B : Nat} {v : Value} {ls : List Pr} (h : OwnPr w B v ls) : ∃ a n c, v = .slice a n c := by
  obtain ⟨a, c, e⟩ := own_sliceM h
  exact ⟨a, _, c, e⟩
theorem isPos_first {ls : List Pr} {n : ByteArray} (h : Rises ls) {k : Nat} (hk : k ≤ ls.length) (h1 : ∀ i, i < k → ltN (prAt ls i).1 n = true) (h2 : k < ls.length → ltN (prAt ls k).1 n = false) : k = posP n ls := by
  refine IsPos.uniq (ls := ls) (n := n) ⟨hk, h1, fun i hi hl => ?_⟩ (posP_is h)
  cases hb : ltN (prAt ls i).1 n with
  | false => rfl
  | true =>
    have hkl : k < ls.length := by omega
    rcases Nat.lt_or_ge k i with e | e
    · have := ltN_trans (h k i e hl) hb
      rw [h2 hkl] at this
      cases this
    · obtain rfl : i = k := by omega
      rw [h2 hkl] at hb
      cases hb

set_option maxHeartbeats 4000000 in
set_option maxRecDepth 100000 in
theorem l14Put_any (C : Nat) (w : World) (v : Value) (ls : List Pr) (x y : ByteArray) (hl : ls.length ≤ 64) (hR : Rises ls) (hC : C ≤ w.heap.size) (hr : RdM 2 C w v ls.length (prCs ls)) :
    Calls Try.prog 29 #[v, .agg #[.string x, .string y]] w fun e w' => ∃ r, e = .returned r ∧ OwnPr w' w.heap.size r (putP (x, y) ls) ∧ Below w.heap.size w w' := by
  obtain ⟨i0, hi, hz0, hz1, hz2⟩ := info_parts infoPair
  have HRD : Hid (∀ w', Below w.heap.size w w' → RdM 2 C w' v ls.length (prCs ls)) := fun w' hw => hr.on hC hw
  have hrp := hr.pr
  obtain ⟨_, ao, cap, rfl, hcap, hmax, _, _⟩ := hr
  obtain ⟨_, _, e9, hrr⟩ := hrp
  simp only [Value.slice.injEq] at e9
  obtain ⟨rfl, _, rfl⟩ := e9
  have HPOS : Hid (∀ k, k ≤ ls.length → (∀ i, i < k → ltN (prAt ls i).1 x = true) → (k < ls.length → ltN (prAt ls k).1 x = false) → putP (x, y) ls = ls.take k ++ (x, y) :: ls.drop k) := fun k h1 h2 h3 => by
    unfold putP
    show ls.take (posP x ls) ++ (x, y) :: ls.drop (posP x ls) = _
    rw [← isPos_first hR h1 h2 h3]
  generalize putP (x, y) ls = pp at *
  clear hR
  have hb0 : Below w.heap.size w (w.alloc (.cells #[.string x, .string y] 46)) := below_alloc _ _
  have c00 : (w.alloc (.cells #[.string x, .string y] 46)).cell? ⟨w.heap.size, 0, none⟩ = some (.string x) := cell_made (Below.refl _ _) (k := 0) rfl
  have c01 : (w.alloc (.cells #[.string x, .string y] 46)).cell? ⟨w.heap.size, 1, none⟩ = some (.string y) := cell_made (Below.refl _ _) (k := 1) rfl
  go_enter Try.func29, Try.ntmps29
  go_wp2_with fail
  go_loopw [5] (fun ti wr => ∃ k : Nat, k ≤ ls.length ∧ ti = .int .i64 (k : Int) ∧ Hid (∀ i, i < k → ltN (prAt ls i).1 x = true) ∧ Below w.heap.size w wr ∧ w.heap.size < wr.heap.size ∧ wr.cell? ⟨w.heap.size, 0, none⟩ = some (.string x) ∧ wr.cell? ⟨w.heap.size, 1, none⟩ = some (.string y)) (fun ti _ => ls.length - (intOf ti).toNat)
  case atStart => exact ⟨0, Nat.zero_le _, rfl, fun i hi => absurd hi (by omega), hb0, by simp, c00, c01⟩
  case round =>
    clear c00 c01 hb0
    obtain ⟨k, hk, rfl, HA, hB, hws, c0, c1⟩ := hrel
    by_cases hlt : k < ls.length
    · obtain ⟨g, off, rfl, hg, hc⟩ := hrr (by omega)
      have d0 : wr.cell? ⟨g, off + k * 2, none⟩ = _ := (hB.cell (p := ⟨g, off + k * 2, none⟩) (by show g < _; omega)).trans (hc k hlt).1
      have j0 : (0 : Int) ≤ (k : Int) := by omega
      have j1 : (k : Int) < (ls.length : Int) := by omega
      have j2 : (k : Int) + 1 < 9223372036854775808 := by omega
      obtain ⟨a, ha⟩ : ∃ a, (prAt ls k).1 = a := ⟨_, rfl⟩
      rw [ha] at d0
      cases hb : ltN a x with
      | true =>
        have HNX : Hid (∀ i, i < k + 1 → ltN (prAt ls i).1 x = true) := fun i hi => by
          rcases Nat.lt_or_ge i k with e | e
          · exact HA.out i e
          · obtain rfl : i = k := by omega
            rw [ha]
            exact hb
        unfold ltN at hb
        clear ha HA hc hrr
        go_wp2_with fail
        refine wp_region_quiet_lit (by kernel_rfl) (by kernel_rfl) ?_
        iterate 14 quiet_step (fail)
        refine wpQuiet_nil ?_
        rintro _ ⟨nq, rfl⟩
        go_wp2_with fail
        go_roundw
        case rel => exact ⟨k + 1, by omega, by go_num, HNX, below_drewNL hB nq, hws, c0, c1⟩
        case measure => simp [intOf]; omega
      | false =>
        have HSTOP : Hid (k < ls.length → ltN (prAt ls k).1 x = false) := fun _ => by rw [ha]; exact hb
        unfold ltN at hb
        clear ha hc hrr
        go_wp2_with fail
        refine wp_region_quiet_lit (by kernel_rfl) (by kernel_rfl) ?_
        iterate 14 quiet_step (fail)
        refine wpQuiet_nil ?_
        rintro _ ⟨nq, rfl⟩
        have hB9 := below_drewNL hB nq
        have c09 : (wr.drewN nq).cell? ⟨w.heap.size, 0, none⟩ = some (.string x) := c0
        have c19 : (wr.drewN nq).cell? ⟨w.heap.size, 1, none⟩ = some (.string y) := c1
        have hws9 : w.heap.size < (wr.drewN nq).heap.size := hws
        clear hB c0 c1 hws d0
        generalize wr.drewN nq = wr at *
        have hB := hB9
        have c0 := c09
        have c1 := c19
        have hws := hws9
        clear hB9 c09 c19 hws9
        have hcP : ¬ cap = k := by omega
        have HPP : Hid (pp = ls.take k ++ (x, y) :: ls.drop k) := HPOS.out k hk HA.out HSTOP.out
        have j3 : (k : Int) ≤ (ls.length : Int) := by omega
        have j4 : (k : Int) ≤ (cap : Int) := by omega
        have j00 : (0 : Int) ≤ (k : Int) := by omega
        have hbx0 := hB
        have ho : (wr.alloc (.cells #[] 46)).ownsRow w.heap.size 46 2 (.slice (some ⟨wr.heap.size, 0, none⟩) 0 0) 0 [] := ownM_mono (World.ownsRow_lit wr #[] 0 (Nat.le_refl _) (by decide) (by simp)) hB.size
        have hb1 := below_then hB (.cells #[] 46)
        have hR1 := (HRD.out _ hb1).take hk
        have hlt1 : (ls.take k).length = k := by simp; omega
        rw [hlt1] at hR1
        have e0 := cell_on (below_alloc wr (.cells #[] 46)) c0
        have e1 := cell_on (below_alloc wr (.cells #[] 46)) c1
        have hz9 : w.heap.size < (wr.alloc (.cells #[] 46)).heap.size := by rw [World.size_alloc]; omega
        clear HSTOP HPOS HA c0 c1
        go_wp2_with (first | (at_builtin; refine wpList_append_rdM rfl _ _ 26 rfl w.heap.size 46 i0 (.agg #[.string ByteArray.empty, .string ByteArray.empty]) 2 32 Try.underlying26 hi hz0 hz1 hz2 rfl (by decide) _ _ _ rfl ho _ _ _ _ rfl hR1 (prCs_one _) (by unfold maxLen; omega) (by omega) hb1.size ?_))
        intro v6 w6 ho6 hg6
        have hb6 : Below w.heap.size w w6 := hb1.grown hg6 hb1.size (fun q hq => (World.ownsRow.lt ho q hq).1)
        have hne6 : ∀ q, (Value.slice (some ⟨wr.heap.size, 0, none⟩) 0 0).ownBlock = some q → q = wr.heap.size := fun q hq => by simpa [Value.ownBlock] using hq.symm
        have f0 := hg6.cell (a := ⟨w.heap.size, 0, none⟩) e0 (fun e => by have h9 : w.heap.size = wr.heap.size := hne6 _ e.symm; omega)
        have f1 := hg6.cell (a := ⟨w.heap.size, 1, none⟩) e1 (fun e => by have h9 : w.heap.size = wr.heap.size := hne6 _ e.symm; omega)
        have ho7 : (w6.alloc (.cells #[.string x, .string y] 46)).ownsRow w.heap.size 46 2 v6 k (prCs (ls.take k)) := World.ownsRow.alloc (by have := ho6; simpa using this) _
        obtain ⟨va7, vc7, hv7⟩ := own_sliceM ho7
        subst hv7
        have hb7 := below_then hb6 (.cells #[.string x, .string y] 46)
        have hR7 := one_rdM w6 x y
        have hl7 : [((x, y) : Pr)].length = 1 := rfl
        rw [hl7] at hR7
        clear ho6 hg6 e0 e1 ho hR1 hne6 hl7
        go_wp2_with (first | (at_builtin; refine wpList_append_rdM rfl _ _ 26 rfl w.heap.size 46 i0 (.agg #[.string ByteArray.empty, .string ByteArray.empty]) 2 32 Try.underlying26 hi hz0 hz1 hz2 rfl (by decide) _ _ _ rfl ho7 _ _ _ _ rfl hR7 (prCs_one _) (by unfold maxLen; omega) (by omega) hb7.size ?_))
        intro v8 w8 ho8 hg8
        have hb8 : Below w.heap.size w w8 := hb7.grown hg8 hb7.size (fun q hq => (World.ownsRow.lt ho7 q hq).1)
        have hR8 := (HRD.out _ hb8).from (ao' := some ⟨g, off + k * 2, none⟩) (p := k) (k := ls.length - k) (c := cap - k) hk rfl rfl (by rw [if_neg hcP, Option.map_some, Addr.add_lit])
        have ho9 : w8.ownsRow w.heap.size 46 2 v8 (k + 1) (prCs (ls.take k ++ [(x, y)])) := by rw [prCs_app]; exact ho8
        obtain ⟨va9, vc9, hv9⟩ := own_sliceM ho9
        subst hv9
        have hld : (ls.drop k).length = ls.length - k := by simp
        rw [hld] at hR8
        have HLD : Hid _ := hld
        clear hld
        clear ho8 hg8 ho7 hR7 f0 f1
        go_wp2_with (first | (at_builtin; refine wpList_append_rdM rfl _ _ 26 rfl w.heap.size 46 i0 (.agg #[.string ByteArray.empty, .string ByteArray.empty]) 2 32 Try.underlying26 hi hz0 hz1 hz2 rfl (by decide) _ _ _ rfl ho9 _ _ _ _ rfl hR8 (prCs_one _) (by unfold maxLen; omega) (by omega) hb8.size ?_))
        intro v10 w10 ho10 hg10
        have hb10 : Below w.heap.size w w10 := hb8.grown hg10 hb8.size (fun q hq => (World.ownsRow.lt ho9 q hq).1)
        have ho11 : OwnPr w10 w.heap.size v10 pp := by
          rw [HPP.out]
          have e : prCs (ls.take k ++ (x, y) :: ls.drop k) = prCs (ls.take k ++ [(x, y)]) ++ prCs (ls.drop k) := by rw [← prCs_app]; simp
          have e2 : (ls.take k ++ (x, y) :: ls.drop k).length = k + 1 + (ls.length - k) := by simp; omega
          unfold OwnPr
          rw [e, e2]
          first
            | exact ho10
            | (rw [show k + 1 + (ls.length - k) = k + 1 by omega]; exact ho10)
        obtain ⟨va11, vn11, vc11, hv11⟩ := own_slice3 ho11
        subst hv11
        clear ho10 hg10 ho9 hR8
        go_wp2_with fail
        go_ret
        exact ⟨_, rfl, ho11, hb10⟩
    · have HSTOP : Hid (k < ls.length → ltN (prAt ls k).1 x = false) := fun h => absurd h hlt
      have hkl : k = ls.length := by omega
      have jn : decide ((k : Int) < (ls.length : Int)) = false := by simp; omega
      clear hkl hrr
      go_wp2_with fail
      refine wp_region_quiet_lit (by kernel_rfl) (by kernel_rfl) ?_
      iterate 5 quiet_step (fail)
      iterate 8 (with_reducible refine quiet_pass (by kernel_rfl) ?_)
      simp only [tkS, Act.put]
      quiet_step (fail)
      refine wpQuiet_nil ?_
      rintro _ ⟨nq, rfl⟩
      have hB9 := below_drewNL hB nq
      have c09 : (wr.drewN nq).cell? ⟨w.heap.size, 0, none⟩ = some (.string x) := c0
      have c19 : (wr.drewN nq).cell? ⟨w.heap.size, 1, none⟩ = some (.string y) := c1
      have hws9 : w.heap.size < (wr.drewN nq).heap.size := hws
      clear hB c0 c1 hws
      generalize wr.drewN nq = wr at *
      have hB := hB9
      have c0 := c09
      have c1 := c19
      have hws := hws9
      clear hB9 c09 c19 hws9
      by_cases hcP : cap = k
      · subst hcP
        have HPP : Hid (pp = ls.take cap ++ (x, y) :: ls.drop cap) := HPOS.out cap hk HA.out HSTOP.out
        have j3 : (cap : Int) ≤ (ls.length : Int) := by omega
        have j4 : (cap : Int) ≤ (cap : Int) := by omega
        have j00 : (0 : Int) ≤ (cap : Int) := by omega
        have hbx0 := hB
        have ho : (wr.alloc (.cells #[] 46)).ownsRow w.heap.size 46 2 (.slice (some ⟨wr.heap.size, 0, none⟩) 0 0) 0 [] := ownM_mono (World.ownsRow_lit wr #[] 0 (Nat.le_refl _) (by decide) (by simp)) hB.size
        have hb1 := below_then hB (.cells #[] 46)
        have hR1 := (HRD.out _ hb1).take hk
        have hlt1 : (ls.take cap).length = cap := by simp; omega
        rw [hlt1] at hR1
        have e0 := cell_on (below_alloc wr (.cells #[] 46)) c0
        have e1 := cell_on (below_alloc wr (.cells #[] 46)) c1
        have hz9 : w.heap.size < (wr.alloc (.cells #[] 46)).heap.size := by rw [World.size_alloc]; omega
        clear HSTOP HPOS HA c0 c1
        go_wp2_with (first | (at_builtin; refine wpList_append_rdM rfl _ _ 26 rfl w.heap.size 46 i0 (.agg #[.string ByteArray.empty, .string ByteArray.empty]) 2 32 Try.underlying26 hi hz0 hz1 hz2 rfl (by decide) _ _ _ rfl ho _ _ _ _ rfl hR1 (prCs_one _) (by unfold maxLen; omega) (by omega) hb1.size ?_))
        intro v6 w6 ho6 hg6
        have hb6 : Below w.heap.size w w6 := hb1.grown hg6 hb1.size (fun q hq => (World.ownsRow.lt ho q hq).1)
        have hne6 : ∀ q, (Value.slice (some ⟨wr.heap.size, 0, none⟩) 0 0).ownBlock = some q → q = wr.heap.size := fun q hq => by simpa [Value.ownBlock] using hq.symm
        have f0 := hg6.cell (a := ⟨w.heap.size, 0, none⟩) e0 (fun e => by have h9 : w.heap.size = wr.heap.size := hne6 _ e.symm; omega)
        have f1 := hg6.cell (a := ⟨w.heap.size, 1, none⟩) e1 (fun e => by have h9 : w.heap.size = wr.heap.size := hne6 _ e.symm; omega)
        have ho7 : (w6.alloc (.cells #[.string x, .string y] 46)).ownsRow w.heap.size 46 2 v6 cap (prCs (ls.take cap)) := World.ownsRow.alloc (by have := ho6; simpa using this) _
        obtain ⟨va7, vc7, hv7⟩ := own_sliceM ho7
        subst hv7
        have hb7 := below_then hb6 (.cells #[.string x, .string y] 46)
        have hR7 := one_rdM w6 x y
        have hl7 : [((x, y) : Pr)].length = 1 := rfl
        rw [hl7] at hR7
        clear ho6 hg6 e0 e1 ho hR1 hne6 hl7
        go_wp2_with (first | (at_builtin; refine wpList_append_rdM rfl _ _ 26 rfl w.heap.size 46 i0 (.agg #[.string ByteArray.empty, .string ByteArray.empty]) 2 32 Try.underlying26 hi hz0 hz1 hz2 rfl (by decide) _ _ _ rfl ho7 _ _ _ _ rfl hR7 (prCs_one _) (by unfold maxLen; omega) (by omega) hb7.size ?_))
        intro v8 w8 ho8 hg8
        have hb8 : Below w.heap.size w w8 := hb7.grown hg8 hb7.size (fun q hq => (World.ownsRow.lt ho7 q hq).1)
        have hR8 := (HRD.out _ hb8).from (ao' := ao) (p := cap) (k := 0) (c := 0) hk (by omega) (by omega) (by rw [if_pos rfl])
        have ho9 : w8.ownsRow w.heap.size 46 2 v8 (cap + 1) (prCs (ls.take cap ++ [(x, y)])) := by rw [prCs_app]; exact ho8
        obtain ⟨va9, vc9, hv9⟩ := own_sliceM ho9
        subst hv9
        have hld : (ls.drop cap).length = ls.length - cap := by simp
        rw [hld] at hR8
        have HLD : Hid _ := hld
        clear hld
        clear ho8 hg8 ho7 hR7 f0 f1
        go_wp2_with (first | (at_builtin; refine wpList_append_rdM rfl _ _ 26 rfl w.heap.size 46 i0 (.agg #[.string ByteArray.empty, .string ByteArray.empty]) 2 32 Try.underlying26 hi hz0 hz1 hz2 rfl (by decide) _ _ _ rfl ho9 _ _ _ _ rfl hR8 (prCs_one _) (by unfold maxLen; omega) (by omega) hb8.size ?_))
        intro v10 w10 ho10 hg10
        have hb10 : Below w.heap.size w w10 := hb8.grown hg10 hb8.size (fun q hq => (World.ownsRow.lt ho9 q hq).1)
        have ho11 : OwnPr w10 w.heap.size v10 pp := by
          rw [HPP.out]
          have e : prCs (ls.take cap ++ (x, y) :: ls.drop cap) = prCs (ls.take cap ++ [(x, y)]) ++ prCs (ls.drop cap) := by rw [← prCs_app]; simp
          have e2 : (ls.take cap ++ (x, y) :: ls.drop cap).length = cap + 1 + (ls.length - cap) := by simp; omega
          unfold OwnPr
          rw [e, e2]
          first
            | exact ho10
            | (rw [show cap + 1 + (ls.length - cap) = cap + 1 by omega]; exact ho10)
        obtain ⟨va11, vn11, vc11, hv11⟩ := own_slice3 ho11
        subst hv11
        clear ho10 hg10 ho9 hR8
        go_wp2_with fail
        go_ret
        exact ⟨_, rfl, ho11, hb10⟩
      · skip
        have HPP : Hid (pp = ls.take k ++ (x, y) :: ls.drop k) := HPOS.out k hk HA.out HSTOP.out
        have j3 : (k : Int) ≤ (ls.length : Int) := by omega
        have j4 : (k : Int) ≤ (cap : Int) := by omega
        have j00 : (0 : Int) ≤ (k : Int) := by omega
        have hbx0 := hB
        have ho : (wr.alloc (.cells #[] 46)).ownsRow w.heap.size 46 2 (.slice (some ⟨wr.heap.size, 0, none⟩) 0 0) 0 [] := ownM_mono (World.ownsRow_lit wr #[] 0 (Nat.le_refl _) (by decide) (by simp)) hB.size
        have hb1 := below_then hB (.cells #[] 46)
        have hR1 := (HRD.out _ hb1).take hk
        have hlt1 : (ls.take k).length = k := by simp; omega
        rw [hlt1] at hR1
        have e0 := cell_on (below_alloc wr (.cells #[] 46)) c0
        have e1 := cell_on (below_alloc wr (.cells #[] 46)) c1
        have hz9 : w.heap.size < (wr.alloc (.cells #[] 46)).heap.size := by rw [World.size_alloc]; omega
        clear HSTOP HPOS HA c0 c1
        go_wp2_with (first | (at_builtin; refine wpList_append_rdM rfl _ _ 26 rfl w.heap.size 46 i0 (.agg #[.string ByteArray.empty, .string ByteArray.empty]) 2 32 Try.underlying26 hi hz0 hz1 hz2 rfl (by decide) _ _ _ rfl ho _ _ _ _ rfl hR1 (prCs_one _) (by unfold maxLen; omega) (by omega) hb1.size ?_))
        intro v6 w6 ho6 hg6
        have hb6 : Below w.heap.size w w6 := hb1.grown hg6 hb1.size (fun q hq => (World.ownsRow.lt ho q hq).1)
        have hne6 : ∀ q, (Value.slice (some ⟨wr.heap.size, 0, none⟩) 0 0).ownBlock = some q → q = wr.heap.size := fun q hq => by simpa [Value.ownBlock] using hq.symm
        have f0 := hg6.cell (a := ⟨w.heap.size, 0, none⟩) e0 (fun e => by have h9 : w.heap.size = wr.heap.size := hne6 _ e.symm; omega)
        have f1 := hg6.cell (a := ⟨w.heap.size, 1, none⟩) e1 (fun e => by have h9 : w.heap.size = wr.heap.size := hne6 _ e.symm; omega)
        have ho7 : (w6.alloc (.cells #[.string x, .string y] 46)).ownsRow w.heap.size 46 2 v6 k (prCs (ls.take k)) := World.ownsRow.alloc (by have := ho6; simpa using this) _
        obtain ⟨va7, vc7, hv7⟩ := own_sliceM ho7
        subst hv7
        have hb7 := below_then hb6 (.cells #[.string x, .string y] 46)
        have hR7 := one_rdM w6 x y
        have hl7 : [((x, y) : Pr)].length = 1 := rfl
        rw [hl7] at hR7
        clear ho6 hg6 e0 e1 ho hR1 hne6 hl7
        go_wp2_with (first | (at_builtin; refine wpList_append_rdM rfl _ _ 26 rfl w.heap.size 46 i0 (.agg #[.string ByteArray.empty, .string ByteArray.empty]) 2 32 Try.underlying26 hi hz0 hz1 hz2 rfl (by decide) _ _ _ rfl ho7 _ _ _ _ rfl hR7 (prCs_one _) (by unfold maxLen; omega) (by omega) hb7.size ?_))
        intro v8 w8 ho8 hg8
        have hb8 : Below w.heap.size w w8 := hb7.grown hg8 hb7.size (fun q hq => (World.ownsRow.lt ho7 q hq).1)
        have hR8 := (HRD.out _ hb8).from (p := k) (k := ls.length - k) (c := cap - k) hk rfl rfl (by rw [if_neg hcP])
        have ho9 : w8.ownsRow w.heap.size 46 2 v8 (k + 1) (prCs (ls.take k ++ [(x, y)])) := by rw [prCs_app]; exact ho8
        obtain ⟨va9, vc9, hv9⟩ := own_sliceM ho9
        subst hv9
        have hld : (ls.drop k).length = ls.length - k := by simp
        rw [hld] at hR8
        have HLD : Hid _ := hld
        clear hld
        clear ho8 hg8 ho7 hR7 f0 f1
        go_wp2_with (first | (at_builtin; refine wpList_append_rdM rfl _ _ 26 rfl w.heap.size 46 i0 (.agg #[.string ByteArray.empty, .string ByteArray.empty]) 2 32 Try.underlying26 hi hz0 hz1 hz2 rfl (by decide) _ _ _ rfl ho9 _ _ _ _ rfl hR8 (prCs_one _) (by unfold maxLen; omega) (by omega) hb8.size ?_))
        intro v10 w10 ho10 hg10
        have hb10 : Below w.heap.size w w10 := hb8.grown hg10 hb8.size (fun q hq => (World.ownsRow.lt ho9 q hq).1)
        have ho11 : OwnPr w10 w.heap.size v10 pp := by
          rw [HPP.out]
          have e : prCs (ls.take k ++ (x, y) :: ls.drop k) = prCs (ls.take k ++ [(x, y)]) ++ prCs (ls.drop k) := by rw [← prCs_app]; simp
          have e2 : (ls.take k ++ (x, y) :: ls.drop k).length = k + 1 + (ls.length - k) := by simp; omega
          unfold OwnPr
          rw [e, e2]
          first
            | exact ho10
            | (rw [show k + 1 + (ls.length - k) = k + 1 by omega]; exact ho10)
        obtain ⟨va11, vn11, vc11, hv11⟩ := own_slice3 ho11
        subst hv11
        clear ho10 hg10 ho9 hR8
        go_wp2_with fail
        go_ret
        exact ⟨_, rfl, ho11, hb10⟩
end Go.Proofs.Ytagnpahkhaighaa
