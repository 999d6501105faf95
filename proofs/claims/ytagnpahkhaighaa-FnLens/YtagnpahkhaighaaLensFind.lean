/- Where a name stands, by the code: strings.Compare, slices.BinarySearchFunc, find. -/
import Derived.Test.YtagnpahkhaighaaLensText
import Derived.Test.YtagnpahkhaighaaQuietKeep
import Derived.Handy
namespace Go.Proofs.Ytagnpahkhaighaa
open Go.RowKit
set_option linter.unusedVariables false
set_option maxHeartbeats 1000000 in
theorem strCmp_any (a b : ByteArray) (w : World) :
    Calls Try.prog 82 #[.string a, .string b] w fun e w' => e = .returned (.int .i64 (Lib.compareBytes a.data.toList b.data.toList)) ∧ w' = w := by
  go_enter Try.func82, Try.ntmps82
  go_wp2_with fail
  rw [run_callFunc_extern Try.func83 (by kernel_rfl) (by kernel_rfl) (by kernel_rfl) (e := Extern.BytealgCompare.compare) (by kernel_rfl), Lib.run_compareString]
  simp only [Result.andThen]
  rw [Oper.upon_value]
  go_wp2_with fail
  go_ret
  exact ⟨rfl, rfl⟩
set_option maxHeartbeats 1000000 in
theorem strCmp2_any (a b : ByteArray) (w : World) :
    Calls Try.prog 80 #[.string a, .string b] w fun e w' => e = .returned (.int .i64 (Lib.compareBytes a.data.toList b.data.toList)) ∧ w' = w := by
  have h := strCmp_any a b w
  go_enter Try.func80, Try.ntmps80
  go_wp2_with fail
  refine h.mono ?_
  rintro e w' ⟨rfl, rfl⟩
  go_wp2_with fail
  go_ret
  exact ⟨rfl, rfl⟩
set_option maxHeartbeats 1000000 in
theorem find1_any (n t s : ByteArray) (w : World) :
    Calls Try.prog 79 #[.agg #[.string n, .string t], .string s] w fun e w' => e = .returned (.int .i64 (Lib.compareBytes n.data.toList s.data.toList)) ∧ Below w.heap.size w w' := by
  have h := fun w => strCmp2_any n s w
  go_enter Try.func79, Try.ntmps79
  go_wp2_with fail
  refine (h _).mono ?_
  rintro e w' ⟨rfl, hw⟩
  subst hw
  go_wp2_with fail
  go_ret
  exact ⟨rfl, below_alloc _ _⟩

theorem isPos_mid {ls : List Pr} {n : ByteArray} (h : Rises ls) {a b : Nat} (hab : a ≤ b) (hb : b < ls.length) (hl : ltN (prAt ls b).1 n = true) : ltN (prAt ls a).1 n = true := by
  rcases Nat.lt_or_ge a b with e | e
  · exact ltN_trans (h a b e hb) hl
  · obtain rfl : a = b := by omega
    exact hl

set_option maxHeartbeats 4000000 in
set_option maxRecDepth 100000 in
theorem search_any (C : Nat) (w : World) (v : Value) (ls : List Pr) (s : ByteArray) (hl : ls.length ≤ 64) (hR : Rises ls) (hC : C ≤ w.heap.size) (hr : RdPr C w v ls) :
    Calls Try.prog 78 #[v, .string s, .func (.func 79) #[] #[]] w fun e w' => e = .returned (.tuple #[.int .i64 (posP s ls : Int), .bool (hasP s ls)]) ∧ Below w.heap.size w w' := by
  obtain ⟨ao, cap, rfl, hr⟩ := hr
  have HP : Hid (∀ p, IsPos ls s p → p = posP s ls) := fun p h => h.uniq (posP_is hR)
  have HR : Hid (Rises ls) := hR
  have HH : Hid (hasP s ls = (decide (posP s ls < ls.length) && eqN (prAt ls (posP s ls)).1 s)) := rfl
  clear hR
  generalize posP s ls = P at *
  generalize hasP s ls = hs at *
  go_enter Try.func78, Try.ntmps78
  go_wp2_with fail
  go_loopw [9, 10] (fun s9 s10 wr => ∃ lo hi : Nat, s9 = .int .i64 (lo : Int) ∧ s10 = .int .i64 (hi : Int) ∧ lo ≤ hi ∧ hi ≤ ls.length ∧ Below w.heap.size w wr ∧ Hid ((∀ t, t < lo → ltN (prAt ls t).1 s = true) ∧ (∀ t, hi ≤ t → t < ls.length → ltN (prAt ls t).1 s = false))) (fun s9 s10 _ => (intOf s10 - intOf s9).toNat)
  case atStart => exact ⟨0, ls.length, rfl, rfl, Nat.zero_le _, Nat.le_refl _, Below.refl _ _, fun t ht => absurd ht (by omega), fun t h1 h2 => absurd h2 (by omega)⟩
  case round =>
    obtain ⟨lo, hi, rfl, rfl, hlh, hin, hB, I⟩ := hrel
    by_cases hlt : lo < hi
    · have hm : (lo + hi) / 2 < ls.length := by omega
      obtain ⟨g, off, rfl, hg, hc⟩ := hr (by omega)
      have d0 : wr.cell? ⟨g, off + (lo + hi) / 2 * 2, none⟩ = _ := (hB.cell (p := ⟨g, off + (lo + hi) / 2 * 2, none⟩) (by show g < _; omega)).trans (hc _ hm).1
      have d1 : wr.cell? ⟨g, off + (lo + hi) / 2 * 2 + 1, none⟩ = _ := (hB.cell (p := ⟨g, off + ((lo + hi) / 2 * 2 + 1), none⟩) (by show g < _; omega)).trans (hc _ hm).2
      have HL : Hid (ltN (prAt ls ((lo + hi) / 2)).1 s = true → ∀ t, t < (lo + hi) / 2 + 1 → ltN (prAt ls t).1 s = true) := fun h t ht => isPos_mid HR.out (by omega) hm h
      have HG : Hid (ltN (prAt ls ((lo + hi) / 2)).1 s = false → ∀ t, (lo + hi) / 2 ≤ t → t < ls.length → ltN (prAt ls t).1 s = false) := fun h t ht htl => by
        cases hb : ltN (prAt ls t).1 s with
        | false => rfl
        | true => rw [isPos_mid HR.out ht htl hb] at h; cases h
      have hcm := ltN_cmp (prAt ls ((lo + hi) / 2)).1 s
      have hF := fun w => find1_any (prAt ls ((lo + hi) / 2)).1 (prAt ls ((lo + hi) / 2)).2 s w
      generalize (prAt ls ((lo + hi) / 2)).1 = a at *
      generalize (prAt ls ((lo + hi) / 2)).2 = b at *
      generalize Lib.compareBytes a.data.toList s.data.toList = cv at *
      clear hc hr
      cases hb : ltN a s with
      | true =>
        have hneg : cv < 0 := hcm.2 hb
        have I2 : Hid ((∀ t, t < (lo + hi) / 2 + 1 → ltN (prAt ls t).1 s = true) ∧ (∀ t, hi ≤ t → t < ls.length → ltN (prAt ls t).1 s = false)) := ⟨HL.out hb, I.out.2⟩
        clear HL HG hcm hb
        go_wp2_with (first | (go_at_call 79; refine (hF _).mono ?_; rintro e w' ⟨rfl, hb2⟩; replace hB := below_seq hB hb2; clear hb2))
        go_roundw
        case rel => exact ⟨(lo + hi) / 2 + 1, hi, by rw [show ((lo : Int) + (hi : Int)) / 2 + 1 = (((lo + hi) / 2 + 1 : Nat) : Int) by omega], rfl, by omega, hin, hB, I2⟩
        case measure => simp [intOf]; omega
      | false =>
        have hneg : ¬ cv < 0 := fun h => by have := hcm.1 h; rw [hb] at this; cases this
        have hnn : 0 ≤ cv := by omega
        have I2 : Hid ((∀ t, t < lo → ltN (prAt ls t).1 s = true) ∧ (∀ t, (lo + hi) / 2 ≤ t → t < ls.length → ltN (prAt ls t).1 s = false)) := ⟨I.out.1, HG.out hb⟩
        clear HL HG hcm hb
        go_wp2_with (first | (go_at_call 79; refine (hF _).mono ?_; rintro e w' ⟨rfl, hb2⟩; replace hB := below_seq hB hb2; clear hb2))
        go_roundw
        case rel => exact ⟨lo, (lo + hi) / 2, rfl, by rw [show ((lo : Int) + (hi : Int)) / 2 = (((lo + hi) / 2 : Nat) : Int) by omega], by omega, by omega, hB, I2⟩
        case measure => simp [intOf]; omega
    · obtain rfl : hi = lo := by omega
      obtain rfl : hi = P := HP.out hi ⟨hin, I.out.1, I.out.2⟩
      by_cases hn : hi < ls.length
      · obtain ⟨g, off, rfl, hg, hc⟩ := hr (by omega)
        have d0 : wr.cell? ⟨g, off + hi * 2, none⟩ = _ := (hB.cell (p := ⟨g, off + hi * 2, none⟩) (by show g < _; omega)).trans (hc _ hn).1
        have d1 : wr.cell? ⟨g, off + hi * 2 + 1, none⟩ = _ := (hB.cell (p := ⟨g, off + (hi * 2 + 1), none⟩) (by show g < _; omega)).trans (hc _ hn).2
        have hcm := eqN_cmp (prAt ls hi).1 s
        have hF := fun w => find1_any (prAt ls hi).1 (prAt ls hi).2 s w
        have HE : Hid (hs = eqN (prAt ls hi).1 s) := by unfold Hid; rw [HH.out, decide_eq_true hn, Bool.true_and]
        have jn : (hi : Int) < (ls.length : Int) := by omega
        have j0 : (0 : Int) ≤ (hi : Int) := by omega
        have hnl : ¬ (hi : Int) < (hi : Int) := by omega
        generalize (prAt ls hi).1 = a at *
        generalize (prAt ls hi).2 = b at *
        generalize Lib.compareBytes a.data.toList s.data.toList = cv at *
        clear hc hr I HH HP
        cases hb : eqN a s with
        | true =>
          have hz : cv = 0 := hcm.2 hb
          rw [hb] at HE
          subst hz
          clear hcm
          go_wp2_with (first | (go_at_call 79; refine (hF _).mono ?_; rintro e w' ⟨rfl, hb2⟩; replace hB := below_seq hB hb2; clear hb2))
          go_ret2
          exact ⟨by rw [HE.out]; rfl, hB⟩
        | false =>
          have hz : ¬ cv = 0 := fun h => by have := hcm.1 h; rw [hb] at this; cases this
          have hzb : (cv == 0) = false := by simpa using hz
          rw [hb] at HE
          clear hcm hz
          go_wp2_with (first | (go_at_call 79; refine (hF _).mono ?_; rintro e w' ⟨rfl, hb2⟩; replace hB := below_seq hB hb2; clear hb2))
          go_ret2
          exact ⟨by rw [HE.out]; simp, hB⟩
      · have HE : Hid (hs = false) := by unfold Hid; rw [HH.out, decide_eq_false hn, Bool.false_and]
        have hnl : ¬ (hi : Int) < (hi : Int) := by omega
        have jn : ¬ (hi : Int) < (ls.length : Int) := by omega
        clear I HH HP hr
        go_wp2_with fail
        go_ret2
        exact ⟨by rw [HE.out]; simp, hB⟩

set_option maxHeartbeats 1000000 in
set_option maxRecDepth 100000 in
theorem findI_any (C : Nat) (w : World) (v : Value) (ls : List Pr) (s : ByteArray) (hl : ls.length ≤ 64) (hR : Rises ls) (hC : C ≤ w.heap.size) (hr : RdPr C w v ls) :
    Calls Try.prog 73 #[v, .string s] w fun e w' => e = .returned (.tuple #[.int .i64 (posP s ls : Int), .bool (hasP s ls)]) ∧ Below w.heap.size w w' := by
  have h := search_any C w v ls s hl hR hC hr
  obtain ⟨ao, cap, rfl, hr⟩ := hr
  generalize posP s ls = P at *
  generalize hasP s ls = hs at *
  go_enter Try.func73, Try.ntmps73
  go_wp2_with fail
  refine h.mono ?_
  rintro e w1 ⟨rfl, hb⟩
  go_wp2_with fail
  go_ret2
  exact ⟨rfl, hb⟩
end Go.Proofs.Ytagnpahkhaighaa
