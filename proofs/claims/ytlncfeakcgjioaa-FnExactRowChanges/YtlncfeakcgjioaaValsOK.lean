/- Whether a row's values are valid: valuesOK of the code, l17RowOK of the specification. No condition: they are lemmas. -/
import Derived.Test.YtlncfeakcgjioaaRowMath
import Derived.Test.YtlncfeakcgjioaaQuietKeep
namespace Go.Proofs.Ytlncfeakcgjioaa
open Go.RowKit
set_option linter.unusedVariables false

def shortB (ss : List ByteArray) : Bool := ss.all fun t => decide (t.size ≤ 200)
theorem shortB_bad {ss : List ByteArray} {k : Nat} {t : ByteArray} (hk : ss[k]? = some t) (hb : ¬ t.size ≤ 200) : shortB ss = false := by
  cases h : shortB ss with
  | false => rfl
  | true =>
    have := List.all_eq_true.1 h t (List.mem_of_getElem? hk)
    exact absurd (of_decide_eq_true this) hb
theorem shortB_of {ss : List ByteArray} (h : ∀ (k : Nat) (t : ByteArray), ss[k]? = some t → t.size ≤ 200) : shortB ss = true := by
  refine List.all_eq_true.2 fun t ht => ?_
  obtain ⟨k, hk⟩ := List.getElem?_of_mem ht
  exact decide_eq_true (h k t hk)
theorem valsOK_eq (n : Nat) (ss : List ByteArray) : valsOK n ss = (decide (ss.length = n) && shortB ss) := rfl

set_option maxHeartbeats 1000000 in
theorem longWord_any (s : ByteArray) (w : World) :
    Calls Try.prog 42 #[.string s] w fun e w' => e = .returned (.bool (!decide (s.size ≤ 200))) ∧ Below w.heap.size w w' := by
  have hW := fun w => isWord_b s w
  generalize decide (s.size ≤ 200) = d at hW ⊢
  go_enter Try.func42, Try.ntmps42
  go_wp2_with fail
  refine (hW _).mono ?_
  rintro e w1 ⟨rfl, hb⟩
  go_wp2_with fail
  go_ret
  exact ⟨rfl, hb⟩

set_option maxHeartbeats 2000000 in
set_option maxRecDepth 100000 in
theorem indexLong_any (C : Nat) (w : World) (v : Value) (ss : List ByteArray) (hl : ss.length ≤ 1048576) (hC : C ≤ w.heap.size) (hr : Rd C w v (ss.map Value.string)) :
    Calls Try.prog 43 #[v, .func (.func 42) #[] #[]] w fun e w' => (∃ r : Int, e = .returned (.int .i64 r) ∧ decide (0 ≤ r) = !shortB ss) ∧ Below w.heap.size w w' := by
  obtain ⟨ao, cap, rfl, _, _, _, hr⟩ := hr
  rw [List.length_map] at hr ⊢
  obtain ⟨ok, HOK⟩ : ∃ ok, Hid (shortB ss = ok) := ⟨_, rfl⟩
  rw [HOK.out]
  go_enter Try.func43, Try.ntmps43
  go_wp2_with fail
  go_loopw [8] (fun ti wr => ∃ k : Nat, k ≤ ss.length ∧ ti = .int .i64 (k : Int) ∧ Hid (∀ q t, q < k → ss[q]? = some t → t.size ≤ 200) ∧ Below w.heap.size w wr) (fun ti _ => ss.length - (intOf ti).toNat)
  case atStart => exact ⟨0, Nat.zero_le _, rfl, fun q t hq => absurd hq (by omega), Below.refl _ _⟩
  case round =>
    obtain ⟨k, hk, rfl, HQ, hb⟩ := hrel
    have hs := hb.size
    by_cases hlt : k < ss.length
    · have hki : (k : Int) < (ss.length : Int) := by omega
      have hk2 : (k : Int) + 1 < 9223372036854775808 := by omega
      obtain ⟨g, off, rfl, hg, hc⟩ := hr (by omega)
      obtain ⟨t, ht⟩ : ∃ t, ss[k]? = some t := ⟨ss[k], by simp [hlt]⟩
      have c1 : wr.cell? ⟨g, off + k, none⟩ = some (.string t) := (hb.cell (p := ⟨g, off + k, none⟩) (by show g < _; omega)).trans (hc k _ (by simp [ht]))
      have hF := fun w => longWord_any t w
      by_cases hp : t.size ≤ 200
      · have HE : Hid (∀ q t, q < k + 1 → ss[q]? = some t → t.size ≤ 200) := fun q u hq hu => by
          by_cases e : q = k
          · subst e
            rw [ht] at hu
            injection hu with e
            subst e
            exact hp
          · exact HQ.out q u (by omega) hu
        rw [decide_eq_true hp] at hF
        clear hc hr HQ ht hp
        go_wp2_with fail
        refine (hF _).mono ?_
        rintro e w9 ⟨rfl, hb9⟩
        go_wp2_with fail
        go_roundw
        case rel => exact ⟨k + 1, by omega, by go_num, HE, below_seq hb hb9⟩
        case measure => simp [intOf]; omega
      · have HE : Hid (ok = false) := HOK.out.symm.trans (shortB_bad ht hp)
        rw [decide_eq_false hp] at hF
        clear hc hr HQ ht hp
        go_wp2_with fail
        refine (hF _).mono ?_
        rintro e w9 ⟨rfl, hb9⟩
        go_wp2_with fail
        refine bodyPost_ret (v := .int .i64 (k : Int)) ?_ rfl ⟨⟨_, rfl, by rw [HE.out]; simp⟩, below_seq hb hb9⟩
        simp [results, Try.results43, go_sem]
    · have HE : Hid (ok = true) := HOK.out.symm.trans (shortB_of fun q t hq => HQ.out q t (by have := (List.getElem?_eq_some_iff.1 hq).1; omega) hq)
      have i1 : ¬ (k : Int) < (ss.length : Int) := by omega
      clear HQ hr
      go_wp2_with fail
      refine bodyPost_ret (v := .int .i64 (-1)) ?_ rfl ⟨⟨_, rfl, by rw [HE.out]; rfl⟩, hb⟩
      simp [results, Try.results43, go_sem]

set_option maxHeartbeats 1000000 in
set_option maxRecDepth 100000 in
theorem containsLong_any (C : Nat) (w : World) (v : Value) (ss : List ByteArray) (hl : ss.length ≤ 1048576) (hC : C ≤ w.heap.size) (hr : Rd C w v (ss.map Value.string)) :
    Calls Try.prog 41 #[v, .func (.func 42) #[] #[]] w fun e w' => e = .returned (.bool (!shortB ss)) ∧ Below w.heap.size w w' := by
  have h := indexLong_any C w v ss hl hC hr
  obtain ⟨a, c, rfl⟩ := rd_slice hr
  generalize shortB ss = ok at h ⊢
  go_enter Try.func41, Try.ntmps41
  go_wp2_with fail
  refine h.mono ?_
  rintro e w1 ⟨⟨r, rfl, hk⟩, hb⟩
  go_wp2_with fail
  go_ret
  exact ⟨by rw [← hk]; rfl, hb⟩

set_option maxHeartbeats 1000000 in
set_option maxRecDepth 100000 in
theorem valuesOK_any (C : Nat) (w : World) (ca : Option Addr) (n cc : Nat) (v : Value) (ss : List ByteArray) (hl : ss.length ≤ 1048576) (hC : C ≤ w.heap.size) (hr : Rd C w v (ss.map Value.string)) :
    Calls Try.prog 38 #[.slice ca n cc, v] w fun e w' => e = .returned (.bool (valsOK n ss)) ∧ Below w.heap.size w w' := by
  have h := containsLong_any C w v ss hl hC hr
  rw [valsOK_eq]
  obtain ⟨a, c, rfl⟩ := rd_slice hr
  generalize shortB ss = ok at h ⊢
  by_cases he : ss.length = n
  · subst he
    go_enter Try.func38, Try.ntmps38
    go_wp2_with fail
    refine h.mono ?_
    rintro e w1 ⟨rfl, hb⟩
    go_wp2_with fail
    go_ret
    exact ⟨by simp [go_sem], hb⟩
  · have hd : decide ((ss.length : Int) = (n : Int)) = false := by simp; omega
    have hd2 : ((ss.length : Int) == (n : Int)) = false := by simp; omega
    have hd3 : ¬ ss.length = n := he
    rw [decide_eq_false he, Bool.false_and]
    go_enter Try.func38, Try.ntmps38
    go_wp2_with fail
    go_ret
    exact ⟨rfl, Below.refl _ _⟩

set_option maxHeartbeats 2000000 in
set_option maxRecDepth 100000 in
theorem l17RowOK_any (C : Nat) (w : World) (ca : Option Addr) (n cc : Nat) (v : Value) (ss : List ByteArray) (hl : ss.length ≤ 1048576) (hC : C ≤ w.heap.size) (hr : Rd C w v (ss.map Value.string)) :
    Calls Try.prog 34 #[.slice ca n cc, v] w fun e w' => e = .returned (.bool (valsOK n ss)) ∧ Below w.heap.size w w' := by
  rw [valsOK_eq]
  obtain ⟨ao, cap, rfl, _, _, _, hr⟩ := hr
  rw [List.length_map] at hr ⊢
  by_cases he : ss.length = n
  · subst he
    rw [decide_eq_true rfl, Bool.true_and]
    obtain ⟨ok, HOK⟩ : ∃ ok, Hid (shortB ss = ok) := ⟨_, rfl⟩
    rw [HOK.out]
    go_enter Try.func34, Try.ntmps34
    go_wp2_with fail
    go_loopw [5] (fun ti wr => ∃ k : Nat, k ≤ ss.length ∧ ti = .int .i64 (k : Int) ∧ Hid (∀ q t, q < k → ss[q]? = some t → t.size ≤ 200) ∧ Below w.heap.size w wr) (fun ti _ => ss.length - (intOf ti).toNat)
    case atStart => exact ⟨0, Nat.zero_le _, rfl, fun q t hq => absurd hq (by omega), Below.refl _ _⟩
    case round =>
      obtain ⟨k, hk, rfl, HQ, hb⟩ := hrel
      have hs := hb.size
      by_cases hlt : k < ss.length
      · have hki : (k : Int) < (ss.length : Int) := by omega
        have hk2 : (k : Int) + 1 < 9223372036854775808 := by omega
        obtain ⟨g, off, rfl, hg, hc⟩ := hr (by omega)
        obtain ⟨t, ht⟩ : ∃ t, ss[k]? = some t := ⟨ss[k], by simp [hlt]⟩
        have c1 : wr.cell? ⟨g, off + k, none⟩ = some (.string t) := (hb.cell (p := ⟨g, off + k, none⟩) (by show g < _; omega)).trans (hc k _ (by simp [ht]))
        by_cases hp : t.size ≤ 200
        · have HE : Hid (∀ q t, q < k + 1 → ss[q]? = some t → t.size ≤ 200) := fun q u hq hu => by
            by_cases e : q = k
            · subst e
              rw [ht] at hu
              injection hu with e
              subst e
              exact hp
            · exact HQ.out q u (by omega) hu
          have hd : decide ((200 : Int) < (t.size : Int)) = false := by simp; omega
          clear hc hr HQ ht
          go_wp2_with fail
          go_roundw
          case rel => exact ⟨k + 1, by omega, by go_num, HE, hb⟩
          case measure => simp [intOf]; omega
        · have HE : Hid (ok = false) := HOK.out.symm.trans (shortB_bad ht hp)
          have hd : (200 : Int) < (t.size : Int) := by omega
          clear hc hr HQ ht
          go_wp2_with fail
          go_ret
          exact ⟨by rw [HE.out]; rfl, hb⟩
      · have HE : Hid (ok = true) := HOK.out.symm.trans (shortB_of fun q t hq => HQ.out q t (by have := (List.getElem?_eq_some_iff.1 hq).1; omega) hq)
        have i1 : ¬ (k : Int) < (ss.length : Int) := by omega
        clear HQ hr
        go_wp2_with fail
        go_ret
        exact ⟨by rw [HE.out]; rfl, hb⟩
  · have hd3 : ¬ ss.length = n := he
    have hd : ¬ (ss.length : Int) = (n : Int) := by omega
    rw [decide_eq_false he, Bool.false_and]
    go_enter Try.func34, Try.ntmps34
    go_wp2_with fail
    go_ret
    exact ⟨rfl, Below.refl _ _⟩
end Go.Proofs.Ytlncfeakcgjioaa
