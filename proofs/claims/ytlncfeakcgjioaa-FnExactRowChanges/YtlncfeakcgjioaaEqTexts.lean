/- Whether two lists of texts are alike: slices.Equal, l17Same; a copy of one: slices.Clone. No condition: they are lemmas. -/
import Derived.Test.YtlncfeakcgjioaaRowMath
import Derived.WalkSpells
namespace Go.Proofs.Ytlncfeakcgjioaa
open Go.RowKit
set_option linter.unusedVariables false

set_option maxHeartbeats 2000000 in
set_option maxRecDepth 100000 in
theorem equalT_any (C C' : Nat) (w : World) (va vb : Value) (xs ys : List ByteArray) (hl : xs.length ≤ 1048576) (hC : C ≤ w.heap.size) (hC' : C' ≤ w.heap.size) (ha : Rd C w va (xs.map Value.string)) (hb : Rd C' w vb (ys.map Value.string)) :
    Calls Try.prog 26 #[va, vb] w fun e w' => e = .returned (.bool (eqT xs ys)) ∧ Below w.heap.size w w' := by
  obtain ⟨ao, ca, rfl, -, -, -, ha⟩ := ha
  obtain ⟨bo, cb, rfl, -, -, -, hb⟩ := hb
  rw [List.length_map] at ha hb ⊢
  rw [List.length_map]
  by_cases he : xs.length = ys.length
  · obtain ⟨ok, HOK⟩ : ∃ ok, Hid (eqT xs ys = ok) := ⟨_, rfl⟩
    rw [HOK.out]
    have HLN : Hid (xs.length = ys.length) := he
    rw [← he] at hb ⊢
    clear he
    go_enter Try.func26, Try.ntmps26
    go_wp2_with fail
    go_loopw [13] (fun ti wr => ∃ k : Nat, k ≤ xs.length ∧ ti = .int .i64 (k : Int) ∧ Hid (∀ (q : Nat) (x y : ByteArray), q < k → xs[q]? = some x → ys[q]? = some y → (x.toList == y.toList) = true) ∧ Below w.heap.size w wr) (fun ti _ => xs.length - (intOf ti).toNat)
    case atStart => exact ⟨0, Nat.zero_le _, rfl, fun q x y hq => absurd hq (by omega), Below.refl _ _⟩
    case round =>
      obtain ⟨k, hk, rfl, HQ, hB⟩ := hrel
      have hs := hB.size
      by_cases hlt : k < xs.length
      · have hki : (k : Int) < (xs.length : Int) := by omega
        have hk0 : (0 : Int) ≤ (k : Int) := by omega
        have hk2 : (k : Int) + 1 < 9223372036854775808 := by omega
        obtain ⟨g, off, rfl, hg, hc⟩ := ha (by omega)
        obtain ⟨g', off', rfl, hg', hc'⟩ := hb (by omega)
        obtain ⟨x, hx⟩ : ∃ x, xs[k]? = some x := ⟨xs[k], by simp [hlt]⟩
        obtain ⟨y, hy⟩ : ∃ y, ys[k]? = some y := ⟨ys[k]'(by have := HLN.out; omega), by simp [show k < ys.length by have := HLN.out; omega]⟩
        have c1 : wr.cell? ⟨g, off + k, none⟩ = some (.string x) := (hB.cell (p := ⟨g, off + k, none⟩) (by show g < _; omega)).trans (hc k _ (by simp [hx]))
        have c2 : wr.cell? ⟨g', off' + k, none⟩ = some (.string y) := (hB.cell (p := ⟨g', off' + k, none⟩) (by show g' < _; omega)).trans (hc' k _ (by simp [hy]))
        cases hp : (x.toList == y.toList) with
        | true =>
          have HE : Hid (∀ (q : Nat) (x y : ByteArray), q < k + 1 → xs[q]? = some x → ys[q]? = some y → (x.toList == y.toList) = true) := fun q a b hq h1 h2 => by
            by_cases e : q = k
            · subst e
              rw [hx] at h1
              rw [hy] at h2
              injection h1 with e1
              injection h2 with e2
              subst e1
              subst e2
              exact hp
            · exact HQ.out q a b (by omega) h1 h2
          have hp2 : x.toList = y.toList := by simpa using hp
          clear hc hc' ha hb HQ hx hy
          go_wp2_with fail
          go_quiet (fail)
          go_wp2_with fail
          go_roundw
          case rel => exact ⟨k + 1, by omega, by go_num, HE, nest_drewN hB _⟩
          case measure => simp [intOf]; omega
        | false =>
          have HE : Hid (ok = false) := HOK.out.symm.trans (eqT_bad hx hy hp)
          have hp2 : ¬ x.toList = y.toList := by simpa using hp
          clear hc hc' ha hb HQ hx hy
          go_wp2_with fail
          go_quiet (fail)
          go_wp2_with fail
          go_ret
          exact ⟨by rw [HE.out]; rfl, nest_drewN hB _⟩
      · have HE : Hid (ok = true) := HOK.out.symm.trans (eqT_of HLN.out fun q x y h1 h2 => HQ.out q x y (by have := (List.getElem?_eq_some_iff.1 h1).1; omega) h1 h2)
        have i1 : ¬ (k : Int) < (xs.length : Int) := by omega
        clear HQ ha hb
        go_wp2_with fail
        go_ret
        exact ⟨by rw [HE.out]; rfl, hB⟩
  · have HE : Hid (eqT xs ys = false) := eqT_len he
    have hd : ¬ (xs.length : Int) = (ys.length : Int) := by omega
    have hd3 : ¬ xs.length = ys.length := he
    go_enter Try.func26, Try.ntmps26
    go_wp2_with fail
    go_ret
    exact ⟨by rw [HE.out]; rfl, Below.refl _ _⟩

set_option maxHeartbeats 2000000 in
set_option maxRecDepth 100000 in
theorem l17Same_any (C C' : Nat) (w : World) (va vb : Value) (xs ys : List ByteArray) (hl : xs.length ≤ 1048576) (hC : C ≤ w.heap.size) (hC' : C' ≤ w.heap.size) (ha : Rd C w va (xs.map Value.string)) (hb : Rd C' w vb (ys.map Value.string)) :
    Calls Try.prog 21 #[va, vb] w fun e w' => e = .returned (.bool (eqT xs ys)) ∧ Below w.heap.size w w' := by
  obtain ⟨ao, ca, rfl, -, -, -, ha⟩ := ha
  obtain ⟨bo, cb, rfl, -, -, -, hb⟩ := hb
  rw [List.length_map] at ha hb ⊢
  rw [List.length_map]
  by_cases he : xs.length = ys.length
  · obtain ⟨ok, HOK⟩ : ∃ ok, Hid (eqT xs ys = ok) := ⟨_, rfl⟩
    rw [HOK.out]
    have HLN : Hid (xs.length = ys.length) := he
    rw [← he] at hb ⊢
    clear he
    go_enter Try.func21, Try.ntmps21
    go_wp2_with fail
    go_loopw [5] (fun ti wr => ∃ k : Nat, k ≤ xs.length ∧ ti = .int .i64 (k : Int) ∧ Hid (∀ (q : Nat) (x y : ByteArray), q < k → xs[q]? = some x → ys[q]? = some y → (x.toList == y.toList) = true) ∧ Below w.heap.size w wr) (fun ti _ => xs.length - (intOf ti).toNat)
    case atStart => exact ⟨0, Nat.zero_le _, rfl, fun q x y hq => absurd hq (by omega), Below.refl _ _⟩
    case round =>
      obtain ⟨k, hk, rfl, HQ, hB⟩ := hrel
      have hs := hB.size
      by_cases hlt : k < xs.length
      · have hki : (k : Int) < (xs.length : Int) := by omega
        have hk0 : (0 : Int) ≤ (k : Int) := by omega
        have hk2 : (k : Int) + 1 < 9223372036854775808 := by omega
        obtain ⟨g, off, rfl, hg, hc⟩ := ha (by omega)
        obtain ⟨g', off', rfl, hg', hc'⟩ := hb (by omega)
        obtain ⟨x, hx⟩ : ∃ x, xs[k]? = some x := ⟨xs[k], by simp [hlt]⟩
        obtain ⟨y, hy⟩ : ∃ y, ys[k]? = some y := ⟨ys[k]'(by have := HLN.out; omega), by simp [show k < ys.length by have := HLN.out; omega]⟩
        have c1 : wr.cell? ⟨g, off + k, none⟩ = some (.string x) := (hB.cell (p := ⟨g, off + k, none⟩) (by show g < _; omega)).trans (hc k _ (by simp [hx]))
        have c2 : wr.cell? ⟨g', off' + k, none⟩ = some (.string y) := (hB.cell (p := ⟨g', off' + k, none⟩) (by show g' < _; omega)).trans (hc' k _ (by simp [hy]))
        cases hp : (x.toList == y.toList) with
        | true =>
          have HE : Hid (∀ (q : Nat) (x y : ByteArray), q < k + 1 → xs[q]? = some x → ys[q]? = some y → (x.toList == y.toList) = true) := fun q a b hq h1 h2 => by
            by_cases e : q = k
            · subst e
              rw [hx] at h1
              rw [hy] at h2
              injection h1 with e1
              injection h2 with e2
              subst e1
              subst e2
              exact hp
            · exact HQ.out q a b (by omega) h1 h2
          have hp2 : x.toList = y.toList := by simpa using hp
          clear hc hc' ha hb HQ hx hy
          go_wp2_with fail
          go_quiet (fail)
          go_wp2_with fail
          go_roundw
          case rel => exact ⟨k + 1, by omega, by go_num, HE, nest_drewN hB _⟩
          case measure => simp [intOf]; omega
        | false =>
          have HE : Hid (ok = false) := HOK.out.symm.trans (eqT_bad hx hy hp)
          have hp2 : ¬ x.toList = y.toList := by simpa using hp
          clear hc hc' ha hb HQ hx hy
          go_wp2_with fail
          go_quiet (fail)
          go_wp2_with fail
          go_ret
          exact ⟨by rw [HE.out]; rfl, nest_drewN hB _⟩
      · have HE : Hid (ok = true) := HOK.out.symm.trans (eqT_of HLN.out fun q x y h1 h2 => HQ.out q x y (by have := (List.getElem?_eq_some_iff.1 h1).1; omega) h1 h2)
        have i1 : ¬ (k : Int) < (xs.length : Int) := by omega
        clear HQ ha hb
        go_wp2_with fail
        go_ret
        exact ⟨by rw [HE.out]; rfl, hB⟩
  · have HE : Hid (eqT xs ys = false) := eqT_len he
    have hd : ¬ (xs.length : Int) = (ys.length : Int) := by omega
    have hd3 : ¬ xs.length = ys.length := he
    go_enter Try.func21, Try.ntmps21
    go_wp2_with fail
    go_ret
    exact ⟨by rw [HE.out]; rfl, Below.refl _ _⟩

theorem run_eqlT (w : World) (a : Option Addr) (n c n' c' : Nat) : (binOp .eql 44 (.slice a n c) (.slice none n' c')).run Try.prog w = .ok (.bool a.isNone) w := Lib.run_eql_slice_nil w _ _ a n c n' c' Try.underlying44
theorem texts_one (ss : List ByteArray) : ∀ u ∈ ss.map Value.string, u.oneCell' = true := fun u hu => by
  obtain ⟨t, _, rfl⟩ := List.mem_map.1 hu
  rfl

set_option maxHeartbeats 1000000 in
set_option maxRecDepth 100000 in
theorem cloneT_any (C : Nat) (w : World) (v : Value) (ss : List ByteArray) (hl : ss.length ≤ 1048576) (hC : C ≤ w.heap.size) (hr : Rd C w v (ss.map Value.string)) :
    Calls Try.prog 25 #[v] w fun e w' => ∃ r, e = .returned r ∧ Own 9 w' w.heap.size r (ss.map Value.string) ∧ Below w.heap.size w w' := by
  obtain ⟨i0, hi, hz0, hz1, hz2⟩ := info_parts info9
  have qT := run_eqlT
  have hr0 := hr
  obtain ⟨ao, cap, rfl, _, _, _, hrr⟩ := hr0
  rw [List.length_map] at hrr hr
  cases ao with
  | none =>
    have h0 : ss = [] := by
      cases ss with
      | nil => rfl
      | cons p r => obtain ⟨g, off, e, _⟩ := hrr (by simp); cases e
    subst h0
    go_enter Try.func25, Try.ntmps25
    go_wp2_with fail
    go_ret
    exact ⟨_, rfl, ⟨rfl, .inl ⟨rfl, rfl⟩⟩, Below.refl _ _⟩
  | some a =>
    have ho := own_lit w 9 [] 0 rfl (by decide)
    have hb0 : Below w.heap.size w (w.alloc (.cells #[] 9)) := below_alloc _ _
    have hR := hr.below (hb0.mono hC)
    clear hr hrr
    rw [List.length_map]
    go_enter Try.func25, Try.ntmps25
    go_wp2_with (first | (at_builtin; refine wpList_append_rd rfl _ _ 44 rfl w.heap.size 9 i0 (.string ByteArray.empty) 16 Try.underlying44 hi hz0 hz1 hz2 rfl _ _ rfl ho C _ _ rfl hR (texts_one ss) (by simp [maxLen]; omega) (by simp; omega) hb0.size ?_))
    intro v6 w6 ho6 hg6
    have hb6 : Below w.heap.size w w6 := hb0.grown hg6 hb0.size (fun q hq => (World.ownsRow.lt ho q hq).1)
    obtain ⟨ra, rc, rfl⟩ := rd_slice ho6.rd
    clear hg6 hR ho
    go_wp2_with fail
    go_ret
    exact ⟨_, rfl, ho6, hb6⟩
end Go.Proofs.Ytlncfeakcgjioaa
