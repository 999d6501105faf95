/- Whether rows are valid, by the specification: l17RowsOK. No condition: they are lemmas. -/
import Derived.Test.YtlncfeakcgjioaaColSpec
import Derived.Test.YtlncfeakcgjioaaValsOK
namespace Go.Proofs.Ytlncfeakcgjioaa
open Go.RowKit
set_option linter.unusedVariables false

set_option maxHeartbeats 8000000 in
set_option maxRecDepth 100000 in
theorem l17RowsOK_any (C : Nat) (w : World) (co : Option Addr) (n cc : Nat) (v : Value) (P : List Rw) (hl : P.length ≤ 1048576) (hd : ∀ x ∈ P, x.2.length ≤ 1048576) (hC : C ≤ w.heap.size) (hr : RdRw C w v P) :
    Calls Try.prog 20 #[.slice co n cc, v] w fun r w' => r = .returned (.bool (rowsB n P)) ∧ Below w.heap.size w w' := by
  obtain ⟨ao, cap, rfl, -, -, -, hr⟩ := hr
  by_cases h16 : 2048 < P.length
  · have HO : Hid (rowsB n P = false) := rowsB_big h16
    have j : (2048 : Int) < (P.length : Int) := by omega
    go_enter Try.func20, Try.ntmps20
    go_wp2_with fail
    go_ret
    exact ⟨by rw [HO.out]; rfl, Below.refl _ _⟩
  · have j : decide ((2048 : Int) < (P.length : Int)) = false := by simp; omega
    have HBAD : Hid (∀ k, k < P.length → rwOK n P k = false → rowsB n P = false) := fun k h hb => rowsB_bad h hb
    have HALL : Hid ((∀ k, k < P.length → rwOK n P k = true) → rowsB n P = true) := fun h => rowsB_of (by omega) h
    obtain ⟨ok, HOKF⟩ : ∃ ok, Hid (rowsB n P = ok) := ⟨_, rfl⟩
    have HPOST : Hid (∀ (r : Ending) (w' : World), (r = .returned (.bool ok) ∧ Below w.heap.size w w') → (r = .returned (.bool (rowsB n P)) ∧ Below w.heap.size w w')) := fun r w' h => by rw [HOKF.out]; exact h
    go_enter Try.func20, Try.ntmps20
    go_wp2_with fail
    go_loopw [5] (fun ti wr => ∃ k : Nat, k ≤ P.length ∧ ti = .int .i64 (k : Int) ∧ Hid (∀ i, i < k → rwOK n P i = true) ∧ Below w.heap.size w wr) (fun ti _ => P.length - (intOf ti).toNat)
    case atStart => exact ⟨0, Nat.zero_le _, rfl, fun i hi => absurd hi (by omega), Below.refl _ _⟩
    case round =>
      obtain ⟨k, hk, rfl, HA, hB⟩ := hrel
      have hsz := hB.size
      by_cases hlt : k < P.length
      · obtain ⟨g, off, rfl, hg, hc⟩ := hr (by omega)
        have hx0 := rwAt_get hlt
        obtain ⟨d0, u, d1, r1⟩ := (hc k _ hx0).below (hB.mono hC) hg
        have hxl := hd _ (List.mem_of_getElem? hx0)
        have j0 : (0 : Int) ≤ (k : Int) := by omega
        have j1 : (k : Int) < (P.length : Int) := by omega
        have j2 : (k : Int) + 1 < 9223372036854775808 := by omega
        obtain ⟨x, hx⟩ : ∃ x, (rwAt P k).1 = x := ⟨_, rfl⟩
        obtain ⟨y, hy⟩ : ∃ y, (rwAt P k).2 = y := ⟨_, rfl⟩
        rw [hx] at d0
        rw [hy] at r1 hxl
        have HPR : Hid (rwOK n P k = ((decide (1 ≤ x.size) && decide (x.size ≤ 200)) && (decide (k = 0) || ltN (rwAt P (k - 1)).1 x) && valsOK n y)) := by unfold Hid rwOK; rw [hx, hy, keyB_eq]
        have HNX : Hid (rwOK n P k = true → ∀ i, i < k + 1 → rwOK n P i = true) := fun h i hi => by
          rcases Nat.lt_or_ge i k with e | e
          · exact HA.out i e
          · obtain rfl : i = k := by omega
            exact h
        obtain ⟨ua, uc, rfl⟩ := rd_slice r1
        have hV := l17RowOK_any C wr co n cc _ y hxl (by omega) r1
        have HPV : Hid (∀ j, j < P.length → wr.cell? ⟨g, off + j * 2, none⟩ = some (.string (rwAt P j).1)) := fun j hj => (hB.cell (p := ⟨g, off + j * 2, none⟩) (by show g < _; omega)).trans (hc j _ (rwAt_get hj)).1
        clear hc hr r1 hx hy hx0 hxl hd HA hsz
        by_cases hx1 : x.size < 1
        · have HK : Hid (rwOK n P k = false) := by unfold Hid; rw [HPR.out, decide_eq_false (by omega)]; rfl
          have jx : (x.size : Int) < 1 := by omega
          clear HPR HNX HPV hx1 hV
          go_wp2_with fail
          go_ret
          exact HPOST.out _ _ ⟨by rw [(HBAD.out k hlt HK.out |> HOKF.out.symm.trans)]; rfl, hB⟩
        by_cases hx2 : 200 < x.size
        · have HK : Hid (rwOK n P k = false) := by unfold Hid; rw [HPR.out, decide_eq_false (p := x.size ≤ 200) (by omega), Bool.and_false]; rfl
          have jx0 : decide ((x.size : Int) < 1) = false := by simp; omega
          have jx : (200 : Int) < (x.size : Int) := by omega
          clear HPR HNX HPV hx1 hx2 hV
          go_wp2_with fail
          go_ret
          exact HPOST.out _ _ ⟨by rw [(HBAD.out k hlt HK.out |> HOKF.out.symm.trans)]; rfl, hB⟩
        rw [decide_eq_true (p := 1 ≤ x.size) (by omega), decide_eq_true (p := x.size ≤ 200) (by omega), Bool.and_true, Bool.true_and] at HPR
        have jx0 : decide ((x.size : Int) < 1) = false := by simp; omega
        have jx : decide ((200 : Int) < (x.size : Int)) = false := by simp; omega
        clear hx1 hx2
        generalize valsOK n y = bv at *
        by_cases hk0 : k = 0
        · subst hk0
          have c00 : wr.cell? ⟨g, off, none⟩ = some (.string x) := by have := d0; rwa [Nat.zero_mul, Nat.add_zero] at this
          have c01 : wr.cell? ⟨g, off + 1, none⟩ = some (.slice ua y.length uc) := by have := d1; rwa [Nat.zero_mul, Nat.add_zero] at this
          clear HPV d0 d1
          cases bv with
          | true =>
            have HK : Hid (∀ i, i < 0 + 1 → rwOK n P i = true) := HNX.out (by rw [HPR.out]; rfl)
            clear HPR HNX
            go_wp2_with fail
            refine hV.mono ?_
            rintro e w9 ⟨rfl, hb9⟩
            have hB2 := below_seq hB hb9
            clear hV
            go_wp2_with fail
            go_roundw
            case rel => exact ⟨0 + 1, by omega, by go_num, HK.out, hB2⟩
            case measure => simp [intOf]; omega
          | false =>
            have HK : Hid (rwOK n P 0 = false) := by unfold Hid; rw [HPR.out]; rfl
            clear HPR HNX
            go_wp2_with fail
            refine hV.mono ?_
            rintro e w9 ⟨rfl, hb9⟩
            have hB2 := below_seq hB hb9
            clear hV
            go_wp2_with fail
            go_ret
            exact HPOST.out _ _ ⟨by rw [(HBAD.out 0 hlt HK.out |> HOKF.out.symm.trans)]; rfl, hB2⟩
        · obtain ⟨q, hq⟩ : ∃ q, k = q + 1 := ⟨k - 1, by omega⟩
          have hpv := HPV.out q (by omega)
          have jq0 : (0 : Int) < (k : Int) := by omega
          have jqN : 0 < k := by omega
          have jq2 : (0 : Int) ≤ (q : Int) := by omega
          have jq3 : (q : Int) < (P.length : Int) := by omega
          rw [show k - 1 = q by omega, decide_eq_false hk0] at HPR
          obtain ⟨px, hpx⟩ : ∃ px, (rwAt P q).1 = px := ⟨_, rfl⟩
          rw [hpx] at HPR hpv
          have hwr : IntKind.i64.wrap ((k : Int) - 1) = (q : Int) := by rw [IntKind.wrap_i64]; omega
          clear HPV hpx hq hk0
          have hleq := leN x px
          cases hlt9 : ltN px x with
          | true =>
            rw [hlt9] at hleq
            obtain ⟨hl1, hl2⟩ : Op.bytesLess x.toList px.toList = false ∧ ¬ x.toList = px.toList := by simpa using hleq
            have hl4 : (x.toList == px.toList) = false := by simpa using hl2
            have hl3 : (Op.bytesLess x.toList px.toList || x.toList == px.toList) = false := by rw [hl1, hl4]; rfl
            cases bv with
            | true =>
              have HK : Hid (∀ i, i < k + 1 → rwOK n P i = true) := HNX.out (by rw [HPR.out, hlt9]; simp)
              clear HPR HNX hleq hlt9
              go_wp2_with fail
              refine hV.mono ?_
              rintro e w9 ⟨rfl, hb9⟩
              have hB2 := below_seq hB hb9
              clear hV
              go_wp2_with fail
              go_roundw
              case rel => exact ⟨k + 1, by omega, by go_num, HK.out, hB2⟩
              case measure => simp [intOf]; omega
            | false =>
              have HK : Hid (rwOK n P k = false) := by unfold Hid; rw [HPR.out, hlt9]; simp
              clear HPR HNX hleq hlt9
              go_wp2_with fail
              refine hV.mono ?_
              rintro e w9 ⟨rfl, hb9⟩
              have hB2 := below_seq hB hb9
              clear hV
              go_wp2_with fail
              go_ret
              exact HPOST.out _ _ ⟨by rw [(HBAD.out k hlt HK.out |> HOKF.out.symm.trans)]; rfl, hB2⟩
          | false =>
            have HK : Hid (rwOK n P k = false) := by unfold Hid; rw [HPR.out, hlt9]; simp
            rw [hlt9] at hleq
            have hl1 : (Op.bytesLess x.toList px.toList || x.toList == px.toList) = true := by simpa using hleq
            have hl2 : Op.bytesLess x.toList px.toList = true ∨ x.toList = px.toList := by simpa using hleq
            clear HPR HNX hleq hlt9 hV
            go_wp2_with fail
            go_ret
            exact HPOST.out _ _ ⟨by rw [(HBAD.out k hlt HK.out |> HOKF.out.symm.trans)]; rfl, hB⟩
      · obtain rfl : k = P.length := by omega
        have HT : Hid (ok = true) := by unfold Hid; rw [← HOKF.out]; exact HALL.out HA.out
        have hn : ¬ (P.length : Int) < (P.length : Int) := by omega
        go_wp2_with fail
        go_ret
        exact HPOST.out _ _ ⟨by rw [HT.out]; rfl, hB⟩
end Go.Proofs.Ytlncfeakcgjioaa
