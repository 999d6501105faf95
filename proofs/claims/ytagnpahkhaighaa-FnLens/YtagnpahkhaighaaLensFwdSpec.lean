/- What the specification's LensForward answers. -/
import Derived.Test.YtagnpahkhaighaaLensFwdImpl
import Derived.Test.YtagnpahkhaighaaLensSpForm
import Derived.Test.YtagnpahkhaighaaLensSpTake
import Derived.Deep.RegionWith
namespace Go.Proofs.Ytagnpahkhaighaa
open Go.RowKit
set_option linter.unusedVariables false

theorem findV_hit {n : ByteArray} {ls : List Pr} (h : hasP n ls = true) : findV n ls = (posP n ls : Int) := by unfold findV; rw [h, if_pos rfl]
theorem findV_miss {n : ByteArray} {ls : List Pr} (h : hasP n ls = false) : findV n ls = -1 := by unfold findV; rw [h, if_neg Bool.false_ne_true]
theorem own_lit0 (w1 w : World) (h : w.heap.size ≤ w1.heap.size) : OwnPr (w1.alloc (.cells #[] 46)) w.heap.size (.slice (some ⟨w1.heap.size, 0, none⟩) 0 0) [] := ownM_mono (World.ownsRow_lit w1 #[] 0 (Nat.le_refl _) (by decide) (by simp)) h

set_option maxHeartbeats 8000000 in
set_option maxRecDepth 100000 in
theorem specFwd_any (C : Nat) (w : World) (va vb : Value) (a : List St) (b : List Pr) (hla : a.length ≤ 1048576) (hlb : b.length ≤ 1048576) (hC : C ≤ w.heap.size) (ha : RdM 4 C w va a.length (stCs a)) (hb : RdM 2 C w vb b.length (prCs b)) :
    Calls Try.prog 8 #[va, vb] w fun e w' => ∃ r, e = .returned (.tuple #[r, .int .i64 (fwdC a b)]) ∧ OwnPr w' w.heap.size r (fwdL a b) ∧ Below w.heap.size w w' := by
  obtain ⟨i0, hi, hz0, hz1, hz2⟩ := info_parts infoPair
  have hA := l14LensOK_any C w _ a hla hC ha.st
  have hB := fun w' (hw : Below w.heap.size w w') => l14FormOK_any C w' _ b hlb (Nat.le_trans hC hw.size) (hb.on hC hw).pr
  have HB : Hid (∀ w', Below w.heap.size w w' → RdM 2 C w' vb b.length (prCs b)) := fun w' hw => hb.on hC hw
  have hast := ha.st
  obtain ⟨ao, ca, ea, hrow⟩ := hast
  obtain ⟨bo, cb, eb⟩ : ∃ bo cb, vb = .slice bo b.length cb := by obtain ⟨_, bo, cb, e, _⟩ := hb; exact ⟨bo, cb, e⟩
  subst ea eb
  have HJ : Hid (fwdC a b = if okLens a && okForm b then (fwdP a b).1 else 1) := rfl
  have HK : Hid (fwdL a b = if okLens a && okForm b then (fwdP a b).2 else []) := rfl
  have HVAL : Hid (okLens a = true → (∀ k, k < a.length → okSt (stAt a k) = true) ∧ a.length ≤ 32) := fun h => ⟨fun k hk => okLens_mem h _ (stAt_mem hk), okLens_le h⟩
  have HFRM : Hid (okForm b = true → Rises b ∧ b.length ≤ 64) := fun h => ⟨okForm_rises h, okForm_len h⟩
  clear ha hb
  obtain ⟨dd, HD⟩ : ∃ dd, Hid (fwdP a b = dd) := ⟨_, rfl⟩
  obtain ⟨d1, d2⟩ := dd
  rw [HD.out] at HJ HK
  generalize fwdC a b = jc at *
  generalize fwdL a b = jl at *
  go_enter Try.func8, Try.ntmps8
  cases hoa : okLens a with
  | false =>
    rw [hoa] at hA HJ HK
    have HE1 : Hid (jc = 1) := by unfold Hid; rw [HJ.out]; rfl
    have HE2 : Hid (jl = []) := by unfold Hid; rw [HK.out]; rfl
    clear hoa
    go_wp2_with fail
    refine hA.mono ?_
    rintro e w1 ⟨rfl, hb1⟩
    go_wp2_with fail
    go_ret2
    exact ⟨_, by rw [HE1.out]; rfl, by rw [HE2.out]; exact own_lit0 w1 w hb1.size, below_then hb1 _⟩
  | true =>
    rw [hoa] at hA HJ HK
    cases hob : okForm b with
    | false =>
      rw [hob] at hB HJ HK
      have HE1 : Hid (jc = 1) := by unfold Hid; rw [HJ.out]; rfl
      have HE2 : Hid (jl = []) := by unfold Hid; rw [HK.out]; rfl
      clear hoa hob
      go_wp2_with fail
      refine hA.mono ?_
      rintro e w1 ⟨rfl, hb1⟩
      have hB1 := hB w1 hb1
      clear hA hB
      go_wp2_with fail
      refine hB1.mono ?_
      rintro e w2 ⟨rfl, hb2⟩
      have hbw := below_seq hb1 hb2
      clear hB1 hb1 hb2
      go_wp2_with fail
      go_ret2
      exact ⟨_, by rw [HE1.out]; rfl, by rw [HE2.out]; exact own_lit0 w2 w hbw.size, below_then hbw _⟩
    | true =>
      rw [hob] at hB HJ HK
      have HE1 : Hid (jc = d1) := by unfold Hid; rw [HJ.out]; rfl
      have HE2 : Hid (jl = d2) := by unfold Hid; rw [HK.out]; rfl
      obtain ⟨hvl, h32⟩ := HVAL.out hoa
      obtain ⟨hRb, hb64⟩ := HFRM.out hob
      have HOK : Hid (∀ k, k < a.length → okSt (stAt a k) = true) := hvl
      have HR0 : Hid (Rises b ∧ b.length ≤ 64) := ⟨hRb, hb64⟩
      have HS0 : Hid (fwdP (a.drop 0) b = (d1, d2)) := HD.out
      clear hoa hob hvl hRb HVAL HFRM HJ HK HD
      go_wp2_with fail
      refine hA.mono ?_
      rintro e w1 ⟨rfl, hb1⟩
      have hB1 := hB w1 hb1
      clear hA hB
      go_wp2_with fail
      refine hB1.mono ?_
      rintro e w2 ⟨rfl, hb2⟩
      have hbw := below_seq hb1 hb2
      clear hB1 hb1 hb2
      have ho : (w2.alloc (.cells #[] 46)).ownsRow w.heap.size 46 2 (.slice (some ⟨w2.heap.size, 0, none⟩) 0 0) 0 [] := own_lit0 w2 w hbw.size
      have hbq := below_then hbw (.cells #[] 46)
      have hRb := HB.out _ hbq
      go_wp2_with (first | (at_builtin; refine wpList_append_rdM rfl _ _ 26 rfl w.heap.size 46 i0 (.agg #[.string ByteArray.empty, .string ByteArray.empty]) 2 32 Try.underlying26 hi hz0 hz1 hz2 rfl (by decide) _ _ _ rfl ho C _ _ _ rfl hRb (prCs_one b) (by unfold maxLen; omega) (by omega) hbq.size ?_))
      intro v6 w6 ho6 hg6
      have hb6 : Below w.heap.size w w6 := hbq.grown hg6 hbq.size (fun q hq => (World.ownsRow.lt ho q hq).1)
      have HO0 : Hid (OwnPr w6 w.heap.size v6 b) := by
        first
          | exact ho6
          | (have := ho6; rw [Nat.zero_add, List.nil_append] at this; exact this)
      obtain ⟨ra, rn, rc, hre⟩ := own_slice3 HO0.out
      subst hre
      clear ho6 hg6 ho hRb hbq hbw HB
      go_wp2_with fail
      go_loopw [6, 7] (fun tl ti wr => ∃ (k : Nat) (cur : List Pr) (ta : Option Addr) (tn tc : Nat), k ≤ a.length ∧ ti = .int .i64 (k : Int) ∧ tl = .slice ta tn tc ∧ Hid (OwnPr wr w.heap.size (.slice ta tn tc) cur) ∧ Hid (fwdP (a.drop k) cur = (d1, d2)) ∧ Hid (Rises cur ∧ cur.length ≤ 64) ∧ Below w.heap.size w wr) (fun _ ti _ => a.length - (intOf ti).toNat)
      case atStart => exact ⟨0, b, ra, rn, rc, Nat.zero_le _, rfl, rfl, HO0, HS0, HR0, hb6⟩
      case round =>
        clear HO0 HS0 HR0 hb6
        obtain ⟨k, cur, ta, tn, tc, hk, rfl, rfl, HO, HF, HC, hB⟩ := hrel
        have hsz := hB.size
        by_cases hlt : k < a.length
        · obtain ⟨g, off, rfl, hg, hc⟩ := hrow (by omega)
          obtain ⟨ta2, tc2, et⟩ := own_sliceM HO.out
          simp only [Value.slice.injEq] at et
          obtain ⟨rfl, rfl, rfl⟩ := et
          have d0 : wr.cell? ⟨g, off + k * 4, none⟩ = _ := (hB.cell (p := ⟨g, off + k * 4, none⟩) (by show g < _; omega)).trans (hc k hlt).1
          have d1' : wr.cell? ⟨g, off + k * 4 + 1, none⟩ = _ := (hB.cell (p := ⟨g, off + (k * 4 + 1), none⟩) (by show g < _; omega)).trans (hc k hlt).2.1
          have d2' : wr.cell? ⟨g, off + k * 4 + 2, none⟩ = _ := (hB.cell (p := ⟨g, off + (k * 4 + 2), none⟩) (by show g < _; omega)).trans (hc k hlt).2.2.1
          have d3' : wr.cell? ⟨g, off + k * 4 + 3, none⟩ = _ := (hB.cell (p := ⟨g, off + (k * 4 + 3), none⟩) (by show g < _; omega)).trans (hc k hlt).2.2.2
          have HST : Hid ((doP (stAt a k) cur).1 ≠ 0 → (d1, d2) = ((doP (stAt a k) cur).1, [])) := fun h => by
            rw [← HF.out]
            rw [List.drop_eq_getElem_cons hlt]
            have e : stAt a k = a[k] := by simp [stAt, hlt]
            rw [← e, fwdP, if_neg h]
          have HGO : Hid ((doP (stAt a k) cur).1 = 0 → fwdP (a.drop (k + 1)) (doP (stAt a k) cur).2 = (d1, d2) ∧ Rises (doP (stAt a k) cur).2 ∧ (doP (stAt a k) cur).2.length ≤ 64) := fun h => by
            refine ⟨?_, doP_rises HC.out.1 HC.out.2 (HOK.out k hlt) h⟩
            rw [← HF.out, List.drop_eq_getElem_cons hlt]
            have e : stAt a k = a[k] := by simp [stAt, hlt]
            rw [← e, fwdP, if_pos h]
          have j0 : (0 : Int) ≤ (k : Int) := by omega
          have j1 : (k : Int) < (a.length : Int) := by omega
          have j2 : (k : Int) + 1 < 9223372036854775808 := by omega
          have hok := HOK.out k hlt
          obtain ⟨hRc, hcl⟩ := HC.out
          have HRC : Hid (Rises cur) := hRc
          generalize stAt a k = ee at *
          obtain ⟨x, y, z, u⟩ := ee
          replace d0 : wr.cell? ⟨g, off + k * 4, none⟩ = some (.int .i64 x) := d0
          replace d1' : wr.cell? ⟨g, off + k * 4 + 1, none⟩ = some (.string y) := d1'
          replace d2' : wr.cell? ⟨g, off + k * 4 + 2, none⟩ = some (.string z) := d2'
          replace d3' : wr.cell? ⟨g, off + k * 4 + 3, none⟩ = some (.string u) := d3'
          have hBW : Below w.heap.size w (wr.alloc (.cells #[.int .i64 x, .string y, .string z, .string u] 43)) := below_then hB _
          have HOW : Hid (OwnPr (wr.alloc (.cells #[.int .i64 x, .string y, .string z, .string u] 43)) w.heap.size (.slice ta cur.length tc) cur) := World.ownsRow.alloc HO.out _
          have hRdW : RdPr (wr.alloc (.cells #[.int .i64 x, .string y, .string z, .string u] 43)).heap.size (wr.alloc (.cells #[.int .i64 x, .string y, .string z, .string u] 43)) (.slice ta cur.length tc) cur := (ownM_rd HOW.out).pr
          have hsW := hBW.size
          have hfindY := l14Find_any _ (wr.alloc (.cells #[.int .i64 x, .string y, .string z, .string u] 43)) _ cur y hcl hRc (Nat.le_refl _) hRdW
          clear hc hrow HO HF HC HOK hB hsz
          by_cases hx1 : x = 1
          · subst hx1
            have hfindZ := l14Find_any _ (wr.alloc (.cells #[.int .i64 1, .string y, .string z, .string u] 43)) _ cur z hcl hRc (Nat.le_refl _) hRdW
            have hne : eqN y z = false := by
              unfold okSt at hok
              simp only [if_true, Bool.and_eq_true, Bool.not_eq_true'] at hok
              exact hok.1.2
            cases hh : hasP y cur with
            | false =>
              have HDO : doP (1, y, z, u) cur = (14, []) := by unfold doP; simp only [hh]; rfl
              have hfy := findV_miss hh
              clear hh hfindZ
              have HE : Hid ((d1, d2) = (14, ([] : List Pr))) := by
                have := HST.out (by rw [HDO]; decide)
                rw [HDO] at this
                exact this
              rw [hfy] at hfindY
              clear HST HGO HDO hfy hRdW HOW hRc HRC
              go_wp2_with (go_at_call 28; refine hfindY.mono ?_; rintro e w' ⟨rfl, hw⟩; subst hw)
              go_ret2
              refine ⟨.slice (some ⟨wr.heap.size + 1, 0, none⟩) 0 0, ?_, ?_, below_then hBW _⟩
              rotate_left
              · have e2 := congrArg Prod.snd HE.out
                simp only at e2
                rw [HE2.out, e2]
                have h0 := own_lit0 _ w hBW.size
                rw [World.size_alloc] at h0
                exact h0
              · have e1 := congrArg Prod.fst HE.out
                simp only at e1
                rw [HE1.out, e1]
                rfl
            | true =>
              have hfy := findV_hit hh
              have jp : (0 : Int) ≤ (posP y cur : Int) := by omega
              cases hz : hasP z cur with
              | true =>
                have HDO : doP (1, y, z, u) cur = (14, []) := by unfold doP; simp only [hh, hz]; rfl
                have hfz := findV_hit hz
                have jp2 : (0 : Int) ≤ (posP z cur : Int) := by omega
                rw [hfz] at hfindZ
                clear hh hz hfz
                have HE : Hid ((d1, d2) = (14, ([] : List Pr))) := by
                  have := HST.out (by rw [HDO]; decide)
                  rw [HDO] at this
                  exact this
                rw [hfy] at hfindY
                clear HST HGO HDO hfy hRdW HOW hRc HRC
                go_wp2_with (first | (go_at_call 28; refine hfindY.mono ?_; clear hfindY; rintro e w' ⟨rfl, hw⟩; subst hw) | (go_at_call 28; refine hfindZ.mono ?_; clear hfindZ; rintro e w' ⟨rfl, hw⟩; subst hw))
                go_ret2
                refine ⟨.slice (some ⟨wr.heap.size + 1, 0, none⟩) 0 0, ?_, ?_, below_then hBW _⟩
                rotate_left
                · have e2 := congrArg Prod.snd HE.out
                  simp only at e2
                  rw [HE2.out, e2]
                  have h0 := own_lit0 _ w hBW.size
                  rw [World.size_alloc] at h0
                  exact h0
                · have e1 := congrArg Prod.fst HE.out
                  simp only at e1
                  rw [HE1.out, e1]
                  rfl
              | false =>
                have HDO : doP (1, y, z, u) cur = (0, putP (z, (prAt cur (posP y cur)).2) (dropP y cur)) := by unfold doP; simp only [hh, hz]; rfl
                have hfz := findV_miss hz
                rw [hfz] at hfindZ
                have hpl := (hasP_lt hh).1
                have HDR : Hid (Rises (dropP y cur) ∧ (dropP y cur).length ≤ 64) := ⟨dropP_rises hRc hh, by have := dropP_len hh; omega⟩
                have htk := l14Take_any _ (wr.alloc (.cells #[.int .i64 1, .string y, .string z, .string u] 43)).drew _ cur (posP y cur) hcl hpl (Nat.le_refl _) (ownM_rd (World.ownsRow.drew HOW.out))
                have HDP : Hid (dropP y cur = cur.take (posP y cur) ++ cur.drop (posP y cur + 1)) := rfl
                rw [← HDP.out] at htk
                have HTK : Hid _ := htk
                obtain ⟨gg, cc, hte, _⟩ : ∃ gg cc, Value.slice ta cur.length tc = .slice (some ⟨gg, 0, none⟩) cur.length cc ∧ True := by
                  rcases ownM_shape HOW.out with ⟨_, h0, _⟩ | ⟨gg, cc, e, _⟩
                  · omega
                  · exact ⟨gg, cc, e, trivial⟩
                simp only [Value.slice.injEq] at hte
                obtain ⟨rfl, _, rfl⟩ := hte
                have ct : (wr.alloc (.cells #[.int .i64 1, .string y, .string z, .string u] 43)).cell? ⟨gg, posP y cur * 2 + 1, none⟩ = some (.string (prAt cur (posP y cur)).2) := by
                  rw [World.ownsRow.cellAt HOW.out _ (by omega)]
                  exact (prCs_at hpl).2
                have jpl : (posP y cur : Int) < (cur.length : Int) := by omega
                obtain ⟨tx, htx⟩ : ∃ tx, (prAt cur (posP y cur)).2 = tx := ⟨_, rfl⟩
                rw [htx] at ct HDO
                clear hh hz hfz htk HDP htx
                have HG := HGO.out (by rw [HDO])
                rw [HDO] at HG
                have HF2 : Hid (fwdP (a.drop (k + 1)) (putP (z, tx) (dropP y cur)) = (d1, d2)) := HG.1
                have HC2 : Hid (Rises (putP (z, tx) (dropP y cur)) ∧ (putP (z, tx) (dropP y cur)).length ≤ 64) := HG.2
                rw [hfy] at hfindY
                have c2 : (wr.alloc (.cells #[.int .i64 1, .string y, .string z, .string u] 43)).drew.cell? ⟨wr.heap.size, 2, none⟩ = some (.string z) := cell_made (Below.refl _ _) (k := 2) rfl
                clear HST HGO HDO HG hfy hRdW HOW hRc HRC
                go_wp2_with (first | (go_at_call 28; refine hfindY.mono ?_; clear hfindY; rintro e w' ⟨rfl, hw⟩; subst hw) | (go_at_call 28; refine hfindZ.mono ?_; clear hfindZ; rintro e w' ⟨rfl, hw⟩; subst hw))
                have htk := HTK.out
                go_region_with (first | (go_at_call 30; refine Calls.mono htk ?_; clear htk; rintro e w3 ⟨r3, rfl, ho3, hb3⟩; obtain ⟨ma, mn, mc, hme⟩ := own_slice3 ho3; subst hme; have hput := l14Put_any _ w3 _ (dropP y cur) z tx HDR.out.2 HDR.out.1 (Nat.le_refl _) (ownM_rd ho3); have c23 := cell_on hb3 c2; have hB3 := below_seq hBW.drew hb3; clear ho3) | (go_at_call 29; refine hput.mono ?_; clear hput; rintro e w4 ⟨r4, rfl, ho4, hb4⟩; obtain ⟨na, nn, nc, hne⟩ := own_slice3 ho4; subst hne; have HO2 : Hid (OwnPr w4 w.heap.size (.slice na nn nc) (putP (z, tx) (dropP y cur))) := ownM_mono ho4 hB3.size; have hB2 := below_seq hB3 hb4; clear ho4 hb4))
                all_goals
                  go_wp2_with fail
                  go_roundw
                all_goals first
                  | (case rel => exact ⟨k + 1, _, na, nn, nc, by omega, by go_num, rfl, HO2, HF2, HC2, hB2⟩)
                  | (case measure => simp [intOf]; omega)
          · by_cases hx2 : x = 2
            · subst hx2
              cases hh : hasP y cur with
              | true =>
                have HDO : doP (2, y, z, u) cur = (14, []) := by unfold doP withP; simp only [hh]; rfl
                have hfy := findV_hit hh
                have jp : (0 : Int) ≤ (posP y cur : Int) := by omega
                clear hh
                have HE : Hid ((d1, d2) = (14, ([] : List Pr))) := by
                  have := HST.out (by rw [HDO]; decide)
                  rw [HDO] at this
                  exact this
                rw [hfy] at hfindY
                clear HST HGO HDO hfy hRdW HOW hRc HRC
                go_wp2_with (go_at_call 28; refine hfindY.mono ?_; rintro e w' ⟨rfl, hw⟩; subst hw)
                go_ret2
                refine ⟨.slice (some ⟨wr.heap.size + 1, 0, none⟩) 0 0, ?_, ?_, below_then hBW _⟩
                rotate_left
                · have e2 := congrArg Prod.snd HE.out
                  simp only at e2
                  rw [HE2.out, e2]
                  have h0 := own_lit0 _ w hBW.size
                  rw [World.size_alloc] at h0
                  exact h0
                · have e1 := congrArg Prod.fst HE.out
                  simp only at e1
                  rw [HE1.out, e1]
                  rfl
              | false =>
                have hfy := findV_miss hh
                by_cases h64 : cur.length = 64
                · have HDO : doP (2, y, z, u) cur = (11, []) := by unfold doP withP; simp only [hh, h64]; rfl
                  have j64 : ((cur.length : Int) == 64) = true := by simp; omega
                  clear hh h64
                  have HE : Hid ((d1, d2) = (11, ([] : List Pr))) := by
                    have := HST.out (by rw [HDO]; decide)
                    rw [HDO] at this
                    exact this
                  rw [hfy] at hfindY
                  clear HST HGO HDO hfy hRdW HOW hRc HRC
                  go_wp2_with (go_at_call 28; refine hfindY.mono ?_; rintro e w' ⟨rfl, hw⟩; subst hw)
                  go_ret2
                  refine ⟨.slice (some ⟨wr.heap.size + 1, 0, none⟩) 0 0, ?_, ?_, below_then hBW _⟩
                  rotate_left
                  · have e2 := congrArg Prod.snd HE.out
                    simp only at e2
                    rw [HE2.out, e2]
                    have h0 := own_lit0 _ w hBW.size
                    rw [World.size_alloc] at h0
                    exact h0
                  · have e1 := congrArg Prod.fst HE.out
                    simp only at e1
                    rw [HE1.out, e1]
                    rfl
                · have HDO : doP (2, y, z, u) cur = (0, putP (y, u) cur) := by unfold doP withP; simp only [hh, h64]; rfl
                  have j64 : ((cur.length : Int) == 64) = false := by simp; omega
                  have hput := l14Put_any _ (wr.alloc (.cells #[.int .i64 2, .string y, .string z, .string u] 43)) _ cur y u hcl HRC.out (Nat.le_refl _) (ownM_rd HOW.out)
                  clear hh h64
                  have HG := HGO.out (by rw [HDO])
                  rw [HDO] at HG
                  have HF2 : Hid (fwdP (a.drop (k + 1)) (putP (y, u) cur) = (d1, d2)) := HG.1
                  have HC2 : Hid (Rises (putP (y, u) cur) ∧ (putP (y, u) cur).length ≤ 64) := HG.2
                  rw [hfy] at hfindY
                  clear HST HGO HDO HG hfy hRdW HOW hRc HRC
                  go_wp2_with (first | (go_at_call 28; refine hfindY.mono ?_; rintro e w' ⟨rfl, hw⟩; subst hw) | (go_at_call 29; refine hput.mono ?_; rintro e w3 ⟨r3, rfl, ho3, hb3⟩; obtain ⟨na, nn, nc, hne⟩ := own_slice3 ho3; subst hne; have HO2 : Hid (OwnPr w3 w.heap.size (.slice na nn nc) (putP (y, u) cur)) := ownM_mono ho3 hsW; have hB2 := below_seq hBW hb3; clear ho3 hb3))
                  go_roundw
                  case rel => exact ⟨k + 1, _, na, nn, nc, by omega, by go_num, rfl, HO2, HF2, HC2, hB2⟩
                  case measure => simp [intOf]; omega
            · have HD3 : ∀ l, doP (x, y, z, u) l = if hasP y l then (0, dropP y l) else (14, []) := fun l => by unfold doP; simp only [hx1, hx2, if_false]
              have e1 : (x == 1) = false := by simpa using hx1
              have e2 : (x == 2) = false := by simpa using hx2
              have e3 : (x != 2) = true := by simp [hx2]
              cases hh : hasP y cur with
              | false =>
                have HDO : doP (x, y, z, u) cur = (14, []) := by rw [HD3, hh]; rfl
                have hfy := findV_miss hh
                clear hh HD3 hx1 hx2
                have HE : Hid ((d1, d2) = (14, ([] : List Pr))) := by
                  have := HST.out (by rw [HDO]; decide)
                  rw [HDO] at this
                  exact this
                rw [hfy] at hfindY
                clear HST HGO HDO hfy hRdW HOW hRc HRC
                go_wp2_with (go_at_call 28; refine hfindY.mono ?_; rintro e w' ⟨rfl, hw⟩; subst hw)
                go_ret2
                refine ⟨.slice (some ⟨wr.heap.size + 1, 0, none⟩) 0 0, ?_, ?_, below_then hBW _⟩
                rotate_left
                · have e2 := congrArg Prod.snd HE.out
                  simp only at e2
                  rw [HE2.out, e2]
                  have h0 := own_lit0 _ w hBW.size
                  rw [World.size_alloc] at h0
                  exact h0
                · have e1 := congrArg Prod.fst HE.out
                  simp only at e1
                  rw [HE1.out, e1]
                  rfl
              | true =>
                have HDO : doP (x, y, z, u) cur = (0, dropP y cur) := by rw [HD3, hh]; rfl
                have hfy := findV_hit hh
                have hpl := (hasP_lt hh).1
                have htk := l14Take_any _ (wr.alloc (.cells #[.int .i64 x, .string y, .string z, .string u] 43)) _ cur (posP y cur) hcl hpl (Nat.le_refl _) (ownM_rd HOW.out)
                have HDP : Hid (dropP y cur = cur.take (posP y cur) ++ cur.drop (posP y cur + 1)) := rfl
                rw [← HDP.out] at htk
                have jp : (0 : Int) ≤ (posP y cur : Int) := by omega
                clear hh HD3 hx1 hx2 HDP hpl
                have HG := HGO.out (by rw [HDO])
                rw [HDO] at HG
                have HF2 : Hid (fwdP (a.drop (k + 1)) (dropP y cur) = (d1, d2)) := HG.1
                have HC2 : Hid (Rises (dropP y cur) ∧ (dropP y cur).length ≤ 64) := HG.2
                rw [hfy] at hfindY
                clear HST HGO HDO HG hfy hRdW HOW hRc HRC
                go_wp2_with (first | (go_at_call 28; refine hfindY.mono ?_; rintro e w' ⟨rfl, hw⟩; subst hw) | (go_at_call 30; refine htk.mono ?_; rintro e w3 ⟨r3, rfl, ho3, hb3⟩; obtain ⟨na, nn, nc, hne⟩ := own_slice3 ho3; subst hne; have HO2 : Hid (OwnPr w3 w.heap.size (.slice na nn nc) (dropP y cur)) := ownM_mono ho3 hsW; have hB2 := below_seq hBW hb3; clear ho3 hb3))
                go_roundw
                case rel => exact ⟨k + 1, _, na, nn, nc, by omega, by go_num, rfl, HO2, HF2, HC2, hB2⟩
                case measure => simp [intOf]; omega
        · obtain rfl : k = a.length := by omega
          have HE : Hid ((d1, d2) = (0, cur)) := by
            unfold Hid
            rw [← HF.out, List.drop_length]
            rfl
          have hn : ¬ (a.length : Int) < (a.length : Int) := by omega
          go_wp2_with fail
          go_ret2
          refine ⟨.slice ta tn tc, ?_, ?_, hB⟩
          · have e1 := congrArg Prod.fst HE.out
            simp only at e1
            rw [HE1.out, e1]
            rfl
          · have e2 := congrArg Prod.snd HE.out
            simp only at e2
            rw [HE2.out, e2]
            exact HO.out
end Go.Proofs.Ytagnpahkhaighaa
