/- The law on LogAdd, walked. -/
import Derived.Test.YtjbjkamlgcnmaaaQSpecAdd
import Derived.Test.YtjbjkamlgcnmaaaQAddImplToAddSame
import Derived.Test.YtjbjkamlgcnmaaaQMarkOpsToOpEq
import Derived.Test.YtjbjkamlgcnmaaaQOpToToLawKit
namespace Go.Proofs.Ytjbjkamlgcnmaaa
open Go.RowKit
set_option linter.unusedVariables false

/-- What the specification's LogAdd answers. -/
theorem specAdd_any (C : Nat) (w : World) (v vm : Value) (L M : List Ov) (hC : C ≤ w.heap.size) (hr : RdO C w v L) (hrm : RdO C w vm M) :
    Calls Try.prog 5 #[v, vm] w fun e w' => ∃ r0 r1 S0 S1, e = .returned (.tuple #[r0, r1, .int .i64 (resAdd L M).1]) ∧ SameL S0 (resAdd L M).2.1 ∧ SameL S1 (resAdd L M).2.2 ∧ RdO w'.heap.size w' r0 S0 ∧ RdO w'.heap.size w' r1 S1 ∧ Below w.heap.size w w' := by
  have hn : SameL [] [] := ⟨rfl, fun k hk => absurd hk (by simp)⟩
  by_cases hlong : 1024 < M.length
  · have e : resAdd L M = (2, [], []) := by unfold resAdd; rw [if_pos hlong]
    rw [e]
    refine (specAdd_long C w v vm L M hC hr hrm hlong).mono ?_
    rintro e w' ⟨r, rfl, hR, hb⟩
    exact ⟨r, r, [], [], rfl, hn, hn, hR, hR, hb⟩
  · cases hlog : logI L with
    | false =>
      have e : resAdd L M = (1, [], []) := by unfold resAdd; rw [if_neg hlong, if_pos (.inl hlog)]
      rw [e]
      refine (specAdd_log C w v vm L M hC hr hrm hlong hlog).mono ?_
      rintro e w' ⟨r, rfl, hR, hb⟩
      exact ⟨r, r, [], [], rfl, hn, hn, hR, hR, hb⟩
    | true =>
      rcases first_bad (fun q => (ovAt M q).ok) M.length with h | ⟨f, hf, hg, hb⟩
      · exact specAdd_good C w v vm L M _ rfl hC hr hrm hlong hlog h
      · have e : resAdd L M = (1, [], []) := by
          unfold resAdd
          rw [if_neg hlong, if_pos (.inr (List.any_eq_true.2 ⟨ovAt M f, ovAt_mem hf, by unfold wrongB; rw [hb]; rfl⟩))]
        rw [e]
        refine (specAdd_op C w v vm L M hC hr hrm hlong hlog f hf hb hg).mono ?_
        rintro e w' ⟨r, rfl, hR, hb⟩
        exact ⟨r, r, [], [], rfl, hn, hn, hR, hR, hb⟩
theorem RowO.rdS {w : World} {B g : Nat} {M L : List Ov} (h : RowO w B g L.length M) (hs : SameL M L) (hm : L.length ≤ maxLen) : RdO w.heap.size w (.slice (some ⟨g, 0, none⟩) L.length L.length) M := by
  have e := hs.1
  rw [← e] at h hm ⊢
  exact h.rd hm
/-- What the law holds while it walks: the specification's two answers, the code's two answers. -/
structure Ka (w wX : World) (C B D E : Nat) (r0 r1 : Value) (S0 S1 : List Ov) (g0 g1 : Value) (A0 A1 : List Ov) : Prop where
  bel : Below w.heap.size w wX
  wcs : C ≤ wX.heap.size
  rd0 : RdO C wX r0 S0
  rd1 : RdO C wX r1 S1
  a0 : AnsD wX B D g0 A0
  a1 : AnsD wX D E g1 A1
theorem Ka.below {w wX w' : World} {C B D E : Nat} {r0 r1 : Value} {S0 S1 : List Ov} {g0 g1 : Value} {A0 A1 : List Ov} (h : Ka w wX C B D E r0 r1 S0 S1 g0 g1 A0 A1) (hb : Below wX.heap.size wX w') : Ka w w' C B D E r0 r1 S0 S1 g0 g1 A0 A1 :=
  ⟨below_seq h.bel hb, by have := hb.size; have := h.wcs; omega, h.rd0.below (hb.mono h.wcs), h.rd1.below (hb.mono h.wcs), h.a0.below hb, h.a1.below hb⟩
/-- What came in for the code was written over. -/
theorem Ka.over {w wX w' : World} {C B D E : Nat} {r0 r1 : Value} {S0 S1 : List Ov} {g0 g1 : Value} {A0 A1 : List Ov} (h : Ka w wX C B D E r0 r1 S0 S1 g0 g1 A0 A1) (hw : w.heap.size ≤ C) (hBD : B ≤ D) (hb : Below C wX w') (hf : ∀ b, B ≤ b → b < wX.heap.size → w'.heap[b]? = wX.heap[b]?) : Ka w w' C B D E r0 r1 S0 S1 g0 g1 A0 A1 :=
  ⟨h.bel.trans (hb.mono hw), by have := hb.size; have := h.wcs; omega, h.rd0.below hb, h.rd1.below hb, h.a0.on hb.size (fun b h1 _ h3 => hf b h1 h3), h.a1.on hb.size (fun b h1 _ h3 => hf b (by omega) h3)⟩
/-- The same, where the code's answers are written over. -/
structure Kq (w wX : World) (C B D E : Nat) (r0 r1 : Value) (S0 S1 : List Ov) (g0 g1 : Value) (q1 n0 n1 : Nat) : Prop where
  bel : Below w.heap.size w wX
  wcs : C ≤ wX.heap.size
  rd0 : RdO C wX r0 S0
  rd1 : RdO C wX r1 S1
  a0 : AnsQ wX B D g0 1 n0
  a1 : AnsQ wX D E g1 q1 n1
theorem Kq.below {w wX w' : World} {C B D E : Nat} {r0 r1 : Value} {S0 S1 : List Ov} {g0 g1 : Value} {q1 n0 n1 : Nat} (h : Kq w wX C B D E r0 r1 S0 S1 g0 g1 q1 n0 n1) (hb : Below wX.heap.size wX w') : Kq w w' C B D E r0 r1 S0 S1 g0 g1 q1 n0 n1 :=
  ⟨below_seq h.bel hb, by have := hb.size; have := h.wcs; omega, h.rd0.below (hb.mono h.wcs), h.rd1.below (hb.mono h.wcs), h.a0.below hb, h.a1.below hb⟩

set_option maxHeartbeats 8000000 in
set_option maxRecDepth 100000 in
theorem lawLogAdd_walk (w : World) (v vm : Value) (L M : List Ov) (hr : RdO w.heap.size w v L) (ht : ∀ x ∈ L, x.ky.size ≤ maxLen ∧ x.tx.size ≤ maxLen) (hrm : RdO w.heap.size w vm M) (htm : ∀ x ∈ M, x.ky.size ≤ maxLen ∧ x.tx.size ≤ maxLen) :
    Calls Try.prog 3 #[v, vm] w fun e w' => e = .returned (.bool true) ∧ Below w.heap.size w w' := by
  have hz := szOpS_any w.heap.size w v L (Nat.le_refl _) hr ht
  go_enter Try.func3, Try.ntmps3
  go_wp2_with fail
  refine hz.mono ?_
  rintro e w1 ⟨⟨z, rfl, hzz⟩, hb1⟩
  rcases hzz with rfl | ⟨q, hzq, hq, hlL, hdL⟩
  · go_wp2_with fail
    go_ret
    exact ⟨rfl, hb1⟩
  · subst hzq
    have hz2 := szOpS_from q hq w.heap.size w1 vm M hb1.size (hrm.below hb1) htm
    go_wp2_with fail
    refine hz2.mono ?_
    rintro e w2 ⟨⟨z2, rfl, hzz2⟩, hb2⟩
    have hB2 := below_seq hb1 hb2
    rcases hzz2 with rfl | ⟨q2, hzq2, hq2, hlM, hdM⟩
    · go_wp2_with fail
      go_ret
      exact ⟨rfl, hB2⟩
    · subst hzq2
      have hmL : L.length ≤ maxLen := by unfold maxLen; omega
      have hmM : M.length ≤ maxLen := by unfold maxLen; omega
      obtain ⟨cd, A0, A1, HRS⟩ : ∃ cd A0 A1, Hid (resAdd L M = (cd, A0, A1)) := ⟨_, _, _, rfl⟩
      have HSM : Hid (∀ L' M', SameL L' L → SameL M' M → (resAdd L' M').1 = cd ∧ SameL (resAdd L' M').2.1 A0 ∧ SameL (resAdd L' M').2.2 A1) := fun L' M' h h' => by
        have := res_same h h'
        rw [HRS.out] at this
        exact this
      obtain ⟨⟨hl0, hd0⟩, hl1, hd1⟩ : (A0.length ≤ 2048 ∧ ∀ x ∈ A0, x.ds.length ≤ 1048576) ∧ (A1.length ≤ 2048 ∧ ∀ x ∈ A1, x.ds.length ≤ 1048576) := by
        have := res_facts L M
        rw [HRS.out] at this
        exact this
      have hA0m : A0.length ≤ maxLen := by unfold maxLen; omega
      have hA1m : A1.length ≤ maxLen := by unfold maxLen; omega
      have hTL := fun (w9 : World) (hb : Below w.heap.size w w9) => toOpS_any w.heap.size w9 v L hlL hdL hb.size (hr.below hb)
      have hTM := fun (w9 : World) (hb : Below w.heap.size w w9) => toOpS_any w.heap.size w9 vm M hlM hdM hb.size (hrm.below hb)
      clear hz hz2
      go_wp2_with fail
      refine (hTL w2 hB2).mono ?_
      rintro e wa ⟨rfl, ⟨La, hsa, hRa⟩, hba⟩
      have hBa := below_seq hB2 hba
      go_wp2_with fail
      refine (hTM wa hBa).mono ?_
      rintro e wb ⟨rfl, ⟨Mb, hsb, hRb⟩, hbb⟩
      have hBb := below_seq hBa hbb
      obtain ⟨hcS, hS0, hS1⟩ := HSM.out La Mb hsa hsb
      have hsp := specAdd_any wb.heap.size wb _ _ La Mb (Nat.le_refl _) (((hRa.rdS hsa hmL).below hbb).mono hbb.size) (hRb.rdS hsb hmM)
      rw [hcS] at hsp
      go_wp2_with fail
      refine hsp.mono ?_
      rintro e wc ⟨r0, r1, S0, S1, rfl, hs0, hs1, hR0, hR1, hbc⟩
      replace hs0 := sameL_trans hs0 hS0
      replace hs1 := sameL_trans hs1 hS1
      have hBc := below_seq hBb hbc
      clear hsp hcS hS0 hS1 hRa hRb hsa hsb hba hbb hbc hBa hBb hb1 hb2 hB2
      go_wp2_with fail
      refine (hTL wc hBc).mono ?_
      rintro e w4 ⟨rfl, ⟨M0, hx0, hM0⟩, hb4⟩
      have hB4 := below_seq hBc hb4
      have hs4 := hb4.size
      go_wp2_with fail
      refine (hTM w4 hB4).mono ?_
      rintro e w5 ⟨rfl, ⟨M1, hx1, hM1⟩, hb5⟩
      have hB5 := below_seq hB4 hb5
      have hs5 := hb5.size
      obtain ⟨hcI, hI0, hI1⟩ := HSM.out M0 M1 hx0 hx1
      have him := implAdd_any w5.heap.size w5 _ _ M0 M1 (Nat.le_refl _) (((hM0.rdS hx0 hmL).below hb5).mono hb5.size) (hM1.rdS hx1 hmM)
      rw [hcI] at him
      go_wp2_with fail
      refine him.mono ?_
      rintro e w6 ⟨g0, g1, rfl, ⟨w9, hAn0, hb59, hb96, hAn1⟩, hb6⟩
      have hs59 := hb59.size
      have hs6 := hb6.size
      have hsc := hBc.size
      obtain ⟨D9, HD9⟩ : ∃ D9, Hid (w9.heap.size = D9) := ⟨_, rfl⟩
      have K6 : Ka w w6 wc.heap.size w5.heap.size w9.heap.size w6.heap.size r0 r1 S0 S1 g0 g1 A0 A1 := ⟨below_seq hB5 hb6, by omega, ((hR0.below hb4).below (hb5.mono hs4)).below (hb6.mono (by omega)), ((hR1.below hb4).below (hb5.mono hs4)).below (hb6.mono (by omega)), (hAn0.bound.cast hI0).below hb96, hAn1.bound.cast hI1⟩
      have hb46 : Below w4.heap.size w4 w6 := below_seq hb5 hb6
      clear him hcI hI0 hI1 hAn0 hAn1 hb96 hb59 hR0 hR1 hB5
      generalize w9.heap.size = D at *
      generalize hE : w6.heap.size = E at K6
      clear hE HD9
      obtain ⟨MG, hsG, hRG⟩ := K6.a0.rd hA0m
      go_wp2_with fail
      refine (eqOpS_same _ _ w6 _ _ MG S0 (by rw [hsG.1]; omega) (sameL_ds hsG hd0) (Nat.le_refl _) K6.wcs hRG K6.rd0 (sameL_two hsG hs0)).mono ?_
      rintro e w7 ⟨rfl, hb7⟩
      have K7 := K6.below hb7
      have hb47 := below_seq hb46 hb7
      have hb57 := below_seq hb6 hb7
      clear K6 hRG hsG MG
      obtain ⟨MG, hsG, hRG⟩ := K7.a1.rd hA1m
      go_wp2_with fail
      refine (eqOpS_same _ _ w7 _ _ MG S1 (by rw [hsG.1]; omega) (sameL_ds hsG hd1) (Nat.le_refl _) K7.wcs hRG K7.rd1 (sameL_two hsG hs1)).mono ?_
      rintro e w8 ⟨rfl, hb8⟩
      have K8 := K7.below hb8
      have hb48 := below_seq hb47 hb8
      have hb58 := below_seq hb57 hb8
      clear K7 hRG hsG MG hb46 hb47 hb57 hb7 hb8
      go_wp2_with fail
      refine (hTL w8 K8.bel).mono ?_
      rintro e wd ⟨rfl, ⟨M2, hs2, hM2⟩, hbd⟩
      have Kd := K8.below hbd
      have hb4d := below_seq hb48 hbd
      have hb5d := below_seq hb58 hbd
      have hdx0 := sameL_ds hx0 hdL
      have hdx1 := sameL_ds hx1 hdM
      clear K8 hb48 hb58
      go_wp2_with fail
      refine (eqOpS_same w4.heap.size wd.heap.size wd _ _ M0 M2 (by rw [hx0.1]; exact hlL) hdx0 hb4d.size (Nat.le_refl _) ((hM0.rdS hx0 hmL).below hb4d) (hM2.rdS hs2 hmL) (sameL_two hx0 hs2)).mono ?_
      rintro e we ⟨rfl, hbe⟩
      have Ke := Kd.below hbe
      have hb4e := below_seq hb4d hbe
      have hb5e := below_seq hb5d hbe
      clear Kd hb4d hb5d hM2 hs2 hbd
      go_wp2_with fail
      refine (hTM we Ke.bel).mono ?_
      rintro e wf ⟨rfl, ⟨M3, hs3, hM3⟩, hbf⟩
      have Kf := Ke.below hbf
      have hb4f := below_seq hb4e hbf
      have hb5f := below_seq hb5e hbf
      clear Ke hb4e hb5e hbe
      go_wp2_with fail
      refine (eqOpS_same w5.heap.size wf.heap.size wf _ _ M1 M3 (by rw [hx1.1]; exact hlM) hdx1 hb5f.size (Nat.le_refl _) ((hM1.rdS hx1 hmM).below hb5f) (hM3.rdS hs3 hmM) (sameL_two hx1 hs3)).mono ?_
      rintro e wg ⟨rfl, hbg⟩
      have Kg := Kf.below hbg
      have hb4g := below_seq hb4f hbg
      have hb5g := below_seq hb5f hbg
      clear Kf hb4f hb5f hM3 hs3 hbf hbg
      have hIv0 := hM0.iv hx0.1 hdx0 hb4g
      have hIv1 := hM1.iv hx1.1 hdx1 hb5g
      have hs4g := hb4g.size
      have hs5g := hb5g.size
      go_wp2_with fail
      refine (markOpS_frame wg wc.heap.size w4.heap.size wc.heap.size L.length L.length _ 1 hlL (by omega) (by omega) hIv0).mono ?_
      rintro e wh ⟨⟨y, hy0, hy1, rfl⟩, hIh⟩
      have hbh := hIh.bel
      have hsh := hbh.size
      have Kh := Kg.over hsc hs59 hbh (fun b h1 h2 => hIh.fr b (by omega) h2)
      have hIv1h := hIv1.moved hsh (fun b h1 h2 => hIh.fr b h1 h2)
      clear Kg hIv0 hIv1 hIh hbh
      go_wp2_with fail
      refine (markOpS_frame wh w4.heap.size w5.heap.size w4.heap.size M.length M.length _ y hlM hy0 (by omega) hIv1h).mono ?_
      rintro e wi ⟨⟨y2, hz0, hz1, rfl⟩, hIi⟩
      have hbi := hIi.bel
      have hsi := hbi.size
      have Ki := Kh.over hsc hs59 (hbi.mono hs4) (fun b h1 h2 => hIi.fr b h1 h2)
      have y0 : decide (y2 < 0) = false := by simp; omega
      clear Kh hIv1h hIi hbi hz0 hz1 hy0 hy1
      obtain ⟨MG, hsG, hRG⟩ := Ki.a0.rd hA0m
      go_wp2_with fail
      refine (eqOpS_same _ _ wi _ _ MG S0 (by rw [hsG.1]; omega) (sameL_ds hsG hd0) (Nat.le_refl _) Ki.wcs hRG Ki.rd0 (sameL_two hsG hs0)).mono ?_
      rintro e wj ⟨rfl, hbj⟩
      have Kj := Ki.below hbj
      clear Ki hRG hsG MG
      obtain ⟨MG, hsG, hRG⟩ := Kj.a1.rd hA1m
      go_wp2_with fail
      refine (eqOpS_same _ _ wj _ _ MG S1 (by rw [hsG.1]; omega) (sameL_ds hsG hd1) (Nat.le_refl _) Kj.wcs hRG Kj.rd1 (sameL_two hsG hs1)).mono ?_
      rintro e wk ⟨rfl, hbk⟩
      have Kk := Kj.below hbk
      have hsik := hbk.size
      have hsij := hbj.size
      clear Kj hRG hsG MG hbj hbk
      obtain ⟨m0, HM0⟩ : ∃ m0, Hid (1 + 27 * A0.length = m0) := ⟨_, rfl⟩
      obtain ⟨m1, HM1⟩ : ∃ m1, Hid (m0 + 27 * A1.length = m1) := ⟨_, rfl⟩
      have hm0 : m0 ≤ 4398046511104 := by have := HM0.out; omega
      have hmk := Kk.a0.mark 1 (by omega) (by omega)
      rw [HM0.out] at hmk
      go_wp2_with fail
      refine hmk.mono ?_
      rintro e wl ⟨rfl, hQ0, hbl, hfl⟩
      have hsl := hbl.size
      have hA1l := Kk.a1.on hsl (fun b h1 _ h3 => hfl b h1 h3)
      have hrd0l := Kk.rd0.below (hbl.mono (by omega))
      have hrd1l := Kk.rd1.below (hbl.mono (by omega))
      have hbell := Kk.bel.trans (hbl.mono (by omega))
      have hwcl := Kk.wcs
      have hmk1 := hA1l.mark m0 hm0 (by omega)
      rw [HM1.out] at hmk1
      clear hmk Kk
      go_wp2_with fail
      refine hmk1.mono ?_
      rintro e wm ⟨rfl, hQ1, hbm, hfm⟩
      have hsm := hbm.size
      have Km : Kq w wm wc.heap.size w5.heap.size D E r0 r1 S0 S1 g0 g1 m0 A0.length A1.length := ⟨hbell.trans (hbm.mono (by omega)), by omega, hrd0l.below (hbm.mono (by omega)), hrd1l.below (hbm.mono (by omega)), hQ0.on hsm (fun b _ h2 _ => hbm.block b h2), hQ1⟩
      clear hmk1 hQ0 hQ1 hA1l hrd0l hrd1l hbell hbl hbm hfl hfm
      have hq0 := Km.a0.held (by omega) (by omega)
      rw [HM0.out] at hq0
      go_wp2_with fail
      refine hq0.mono ?_
      rintro e wn ⟨rfl, hbn⟩
      have Kn := Km.below hbn
      have hq1 := Kn.a1.held hm0 (by omega)
      rw [HM1.out] at hq1
      clear Km hq0 hbn
      go_wp2_with fail
      refine hq1.mono ?_
      rintro e wo ⟨rfl, hbo⟩
      have Ko := Kn.below hbo
      clear Kn hq1 hbo
      go_wp2_with fail
      refine (hTL wo Ko.bel).mono ?_
      rintro e wp ⟨rfl, ⟨La, hsa, hRa⟩, hba⟩
      have Kp1 := Ko.below hba
      clear Ko
      go_wp2_with fail
      refine (hTM wp Kp1.bel).mono ?_
      rintro e wq ⟨rfl, ⟨Mb, hsb, hRb⟩, hbb⟩
      have Kp2 := Kp1.below hbb
      obtain ⟨hcI, hI0, hI1⟩ := HSM.out La Mb hsa hsb
      have him := implAdd_any wq.heap.size wq _ _ La Mb (Nat.le_refl _) (((hRa.rdS hsa hmL).below hbb).mono hbb.size) (hRb.rdS hsb hmM)
      rw [hcI] at him
      clear Kp1
      go_wp2_with fail
      refine him.mono ?_
      rintro e ws ⟨h0, h1, rfl, ⟨w9', hAn0, hb59, hb96, hAn1⟩, hb6'⟩
      have Ks := Kp2.below hb6'
      have hH0 := (hAn0.bound.cast hI0).below hb96
      have hH1 := hAn1.bound.cast hI1
      clear him hcI hI0 hI1 hAn0 hAn1 hb96 hb59 Kp2 hRa hRb hsa hsb hba hbb
      obtain ⟨MG, hsG, hRG⟩ := hH0.rd hA0m
      go_wp2_with fail
      refine (eqOpS_same _ _ ws _ _ MG S0 (by rw [hsG.1]; omega) (sameL_ds hsG hd0) (Nat.le_refl _) Ks.wcs hRG Ks.rd0 (sameL_two hsG hs0)).mono ?_
      rintro e wt ⟨rfl, hbt⟩
      have Kt := Ks.below hbt
      replace hH1 := hH1.below hbt
      clear Ks hRG hsG MG hH0
      obtain ⟨MG, hsG, hRG⟩ := hH1.rd hA1m
      go_wp2_with fail
      refine (eqOpS_same _ _ wt _ _ MG S1 (by rw [hsG.1]; omega) (sameL_ds hsG hd1) (Nat.le_refl _) Kt.wcs hRG Kt.rd1 (sameL_two hsG hs1)).mono ?_
      rintro e wu ⟨rfl, hbu⟩
      have Ku := Kt.below hbu
      clear Kt hRG hsG MG hH1 hbt hbu
      have hq0 := Ku.a0.held (by omega) (by omega)
      rw [HM0.out] at hq0
      go_wp2_with fail
      refine hq0.mono ?_
      rintro e wv ⟨rfl, hbv⟩
      have Kv := Ku.below hbv
      have hq1 := Kv.a1.held hm0 (by omega)
      rw [HM1.out] at hq1
      clear Ku hq0 hbv
      go_wp2_with fail
      refine hq1.mono ?_
      rintro e wy ⟨rfl, hby⟩
      have Ky := Kv.below hby
      clear Kv hq1 hby
      go_wp2_with fail
      go_ret
      exact ⟨rfl, Ky.bel⟩
end Go.Proofs.Ytjbjkamlgcnmaaa
