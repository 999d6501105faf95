/- What the law FnLens does. -/
import Derived.Test.YtagnpahkhaighaaFrame
import Derived.Test.YtagnpahkhaighaaFnLensParts
import Derived.Test.YtagnpahkhaighaaLensJoinImpl
import Derived.Test.YtagnpahkhaighaaQuietPass
import Derived.Deep.CutRange
import Derived.Deep.DeepCutAuto
namespace Go.Proofs.Ytagnpahkhaighaa
open Go.RowKit
set_option linter.unusedVariables false

set_option maxHeartbeats 8000000 in
set_option maxRecDepth 100000 in
theorem lawLens_walk (a0 : Option Addr) (l0 c0 : Nat) (z0 : List Int) (w : World) (h0 : IsRow .u8 w a0 l0 c0 z0) :
    Calls Try.prog 5 #[.slice a0 l0 c0] w fun e w' => e = .returned (.bool true) ∧ Below w.heap.size w w' := by
  obtain ⟨hr0, hl0⟩ := h0.rd
  have hX0 := h0.bytes
  generalize z0.take l0 = zs at hr0 hl0 hX0
  clear h0
  subst hl0
  by_cases q0 : zs.length ≤ 1048576
  · have i0 : ¬ (1048576 : Int) < (zs.length : Int) := by omega
    go_enter Try.func5, Try.ntmps5
    go_wp2_with fail
    refine (drawLensForward_any w.heap.size w _ zs (Nat.le_refl _) hr0 hX0 q0).mono ?_
    rintro e w1 ⟨ra, rc, fa, fc, L, F, rfl, hL, hF, HL0, HF0, hB⟩
    have HL : Hid (RdM 4 w1.heap.size w1 (.slice ra L.length rc) L.length (stCs L)) := ownM_rd HL0
    have HF : Hid (RdM 2 w1.heap.size w1 (.slice fa F.length fc) F.length (prCs F)) := ownM_rd HF0
    have hSH := ownM_shape HL0
    have HSH : Hid _ := hSH
    clear hSH HL0 HF0 hr0 hX0 q0 i0
    obtain ⟨ec, HEC⟩ : ∃ x, Hid (fwdC L F = x) := ⟨_, rfl⟩
    obtain ⟨T, HT⟩ : ∃ x, Hid (fwdL L F = x) := ⟨_, rfl⟩
    have hT : T.length ≤ 1048576 := by rw [← HT.out]; exact fwdL_len _ _
    have hc := specFwd_any w1.heap.size w1 _ _ L F (by omega) (by omega) (Nat.le_refl _) HL.out HF.out
    rw [HEC.out, HT.out] at hc
    go_wp2_with fail
    refine hc.mono ?_
    rintro e w2 ⟨r, rfl, ho, hb⟩
    clear hc
    replace HL := rdNx HL hb
    replace HF := rdNx HF hb
    have HW : Hid (RdM 2 w2.heap.size w2 r T.length (prCs T)) := ownM_rd ho
    obtain ⟨wa, wc, er⟩ := own_sliceD ho
    subst er
    replace hB := below_seq hB hb
    clear hb ho
    have hc := implFwd_any w2.heap.size w2 _ _ L F (by omega) (by omega) (Nat.le_refl _) HL.out HF.out
    rw [HEC.out, HT.out] at hc
    go_wp2_with fail
    refine hc.mono ?_
    rintro e w3 ⟨r, rfl, ho, hb⟩
    clear hc
    replace HL := rdNx HL hb
    replace HF := rdNx HF hb
    replace HW := rdNx HW hb
    have HTh : Hid (RdM 2 w3.heap.size w3 r T.length (prCs T)) := ownM_rd ho
    obtain ⟨ta, tc, er⟩ := own_sliceD ho
    subst er
    replace hB := below_seq hB hb
    clear hb ho
    have hc := samePairs_same w3.heap.size w3 _ _ T hT HTh.out HW.out
    go_wp2_with fail
    refine hc.mono ?_
    rintro e w4 ⟨rfl, hb⟩
    clear hc HW
    replace HL := rdNx HL hb
    replace HF := rdNx HF hb
    replace HTh := rdNx HTh hb
    replace hB := below_seq hB hb
    clear hb
    obtain ⟨gc, HGC⟩ : ∃ x, Hid (flipC L = x) := ⟨_, rfl⟩
    obtain ⟨G, HG⟩ : ∃ x, Hid (flipL L = x) := ⟨_, rfl⟩
    have hG : G.length ≤ 1048576 := by rw [← HG.out]; exact flipL_len _
    have hc := implFlip_any w4.heap.size w4 _ L (by omega) (Nat.le_refl _) HL.out
    rw [HGC.out, HG.out] at hc
    go_wp2_with fail
    refine hc.mono ?_
    rintro e w5 ⟨r, rfl, ho, hb⟩
    clear hc
    replace HL := rdNx HL hb
    replace HF := rdNx HF hb
    replace HTh := rdNx HTh hb
    have HGr : Hid (RdM 4 w5.heap.size w5 r G.length (stCs G)) := ownM_rd ho
    obtain ⟨ga, gcp, er⟩ := own_sliceE ho
    subst er
    replace hB := below_seq hB hb
    clear hb ho
    have hc := specFlip_any w5.heap.size w5 _ L (by omega) (Nat.le_refl _) HL.out
    rw [HGC.out, HG.out] at hc
    go_wp2_with fail
    refine hc.mono ?_
    rintro e w6 ⟨r, rfl, ho, hb⟩
    clear hc
    replace HL := rdNx HL hb
    replace HF := rdNx HF hb
    replace HTh := rdNx HTh hb
    replace HGr := rdNx HGr hb
    obtain ⟨ga2, gcp2, er⟩ := own_sliceE ho
    subst er
    replace hB := below_seq hB hb
    clear hb ho
    cases hok : okLens L with
    | false =>
      obtain rfl : gc = 1 := by rw [← HGC.out]; unfold flipC; rw [hok]; rfl
      clear hok
      go_wp2_with fail
      go_ret
      exact ⟨rfl, hB⟩
    | true =>
      have hfl := lens_flip hok
      obtain rfl : gc = 0 := by rw [← HGC.out]; exact hfl.1
      have hc := implFlip_any w6.heap.size w6 _ G hG (Nat.le_refl _) HGr.out
      rw [← HG.out, hfl.2.1, hfl.2.2] at hc
      rw [HG.out] at hc
      have HOK : Hid (okLens L = true) := hok
      clear hfl hok
      go_wp2_with fail
      refine hc.mono ?_
      rintro e w7 ⟨r, rfl, ho, hb⟩
      clear hc
      replace HL := rdNx HL hb
      replace HF := rdNx HF hb
      replace HTh := rdNx HTh hb
      have HTw : Hid (RdM 4 w7.heap.size w7 r L.length (stCs L)) := ownM_rd ho
      obtain ⟨tw, twc, er⟩ := own_sliceE ho
      subst er
      replace hB := below_seq hB hb
      clear hb ho HGr
      go_wp2_with fail
      go_loopw [15, 16] (fun tu ti wr => ∃ (k : Nat) (u : Bool), k ≤ L.length ∧ ti = .int .i64 (k : Int) ∧ tu = .bool u ∧ Hid (u = true → ∀ e ∈ L.take k, e.1 ≠ 3) ∧ ∃ n, wr = w7.drewN n) (fun _ ti _ => L.length - (intOf ti).toNat)
      case atStart => exact ⟨0, true, by omega, rfl, rfl, fun _ e he => by simp at he, 0, rfl⟩
      case round =>
        obtain ⟨k, u, hk, rfl, rfl, HU, nd, rfl⟩ := hrel
        by_cases hk9 : k < L.length
        · have q0 : (k : Int) < (L.length : Int) := by omega
          have q1 : (0 : Int) ≤ (k : Int) := by omega
          have HU2 : Hid (∀ v : Bool, (v = true → u = true ∧ (stAt L k).1 ≠ 3) → v = true → ∀ e ∈ L.take (k + 1), e.1 ≠ 3) := fun v hv h e he => by
            have h1 := hv h
            rw [List.take_add_one, List.mem_append] at he
            rcases he with he | he
            · exact HU.out h1.1 e he
            · have e2 : stAt L k = L[k] := by simp [stAt, hk9]
              rw [List.getElem?_eq_getElem hk9] at he
              have e3 : e = L[k] := by simpa using he
              rw [e3, ← e2]; exact h1.2
          have hrel9 : ∀ n, ∃ m, (w7.drewN nd).drewN n = w7.drewN m := fun n => ⟨_, World.drewN_drewN _ _ _⟩
          obtain ⟨_, la', lc', ea, hca, _, _, hra⟩ := HL.out
          obtain ⟨_, ta', tc', eb, hcb, _, _, hrb⟩ := HTw.out
          simp only [Value.slice.injEq] at ea eb
          obtain ⟨rfl, _, rfl⟩ := ea
          obtain ⟨rfl, _, rfl⟩ := eb
          obtain ⟨gl, ol, rfl, _, hcA⟩ := hra (by omega)
          obtain ⟨gt, ot, rfl, _, hcB⟩ := hrb (by omega)
          have hpa := stCs_at hk9
          have a0 : (w7.drewN nd).cell? ⟨gl, ol + k * 4, none⟩ = _ := hcA _ _ hpa.1
          have a1 : (w7.drewN nd).cell? ⟨gl, ol + k * 4 + 1, none⟩ = _ := hcA _ _ hpa.2.1
          have a2 : (w7.drewN nd).cell? ⟨gl, ol + k * 4 + 2, none⟩ = _ := hcA _ _ hpa.2.2.1
          have a3 : (w7.drewN nd).cell? ⟨gl, ol + k * 4 + 3, none⟩ = _ := hcA _ _ hpa.2.2.2
          have b0 : (w7.drewN nd).cell? ⟨gt, ot + k * 4, none⟩ = _ := hcB _ _ hpa.1
          have b1 : (w7.drewN nd).cell? ⟨gt, ot + k * 4 + 1, none⟩ = _ := hcB _ _ hpa.2.1
          have b2 : (w7.drewN nd).cell? ⟨gt, ot + k * 4 + 2, none⟩ = _ := hcB _ _ hpa.2.2.1
          have b3 : (w7.drewN nd).cell? ⟨gt, ot + k * 4 + 3, none⟩ = _ := hcB _ _ hpa.2.2.2
          generalize (stAt L k).1 = x0 at *
          generalize (stAt L k).2.1 = x1 at *
          generalize (stAt L k).2.2.1 = x2 at *
          generalize (stAt L k).2.2.2 = x3 at *
          clear hcA hcB hpa hra hrb HU
          generalize w7.drewN nd = wr at *
          go_upto_region 21 with fail
          go_quiet (fail)
          rename_i nq
          have c0 : (wr.drewN nq).cell? ⟨gl, ol + k * 4, none⟩ = some (.int .i64 x0) := a0
          have hrel8 := hrel9 nq
          clear a0 a1 a2 a3 b0 b1 b2 b3 hrel9
          generalize wr.drewN nq = wq at *
          cases u with
          | false =>
            go_wp2_with fail
            go_roundw
            case rel => exact ⟨k + 1, false, by omega, by go_num, rfl, HU2.out false (fun h => by cases h), hrel8⟩
            case measure => simp [intOf]; omega
          | true =>
            by_cases hx3 : x0 = 3
            · subst hx3
              go_wp2_with fail
              go_roundw
              case rel => exact ⟨k + 1, false, by omega, by go_num, rfl, HU2.out false (fun h => by cases h), hrel8⟩
              case measure => simp [intOf]; omega
            · have q4 : (x0 == 3) = false := by simpa using hx3
              have q5 : (x0 != 3) = true := by simp [bne, q4]
              have HX3 : Hid _ := hx3
              clear hx3
              go_wp2_with fail
              go_roundw
              case rel => exact ⟨k + 1, true, by omega, by go_num, rfl, HU2.out true (fun _ => ⟨rfl, HX3.out⟩), hrel8⟩
              case measure => simp [intOf]; omega
        · have q0 : ¬ (k : Int) < (L.length : Int) := by omega
          obtain rfl : k = L.length := by omega
          rw [List.take_length] at HU
          have hbd : Below w7.heap.size w7 (w7.drewN nd) := below_drewNL (Below.refl _ _) nd
          replace HL := rdNx HL hbd
          replace HF := rdNx HF hbd
          replace HTh := rdNx HTh hbd
          replace hB := below_seq hB hbd
          clear hbd HTw hk
          generalize w7.drewN nd = w8 at *
          obtain ⟨hf, HH⟩ : ∃ hf : Nat, Hid (hf = L.length / 2) := ⟨_, rfl⟩
          have hq : (L.length : Int) / 2 = (hf : Int) := by rw [HH.out]; omega
          have hle : hf ≤ L.length := by rw [HH.out]; omega
          have j0 : (0 : Int) ≤ (hf : Int) := by omega
          have j1 : (hf : Int) ≤ (L.length : Int) := by omega
          obtain ⟨xa, HX⟩ : ∃ xa, Hid ((if rc = hf then ra else ra.map (·.add (hf * 4))) = xa) := ⟨_, rfl⟩
          have hcap := (rdM_slice HL.out)
          have hcap2 : L.length ≤ rc ∧ rc ≤ maxLen := by obtain ⟨_, _, e, h1, h2⟩ := hcap; cases e; exact ⟨h1, h2⟩
          have j2 : (hf : Int) ≤ (rc : Int) := by omega
          clear hcap
          have hbd : Below w8.heap.size w8 w8.drew := (Below.refl _ _).drew
          replace HL := rdNx HL hbd
          replace HF := rdNx HF hbd
          replace HTh := rdNx HTh hbd
          replace hB := below_seq hB hbd
          clear hbd
          have hjn := lens_join HOK.out hf
          have HTK : Hid (∀ w' : World, RdM 4 w'.heap.size w' (.slice ra L.length rc) L.length (stCs L) → RdM 4 w'.heap.size w' (.slice ra hf rc) (L.take hf).length (stCs (L.take hf)) ∧ RdM 4 w'.heap.size w' (.slice xa (L.length - hf) (rc - hf)) (L.drop hf).length (stCs (L.drop hf))) := fun w' h => ⟨rdM_takeS h hle, rdM_fromS h hle rfl rfl HX.out.symm⟩
          have hlt9 : (L.take hf).length ≤ 1048576 ∧ (L.drop hf).length ≤ 1048576 := by rw [List.length_take, List.length_drop]; omega
          have hc := implJoin_any w8.drew.heap.size w8.drew _ _ (L.take hf) (L.drop hf) hlt9.1 hlt9.2 (Nat.le_refl _) (HTK.out _ HL.out).1 (HTK.out _ HL.out).2
          obtain ⟨J, HJ⟩ : ∃ x, Hid (joinL (L.take hf) (L.drop hf) = x) := ⟨_, rfl⟩
          rw [hjn.1, HJ.out] at hc
          have hJ : J.length = L.length := by rw [← HJ.out]; exact hjn.2
          have HJL : Hid _ := hJ
          have HC : Hid (Calls Try.prog 23 #[.slice ra hf rc, .slice xa (L.length - hf) (rc - hf)] w8.drew fun e w' => ∃ r, e = .returned (.tuple #[r, .int .i64 0]) ∧ OwnSt w' w8.drew.heap.size r J ∧ Below w8.drew.heap.size w8.drew w') := hc
          clear hc hJ hjn
          go_upto_region 25 with fail
          refine wp_region_held_drew (S := fun _ => True) (by kernel_rfl) trivial (fun hHeld => ?_)
          refine tkH 0 (.slice ra L.length rc) rfl (Or.inl ⟨by kernel_rfl, by intro w hSw; clear hSw; go_simp⟩) hHeld ?_
          simp only [tkS, Act.put]
          refine tkH 1 (.int .i64 (hf : Int)) rfl (Or.inl ⟨by kernel_rfl, by intro w hSw; clear hSw; go_simp⟩) hHeld ?_
          simp only [tkS, Act.put]
          refine tkH 2 (.slice ra hf rc) rfl (Or.inl ⟨by kernel_rfl, by intro w hSw; clear hSw; go_simp⟩) hHeld ?_
          simp only [tkS, Act.put]
          refine tkH 3 (.slice ra L.length rc) rfl (Or.inl ⟨by kernel_rfl, by intro w hSw; clear hSw; go_simp⟩) hHeld ?_
          simp only [tkS, Act.put]
          refine tkH 4 (.int .i64 (hf : Int)) rfl (Or.inl ⟨by kernel_rfl, by intro w hSw; clear hSw; go_simp⟩) hHeld ?_
          simp only [tkS, Act.put]
          refine tkH 5 (.slice xa (L.length - hf) (rc - hf)) rfl (Or.inl ⟨by kernel_rfl, by intro w hSw; clear hSw; go_simp; exact HX.out⟩) hHeld ?_
          simp only [tkS, Act.put]
          refine wpAnyH_ready (rs := [6]) (by kernel_rfl) (by simp) ?_
          refine AllReadyH.cons rfl (fun K hK => ?_) AllReadyH.nil
          rw [if_pos (by kernel_rfl)]
          go_simp
          refine HC.out.mono ?_
          rintro e w9 ⟨r, rfl, ho, hb⟩
          refine hK.out _ _ trivial (fun h6 => ?_)
          clear hK K hHeld HC
          replace HL := rdNx HL hb
          replace HF := rdNx HF hb
          replace HTh := rdNx HTh hb
          obtain ⟨ja, jc, er⟩ := own_sliceE ho
          rw [HJL.out] at er
          subst er
          replace hB := below_seq hB hb
          clear hb ho HJL HJ
          refine tkH 7 (.tuple #[.slice ja L.length jc, .int .i64 0]) rfl (Or.inl ⟨by kernel_rfl, by intro w hSw; clear hSw; go_simp⟩) h6 ?_
          simp only [tkS, Act.put]
          refine tkH 8 (.slice ja L.length jc) rfl (Or.inl ⟨by kernel_rfl, by intro w hSw; clear hSw; go_simp⟩) h6 ?_
          simp only [tkS, Act.put]
          refine tkH 9 (.int .i64 0) rfl (Or.inl ⟨by kernel_rfl, by intro w hSw; clear hSw; go_simp⟩) h6 ?_
          simp only [tkS, Act.put]
          refine tkH 10 (.slice ja L.length jc) rfl (Or.inl ⟨by kernel_rfl, by intro w hSw; clear hSw; go_simp⟩) h6 ?_
          simp only [tkS, Act.put]
          refine tkH 11 (.int .i64 0) rfl (Or.inl ⟨by kernel_rfl, by intro w hSw; clear hSw; go_simp⟩) h6 ?_
          simp only [tkS, Act.put]
          refine wpAnyH_done (by kernel_rfl) ?_ _
          clear h6
          by_cases he0 : ec = 0
          · subst he0
            have hX : (if rc = hf then ra else ra.map (·.add (hf * 4))) = xa := HX.out
            have hth := lens_there HOK.out HEC.out hf
            rw [HT.out] at hth
            obtain ⟨M, HM⟩ : ∃ x, Hid (fwdL (L.take hf) F = x) := ⟨_, rfl⟩
            have hM : M.length ≤ 1048576 := by rw [← HM.out]; exact fwdL_len _ _
            obtain ⟨B, HBk⟩ : ∃ x, Hid (backL L T = x) := ⟨_, rfl⟩
            have hBl : B.length ≤ 1048576 := by rw [← HBk.out]; exact backL_len _ _
            rw [HM.out, HBk.out] at hth
            have HTH : Hid _ := hth
            clear hth
            have hc := implFwd_any w9.heap.size w9 _ _ (L.take hf) F hlt9.1 (by omega) (Nat.le_refl _) (HTK.out _ HL.out).1 HF.out
            rw [HTH.out.1, HM.out] at hc
            clear hX
            go_wp2_with fail
            refine hc.mono ?_
            rintro e w10 ⟨r, rfl, ho, hb⟩
            clear hc
            replace HL := rdNx HL hb
            replace HF := rdNx HF hb
            replace HTh := rdNx HTh hb
            have HMd : Hid (RdM 2 w10.heap.size w10 r M.length (prCs M)) := ownM_rd ho
            obtain ⟨ma, mc, er⟩ := own_sliceD ho
            subst er
            replace hB := below_seq hB hb
            clear hb ho
            have hX : (if rc = hf then ra else ra.map (·.add (hf * 4))) = xa := HX.out
            have hc := implFwd_any w10.heap.size w10 _ _ (L.drop hf) M hlt9.2 hM (Nat.le_refl _) (HTK.out _ HL.out).2 HMd.out
            rw [HTH.out.2.1, HTH.out.2.2.1] at hc
            go_wp2_with fail
            refine hc.mono ?_
            rintro e w11 ⟨r, rfl, ho, hb⟩
            clear hc hX HMd
            replace HL := rdNx HL hb
            replace HF := rdNx HF hb
            replace HTh := rdNx HTh hb
            have HEn : Hid (RdM 2 w11.heap.size w11 r T.length (prCs T)) := ownM_rd ho
            obtain ⟨na, nc, er⟩ := own_sliceD ho
            subst er
            replace hB := below_seq hB hb
            clear hb ho
            have hc := implBack_any w11.heap.size w11 _ _ L T (by omega) hT (Nat.le_refl _) HL.out HTh.out
            rw [HTH.out.2.2.2.1, HBk.out] at hc
            go_wp2_with fail
            refine hc.mono ?_
            rintro e w12 ⟨r, rfl, ho, hb⟩
            clear hc
            replace HL := rdNx HL hb
            replace HF := rdNx HF hb
            replace HTh := rdNx HTh hb
            replace HEn := rdNx HEn hb
            have HBr : Hid (RdM 2 w12.heap.size w12 r B.length (prCs B)) := ownM_rd ho
            obtain ⟨ba, bc, er⟩ := own_sliceD ho
            have hBF := nm_len HTH.out.2.2.2.2.1
            rw [hBF] at er
            subst er
            have HBF : Hid _ := hBF
            replace hB := below_seq hB hb
            clear hb ho hBF
            have hc := samePairs_same w12.heap.size w12 _ _ T hT HEn.out HTh.out
            go_wp2_with fail
            refine hc.mono ?_
            rintro e w13 ⟨rfl, hb⟩
            clear hc HEn
            replace HL := rdNx HL hb
            replace HF := rdNx HF hb
            replace HTh := rdNx HTh hb
            replace HBr := rdNx HBr hb
            replace hB := below_seq hB hb
            clear hb
            have HUB : Hid (u = true → B = F) := fun h => HTH.out.2.2.2.2.2.1 (HU.out h)
            have HNB : Hid (∀ k, k < F.length → (prAt B k).1 = (prAt F k).1) := fun k hk => nm_at HTH.out.2.2.2.2.1 (by rw [HBF.out]; exact hk)
            go_wp2_with fail
            go_loopw [26] (fun ti wr => ∃ k : Nat, k ≤ F.length ∧ ti = .int .i64 (k : Int) ∧ ∃ n, wr = w13.drewN n) (fun ti _ => F.length - (intOf ti).toNat)
            case atStart => exact ⟨0, by omega, rfl, 0, rfl⟩
            case round =>
              obtain ⟨k, hk, rfl, nd, rfl⟩ := hrel
              have hbd : Below w13.heap.size w13 (w13.drewN nd) := below_drewNL (Below.refl _ _) nd
              by_cases hk9 : k < F.length
              · have q3 : (k : Int) < (F.length : Int) := by omega
                have q4 : (0 : Int) ≤ (k : Int) := by omega
                have hrel9 : ∀ n, ∃ m, (w13.drewN nd).drewN n = w13.drewN m := fun n => ⟨_, World.drewN_drewN _ _ _⟩
                obtain ⟨_, fa', fc', ea, hca, _, _, hra⟩ := HF.out
                obtain ⟨_, ba', bc', eb, hcb, _, _, hrb⟩ := HBr.out
                simp only [Value.slice.injEq] at ea eb
                obtain ⟨rfl, _, rfl⟩ := ea
                obtain ⟨rfl, hbl9, rfl⟩ := eb
                clear hbl9
                have hkB : k < B.length := by rw [HBF.out]; exact hk9
                obtain ⟨gf, of', rfl, _, hcA⟩ := hra (by omega)
                obtain ⟨gb, ob, rfl, _, hcB⟩ := hrb (by omega)
                have hpa := prCs_at hk9
                have hpb := prCs_at hkB
                have a0 : (w13.drewN nd).cell? ⟨gf, of' + k * 2, none⟩ = _ := hcA _ _ hpa.1
                have a1 : (w13.drewN nd).cell? ⟨gf, of' + k * 2 + 1, none⟩ = _ := hcA _ _ hpa.2
                have b0 : (w13.drewN nd).cell? ⟨gb, ob + k * 2, none⟩ = _ := hcB _ _ hpb.1
                have b1 : (w13.drewN nd).cell? ⟨gb, ob + k * 2 + 1, none⟩ = _ := hcB _ _ hpb.2
                have hbc : (k : Int) < (F.length : Int) := q3
                rw [HNB.out k hk9] at b0
                have HY : Hid (u = true → (prAt B k).2 = (prAt F k).2) := fun h => by rw [HUB.out h]
                clear hcA hcB hpa hpb hra hrb hkB
                generalize (prAt F k).1 = x at *
                generalize (prAt F k).2 = y at *
                generalize (prAt B k).2 = z at *
                generalize w13.drewN nd = wr at *
                go_upto_region 38 with fail
                go_cut [212] from 186 to 212 (fun c wx => c = .bool false ∧ ∃ n, wx = wr.drewN n)
                case first =>
                  cases u with
                  | false =>
                    refine wp_region_quiet_lit (by kernel_rfl) (by kernel_rfl) ?_
                    iterate 14 quiet_step (fail)
                    iterate 11 (with_reducible refine quiet_pass (by kernel_rfl) ?_)
                    simp only [tkS, Act.put]
                    clear a0 a1 b0 b1 HL HF HTh HBr hB
                    iterate 2 quiet_step (fail)
                    refine wpQuiet_nil ?_
                    rintro _ ⟨nq, rfl⟩
                    go_wp2_with fail
                    go_meet
                    exact ⟨rfl, nq, rfl⟩
                  | true =>
                    obtain rfl : z = y := HY.out rfl
                    go_quiet (fail)
                    rename_i nq
                    go_wp2_with fail
                    go_meet
                    exact ⟨rfl, nq, rfl⟩
                case rest =>
                  obtain ⟨rfl, nq, rfl⟩ := hcut
                  have hrel8 := hrel9 nq
                  clear a0 a1 b0 b1 hrel9
                  generalize wr.drewN nq = wq at *
                  go_wp2_with fail
                  go_roundw
                  case rel => exact ⟨k + 1, by omega, by go_num, hrel8⟩
                  case measure => simp [intOf]; omega
              · have q3 : ¬ (k : Int) < (F.length : Int) := by omega
                replace HL := rdNx HL hbd
                replace HBr := rdNx HBr hbd
                replace hB := below_seq hB hbd
                clear hbd
                generalize w13.drewN nd = wr at *
                have HBr2 : Hid (RdM 2 wr.heap.size wr (.slice ba F.length bc) B.length (prCs B)) := HBr
                have hc := implFwd_any wr.heap.size wr _ _ L B (by omega) hBl (Nat.le_refl _) HL.out HBr2.out
                have hN := HTH.out.2.2.2.2.2.2
                rw [hN.1] at hc
                have HN : Hid _ := hN.2
                clear hN
                go_wp2_with fail
                refine hc.mono ?_
                rintro e w15 ⟨r, rfl, ho, hb⟩
                clear hc
                obtain ⟨ea, ec', er⟩ := own_sliceD ho
                rw [HN.out] at er
                subst er
                replace hB := below_seq hB hb
                clear hb ho
                go_wp2_with fail
                go_ret
                exact ⟨rfl, hB⟩
          · have hq6 : (ec == 0) = false := by simpa using he0
            have hq7 : (ec != 0) = true := by simp [bne, hq6]
            go_wp2_with fail
            go_ret
            exact ⟨rfl, hB⟩
  · have i0 : (1048576 : Int) < (zs.length : Int) := by omega
    go_enter Try.func5, Try.ntmps5
    go_wp2_with fail
    go_ret
    exact ⟨rfl, Below.refl _ _⟩
end Go.Proofs.Ytagnpahkhaighaa
