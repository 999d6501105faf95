/- The specification's LogAdd where log and operations are valid. -/
import Derived.Deep.Cut
import Derived.Test.YtmmkmkaannlkhaaGreatDoorQSpecAddBad
import Derived.Test.YtmmkmkaannlkhaaGreatDoorQGrowOpsToAddFind
import Derived.Test.YtmmkmkaannlkhaaGreatDoorQAddStepToSameSpec
import Derived.Test.YtmmkmkaannlkhaaGreatDoorQLedClosedToUndoMath
import Derived.Test.YtmmkmkaannlkhaaGreatDoorQRowKeepToCopyLog
import Derived.Test.YtmmkmkaannlkhaaGreatDoorQQuietKeepToQuietPass
namespace Go.Proofs.YtmmkmkaannlkhaaGreatDoor
open Go.RowKit

set_option linter.unusedVariables false

/-- One more of what waits has not the name. -/
theorem nameStep_no {x : Ov} {W : List Ov} {j : Nat} {tw : Bool} (h : (tw = true → ∃ q, q < j ∧ nameB x (ovAt W q) = true ∧ (∀ q', q' < q → nameB x (ovAt W q') = false) ∧ sameB (ovAt W q) x = true) ∧ (tw = false → ∀ q, q < j → nameB x (ovAt W q) = false)) (hn : nameB x (ovAt W j) = false) :
    (tw = true → ∃ q, q < j + 1 ∧ nameB x (ovAt W q) = true ∧ (∀ q', q' < q → nameB x (ovAt W q') = false) ∧ sameB (ovAt W q) x = true) ∧ (tw = false → ∀ q, q < j + 1 → nameB x (ovAt W q) = false) := by
  refine ⟨fun ht => ?_, fun ht q hq => ?_⟩
  · obtain ⟨q, h1, h2⟩ := h.1 ht
    exact ⟨q, by omega, h2⟩
  · by_cases e : q = j
    · rw [e]; exact hn
    · exact h.2 ht q (by omega)
/-- One more of what waits has the name, and is alike. -/
theorem nameStep_yes {x : Ov} {W : List Ov} {j : Nat} {tw : Bool} (h : (tw = true → ∃ q, q < j ∧ nameB x (ovAt W q) = true ∧ (∀ q', q' < q → nameB x (ovAt W q') = false) ∧ sameB (ovAt W q) x = true) ∧ (tw = false → ∀ q, q < j → nameB x (ovAt W q) = false)) (hn : nameB x (ovAt W j) = true) (hs : sameB (ovAt W j) x = true) :
    ((true : Bool) = true → ∃ q, q < j + 1 ∧ nameB x (ovAt W q) = true ∧ (∀ q', q' < q → nameB x (ovAt W q') = false) ∧ sameB (ovAt W q) x = true) ∧ ((true : Bool) = false → ∀ q, q < j + 1 → nameB x (ovAt W q) = false) := by
  refine ⟨fun _ => ?_, fun ht => absurd ht (by decide)⟩
  cases tw with
  | true =>
    obtain ⟨q, h1, h2⟩ := h.1 rfl
    exact ⟨q, by omega, h2⟩
  | false => exact ⟨j, by omega, hn, h.2 rfl, hs⟩
/-- What is not known yet came. -/
theorem unk_mem {L M : List Ov} : ∀ k, k ≤ M.length → ∀ acc, unk L (M.take k) = some acc → ∀ x ∈ acc, x ∈ M
  | 0, _, acc, h, x, hx => by
    have : acc = [] := by simpa [unk] using h.symm
    rw [this] at hx
    exact absurd hx (by simp)
  | k + 1, hk, acc, h, x, hx => by
    rw [take_snoc (by omega), unk_snoc] at h
    cases hu : unk L (M.take k) with
    | none => rw [hu] at h; cases h
    | some acc0 =>
      have ih := unk_mem k (by omega) acc0 hu
      rw [hu] at h
      unfold unkS at h
      simp only [Option.bind_some] at h
      split at h
      · split at h
        · cases h; exact ih x hx
        · cases h
      · cases h
        rcases List.mem_append.1 hx with hx | hx
        · exact ih x hx
        · rw [List.mem_singleton] at hx
          rw [hx]
          exact ovAt_mem (by omega)

set_option maxHeartbeats 8000000 in
set_option maxRecDepth 100000 in
theorem specAdd_good (C : Nat) (w : World) (v vm : Value) (L M : List Ov) (R : Int × List Ov × List Ov) (HR : Hid (resAdd L M = R)) (hC : C ≤ w.heap.size) (hr : RdO C w v L) (hrm : RdO C w vm M) (hlong : ¬ 1024 < M.length) (hlog : logI L = true) (HOK : Hid (∀ q, q < M.length → (ovAt M q).ok = true)) :
    Calls Tryz.prog 45 #[v, vm] w fun e w' => ∃ r0 r1 S0 S1, e = .returned (.tuple #[r0, r1, .int .i64 R.1]) ∧ SameL S0 R.2.1 ∧ SameL S1 R.2.2 ∧ RdO w'.heap.size w' r0 S0 ∧ RdO w'.heap.size w' r1 S1 ∧ Below w.heap.size w w' := by
  have hi : ¬ (1024 : Int) < (M.length : Int) := by omega
  obtain ⟨hlenL, hst, hokL⟩ := logU_steps hlog
  have HST : Hid _ := hst
  have HOKM : Hid (∀ x ∈ M, x.ok = true) := fun x hx => by
    obtain ⟨q, hq, rfl⟩ := List.mem_iff_getElem.1 hx
    rw [ovAt_getElem hq]
    exact HOK.out q hq
  have HAPL : Hid (Apart L) := apart_log hst (fun x hx => (ok_parts (hokL x hx)).1.1)
  have HOKL : Hid _ := hokL
  have HF16 : Hid (∀ k, unk L (M.take k) = none → R = (16, [], [])) := fun k hk => by
    rw [← HR.out, resAdd, if_neg hlong, if_neg (by
      rintro (h | h)
      · rw [hlog] at h; cases h
      · rw [List.any_eq_true] at h
        obtain ⟨x, hx, hw⟩ := h
        obtain ⟨q, hq, rfl⟩ := List.mem_iff_getElem.1 hx
        rw [ovAt_getElem hq, wrongB, HOK.out q hq] at hw
        cases hw), unk_take hk]
  have hB : Below w.heap.size w (w.alloc (.cells #[] 29)) := below_alloc _ _
  have hLK := specLogOK_any C (w.alloc (.cells #[] 29)) v L (by have := hB.size; omega) (hr.below (hB.mono hC))
  rw [hlog] at hLK
  have HRL : Hid (RdO C w v L) := hr
  have HRM : Hid (RdO C w vm M) := hrm
  obtain ⟨ao, cap, rfl⟩ : ∃ ao cap, v = .slice ao L.length cap := by obtain ⟨⟨ao, cap, h, _⟩, _⟩ := hr; exact ⟨_, _, h⟩
  obtain ⟨⟨am, cam, rfl, hcap, hmax, hnil, hrow⟩, hdv⟩ := hrm
  clear hr hst hokL
  go_enter Tryz.func45, Tryz.ntmps45
  go_wp2_with (first | (go_at_call 67; refine hLK.mono ?_; rintro e w1 ⟨rfl, hb1⟩; have hsz1 : w.heap.size < w1.heap.size := (by have := hb1.size; rw [World.size_alloc] at this; omega); have hB1 := below_seq hB hb1))
  clear hLK hB hb1
  go_loopw [8] (fun ti wr => ∃ (i : Nat), i ≤ M.length ∧ ti = .int .i64 (i : Int) ∧ w.heap.size < wr.heap.size ∧ Below w.heap.size w wr) (fun ti _ => M.length - (intOf ti).toNat)
  case atStart => exact ⟨0, Nat.zero_le _, rfl, hsz1, hB1⟩
  case round =>
    obtain ⟨i, hip, rfl, hsz, hBw⟩ := hrel
    clear hB1 hsz1
    by_cases hlt : i < M.length
    · have hki : (i : Int) < (M.length : Int) := by omega
      obtain ⟨g, off, rfl, hg, hcs⟩ := hrow (by omega)
      have hx := (hcs i hlt).below (hBw.mono hC) hg
      have hxd := (hdv _ (ovAt_mem hlt)).below (hBw.mono hC)
      have hOK := specOpOK_any C (ovAt M i).a (ovAt M i).s (ovAt M i).t (ovAt M i).k (ovAt M i).o (ovAt M i).n (ovAt M i).u (ovAt M i).pt (ovAt M i).pa (ovAt M i).dv (ovAt M i).ky (ovAt M i).tx (ovAt M i).ds wr (by omega) hxd
      change Calls _ _ _ _ (fun e w' => e = .returned (.bool (ovAt M i).ok) ∧ Below wr.heap.size wr w') at hOK
      obtain ⟨c0, c1, c2, c3, c4, c5, c6, c7, c8, c9, c10, c11⟩ := hx
      rw [HOK.out i hlt] at hOK
      generalize ovAt M i = x at *
      obtain ⟨xa, xs, xt, xdv, xk, xo, xn, xu, xpt, xpa, xky, xtx, xds⟩ := x
      simp only at c0 c1 c2 c3 c4 c5 c6 c7 c8 c9 c10 c11 hOK
      clear hcs hxd
      go_wp2_with (first | (go_at_call 12; refine hOK.mono ?_; clear c0 c1 c2 c3 c4 c5 c6 c7 c8 c9 c10 c11; rintro e w2 ⟨rfl, hb2⟩; have hs2 := hb2.size; have hB2 := below_seq hBw hb2))
      go_roundw
      case rel => exact ⟨i + 1, by omega, by go_num, by omega, hB2⟩
      case measure => simp [intOf]; omega
    · obtain rfl : i = M.length := by omega
      have HI0 : Hid (∃ acc W : List Ov, unk L (M.take 0) = some acc ∧ SameL W acc ∧ (wr.alloc (.cells #[] 29)).ownsRow wr.heap.size 29 12 (.slice (some ⟨wr.heap.size, 0, none⟩) 0 0) W.length (rowCs W) ∧ (∀ x ∈ W, Own 3 (wr.alloc (.cells #[] 29)) wr.heap.size x.dv (x.ds.map (Value.int .i64))) ∧ Below wr.heap.size wr (wr.alloc (.cells #[] 29))) :=
        ⟨[], [], rfl, ⟨rfl, fun k hk => absurd hk (by simp)⟩, ⟨rfl, .inr ⟨wr.heap.size, 0, #[], rfl, Nat.le_refl _, heap_alloc_new _ _, Nat.le_refl _, by unfold maxLen; omega, rfl, rfl⟩⟩, fun x hx => absurd hx (by simp), below_alloc _ _⟩
      generalize hw0 : wr = w0 at *
      go_wp2_with fail
      go_loopw [9, 10] (fun tv ti wr => ∃ k : Nat, k ≤ M.length ∧ ti = .int .i64 (k : Int) ∧ Hid (∃ acc W : List Ov, unk L (M.take k) = some acc ∧ SameL W acc ∧ wr.ownsRow w0.heap.size 29 12 tv W.length (rowCs W) ∧ (∀ x ∈ W, Own 3 wr w0.heap.size x.dv (x.ds.map (Value.int .i64))) ∧ Below w0.heap.size w0 wr)) (fun _ ti _ => M.length - (intOf ti).toNat)
      case atStart => exact ⟨0, Nat.zero_le _, rfl, HI0⟩
      case round =>
        clear HI0
        obtain ⟨k, hk, rfl, HI⟩ := hrel
        by_cases hlt : k < M.length
        · have hki : (k : Int) < (M.length : Int) := by omega
          obtain ⟨acc, W, hU, hSW, ho, hod, hbel⟩ := HI.out
          obtain ⟨hApA, hlacc, -⟩ := unk_apart HAPL.out (M.take k).reverse (by rw [List.reverse_reverse]; exact hU)
          have hAp : Apart W := apart_same hSW (by unfold Apart at hApA ⊢; exact (List.pairwise_append.1 hApA).2.1)
          have hlW : W.length ≤ 1024 := by
            rw [List.length_reverse, List.length_take] at hlacc
            rw [hSW.1]
            omega
          have HAP : Hid _ := hAp
          clear hApA hlacc hAp
          have hs0 := hbel.size
          have hball : Below w.heap.size w wr := hBw.trans (hbel.mono (by omega))
          have hswr := hball.size
          obtain ⟨g, off, rfl, hg, hcs⟩ := hrow (by omega)
          have hx := (hcs k hlt).below (hball.mono hC) hg
          have hxd := (hdv _ (ovAt_mem hlt)).below (hball.mono hC)
          have hok := ok_parts (HOK.out k hlt)
          have hsq := ok_seq (HOK.out k hlt)
          have hx16 := vec_16 hok.2.2
          obtain ⟨a, ha⟩ := Int.eq_ofNat_of_zero_le (a := (ovAt M k).a) hok.1.1
          obtain ⟨m, hm1⟩ : ∃ m : Nat, (ovAt M k).s = ((m + 1 : Nat) : Int) := ⟨((ovAt M k).s - 1).toNat, by omega⟩
          have HUS : Hid (unk L (M.take (k + 1)) = unkS L (some acc) (ovAt M k)) := by unfold Hid; rw [take_snoc hlt, unk_snoc, hU]
          have hrL := HRL.out.below (hball.mono hC)
          obtain ⟨va9, vc9, e9⟩ := owns_any ho
          subst e9
          by_cases hm : m < (byA L a).length
          · obtain ⟨i, hS⟩ := stand_of HST.out a
            obtain ⟨hlt2, hfind, ha2, hs2⟩ := find_log HST.out ha hm1 hS hm
            have hF := fun n : Nat => l08Find_any C (wr.drewN n) (.slice ao L.length cap) L a i m (by show C ≤ wr.heap.size; omega) (hrL.below ((below_drewN (Below.refl wr.heap.size wr) n).mono (by omega))) hlenL hS hm
            have HUL : Hid _ := unkS_log (acc := acc) hfind
            obtain ⟨⟨aoL, capL, eL, -, -, -, hrowL⟩, hdvL⟩ := hrL
            cases eL
            obtain ⟨gL, offL, rfl, hgL, hcsL⟩ := hrowL (by omega)
            have hxL := hcsL (i + m) hlt2
            have hyd := hdvL _ (ovAt_mem hlt2)
            have hy16 := vec_16 (ok_parts (HOKL.out _ (ovAt_mem hlt2))).2.2
            have hSO := fun (w9 : World) (hb : Below wr.heap.size wr w9) => specSameOp_any C (ovAt L (i + m)) (ovAt M k) w9 (by have := hb.size; omega) (hyd.below (hb.mono (by omega))) (hxd.below (hb.mono (by omega))) hy16 hx16 ha2 hs2
            have hIM : ((i + m : Nat) : Int) < (L.length : Int) := by omega
            have hIM0 : (0 : Int) ≤ ((i + m : Nat) : Int) := by omega
            have c0 := hx.c0
            have c1 := hx.c1
            rw [ha] at c0
            rw [hm1] at c1
            have hRM : Hid _ := opAt_range hx
            have hRL : Hid _ := opAt_range hxL
            clear hcs hcsL
            generalize hgen : i + m = q at *
            go_upto_region 15 with fail
            go_quiet ((go_at_call 68; exact Calls.quiet_of_same (hF _)))
            go_upto_region 17 with fail
            have hbq : Below wr.heap.size wr (wr.drewN nq) := below_drewN (Below.refl _ _) nq
            have hne := kept_some (wr.drewN nq)
            have hbp := fun p : KeptBy (wr.drewN nq) => hbq.trans p.kept
            have HBP : Hid _ := hbp
            have HLY : Hid (∀ p : KeptBy (wr.drewN nq), p.W.rangeAt gL (offL + q * 12) (ovAt L q).cs) := fun p => opAt_range (hxL.below (hbp p) (by omega))
            have HLX : Hid (∀ p : KeptBy (wr.drewN nq), p.W.rangeAt g (off + k * 12) (ovAt M k).cs) := fun p => opAt_range (hx.below (hbp p) (by omega))
            obtain ⟨b, HBB⟩ : ∃ b, Hid (sameB (ovAt L q) (ovAt M k) = b) := ⟨_, rfl⟩
            have HSO : Hid (∀ p : KeptBy (wr.drewN nq), _) := fun p => kept_of (hSO p.W (hbp p))
            rw [HBB.out] at HSO HUL
            clear hSO hbp hF
            generalize wr.drewN nq = W17 at *
            refine wp_region_kept (by kernel_rfl) (by kernel_rfl) ?_
            iterate 3 (quiet_step (fail))
            refine quiet_load 29 _ gL (offL + q * 12) (ovAt L q).cs _ (fun w' ⟨p, hp⟩ => by rw [hp]; exact HLY.out p) Tryz.underlying29 rfl (infoOpB _) ?_
            simp only [tkS, Act.put]
            iterate 3 (quiet_step (fail))
            refine quiet_load 29 _ g (off + k * 12) (ovAt M k).cs _ (fun w' ⟨p, hp⟩ => by rw [hp]; exact HLX.out p) Tryz.underlying29 rfl (infoOpB _) ?_
            simp only [tkS, Act.put]
            quiet_step ((go_at_call 69; exact HSO.out _))
            quiet_step (fail)
            refine wpQuiet_nil ?_
            rintro _ ⟨p, rfl⟩
            have hbx := HBP.out p
            cases b with
            | true =>
              have HI2 : Hid (∃ acc' W' : List Ov, unk L (M.take (k + 1)) = some acc' ∧ SameL W' acc' ∧ p.W.ownsRow w0.heap.size 29 12 (.slice va9 W.length vc9) W'.length (rowCs W') ∧ (∀ x ∈ W', Own 3 p.W w0.heap.size x.dv (x.ds.map (Value.int .i64))) ∧ Below w0.heap.size w0 p.W) :=
                ⟨acc, W, by rw [HUS.out, HUL.out]; rfl, hSW, owns_on ho hbx (Nat.le_refl _), fun x hx => (hod x hx).below hbx (Nat.le_refl _), hbel.trans (hbx.mono hs0)⟩
              go_wp2_with fail
              go_roundw
              case rel => exact ⟨k + 1, by omega, by go_num, HI2⟩
              case measure => simp [intOf]; omega
            | false =>
              have hR16 := HF16.out (k + 1) (by rw [HUS.out, HUL.out]; rfl)
              subst hR16
              have hBe : Below w.heap.size w p.W := hball.trans (hbx.mono hswr)
              have hE := rdO_empty w p.W (by have := hbx.size; omega)
              go_wp2_with fail
              go_ret3
              exact ⟨_, _, rfl, [], ⟨rfl, fun k hk => absurd hk (by simp)⟩, [], ⟨rfl, fun k hk => absurd hk (by simp)⟩, hE, hE, hBe⟩
          · obtain ⟨i, hiL, hno, hat, hmN⟩ := none_at HST.out a (m := m) (by omega)
            have hfn := find_log_none HST.out ha hm1 (by omega)
            have HFN : Hid _ := hfn
            have hF := fun n : Nat => l08Find_none C (wr.drewN n) (.slice ao L.length cap) L a i m (by show C ≤ wr.heap.size; omega) (hrL.below ((below_drewN (Below.refl wr.heap.size wr) n).mono (by omega))) hlenL hiL hno hat hmN (by omega)
            have c0 := hx.c0
            have c1 := hx.c1
            rw [ha] at c0
            rw [hm1] at c1
            clear hcs hno hat hmN hfn
            go_upto_region 15 with fail
            go_quiet ((go_at_call 68; exact Calls.quiet_of_same (hF _)))
            have hbq : Below wr.heap.size wr (wr.drewN nq) := below_drewN (Below.refl _ _) nq
            clear hF c0 c1
            go_upto_region 19 with fail
            generalize wr.drewN nq = w16 at *
            generalize hw2 : wr = w2 at *
            clear hw2
            go_wp2_with fail
            go_loopw [12, 13] (fun tb ti w3 => ∃ (j : Nat) (tw : Bool), j ≤ W.length ∧ tb = .bool tw ∧ ti = .int .i64 (j : Int) ∧ Hid ((tw = true → ∃ q, q < j ∧ nameB (ovAt M k) (ovAt W q) = true ∧ (∀ q', q' < q → nameB (ovAt M k) (ovAt W q') = false) ∧ sameB (ovAt W q) (ovAt M k) = true) ∧ (tw = false → ∀ q, q < j → nameB (ovAt M k) (ovAt W q) = false)) ∧ Below w2.heap.size w2 w3) (fun _ ti _ => W.length - (intOf ti).toNat)
            case atStart => exact ⟨0, false, Nat.zero_le _, rfl, rfl, ⟨(fun h => absurd h (by decide)), fun _ q hq => absurd hq (by omega)⟩, hbq⟩
            case round =>
              obtain ⟨j, tw, hj, rfl, rfl, HJ, hb3⟩ := hrel
              have hs3 := hb3.size
              by_cases hjl : j < W.length
              · have hji : (j : Int) < (W.length : Int) := by omega
                have hrW3 := (owns_rdO ho (fun x hx => (hod x hx).rd)).below hb3
                obtain ⟨⟨aoW, capW, eW, hcW, hmW, -, hrowW⟩, hdvW⟩ := hrW3
                have hj2 : (j : Int) + 1 < 9223372036854775808 := by unfold maxLen at hmW; omega
                cases eW
                obtain ⟨gW, offW, rfl, hgW, hcsW⟩ := hrowW (by omega)
                have hy := hcsW j hjl
                have hyd := hdvW _ (ovAt_mem hjl)
                have hx3 := hx.below hb3 (by omega)
                have hxd3 := hxd.below (hb3.mono (by omega))
                have c0 := hy.c0
                have c1 := hy.c1
                have d0 := hx3.c0
                have d1 := hx3.c1
                clear hcsW
                by_cases ea : (ovAt W j).a = (ovAt M k).a
                · have eab : ((ovAt W j).a == (ovAt M k).a) = true := by simpa using ea
                  by_cases es : (ovAt W j).s = (ovAt M k).s
                  · have esb : ((ovAt W j).s == (ovAt M k).s) = true := by simpa using es
                    have hnm : nameB (ovAt M k) (ovAt W j) = true := by unfold nameB; simp [ea, es]
                    have htw : tw = false := by
                      cases tw with
                      | false => rfl
                      | true =>
                        obtain ⟨q, hq, h1, _⟩ := HJ.out.1 rfl
                        exact (apart_two HAP.out hjl hq h1 hnm).elim
                    subst htw
                    have hjacc : j < acc.length := by rw [← hSW.1]; exact hjl
                    have hSj := hSW.2 j hjacc
                    have hy16 : (ovAt W j).ds.length = 16 := by
                      rw [hSj.2.2.2.1]
                      exact vec_16 (ok_parts (HOKM.out _ (unk_mem k (by omega) acc hU _ (ovAt_mem hjacc)))).2.2
                    have hSO := fun (w9 : World) (hb : Below wr.heap.size wr w9) => specSameOp_any w2.heap.size (ovAt W j) (ovAt M k) w9 (by have := hb.size; omega) (hyd.below (hb.mono hs3)) ((hxd3.mono (by omega)).below (hb.mono hs3)) hy16 hx16 ea es
                    have HFD : Hid (acc.find? (nameB (ovAt M k)) = some (ovAt acc j)) := find_first hjacc (by rw [← name_same hSj]; exact hnm) (fun q hq => by rw [← name_same (hSW.2 q (by omega))]; exact HJ.out.2 rfl q hq)
                    have HUW : Hid (unkS L (some acc) (ovAt M k) = if sameB (ovAt W j) (ovAt M k) = true then some acc else none) := by
                      unfold Hid
                      rw [sameB_same hSj]
                      exact unkS_wait HFN.out HFD.out
                    have HYE : Hid (sameB (ovAt W j) (ovAt M k) = true → ((true : Bool) = true → ∃ q, q < j + 1 ∧ nameB (ovAt M k) (ovAt W q) = true ∧ (∀ q', q' < q → nameB (ovAt M k) (ovAt W q') = false) ∧ sameB (ovAt W q) (ovAt M k) = true) ∧ ((true : Bool) = false → ∀ q, q < j + 1 → nameB (ovAt M k) (ovAt W q) = false)) := fun h => nameStep_yes HJ.out hnm h
                    rw [ea] at c0
                    rw [es] at c1
                    have hYR := opAt_range hy
                    have hXR := opAt_range hx3
                    clear hy hyd hx3 hxd3 ea es hnm hSj hy16 HJ HFD
                    generalize (ovAt M k).a = xa at c0 d0
                    generalize (ovAt M k).s = xs at c1 d1
                    clear eab esb
                    go_upto_region 23 with fail
                    go_quiet (fail)
                    go_upto_region 24 with fail
                    have hne := kept_some (wr.drewN nq)
                    have hbp := fun p : KeptBy (wr.drewN nq) => (below_drewN (Below.refl wr.heap.size wr) nq).trans p.kept
                    have HBP : Hid _ := hbp
                    have HLY : Hid (∀ p : KeptBy (wr.drewN nq), p.W.rangeAt gW (offW + j * 12) (ovAt W j).cs) := fun p q u hq => ((hbp p).cell (p := ⟨gW, _, none⟩) (by show gW < wr.heap.size; omega)).trans (hYR q u hq)
                    have HLX : Hid (∀ p : KeptBy (wr.drewN nq), p.W.rangeAt g (off + k * 12) (ovAt M k).cs) := fun p q u hq => ((hbp p).cell (p := ⟨g, _, none⟩) (by show g < wr.heap.size; omega)).trans (hXR q u hq)
                    obtain ⟨b, HBB⟩ : ∃ b, Hid (sameB (ovAt W j) (ovAt M k) = b) := ⟨_, rfl⟩
                    have HSO : Hid (∀ p : KeptBy (wr.drewN nq), _) := fun p => kept_of (hSO p.W (hbp p))
                    rw [HBB.out] at HSO HUW HYE
                    clear hSO hbp hYR hXR c0 c1 d0 d1
                    generalize wr.drewN nq = W24 at *
                    refine wp_region_kept (by kernel_rfl) (by kernel_rfl) ?_
                    iterate 3 (quiet_step (fail))
                    refine quiet_load 29 _ gW (offW + j * 12) (ovAt W j).cs _ (fun w' ⟨p, hp⟩ => by rw [hp]; exact HLY.out p) Tryz.underlying29 rfl (infoOpB _) ?_
                    simp only [tkS, Act.put]
                    iterate 3 (quiet_step (fail))
                    refine quiet_load 29 _ g (off + k * 12) (ovAt M k).cs _ (fun w' ⟨p, hp⟩ => by rw [hp]; exact HLX.out p) Tryz.underlying29 rfl (infoOpB _) ?_
                    simp only [tkS, Act.put]
                    quiet_step ((go_at_call 69; exact HSO.out _))
                    quiet_step (fail)
                    refine wpQuiet_nil ?_
                    rintro _ ⟨p, rfl⟩
                    have hbx := HBP.out p
                    have hb4 := hb3.trans (hbx.mono hs3)
                    clear HLY HLX HSO hne hbx hj2
                    generalize p.W = w5 at *
                    cases b with
                    | true =>
                      have HJ2 : Hid _ := HYE.out rfl
                      go_wp2_with fail
                      go_roundw
                      case rel => exact ⟨j + 1, true, by omega, rfl, by go_num, HJ2, hb4⟩
                      case measure => simp [intOf]; omega
                    | false =>
                      have hR16 := HF16.out (k + 1) (by rw [HUS.out, HUW.out]; rfl)
                      subst hR16
                      have hBe : Below w.heap.size w w5 := hball.trans (hb4.mono hswr)
                      have hE := rdO_empty w w5 (by have := hb4.size; omega)
                      go_wp2_with fail
                      go_ret3
                      exact ⟨_, _, rfl, [], ⟨rfl, fun k hk => absurd hk (by simp)⟩, [], ⟨rfl, fun k hk => absurd hk (by simp)⟩, hE, hE, hBe⟩
                  · have esb : ((ovAt W j).s == (ovAt M k).s) = false := by simpa using es
                    have HJ2 : Hid ((tw = true → ∃ q, q < j + 1 ∧ nameB (ovAt M k) (ovAt W q) = true ∧ (∀ q', q' < q → nameB (ovAt M k) (ovAt W q') = false) ∧ sameB (ovAt W q) (ovAt M k) = true) ∧ (tw = false → ∀ q, q < j + 1 → nameB (ovAt M k) (ovAt W q) = false)) := nameStep_no HJ.out (by unfold nameB; simp [es])
                    generalize (ovAt W j).a = ya at c0 eab
                    generalize (ovAt W j).s = ys at c1 esb
                    generalize (ovAt M k).a = xa at d0 eab
                    generalize (ovAt M k).s = xs at d1 esb
                    clear hy hyd hx3 hxd3 ea es
                    go_upto_region 23 with fail
                    go_quiet (fail)
                    go_wp2_with fail
                    go_roundw
                    case rel => exact ⟨j + 1, tw, by omega, rfl, by go_num, HJ2, below_drewN hb3 _⟩
                    case measure => simp [intOf]; omega
                · have eab : ((ovAt W j).a == (ovAt M k).a) = false := by simpa using ea
                  have HJ2 : Hid ((tw = true → ∃ q, q < j + 1 ∧ nameB (ovAt M k) (ovAt W q) = true ∧ (∀ q', q' < q → nameB (ovAt M k) (ovAt W q') = false) ∧ sameB (ovAt W q) (ovAt M k) = true) ∧ (tw = false → ∀ q, q < j + 1 → nameB (ovAt M k) (ovAt W q) = false)) := nameStep_no HJ.out (by unfold nameB; simp [ea])
                  generalize (ovAt W j).a = ya at c0 eab
                  generalize (ovAt M k).a = xa at d0 eab
                  clear hy hyd hx3 hxd3 ea c1 d1
                  go_upto_region 23 with fail
                  go_quiet (fail)
                  go_wp2_with fail
                  go_roundw
                  case rel => exact ⟨j + 1, tw, by omega, rfl, by go_num, HJ2, below_drewN hb3 _⟩
                  case measure => simp [intOf]; omega
              · obtain rfl : j = W.length := by omega
                have hbel3 : Below w0.heap.size w0 wr := hbel.trans (hb3.mono hs0)
                have hji : ¬ (W.length : Int) < (W.length : Int) := by omega
                cases tw with
                | true =>
                  have HI2 : Hid (∃ acc' W' : List Ov, unk L (M.take (k + 1)) = some acc' ∧ SameL W' acc' ∧ wr.ownsRow w0.heap.size 29 12 (.slice va9 W.length vc9) W'.length (rowCs W') ∧ (∀ x ∈ W', Own 3 wr w0.heap.size x.dv (x.ds.map (Value.int .i64))) ∧ Below w0.heap.size w0 wr) := by
                    obtain ⟨q, hq, h1, h2, h3⟩ := HJ.out.1 rfl
                    have hqa : q < acc.length := by rw [← hSW.1]; exact hq
                    have hSq := hSW.2 q hqa
                    have hfd := find_first (W := acc) hqa (by rw [← name_same hSq]; exact h1) (fun q' hq' => by rw [← name_same (hSW.2 q' (by omega))]; exact h2 q' hq')
                    refine ⟨acc, W, ?_, hSW, owns_on ho hb3 (Nat.le_refl _), fun x hx => (hod x hx).below hb3 (Nat.le_refl _), hbel3⟩
                    rw [HUS.out, unkS_wait HFN.out hfd, ← sameB_same hSq, h3]
                    rfl
                  go_wp2_with fail
                  go_roundw
                  case rel => exact ⟨k + 1, by omega, by go_num, HI2⟩
                  case measure => simp [intOf]; omega
                | false =>
                  have ho3 := owns_on ho hb3 (Nat.le_refl _)
                  have hod3 := fun x hx => (hod x hx).below hb3 (Nat.le_refl _)
                  have hx3 := hx.below hb3 (by omega)
                  have hxd3 := hxd.below (hb3.mono (by omega))
                  have hxl : (ovAt M k).ds.length ≤ 1048576 := by omega
                  have HU1 : Hid (unk L (M.take (k + 1)) = some (acc ++ [ovAt M k])) := by
                    unfold Hid
                    rw [HUS.out]
                    exact unkS_new HFN.out (find_not (fun q hq => by rw [← name_same (hSW.2 q hq)]; exact HJ.out.2 rfl q (by rw [hSW.1]; exact hq)))
                  have hC1 := l08CopyOp_any C (ovAt M k) wr hxl (by omega) hxd3
                  have hgw : g < wr.heap.size := by omega
                  obtain ⟨i0, hi0, hz0, hz1, hz2⟩ := info_parts infoOp
                  obtain ⟨c0, c1, c2, c3, c4, c5, c6, c7, c8, c9, c10, c11⟩ := hx3
                  clear hx hxd ha hm1 hok hsq hx16 HUS HFN hxl HJ hod
                  generalize ovAt M k = x at *
                  obtain ⟨xa, xs, xt, xdv, xk, xo, xn, xu, xpt, xpa, xky, xtx, xds⟩ := x
                  simp only at c0 c1 c2 c3 c4 c5 c6 c7 c8 c9 c10 c11 hxd3 hC1
                  obtain ⟨da, dn, dc, rfl⟩ : ∃ da dn dc, xdv = .slice da dn dc := by obtain ⟨da, dc, h, _⟩ := hxd3; exact ⟨da, _, dc, h⟩
                  have hlt6 := fun k hk => (World.ownsRow.lt ho3 k hk).1
                  clear HI ho
                  have hsw := hbel3.size
                  go_wp2_with (first | (go_at_call 65; refine hC1.mono ?_; clear c0 c1 c2 c3 c4 c5 c6 c7 c8 c9 c10 c11; rintro e w5 ⟨ya, yn, yc, rfl, hO5, hb5⟩; have ho5 := owns_on ho3 hb5 (Nat.le_refl _); have hcn := opNew w5 (⟨xa, xs, xt, .slice ya yn yc, xk, xo, xn, xu, xpt, xpa, xky, xtx, xds⟩ : Ov); have hone : ∀ u ∈ Ov.cs (⟨xa, xs, xt, .slice ya yn yc, xk, xo, xn, xu, xpt, xpa, xky, xtx, xds⟩ : Ov), u.oneCell' = true := cs_one (⟨xa, xs, xt, .slice ya yn yc, xk, xo, xn, xu, xpt, xpa, xky, xtx, xds⟩ : Ov) rfl; have hs5 := hb5.size) | (at_builtin; refine wpList_append_own _ rfl _ _ 33 rfl w0.heap.size 29 i0 (.agg #[.int .i64 0, .int .i64 0, .int .i64 0, .slice none 0 0, .int .i64 0, .int .i64 0, .int .i64 0, .int .i64 0, .int .i64 0, .int .i64 0, .string ByteArray.empty, .string ByteArray.empty]) 12 128 Tryz.underlying33 hi0 hz0 hz1 hz2 rfl (by decide) _ W.length _ rfl (World.ownsRow.alloc ho5 _) ⟨w5.heap.size, 0, none⟩ 1 1 (Ov.cs (⟨xa, xs, xt, .slice ya yn yc, xk, xo, xn, xu, xpt, xpa, xky, xtx, xds⟩ : Ov)) rfl rfl hcn hone (by unfold maxLen; omega) (by omega) (by rw [World.size_alloc]; omega) ?_))
                  intro v6 w6 ho6 hg6 _
                  have hbN : Below w0.heap.size w0 (w5.alloc (.cells #[.int .i64 xa, .int .i64 xs, .int .i64 xt, .slice ya yn yc, .int .i64 xk, .int .i64 xo, .int .i64 xn, .int .i64 xu, .int .i64 xpt, .int .i64 xpa, .string xky, .string xtx] 29)) := (hbel3.trans (hb5.mono hsw)).alloc (by omega) _
                  have hO6 : Own 3 (w5.alloc (.cells #[.int .i64 xa, .int .i64 xs, .int .i64 xt, .slice ya yn yc, .int .i64 xk, .int .i64 xo, .int .i64 xn, .int .i64 xu, .int .i64 xpt, .int .i64 xpa, .string xky, .string xtx] 29)) w0.heap.size (.slice ya yn yc) (xds.map (Value.int .i64)) := Own.mono (World.ownsRow.alloc hO5 _) (by show w0.heap.size ≤ wr.heap.size; omega)
                  have hoA := World.ownsRow.alloc ho5 (.cells #[.int .i64 xa, .int .i64 xs, .int .i64 xt, .slice ya yn yc, .int .i64 xk, .int .i64 xo, .int .i64 xn, .int .i64 xu, .int .i64 xpt, .int .i64 xpa, .string xky, .string xtx] 29)
                  have HI2 : Hid (∃ acc' W' : List Ov, unk L (M.take (k + 1)) = some acc' ∧ SameL W' acc' ∧ w6.ownsRow w0.heap.size 29 12 v6 W'.length (rowCs W') ∧ (∀ x ∈ W', Own 3 w6 w0.heap.size x.dv (x.ds.map (Value.int .i64))) ∧ Below w0.heap.size w0 w6) := by
                    refine ⟨_, W ++ [(⟨xa, xs, xt, .slice ya yn yc, xk, xo, xn, xu, xpt, xpa, xky, xtx, xds⟩ : Ov)], HU1.out, sameL_snoc hSW ⟨rfl, rfl, rfl, rfl, rfl, rfl, rfl, rfl, rfl, rfl, rfl, rfl⟩, ?_, fun z hz => ?_, hbN.grown hg6 hbN.size hlt6⟩
                    · rw [rowCs_app, List.length_append]
                      have e1 : rowCs [(⟨xa, xs, xt, .slice ya yn yc, xk, xo, xn, xu, xpt, xpa, xky, xtx, xds⟩ : Ov)] = Ov.cs (⟨xa, xs, xt, .slice ya yn yc, xk, xo, xn, xu, xpt, xpa, xky, xtx, xds⟩ : Ov) := by simp [rowCs]
                      rw [e1]
                      exact ho6
                    · have hz' : Own 3 (w5.alloc (.cells #[.int .i64 xa, .int .i64 xs, .int .i64 xt, .slice ya yn yc, .int .i64 xk, .int .i64 xo, .int .i64 xn, .int .i64 xu, .int .i64 xpt, .int .i64 xpa, .string xky, .string xtx] 29)) w0.heap.size z.dv (z.ds.map (Value.int .i64)) := by
                        rcases List.mem_append.1 hz with hz | hz
                        · exact World.ownsRow.alloc ((hod3 z hz).below hb5 (Nat.le_refl _)) _
                        · simp only [List.mem_singleton] at hz
                          subst hz
                          exact hO6
                      exact ownSame' hz' (fun q hq => hg6.block q (World.ownsRow.lt hz' q hq).2 (fun e => owns_ne hoA hz' q hq e.symm))
                  clear ho6 hg6 hoA hbN hcn HU1 ho3 ho5 hO5 hO6 hod3
                  go_wp2_with fail
                  go_roundw
                  case rel => exact ⟨k + 1, by omega, by go_num, HI2⟩
                  case measure => simp [intOf]; omega
        · obtain rfl : k = M.length := by omega
          obtain ⟨acc0, W0, hU, hSW, ho, hod, hbel⟩ := HI.out
          rw [List.take_length] at hU
          have hs0 := hbel.size
          have hball : Below w.heap.size w wr := hBw.trans (hbel.mono (by omega))
          have hswr := hball.size
          have hkM : ¬ (M.length : Int) < (M.length : Int) := by omega
          have HRA : Hid (R = ansW (addW L acc0)) := by
            unfold Hid
            rw [← HR.out, resAdd, if_neg hlong, if_neg (by
              rintro (h | h)
              · rw [hlog] at h; cases h
              · rw [List.any_eq_true] at h
                obtain ⟨x, hx, hw⟩ := h
                rw [wrongB, HOKM.out x hx] at hw
                cases hw), hU]
            rfl
          obtain ⟨-, hlacc, hmemA⟩ := unk_apart HAPL.out M.reverse (by rw [List.reverse_reverse]; exact hU)
          have hOA : ∀ x ∈ acc0, x.ok = true := fun x hx => HOKM.out x (by simpa using hmemA x hx)
          have hlA : acc0.length ≤ 1024 := by rw [List.length_reverse] at hlacc; omega
          have hrL := HRL.out.below (hball.mono hC)
          have hCP := l08Copy_any C wr (.slice ao L.length cap) L (by omega) hrL (by omega) (fun x hx => by have := vec_16 (ok_parts (HOKL.out x hx)).2.2; omega)
          have hrW := owns_rdO ho (fun x hx => (hod x hx).rd)
          have hLP : LogP L := logP_of hlog hlenL HST.out HOKL.out
          have hself : allK L 16 = L := allK_self HST.out (fun x hx => (ok_parts (HOKL.out x hx)).1)
          have HST0 : Hid (∀ (w9 : World) (gT cT : Nat) (T : List Ov), SameL T L → w9.ownsRow wr.heap.size 29 12 (.slice (some ⟨gT, 0, none⟩) T.length cT) T.length (rowCs T) → (∀ x ∈ T, Own 3 w9 wr.heap.size x.dv (x.ds.map (Value.int .i64))) → Below wr.heap.size wr w9 → ∀ v, RdO wr.heap.size wr v W0 → St4 w L acc0 w9 v (.slice (some ⟨gT, 0, none⟩) T.length cT) 0) := fun w9 gT cT T hST hoT hodT hbT v hv => by
            have hb9 : Below w.heap.size w w9 := hball.trans (hbT.mono hswr)
            refine ⟨L, acc0, T, W0, rfl, ⟨hLP, hOA, by rw [hself]; exact hST, hSW, hlA⟩, owns_rdO hoT (fun x hx => (hodT x hx).rd), ⟨gT, 0, cT, rfl⟩, (hv.below hbT).mono hbT.size, Nat.zero_le _, fun q hq => absurd hq (by omega), hb9, by have := hbT.size; omega⟩
          obtain ⟨vW0, cW0, e9⟩ := owns_any ho
          subst e9
          have HRW : Hid _ := hrW
          clear HI hU hSW ho hod hbel hlacc hmemA hOA hlA hrL hrW hLP hself
          go_wp2_with (first | (go_at_call 41; refine hCP.mono ?_; rintro e w9 ⟨rT, T0, rfl, hST, hoT, hodT, hbT, gT, cT, rfl⟩; have HS0 : Hid _ := HST0.out w9 gT cT T0 hST hoT hodT hbT _ HRW.out; clear hCP hST hoT hodT hbT HRW HST0))
          go_loopw [9, 14, 15] (fun tv tt ti wr => ∃ i : Nat, i ≤ 1024 ∧ ti = .int .i64 (i : Int) ∧ Hid (St4 w L acc0 wr tv tt i)) (fun tv _ ti _ => lenS tv * 2000 + 2000 - (intOf ti).toNat)
          case atStart => exact ⟨0, by omega, rfl, HS0⟩
          case round =>
            clear HS0
            obtain ⟨i, hi24, rfl, HS⟩ := hrel
            obtain ⟨P, acc, T, W, hAD, h4, hrT, ⟨gT, oT, cT, eT⟩, hrW, hiW, hnd, hbw, hszw⟩ := HS.out
            subst eT
            obtain ⟨vW, cW, eW⟩ := rdO_any hrW
            subst eW
            have hlW : W.length ≤ 1024 := by rw [h4.sW.1]; exact h4.lW
            have hlT : T.length ≤ 1024 := by rw [h4.lenT]; exact h4.logp.len
            by_cases hlt : i < W.length
            · have hki : (i : Int) < (W.length : Int) := by omega
              obtain ⟨hla, hsm, hokx, hokA⟩ := h4.at hlt
              have hpx := ok_parts hokx
              have hx16 := vec_16 hpx.2.2
              have HRW : Hid (RdO wr.heap.size wr (.slice vW W.length cW) W) := hrW
              obtain ⟨⟨aW, capW, eW2, hcapW, hmaxW, -, hrowW⟩, hdvW⟩ := hrW
              cases eW2
              obtain ⟨gW, oW, rfl, hgW, hcsW⟩ := hrowW (by omega)
              have hx := hcsW i hlt
              have hxd := hdvW _ (ovAt_mem hlt)
              obtain ⟨da, dn, dc, hdx⟩ : ∃ a n c, (ovAt W i).dv = .slice a n c := by obtain ⟨da, dc, h, _⟩ := hxd; exact ⟨da, _, dc, h⟩
              have HNX : Hid (nextB T (ovAt W i) = nextB P (ovAt acc i)) := h4.next hlt
              have HCX : Hid (causesB T (ovAt W i) = causesB P (ovAt acc i)) := h4.causes hlt
              have HFX : Hid (fitsB T (ovAt W i) = suitB P (ovAt acc i)) := h4.fits hlt
              have HPUT : Hid (nextB P (ovAt acc i) = true → suitB P (ovAt acc i) = true → P.length < 1024 → ∃ A R, T = A ++ R ∧ (∀ y ∈ A, aheadB (ovAt W i) y = true) ∧ (∀ y ∈ R, aheadB (ovAt W i) y = false) ∧ L4 (P ++ [ovAt acc i]) (acc.eraseIdx i) (A ++ ovAt W i :: R) (W.eraseIdx i)) := fun h1 h2 h3 => h4.put hlt h1 h2 h3
              have HND : Hid (∀ w5, Below wr.heap.size wr w5 → dueB P (ovAt acc i) = false → St4 w L acc0 w5 (.slice (some ⟨gW, oW, none⟩) W.length cW) (.slice (some ⟨gT, oT, none⟩) T.length cT) (i + 1)) := fun w5 hb5 hdu => by
                refine ⟨P, acc, T, W, hAD, h4, (hrT.below hb5).mono hb5.size, ⟨gT, oT, cT, rfl⟩, (HRW.out.below hb5).mono hb5.size, hlt, fun q hq => ?_, hbw.trans (hb5.mono hbw.size), by have := hb5.size; omega⟩
                by_cases e : q = i
                · rw [e]; exact hdu
                · exact hnd q (by omega)
              have HDU : Hid (dueB P (ovAt acc i) = true → addW L acc0 = if suitB P (ovAt acc i) = false then (8, [], []) else if 1024 ≤ P.length then (11, [], []) else addW (P ++ [ovAt acc i]) (acc.eraseIdx i)) := fun h => by
                rw [hAD]
                exact addW_some hla (findIdx_some hla h hnd)
              have HDB : Hid (dueB P (ovAt acc i) = (nextB T (ovAt W i) && causesB T (ovAt W i))) := by
                unfold Hid
                rw [HNX.out, HCX.out]
                rfl
              have hsT := h4.stand
              have hokT := h4.okT
              have HLPT : Hid (T.length = P.length) := h4.lenT
              obtain ⟨a, ha⟩ := Int.eq_ofNat_of_zero_le (a := (ovAt W i).a) hpx.1.1
              have ha16 : a < 16 := by omega
              have HNB : Hid (nextB T (ovAt W i) = decide ((ovAt W i).s = ((byA T a).length : Int) + 1)) := by
                unfold Hid nextB
                rw [ha, Int.toNat_natCast]
              have hxd0 : Rd wr.heap.size wr (ovAt W i).dv ((ovAt W i).ds.map (Value.int .i64)) := hxd
              obtain ⟨c0, c1, c2, c3, c4, c5, c6, c7, c8, c9, c10, c11⟩ := hx
              rw [hdx] at c3
              rw [ha] at c0
              clear HS hcsW hrowW hdvW hxd hsm hokx hokA
              generalize ovAt W i = X at *
              have hvd := hpx.2.2
              obtain ⟨w32, hw32⟩ : ∃ w32, wr.alloc (.cells #[.int .i64 (a : Int), .int .i64 X.s, .int .i64 X.t, .slice da dn dc, .int .i64 X.k, .int .i64 X.o, .int .i64 X.n, .int .i64 X.u, .int .i64 X.pt, .int .i64 X.pa, .string X.ky, .string X.tx] 29) = w32 := ⟨_, rfl⟩
              have hO32 : OpBlk w32 wr.heap.size X := by
                rw [← hw32]
                unfold OpBlk Ov.cs
                rw [hdx, ha]
                exact heap_alloc_new wr _
              have hb32 : Below wr.heap.size wr w32 := by rw [← hw32]; exact below_alloc _ _
              have hs32 : wr.heap.size < w32.heap.size := by rw [← hw32, World.size_alloc]; omega
              have hcn := l08Counts_any wr.heap.size w32 (.slice (some ⟨gT, oT, none⟩) T.length cT) T hb32.size (hrT.below hb32) hlT (fun y hy => (ok_parts (hokT y hy)).1)
              have HRT : Hid (RdO wr.heap.size wr (.slice (some ⟨gT, oT, none⟩) T.length cT) T) := hrT
              have HXD : Hid (Rd wr.heap.size wr X.dv (X.ds.map (Value.int .i64))) := hxd0
              have HPX : Hid _ := hpx
              have HAX : Hid (X.a = (a : Int)) := ha
              have HDX : Hid _ := hdx
              clear hrT hxd0 hpx hx16 ha hdx
              go_upto_region 33 with fail
              clear c0 c1 c2 c3 c4 c5 c6 c7 c8 c9 c10 c11 hw32
              go_upto_region 34 with (first | (go_at_call 70; refine hcn.mono ?_; rintro e w33 ⟨gc, rfl, hoc, hb33⟩))
              have hgc : w32.heap.size ≤ gc ∧ gc < w33.heap.size := World.ownsRow.lt hoc gc rfl
              have hb3w : Below wr.heap.size wr w33 := hb32.trans (hb33.mono hb32.size)
              have hB34 : Below wr.heap.size wr (w33.alloc (.cells #[.slice (some ⟨gc, 0, none⟩) 16 16] 25)) := hb3w.alloc (by have := hb3w.size; omega) _
              have hO34 : OpBlk (w33.alloc (.cells #[.slice (some ⟨gc, 0, none⟩) 16 16] 25)) wr.heap.size X := ((below_alloc w33 _).block wr.heap.size (by have := hb33.size; omega)).trans ((hb33.block wr.heap.size hs32).trans hO32)
              have hV34 : (w33.alloc (.cells #[.slice (some ⟨gc, 0, none⟩) 16 16] 25)).heap[w33.heap.size]? = some (.cells #[.slice (some ⟨gc, 0, none⟩) 16 16] 25 (0, 0)) := heap_alloc_new w33 _
              have hC34 : Rd (w33.alloc (.cells #[.slice (some ⟨gc, 0, none⟩) 16 16] 25)).heap.size (w33.alloc (.cells #[.slice (some ⟨gc, 0, none⟩) 16 16] 25)) (.slice (some ⟨gc, 0, none⟩) 16 16) ((cnts T).map (Value.int .i64)) := (hoc.rd.below (below_alloc w33 _)).mono (by rw [World.size_alloc]; omega)
              have hv34 : w33.heap.size < (w33.alloc (.cells #[.slice (some ⟨gc, 0, none⟩) 16 16] 25)).heap.size := by rw [World.size_alloc]; omega
              have hn34 : (w33.alloc (.cells #[.slice (some ⟨gc, 0, none⟩) 16 16] 25)).cell? ⟨gc, a, none⟩ = some (.int .i64 ((byA T a).length : Int)) := by
                have h1 := own_at hoc (k := a) (v := .int .i64 ((byA T a).length : Int)) (by rw [List.getElem?_map, cnts_at T ha16]; rfl)
                exact ((below_alloc w33 _).cell (p := ⟨gc, a, none⟩) hgc.2).trans h1
              generalize w33.alloc (.cells #[.slice (some ⟨gc, 0, none⟩) 16 16] 25) = w34 at *
              generalize w33.heap.size = vb at *
              have HB34 : Hid _ := hB34
              have hsz34 := hB34.size
              have hgc34 : gc < w34.heap.size := by omega
              have hB1 : wr.heap.size < w34.heap.size := by omega
              have hlN : (byA T a).length ≤ 1024 := Nat.le_trans (List.length_filter_le _ _) hlT
              have hw7 : IntKind.i64.wrap (((byA T a).length : Int) + 1) = ((byA T a).length : Int) + 1 := by rw [IntKind.wrap_i64]; omega
              have HCAL : Hid (∀ p : KeptBy w34, Calls Tryz.prog 71 #[.slice (some ⟨gT, oT, none⟩) T.length cT, .agg #[.slice (some ⟨gc, 0, none⟩) 16 16], .agg X.cs.toArray] p.W fun e w'' => e = .returned (.bool (causesB T X)) ∧ ∃ p : KeptBy w34, w'' = p.W) := fun p => by
                have hbp := HB34.out.trans (p.kept.mono hsz34)
                exact kept_of (l08Causes_all w34.heap.size p.W _ _ T X p.kept.size ((HRT.out.below hbp).mono hsz34) hlT (hC34.below p.kept) ((HXD.out.below hbp).mono hsz34) hvd (fun a _ => hsT a))
              have HLX : Hid (∀ p : KeptBy w34, p.W.rangeAt wr.heap.size 0 X.cs) := fun p => opBlk_range ((p.kept.block wr.heap.size hB1).trans hO34)
              have HLV : Hid (∀ p : KeptBy w34, p.W.rangeAt vb 0 [.slice (some ⟨gc, 0, none⟩) 16 16]) := fun p q u hq => by
                match q, hq with
                | 0, hq => cases hq; exact blk_cell ((p.kept.block vb hv34).trans hV34) 0 rfl
              have f0 : ∀ p : KeptBy w34, p.W.cell? ⟨wr.heap.size, 0, none⟩ = some (.int .i64 (a : Int)) := fun p => by
                have := HLX.out p 0 _ rfl
                rw [Nat.zero_add, HAX.out] at this
                exact this
              have f1 : ∀ p : KeptBy w34, p.W.cell? ⟨wr.heap.size, 1, none⟩ = some (.int .i64 X.s) := fun p => HLX.out p 1 _ rfl
              have fv : ∀ p : KeptBy w34, p.W.cell? ⟨vb, 0, none⟩ = some (.slice (some ⟨gc, 0, none⟩) 16 16) := fun p => HLV.out p 0 _ rfl
              have fn : ∀ p : KeptBy w34, p.W.cell? ⟨gc, a, none⟩ = some (.int .i64 ((byA T a).length : Int)) := fun p => (p.kept.cell (p := ⟨gc, a, none⟩) hgc34).trans hn34
              have HF0 : Hid _ := f0
              have HF1 : Hid _ := f1
              have HFV : Hid _ := fv
              have HFN4 : Hid _ := fn
              have HIV : Hid ((Tryz.prog.info? 25).map (·.size) = some 1) := by unfold Hid; kernel_rfl
              have HIX : Hid ((Tryz.prog.info? 29).map (·.size) = some X.cs.length) := infoOpB _
              have hne := kept_some w34
              have ha16i : (a : Int) < 16 := by omega
              have HW5 : Hid (∀ p : KeptBy w34, Below wr.heap.size wr p.W) := fun p => HB34.out.trans (p.kept.mono hsz34)
              have HOX : Hid (∀ p : KeptBy w34, OpBlk p.W wr.heap.size X) := fun p => (p.kept.block wr.heap.size hB1).trans hO34
              clear f0 f1 fv fn hn34 hC34 hV34 hO34 hB34 hO32 hb32 hs32 hcn hoc hb33 hgc hb3w hv34 hlN hokT hsT
              generalize (byA T a).length = nT at *
              obtain ⟨cb, HCB⟩ : ∃ cb, Hid (causesB T X = cb) := ⟨_, rfl⟩
              rw [HCB.out] at HCAL HDB
              have hkT := hki
              by_cases hnx : X.s = (nT : Int) + 1
              · have hnb : (X.s != (nT : Int) + 1) = false := by simpa using hnx
                have HNT : Hid (nextB T X = true) := HNB.out.trans (decide_eq_true hnx)
                have f0 := HF0.out
                have f1 := HF1.out
                have fv := HFV.out
                have fn := HFN4.out
                clear hnx
                refine wp_region_kept (by kernel_rfl) (by kernel_rfl) ?_
                iterate 12 (quiet_step (fail))
                refine quiet_load 25 _ vb 0 [.slice (some ⟨gc, 0, none⟩) 16 16] _ (fun w' ⟨p, hp⟩ => by rw [hp]; exact HLV.out p) Tryz.underlying25 rfl HIV.out ?_
                simp only [tkS, Act.put]
                refine quiet_load 29 _ wr.heap.size 0 X.cs _ (fun w' ⟨p, hp⟩ => by rw [hp]; exact HLX.out p) Tryz.underlying29 rfl HIX.out ?_
                simp only [tkS, Act.put]
                quiet_step ((go_at_call 71; exact HCAL.out _))
                iterate 2 (quiet_step (fail))
                refine wpQuiet_nil ?_
                rintro _ ⟨p, rfl⟩
                have hb35 := HW5.out p
                have hO35 := HOX.out p
                have hsz35 := hb35.size
                clear f0 f1 fv fn HF0 HF1 HFV HFN4 HLX HLV HCAL hne HW5 HOX hnb hw7 ha16i ha16 hgc34 hB1
                generalize p.W = w35 at *
                cases cb with
                | false =>
                  have HS2 : Hid _ := HND.out w35 hb35 (by rw [HDB.out, HNT.out]; rfl)
                  go_wp2_with fail
                  go_roundw
                  case rel => exact ⟨i + 1, by omega, by go_num, HS2⟩
                  case measure => simp [intOf, lenS]; omega
                | true =>
                  have HDUE : Hid _ := HDU.out (by rw [HDB.out, HNT.out]; rfl)
                  have HNP : Hid (nextB P (ovAt acc i) = true) := HNX.out.symm.trans HNT.out
                  have hKF := l08KindFits_any wr.heap.size w35 (.slice (some ⟨gT, oT, none⟩) T.length cT) T X hsz35 (HRT.out.below hb35) hlT
                  rw [HFX.out] at hKF
                  have hrgX := opBlk_range hO35
                  obtain ⟨fb, HFB⟩ : ∃ fb, Hid (suitB P (ovAt acc i) = fb) := ⟨_, rfl⟩
                  rw [HFB.out] at hKF HDUE HPUT
                  clear HND HDB HCB HNB HNX HCX HFX HNT HDU
                  have HO35 : Hid _ := hO35
                  clear hO35
                  go_upto_region 36 with fail
                  cases fb with
                  | false =>
                    have hR8 : R = (8, [], []) := by rw [HRA.out, HDUE.out]; rfl
                    subst hR8
                    go_wp2_with (first | (refine wpList_load_mid rfl 29 _ rfl wr.heap.size 0 rfl X.cs _ hrgX Tryz.underlying29 rfl HIX.out ?_) | (go_at_call 72; refine hKF.mono ?_; rintro e w36 ⟨rfl, hb36⟩; have hBe : Below w.heap.size w w36 := (hbw.trans ((hb35.trans (hb36.mono hsz35)).mono hbw.size)); have hE := rdO_empty w w36 (by have := hb36.size; omega)))
                    go_ret3
                    exact ⟨_, _, rfl, [], ⟨rfl, fun k hk => absurd hk (by simp)⟩, [], ⟨rfl, fun k hk => absurd hk (by simp)⟩, hE, hE, hBe⟩
                  | true =>
                    go_upto_region 38 with (first | (refine wpList_load_mid rfl 29 _ rfl wr.heap.size 0 rfl X.cs _ hrgX Tryz.underlying29 rfl HIX.out ?_) | (go_at_call 72; refine hKF.mono ?_; rintro e w36 ⟨rfl, hb36⟩))
                    have hb36w := hb35.trans (hb36.mono hsz35)
                    have hO36 := (hb36.block wr.heap.size (by have := OpBlk.lt' HO35.out; omega)).trans HO35.out
                    have hsz36 := hb36w.size
                    clear hKF hrgX hb36 hb35
                    by_cases hful : T.length = 1024
                    · have hR11 : R = (11, [], []) := by
                        rw [HRA.out, HDUE.out, if_neg (by decide), if_pos (by rw [← HLPT.out]; omega)]
                        rfl
                      subst hR11
                      have hfi : ((T.length : Int) == 1024) = true := by simp; omega
                      have hBe : Below w.heap.size w w36 := hbw.trans (hb36w.mono hbw.size)
                      have hE := rdO_empty w w36 (by omega)
                      clear hful
                      go_wp2_with fail
                      go_ret3
                      exact ⟨_, _, rfl, [], ⟨rfl, fun k hk => absurd hk (by simp)⟩, [], ⟨rfl, fun k hk => absurd hk (by simp)⟩, hE, hE, hBe⟩
                    · have hfi : ((T.length : Int) == 1024) = false := by simp; omega
                      obtain ⟨A, RR, hTA, hAA, hAR, h4n⟩ := HPUT.out HNP.out (by first | rfl | trivial) (by rw [← HLPT.out]; omega)
                      have HAD2 : Hid (addW L acc0 = addW (P ++ [ovAt acc i]) (acc.eraseIdx i)) := by
                        unfold Hid
                        rw [HDUE.out, if_neg (by decide), if_neg (by rw [← HLPT.out]; omega)]
                      have hINS := l08Insert_any wr.heap.size w36 gT oT cT T A RR X hTA hAA (fun h => hAR _ (ovAt_mem h)) hsz36 (HRT.out.below hb36w) (by omega) ⟨_, _, _, HDX.out⟩ (fun y hy => by obtain ⟨da, dc, h, _⟩ := HRT.out.2 y hy; rw [h]; rfl)
                      have H4N : Hid _ := h4n
                      have HTA : Hid (T = A ++ RR) := hTA
                      have hrgX := opBlk_range hO36
                      clear HPUT hful hTA hAA hAR h4n HDUE HNP h4 hnd hAD
                      obtain ⟨i0, hi0, hz0, hz1, hz2⟩ := info_parts infoOp
                      go_upto_region 41 with (first | (refine wpList_load_mid rfl 29 _ rfl wr.heap.size 0 rfl X.cs _ hrgX Tryz.underlying29 rfl HIX.out ?_) | (go_at_call 46; refine hINS.mono ?_; rintro e w40 ⟨r40, rfl, ho40, hb40⟩))
                      have hb40w := hb36w.trans (hb40.mono hsz36)
                      have hsz40 := hb40w.size
                      obtain ⟨gN, cN, eN⟩ := owns_pos ho40 (by rw [List.length_append, List.length_cons]; omega)
                      subst eN
                      have HT40 : Hid (RdO w40.heap.size w40 (.slice (some ⟨gN, 0, none⟩) (A ++ X :: RR).length cN) (A ++ X :: RR)) := owns_rdO ho40 (fun y hy => by
                        rcases List.mem_append.1 hy with h | h
                        · exact ((HRT.out.2 y (by rw [HTA.out]; exact List.mem_append_left _ h)).below hb40w).mono hsz40
                        · rcases List.mem_cons.1 h with h | h
                          · rw [h]; exact (HXD.out.below hb40w).mono hsz40
                          · exact ((HRT.out.2 y (by rw [HTA.out]; exact List.mem_append_right _ h)).below hb40w).mono hsz40)
                      have ho0 : (w40.alloc (.cells #[] 29)).ownsRow w40.heap.size 29 12 (.slice (some ⟨w40.heap.size, 0, none⟩) 0 0) 0 [] := ⟨rfl, .inr ⟨w40.heap.size, 0, #[], rfl, Nat.le_refl _, heap_alloc_new _ _, Nat.le_refl _, by unfold maxLen; omega, rfl, rfl⟩⟩
                      have hbA : Below wr.heap.size wr (w40.alloc (.cells #[] 29)) := hb40w.alloc (by omega) _
                      have hnA := (rd_parts (HRW.out.below hbA) hlt).1
                      have honeA : ∀ u ∈ rowCs (W.take i), u.oneCell' = true := rowCs_ones (fun y hy => by obtain ⟨da, dc, h, _⟩ := HRW.out.2 y (List.mem_of_mem_take hy); rw [h]; rfl)
                      have honeR : ∀ u ∈ rowCs (W.drop (i + 1)), u.oneCell' = true := rowCs_ones (fun y hy => by obtain ⟨da, dc, h, _⟩ := HRW.out.2 y (List.mem_of_mem_drop hy); rw [h]; rfl)
                      have hl1 : (rowCs (W.take i)).length = i * 12 := by rw [rowCs_len, List.length_take, Nat.min_eq_left (by omega)]
                      have hl2 : (rowCs (W.drop (i + 1))).length = (W.length - (i + 1)) * 12 := by rw [rowCs_len, List.length_drop]
                      have HERA : Hid (rowCs (W.eraseIdx i) = rowCs (W.take i) ++ rowCs (W.drop (i + 1))) := rowCs_erase W i
                      have HERL : Hid ((W.eraseIdx i).length = i + (W.length - (i + 1))) := by unfold Hid; rw [List.length_eraseIdx_of_lt hlt]; omega
                      have hicap : (i : Int) ≤ (cW : Int) := by omega
                      clear hrgX hINS hfi hbA
                      go_upto_region 42 with (at_builtin; refine wpList_append_own _ rfl _ _ 33 rfl w40.heap.size 29 i0 (.agg #[.int .i64 0, .int .i64 0, .int .i64 0, .slice none 0 0, .int .i64 0, .int .i64 0, .int .i64 0, .int .i64 0, .int .i64 0, .int .i64 0, .string ByteArray.empty, .string ByteArray.empty]) 12 128 Tryz.underlying33 hi0 hz0 hz1 hz2 rfl (by decide) _ 0 [] rfl ho0 ⟨gW, oW, none⟩ i _ (rowCs (W.take i)) rfl hl1 hnA honeA (by unfold maxLen; omega) (by omega) (by rw [World.size_alloc]; omega) ?_)
                      intro v41 w41 ho41 hg41 _
                      have hb41 : Below w40.heap.size w40 w41 := (below_alloc w40 _).grown hg41 (by rw [World.size_alloc]; omega) (fun k e => by simp only [Value.ownBlock, Option.some.injEq] at e; omega)
                      have hb41w := hb40w.trans (hb41.mono hsz40)
                      have hlt41 := fun k hk => (World.ownsRow.lt ho41 k hk).1
                      have hnR := (rd_parts (HRW.out.below hb41w) hlt).2
                      obtain ⟨va41, vc41, e41⟩ : ∃ ao c, v41 = .slice ao i c := by rcases ho41.2 with ⟨h, h'⟩ | ⟨g', c', cur, h, _⟩; exact ⟨_, _, by rw [h, h']⟩; exact ⟨_, _, h⟩
                      subst e41
                      have hsz41 := hb41.size
                      clear hg41 ho0 hnA honeA hl1 ho40
                      by_cases hcp : cW = i + 1
                      · have HWL : Hid (W.length = i + 1) := by unfold Hid; omega
                        have HDR : Hid (rowCs (W.drop (i + 1)) = []) := by unfold Hid; rw [List.drop_of_length_le (by omega)]; rfl
                        have hw1 : ¬ (W.length : Int) < (i : Int) + 1 := by omega
                        subst hcp
                        go_upto_region 43 with (at_builtin; refine wpList_append_own _ rfl _ _ 33 rfl w40.heap.size 29 i0 (.agg #[.int .i64 0, .int .i64 0, .int .i64 0, .slice none 0 0, .int .i64 0, .int .i64 0, .int .i64 0, .int .i64 0, .int .i64 0, .int .i64 0, .string ByteArray.empty, .string ByteArray.empty]) 12 128 Tryz.underlying33 hi0 hz0 hz1 hz2 rfl (by decide) _ i _ rfl ho41 ⟨gW, oW, none⟩ 0 _ [] rfl rfl (fun j u h => absurd h (by simp)) (fun u hu => absurd hu (by simp)) (by unfold maxLen; omega) (by omega) (by omega) ?_)
                        intro v42 w42 ho42 hg42 _
                        have hb42 : Below w40.heap.size w40 w42 := hb41.grown hg42 hsz41 hlt41
                        have hb42w := hb40w.trans (hb42.mono hsz40)
                        have ho43 : w42.ownsRow w40.heap.size 29 12 v42 (W.eraseIdx i).length (rowCs (W.eraseIdx i)) := by
                          rw [HERA.out, HERL.out, HDR.out, show i + (W.length - (i + 1)) = i by have := HWL.out; omega]
                          simpa [rowCs] using ho42
                        have HS2 : Hid (St4 w L acc0 w42 v42 (.slice (some ⟨gN, 0, none⟩) (A ++ X :: RR).length cN) 0) := ⟨_, _, _, _, HAD2.out, H4N.out, (HT40.out.below hb42).mono hb42.size, ⟨gN, 0, cN, rfl⟩, owns_rdO ho43 (fun y hy => ((HRW.out.2 y (List.mem_of_mem_eraseIdx hy)).below hb42w).mono hb42w.size), Nat.zero_le _, fun q hq => absurd hq (by omega), hbw.trans (hb42w.mono hbw.size), by have := hb42w.size; omega⟩
                        have HM2 : Hid (lenS v42 + 1 ≤ W.length) := by
                          obtain ⟨ao9, c9, e9⟩ := owns_any ho43
                          unfold Hid
                          rw [e9]
                          show (W.eraseIdx i).length + 1 ≤ W.length
                          rw [List.length_eraseIdx_of_lt hlt]
                          omega
                        rw [show (A ++ X :: RR).length = A.length + (RR.length + 1) by rw [List.length_append, List.length_cons]] at HS2
                        clear ho42 ho43 hg42 ho41 HT40 H4N
                        go_wp2_with fail
                        go_roundw
                        case rel => exact ⟨0, by omega, by go_num, HS2⟩
                        case measure => have := HM2.out; simp [intOf, lenS] at this ⊢; omega
                      · have hwl1 : (i : Int) + 1 ≤ (W.length : Int) := by omega
                        have hcp2 : i + 1 < cW := by omega
                        go_upto_region 43 with (at_builtin; refine wpList_append_own _ rfl _ _ 33 rfl w40.heap.size 29 i0 (.agg #[.int .i64 0, .int .i64 0, .int .i64 0, .slice none 0 0, .int .i64 0, .int .i64 0, .int .i64 0, .int .i64 0, .int .i64 0, .int .i64 0, .string ByteArray.empty, .string ByteArray.empty]) 12 128 Tryz.underlying33 hi0 hz0 hz1 hz2 rfl (by decide) _ i _ rfl ho41 ⟨gW, oW + (i + 1) * 12, none⟩ (W.length - (i + 1)) _ (rowCs (W.drop (i + 1))) rfl hl2 hnR honeR (by unfold maxLen; omega) (by omega) (by omega) ?_)
                        intro v42 w42 ho42 hg42 _
                        have hb42 : Below w40.heap.size w40 w42 := hb41.grown hg42 hsz41 hlt41
                        have hb42w := hb40w.trans (hb42.mono hsz40)
                        have ho43 : w42.ownsRow w40.heap.size 29 12 v42 (W.eraseIdx i).length (rowCs (W.eraseIdx i)) := by rw [HERA.out, HERL.out]; exact ho42
                        have HS2 : Hid (St4 w L acc0 w42 v42 (.slice (some ⟨gN, 0, none⟩) (A ++ X :: RR).length cN) 0) := ⟨_, _, _, _, HAD2.out, H4N.out, (HT40.out.below hb42).mono hb42.size, ⟨gN, 0, cN, rfl⟩, owns_rdO ho43 (fun y hy => ((HRW.out.2 y (List.mem_of_mem_eraseIdx hy)).below hb42w).mono hb42w.size), Nat.zero_le _, fun q hq => absurd hq (by omega), hbw.trans (hb42w.mono hbw.size), by have := hb42w.size; omega⟩
                        have HM2 : Hid (lenS v42 + 1 ≤ W.length) := by
                          obtain ⟨ao9, c9, e9⟩ := owns_any ho43
                          unfold Hid
                          rw [e9]
                          show (W.eraseIdx i).length + 1 ≤ W.length
                          rw [List.length_eraseIdx_of_lt hlt]
                          omega
                        rw [show (A ++ X :: RR).length = A.length + (RR.length + 1) by rw [List.length_append, List.length_cons]] at HS2
                        clear ho42 ho43 hg42 ho41 HT40 H4N
                        go_wp2_with fail
                        go_roundw
                        case rel => exact ⟨0, by omega, by go_num, HS2⟩
                        case measure => have := HM2.out; simp [intOf, lenS] at this ⊢; omega
              · have hnb : (X.s != (nT : Int) + 1) = true := by simpa using hnx
                have HNT : Hid (nextB T X = false) := HNB.out.trans (decide_eq_false hnx)
                have f0 := HF0.out
                have f1 := HF1.out
                have fv := HFV.out
                have fn := HFN4.out
                clear hnx
                refine wp_region_kept (by kernel_rfl) (by kernel_rfl) ?_
                iterate 11 (quiet_step (fail))
                iterate 5 (with_reducible refine quiet_pass (by kernel_rfl) ?_)
                simp only [tkS, Act.put]
                quiet_step (fail)
                refine wpQuiet_nil ?_
                rintro _ ⟨p, rfl⟩
                have hb35 := HW5.out p
                clear f0 f1 fv fn HF0 HF1 HFV HFN4 HLX HLV HCAL hne HW5 HOX hnb hw7 ha16i ha16 hgc34 hB1
                generalize p.W = w35 at *
                have HS2 : Hid _ := HND.out w35 hb35 (by rw [HDB.out, HNT.out]; rfl)
                go_wp2_with fail
                go_roundw
                case rel => exact ⟨i + 1, by omega, by go_num, HS2⟩
                case measure => simp [intOf, lenS]; omega
            · obtain rfl : i = W.length := by omega
              have hki : ¬ (W.length : Int) < (W.length : Int) := by omega
              have hR0 : R = (0, allK P 16, acc) := by
                rw [HRA.out, hAD, addW_none (findIdx_none (fun q hq => hnd q (by rw [h4.sW.1]; exact hq)))]
                rfl
              subst hR0
              have hsT := h4.sT
              have hsW := h4.sW
              clear HS hnd h4 hAD
              go_wp2_with fail
              go_ret3
              exact ⟨_, _, rfl, T, hsT, W, hsW, hrT, hrW, hbw⟩
end Go.Proofs.YtmmkmkaannlkhaaGreatDoor
