/- The walk of the law FnSince: what a vector lacks of a drawn log is what it does not count; of what the log counts itself nothing is lacking. -/
import Derived.Test.YtfjekbfejbgneaaQDrawLog
import Derived.Test.YtfjekbfejbgneaaQSinceMath
import Derived.Test.YtfjekbfejbgneaaQSinceImplToSinceSpec
import Derived.Test.YtfjekbfejbgneaaQLogVecImpl
import Derived.Test.YtfjekbfejbgneaaQSameLog
import Derived.Test.YtfjekbfejbgneaaQFrame
namespace Go.Proofs.Ytfjekbfejbgneaa
open Go.RowKit
set_option linter.unusedVariables false

theorem rdO_none (C : Nat) (w : World) : RdO C w (.slice none 0 0) [] := ⟨⟨none, 0, rfl, Nat.le_refl _, Nat.zero_le _, fun _ => rfl, fun h => absurd h (by simp)⟩, fun x hx => absurd hx (by simp)⟩
theorem sameL_both {A B S : List Ov} (h : SameL A S) (h' : SameL B S) : SameL A B := sameL_strip.2 ((sameL_strip.1 h).trans (sameL_strip.1 h').symm)

set_option maxHeartbeats 4000000 in
set_option maxRecDepth 100000 in
theorem lawSince_walk (a0 : Option Addr) (l0 c0 : Nat) (z0 : List Int) (w : World) (h0 : IsRow .u8 w a0 l0 c0 z0) :
    Calls Try.prog 3 #[.slice a0 l0 c0] w fun e w' => e = .returned (.bool true) ∧ Below w.heap.size w w' := by
  obtain ⟨hr0, hl0⟩ := h0.rd
  have hX0 := h0.bytes
  generalize z0.take l0 = zs at hr0 hl0 hX0
  clear h0
  subst hl0
  by_cases q0 : zs.length ≤ 1048576
  · have i0 : ¬ (1048576 : Int) < (zs.length : Int) := by omega
    go_enter Try.func3, Try.ntmps3
    go_wp2_with fail
    refine (drawLogSince_any w.heap.size w _ zs (Nat.le_refl _) hr0 hX0 q0).mono ?_
    rintro e w1 ⟨r, M, g, n, c, ys, rfl, hR, hM, hn, hy17, hV, hB⟩
    clear hr0 hX0
    subst hn
    have hba := below_alloc w1 (.cells #[.slice (some ⟨g, 0, none⟩) ys.length c] 26)
    have hv4 : (w1.alloc (.cells #[.slice (some ⟨g, 0, none⟩) ys.length c] 26)).heap[w1.heap.size]? = some (.cells #[.slice (some ⟨g, 0, none⟩) ys.length c] 26 (0, 0)) := heap_alloc_new w1 _
    have hs2 : w1.heap.size < (w1.alloc (.cells #[.slice (some ⟨g, 0, none⟩) ys.length c] 26)).heap.size := by rw [World.size_alloc]; omega
    have HB2 : Hid (Below w.heap.size w (w1.alloc (.cells #[.slice (some ⟨g, 0, none⟩) ys.length c] 26))) := below_seq hB hba
    have HR2 : Hid (RdO w1.heap.size (w1.alloc (.cells #[.slice (some ⟨g, 0, none⟩) ys.length c] 26)) r M) := hR.below hba
    have HV2 : Hid (Rd w1.heap.size (w1.alloc (.cells #[.slice (some ⟨g, 0, none⟩) ys.length c] 26)) (.slice (some ⟨g, 0, none⟩) ys.length c) (ys.map (Value.int .i64))) := hV.below hba
    have c4 := blk_cell hv4 0 rfl
    have hbr : Below (w1.alloc (.cells #[.slice (some ⟨g, 0, none⟩) ys.length c] 26)).heap.size (w1.alloc (.cells #[.slice (some ⟨g, 0, none⟩) ys.length c] 26)) (w1.alloc (.cells #[.slice (some ⟨g, 0, none⟩) ys.length c] 26)) := Below.refl _ _
    have hd16 : ∀ x ∈ M, x.ds.length ≤ 1048576 := fun x hx => by have := (hM.2 x hx).2.1; omega
    have hml := hM.1
    clear hR hV hB hba hM
    go_upto_region 4 with fail
    generalize w1.alloc (.cells #[.slice (some ⟨g, 0, none⟩) ys.length c] 26) = w2 at *
    generalize w1.heap.size = b4 at *
    cases hok : (logI M && vecOK ys) with
    | false =>
      have hI := fun w' (h : Below w2.heap.size w2 w') => implLogSince_no b4 w' r (.slice (some ⟨g, 0, none⟩) ys.length c) M ys (by have := h.size; omega) (HR2.out.below (h.mono (by omega))) (HV2.out.below (h.mono (by omega))) hok
      have hP := fun w' (h : Below w2.heap.size w2 w') => specLogSince_no b4 w' r (.slice (some ⟨g, 0, none⟩) ys.length c) M ys (by have := h.size; omega) (HR2.out.below (h.mono (by omega))) (HV2.out.below (h.mono (by omega))) hok
      go_wp2_with fail
      refine (hI w2 hbr).mono ?_
      rintro e w3 ⟨rfl, hb3⟩
      have c43 := (hb3.cell (p := ⟨b4, 0, none⟩) hs2).trans c4
      have hp := hP w3 hb3
      clear hI hP c4
      go_wp2_with fail
      refine hp.mono ?_
      rintro e w4 ⟨r4, rfl, hR4, hb4⟩
      have hsl := sameLog_same 0 w4.heap.size w4 (.slice none 0 0) r4 [] [] (by simp) (fun x hx => absurd hx (by simp)) (Nat.zero_le _) (Nat.le_refl _) (rdO_none 0 w4) hR4 ⟨rfl, fun k hk => absurd hk (by simp)⟩
      have hbb := hb3.trans (hb4.mono hb3.size)
      clear hp c43 hR4 hb3 hb4
      go_wp2_with fail
      refine hsl.mono ?_
      rintro e w5 ⟨rfl, hb5⟩
      clear hsl
      go_wp2_with fail
      go_ret
      exact ⟨rfl, below_seq HB2.out (hbb.trans (hb5.mono hbb.size))⟩
    | true =>
      obtain ⟨hlog, hvo⟩ : logI M = true ∧ vecOK ys = true := by rwa [Bool.and_eq_true] at hok
      clear hok
      obtain ⟨hy16, hyb⟩ := vecOK_get hvo
      have hlen := (logU_steps hlog).1
      have hI := fun w' (h : Below w2.heap.size w2 w') => implLogSince_yes b4 w' r (.slice (some ⟨g, 0, none⟩) ys.length c) M ys (by have := h.size; omega) (HR2.out.below (h.mono (by omega))) (HV2.out.below (h.mono (by omega))) hlog hvo
      have hP := fun w' (h : Below w2.heap.size w2 w') => specLogSince_yes b4 w' r (.slice (some ⟨g, 0, none⟩) ys.length c) M ys (by have := h.size; omega) (HR2.out.below (h.mono (by omega))) (HV2.out.below (h.mono (by omega))) hlog hvo
      have hL := fun w' (h : Below w2.heap.size w2 w') => implLogVector_any b4 w' r M (by have := h.size; omega) (HR2.out.below (h.mono (by omega)))
      have hI2 := fun w' (h : Below w2.heap.size w2 w') (vo : Value) (ho : Rd w'.heap.size w' vo ((cnts M).map (Value.int .i64))) => implLogSince_yes w'.heap.size w' r vo M (cnts M) (Nat.le_refl _) ((HR2.out.below (h.mono (by omega))).mono (by have := h.size; omega)) ho hlog (cnts_vec hlen)
      rw [show ansVec M = cnts M by unfold ansVec; rw [if_pos hlog], show codVec M = 0 by unfold codVec; rw [if_pos hlog]] at hL
      rw [since_own hlog] at hI2
      have HLS : Hid (lackS (cnts M) ys 16 = ((sinceL ys M).length : Int)) := lack_since hlog (fun a ha => by
        rw [List.getD_eq_getElem?_getD, List.getElem?_eq_getElem (by omega)]
        exact (hyb a (by omega)).1)
      have HLB : Hid (∀ k, k ≤ 16 → 0 ≤ lackS (cnts M) ys k ∧ lackS (cnts M) ys k ≤ 16384) := fun k hk => ⟨lackS_low _ _ k, by
        have := lackS_high (os := cnts M) (ys := ys) (cnts_small hlen) (fun a ha => by
          rw [List.getD_eq_getElem?_getD, List.getElem?_eq_getElem (by omega)]
          exact (hyb a (by omega)).1) k hk
        omega⟩
      have HXY : Hid (∀ k, k < 16 → ∃ x y, (cnts M).getD k 0 = x ∧ ys.getD k 0 = y ∧ (cnts M)[k]? = some x ∧ ys[k]? = some y ∧ 0 ≤ x ∧ x ≤ 1024 ∧ 0 ≤ y ∧ y ≤ 1000000000000) := fun k hk => by
        have h1 := cnts_small hlen k hk
        have h2 := cnts_getD M hk
        refine ⟨_, _, rfl, rfl, ?_, ?_, by omega, h1, ?_⟩
        · rw [h2]; exact cnts_at M hk
        · rw [List.getD_eq_getElem?_getD, List.getElem?_eq_getElem (by omega)]; rfl
        · rw [List.getD_eq_getElem?_getD, List.getElem?_eq_getElem (by omega)]
          exact hyb k (by omega)
      have HS3 : Hid (∀ x ∈ sinceL ys M, x.ds.length ≤ 1048576) := fun x hx => hd16 x (sinceL_mem hx)
      have hsl3 : (sinceL ys M).length ≤ 1024 := Nat.le_trans (sinceL_len ys M) hlen
      generalize sinceL ys M = SS at *
      have HCL : Hid ((cnts M).length = 16) := cnts_len M
      have HY : Hid (ys.length = 16) := hy16
      clear hvo hyb hd16 hlog hy16
      go_wp2_with fail
      refine (hI w2 hbr).mono ?_
      rintro e w3 ⟨gs, ga, rfl, hA3, hb3⟩
      have hR3 : RdO w3.heap.size w3 (.slice (some ⟨gs, 0, none⟩) SS.length SS.length) (cpL ga SS SS.length) := by
        have := hA3.rd (by rw [cpL_len]; unfold maxLen; omega)
        rwa [cpL_len] at this
      have c43 := (hb3.cell (p := ⟨b4, 0, none⟩) hs2).trans c4
      have hp := hP w3 hb3
      clear hI hP c4 hA3
      go_wp2_with fail
      refine hp.mono ?_
      rintro e w4 ⟨r4, M4, rfl, hs4, hR4, hb4⟩
      have hbb := hb3.trans (hb4.mono hb3.size)
      have hsl := sameLog_same w3.heap.size w4.heap.size w4 (.slice (some ⟨gs, 0, none⟩) SS.length SS.length) r4 (cpL ga SS SS.length) M4 (by rw [cpL_len]; omega) (fun x hx => by
        obtain ⟨i, hi, e⟩ := List.getElem_of_mem hx
        rw [cpL_len] at hi
        have h1 := ovAt_get (L := cpL ga SS SS.length) (k := i) (by rw [cpL_len]; exact hi)
        rw [List.getElem?_eq_getElem (by rw [cpL_len]; exact hi), e] at h1
        rw [Option.some.inj h1, ((cpL_same ga SS).2 i hi).2.2.2.1]
        exact HS3.out _ (ovAt_mem hi)) hb4.size (Nat.le_refl _) (hR3.below hb4) hR4 (sameL_both hs4 (cpL_same ga SS))
      clear hp c43 hR4 hR3 hs4
      go_wp2_with fail
      refine hsl.mono ?_
      rintro e w5 ⟨rfl, hb5⟩
      have hbc := hbb.trans (hb5.mono hbb.size)
      have hlv := hL w5 hbc
      clear hsl hb5 hbb hb3 hb4 hL
      go_wp2_with fail
      refine hlv.mono ?_
      rintro e w6 ⟨ao, no, ko, To, rfl, hO6, hb6⟩
      obtain ⟨go, kc, e6⟩ : ∃ go kc, Value.slice ao no ko = .slice (some ⟨go, 0, none⟩) 16 kc := by
        obtain ⟨a1, c1, e1, h1⟩ := hO6.slice
        rw [List.length_map, HCL.out] at e1 h1
        obtain ⟨g1, rfl⟩ := h1 (by omega)
        exact ⟨g1, c1, e1⟩
      rw [e6] at hO6 ⊢
      clear e6 hlv
      have hbd := hbc.trans (hb6.mono hbc.size)
      have hgo := World.ownsRow.lt hO6 go rfl
      have hba := below_alloc w6 (.cells #[.slice (some ⟨go, 0, none⟩) 16 kc] 26)
      have hv9 : (w6.alloc (.cells #[.slice (some ⟨go, 0, none⟩) 16 kc] 26)).heap[w6.heap.size]? = some (.cells #[.slice (some ⟨go, 0, none⟩) 16 kc] 26 (0, 0)) := heap_alloc_new w6 _
      have hO7 := hO6.below hba (Nat.le_refl _)
      have hs7 : w6.heap.size < (w6.alloc (.cells #[.slice (some ⟨go, 0, none⟩) 16 kc] 26)).heap.size := by rw [World.size_alloc]; omega
      have hb7 := hbd.trans (hba.mono hbd.size)
      have c9 := blk_cell hv9 0 rfl
      have c4 := (hb7.cell (p := ⟨b4, 0, none⟩) hs2).trans (blk_cell hv4 0 rfl)
      have HV7 : Hid (Rd b4 (w6.alloc (.cells #[.slice (some ⟨go, 0, none⟩) 16 kc] 26)) (.slice (some ⟨g, 0, none⟩) ys.length c) (ys.map (Value.int .i64))) := HV2.out.below (hb7.mono (by omega))
      have hi2 := hI2 _ hb7 _ (hO7.rd.mono (Nat.le_refl _))
      clear hba hv9 hO6 hb6 hbc hbd hI2 hbr hv4 HR2 HV2
      go_upto_region 11 with fail
      generalize w6.alloc (.cells #[.slice (some ⟨go, 0, none⟩) 16 kc] 26) = w7 at *
      generalize w6.heap.size = b9 at *
      go_wp2_with fail
      refine hi2.mono ?_
      rintro e w8 ⟨g8, ga8, rfl, -, hb8⟩
      have HB8 : Hid (Below w2.heap.size w2 w8) := hb7.trans (hb8.mono hb7.size)
      have c98 := (hb8.cell (p := ⟨b9, 0, none⟩) hs7).trans c9
      have c48 := (hb8.cell (p := ⟨b4, 0, none⟩) (by have := hb7.size; show b4 < w7.heap.size; omega)).trans c4
      have hO8 := hO7.below hb8 (Nat.le_refl _)
      have hV8 := HV7.out.below (hb8.mono (by have := hb7.size; omega))
      have hgs : g < b4 := by
        have hy16 := HY.out
        obtain ⟨a1, c1, e1, _, _, _, h1⟩ := hV8
        simp only [Value.slice.injEq] at e1
        obtain ⟨g9, o9, e9, h9, _⟩ := h1 (by rw [List.length_map]; omega)
        rw [e9] at e1
        simp only [Option.some.injEq, Addr.mk.injEq] at e1
        omega
      have HC : Hid (∀ wz k x y, Below w8.heap.size w8 wz → (cnts M)[k]? = some x → ys[k]? = some y → wz.cell? ⟨b9, 0, none⟩ = some (.slice (some ⟨go, 0, none⟩) 16 kc) ∧ wz.cell? ⟨b4, 0, none⟩ = some (.slice (some ⟨g, 0, none⟩) 16 c) ∧ wz.cell? ⟨go, k, none⟩ = some (.int .i64 x) ∧ wz.cell? ⟨g, k, none⟩ = some (.int .i64 y)) := fun wz k x y hz hx hy => by
        have hsz8 := hb8.size
        have hsz7 := hb7.size
        have hy16 := HY.out
        refine ⟨(hz.cell (p := ⟨b9, 0, none⟩) (by show b9 < w8.heap.size; omega)).trans c98, ?_, ?_, ?_⟩
        · rw [← hy16]
          exact (hz.cell (p := ⟨b4, 0, none⟩) (by show b4 < w8.heap.size; omega)).trans c48
        · have := own_at (hO8.below hz (Nat.le_refl _)) (k := k) (v := .int .i64 x) (by rw [List.getElem?_map, hx]; rfl)
          exact this
        · have h9 := hV8.below (hz.mono (by omega))
          obtain ⟨a1, c1, e1, _, _, _, h1⟩ := h9
          simp only [Value.slice.injEq] at e1
          obtain ⟨g9, o9, e9, _, h2⟩ := h1 (by rw [List.length_map]; omega)
          rw [e9] at e1
          simp only [Option.some.injEq, Addr.mk.injEq, and_true] at e1
          obtain ⟨⟨rfl, rfl⟩, -, -⟩ := e1
          have := h2 k (.int .i64 y) (by rw [List.getElem?_map, hy]; rfl)
          rwa [Nat.zero_add] at this
      clear hi2 c9 c4 hO7 hO8 hV8 HV7 c98 c48 hb8 hb7
      rw [HY.out]
      go_wp2_with fail
      go_loopw [13, 14] (fun tn ti wr => ∃ k : Nat, k ≤ 16 ∧ ti = .int .i64 (k : Int) ∧ tn = .int .i64 (lackS (cnts M) ys k) ∧ Below w8.heap.size w8 wr) (fun _ ti _ => 16 - (intOf ti).toNat)
      case atStart => exact ⟨0, Nat.zero_le _, rfl, rfl, Below.refl _ _⟩
      case round =>
        obtain ⟨k, hk, rfl, rfl, hbw⟩ := hrel
        by_cases hlt : k < 16
        · obtain ⟨x, y, ex, ey, hx, hy, hx0, hx1, hy0, hy1⟩ := HXY.out k hlt
          obtain ⟨hz0, hz1⟩ := HLB.out k hk
          have hS0 := HC.out wr.drew k x y hbw.drew hx hy
          have HZ2 : Hid (lackS (cnts M) ys k + max 0 (x - y) = lackS (cnts M) ys (k + 1)) := by unfold Hid; rw [lackS, ex, ey]
          have hki : (k : Int) < 16 := by omega
          generalize lackS (cnts M) ys k = z at *
          clear ex ey hx hy
          go_wp2_with fail
          refine wp_region_held_drew (S := fun w' => w'.cell? ⟨b9, 0, none⟩ = some (.slice (some ⟨go, 0, none⟩) 16 kc) ∧ w'.cell? ⟨b4, 0, none⟩ = some (.slice (some ⟨g, 0, none⟩) 16 c) ∧ w'.cell? ⟨go, k, none⟩ = some (.int .i64 x) ∧ w'.cell? ⟨g, k, none⟩ = some (.int .i64 y)) (by kernel_rfl) hS0 (fun hHeld => ?_)
          refine tkH 0 (.int .i64 z) rfl (Or.inl ⟨by kernel_rfl, by intro w hSw; obtain ⟨s0, s1, s2, s3⟩ := hSw; go_simp⟩) hHeld ?_
          simp only [tkS, Act.put]
          refine tkH 1 (.pointer (some ⟨b9, 0, none⟩)) rfl (Or.inl ⟨by kernel_rfl, by intro w hSw; obtain ⟨s0, s1, s2, s3⟩ := hSw; go_simp⟩) hHeld ?_
          simp only [tkS, Act.put]
          refine tkH 2 (.slice (some ⟨go, 0, none⟩) 16 kc) rfl (Or.inl ⟨by kernel_rfl, by intro w hSw; obtain ⟨s0, s1, s2, s3⟩ := hSw; go_simp⟩) hHeld ?_
          simp only [tkS, Act.put]
          refine tkH 3 (.int .i64 (k : Int)) rfl (Or.inl ⟨by kernel_rfl, by intro w hSw; obtain ⟨s0, s1, s2, s3⟩ := hSw; go_simp⟩) hHeld ?_
          simp only [tkS, Act.put]
          refine tkH 4 (.pointer (some ⟨go, k, none⟩)) rfl (Or.inl ⟨by kernel_rfl, by intro w hSw; obtain ⟨s0, s1, s2, s3⟩ := hSw; go_simp⟩) hHeld ?_
          simp only [tkS, Act.put]
          refine tkH 5 (.int .i64 x) rfl (Or.inl ⟨by kernel_rfl, by intro w hSw; obtain ⟨s0, s1, s2, s3⟩ := hSw; go_simp⟩) hHeld ?_
          simp only [tkS, Act.put]
          refine tkH 6 (.pointer (some ⟨b4, 0, none⟩)) rfl (Or.inl ⟨by kernel_rfl, by intro w hSw; obtain ⟨s0, s1, s2, s3⟩ := hSw; go_simp⟩) hHeld ?_
          simp only [tkS, Act.put]
          refine tkH 7 (.slice (some ⟨g, 0, none⟩) 16 c) rfl (Or.inl ⟨by kernel_rfl, by intro w hSw; obtain ⟨s0, s1, s2, s3⟩ := hSw; go_simp⟩) hHeld ?_
          simp only [tkS, Act.put]
          refine tkH 8 (.int .i64 (k : Int)) rfl (Or.inl ⟨by kernel_rfl, by intro w hSw; obtain ⟨s0, s1, s2, s3⟩ := hSw; go_simp⟩) hHeld ?_
          simp only [tkS, Act.put]
          refine tkH 9 (.pointer (some ⟨g, k, none⟩)) rfl (Or.inl ⟨by kernel_rfl, by intro w hSw; obtain ⟨s0, s1, s2, s3⟩ := hSw; go_simp⟩) hHeld ?_
          simp only [tkS, Act.put]
          refine tkH 10 (.int .i64 y) rfl (Or.inl ⟨by kernel_rfl, by intro w hSw; obtain ⟨s0, s1, s2, s3⟩ := hSw; go_simp⟩) hHeld ?_
          simp only [tkS, Act.put]
          refine tkH 11 (.int .i64 (x - y)) rfl (Or.inl ⟨by kernel_rfl, by intro w hSw; obtain ⟨s0, s1, s2, s3⟩ := hSw; go_simp; rw [IntKind.wrap_i64]; omega⟩) hHeld ?_
          simp only [tkS, Act.put]
          refine tkH 12 (.int .i64 (max 0 (x - y))) rfl (Or.inl ⟨by kernel_rfl, by intro w hSw; obtain ⟨s0, s1, s2, s3⟩ := hSw; go_simp⟩) hHeld ?_
          simp only [tkS, Act.put]
          refine tkH 13 (.int .i64 (z + (max 0 (x - y)))) rfl (Or.inl ⟨by kernel_rfl, by intro w hSw; obtain ⟨s0, s1, s2, s3⟩ := hSw; go_simp; rw [IntKind.wrap_i64]; omega⟩) hHeld ?_
          simp only [tkS, Act.put]
          refine tkH 14 (.int .i64 (z + (max 0 (x - y)))) rfl (Or.inl ⟨by kernel_rfl, by intro w hSw; obtain ⟨s0, s1, s2, s3⟩ := hSw; go_simp⟩) hHeld ?_
          simp only [tkS, Act.put]
          refine wpAnyH_done (by kernel_rfl) ?_ _
          go_wp2_with fail
          go_roundw
          case rel => exact ⟨k + 1, by omega, by go_num, by rw [← HZ2.out], hbw.drew⟩
          case measure => simp [intOf]; omega
        · obtain rfl : k = 16 := by omega
          have HBE : Hid (Below w.heap.size w wr) := below_seq HB2.out (HB8.out.trans (hbw.mono HB8.out.size))
          rw [HLS.out]
          go_wp2_with fail
          go_ret
          exact ⟨rfl, HBE.out⟩
  · have i0 : (1048576 : Int) < (zs.length : Int) := by omega
    go_enter Try.func3, Try.ntmps3
    go_wp2_with fail
    go_ret
    exact ⟨rfl, Below.refl _ _⟩
end Go.Proofs.Ytfjekbfejbgneaa
