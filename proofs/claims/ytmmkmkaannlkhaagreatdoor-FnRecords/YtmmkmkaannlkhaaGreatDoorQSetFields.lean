/- The code's setFields, at numbers and at texts: over any functions that tell places. -/
import Derived.Deep.RegionHeld3
import Derived.Deep.Cut
import Derived.Test.YtmmkmkaannlkhaaGreatDoorQReaderToAttempt
import Derived.Test.YtmmkmkaannlkhaaGreatDoorQTakeKitToBigKit
import Derived.Test.YtmmkmkaannlkhaaGreatDoorQOpComesToOpSpecBase
namespace Go.Proofs.YtmmkmkaannlkhaaGreatDoor
open Go.RowKit
set_option linter.unusedVariables false

/-- Of the blocks that were there only those that pb names were written. -/
structure OnlyB (pb : Nat → Nat) (w w' : World) : Prop where
  os : w'.os = w.os
  tape : w'.tape = w.tape
  output : w'.output = w.output
  size : w.heap.size ≤ w'.heap.size
  block : ∀ g, (∀ i, g ≠ pb i) → w'.heap[g]? = w.heap[g]?
theorem OnlyB.refl (pb : Nat → Nat) (w : World) : OnlyB pb w w := ⟨rfl, rfl, rfl, Nat.le_refl _, fun _ _ => rfl⟩
theorem OnlyB.drewN {pb : Nat → Nat} {w w' : World} (h : OnlyB pb w w') (n : Nat) : OnlyB pb w (w'.drewN n) := ⟨h.os, h.tape, h.output, h.size, h.block⟩
theorem OnlyB.drew {pb : Nat → Nat} {w w' : World} (h : OnlyB pb w w') : OnlyB pb w w'.drew := ⟨h.os, h.tape, h.output, h.size, h.block⟩
theorem OnlyB.set {pb : Nat → Nat} {w w' : World} (h : OnlyB pb w w') (k o : Nat) (u : Value) : OnlyB pb w (w'.setCell ⟨pb k, o, none⟩ u) := by
  have hg := grownBy_set w' (pb k) o u
  exact ⟨hg.os.trans h.os, hg.tape.trans h.tape, hg.output.trans h.output, Nat.le_trans h.size hg.size, fun g hne => (heap_setCell_other w' ⟨pb k, o, none⟩ g u (by show g ≠ pb k; exact hne k)).trans (h.block g hne)⟩

set_option maxHeartbeats 4000000 in
set_option maxRecDepth 100000 in
theorem setFieldsI_any (b ob C : Nat) (w : World) (fv vv : Value) (fs : List Value) (T : List Int) (St : Nat → World → Prop) (pb po : Nat → Nat) (hfs : Rd C w fv fs) (hvs : Rd C w vv (T.map (Value.int .i64))) (hC : C ≤ w.heap.size) (hl : T.length = fs.length) (hl' : fs.length ≤ 1000)
    (HF : Hid (∀ i F, fs[i]? = some F → ∃ f cp, F = .func (.func f) #[] cp ∧ (∀ args wz, (callFunc f args).run Tryz.prog wz = .ok (.enter f args) wz) ∧ ∀ wz, St i wz → Calls Tryz.prog f (#[.pointer (some ⟨ob, 0, none⟩)] ++ cp) wz fun e w' => e = .returned (.pointer (some ⟨pb i, po i, none⟩)) ∧ ∃ n, w' = wz.drewN n))
    (HD : Hid (∀ i wz n, St i wz → St i (wz.drewN n)))
    (HP : Hid (∀ i wz y, T[i]? = some y → St i wz → (∃ u, wz.cell? ⟨pb i, po i, none⟩ = some (.int .i64 u)) ∧ wz.frozen? ⟨pb i, po i, none⟩ = false ∧ St (i + 1) (wz.setCell ⟨pb i, po i, none⟩ (.int .i64 y))))
    (HB : Hid (∀ i g, fv.ownBlock = some g ∨ vv.ownBlock = some g → g ≠ pb i)) (h0 : St 0 w) :
    Calls Tryz.prog 112 #[.pointer (some ⟨b, 0, none⟩), .pointer (some ⟨ob, 0, none⟩), fv, vv] w fun e w' => e = .returned (.tuple #[]) ∧ St T.length w' ∧ OnlyB pb w w' := by
  obtain ⟨fa, fc, rfl, hfc, hfm, hfn, hfr⟩ := hfs
  obtain ⟨va, vc, rfl, hvc, hvm, hvn, hvr⟩ := hvs
  rw [List.length_map] at hvr ⊢
  rw [← hl] at hfr hl' ⊢
  have hee : ((T.length : Int) == (T.length : Int)) = true := by simp
  have HL : Hid (T.length = fs.length) := hl
  clear hl hfc hvc hfn hvn
  go_enter Tryz.func112, Tryz.ntmps112
  go_wp2_with (first | (go_at_call 101; refine (require_y _ _ _ (by first | rfl | (simp; done) | exact hee)).mono ?_; rintro e w' ⟨rfl, hw⟩; obtain rfl := hw.symm))
  go_loopw [19] (fun ti wr => ∃ k : Nat, k ≤ T.length ∧ ti = .int .i64 (k : Int) ∧ St k wr ∧ OnlyB pb w wr) (fun ti _ => T.length - (intOf ti).toNat)
  case atStart => exact ⟨0, Nat.zero_le _, rfl, h0, OnlyB.refl _ _⟩
  case round =>
    clear h0
    obtain ⟨k, hk, rfl, hS, hbel⟩ := hrel
    by_cases hlt : k < T.length
    · have hki : (k : Int) < (T.length : Int) := by omega
      have hk0 : (0 : Int) ≤ (k : Int) := by omega
      obtain ⟨F, hFk⟩ : ∃ F, fs[k]? = some F := ⟨_, List.getElem?_eq_getElem (by have := HL.out; omega)⟩
      obtain ⟨y, hTk⟩ : ∃ y, T[k]? = some y := ⟨_, List.getElem?_eq_getElem hlt⟩
      obtain ⟨f, cp, rfl, hE, hcall⟩ := HF.out k F hFk
      obtain ⟨gf, og, rfl, hgf, hcf⟩ := hfr (by omega)
      obtain ⟨gv, ov, rfl, hgv, hcv⟩ := hvr (by omega)
      have hgfB : ∀ i, gf ≠ pb i := fun i => HB.out i gf (.inl rfl)
      have hgvB : ∀ i, gv ≠ pb i := fun i => HB.out i gv (.inr rfl)
      have hff := (World.cell?_of_block (w := w) (a := ⟨gf, og + k, none⟩) (hbel.block gf hgfB)).trans (hcf k _ hFk)
      have hy := (World.cell?_of_block (w := w) (a := ⟨gv, ov + k, none⟩) (hbel.block gv hgvB)).trans (hcv k (.int .i64 y) (by rw [List.getElem?_map, hTk]; rfl))
      clear hcf hcv hFk
      go_upto_region 4 with fail
      clear hff
      refine wp_region_held_drew (S := fun w' => w'.cell? ⟨gv, ov + k, none⟩ = some (.int .i64 y)) (by kernel_rfl) hy (fun hHeld => ?_)
      replace hS := HD.out k wr 1 hS
      replace hy : wr.drew.cell? ⟨gv, ov + k, none⟩ = some (.int .i64 y) := hy
      replace hS : St k wr.drew := hS
      replace hbel := hbel.drew
      generalize wr.drew = w3 at *
      refine tkH 0 (.func (.func f) #[] cp) rfl (Or.inl ⟨by kernel_rfl, by intro w hSw; clear hSw; go_simp⟩) hHeld ?_
      simp only [tkS, Act.put]
      refine tkH 1 (.pointer (some ⟨ob, 0, none⟩)) rfl (Or.inl ⟨by kernel_rfl, by intro w hSw; clear hSw; go_simp⟩) hHeld ?_
      simp only [tkS, Act.put]
      refine tkH 3 (.slice (some ⟨gv, ov, none⟩) T.length vc) rfl (Or.inl ⟨by kernel_rfl, by intro w hSw; clear hSw; go_simp⟩) hHeld ?_
      simp only [tkS, Act.put]
      refine tkH 4 (.int .i64 (k : Int)) rfl (Or.inl ⟨by kernel_rfl, by intro w hSw; clear hSw; go_simp⟩) hHeld ?_
      simp only [tkS, Act.put]
      refine tkH 5 (.pointer (some ⟨gv, ov + k, none⟩)) rfl (Or.inl ⟨by kernel_rfl, by intro w hSw; clear hSw; go_simp⟩) hHeld ?_
      simp only [tkS, Act.put]
      refine tkH 6 (.int .i64 y) rfl (Or.inl ⟨by kernel_rfl, by intro w hSw; have s0 := hSw; go_simp⟩) hHeld ?_
      simp only [tkS, Act.put]
      refine wpAnyH_ready (rs := [2]) (by kernel_rfl) (by simp) ?_
      refine AllReadyH.cons rfl (fun K hK => ?_) AllReadyH.nil
      go_simp
      refine (hcall w3 hS).mono ?_
      rintro e w5 ⟨rfl, q5, rfl⟩
      have hS5 := HD.out k w3 q5 hS
      have hb5 := hbel.drewN q5
      have hy5 : (w3.drewN q5).cell? ⟨gv, ov + k, none⟩ = some (.int .i64 y) := hy
      go_wp2_with fail
      refine hK.out _ _ (hy5) (fun hHeld => ?_)
      clear hK K
      try simp only [tkS, Act.put]
      clear hS hbel hy hcall
      generalize w3.drewN q5 = w6 at *
      obtain ⟨⟨u0, hu0⟩, hf0, hS6⟩ := HP.out k w6 y hTk hS5
      refine tkH 7 (.pointer (some ⟨pb k, po k, none⟩)) rfl (Or.inl ⟨by kernel_rfl, by intro w hSw; clear hSw; go_simp⟩) hHeld ?_
      simp only [tkS, Act.put]
      refine wpAnyH_ready (rs := [8]) (by kernel_rfl) (by simp) ?_
      refine AllReadyH.cons rfl (fun K hK => ?_) AllReadyH.nil
      have hy6 : (w6.setCell ⟨pb k, po k, none⟩ (.int .i64 y)).cell? ⟨gv, ov + k, none⟩ = some (.int .i64 y) := (World.cell?_of_block (w := w6) (a := ⟨gv, ov + k, none⟩) (heap_setCell_other w6 ⟨pb k, po k, none⟩ gv _ (by show gv ≠ pb k; exact hgvB k))).trans hy5
      have hb6 : OnlyB pb w (w6.setCell ⟨pb k, po k, none⟩ (.int .i64 y)) := hb5.set k (po k) _
      clear hy5 hb5 hS5 hgfB hgvB
      generalize HPB : pb k = pbk at *
      generalize po k = pok at *
      go_simp
      refine hK.out _ _ (hy6) (fun hHeld => ?_)
      clear hK K
      try simp only [tkS, Act.put]
      refine wpAnyH_done (by kernel_rfl) ?_ _
      clear hy6 hu0 hf0
      go_wp2_with fail
      go_roundw
      case rel => exact ⟨k + 1, by omega, by go_num, hS6, hb6⟩
      case measure => simp [intOf]; omega
    · obtain rfl : k = T.length := by omega
      have hki : ¬ (T.length : Int) < (T.length : Int) := by omega
      go_wp2_with fail
      go_end0
      exact ⟨rfl, hS, hbel⟩

set_option maxHeartbeats 4000000 in
set_option maxRecDepth 100000 in
theorem setFieldsT_any (b ob C : Nat) (w : World) (fv vv : Value) (fs : List Value) (T : List ByteArray) (St : Nat → World → Prop) (pb po : Nat → Nat) (hfs : Rd C w fv fs) (hvs : Rd C w vv (T.map Value.string)) (hC : C ≤ w.heap.size) (hl : T.length = fs.length) (hl' : fs.length ≤ 1000)
    (HF : Hid (∀ i F, fs[i]? = some F → ∃ f cp, F = .func (.func f) #[] cp ∧ (∀ args wz, (callFunc f args).run Tryz.prog wz = .ok (.enter f args) wz) ∧ ∀ wz, St i wz → Calls Tryz.prog f (#[.pointer (some ⟨ob, 0, none⟩)] ++ cp) wz fun e w' => e = .returned (.pointer (some ⟨pb i, po i, none⟩)) ∧ ∃ n, w' = wz.drewN n))
    (HD : Hid (∀ i wz n, St i wz → St i (wz.drewN n)))
    (HP : Hid (∀ i wz y, T[i]? = some y → St i wz → (∃ u, wz.cell? ⟨pb i, po i, none⟩ = some (.string u)) ∧ wz.frozen? ⟨pb i, po i, none⟩ = false ∧ St (i + 1) (wz.setCell ⟨pb i, po i, none⟩ (.string y))))
    (HB : Hid (∀ i g, fv.ownBlock = some g ∨ vv.ownBlock = some g → g ≠ pb i)) (h0 : St 0 w) :
    Calls Tryz.prog 114 #[.pointer (some ⟨b, 0, none⟩), .pointer (some ⟨ob, 0, none⟩), fv, vv] w fun e w' => e = .returned (.tuple #[]) ∧ St T.length w' ∧ OnlyB pb w w' := by
  obtain ⟨fa, fc, rfl, hfc, hfm, hfn, hfr⟩ := hfs
  obtain ⟨va, vc, rfl, hvc, hvm, hvn, hvr⟩ := hvs
  rw [List.length_map] at hvr ⊢
  rw [← hl] at hfr hl' ⊢
  have hee : ((T.length : Int) == (T.length : Int)) = true := by simp
  have HL : Hid (T.length = fs.length) := hl
  clear hl hfc hvc hfn hvn
  go_enter Tryz.func114, Tryz.ntmps114
  go_wp2_with (first | (go_at_call 101; refine (require_y _ _ _ (by first | rfl | (simp; done) | exact hee)).mono ?_; rintro e w' ⟨rfl, hw⟩; obtain rfl := hw.symm))
  go_loopw [19] (fun ti wr => ∃ k : Nat, k ≤ T.length ∧ ti = .int .i64 (k : Int) ∧ St k wr ∧ OnlyB pb w wr) (fun ti _ => T.length - (intOf ti).toNat)
  case atStart => exact ⟨0, Nat.zero_le _, rfl, h0, OnlyB.refl _ _⟩
  case round =>
    clear h0
    obtain ⟨k, hk, rfl, hS, hbel⟩ := hrel
    by_cases hlt : k < T.length
    · have hki : (k : Int) < (T.length : Int) := by omega
      have hk0 : (0 : Int) ≤ (k : Int) := by omega
      obtain ⟨F, hFk⟩ : ∃ F, fs[k]? = some F := ⟨_, List.getElem?_eq_getElem (by have := HL.out; omega)⟩
      obtain ⟨y, hTk⟩ : ∃ y, T[k]? = some y := ⟨_, List.getElem?_eq_getElem hlt⟩
      obtain ⟨f, cp, rfl, hE, hcall⟩ := HF.out k F hFk
      obtain ⟨gf, og, rfl, hgf, hcf⟩ := hfr (by omega)
      obtain ⟨gv, ov, rfl, hgv, hcv⟩ := hvr (by omega)
      have hgfB : ∀ i, gf ≠ pb i := fun i => HB.out i gf (.inl rfl)
      have hgvB : ∀ i, gv ≠ pb i := fun i => HB.out i gv (.inr rfl)
      have hff := (World.cell?_of_block (w := w) (a := ⟨gf, og + k, none⟩) (hbel.block gf hgfB)).trans (hcf k _ hFk)
      have hy := (World.cell?_of_block (w := w) (a := ⟨gv, ov + k, none⟩) (hbel.block gv hgvB)).trans (hcv k (.string y) (by rw [List.getElem?_map, hTk]; rfl))
      clear hcf hcv hFk
      go_upto_region 4 with fail
      clear hff
      refine wp_region_held_drew (S := fun w' => w'.cell? ⟨gv, ov + k, none⟩ = some (.string y)) (by kernel_rfl) hy (fun hHeld => ?_)
      replace hS := HD.out k wr 1 hS
      replace hy : wr.drew.cell? ⟨gv, ov + k, none⟩ = some (.string y) := hy
      replace hS : St k wr.drew := hS
      replace hbel := hbel.drew
      generalize wr.drew = w3 at *
      refine tkH 0 (.func (.func f) #[] cp) rfl (Or.inl ⟨by kernel_rfl, by intro w hSw; clear hSw; go_simp⟩) hHeld ?_
      simp only [tkS, Act.put]
      refine tkH 1 (.pointer (some ⟨ob, 0, none⟩)) rfl (Or.inl ⟨by kernel_rfl, by intro w hSw; clear hSw; go_simp⟩) hHeld ?_
      simp only [tkS, Act.put]
      refine tkH 3 (.slice (some ⟨gv, ov, none⟩) T.length vc) rfl (Or.inl ⟨by kernel_rfl, by intro w hSw; clear hSw; go_simp⟩) hHeld ?_
      simp only [tkS, Act.put]
      refine tkH 4 (.int .i64 (k : Int)) rfl (Or.inl ⟨by kernel_rfl, by intro w hSw; clear hSw; go_simp⟩) hHeld ?_
      simp only [tkS, Act.put]
      refine tkH 5 (.pointer (some ⟨gv, ov + k, none⟩)) rfl (Or.inl ⟨by kernel_rfl, by intro w hSw; clear hSw; go_simp⟩) hHeld ?_
      simp only [tkS, Act.put]
      refine tkH 6 (.string y) rfl (Or.inl ⟨by kernel_rfl, by intro w hSw; have s0 := hSw; go_simp⟩) hHeld ?_
      simp only [tkS, Act.put]
      refine wpAnyH_ready (rs := [2]) (by kernel_rfl) (by simp) ?_
      refine AllReadyH.cons rfl (fun K hK => ?_) AllReadyH.nil
      go_simp
      refine (hcall w3 hS).mono ?_
      rintro e w5 ⟨rfl, q5, rfl⟩
      have hS5 := HD.out k w3 q5 hS
      have hb5 := hbel.drewN q5
      have hy5 : (w3.drewN q5).cell? ⟨gv, ov + k, none⟩ = some (.string y) := hy
      go_wp2_with fail
      refine hK.out _ _ (hy5) (fun hHeld => ?_)
      clear hK K
      try simp only [tkS, Act.put]
      clear hS hbel hy hcall
      generalize w3.drewN q5 = w6 at *
      obtain ⟨⟨u0, hu0⟩, hf0, hS6⟩ := HP.out k w6 y hTk hS5
      refine tkH 7 (.pointer (some ⟨pb k, po k, none⟩)) rfl (Or.inl ⟨by kernel_rfl, by intro w hSw; clear hSw; go_simp⟩) hHeld ?_
      simp only [tkS, Act.put]
      refine wpAnyH_ready (rs := [8]) (by kernel_rfl) (by simp) ?_
      refine AllReadyH.cons rfl (fun K hK => ?_) AllReadyH.nil
      have hy6 : (w6.setCell ⟨pb k, po k, none⟩ (.string y)).cell? ⟨gv, ov + k, none⟩ = some (.string y) := (World.cell?_of_block (w := w6) (a := ⟨gv, ov + k, none⟩) (heap_setCell_other w6 ⟨pb k, po k, none⟩ gv _ (by show gv ≠ pb k; exact hgvB k))).trans hy5
      have hb6 : OnlyB pb w (w6.setCell ⟨pb k, po k, none⟩ (.string y)) := hb5.set k (po k) _
      clear hy5 hb5 hS5 hgfB hgvB
      generalize HPB : pb k = pbk at *
      generalize po k = pok at *
      go_simp
      refine hK.out _ _ (hy6) (fun hHeld => ?_)
      clear hK K
      try simp only [tkS, Act.put]
      refine wpAnyH_done (by kernel_rfl) ?_ _
      clear hy6 hu0 hf0
      go_wp2_with fail
      go_roundw
      case rel => exact ⟨k + 1, by omega, by go_num, hS6, hb6⟩
      case measure => simp [intOf]; omega
    · obtain rfl : k = T.length := by omega
      have hki : ¬ (T.length : Int) < (T.length : Int) := by omega
      go_wp2_with fail
      go_end0
      exact ⟨rfl, hS, hbel⟩
end Go.Proofs.YtmmkmkaannlkhaaGreatDoor
