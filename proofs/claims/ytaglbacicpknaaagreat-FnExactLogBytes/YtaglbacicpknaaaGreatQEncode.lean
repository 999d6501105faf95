/- The code's columns, written: encode of a column of numbers, of texts. -/
import Derived.Test.YtaglbacicpknaaaGreatQOpRangeToLogColumns
import Derived.Test.YtaglbacicpknaaaGreatQOpByMathToLogByMath
import Derived.Test.YtaglbacicpknaaaGreatQStampLessWalkToPutRunsImpl2
import Derived.Test.YtaglbacicpknaaaGreatQTextsToPutTextsImpl
import Derived.Test.YtaglbacicpknaaaGreatQTakeKitToBigKit
namespace Go.Proofs.YtaglbacicpknaaaGreat
open Go.RowKit
set_option linter.unusedVariables false

set_option maxHeartbeats 4000000 in
set_option maxRecDepth 100000 in
theorem encodeI_any (g f : Nat) (cp : Array Value) (pb po : Nat → Nat) (ys : List Int) (w : World) (hl : ys.length ≤ 1024)
    (HE : Hid (∀ args wz, (callFunc f args).run Tryz.prog wz = .ok (.enter f args) wz))
    (HF : Hid (∀ wz, Below w.heap.size w wz → ∀ i, i < ys.length → Calls Tryz.prog f (#[.pointer (some ⟨g, i * 12, none⟩)] ++ cp) wz fun e w' => e = .returned (.pointer (some ⟨pb i, po i, none⟩)) ∧ ∃ q, w' = wz.drewN q))
    (HP : Hid (∀ i (h : i < ys.length), w.cell? ⟨pb i, po i, none⟩ = some (.int .i64 ys[i]))) :
    Calls Tryz.prog 129 #[.agg #[.func (.func f) #[] cp, .func (.func 41) #[] #[], .func (.func 42) #[] #[]], .slice (some ⟨g, 0, none⟩) ys.length ys.length] w fun e w' => ∃ r, e = .returned (.tuple #[r, .int .i64 (putRunsC ys)]) ∧ Own 5 w' w.heap.size r ((putRunsB ys).map (Value.int .u8)) ∧ Below w.heap.size w w' := by
  obtain ⟨i0, hi, hz0, hz1, hz2⟩ := info_parts info3
  go_enter Tryz.func129, Tryz.ntmps129
  go_wp2_with (at_make; refine wpList_make_full _ rfl _ _ 35 rfl (w.heap.size + 1) 3 i0 (.int .i64 0) 1 Tryz.underlying35 hi hz0 hz1 _ _ _ _ ys.length rfl rfl rfl rfl (by rw [hz2]; omega) (by unfold maxLen; omega) (by simp) ?_)
  intro w1 hown hgrow
  have ho1 := own_of hown
  rw [toList_madeCells_one] at ho1
  have hb0 := below_alloc w (.cells #[.func (.func f) #[] cp, .func (.func 41) #[] #[], .func (.func 42) #[] #[]] 85)
  have hb1 : Below (w.heap.size + 1) (w.alloc (.cells #[.func (.func f) #[] cp, .func (.func 41) #[] #[], .func (.func 42) #[] #[]] 85)) w1 := (Below.refl _ _).grown hgrow (by simp) (fun k hk => by cases hk)
  have hsz1 : w.heap.size + 1 ≤ w1.heap.size := by have := hb1.size; rw [World.size_alloc] at this; exact this
  have HBX : Hid (∀ wz, Below (w.heap.size + 1) w1 wz → wz.cell? ⟨w.heap.size, 0, none⟩ = some (.func (.func f) #[] cp) ∧ wz.cell? ⟨w.heap.size, 1, none⟩ = some (.func (.func 41) #[] #[])) := fun wz hz => by
    have h := hb1.trans hz
    have e1 := cell_made (w := w) (cs := #[.func (.func f) #[] cp, .func (.func 41) #[] #[], .func (.func 42) #[] #[]]) (T := 85) (w1 := wz) (by rw [World.size_alloc]; exact h) (k := 0) rfl
    have e2 := cell_made (w := w) (cs := #[.func (.func f) #[] cp, .func (.func 41) #[] #[], .func (.func 42) #[] #[]]) (T := 85) (w1 := wz) (by rw [World.size_alloc]; exact h) (k := 1) rfl
    exact ⟨e1, e2⟩
  have HBW : Hid (∀ wz, Below (w.heap.size + 1) w1 wz → Below w.heap.size w wz) := fun wz hz => hb0.trans ((hb1.trans hz).mono (by omega))
  clear hown hgrow hb0 hb1
  go_wp2_with fail
  go_loopw [13] (fun ti wr => ∃ k : Nat, k ≤ ys.length ∧ ti = .int .i64 k ∧ Own 3 wr (w.heap.size + 1) (.slice (some ⟨w.heap.size + 1, 0, none⟩) ys.length ys.length) ((ys.take k).map (Value.int .i64) ++ (List.replicate (ys.length - k) (.int .i64 0))) ∧ Below (w.heap.size + 1) w1 wr) (fun ti _ => ys.length - (intOf ti).toNat)
  case atStart => exact ⟨0, Nat.zero_le _, rfl, by simpa using ho1, Below.refl _ _⟩
  case round =>
    clear ho1
    obtain ⟨k, hk, rfl, how, hbel⟩ := hrel
    have hsz := hbel.size
    by_cases hlt : k < ys.length
    · have q0 := ((HBW.out wr hbel).cell (p := ⟨pb k, po k, none⟩) (show pb k < w.heap.size from cell_lt (HP.out k hlt))).trans (HP.out k hlt)
      have b0 := (HBX.out wr hbel).1
      have hpb : pb k < w.heap.size := cell_lt (HP.out k hlt)
      have hcall := fun wz (h : Below w.heap.size w wz) => HF.out wz h k hlt
      have hbw := HBW.out wr hbel
      have c2 := own_cell how (k := k) (by simp; omega)
      have f1 := own_free how k
      have R := own_set how k (.int .i64 ys[k])
      rw [copy_step (Value.int .i64) ys k hlt] at R
      have R2 : Below (w.heap.size + 1) w1 (wr.setCell ⟨w.heap.size + 1, k, none⟩ (.int .i64 ys[k])) := hbel.setCell (Nat.le_refl _) _
      have j0 : (0 : Int) ≤ (k : Int) := by omega
      have j1 : (k : Int) < (ys.length : Int) := by omega
      generalize ys[k] = y at q0 R R2
      generalize pb k = b at q0 hpb hcall
      generalize po k = ob at q0 hcall
      generalize HZ : ((ys.take k).map (Value.int .i64) ++ List.replicate (ys.length - k) (.int .i64 0))[k]'(by simp; omega) = zk at c2
      clear HZ how
      have S0 : wr.drew.cell? ⟨w.heap.size, 0, none⟩ = some (.func (.func f) #[] cp) ∧ wr.drew.cell? ⟨b, ob, none⟩ = some (.int .i64 y) := ⟨b0, q0⟩
      go_wp2_with fail
      refine wp_region_held_drew (S := fun w' => w'.cell? ⟨w.heap.size, 0, none⟩ = some (.func (.func f) #[] cp) ∧ w'.cell? ⟨b, ob, none⟩ = some (.int .i64 y)) (by kernel_rfl) S0 (fun hS => ?_)
      refine wpAnyH_take (i := 0) (v := .slice (some ⟨w.heap.size + 1, 0, none⟩) ys.length ys.length) rfl (by kernel_rfl) (by kernel_rfl) (by kernel_rfl) (fun _ _ _ h => h) (Or.inl ⟨by rfl, by intro w' hSw; go_simp⟩) hS ?_
      simp only [tkS, Act.put]
      refine wpAnyH_take (i := 1) (v := .int .i64 (k : Int)) rfl (by kernel_rfl) (by kernel_rfl) (by kernel_rfl) (fun _ _ _ h => h) (Or.inl ⟨by rfl, by intro w' hSw; go_simp⟩) hS ?_
      simp only [tkS, Act.put]
      refine wpAnyH_take (i := 2) (v := .pointer (some ⟨w.heap.size, 0, none⟩)) rfl (by kernel_rfl) (by kernel_rfl) (by kernel_rfl) (fun _ _ _ h => h) (Or.inl ⟨by rfl, by intro w' hSw; go_simp⟩) hS ?_
      simp only [tkS, Act.put]
      refine wpAnyH_take (i := 3) (v := .func (.func f) #[] cp) rfl (by kernel_rfl) (by kernel_rfl) (by kernel_rfl) (fun _ _ _ h => h) (Or.inl ⟨by rfl, by intro w' hSw; have h1 := hSw.1; have h2 := hSw.2; clear hSw; go_simp⟩) hS ?_
      simp only [tkS, Act.put]
      refine wpAnyH_take (i := 4) (v := .slice (some ⟨g, 0, none⟩) ys.length ys.length) rfl (by kernel_rfl) (by kernel_rfl) (by kernel_rfl) (fun _ _ _ h => h) (Or.inl ⟨by rfl, by intro w' hSw; go_simp⟩) hS ?_
      simp only [tkS, Act.put]
      refine wpAnyH_take (i := 5) (v := .int .i64 (k : Int)) rfl (by kernel_rfl) (by kernel_rfl) (by kernel_rfl) (fun _ _ _ h => h) (Or.inl ⟨by rfl, by intro w' hSw; go_simp⟩) hS ?_
      simp only [tkS, Act.put]
      refine wpAnyH_take (i := 6) (v := .pointer (some ⟨g, k * 12, none⟩)) rfl (by kernel_rfl) (by kernel_rfl) (by kernel_rfl) (fun _ _ _ h => h) (Or.inl ⟨by rfl, by intro w' hSw; go_simp⟩) hS ?_
      simp only [tkS, Act.put]
      refine wpAnyH_ready (rs := [7]) (by kernel_rfl) (by simp) ?_
      refine AllReadyH.cons rfl (fun K hK => ?_) AllReadyH.nil
      go_simp
      rw [HE.out, Oper.upon_enter]
      refine (hcall _ hbw.drew).mono ?_
      rintro e w5 ⟨rfl, q5, rfl⟩
      go_wp2_with fail
      refine hK.out _ _ ⟨hS.1, hS.2⟩ (fun hS => ?_)
      clear hK K
      refine wpAnyH_take (i := 8) (v := .pointer (some ⟨b, ob, none⟩)) rfl (by kernel_rfl) (by kernel_rfl) (by kernel_rfl) (fun _ _ _ h => h) (Or.inl ⟨by rfl, by intro w' hSw; go_simp⟩) hS ?_
      simp only [tkS, Act.put]
      refine wpAnyH_take (i := 9) (v := .int .i64 y) rfl (by kernel_rfl) (by kernel_rfl) (by kernel_rfl) (fun _ _ _ h => h) (Or.inl ⟨by rfl, by intro w' hSw; have h1 := hSw.1; have h2 := hSw.2; clear hSw; go_simp⟩) hS ?_
      simp only [tkS, Act.put]
      refine wpAnyH_take (i := 10) (v := .pointer (some ⟨w.heap.size + 1, k, none⟩)) rfl (by kernel_rfl) (by kernel_rfl) (by kernel_rfl) (fun _ _ _ h => h) (Or.inl ⟨by rfl, by intro w' hSw; go_simp⟩) hS ?_
      simp only [tkS, Act.put]
      have R3 : Own 3 ((wr.drewN (1 + q5)).setCell ⟨w.heap.size + 1, k, none⟩ (.int .i64 y)) (w.heap.size + 1) (.slice (some ⟨w.heap.size + 1, 0, none⟩) ys.length ys.length) _ := R
      have R4 : Below (w.heap.size + 1) w1 ((wr.drewN (1 + q5)).setCell ⟨w.heap.size + 1, k, none⟩ (.int .i64 y)) := (below_drewN hbel (1 + q5)).setCell (Nat.le_refl _) _
      have S5 : ((wr.drewN (1 + q5)).setCell ⟨w.heap.size + 1, k, none⟩ (.int .i64 y)).cell? ⟨w.heap.size, 0, none⟩ = some (.func (.func f) #[] cp) ∧ ((wr.drewN (1 + q5)).setCell ⟨w.heap.size + 1, k, none⟩ (.int .i64 y)).cell? ⟨b, ob, none⟩ = some (.int .i64 y) := ⟨(World.cell?_setCell_other _ _ _ _ (by intro e; injection e with e1; omega)).trans b0, (World.cell?_setCell_other _ _ _ _ (by intro e; injection e with e1; omega)).trans q0⟩
      clear R R2 b0 q0
      refine wpAnyH_ready (rs := [11]) (by kernel_rfl) (by simp) ?_
      refine AllReadyH.cons rfl (fun K hK => ?_) AllReadyH.nil
      go_simp
      refine hK.out _ _ S5 (fun hS => ?_)
      clear hK K S5 hS S0 c2 f1 hcall
      refine wpAnyH_done (by kernel_rfl) ?_ _
      go_wp2_with fail
      go_roundw
      case rel => exact ⟨k + 1, by omega, by go_num, R3, R4⟩
      case measure => simp [intOf]; omega
    · obtain rfl : k = ys.length := by omega
      rw [Nat.sub_self, List.replicate_zero, List.append_nil, List.take_length] at how
      have b1 := (HBX.out wr hbel).2
      have hbw := HBW.out wr hbel
      have hput := implPutRuns_any _ wr _ ys (by omega) (Nat.le_refl _) how.rd
      have hsw := hbw.size
      go_wp2_with fail
      refine hput.mono ?_
      rintro e w5 ⟨r5, rfl, ho5, hb5⟩
      go_wp2_with fail
      go_ret2
      exact ⟨_, rfl, ho5.mono hsw, below_seq hbw hb5⟩

set_option maxHeartbeats 4000000 in
set_option maxRecDepth 100000 in
theorem encodeT_any (g f : Nat) (cp : Array Value) (pb po : Nat → Nat) (ys : List ByteArray) (w : World) (hl : ys.length ≤ 1024) (ht : tot ys ys.length ≤ 1048576)
    (HE : Hid (∀ args wz, (callFunc f args).run Tryz.prog wz = .ok (.enter f args) wz))
    (HF : Hid (∀ wz, Below w.heap.size w wz → ∀ i, i < ys.length → Calls Tryz.prog f (#[.pointer (some ⟨g, i * 12, none⟩)] ++ cp) wz fun e w' => e = .returned (.pointer (some ⟨pb i, po i, none⟩)) ∧ ∃ q, w' = wz.drewN q))
    (HP : Hid (∀ i (h : i < ys.length), w.cell? ⟨pb i, po i, none⟩ = some (.string ys[i]))) :
    Calls Tryz.prog 131 #[.agg #[.func (.func f) #[] cp, .func (.func 44) #[] #[], .func (.func 45) #[] #[]], .slice (some ⟨g, 0, none⟩) ys.length ys.length] w fun e w' => ∃ r, e = .returned (.tuple #[r, .int .i64 (putTextsC ys)]) ∧ Own 5 w' w.heap.size r ((putTextsB ys).map (Value.int .u8)) ∧ Below w.heap.size w w' := by
  obtain ⟨i0, hi, hz0, hz1, hz2⟩ := info_parts info9
  go_enter Tryz.func131, Tryz.ntmps131
  go_wp2_with (at_make; refine wpList_make_full _ rfl _ _ 67 rfl (w.heap.size + 1) 9 i0 (.string ByteArray.empty) 1 Tryz.underlying67 hi hz0 hz1 _ _ _ _ ys.length rfl rfl rfl rfl (by rw [hz2]; omega) (by unfold maxLen; omega) (by simp) ?_)
  intro w1 hown hgrow
  have ho1 := own_of hown
  rw [toList_madeCells_one] at ho1
  have hb0 := below_alloc w (.cells #[.func (.func f) #[] cp, .func (.func 44) #[] #[], .func (.func 45) #[] #[]] 93)
  have hb1 : Below (w.heap.size + 1) (w.alloc (.cells #[.func (.func f) #[] cp, .func (.func 44) #[] #[], .func (.func 45) #[] #[]] 93)) w1 := (Below.refl _ _).grown hgrow (by simp) (fun k hk => by cases hk)
  have hsz1 : w.heap.size + 1 ≤ w1.heap.size := by have := hb1.size; rw [World.size_alloc] at this; exact this
  have HBX : Hid (∀ wz, Below (w.heap.size + 1) w1 wz → wz.cell? ⟨w.heap.size, 0, none⟩ = some (.func (.func f) #[] cp) ∧ wz.cell? ⟨w.heap.size, 1, none⟩ = some (.func (.func 44) #[] #[])) := fun wz hz => by
    have h := hb1.trans hz
    have e1 := cell_made (w := w) (cs := #[.func (.func f) #[] cp, .func (.func 44) #[] #[], .func (.func 45) #[] #[]]) (T := 93) (w1 := wz) (by rw [World.size_alloc]; exact h) (k := 0) rfl
    have e2 := cell_made (w := w) (cs := #[.func (.func f) #[] cp, .func (.func 44) #[] #[], .func (.func 45) #[] #[]]) (T := 93) (w1 := wz) (by rw [World.size_alloc]; exact h) (k := 1) rfl
    exact ⟨e1, e2⟩
  have HBW : Hid (∀ wz, Below (w.heap.size + 1) w1 wz → Below w.heap.size w wz) := fun wz hz => hb0.trans ((hb1.trans hz).mono (by omega))
  clear hown hgrow hb0 hb1
  go_wp2_with fail
  go_loopw [13] (fun ti wr => ∃ k : Nat, k ≤ ys.length ∧ ti = .int .i64 k ∧ Own 9 wr (w.heap.size + 1) (.slice (some ⟨w.heap.size + 1, 0, none⟩) ys.length ys.length) ((ys.take k).map Value.string ++ (List.replicate (ys.length - k) (.string ByteArray.empty))) ∧ Below (w.heap.size + 1) w1 wr) (fun ti _ => ys.length - (intOf ti).toNat)
  case atStart => exact ⟨0, Nat.zero_le _, rfl, by simpa using ho1, Below.refl _ _⟩
  case round =>
    clear ho1
    obtain ⟨k, hk, rfl, how, hbel⟩ := hrel
    have hsz := hbel.size
    by_cases hlt : k < ys.length
    · have q0 := ((HBW.out wr hbel).cell (p := ⟨pb k, po k, none⟩) (show pb k < w.heap.size from cell_lt (HP.out k hlt))).trans (HP.out k hlt)
      have b0 := (HBX.out wr hbel).1
      have hpb : pb k < w.heap.size := cell_lt (HP.out k hlt)
      have hcall := fun wz (h : Below w.heap.size w wz) => HF.out wz h k hlt
      have hbw := HBW.out wr hbel
      have c2 := own_cell how (k := k) (by simp; omega)
      have f1 := own_free how k
      have R := own_set how k (.string ys[k])
      rw [copy_step Value.string ys k hlt] at R
      have R2 : Below (w.heap.size + 1) w1 (wr.setCell ⟨w.heap.size + 1, k, none⟩ (.string ys[k])) := hbel.setCell (Nat.le_refl _) _
      have j0 : (0 : Int) ≤ (k : Int) := by omega
      have j1 : (k : Int) < (ys.length : Int) := by omega
      generalize ys[k] = y at q0 R R2
      generalize pb k = b at q0 hpb hcall
      generalize po k = ob at q0 hcall
      generalize HZ : ((ys.take k).map Value.string ++ List.replicate (ys.length - k) (.string ByteArray.empty))[k]'(by simp; omega) = zk at c2
      clear HZ how
      have S0 : wr.drew.cell? ⟨w.heap.size, 0, none⟩ = some (.func (.func f) #[] cp) ∧ wr.drew.cell? ⟨b, ob, none⟩ = some (.string y) := ⟨b0, q0⟩
      go_wp2_with fail
      refine wp_region_held_drew (S := fun w' => w'.cell? ⟨w.heap.size, 0, none⟩ = some (.func (.func f) #[] cp) ∧ w'.cell? ⟨b, ob, none⟩ = some (.string y)) (by kernel_rfl) S0 (fun hS => ?_)
      refine wpAnyH_take (i := 0) (v := .slice (some ⟨w.heap.size + 1, 0, none⟩) ys.length ys.length) rfl (by kernel_rfl) (by kernel_rfl) (by kernel_rfl) (fun _ _ _ h => h) (Or.inl ⟨by rfl, by intro w' hSw; go_simp⟩) hS ?_
      simp only [tkS, Act.put]
      refine wpAnyH_take (i := 1) (v := .int .i64 (k : Int)) rfl (by kernel_rfl) (by kernel_rfl) (by kernel_rfl) (fun _ _ _ h => h) (Or.inl ⟨by rfl, by intro w' hSw; go_simp⟩) hS ?_
      simp only [tkS, Act.put]
      refine wpAnyH_take (i := 2) (v := .pointer (some ⟨w.heap.size, 0, none⟩)) rfl (by kernel_rfl) (by kernel_rfl) (by kernel_rfl) (fun _ _ _ h => h) (Or.inl ⟨by rfl, by intro w' hSw; go_simp⟩) hS ?_
      simp only [tkS, Act.put]
      refine wpAnyH_take (i := 3) (v := .func (.func f) #[] cp) rfl (by kernel_rfl) (by kernel_rfl) (by kernel_rfl) (fun _ _ _ h => h) (Or.inl ⟨by rfl, by intro w' hSw; have h1 := hSw.1; have h2 := hSw.2; clear hSw; go_simp⟩) hS ?_
      simp only [tkS, Act.put]
      refine wpAnyH_take (i := 4) (v := .slice (some ⟨g, 0, none⟩) ys.length ys.length) rfl (by kernel_rfl) (by kernel_rfl) (by kernel_rfl) (fun _ _ _ h => h) (Or.inl ⟨by rfl, by intro w' hSw; go_simp⟩) hS ?_
      simp only [tkS, Act.put]
      refine wpAnyH_take (i := 5) (v := .int .i64 (k : Int)) rfl (by kernel_rfl) (by kernel_rfl) (by kernel_rfl) (fun _ _ _ h => h) (Or.inl ⟨by rfl, by intro w' hSw; go_simp⟩) hS ?_
      simp only [tkS, Act.put]
      refine wpAnyH_take (i := 6) (v := .pointer (some ⟨g, k * 12, none⟩)) rfl (by kernel_rfl) (by kernel_rfl) (by kernel_rfl) (fun _ _ _ h => h) (Or.inl ⟨by rfl, by intro w' hSw; go_simp⟩) hS ?_
      simp only [tkS, Act.put]
      refine wpAnyH_ready (rs := [7]) (by kernel_rfl) (by simp) ?_
      refine AllReadyH.cons rfl (fun K hK => ?_) AllReadyH.nil
      go_simp
      rw [HE.out, Oper.upon_enter]
      refine (hcall _ hbw.drew).mono ?_
      rintro e w5 ⟨rfl, q5, rfl⟩
      go_wp2_with fail
      refine hK.out _ _ ⟨hS.1, hS.2⟩ (fun hS => ?_)
      clear hK K
      refine wpAnyH_take (i := 8) (v := .pointer (some ⟨b, ob, none⟩)) rfl (by kernel_rfl) (by kernel_rfl) (by kernel_rfl) (fun _ _ _ h => h) (Or.inl ⟨by rfl, by intro w' hSw; go_simp⟩) hS ?_
      simp only [tkS, Act.put]
      refine wpAnyH_take (i := 9) (v := .string y) rfl (by kernel_rfl) (by kernel_rfl) (by kernel_rfl) (fun _ _ _ h => h) (Or.inl ⟨by rfl, by intro w' hSw; have h1 := hSw.1; have h2 := hSw.2; clear hSw; go_simp⟩) hS ?_
      simp only [tkS, Act.put]
      refine wpAnyH_take (i := 10) (v := .pointer (some ⟨w.heap.size + 1, k, none⟩)) rfl (by kernel_rfl) (by kernel_rfl) (by kernel_rfl) (fun _ _ _ h => h) (Or.inl ⟨by rfl, by intro w' hSw; go_simp⟩) hS ?_
      simp only [tkS, Act.put]
      have R3 : Own 9 ((wr.drewN (1 + q5)).setCell ⟨w.heap.size + 1, k, none⟩ (.string y)) (w.heap.size + 1) (.slice (some ⟨w.heap.size + 1, 0, none⟩) ys.length ys.length) _ := R
      have R4 : Below (w.heap.size + 1) w1 ((wr.drewN (1 + q5)).setCell ⟨w.heap.size + 1, k, none⟩ (.string y)) := (below_drewN hbel (1 + q5)).setCell (Nat.le_refl _) _
      have S5 : ((wr.drewN (1 + q5)).setCell ⟨w.heap.size + 1, k, none⟩ (.string y)).cell? ⟨w.heap.size, 0, none⟩ = some (.func (.func f) #[] cp) ∧ ((wr.drewN (1 + q5)).setCell ⟨w.heap.size + 1, k, none⟩ (.string y)).cell? ⟨b, ob, none⟩ = some (.string y) := ⟨(World.cell?_setCell_other _ _ _ _ (by intro e; injection e with e1; omega)).trans b0, (World.cell?_setCell_other _ _ _ _ (by intro e; injection e with e1; omega)).trans q0⟩
      clear R R2 b0 q0
      refine wpAnyH_ready (rs := [11]) (by kernel_rfl) (by simp) ?_
      refine AllReadyH.cons rfl (fun K hK => ?_) AllReadyH.nil
      go_simp
      refine hK.out _ _ S5 (fun hS => ?_)
      clear hK K S5 hS S0 c2 f1 hcall
      refine wpAnyH_done (by kernel_rfl) ?_ _
      go_wp2_with fail
      go_roundw
      case rel => exact ⟨k + 1, by omega, by go_num, R3, R4⟩
      case measure => simp [intOf]; omega
    · obtain rfl : k = ys.length := by omega
      rw [Nat.sub_self, List.replicate_zero, List.append_nil, List.take_length] at how
      have b1 := (HBX.out wr hbel).2
      have hbw := HBW.out wr hbel
      have hput := implPutTexts_any _ wr _ ys (by omega) ht (Nat.le_refl _) how.rd
      have hsw := hbw.size
      go_wp2_with fail
      refine hput.mono ?_
      rintro e w5 ⟨r5, rfl, ho5, hb5⟩
      go_wp2_with fail
      go_ret2
      exact ⟨_, rfl, ho5.mono hsw, below_seq hbw hb5⟩
end Go.Proofs.YtaglbacicpknaaaGreat
