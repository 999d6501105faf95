/- Operations of a log: what the specification's l08OpOK answers. -/
import Derived.BigQuiet
import Derived.Deep.Cut
import Derived.Test.YtmmkmkaannlkhaaGreatDoorQOpComesToOpSpecBase
import Derived.Test.YtmmkmkaannlkhaaGreatDoorQQuietKeepToQuietPass
import Derived.Test.YtmmkmkaannlkhaaGreatDoorQTakeKitToBigKit
namespace Go.Proofs.YtmmkmkaannlkhaaGreatDoor
open Go.RowKit
set_option linter.unusedVariables false

set_option maxHeartbeats 16000000 in
set_option maxRecDepth 100000 in
theorem specOpOK_any (C : Nat) (a s t k o n u pt pa : Int) (dv : Value) (ky tx : ByteArray) (ds : List Int) (w : World) (hC : C ≤ w.heap.size) (hr : Rd C w dv (ds.map (Value.int .i64))) :
    Calls Tryz.prog 12 #[.agg #[.int .i64 a, .int .i64 s, .int .i64 t, dv, .int .i64 k, .int .i64 o, .int .i64 n, .int .i64 u, .int .i64 pt, .int .i64 pa, .string ky, .string tx]] w fun e w' => e = .returned (.bool (opB a s t k o n u pt pa ky tx ds)) ∧ Below w.heap.size w w' := by
  rw [← opS_eq]
  obtain ⟨r, HR⟩ : ∃ r, Hid (opS a s t k o n u pt pa ky tx ds = r) := ⟨_, rfl⟩
  rw [HR.out]
  have NO : Hid (opS a s t k o n u pt pa ky tx ds = false → r = false) := fun h => HR.out.symm.trans h
  obtain ⟨da, dn, dc, rfl⟩ : ∃ da dn dc, dv = .slice da dn dc := by obtain ⟨da, dc, h, _⟩ := hr; exact ⟨da, _, dc, h⟩
  have HRD : Hid (Rd C w (.slice da dn dc) (ds.map (Value.int .i64))) := hr
  have HV0 : Hid (∀ w1, Below w.heap.size w w1 → Calls Tryz.prog 31 #[.agg #[.slice da dn dc]] w1 fun e w' => e = .returned (.bool (vecOK ds)) ∧ Below w1.heap.size w1 w') := fun w1 hb => specVecOK_any C w1 (.slice da dn dc) ds (by have := hb.size; omega) (hr.below (hb.mono hC))
  have hP := fun w => specStampOK_any pt pa w
  have hL := fun w => specStampLess_any pt pa t a w
  have hch := fun w => l04Char_any n w
  clear hr
  go_enter Tryz.func12, Tryz.ntmps12
  go_upto_region 2 with (go_at_call 29; refine (l08Stamp_any _ _ _ _ _ _ _ _ _ _ _ _ _).mono ?_; rintro e w1 ⟨rfl, hb1⟩)
  obtain ⟨z, hz⟩ : ∃ z, w1.heap.size = z := ⟨_, rfl⟩
  have HF : Hid (∀ wx, Below (w1.alloc (.cells #[.int .i64 t, .int .i64 a] 27)).heap.size (w1.alloc (.cells #[.int .i64 t, .int .i64 a] 27)) wx → wx.cell? ⟨w.heap.size, 0, none⟩ = some (.int .i64 a) ∧ wx.cell? ⟨w.heap.size, 1, none⟩ = some (.int .i64 s) ∧ wx.cell? ⟨w.heap.size, 2, none⟩ = some (.int .i64 t) ∧ wx.cell? ⟨w.heap.size, 3, none⟩ = some (.slice da dn dc) ∧ wx.cell? ⟨w.heap.size, 4, none⟩ = some (.int .i64 k) ∧ wx.cell? ⟨w.heap.size, 5, none⟩ = some (.int .i64 o) ∧ wx.cell? ⟨w.heap.size, 6, none⟩ = some (.int .i64 n) ∧ wx.cell? ⟨w.heap.size, 7, none⟩ = some (.int .i64 u) ∧ wx.cell? ⟨w.heap.size, 8, none⟩ = some (.int .i64 pt) ∧ wx.cell? ⟨w.heap.size, 9, none⟩ = some (.int .i64 pa) ∧ wx.cell? ⟨w.heap.size, 10, none⟩ = some (.string ky) ∧ wx.cell? ⟨w.heap.size, 11, none⟩ = some (.string tx) ∧ wx.cell? ⟨z, 0, none⟩ = some (.int .i64 t) ∧ wx.cell? ⟨z, 1, none⟩ = some (.int .i64 a) ∧ True) := fun wx h => by
    have h2 := below_seq (below_alloc w1 _) h
    obtain ⟨q0, q1, q2, q3, q4, q5, q6, q7, q8, q9, q10, q11⟩ := op_cells (below_seq hb1 h2)
    rw [← hz]
    exact ⟨q0, q1, q2, q3, q4, q5, q6, q7, q8, q9, q10, q11, cell_made h (k := 0) rfl, cell_made h (k := 1) rfl, trivial⟩
  have hB0 : Below w.heap.size w (w1.alloc (.cells #[.int .i64 t, .int .i64 a] 27)) := below_seq (below_seq (below_alloc _ _) hb1) (below_alloc _ _)
  have HB0 : Hid _ := hB0
  rw [hz]
  clear hb1 hz hB0
  generalize w1.alloc (.cells #[.int .i64 t, .int .i64 a] 27) = w2 at *
  have HFP : Hid (∀ p : KeptBy w2, p.W.cell? ⟨w.heap.size, 0, none⟩ = some (.int .i64 a) ∧ p.W.cell? ⟨w.heap.size, 1, none⟩ = some (.int .i64 s) ∧ p.W.cell? ⟨w.heap.size, 2, none⟩ = some (.int .i64 t) ∧ p.W.cell? ⟨w.heap.size, 3, none⟩ = some (.slice da dn dc) ∧ p.W.cell? ⟨w.heap.size, 4, none⟩ = some (.int .i64 k) ∧ p.W.cell? ⟨w.heap.size, 5, none⟩ = some (.int .i64 o) ∧ p.W.cell? ⟨w.heap.size, 6, none⟩ = some (.int .i64 n) ∧ p.W.cell? ⟨w.heap.size, 7, none⟩ = some (.int .i64 u) ∧ p.W.cell? ⟨w.heap.size, 8, none⟩ = some (.int .i64 pt) ∧ p.W.cell? ⟨w.heap.size, 9, none⟩ = some (.int .i64 pa) ∧ p.W.cell? ⟨w.heap.size, 10, none⟩ = some (.string ky) ∧ p.W.cell? ⟨w.heap.size, 11, none⟩ = some (.string tx) ∧ p.W.cell? ⟨z, 0, none⟩ = some (.int .i64 t) ∧ p.W.cell? ⟨z, 1, none⟩ = some (.int .i64 a) ∧ True) := fun p => HF.out p.W p.kept
  have HBP : Hid (∀ p : KeptBy w2, Below w.heap.size w p.W) := fun p => below_seq HB0.out p.kept
  have hne := kept_some w2
  obtain ⟨b0, E0⟩ : ∃ b, Hid (stOK t a = b) := ⟨_, rfl⟩
  obtain ⟨b3, E3⟩ : ∃ b, Hid (vecOK ds = b) := ⟨_, rfl⟩
  have HO : Hid (∀ p : KeptBy w2, _) := fun p => kept_of (specStampOK_any t a p.W)
  have HV : Hid (∀ p : KeptBy w2, _) := fun p => kept_of (HV0.out p.W (HBP.out p))
  rw [E0.out] at HO
  rw [E3.out] at HV
  have HLS : Hid (∀ p : KeptBy w2, p.W.rangeAt z 0 [.int .i64 t, .int .i64 a]) := fun p q v hq => by
    obtain ⟨-, -, -, -, -, -, -, -, -, -, -, -, z0, z1, -⟩ := HFP.out p
    match q, hq with
    | 0, hq => cases hq; exact z0
    | 1, hq => cases hq; exact z1
  have HLV : Hid (∀ p : KeptBy w2, p.W.rangeAt w.heap.size 3 [.slice da dn dc]) := fun p q v hq => by
    match q, hq with
    | 0, hq => cases hq; exact (HFP.out p).2.2.2.1
  have HIS : Hid ((Tryz.prog.info? 27).map (·.size) = some 2) := by unfold Hid; kernel_rfl
  have HIV : Hid ((Tryz.prog.info? 25).map (·.size) = some 1) := by unfold Hid; kernel_rfl
  refine wp_region_kept (by kernel_rfl) (by kernel_rfl) ?_
  refine quiet_load 27 _ z 0 [.int .i64 t, .int .i64 a] _ (fun w' ⟨p, hp⟩ => by rw [hp]; exact HLS.out p) Tryz.underlying27 rfl HIS.out ?_
  simp only [tkS, Act.put]
  quiet_step ((go_at_call 30; exact HO.out _))
  iterate 2 (quiet_step (fail))
  simp only [List.append_eq, List.cons_append, List.nil_append]
  clear HO HLS HIS
  cases b0 with
  | false =>
    simp only [Bool.not_false]
    have HE : Hid (r = false) := NO.out (by unfold opS; rw [comes_1 E0.out, Bool.false_and])
    iterate 3 (with_reducible refine quiet_pass (by kernel_rfl) ?_)
    simp only [tkS, Act.put]
    iterate 2 (quiet_step (fail))
    iterate 3 (with_reducible refine quiet_pass (by kernel_rfl) ?_)
    simp only [tkS, Act.put]
    iterate 2 (quiet_step (fail))
    iterate 4 (with_reducible refine quiet_pass (by kernel_rfl) ?_)
    simp only [tkS, Act.put]
    iterate 2 (quiet_step (fail))
    iterate 11 (with_reducible refine quiet_pass (by kernel_rfl) ?_)
    simp only [tkS, Act.put]
    iterate 2 (quiet_step (fail))
    iterate 3 (with_reducible refine quiet_pass (by kernel_rfl) ?_)
    simp only [tkS, Act.put]
    iterate 2 (quiet_step (fail))
    iterate 3 (with_reducible refine quiet_pass (by kernel_rfl) ?_)
    simp only [tkS, Act.put]
    iterate 2 (quiet_step (fail))
    iterate 3 (with_reducible refine quiet_pass (by kernel_rfl) ?_)
    simp only [tkS, Act.put]
    iterate 2 (quiet_step (fail))
    iterate 3 (with_reducible refine quiet_pass (by kernel_rfl) ?_)
    simp only [tkS, Act.put]
    iterate 2 (quiet_step (fail))
    iterate 3 (with_reducible refine quiet_pass (by kernel_rfl) ?_)
    simp only [tkS, Act.put]
    iterate 2 (quiet_step (fail))
    iterate 5 (with_reducible refine quiet_pass (by kernel_rfl) ?_)
    simp only [tkS, Act.put]
    iterate 2 (quiet_step (fail))
    iterate 4 (with_reducible refine quiet_pass (by kernel_rfl) ?_)
    simp only [tkS, Act.put]
    iterate 2 (quiet_step (fail))
    iterate 4 (with_reducible refine quiet_pass (by kernel_rfl) ?_)
    simp only [tkS, Act.put]
    quiet_step (fail)
    refine wpQuiet_nil ?_
    rintro _ ⟨p, rfl⟩
    have hBp := HBP.out p
    go_wp2_with fail
    go_ret
    exact ⟨by rw [HE.out]; rfl, hBp⟩
  | true =>
    simp only [Bool.not_true]
    obtain ⟨b1, E1⟩ : ∃ b, Hid (decide (s < 1) = b) := ⟨_, rfl⟩
    have e1 := E1.out
    have f1 := (fun p => (HFP.out p).2.1)
    iterate 5 (quiet_step (fail))
    clear e1 f1 
    cases b1 with
    | true =>
      have HE : Hid (r = false) := NO.out (by unfold opS; rw [comes_2 (of_decide_eq_true E1.out), Bool.false_and])
      iterate 3 (with_reducible refine quiet_pass (by kernel_rfl) ?_)
      simp only [tkS, Act.put]
      iterate 2 (quiet_step (fail))
      iterate 4 (with_reducible refine quiet_pass (by kernel_rfl) ?_)
      simp only [tkS, Act.put]
      iterate 2 (quiet_step (fail))
      iterate 11 (with_reducible refine quiet_pass (by kernel_rfl) ?_)
      simp only [tkS, Act.put]
      iterate 2 (quiet_step (fail))
      iterate 3 (with_reducible refine quiet_pass (by kernel_rfl) ?_)
      simp only [tkS, Act.put]
      iterate 2 (quiet_step (fail))
      iterate 3 (with_reducible refine quiet_pass (by kernel_rfl) ?_)
      simp only [tkS, Act.put]
      iterate 2 (quiet_step (fail))
      iterate 3 (with_reducible refine quiet_pass (by kernel_rfl) ?_)
      simp only [tkS, Act.put]
      iterate 2 (quiet_step (fail))
      iterate 3 (with_reducible refine quiet_pass (by kernel_rfl) ?_)
      simp only [tkS, Act.put]
      iterate 2 (quiet_step (fail))
      iterate 3 (with_reducible refine quiet_pass (by kernel_rfl) ?_)
      simp only [tkS, Act.put]
      iterate 2 (quiet_step (fail))
      iterate 5 (with_reducible refine quiet_pass (by kernel_rfl) ?_)
      simp only [tkS, Act.put]
      iterate 2 (quiet_step (fail))
      iterate 4 (with_reducible refine quiet_pass (by kernel_rfl) ?_)
      simp only [tkS, Act.put]
      iterate 2 (quiet_step (fail))
      iterate 4 (with_reducible refine quiet_pass (by kernel_rfl) ?_)
      simp only [tkS, Act.put]
      quiet_step (fail)
      refine wpQuiet_nil ?_
      rintro _ ⟨p, rfl⟩
      have hBp := HBP.out p
      go_wp2_with fail
      go_ret
      exact ⟨by rw [HE.out]; rfl, hBp⟩
    | false =>
      obtain ⟨b2, E2⟩ : ∃ b, Hid (decide (1000000000000 < s) = b) := ⟨_, rfl⟩
      have e2 := E2.out
      have f1 := (fun p => (HFP.out p).2.1)
      iterate 5 (quiet_step (fail))
      clear e2 f1 
      cases b2 with
      | true =>
        have HE : Hid (r = false) := NO.out (by unfold opS; rw [comes_3 (of_decide_eq_true E2.out), Bool.false_and])
        iterate 4 (with_reducible refine quiet_pass (by kernel_rfl) ?_)
        simp only [tkS, Act.put]
        iterate 2 (quiet_step (fail))
        iterate 11 (with_reducible refine quiet_pass (by kernel_rfl) ?_)
        simp only [tkS, Act.put]
        iterate 2 (quiet_step (fail))
        iterate 3 (with_reducible refine quiet_pass (by kernel_rfl) ?_)
        simp only [tkS, Act.put]
        iterate 2 (quiet_step (fail))
        iterate 3 (with_reducible refine quiet_pass (by kernel_rfl) ?_)
        simp only [tkS, Act.put]
        iterate 2 (quiet_step (fail))
        iterate 3 (with_reducible refine quiet_pass (by kernel_rfl) ?_)
        simp only [tkS, Act.put]
        iterate 2 (quiet_step (fail))
        iterate 3 (with_reducible refine quiet_pass (by kernel_rfl) ?_)
        simp only [tkS, Act.put]
        iterate 2 (quiet_step (fail))
        iterate 3 (with_reducible refine quiet_pass (by kernel_rfl) ?_)
        simp only [tkS, Act.put]
        iterate 2 (quiet_step (fail))
        iterate 5 (with_reducible refine quiet_pass (by kernel_rfl) ?_)
        simp only [tkS, Act.put]
        iterate 2 (quiet_step (fail))
        iterate 4 (with_reducible refine quiet_pass (by kernel_rfl) ?_)
        simp only [tkS, Act.put]
        iterate 2 (quiet_step (fail))
        iterate 4 (with_reducible refine quiet_pass (by kernel_rfl) ?_)
        simp only [tkS, Act.put]
        quiet_step (fail)
        refine wpQuiet_nil ?_
        rintro _ ⟨p, rfl⟩
        have hBp := HBP.out p
        go_wp2_with fail
        go_ret
        exact ⟨by rw [HE.out]; rfl, hBp⟩
      | false =>
        quiet_step (fail)
        refine quiet_load 25 _ w.heap.size 3 [.slice da dn dc] _ (fun w' ⟨p, hp⟩ => by rw [hp]; exact HLV.out p) Tryz.underlying25 rfl HIV.out ?_
        simp only [tkS, Act.put]
        quiet_step ((go_at_call 31; exact HV.out _))
        iterate 3 (quiet_step (fail))
        clear HV HLV HIV
        cases b3 with
        | false =>
          simp only [Bool.not_false]
          have HE : Hid (r = false) := NO.out (by unfold opS; rw [comes_4 E3.out, Bool.false_and])
          iterate 11 (with_reducible refine quiet_pass (by kernel_rfl) ?_)
          simp only [tkS, Act.put]
          iterate 2 (quiet_step (fail))
          iterate 3 (with_reducible refine quiet_pass (by kernel_rfl) ?_)
          simp only [tkS, Act.put]
          iterate 2 (quiet_step (fail))
          iterate 3 (with_reducible refine quiet_pass (by kernel_rfl) ?_)
          simp only [tkS, Act.put]
          iterate 2 (quiet_step (fail))
          iterate 3 (with_reducible refine quiet_pass (by kernel_rfl) ?_)
          simp only [tkS, Act.put]
          iterate 2 (quiet_step (fail))
          iterate 3 (with_reducible refine quiet_pass (by kernel_rfl) ?_)
          simp only [tkS, Act.put]
          iterate 2 (quiet_step (fail))
          iterate 3 (with_reducible refine quiet_pass (by kernel_rfl) ?_)
          simp only [tkS, Act.put]
          iterate 2 (quiet_step (fail))
          iterate 5 (with_reducible refine quiet_pass (by kernel_rfl) ?_)
          simp only [tkS, Act.put]
          iterate 2 (quiet_step (fail))
          iterate 4 (with_reducible refine quiet_pass (by kernel_rfl) ?_)
          simp only [tkS, Act.put]
          iterate 2 (quiet_step (fail))
          iterate 4 (with_reducible refine quiet_pass (by kernel_rfl) ?_)
          simp only [tkS, Act.put]
          quiet_step (fail)
          refine wpQuiet_nil ?_
          rintro _ ⟨p, rfl⟩
          have hBp := HBP.out p
          go_wp2_with fail
          go_ret
          exact ⟨by rw [HE.out]; rfl, hBp⟩
        | true =>
          simp only [Bool.not_true]
          have h1 := of_decide_eq_false E1.out
          have h2 := of_decide_eq_false E2.out
          obtain ⟨j, hj, hj16⟩ : ∃ j : Nat, a = (j : Int) ∧ j < 16 := by
            have h := E0.out
            unfold stOK at h
            simp at h
            exact ⟨a.toNat, by omega, by omega⟩
          subst hj
          have hl16 := vec_16 E3.out
          obtain ⟨g, off, hda, hdn, HN⟩ : ∃ g off, da = some ⟨g, off, none⟩ ∧ dn = 16 ∧ Hid (∀ p : KeptBy w2, p.W.cell? ⟨g, off + j, none⟩ = some (.int .i64 (ds.getD j 0))) := by
            obtain ⟨ao, cap, e, hcap, hmax, hnil, hrr⟩ := HRD.out
            simp only [Value.slice.injEq, List.length_map, hl16] at e
            rw [List.length_map] at hrr
            obtain ⟨g, off, ea, hg, hc⟩ := hrr (by omega)
            refine ⟨g, off, by rw [e.1, ea], e.2.1, fun p => ((HBP.out p).cell (p := ⟨g, off + j, none⟩) (by show g < w.heap.size; omega)).trans (hc j _ ?_)⟩
            rw [List.getElem?_map, List.getD_eq_getElem?_getD, List.getElem?_eq_getElem (by omega)]
            rfl
          subst hda hdn
          obtain ⟨dj, HDJ⟩ : ∃ dj, Hid (ds.getD j 0 = dj) := ⟨_, rfl⟩
          rw [HDJ.out] at HN
          have HC5 : Hid (comesOK j s t ds = decide (dj = s - 1)) := by
            unfold Hid
            rw [comes_5 E0.out (by omega) (by omega) E3.out, Int.toNat_natCast, HDJ.out]
          have HSW : Hid (IntKind.i64.wrap (s - 1) = s - 1) := by unfold Hid; rw [IntKind.wrap_i64]; omega
          have HJI : Hid ((j : Int) < 16) := by unfold Hid; omega
          clear h1 h2 hl16
          obtain ⟨b4, E4⟩ : ∃ b, Hid ((dj != s - 1) = b) := ⟨_, rfl⟩
          have e4 := E4.out
          have f0 := (fun p => (HFP.out p).1)
          have f1 := (fun p => (HFP.out p).2.1)
          have f3 := (fun p => (HFP.out p).2.2.2.1)
          have fn := HN.out
          have hsw := HSW.out
          have hji := HJI.out
          iterate 13 (quiet_step (fail))
          clear e4 f0 f1 f3 fn hsw hji
          cases b4 with
          | true =>
            have HE : Hid (r = false) := NO.out (by unfold opS; rw [HC5.out, decide_eq_false (by simpa using E4.out), Bool.false_and])
            iterate 3 (with_reducible refine quiet_pass (by kernel_rfl) ?_)
            simp only [tkS, Act.put]
            iterate 2 (quiet_step (fail))
            iterate 3 (with_reducible refine quiet_pass (by kernel_rfl) ?_)
            simp only [tkS, Act.put]
            iterate 2 (quiet_step (fail))
            iterate 3 (with_reducible refine quiet_pass (by kernel_rfl) ?_)
            simp only [tkS, Act.put]
            iterate 2 (quiet_step (fail))
            iterate 3 (with_reducible refine quiet_pass (by kernel_rfl) ?_)
            simp only [tkS, Act.put]
            iterate 2 (quiet_step (fail))
            iterate 3 (with_reducible refine quiet_pass (by kernel_rfl) ?_)
            simp only [tkS, Act.put]
            iterate 2 (quiet_step (fail))
            iterate 5 (with_reducible refine quiet_pass (by kernel_rfl) ?_)
            simp only [tkS, Act.put]
            iterate 2 (quiet_step (fail))
            iterate 4 (with_reducible refine quiet_pass (by kernel_rfl) ?_)
            simp only [tkS, Act.put]
            iterate 2 (quiet_step (fail))
            iterate 4 (with_reducible refine quiet_pass (by kernel_rfl) ?_)
            simp only [tkS, Act.put]
            quiet_step (fail)
            refine wpQuiet_nil ?_
            rintro _ ⟨p, rfl⟩
            have hBp := HBP.out p
            go_wp2_with fail
            go_ret
            exact ⟨by rw [HE.out]; rfl, hBp⟩
          | false =>
            obtain ⟨b5, E5⟩ : ∃ b, Hid (decide (o < 1) = b) := ⟨_, rfl⟩
            have e5 := E5.out
            have f5 := (fun p => (HFP.out p).2.2.2.2.2.1)
            iterate 5 (quiet_step (fail))
            clear e5 f5 
            cases b5 with
            | true =>
              have HE : Hid (r = false) := NO.out (by have h := of_decide_eq_true E5.out; unfold opS; simp [show ¬ 1 ≤ o by omega])
              iterate 3 (with_reducible refine quiet_pass (by kernel_rfl) ?_)
              simp only [tkS, Act.put]
              iterate 2 (quiet_step (fail))
              iterate 3 (with_reducible refine quiet_pass (by kernel_rfl) ?_)
              simp only [tkS, Act.put]
              iterate 2 (quiet_step (fail))
              iterate 3 (with_reducible refine quiet_pass (by kernel_rfl) ?_)
              simp only [tkS, Act.put]
              iterate 2 (quiet_step (fail))
              iterate 3 (with_reducible refine quiet_pass (by kernel_rfl) ?_)
              simp only [tkS, Act.put]
              iterate 2 (quiet_step (fail))
              iterate 5 (with_reducible refine quiet_pass (by kernel_rfl) ?_)
              simp only [tkS, Act.put]
              iterate 2 (quiet_step (fail))
              iterate 4 (with_reducible refine quiet_pass (by kernel_rfl) ?_)
              simp only [tkS, Act.put]
              iterate 2 (quiet_step (fail))
              iterate 4 (with_reducible refine quiet_pass (by kernel_rfl) ?_)
              simp only [tkS, Act.put]
              quiet_step (fail)
              refine wpQuiet_nil ?_
              rintro _ ⟨p, rfl⟩
              have hBp := HBP.out p
              go_wp2_with fail
              go_ret
              exact ⟨by rw [HE.out]; rfl, hBp⟩
            | false =>
              obtain ⟨b6, E6⟩ : ∃ b, Hid (decide (100 < o) = b) := ⟨_, rfl⟩
              have e6 := E6.out
              have f5 := (fun p => (HFP.out p).2.2.2.2.2.1)
              iterate 5 (quiet_step (fail))
              clear e6 f5 
              cases b6 with
              | true =>
                have HE : Hid (r = false) := NO.out (by have h := of_decide_eq_true E6.out; unfold opS; simp [show ¬ o ≤ 100 by omega])
                iterate 3 (with_reducible refine quiet_pass (by kernel_rfl) ?_)
                simp only [tkS, Act.put]
                iterate 2 (quiet_step (fail))
                iterate 3 (with_reducible refine quiet_pass (by kernel_rfl) ?_)
                simp only [tkS, Act.put]
                iterate 2 (quiet_step (fail))
                iterate 3 (with_reducible refine quiet_pass (by kernel_rfl) ?_)
                simp only [tkS, Act.put]
                iterate 2 (quiet_step (fail))
                iterate 5 (with_reducible refine quiet_pass (by kernel_rfl) ?_)
                simp only [tkS, Act.put]
                iterate 2 (quiet_step (fail))
                iterate 4 (with_reducible refine quiet_pass (by kernel_rfl) ?_)
                simp only [tkS, Act.put]
                iterate 2 (quiet_step (fail))
                iterate 4 (with_reducible refine quiet_pass (by kernel_rfl) ?_)
                simp only [tkS, Act.put]
                quiet_step (fail)
                refine wpQuiet_nil ?_
                rintro _ ⟨p, rfl⟩
                have hBp := HBP.out p
                go_wp2_with fail
                go_ret
                exact ⟨by rw [HE.out]; rfl, hBp⟩
              | false =>
                obtain ⟨b7, E7⟩ : ∃ b, Hid (decide (n < -1000000000000) = b) := ⟨_, rfl⟩
                have e7 := E7.out
                have f6 := (fun p => (HFP.out p).2.2.2.2.2.2.1)
                iterate 5 (quiet_step (fail))
                clear e7 f6 
                cases b7 with
                | true =>
                  have HE : Hid (r = false) := NO.out (by have h := of_decide_eq_true E7.out; unfold opS; simp [show ¬ -1000000000000 ≤ n by omega])
                  iterate 3 (with_reducible refine quiet_pass (by kernel_rfl) ?_)
                  simp only [tkS, Act.put]
                  iterate 2 (quiet_step (fail))
                  iterate 3 (with_reducible refine quiet_pass (by kernel_rfl) ?_)
                  simp only [tkS, Act.put]
                  iterate 2 (quiet_step (fail))
                  iterate 5 (with_reducible refine quiet_pass (by kernel_rfl) ?_)
                  simp only [tkS, Act.put]
                  iterate 2 (quiet_step (fail))
                  iterate 4 (with_reducible refine quiet_pass (by kernel_rfl) ?_)
                  simp only [tkS, Act.put]
                  iterate 2 (quiet_step (fail))
                  iterate 4 (with_reducible refine quiet_pass (by kernel_rfl) ?_)
                  simp only [tkS, Act.put]
                  quiet_step (fail)
                  refine wpQuiet_nil ?_
                  rintro _ ⟨p, rfl⟩
                  have hBp := HBP.out p
                  go_wp2_with fail
                  go_ret
                  exact ⟨by rw [HE.out]; rfl, hBp⟩
                | false =>
                  obtain ⟨b8, E8⟩ : ∃ b, Hid (decide (1000000000000 < n) = b) := ⟨_, rfl⟩
                  have e8 := E8.out
                  have f6 := (fun p => (HFP.out p).2.2.2.2.2.2.1)
                  iterate 5 (quiet_step (fail))
                  clear e8 f6 
                  cases b8 with
                  | true =>
                    have HE : Hid (r = false) := NO.out (by have h := of_decide_eq_true E8.out; unfold opS; simp [show ¬ n ≤ 1000000000000 by omega])
                    iterate 3 (with_reducible refine quiet_pass (by kernel_rfl) ?_)
                    simp only [tkS, Act.put]
                    iterate 2 (quiet_step (fail))
                    iterate 5 (with_reducible refine quiet_pass (by kernel_rfl) ?_)
                    simp only [tkS, Act.put]
                    iterate 2 (quiet_step (fail))
                    iterate 4 (with_reducible refine quiet_pass (by kernel_rfl) ?_)
                    simp only [tkS, Act.put]
                    iterate 2 (quiet_step (fail))
                    iterate 4 (with_reducible refine quiet_pass (by kernel_rfl) ?_)
                    simp only [tkS, Act.put]
                    quiet_step (fail)
                    refine wpQuiet_nil ?_
                    rintro _ ⟨p, rfl⟩
                    have hBp := HBP.out p
                    go_wp2_with fail
                    go_ret
                    exact ⟨by rw [HE.out]; rfl, hBp⟩
                  | false =>
                    obtain ⟨b9, E9⟩ : ∃ b, Hid (decide (u < 0) = b) := ⟨_, rfl⟩
                    have e9 := E9.out
                    have f7 := (fun p => (HFP.out p).2.2.2.2.2.2.2.1)
                    iterate 5 (quiet_step (fail))
                    clear e9 f7 
                    cases b9 with
                    | true =>
                      have HE : Hid (r = false) := NO.out (by have h := of_decide_eq_true E9.out; unfold opS; simp [show ¬ 0 ≤ u by omega])
                      iterate 5 (with_reducible refine quiet_pass (by kernel_rfl) ?_)
                      simp only [tkS, Act.put]
                      iterate 2 (quiet_step (fail))
                      iterate 4 (with_reducible refine quiet_pass (by kernel_rfl) ?_)
                      simp only [tkS, Act.put]
                      iterate 2 (quiet_step (fail))
                      iterate 4 (with_reducible refine quiet_pass (by kernel_rfl) ?_)
                      simp only [tkS, Act.put]
                      quiet_step (fail)
                      refine wpQuiet_nil ?_
                      rintro _ ⟨p, rfl⟩
                      have hBp := HBP.out p
                      go_wp2_with fail
                      go_ret
                      exact ⟨by rw [HE.out]; rfl, hBp⟩
                    | false =>
                      obtain ⟨b10, E10⟩ : ∃ b, Hid (decide (s ≤ u) = b) := ⟨_, rfl⟩
                      have e10 := E10.out
                      have f1 := (fun p => (HFP.out p).2.1)
                      have f7 := (fun p => (HFP.out p).2.2.2.2.2.2.2.1)
                      iterate 7 (quiet_step (fail))
                      clear e10 f1 f7 
                      cases b10 with
                      | true =>
                        have HE : Hid (r = false) := NO.out (by have h := of_decide_eq_true E10.out; unfold opS; simp [show ¬ u < s by omega])
                        iterate 4 (with_reducible refine quiet_pass (by kernel_rfl) ?_)
                        simp only [tkS, Act.put]
                        iterate 2 (quiet_step (fail))
                        iterate 4 (with_reducible refine quiet_pass (by kernel_rfl) ?_)
                        simp only [tkS, Act.put]
                        quiet_step (fail)
                        refine wpQuiet_nil ?_
                        rintro _ ⟨p, rfl⟩
                        have hBp := HBP.out p
                        go_wp2_with fail
                        go_ret
                        exact ⟨by rw [HE.out]; rfl, hBp⟩
                      | false =>
                        obtain ⟨b11, E11⟩ : ∃ b, Hid (decide (200 < (ky.size : Int)) = b) := ⟨_, rfl⟩
                        have e11 := E11.out
                        have f10 := (fun p => (HFP.out p).2.2.2.2.2.2.2.2.2.2.1)
                        iterate 6 (quiet_step (fail))
                        clear e11 f10 
                        cases b11 with
                        | true =>
                          have HE : Hid (r = false) := NO.out (by have h := of_decide_eq_true E11.out; unfold opS; simp [show ¬ ky.size ≤ 200 by omega])
                          iterate 4 (with_reducible refine quiet_pass (by kernel_rfl) ?_)
                          simp only [tkS, Act.put]
                          quiet_step (fail)
                          refine wpQuiet_nil ?_
                          rintro _ ⟨p, rfl⟩
                          have hBp := HBP.out p
                          go_wp2_with fail
                          go_ret
                          exact ⟨by rw [HE.out]; rfl, hBp⟩
                        | false =>
                          obtain ⟨b12, E12⟩ : ∃ b, Hid (decide (200 < (tx.size : Int)) = b) := ⟨_, rfl⟩
                          have e12 := E12.out
                          have f11 := (fun p => (HFP.out p).2.2.2.2.2.2.2.2.2.2.2.1)
                          iterate 5 (quiet_step (fail))
                          clear e12 f11 
                          cases b12 with
                          | true =>
                            have HE : Hid (r = false) := NO.out (by have h := of_decide_eq_true E12.out; unfold opS; simp [show ¬ tx.size ≤ 200 by omega])
                            refine wpQuiet_nil ?_
                            rintro _ ⟨p, rfl⟩
                            have hBp := HBP.out p
                            go_wp2_with fail
                            go_ret
                            exact ⟨by rw [HE.out]; rfl, hBp⟩
                          | false =>
                            refine wpQuiet_nil ?_
                            rintro _ ⟨p, rfl⟩
                            have hB := p.kept
                            have hE : r = ((decide (pt = 0 ∧ pa = 0) || (stOK pt pa && lessS pt pa t j)) && (if k = 1 then decide (n = 0) && decide (pt = 0 ∧ pa = 0) else if k = 2 then (decide (ky.toList = []) && decide (tx.toList = [])) && chOK n else if k = 3 then (decide (ky.toList = []) && decide (tx.toList = [])) && (decide (n = 0) && !decide (pt = 0 ∧ pa = 0)) else if k = 4 then (decide (ky.toList = []) && decide (tx.toList = [])) && decide (pt = 0 ∧ pa = 0) else false)) := by
                              have h4 : dj = s - 1 := by simpa using E4.out
                              have h5 := of_decide_eq_false E5.out
                              have h6 := of_decide_eq_false E6.out
                              have h7 := of_decide_eq_false E7.out
                              have h8 := of_decide_eq_false E8.out
                              have h9 := of_decide_eq_false E9.out
                              have h10 := of_decide_eq_false E10.out
                              have h11 := of_decide_eq_false E11.out
                              have h12 := of_decide_eq_false E12.out
                              rw [← HR.out]
                              unfold opS
                              rw [HC5.out, decide_eq_true h4, decide_eq_true (by omega : 1 ≤ o), decide_eq_true (by omega : o ≤ 100), decide_eq_true (by omega : -1000000000000 ≤ n), decide_eq_true (by omega : n ≤ 1000000000000), decide_eq_true (by omega : 0 ≤ u), decide_eq_true (by omega : u < s), decide_eq_true (by omega : ky.size ≤ 200), decide_eq_true (by omega : tx.size ≤ 200)]
                              simp only [Bool.true_and]
                            have hZn := fun w => noneO_any pt pa w
                            clear HFP HBP NO HR E0 E1 E2 E3 E4 E5 E6 E7 E8 E9 E10 E11 E12 HC5 HSW HJI HN HDJ HV0 HRD hne
                            generalize p.W = w3 at *
                            obtain ⟨q0, q1, q2, q3, q4, q5, q6, q7, q8, q9, q10, q11, z0, z1, -⟩ := HF.out _ hB
                            obtain ⟨bz, HBZ⟩ : ∃ b, Hid (decide (pt = 0 ∧ pa = 0) = b) := ⟨_, rfl⟩
                            rw [HBZ.out] at hE hZn
                            cases bz
                            all_goals
                              clear HBZ
                              go_wp2_with (first | (go_at_call 32; refine (hZn _).mono ?_; clear q0 q1 q2 q3 q4 q5 q6 q7 q8 q9 q10 q11 z0 z1; rintro e wn ⟨rfl, hbn⟩; replace hB := below_seq hB hbn; clear hbn; obtain ⟨q0, q1, q2, q3, q4, q5, q6, q7, q8, q9, q10, q11, z0, z1, -⟩ := HF.out _ hB) | (go_at_call 30; refine (hP _).mono ?_; clear q0 q1 q2 q3 q4 q5 q6 q7 q8 q9 q10 q11 z0 z1; rintro e wn ⟨rfl, hbn⟩; replace hB := below_seq hB hbn; clear hbn; obtain ⟨q0, q1, q2, q3, q4, q5, q6, q7, q8, q9, q10, q11, z0, z1, -⟩ := HF.out _ hB) | (go_at_call 33; refine (hL _).mono ?_; clear q0 q1 q2 q3 q4 q5 q6 q7 q8 q9 q10 q11 z0 z1; rintro e wn ⟨rfl, hbn⟩; replace hB := below_seq hB hbn; clear hbn; obtain ⟨q0, q1, q2, q3, q4, q5, q6, q7, q8, q9, q10, q11, z0, z1, -⟩ := HF.out _ hB) | (go_at_call 34; refine (hch _).mono ?_; rintro e wn ⟨rfl, hw⟩; obtain rfl := hw.symm))
                              all_goals go_ret
                              all_goals refine ⟨?_, below_seq HB0.out hB⟩
                              all_goals rw [hE]
                              all_goals clear hB HF hE q0 q1 q2 q3 q4 q5 q6 q7 q8 q9 q10 q11 z0 z1 hP hL hch hZn
                              all_goals first | (simp_all; done) | (simp_all; rw [Bool.eq_iff_iff]; simp) | (simp_all; rw [Bool.eq_iff_iff]; simp; omega)
end Go.Proofs.YtmmkmkaannlkhaaGreatDoor
