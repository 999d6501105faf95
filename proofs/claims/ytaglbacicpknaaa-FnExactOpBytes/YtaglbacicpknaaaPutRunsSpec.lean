/- What l01RunsOK, l01Signed, l01PutRuns and the specification's PutRuns do. -/
import Derived.Test.YtaglbacicpknaaaNums
import Derived.Test.YtaglbacicpknaaaRunsBase
import Derived.Deep.RegionHeld2
namespace Go.Proofs.Ytaglbacicpknaaa
open Go.RowKit
set_option linter.unusedVariables false

set_option maxHeartbeats 400000 in
theorem l01Signed_any (d : Int) (w : World) (h0 : -1152921504606846975 ≤ d) (h1 : d ≤ 1152921504606846975) :
    Calls Try.prog 47 #[.int .i64 d] w fun e w' => ∃ r, e = .returned r ∧ Own 5 w' w.heap.size r ((enc (foldS d)).map (Value.int .u8)) ∧ Below w.heap.size w w' := by
  by_cases hd : d < 0
  · have e : foldS d = (-2 * d - 1).toNat := by unfold foldS; rw [if_pos hd]
    rw [e]
    clear e
    go_enter Try.func47, Try.ntmps47
    go_wp2_with fail
    rw [show (-2 * d - 1) = (((-2 * d - 1).toNat : Nat) : Int) by omega]
    refine (l01Put_any _ (-2 * d - 1).toNat w (Nat.le_refl _) (by omega)).mono ?_
    rintro e w1 ⟨r, rfl, ho, hb⟩
    go_wp2_with fail
    go_ret
    exact ⟨_, rfl, ho, hb⟩
  · have e : foldS d = (2 * d).toNat := by unfold foldS; rw [if_neg hd]
    rw [e]
    clear e
    go_enter Try.func47, Try.ntmps47
    go_wp2_with fail
    rw [show (2 * d) = (((2 * d).toNat : Nat) : Int) by omega]
    refine (l01Put_any _ (2 * d).toNat w (Nat.le_refl _) (by omega)).mono ?_
    rintro e w1 ⟨r, rfl, ho, hb⟩
    go_wp2_with fail
    go_ret
    exact ⟨_, rfl, ho, hb⟩

set_option maxHeartbeats 4000000 in
set_option maxRecDepth 100000 in
theorem l01PutRuns_any (C : Nat) (w : World) (v : Value) (ls : List Int) (hl : ls.length ≤ 4096) (hok : runsOK ls = true) (hC : C ≤ w.heap.size) (hr : Rd C w v (ls.map (Value.int .i64))) :
    Calls Try.prog 31 #[v] w fun e w' => ∃ r, e = .returned r ∧ Own 5 w' w.heap.size r ((putR ls).map (Value.int .u8)) ∧ Below w.heap.size w w' := by
  obtain ⟨i0, hi, hz0, hz1, hz2⟩ := info_parts info5
  have hlen := putR_len hok hl
  obtain ⟨ao, cap, rfl, _, _, _, hr⟩ := hr
  rw [List.length_map] at hr ⊢
  go_enter Try.func31, Try.ntmps31
  go_wp2_with fail
  refine (l01Put_any ls.length ls.length w (Nat.le_refl _) (by omega)).mono ?_
  rintro e w0 ⟨r0, rfl, ho0, hb0⟩
  go_wp2_with fail
  go_loopw [3, 4, 5] (fun to ti tk wr => ∃ (i f : Nat) (X : List Int), i ≤ ls.length ∧ ti = .int .i64 i ∧ ls.length - i ≤ f ∧ Own 5 wr w.heap.size to (X.map (Value.int .u8)) ∧ Hid (X ++ putRF ls f i = putR ls) ∧ Below w.heap.size w wr) (fun _ ti _ _ => ls.length - (intOf ti).toNat)
  case atStart => exact ⟨0, ls.length, enc ls.length, Nat.zero_le _, rfl, by omega, ho0, rfl, hb0⟩
  case round =>
    clear ho0 hb0
    obtain ⟨i, f, X, hii, rfl, hf, how, HX, hbel⟩ := hrel
    have hXl : X.length ≤ 122890 := by have := congrArg List.length HX.out; simp only [List.length_append] at this; omega
    have hsz := hbel.size
    by_cases hi0 : i < ls.length
    · obtain ⟨g, off, rfl, hg, hc⟩ := hr (by omega)
      have hcell : ∀ j, j < ls.length → ∀ w' : World, Below w.heap.size w w' → w'.cell? ⟨g, off + j, none⟩ = some (.int .i64 (nth ls j)) := fun j hj w' hb => (hb.cell (p := ⟨g, off + j, none⟩) (by show g < _; omega)).trans (hc j _ (by simp [nth, hj]))
      have HCELL : Hid _ := hcell
      clear hc hr hcell hlen
      go_wp2_with fail
      go_loopw [5] (fun tk wq => ∃ (k f nn : Nat), i + 1 ≤ k ∧ k ≤ ls.length ∧ tk = .int .i64 k ∧ wq = wr.drewN nn ∧ ls.length - k ≤ f ∧ Hid (runEnd ls i = k + extF ls i f k)) (fun tk _ => ls.length - (intOf tk).toNat)
      case atStart => exact ⟨i + 1, ls.length, 0, Nat.le_refl _, hi0, by go_num, rfl, by omega, rfl⟩
      case round =>
        obtain ⟨k, fk, nn, hk1, hk2, rfl, rfl, hfk, HE0⟩ := hrel
        have hbq0 : Below w.heap.size w (wr.drewN nn) := below_drewN hbel nn
        by_cases hgo : goesOn ls i k = true
        · have hkl := goesOn_lt hgo
          obtain ⟨f', hf', hE'⟩ := ext_step hgo hfk HE0.out
          have HE' : Hid _ := hE'
          clear hE' HE0
          have hI : (k : Int) < (ls.length : Int) := by omega
          by_cases hk : k = i + 1
          · have hkb : ((k : Int) == (i : Int) + 1) = true := by rw [beq_iff_eq]; omega
            have HK : Hid _ := hk
            clear hk hgo
            go_wp2_with fail
            go_quiet (fail)
            go_wp2_with fail
            go_roundw
            case rel => exact ⟨k + 1, f', nn + nq, by omega, by omega, by go_num, by simp, hf', HE'⟩
            case measure => simp [intOf]; omega
          · obtain ⟨j, rfl⟩ : ∃ j, k = j + 1 := ⟨k - 1, by omega⟩
            have hd : (nth ls (j + 1) - nth ls j == nth ls (i + 1) - nth ls i) = true := by
              simp [goesOn] at hgo
              rw [beq_iff_eq]
              omega
            have hkb : ((j : Int) + 1 == (i : Int) + 1) = false := by rw [beq_eq_false_iff_ne]; omega
            have hkb2 : ((j : Int) == (i : Int)) = false := by rw [beq_eq_false_iff_ne]; omega
            have q0 := runsOK_nth hok i
            have q1 := runsOK_nth hok (i + 1)
            have q2 := runsOK_nth hok j
            have q3 := runsOK_nth hok (j + 1)
            have cA := HCELL.out (j + 1) hkl _ hbel
            have cB := HCELL.out j (by omega) _ hbel
            have cC := HCELL.out (i + 1) (by omega) _ hbel
            have cD := HCELL.out i hi0 _ hbel
            have hjI : (0 : Int) ≤ (j : Int) ∧ (j : Int) < (ls.length : Int) := by omega
            have hiI : (i : Int) + 1 < (ls.length : Int) := by omega
            have hiI0 : (i : Int) < (ls.length : Int) := by omega
            have hI' : (j : Int) + 1 < (ls.length : Int) := by omega
            clear hgo hk hI
            go_wp2_with fail
            go_quiet (fail)
            go_wp2_with fail
            go_roundw
            case rel => exact ⟨j + 1 + 1, f', nn + nq, by omega, by omega, by go_num, by simp, hf', HE'⟩
            case measure => simp [intOf]; omega
        · have hgo' : goesOn ls i k = false := by cases h : goesOn ls i k <;> simp_all
          have HE : Hid (runEnd ls i = k) := ext_stop hgo' HE0.out
          clear HE0
          by_cases hkl : k < ls.length
          · have hk : k ≠ i + 1 := by
              intro e
              apply hgo
              simp [goesOn, e]
              omega
            obtain ⟨j, rfl⟩ : ∃ j, k = j + 1 := ⟨k - 1, by omega⟩
            have hd : (nth ls (j + 1) - nth ls j == nth ls (i + 1) - nth ls i) = false := by
              rw [beq_eq_false_iff_ne]
              intro e
              apply hgo
              simp [goesOn, hkl, e]
            have hkb : ((j : Int) + 1 == (i : Int) + 1) = false := by rw [beq_eq_false_iff_ne]; omega
            have hkb2 : ((j : Int) == (i : Int)) = false := by rw [beq_eq_false_iff_ne]; omega
            have q0 := runsOK_nth hok i
            have q1 := runsOK_nth hok (i + 1)
            have q2 := runsOK_nth hok j
            have q3 := runsOK_nth hok (j + 1)
            have cA := HCELL.out (j + 1) hkl _ hbel
            have cB := HCELL.out j (by omega) _ hbel
            have cC := HCELL.out (i + 1) (by omega) _ hbel
            have cD := HCELL.out i hi0 _ hbel
            have hjI : (0 : Int) ≤ (j : Int) ∧ (j : Int) < (ls.length : Int) := by omega
            have hiI : (i : Int) + 1 < (ls.length : Int) := by omega
            have hiI0 : (i : Int) < (ls.length : Int) := by omega
            have hI' : (j : Int) + 1 < (ls.length : Int) := by omega
            clear hgo hgo'
            go_wp2_with fail
            go_quiet (fail)
            clear cA cB cC cD hd hkb hkb2 q2 q3
            clear hjI hI' hiI hiI0 q0 q1
            generalize hkj : j + 1 = k at *
            clear hkj hk
            have HP : Hid (runPiece ls i k = enc (nth ls i).toNat ++ enc (k - i) ++ (if 1 < k - i then enc (foldS (nth ls (i + 1) - nth ls i)) else [])) := rfl
            obtain ⟨f2, hf2, hX2⟩ := putR_step hi0 hf HX.out
            rw [HE.out] at hX2 hf2
            have HX2 : Hid _ := hX2
            clear hX2 HX HE
            have hq0 := runsOK_nth hok i
            have hq1 := runsOK_nth hok (i + 1)
            have e1 := enc_len (n := (nth ls i).toNat) (by omega)
            have e2 := enc_len (n := k - i) (by omega)
            have hfs := foldS_le (d := nth ls (i + 1) - nth ls i) (by omega) (by omega)
            have e3 := enc_len (n := foldS (nth ls (i + 1) - nth ls i)) (by omega)
            have hbq : Below w.heap.size w (wr.drewN (nn + nq)) := below_drewN hbel (nn + nq)
            have cq := HCELL.out i hi0 _ hbq
            have howq : Own 5 (wr.drewN (nn + nq)) w.heap.size u3 (X.map (Value.int .u8)) := how
            clear how
            go_wp2_with fail
            rw [show nth ls i = (((nth ls i).toNat : Nat) : Int) by omega]
            refine (l01Put_any (nth ls i).toNat (nth ls i).toNat _ (Nat.le_refl _) (by omega)).mono ?_
            rw [show (((nth ls i).toNat : Nat) : Int) = nth ls i by omega]
            rintro e w2 ⟨r2, rfl, ho2, hb2⟩
            have hout2 : Own 5 w2 w.heap.size u3 _ := howq.below hb2 (Nat.le_refl _)
            have hbel2 : Below w.heap.size w w2 := hbq.trans (hb2.mono hsz)
            have hsz2 := hbel2.size
            clear howq cq
            go_wp2_with (at_builtin; refine wpList_append_rd rfl (.tmp 50) (.tmp 55) 30 rfl w.heap.size 5 i0 (.int .u8 0) 1 Try.underlying30 hi hz0 hz1 hz2 rfl _ _ rfl hout2 _ _ ((enc (nth ls i).toNat).map (Value.int .u8)) rfl ho2.rd (ints_oneCell _ _) (by simp [maxLen]; omega) (by simp; omega) (by omega) ?_)
            intro v3 w3 ho3 hg3
            have hbel3 : Below w.heap.size w w3 := hbel2.grown hg3 hsz2 hout2.lt
            have hsz3 := hbel3.size
            clear hg3 hout2
            go_wp2_with fail
            rw [show ((k : Int) - (i : Int)) = ((k - i : Nat) : Int) by omega]
            refine (l01Put_any (k - i) (k - i) w3 (Nat.le_refl _) (by omega)).mono ?_
            rintro e w4 ⟨r4, rfl, ho4, hb4⟩
            have hout4 : Own 5 w4 w.heap.size v3 _ := ho3.below hb4 (Nat.le_refl _)
            have hbel4 : Below w.heap.size w w4 := hbel3.trans (hb4.mono hsz3)
            have hsz4 := hbel4.size
            clear ho3
            go_wp2_with (at_builtin; refine wpList_append_rd rfl (.tmp 57) (.tmp 61) 30 rfl w.heap.size 5 i0 (.int .u8 0) 1 Try.underlying30 hi hz0 hz1 hz2 rfl _ _ rfl hout4 _ _ ((enc (k - i)).map (Value.int .u8)) rfl ho4.rd (ints_oneCell _ _) (by simp [maxLen]; omega) (by simp; omega) (by omega) ?_)
            intro v5 w5 ho5 hg5
            have hbel5 : Below w.heap.size w w5 := hbel4.grown hg5 hsz4 hout4.lt
            have hsz5 := hbel5.size
            clear hg5 hout4
            by_cases h1k : 1 < k - i
            · have hI1 : (1 : Int) < (k : Int) - (i : Int) := by omega
              have cA := HCELL.out (i + 1) (by omega) _ hbel5
              have cB := HCELL.out i hi0 _ hbel5
              have hw1 : IntKind.i64.wrap ((i : Int) + 1) = (i : Int) + 1 := by rw [IntKind.wrap_i64]; omega
              have hw2 : IntKind.i64.wrap (nth ls (i + 1) - nth ls i) = nth ls (i + 1) - nth ls i := by rw [IntKind.wrap_i64]; omega
              have hiA : (0 : Int) ≤ (i : Int) + 1 ∧ (i : Int) + 1 < (ls.length : Int) := by omega
              have hiB : (0 : Int) ≤ (i : Int) ∧ (i : Int) < (ls.length : Int) := by omega
              go_wp2_with fail
              go_region_held2 (fun w' => w'.cell? ⟨g, off + (i + 1), none⟩ = some (.int .i64 (nth ls (i + 1))) ∧ w'.cell? ⟨g, off + i, none⟩ = some (.int .i64 (nth ls i))) (first | go_keep | exact ⟨HCELL.out (i + 1) (by omega) _ hbel7, HCELL.out i hi0 _ hbel7⟩ | exact ⟨HCELL.out (i + 1) (by omega) _ hbel6, HCELL.out i hi0 _ hbel6⟩) (first | (go_at_call 47; refine (l01Signed_any _ _ (by omega) (by omega)).mono ?_; rintro e w6 ⟨r6, rfl, ho6, hb6⟩; have hout6 := (show Own 5 w5.drew w.heap.size v5 _ from ho5).below hb6 (Nat.le_refl _); have hbel6 : Below w.heap.size w w6 := (hbel5.drew).trans (hb6.mono hsz5); have hsz6 := hbel6.size) | (refine step_append_rd rfl (.tmp 67) (.tmp 78) 30 rfl w.heap.size 5 i0 (.int .u8 0) 1 Try.underlying30 hi hz0 hz1 hz2 rfl _ _ rfl hout6 _ _ ((enc (foldS (nth ls (i + 1) - nth ls i))).map (Value.int .u8)) rfl ho6.rd (by simpa using enc_pos _) (ints_oneCell _ _) (by simp [maxLen]; omega) (by simp; omega) (by omega) ?_; intro v7 w7 ho7 hg7; have hbel7 : Below w.heap.size w w7 := hbel6.grown hg7 hsz6 hout6.lt))
              have hfin : Own 5 w7 w.heap.size v7 ((X ++ runPiece ls i k).map (Value.int .u8)) := by
                rw [HP.out, if_pos h1k]
                simpa using ho7
              clear ho7 hg7 ho5
              go_wp2_with fail
              go_roundw
              case rel => exact ⟨k, f2, X ++ runPiece ls i k, hk2, rfl, hf2, hfin, HX2, hbel7⟩
              case measure => simp [intOf]; omega
            · have hI1 : ¬ (1 : Int) < (k : Int) - (i : Int) := by omega
              have hfin : Own 5 w5 w.heap.size v5 ((X ++ runPiece ls i k).map (Value.int .u8)) := by
                rw [HP.out, if_neg h1k]
                simpa using ho5
              clear ho5
              go_wp2_with fail
              go_roundw
              case rel => exact ⟨k, f2, X ++ runPiece ls i k, hk2, rfl, hf2, hfin, HX2, hbel5⟩
              case measure => simp [intOf]; omega
          · have hI : decide ((k : Int) < (ls.length : Int)) = false := by simp; omega
            clear hgo hgo'
            go_wp2_with fail
            go_quiet (fail)
            have HP : Hid (runPiece ls i k = enc (nth ls i).toNat ++ enc (k - i) ++ (if 1 < k - i then enc (foldS (nth ls (i + 1) - nth ls i)) else [])) := rfl
            obtain ⟨f2, hf2, hX2⟩ := putR_step hi0 hf HX.out
            rw [HE.out] at hX2 hf2
            have HX2 : Hid _ := hX2
            clear hX2 HX HE
            have hq0 := runsOK_nth hok i
            have hq1 := runsOK_nth hok (i + 1)
            have e1 := enc_len (n := (nth ls i).toNat) (by omega)
            have e2 := enc_len (n := k - i) (by omega)
            have hfs := foldS_le (d := nth ls (i + 1) - nth ls i) (by omega) (by omega)
            have e3 := enc_len (n := foldS (nth ls (i + 1) - nth ls i)) (by omega)
            have hbq : Below w.heap.size w (wr.drewN (nn + nq)) := below_drewN hbel (nn + nq)
            have cq := HCELL.out i hi0 _ hbq
            have howq : Own 5 (wr.drewN (nn + nq)) w.heap.size u3 (X.map (Value.int .u8)) := how
            clear how
            go_wp2_with fail
            rw [show nth ls i = (((nth ls i).toNat : Nat) : Int) by omega]
            refine (l01Put_any (nth ls i).toNat (nth ls i).toNat _ (Nat.le_refl _) (by omega)).mono ?_
            rw [show (((nth ls i).toNat : Nat) : Int) = nth ls i by omega]
            rintro e w2 ⟨r2, rfl, ho2, hb2⟩
            have hout2 : Own 5 w2 w.heap.size u3 _ := howq.below hb2 (Nat.le_refl _)
            have hbel2 : Below w.heap.size w w2 := hbq.trans (hb2.mono hsz)
            have hsz2 := hbel2.size
            clear howq cq
            go_wp2_with (at_builtin; refine wpList_append_rd rfl (.tmp 50) (.tmp 55) 30 rfl w.heap.size 5 i0 (.int .u8 0) 1 Try.underlying30 hi hz0 hz1 hz2 rfl _ _ rfl hout2 _ _ ((enc (nth ls i).toNat).map (Value.int .u8)) rfl ho2.rd (ints_oneCell _ _) (by simp [maxLen]; omega) (by simp; omega) (by omega) ?_)
            intro v3 w3 ho3 hg3
            have hbel3 : Below w.heap.size w w3 := hbel2.grown hg3 hsz2 hout2.lt
            have hsz3 := hbel3.size
            clear hg3 hout2
            go_wp2_with fail
            rw [show ((k : Int) - (i : Int)) = ((k - i : Nat) : Int) by omega]
            refine (l01Put_any (k - i) (k - i) w3 (Nat.le_refl _) (by omega)).mono ?_
            rintro e w4 ⟨r4, rfl, ho4, hb4⟩
            have hout4 : Own 5 w4 w.heap.size v3 _ := ho3.below hb4 (Nat.le_refl _)
            have hbel4 : Below w.heap.size w w4 := hbel3.trans (hb4.mono hsz3)
            have hsz4 := hbel4.size
            clear ho3
            go_wp2_with (at_builtin; refine wpList_append_rd rfl (.tmp 57) (.tmp 61) 30 rfl w.heap.size 5 i0 (.int .u8 0) 1 Try.underlying30 hi hz0 hz1 hz2 rfl _ _ rfl hout4 _ _ ((enc (k - i)).map (Value.int .u8)) rfl ho4.rd (ints_oneCell _ _) (by simp [maxLen]; omega) (by simp; omega) (by omega) ?_)
            intro v5 w5 ho5 hg5
            have hbel5 : Below w.heap.size w w5 := hbel4.grown hg5 hsz4 hout4.lt
            have hsz5 := hbel5.size
            clear hg5 hout4
            by_cases h1k : 1 < k - i
            · have hI1 : (1 : Int) < (k : Int) - (i : Int) := by omega
              have cA := HCELL.out (i + 1) (by omega) _ hbel5
              have cB := HCELL.out i hi0 _ hbel5
              have hw1 : IntKind.i64.wrap ((i : Int) + 1) = (i : Int) + 1 := by rw [IntKind.wrap_i64]; omega
              have hw2 : IntKind.i64.wrap (nth ls (i + 1) - nth ls i) = nth ls (i + 1) - nth ls i := by rw [IntKind.wrap_i64]; omega
              have hiA : (0 : Int) ≤ (i : Int) + 1 ∧ (i : Int) + 1 < (ls.length : Int) := by omega
              have hiB : (0 : Int) ≤ (i : Int) ∧ (i : Int) < (ls.length : Int) := by omega
              go_wp2_with fail
              go_region_held2 (fun w' => w'.cell? ⟨g, off + (i + 1), none⟩ = some (.int .i64 (nth ls (i + 1))) ∧ w'.cell? ⟨g, off + i, none⟩ = some (.int .i64 (nth ls i))) (first | go_keep | exact ⟨HCELL.out (i + 1) (by omega) _ hbel7, HCELL.out i hi0 _ hbel7⟩ | exact ⟨HCELL.out (i + 1) (by omega) _ hbel6, HCELL.out i hi0 _ hbel6⟩) (first | (go_at_call 47; refine (l01Signed_any _ _ (by omega) (by omega)).mono ?_; rintro e w6 ⟨r6, rfl, ho6, hb6⟩; have hout6 := (show Own 5 w5.drew w.heap.size v5 _ from ho5).below hb6 (Nat.le_refl _); have hbel6 : Below w.heap.size w w6 := (hbel5.drew).trans (hb6.mono hsz5); have hsz6 := hbel6.size) | (refine step_append_rd rfl (.tmp 67) (.tmp 78) 30 rfl w.heap.size 5 i0 (.int .u8 0) 1 Try.underlying30 hi hz0 hz1 hz2 rfl _ _ rfl hout6 _ _ ((enc (foldS (nth ls (i + 1) - nth ls i))).map (Value.int .u8)) rfl ho6.rd (by simpa using enc_pos _) (ints_oneCell _ _) (by simp [maxLen]; omega) (by simp; omega) (by omega) ?_; intro v7 w7 ho7 hg7; have hbel7 : Below w.heap.size w w7 := hbel6.grown hg7 hsz6 hout6.lt))
              have hfin : Own 5 w7 w.heap.size v7 ((X ++ runPiece ls i k).map (Value.int .u8)) := by
                rw [HP.out, if_pos h1k]
                simpa using ho7
              clear ho7 hg7 ho5
              go_wp2_with fail
              go_roundw
              case rel => exact ⟨k, f2, X ++ runPiece ls i k, hk2, rfl, hf2, hfin, HX2, hbel7⟩
              case measure => simp [intOf]; omega
            · have hI1 : ¬ (1 : Int) < (k : Int) - (i : Int) := by omega
              have hfin : Own 5 w5 w.heap.size v5 ((X ++ runPiece ls i k).map (Value.int .u8)) := by
                rw [HP.out, if_neg h1k]
                simpa using ho5
              clear ho5
              go_wp2_with fail
              go_roundw
              case rel => exact ⟨k, f2, X ++ runPiece ls i k, hk2, rfl, hf2, hfin, HX2, hbel5⟩
              case measure => simp [intOf]; omega
    · have HX2 : Hid _ := putR_stop (by omega) HX.out
      clear hr hlen
      go_wp2_with fail
      go_ret
      exact ⟨_, rfl, by rw [← HX2.out]; exact how, hbel⟩

end Go.Proofs.Ytaglbacicpknaaa
