/- What appendRun and the code's PutRuns do. -/
import Derived.Test.YtaglbacicpknaaaPutRunsImpl
namespace Go.Proofs.Ytaglbacicpknaaa
open Go.RowKit
set_option linter.unusedVariables false

set_option maxHeartbeats 1000000 in
set_option maxRecDepth 100000 in
theorem appendRun_any (B C : Nat) (w : World) (v vr : Value) (X rs : List Int) (hp : 0 < rs.length) (hl : rs.length ≤ 4096) (hok : runsOK rs = true) (hX : X.length ≤ 200000) (hC : C ≤ B) (hB : B ≤ w.heap.size) (ho : Own 5 w B v (X.map (Value.int .u8))) (hr : Rd C w vr (rs.map (Value.int .i64))) :
    Calls Try.prog 67 #[v, vr] w fun e w' => ∃ r, e = .returned r ∧ Own 5 w' B r ((X ++ (enc (nth rs 0).toNat ++ enc rs.length ++ (if 1 < rs.length then enc (foldS (nth rs 1 - nth rs 0)) else []))).map (Value.int .u8)) ∧ Below B w w' := by
  obtain ⟨ao, cap, rfl, _, _, _, hr⟩ := hr
  rw [List.length_map] at hr ⊢
  obtain ⟨g, off, rfl, hg, hc⟩ := hr hp
  have hcell : ∀ j, j < rs.length → ∀ w' : World, Below B w w' → w'.cell? ⟨g, off + j, none⟩ = some (.int .i64 (nth rs j)) := fun j hj w' hb => (hb.cell (p := ⟨g, off + j, none⟩) (by show g < _; omega)).trans (hc j _ (by simp [nth, hj]))
  have HCELL : Hid _ := hcell
  clear hc hr hcell
  have q0 := runsOK_nth hok 0
  have q1 := runsOK_nth hok 1
  have c0 := HCELL.out 0 hp w (Below.refl _ _)
  rw [Nat.add_zero] at c0
  have hpI : (0 : Int) < (rs.length : Int) := by omega
  have e1 := enc_len (n := (nth rs 0).toNat) (by omega)
  have e2 := enc_len (n := rs.length) (by omega)
  have hfs := foldS_le (d := nth rs 1 - nth rs 0) (by omega) (by omega)
  have e3 := enc_len (n := foldS (nth rs 1 - nth rs 0)) (by omega)
  go_enter Try.func67, Try.ntmps67
  go_wp2_with fail
  rw [show nth rs 0 = (((nth rs 0).toNat : Nat) : Int) by omega]
  refine (appendInt_any B w v X (nth rs 0).toNat (by omega) (by omega) hB ho).mono ?_
  rw [show (((nth rs 0).toNat : Nat) : Int) = nth rs 0 by omega]
  rintro e w1 ⟨r1, rfl, ho1, hb1⟩
  have hz1 := hb1.size
  clear c0
  go_wp2_with fail
  refine (appendInt_any B w1 r1 _ rs.length (by omega) (by simp; omega) (by omega) ho1).mono ?_
  rintro e w2 ⟨r2, rfl, ho2, hb2⟩
  have hbel2 := hb1.trans hb2
  have hz2 := hbel2.size
  clear ho1
  by_cases h1 : 1 < rs.length
  · have hI1 : (1 : Int) < (rs.length : Int) := by omega
    have cA := HCELL.out 1 h1 _ hbel2
    have cB := HCELL.out 0 hp _ hbel2
    rw [Nat.add_zero] at cB
    have hw2 : IntKind.i64.wrap (nth rs 1 - nth rs 0) = nth rs 1 - nth rs 0 := by rw [IntKind.wrap_i64]; omega
    go_wp2_with fail
    go_region_held2 (fun w' => w'.cell? ⟨g, off + 1, none⟩ = some (.int .i64 (nth rs 1)) ∧ w'.cell? ⟨g, off, none⟩ = some (.int .i64 (nth rs 0))) (first | go_keep | exact ⟨HCELL.out 1 h1 _ hbel4, by simpa using HCELL.out 0 hp _ hbel4⟩) (first | (go_at_call 40; refine (foldSign_any _ _ (by omega) (by omega)).mono ?_; rintro e w3 ⟨rfl, rfl⟩) | (go_at_call 65; refine (appendInt_any B _ r2 (X ++ enc (nth rs 0).toNat ++ enc rs.length) (foldS (nth rs 1 - nth rs 0)) (by omega) (by simp; omega) (by show B ≤ w2.heap.size; omega) (show Own 5 w2.drew B r2 _ from ho2)).mono ?_; rintro e w4 ⟨r4, rfl, ho4, hb4⟩; have hbel4 : Below B w w4 := hbel2.drew.trans hb4))
    go_wp2_with fail
    go_ret
    refine ⟨_, rfl, ?_, hbel4⟩
    first | (rw [if_pos h1]; simpa using ho4) | simpa using ho4
  · go_wp2_with fail
    go_ret
    refine ⟨_, rfl, ?_, hbel2⟩
    first | (rw [if_neg h1]; simpa using ho2) | simpa using ho2

set_option maxHeartbeats 2000000 in
set_option maxRecDepth 100000 in
theorem implPutRuns_any (C : Nat) (w : World) (v : Value) (ls : List Int) (hl : ls.length ≤ 1048576) (hC : C ≤ w.heap.size) (hr : Rd C w v (ls.map (Value.int .i64))) :
    Calls Try.prog 42 #[v] w fun e w' => ∃ r, e = .returned (.tuple #[r, .int .i64 (putRunsC ls)]) ∧ Own 5 w' w.heap.size r ((putRunsB ls).map (Value.int .u8)) ∧ Below w.heap.size w w' := by
  have hr0 := hr
  obtain ⟨ao, cap, rfl, hcap, hmax, hnil, hr⟩ := hr
  rw [List.length_map] at hr hr0 hcap ⊢
  by_cases h4 : ls.length ≤ 4096
  · go_enter Try.func42, Try.ntmps42
    go_wp2_with fail
    go_loop [14] (fun i => ∃ k : Nat, k ≤ ls.length ∧ i = .int .i64 k ∧ Hid (∀ j, j < k → 0 ≤ nth ls j ∧ nth ls j ≤ 1152921504606846975)) (fun i => ls.length - (intOf i).toNat)
    case atStart => exact ⟨0, Nat.zero_le _, rfl, fun j hj => by omega⟩
    case round =>
      obtain ⟨k, hk, rfl, H⟩ := hrel
      by_cases hlt : k < ls.length
      · obtain ⟨g, off, rfl, _, hc⟩ := hr (by omega)
        have c1 := hc k (.int .i64 (nth ls k)) (by simp [nth, hlt])
        clear hc hr
        by_cases hv : 0 ≤ nth ls k ∧ nth ls k ≤ 1152921504606846975
        · have H2 : Hid (∀ j, j < k + 1 → 0 ≤ nth ls j ∧ nth ls j ≤ 1152921504606846975) := fun j hj => by
            by_cases e : j = k
            · subst e; exact hv
            · exact H.out j (by omega)
          clear H
          go_wp2_with (first | (go_at_call 64; refine (inRun_yes _ _ hv.1 hv.2).mono ?_; rintro e w' ⟨rfl, rfl⟩))
          go_round
          case rel => exact ⟨k + 1, by omega, by go_num, H2⟩
          case measure => simp [intOf]; omega
        · obtain ⟨e1, e2⟩ := putRuns_bad h4 (runsOK_not hlt hv)
          have E1 : Hid _ := e1
          have E2 : Hid _ := e2
          clear e1 e2
          go_wp2_with (first | (go_at_call 64; refine (inRun_no _ _ hv).mono ?_; rintro e w' ⟨rfl, rfl⟩))
          go_ret2
          exact ⟨_, by rw [E2.out]; rfl, by rw [E1.out]; exact World.ownsRow_nil _ _ _ _, Below.refl _ _⟩
      · have hok : runsOK ls = true := runsOK_of (fun j hj => H.out j (by omega))
        have HOK : Hid _ := hok
        have hlen := putR_len hok h4
        obtain ⟨e1, e2⟩ := putRuns_ok h4 hok
        have E1 : Hid _ := e1
        have E2 : Hid _ := e2
        clear e1 e2 H hok
        go_wp2_with fail
        refine (appendInt_any w.heap.size w _ [] ls.length (by omega) (by simp) (Nat.le_refl _) (World.ownsRow_nil _ _ _ _)).mono ?_
        rintro e w0 ⟨r0, rfl, ho0, hb0⟩
        rw [List.nil_append] at ho0
        go_wp2_with fail
        go_loopw [6, 7] (fun to ti wr => ∃ (i f : Nat) (X : List Int), i ≤ ls.length ∧ ti = .int .i64 i ∧ ls.length - i ≤ f ∧ Own 5 wr w.heap.size to (X.map (Value.int .u8)) ∧ Hid (X ++ putRF ls f i = putR ls) ∧ Below w.heap.size w wr) (fun _ ti _ => ls.length - (intOf ti).toNat)
        case atStart => exact ⟨0, ls.length, enc ls.length, Nat.zero_le _, rfl, by omega, ho0, rfl, hb0⟩
        case round =>
          clear ho0 hb0
          obtain ⟨i, f, X, hii, rfl, hf, how, HX, hbel⟩ := hrel
          have hXl : X.length ≤ 122890 := by have := congrArg List.length HX.out; simp only [List.length_append] at this; omega
          have hsz := hbel.size
          by_cases hi0 : i < ls.length
          · obtain ⟨g, off, rfl, hg, hc⟩ := hr (by omega)
            have hci : ¬ cap = i := by omega
            have hrw := hr0.below (hbel.mono hC)
            have hcut := hrw.cut i (ls.length - i) (by simp; omega) (by simp) (ao' := some ⟨g, off + i, none⟩) (by rw [if_neg hci]; simp [Addr.add_lit])
            have hbd := runEnd_bd hi0
            have HD : Hid (runEnd (ls.drop i) 0 = runEnd ls i - i) := runEnd_drop ls i hi0
            have hcut2 := hrw.cut i (runEnd ls i - i) (by simp; omega) (by simp; omega) (ao' := some ⟨g, off + i, none⟩) (by rw [if_neg hci]; simp [Addr.add_lit])
            rw [← List.map_drop] at hcut hcut2
            rw [List.take_of_length_le (by simp)] at hcut
            rw [← List.map_take] at hcut2
            obtain ⟨f2, hf2, hX2⟩ := putR_step hi0 hf HX.out
            have HX2 : Hid _ := hX2
            have HPC : Hid _ := piece_cut (ls := ls) (i := i) (e := runEnd ls i) (by omega) hbd.2
            have hok2 := runsOK_take (runsOK_drop HOK.out i) (runEnd ls i - i)
            have hrl : ((ls.drop i).take (runEnd ls i - i)).length = runEnd ls i - i := by simp; omega
            have HRL : Hid _ := hrl
            have HOK2 : Hid _ := hok2
            clear hc hr hrw hr0 HX hX2 hrl hok2
            go_wp2_with fail
            refine (runSize_any C wr _ (ls.drop i) (by simp; omega) (by simp; omega) (runsOK_drop HOK.out i) hcut).mono ?_
            rintro e w1 ⟨rfl, n1, rfl⟩
            rw [HD.out]
            clear hcut HD
            generalize runEnd ls i = en at *
            generalize (ls.drop i).take (en - i) = rs at *
            go_wp2_with fail
            refine (appendRun_any w.heap.size C (wr.drewN n1) _ _ X rs (by rw [HRL.out]; omega) (by rw [HRL.out]; omega) HOK2.out (by omega) hC (by exact hsz) how (hcut2.drewN n1)).mono ?_
            rintro e w2 ⟨r2, rfl, ho2, hb2⟩
            rw [HPC.out] at ho2
            have hbel2 := (below_drewN hbel n1).trans hb2
            clear how hcut2
            go_wp2_with fail
            go_roundw
            case rel => exact ⟨en, f2, X ++ runPiece ls i en, hbd.2, by go_num, hf2, ho2, HX2, hbel2⟩
            case measure => simp [intOf]; omega
          · have HX2 : Hid _ := putR_stop (by omega) HX.out
            clear hr hr0
            go_wp2_with fail
            go_ret2
            exact ⟨_, by rw [E2.out]; rfl, by rw [E1.out, ← HX2.out]; exact how, hbel⟩
  · obtain ⟨e1, e2⟩ := putRuns_long h4
    rw [e1, e2]
    clear e1 e2
    go_enter Try.func42, Try.ntmps42
    go_wp2_with fail
    go_ret2
    exact ⟨_, rfl, World.ownsRow_nil _ _ _ _, Below.refl _ _⟩
end Go.Proofs.Ytaglbacicpknaaa
