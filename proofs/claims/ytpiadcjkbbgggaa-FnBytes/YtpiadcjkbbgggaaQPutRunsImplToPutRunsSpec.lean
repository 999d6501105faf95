/- What inRun, foldSign, runSize, appendRun and the code's PutRuns do. What appendRun and the code's PutRuns do. What l01RunsOK, l01Signed, l01PutRuns and the specification's PutRuns do. -/
import Derived.Deep.RegionHeld2
import Derived.Test.YtpiadcjkbbgggaaQInfoToRunsDef
import Derived.Test.YtpiadcjkbbgggaaQBaseToRunsBase
namespace Go.Proofs.Ytpiadcjkbbgggaa
open Go.RowKit
set_option linter.unusedVariables false

set_option maxHeartbeats 400000 in
theorem inRun_yes (v : Int) (w : World) (h0 : 0 ≤ v) (h1 : v ≤ 1152921504606846975) : Calls Try.prog 66 #[.int .i64 v] w fun e w' => e = .returned (.bool true) ∧ w' = w := by
  go_enter Try.func66, Try.ntmps66
  go_wp2
  go_ret
  exact ⟨rfl, rfl⟩
set_option maxHeartbeats 400000 in
theorem inRun_no (v : Int) (w : World) (h : ¬ (0 ≤ v ∧ v ≤ 1152921504606846975)) : Calls Try.prog 66 #[.int .i64 v] w fun e w' => e = .returned (.bool false) ∧ w' = w := by
  by_cases hv : v < 0
  · clear h
    go_enter Try.func66, Try.ntmps66
    go_wp2
    go_ret
    exact ⟨rfl, rfl⟩
  · have h2 : 1152921504606846975 < v := by omega
    have h3 : decide (v ≤ 1152921504606846975) = false := by simpa using h2
    clear h
    go_enter Try.func66, Try.ntmps66
    go_wp2
    go_ret
    exact ⟨by simp, rfl⟩

set_option maxHeartbeats 400000 in
theorem foldSign_any (d : Int) (w : World) (h0 : -1152921504606846975 ≤ d) (h1 : d ≤ 1152921504606846975) : Calls Try.prog 95 #[.int .i64 d] w fun e w' => e = .returned (.int .i64 ((foldS d : Nat) : Int)) ∧ w' = w := by
  by_cases hd : d < 0
  · have e : ((foldS d : Nat) : Int) = -2 * d - 1 := by unfold foldS; rw [if_pos hd]; omega
    rw [e]
    clear e
    go_enter Try.func95, Try.ntmps95
    go_wp2
    go_ret
    exact ⟨rfl, rfl⟩
  · have e : ((foldS d : Nat) : Int) = 2 * d := by unfold foldS; rw [if_neg hd]; omega
    rw [e]
    clear e
    go_enter Try.func95, Try.ntmps95
    go_wp2
    go_ret
    exact ⟨rfl, rfl⟩

set_option maxHeartbeats 1000000 in
set_option maxRecDepth 100000 in
theorem runSize_any (C : Nat) (w : World) (v : Value) (ls : List Int) (hp : 0 < ls.length) (hl : ls.length ≤ 4096) (hok : runsOK ls = true) (hr : Rd C w v (ls.map (Value.int .i64))) :
    Calls Try.prog 67 #[v] w fun e w' => e = .returned (.int .i64 ((runEnd ls 0 : Nat) : Int)) ∧ ∃ n, w' = w.drewN n := by
  obtain ⟨ao, cap, rfl, _, _, _, hr⟩ := hr
  rw [List.length_map] at hr ⊢
  obtain ⟨g, off, rfl, _, hc⟩ := hr hp
  have hcell : ∀ j, j < ls.length → w.cell? ⟨g, off + j, none⟩ = some (.int .i64 (nth ls j)) := fun j hj => hc j _ (by simp [nth, hj])
  have HCELL : Hid _ := hcell
  clear hc hr hcell
  by_cases h1 : ls.length = 1
  · have HE : Hid (runEnd ls 0 = 1) := ext_stop (k := 1) (by simp [goesOn]; omega) rfl
    have hb1 : ((ls.length : Int) == 1) = true := by rw [beq_iff_eq]; omega
    have H1 : Hid _ := h1
    clear h1
    go_enter Try.func67, Try.ntmps67
    go_wp2_with fail
    go_ret
    exact ⟨by rw [HE.out]; rfl, 0, rfl⟩
  · have hb1 : ((ls.length : Int) == 1) = false := by rw [beq_eq_false_iff_ne]; omega
    obtain ⟨f0, hf0, hE0⟩ := ext_step (ls := ls) (i := 0) (k := 1) (f := ls.length) (E := runEnd ls 0) (by simp [goesOn]; omega) (by omega) rfl
    have HE0 : Hid _ := hE0
    clear hE0
    have q0 := runsOK_nth hok 0
    have q1 := runsOK_nth hok 1
    have cC := HCELL.out 1 (by omega)
    have cD := HCELL.out 0 (by omega)
    rw [Nat.add_zero] at cD
    have h2I : (1 : Int) < (ls.length : Int) := by omega
    go_enter Try.func67, Try.ntmps67
    go_wp2_with fail
    go_loopw [3] (fun tk wq => ∃ (k f n : Nat), 2 ≤ k ∧ k ≤ ls.length ∧ tk = .int .i64 k ∧ wq = w.drewN n ∧ ls.length - k ≤ f ∧ Hid (runEnd ls 0 = k + extF ls 0 f k)) (fun tk _ => ls.length - (intOf tk).toNat)
    case atStart => exact ⟨2, f0, 0, by omega, by omega, rfl, rfl, hf0, HE0⟩
    case round =>
      clear HE0 hf0
      obtain ⟨k, f, n, hk1, hk2, rfl, rfl, hf, HE⟩ := hrel
      obtain ⟨j, rfl⟩ : ∃ j, k = j + 1 := ⟨k - 1, by omega⟩
      by_cases hkl : j + 1 < ls.length
      · have q2 := runsOK_nth hok j
        have q3 := runsOK_nth hok (j + 1)
        have cA := HCELL.out (j + 1) hkl
        have cB := HCELL.out j (by omega)
        have hjI : (0 : Int) ≤ (j : Int) ∧ (j : Int) < (ls.length : Int) := by omega
        have hI' : (j : Int) + 1 < (ls.length : Int) := by omega
        by_cases hd : nth ls (j + 1) - nth ls j = nth ls 1 - nth ls 0
        · obtain ⟨f', hf', hE'⟩ := ext_step (ls := ls) (i := 0) (k := j + 1) (by simp [goesOn, hkl, hd]) hf HE.out
          have HE' : Hid _ := hE'
          have hdb : (nth ls (j + 1) - nth ls j == nth ls 1 - nth ls 0) = true := by rw [beq_iff_eq]; exact hd
          clear hE' HE hd
          go_wp2_with fail
          go_quiet (fail)
          go_wp2_with fail
          go_roundw
          case rel => exact ⟨j + 1 + 1, f', n + nq, by omega, by omega, by go_num, by simp, hf', HE'⟩
          case measure => simp [intOf]; omega
        · have HE' : Hid (runEnd ls 0 = j + 1) := ext_stop (by simp [goesOn, hd]; omega) HE.out
          have hdb : (nth ls (j + 1) - nth ls j == nth ls 1 - nth ls 0) = false := by rw [beq_eq_false_iff_ne]; exact hd
          clear HE hd
          go_wp2_with fail
          go_quiet (fail)
          go_wp2_with fail
          go_ret
          exact ⟨by rw [HE'.out]; rfl, n + nq, by simp⟩
      · have HE' : Hid (runEnd ls 0 = j + 1) := ext_stop (by simp [goesOn]; omega) HE.out
        have hI : decide ((j : Int) + 1 < (ls.length : Int)) = false := by simp; omega
        clear HE
        go_wp2_with fail
        go_quiet (fail)
        go_wp2_with fail
        go_ret
        exact ⟨by rw [HE'.out]; rfl, n + nq, by simp⟩
end Go.Proofs.Ytpiadcjkbbgggaa

namespace Go.Proofs.Ytpiadcjkbbgggaa
open Go.RowKit
set_option linter.unusedVariables false

set_option maxHeartbeats 1000000 in
set_option maxRecDepth 100000 in
theorem appendRun_any (B C : Nat) (w : World) (v vr : Value) (X rs : List Int) (hp : 0 < rs.length) (hl : rs.length ≤ 4096) (hok : runsOK rs = true) (hX : X.length ≤ 200000) (hC : C ≤ B) (hB : B ≤ w.heap.size) (ho : Own 5 w B v (X.map (Value.int .u8))) (hr : Rd C w vr (rs.map (Value.int .i64))) :
    Calls Try.prog 68 #[v, vr] w fun e w' => ∃ r, e = .returned r ∧ Own 5 w' B r ((X ++ (enc (nth rs 0).toNat ++ enc rs.length ++ (if 1 < rs.length then enc (foldS (nth rs 1 - nth rs 0)) else []))).map (Value.int .u8)) ∧ Below B w w' := by
  obtain ⟨ao, cap, rfl, _, _, _, hr⟩ := hr
  rw [List.length_map] at hr ⊢
  obtain ⟨g, off, rfl, hg, hc⟩ := hr hp
  have hcell : ∀ j, j < rs.length → ∀ w' : World, Below B w w' → w'.cell? ⟨g, off + j, none⟩ = some (.int .i64 (nth rs j)) := fun j hj w' hb => (hb.cell (p := ⟨g, off + j, none⟩) (by show g < _; omega)).trans (hc j _ (by simp [nth, hj]))
  have HCELL : Hid _ := hcell
  clear hc hr hcell
  have q0 := runsOK_nth hok 0
  have q1 := runsOK_nth hok 1
  have c0 := HCELL.out 0 hp w (Below.refl _ _)
  rw [Nat.add_zero] at c0
  have hpI : (0 : Int) < (rs.length : Int) := by omega
  have e1 := enc_len (n := (nth rs 0).toNat) (by omega)
  have e2 := enc_len (n := rs.length) (by omega)
  have hfs := foldS_le (d := nth rs 1 - nth rs 0) (by omega) (by omega)
  have e3 := enc_len (n := foldS (nth rs 1 - nth rs 0)) (by omega)
  go_enter Try.func68, Try.ntmps68
  go_wp2_with fail
  rw [show nth rs 0 = (((nth rs 0).toNat : Nat) : Int) by omega]
  refine (appendInt_any B w v X (nth rs 0).toNat (by omega) (by omega) hB ho).mono ?_
  rw [show (((nth rs 0).toNat : Nat) : Int) = nth rs 0 by omega]
  rintro e w1 ⟨r1, rfl, ho1, hb1⟩
  have hz1 := hb1.size
  clear c0
  go_wp2_with fail
  refine (appendInt_any B w1 r1 _ rs.length (by omega) (by simp; omega) (by omega) ho1).mono ?_
  rintro e w2 ⟨r2, rfl, ho2, hb2⟩
  have hbel2 := hb1.trans hb2
  have hz2 := hbel2.size
  clear ho1
  by_cases h1 : 1 < rs.length
  · have hI1 : (1 : Int) < (rs.length : Int) := by omega
    have cA := HCELL.out 1 h1 _ hbel2
    have cB := HCELL.out 0 hp _ hbel2
    rw [Nat.add_zero] at cB
    have hw2 : IntKind.i64.wrap (nth rs 1 - nth rs 0) = nth rs 1 - nth rs 0 := by rw [IntKind.wrap_i64]; omega
    go_wp2_with fail
    go_region_held2 (fun w' => w'.cell? ⟨g, off + 1, none⟩ = some (.int .i64 (nth rs 1)) ∧ w'.cell? ⟨g, off, none⟩ = some (.int .i64 (nth rs 0))) (first | go_keep | exact ⟨HCELL.out 1 h1 _ hbel4, by simpa using HCELL.out 0 hp _ hbel4⟩) (first | (go_at_call 95; refine (foldSign_any _ _ (by omega) (by omega)).mono ?_; rintro e w3 ⟨rfl, rfl⟩) | (go_at_call 56; refine (appendInt_any B _ r2 (X ++ enc (nth rs 0).toNat ++ enc rs.length) (foldS (nth rs 1 - nth rs 0)) (by omega) (by simp; omega) (by show B ≤ w2.heap.size; omega) (show Own 5 w2.drew B r2 _ from ho2)).mono ?_; rintro e w4 ⟨r4, rfl, ho4, hb4⟩; have hbel4 : Below B w w4 := hbel2.drew.trans hb4))
    go_wp2_with fail
    go_ret
    refine ⟨_, rfl, ?_, hbel4⟩
    first | (rw [if_pos h1]; simpa using ho4) | simpa using ho4
  · go_wp2_with fail
    go_ret
    refine ⟨_, rfl, ?_, hbel2⟩
    first | (rw [if_neg h1]; simpa using ho2) | simpa using ho2

set_option maxHeartbeats 2000000 in
set_option maxRecDepth 100000 in
theorem implPutRuns_any (C : Nat) (w : World) (v : Value) (ls : List Int) (hl : ls.length ≤ 1048576) (hC : C ≤ w.heap.size) (hr : Rd C w v (ls.map (Value.int .i64))) :
    Calls Try.prog 33 #[v] w fun e w' => ∃ r, e = .returned (.tuple #[r, .int .i64 (putRunsC ls)]) ∧ Own 5 w' w.heap.size r ((putRunsB ls).map (Value.int .u8)) ∧ Below w.heap.size w w' := by
  have hr0 := hr
  obtain ⟨ao, cap, rfl, hcap, hmax, hnil, hr⟩ := hr
  rw [List.length_map] at hr hr0 hcap ⊢
  by_cases h4 : ls.length ≤ 4096
  · go_enter Try.func33, Try.ntmps33
    go_wp2_with fail
    go_loop [14] (fun i => ∃ k : Nat, k ≤ ls.length ∧ i = .int .i64 k ∧ Hid (∀ j, j < k → 0 ≤ nth ls j ∧ nth ls j ≤ 1152921504606846975)) (fun i => ls.length - (intOf i).toNat)
    case atStart => exact ⟨0, Nat.zero_le _, rfl, fun j hj => by omega⟩
    case round =>
      obtain ⟨k, hk, rfl, H⟩ := hrel
      by_cases hlt : k < ls.length
      · obtain ⟨g, off, rfl, _, hc⟩ := hr (by omega)
        have c1 := hc k (.int .i64 (nth ls k)) (by simp [nth, hlt])
        clear hc hr
        by_cases hv : 0 ≤ nth ls k ∧ nth ls k ≤ 1152921504606846975
        · have H2 : Hid (∀ j, j < k + 1 → 0 ≤ nth ls j ∧ nth ls j ≤ 1152921504606846975) := fun j hj => by
            by_cases e : j = k
            · subst e; exact hv
            · exact H.out j (by omega)
          clear H
          go_wp2_with (first | (go_at_call 66; refine (inRun_yes _ _ hv.1 hv.2).mono ?_; rintro e w' ⟨rfl, rfl⟩))
          go_round
          case rel => exact ⟨k + 1, by omega, by go_num, H2⟩
          case measure => simp [intOf]; omega
        · obtain ⟨e1, e2⟩ := putRuns_bad h4 (runsOK_not hlt hv)
          have E1 : Hid _ := e1
          have E2 : Hid _ := e2
          clear e1 e2
          go_wp2_with (first | (go_at_call 66; refine (inRun_no _ _ hv).mono ?_; rintro e w' ⟨rfl, rfl⟩))
          go_ret2
          exact ⟨_, by rw [E2.out]; rfl, by rw [E1.out]; exact World.ownsRow_nil _ _ _ _, Below.refl _ _⟩
      · have hok : runsOK ls = true := runsOK_of (fun j hj => H.out j (by omega))
        have HOK : Hid _ := hok
        have hlen := putR_len hok h4
        obtain ⟨e1, e2⟩ := putRuns_ok h4 hok
        have E1 : Hid _ := e1
        have E2 : Hid _ := e2
        clear e1 e2 H hok
        go_wp2_with fail
        refine (appendInt_any w.heap.size w _ [] ls.length (by omega) (by simp) (Nat.le_refl _) (World.ownsRow_nil _ _ _ _)).mono ?_
        rintro e w0 ⟨r0, rfl, ho0, hb0⟩
        rw [List.nil_append] at ho0
        go_wp2_with fail
        go_loopw [6, 7] (fun to ti wr => ∃ (i f : Nat) (X : List Int), i ≤ ls.length ∧ ti = .int .i64 i ∧ ls.length - i ≤ f ∧ Own 5 wr w.heap.size to (X.map (Value.int .u8)) ∧ Hid (X ++ putRF ls f i = putR ls) ∧ Below w.heap.size w wr) (fun _ ti _ => ls.length - (intOf ti).toNat)
        case atStart => exact ⟨0, ls.length, enc ls.length, Nat.zero_le _, rfl, by omega, ho0, rfl, hb0⟩
        case round =>
          clear ho0 hb0
          obtain ⟨i, f, X, hii, rfl, hf, how, HX, hbel⟩ := hrel
          have hXl : X.length ≤ 122890 := by have := congrArg List.length HX.out; simp only [List.length_append] at this; omega
          have hsz := hbel.size
          by_cases hi0 : i < ls.length
          · obtain ⟨g, off, rfl, hg, hc⟩ := hr (by omega)
            have hci : ¬ cap = i := by omega
            have hrw := hr0.below (hbel.mono hC)
            have hcut := hrw.cut i (ls.length - i) (by simp; omega) (by simp) (ao' := some ⟨g, off + i, none⟩) (by rw [if_neg hci]; simp [Addr.add_lit])
            have hbd := runEnd_bd hi0
            have HD : Hid (runEnd (ls.drop i) 0 = runEnd ls i - i) := runEnd_drop ls i hi0
            have hcut2 := hrw.cut i (runEnd ls i - i) (by simp; omega) (by simp; omega) (ao' := some ⟨g, off + i, none⟩) (by rw [if_neg hci]; simp [Addr.add_lit])
            rw [← List.map_drop] at hcut hcut2
            rw [List.take_of_length_le (by simp)] at hcut
            rw [← List.map_take] at hcut2
            obtain ⟨f2, hf2, hX2⟩ := putR_step hi0 hf HX.out
            have HX2 : Hid _ := hX2
            have HPC : Hid _ := piece_cut (ls := ls) (i := i) (e := runEnd ls i) (by omega) hbd.2
            have hok2 := runsOK_take (runsOK_drop HOK.out i) (runEnd ls i - i)
            have hrl : ((ls.drop i).take (runEnd ls i - i)).length = runEnd ls i - i := by simp; omega
            have HRL : Hid _ := hrl
            have HOK2 : Hid _ := hok2
            clear hc hr hrw hr0 HX hX2 hrl hok2
            go_wp2_with fail
            refine (runSize_any C wr _ (ls.drop i) (by simp; omega) (by simp; omega) (runsOK_drop HOK.out i) hcut).mono ?_
            rintro e w1 ⟨rfl, n1, rfl⟩
            rw [HD.out]
            clear hcut HD
            generalize runEnd ls i = en at *
            generalize (ls.drop i).take (en - i) = rs at *
            go_wp2_with fail
            refine (appendRun_any w.heap.size C (wr.drewN n1) _ _ X rs (by rw [HRL.out]; omega) (by rw [HRL.out]; omega) HOK2.out (by omega) hC (by exact hsz) how (hcut2.drewN n1)).mono ?_
            rintro e w2 ⟨r2, rfl, ho2, hb2⟩
            rw [HPC.out] at ho2
            have hbel2 := (below_drewN hbel n1).trans hb2
            clear how hcut2
            go_wp2_with fail
            go_roundw
            case rel => exact ⟨en, f2, X ++ runPiece ls i en, hbd.2, by go_num, hf2, ho2, HX2, hbel2⟩
            case measure => simp [intOf]; omega
          · have HX2 : Hid _ := putR_stop (by omega) HX.out
            clear hr hr0
            go_wp2_with fail
            go_ret2
            exact ⟨_, by rw [E2.out]; rfl, by rw [E1.out, ← HX2.out]; exact how, hbel⟩
  · obtain ⟨e1, e2⟩ := putRuns_long h4
    rw [e1, e2]
    clear e1 e2
    go_enter Try.func33, Try.ntmps33
    go_wp2_with fail
    go_ret2
    exact ⟨_, rfl, World.ownsRow_nil _ _ _ _, Below.refl _ _⟩
end Go.Proofs.Ytpiadcjkbbgggaa

namespace Go.Proofs.Ytpiadcjkbbgggaa
open Go.RowKit
set_option linter.unusedVariables false

set_option maxHeartbeats 400000 in
theorem l01RunsOK_any (C : Nat) (w : World) (v : Value) (ls : List Int) (hl : ls.length ≤ 1048576) (hr : Rd C w v (ls.map (Value.int .i64))) :
    Calls Try.prog 69 #[v] w fun e w' => e = .returned (.bool (runsOK ls)) ∧ w' = w := by
  obtain ⟨ao, ca, rfl, _, _, _, hr⟩ := hr
  rw [List.length_map] at hr ⊢
  go_enter Try.func69, Try.ntmps69
  go_wp2
  go_loop [3] (fun i => ∃ k : Nat, k ≤ ls.length ∧ i = .int .i64 k ∧ Hid (∀ j, j < k → 0 ≤ nth ls j ∧ nth ls j ≤ 1152921504606846975)) (fun i => ls.length - (intOf i).toNat)
  case atStart => exact ⟨0, Nat.zero_le _, rfl, fun j hj => by omega⟩
  case round =>
    obtain ⟨k, hk, rfl, H⟩ := hrel
    by_cases hlt : k < ls.length
    · obtain ⟨g, off, rfl, _, hc⟩ := hr (by omega)
      have c1 := hc k (.int .i64 (nth ls k)) (by simp [nth, hlt])
      clear hc hr
      by_cases h0 : nth ls k < 0
      · have HR : Hid _ := runsOK_not hlt (by omega)
        go_wp2
        go_ret
        exact ⟨by rw [HR.out]; rfl, rfl⟩
      · by_cases h1 : 1152921504606846975 < nth ls k
        · have HR : Hid _ := runsOK_not hlt (by omega)
          go_wp2
          go_ret
          exact ⟨by rw [HR.out]; rfl, rfl⟩
        · have H2 : Hid (∀ j, j < k + 1 → 0 ≤ nth ls j ∧ nth ls j ≤ 1152921504606846975) := fun j hj => by
            by_cases e : j = k
            · subst e; omega
            · exact H.out j (by omega)
          clear H
          go_wp2
          go_round
          case rel => exact ⟨k + 1, by omega, by go_num, H2⟩
          case measure => simp [intOf]; omega
    · have HR : Hid (runsOK ls = true) := runsOK_of (fun j hj => H.out j (by omega))
      go_wp2
      go_ret
      exact ⟨by rw [HR.out]; rfl, rfl⟩

set_option maxHeartbeats 400000 in
theorem l01Signed_any (d : Int) (w : World) (h0 : -1152921504606846975 ≤ d) (h1 : d ≤ 1152921504606846975) :
    Calls Try.prog 82 #[.int .i64 d] w fun e w' => ∃ r, e = .returned r ∧ Own 5 w' w.heap.size r ((enc (foldS d)).map (Value.int .u8)) ∧ Below w.heap.size w w' := by
  by_cases hd : d < 0
  · have e : foldS d = (-2 * d - 1).toNat := by unfold foldS; rw [if_pos hd]
    rw [e]
    clear e
    go_enter Try.func82, Try.ntmps82
    go_wp2_with fail
    rw [show (-2 * d - 1) = (((-2 * d - 1).toNat : Nat) : Int) by omega]
    refine (l01Put_any _ (-2 * d - 1).toNat w (Nat.le_refl _) (by omega)).mono ?_
    rintro e w1 ⟨r, rfl, ho, hb⟩
    go_wp2_with fail
    go_ret
    exact ⟨_, rfl, ho, hb⟩
  · have e : foldS d = (2 * d).toNat := by unfold foldS; rw [if_neg hd]
    rw [e]
    clear e
    go_enter Try.func82, Try.ntmps82
    go_wp2_with fail
    rw [show (2 * d) = (((2 * d).toNat : Nat) : Int) by omega]
    refine (l01Put_any _ (2 * d).toNat w (Nat.le_refl _) (by omega)).mono ?_
    rintro e w1 ⟨r, rfl, ho, hb⟩
    go_wp2_with fail
    go_ret
    exact ⟨_, rfl, ho, hb⟩

set_option maxHeartbeats 4000000 in
set_option maxRecDepth 100000 in
theorem l01PutRuns_any (C : Nat) (w : World) (v : Value) (ls : List Int) (hl : ls.length ≤ 4096) (hok : runsOK ls = true) (hC : C ≤ w.heap.size) (hr : Rd C w v (ls.map (Value.int .i64))) :
    Calls Try.prog 45 #[v] w fun e w' => ∃ r, e = .returned r ∧ Own 5 w' w.heap.size r ((putR ls).map (Value.int .u8)) ∧ Below w.heap.size w w' := by
  obtain ⟨i0, hi, hz0, hz1, hz2⟩ := info_parts info5
  have hlen := putR_len hok hl
  obtain ⟨ao, cap, rfl, _, _, _, hr⟩ := hr
  rw [List.length_map] at hr ⊢
  go_enter Try.func45, Try.ntmps45
  go_wp2_with fail
  refine (l01Put_any ls.length ls.length w (Nat.le_refl _) (by omega)).mono ?_
  rintro e w0 ⟨r0, rfl, ho0, hb0⟩
  go_wp2_with fail
  go_loopw [3, 4, 5] (fun to ti tk wr => ∃ (i f : Nat) (X : List Int), i ≤ ls.length ∧ ti = .int .i64 i ∧ ls.length - i ≤ f ∧ Own 5 wr w.heap.size to (X.map (Value.int .u8)) ∧ Hid (X ++ putRF ls f i = putR ls) ∧ Below w.heap.size w wr) (fun _ ti _ _ => ls.length - (intOf ti).toNat)
  case atStart => exact ⟨0, ls.length, enc ls.length, Nat.zero_le _, rfl, by omega, ho0, rfl, hb0⟩
  case round =>
    clear ho0 hb0
    obtain ⟨i, f, X, hii, rfl, hf, how, HX, hbel⟩ := hrel
    have hXl : X.length ≤ 122890 := by have := congrArg List.length HX.out; simp only [List.length_append] at this; omega
    have hsz := hbel.size
    by_cases hi0 : i < ls.length
    · obtain ⟨g, off, rfl, hg, hc⟩ := hr (by omega)
      have hcell : ∀ j, j < ls.length → ∀ w' : World, Below w.heap.size w w' → w'.cell? ⟨g, off + j, none⟩ = some (.int .i64 (nth ls j)) := fun j hj w' hb => (hb.cell (p := ⟨g, off + j, none⟩) (by show g < _; omega)).trans (hc j _ (by simp [nth, hj]))
      have HCELL : Hid _ := hcell
      clear hc hr hcell hlen
      go_wp2_with fail
      go_loopw [5] (fun tk wq => ∃ (k f nn : Nat), i + 1 ≤ k ∧ k ≤ ls.length ∧ tk = .int .i64 k ∧ wq = wr.drewN nn ∧ ls.length - k ≤ f ∧ Hid (runEnd ls i = k + extF ls i f k)) (fun tk _ => ls.length - (intOf tk).toNat)
      case atStart => exact ⟨i + 1, ls.length, 0, Nat.le_refl _, hi0, by go_num, rfl, by omega, rfl⟩
      case round =>
        obtain ⟨k, fk, nn, hk1, hk2, rfl, rfl, hfk, HE0⟩ := hrel
        have hbq0 : Below w.heap.size w (wr.drewN nn) := below_drewN hbel nn
        by_cases hgo : goesOn ls i k = true
        · have hkl := goesOn_lt hgo
          obtain ⟨f', hf', hE'⟩ := ext_step hgo hfk HE0.out
          have HE' : Hid _ := hE'
          clear hE' HE0
          have hI : (k : Int) < (ls.length : Int) := by omega
          by_cases hk : k = i + 1
          · have hkb : ((k : Int) == (i : Int) + 1) = true := by rw [beq_iff_eq]; omega
            have HK : Hid _ := hk
            clear hk hgo
            go_wp2_with fail
            go_quiet (fail)
            go_wp2_with fail
            go_roundw
            case rel => exact ⟨k + 1, f', nn + nq, by omega, by omega, by go_num, by simp, hf', HE'⟩
            case measure => simp [intOf]; omega
          · obtain ⟨j, rfl⟩ : ∃ j, k = j + 1 := ⟨k - 1, by omega⟩
            have hd : (nth ls (j + 1) - nth ls j == nth ls (i + 1) - nth ls i) = true := by
              simp [goesOn] at hgo
              rw [beq_iff_eq]
              omega
            have hkb : ((j : Int) + 1 == (i : Int) + 1) = false := by rw [beq_eq_false_iff_ne]; omega
            have hkb2 : ((j : Int) == (i : Int)) = false := by rw [beq_eq_false_iff_ne]; omega
            have q0 := runsOK_nth hok i
            have q1 := runsOK_nth hok (i + 1)
            have q2 := runsOK_nth hok j
            have q3 := runsOK_nth hok (j + 1)
            have cA := HCELL.out (j + 1) hkl _ hbel
            have cB := HCELL.out j (by omega) _ hbel
            have cC := HCELL.out (i + 1) (by omega) _ hbel
            have cD := HCELL.out i hi0 _ hbel
            have hjI : (0 : Int) ≤ (j : Int) ∧ (j : Int) < (ls.length : Int) := by omega
            have hiI : (i : Int) + 1 < (ls.length : Int) := by omega
            have hiI0 : (i : Int) < (ls.length : Int) := by omega
            have hI' : (j : Int) + 1 < (ls.length : Int) := by omega
            clear hgo hk hI
            go_wp2_with fail
            go_quiet (fail)
            go_wp2_with fail
            go_roundw
            case rel => exact ⟨j + 1 + 1, f', nn + nq, by omega, by omega, by go_num, by simp, hf', HE'⟩
            case measure => simp [intOf]; omega
        · have hgo' : goesOn ls i k = false := by cases h : goesOn ls i k <;> simp_all
          have HE : Hid (runEnd ls i = k) := ext_stop hgo' HE0.out
          clear HE0
          by_cases hkl : k < ls.length
          · have hk : k ≠ i + 1 := by
              intro e
              apply hgo
              simp [goesOn, e]
              omega
            obtain ⟨j, rfl⟩ : ∃ j, k = j + 1 := ⟨k - 1, by omega⟩
            have hd : (nth ls (j + 1) - nth ls j == nth ls (i + 1) - nth ls i) = false := by
              rw [beq_eq_false_iff_ne]
              intro e
              apply hgo
              simp [goesOn, hkl, e]
            have hkb : ((j : Int) + 1 == (i : Int) + 1) = false := by rw [beq_eq_false_iff_ne]; omega
            have hkb2 : ((j : Int) == (i : Int)) = false := by rw [beq_eq_false_iff_ne]; omega
            have q0 := runsOK_nth hok i
            have q1 := runsOK_nth hok (i + 1)
            have q2 := runsOK_nth hok j
            have q3 := runsOK_nth hok (j + 1)
            have cA := HCELL.out (j + 1) hkl _ hbel
            have cB := HCELL.out j (by omega) _ hbel
            have cC := HCELL.out (i + 1) (by omega) _ hbel
            have cD := HCELL.out i hi0 _ hbel
            have hjI : (0 : Int) ≤ (j : Int) ∧ (j : Int) < (ls.length : Int) := by omega
            have hiI : (i : Int) + 1 < (ls.length : Int) := by omega
            have hiI0 : (i : Int) < (ls.length : Int) := by omega
            have hI' : (j : Int) + 1 < (ls.length : Int) := by omega
            clear hgo hgo'
            go_wp2_with fail
            go_quiet (fail)
            clear cA cB cC cD hd hkb hkb2 q2 q3
            clear hjI hI' hiI hiI0 q0 q1
            generalize hkj : j + 1 = k at *
            clear hkj hk
            have HP : Hid (runPiece ls i k = enc (nth ls i).toNat ++ enc (k - i) ++ (if 1 < k - i then enc (foldS (nth ls (i + 1) - nth ls i)) else [])) := rfl
            obtain ⟨f2, hf2, hX2⟩ := putR_step hi0 hf HX.out
            rw [HE.out] at hX2 hf2
            have HX2 : Hid _ := hX2
            clear hX2 HX HE
            have hq0 := runsOK_nth hok i
            have hq1 := runsOK_nth hok (i + 1)
            have e1 := enc_len (n := (nth ls i).toNat) (by omega)
            have e2 := enc_len (n := k - i) (by omega)
            have hfs := foldS_le (d := nth ls (i + 1) - nth ls i) (by omega) (by omega)
            have e3 := enc_len (n := foldS (nth ls (i + 1) - nth ls i)) (by omega)
            have hbq : Below w.heap.size w (wr.drewN (nn + nq)) := below_drewN hbel (nn + nq)
            have cq := HCELL.out i hi0 _ hbq
            have howq : Own 5 (wr.drewN (nn + nq)) w.heap.size u3 (X.map (Value.int .u8)) := how
            clear how
            go_wp2_with fail
            rw [show nth ls i = (((nth ls i).toNat : Nat) : Int) by omega]
            refine (l01Put_any (nth ls i).toNat (nth ls i).toNat _ (Nat.le_refl _) (by omega)).mono ?_
            rw [show (((nth ls i).toNat : Nat) : Int) = nth ls i by omega]
            rintro e w2 ⟨r2, rfl, ho2, hb2⟩
            have hout2 : Own 5 w2 w.heap.size u3 _ := howq.below hb2 (Nat.le_refl _)
            have hbel2 : Below w.heap.size w w2 := hbq.trans (hb2.mono hsz)
            have hsz2 := hbel2.size
            clear howq cq
            go_wp2_with (at_builtin; refine wpList_append_rd rfl (.tmp 50) (.tmp 55) 22 rfl w.heap.size 5 i0 (.int .u8 0) 1 Try.underlying22 hi hz0 hz1 hz2 rfl _ _ rfl hout2 _ _ ((enc (nth ls i).toNat).map (Value.int .u8)) rfl ho2.rd (ints_oneCell _ _) (by simp [maxLen]; omega) (by simp; omega) (by omega) ?_)
            intro v3 w3 ho3 hg3
            have hbel3 : Below w.heap.size w w3 := hbel2.grown hg3 hsz2 hout2.lt
            have hsz3 := hbel3.size
            clear hg3 hout2
            go_wp2_with fail
            rw [show ((k : Int) - (i : Int)) = ((k - i : Nat) : Int) by omega]
            refine (l01Put_any (k - i) (k - i) w3 (Nat.le_refl _) (by omega)).mono ?_
            rintro e w4 ⟨r4, rfl, ho4, hb4⟩
            have hout4 : Own 5 w4 w.heap.size v3 _ := ho3.below hb4 (Nat.le_refl _)
            have hbel4 : Below w.heap.size w w4 := hbel3.trans (hb4.mono hsz3)
            have hsz4 := hbel4.size
            clear ho3
            go_wp2_with (at_builtin; refine wpList_append_rd rfl (.tmp 57) (.tmp 61) 22 rfl w.heap.size 5 i0 (.int .u8 0) 1 Try.underlying22 hi hz0 hz1 hz2 rfl _ _ rfl hout4 _ _ ((enc (k - i)).map (Value.int .u8)) rfl ho4.rd (ints_oneCell _ _) (by simp [maxLen]; omega) (by simp; omega) (by omega) ?_)
            intro v5 w5 ho5 hg5
            have hbel5 : Below w.heap.size w w5 := hbel4.grown hg5 hsz4 hout4.lt
            have hsz5 := hbel5.size
            clear hg5 hout4
            by_cases h1k : 1 < k - i
            · have hI1 : (1 : Int) < (k : Int) - (i : Int) := by omega
              have cA := HCELL.out (i + 1) (by omega) _ hbel5
              have cB := HCELL.out i hi0 _ hbel5
              have hw1 : IntKind.i64.wrap ((i : Int) + 1) = (i : Int) + 1 := by rw [IntKind.wrap_i64]; omega
              have hw2 : IntKind.i64.wrap (nth ls (i + 1) - nth ls i) = nth ls (i + 1) - nth ls i := by rw [IntKind.wrap_i64]; omega
              have hiA : (0 : Int) ≤ (i : Int) + 1 ∧ (i : Int) + 1 < (ls.length : Int) := by omega
              have hiB : (0 : Int) ≤ (i : Int) ∧ (i : Int) < (ls.length : Int) := by omega
              go_wp2_with fail
              go_region_held2 (fun w' => w'.cell? ⟨g, off + (i + 1), none⟩ = some (.int .i64 (nth ls (i + 1))) ∧ w'.cell? ⟨g, off + i, none⟩ = some (.int .i64 (nth ls i))) (first | go_keep | exact ⟨HCELL.out (i + 1) (by omega) _ hbel7, HCELL.out i hi0 _ hbel7⟩ | exact ⟨HCELL.out (i + 1) (by omega) _ hbel6, HCELL.out i hi0 _ hbel6⟩) (first | (go_at_call 82; refine (l01Signed_any _ _ (by omega) (by omega)).mono ?_; rintro e w6 ⟨r6, rfl, ho6, hb6⟩; have hout6 := (show Own 5 w5.drew w.heap.size v5 _ from ho5).below hb6 (Nat.le_refl _); have hbel6 : Below w.heap.size w w6 := (hbel5.drew).trans (hb6.mono hsz5); have hsz6 := hbel6.size) | (refine step_append_rd rfl (.tmp 67) (.tmp 78) 22 rfl w.heap.size 5 i0 (.int .u8 0) 1 Try.underlying22 hi hz0 hz1 hz2 rfl _ _ rfl hout6 _ _ ((enc (foldS (nth ls (i + 1) - nth ls i))).map (Value.int .u8)) rfl ho6.rd (by simpa using enc_pos _) (ints_oneCell _ _) (by simp [maxLen]; omega) (by simp; omega) (by omega) ?_; intro v7 w7 ho7 hg7; have hbel7 : Below w.heap.size w w7 := hbel6.grown hg7 hsz6 hout6.lt))
              have hfin : Own 5 w7 w.heap.size v7 ((X ++ runPiece ls i k).map (Value.int .u8)) := by
                rw [HP.out, if_pos h1k]
                simpa using ho7
              clear ho7 hg7 ho5
              go_wp2_with fail
              go_roundw
              case rel => exact ⟨k, f2, X ++ runPiece ls i k, hk2, rfl, hf2, hfin, HX2, hbel7⟩
              case measure => simp [intOf]; omega
            · have hI1 : ¬ (1 : Int) < (k : Int) - (i : Int) := by omega
              have hfin : Own 5 w5 w.heap.size v5 ((X ++ runPiece ls i k).map (Value.int .u8)) := by
                rw [HP.out, if_neg h1k]
                simpa using ho5
              clear ho5
              go_wp2_with fail
              go_roundw
              case rel => exact ⟨k, f2, X ++ runPiece ls i k, hk2, rfl, hf2, hfin, HX2, hbel5⟩
              case measure => simp [intOf]; omega
          · have hI : decide ((k : Int) < (ls.length : Int)) = false := by simp; omega
            clear hgo hgo'
            go_wp2_with fail
            go_quiet (fail)
            have HP : Hid (runPiece ls i k = enc (nth ls i).toNat ++ enc (k - i) ++ (if 1 < k - i then enc (foldS (nth ls (i + 1) - nth ls i)) else [])) := rfl
            obtain ⟨f2, hf2, hX2⟩ := putR_step hi0 hf HX.out
            rw [HE.out] at hX2 hf2
            have HX2 : Hid _ := hX2
            clear hX2 HX HE
            have hq0 := runsOK_nth hok i
            have hq1 := runsOK_nth hok (i + 1)
            have e1 := enc_len (n := (nth ls i).toNat) (by omega)
            have e2 := enc_len (n := k - i) (by omega)
            have hfs := foldS_le (d := nth ls (i + 1) - nth ls i) (by omega) (by omega)
            have e3 := enc_len (n := foldS (nth ls (i + 1) - nth ls i)) (by omega)
            have hbq : Below w.heap.size w (wr.drewN (nn + nq)) := below_drewN hbel (nn + nq)
            have cq := HCELL.out i hi0 _ hbq
            have howq : Own 5 (wr.drewN (nn + nq)) w.heap.size u3 (X.map (Value.int .u8)) := how
            clear how
            go_wp2_with fail
            rw [show nth ls i = (((nth ls i).toNat : Nat) : Int) by omega]
            refine (l01Put_any (nth ls i).toNat (nth ls i).toNat _ (Nat.le_refl _) (by omega)).mono ?_
            rw [show (((nth ls i).toNat : Nat) : Int) = nth ls i by omega]
            rintro e w2 ⟨r2, rfl, ho2, hb2⟩
            have hout2 : Own 5 w2 w.heap.size u3 _ := howq.below hb2 (Nat.le_refl _)
            have hbel2 : Below w.heap.size w w2 := hbq.trans (hb2.mono hsz)
            have hsz2 := hbel2.size
            clear howq cq
            go_wp2_with (at_builtin; refine wpList_append_rd rfl (.tmp 50) (.tmp 55) 22 rfl w.heap.size 5 i0 (.int .u8 0) 1 Try.underlying22 hi hz0 hz1 hz2 rfl _ _ rfl hout2 _ _ ((enc (nth ls i).toNat).map (Value.int .u8)) rfl ho2.rd (ints_oneCell _ _) (by simp [maxLen]; omega) (by simp; omega) (by omega) ?_)
            intro v3 w3 ho3 hg3
            have hbel3 : Below w.heap.size w w3 := hbel2.grown hg3 hsz2 hout2.lt
            have hsz3 := hbel3.size
            clear hg3 hout2
            go_wp2_with fail
            rw [show ((k : Int) - (i : Int)) = ((k - i : Nat) : Int) by omega]
            refine (l01Put_any (k - i) (k - i) w3 (Nat.le_refl _) (by omega)).mono ?_
            rintro e w4 ⟨r4, rfl, ho4, hb4⟩
            have hout4 : Own 5 w4 w.heap.size v3 _ := ho3.below hb4 (Nat.le_refl _)
            have hbel4 : Below w.heap.size w w4 := hbel3.trans (hb4.mono hsz3)
            have hsz4 := hbel4.size
            clear ho3
            go_wp2_with (at_builtin; refine wpList_append_rd rfl (.tmp 57) (.tmp 61) 22 rfl w.heap.size 5 i0 (.int .u8 0) 1 Try.underlying22 hi hz0 hz1 hz2 rfl _ _ rfl hout4 _ _ ((enc (k - i)).map (Value.int .u8)) rfl ho4.rd (ints_oneCell _ _) (by simp [maxLen]; omega) (by simp; omega) (by omega) ?_)
            intro v5 w5 ho5 hg5
            have hbel5 : Below w.heap.size w w5 := hbel4.grown hg5 hsz4 hout4.lt
            have hsz5 := hbel5.size
            clear hg5 hout4
            by_cases h1k : 1 < k - i
            · have hI1 : (1 : Int) < (k : Int) - (i : Int) := by omega
              have cA := HCELL.out (i + 1) (by omega) _ hbel5
              have cB := HCELL.out i hi0 _ hbel5
              have hw1 : IntKind.i64.wrap ((i : Int) + 1) = (i : Int) + 1 := by rw [IntKind.wrap_i64]; omega
              have hw2 : IntKind.i64.wrap (nth ls (i + 1) - nth ls i) = nth ls (i + 1) - nth ls i := by rw [IntKind.wrap_i64]; omega
              have hiA : (0 : Int) ≤ (i : Int) + 1 ∧ (i : Int) + 1 < (ls.length : Int) := by omega
              have hiB : (0 : Int) ≤ (i : Int) ∧ (i : Int) < (ls.length : Int) := by omega
              go_wp2_with fail
              go_region_held2 (fun w' => w'.cell? ⟨g, off + (i + 1), none⟩ = some (.int .i64 (nth ls (i + 1))) ∧ w'.cell? ⟨g, off + i, none⟩ = some (.int .i64 (nth ls i))) (first | go_keep | exact ⟨HCELL.out (i + 1) (by omega) _ hbel7, HCELL.out i hi0 _ hbel7⟩ | exact ⟨HCELL.out (i + 1) (by omega) _ hbel6, HCELL.out i hi0 _ hbel6⟩) (first | (go_at_call 82; refine (l01Signed_any _ _ (by omega) (by omega)).mono ?_; rintro e w6 ⟨r6, rfl, ho6, hb6⟩; have hout6 := (show Own 5 w5.drew w.heap.size v5 _ from ho5).below hb6 (Nat.le_refl _); have hbel6 : Below w.heap.size w w6 := (hbel5.drew).trans (hb6.mono hsz5); have hsz6 := hbel6.size) | (refine step_append_rd rfl (.tmp 67) (.tmp 78) 22 rfl w.heap.size 5 i0 (.int .u8 0) 1 Try.underlying22 hi hz0 hz1 hz2 rfl _ _ rfl hout6 _ _ ((enc (foldS (nth ls (i + 1) - nth ls i))).map (Value.int .u8)) rfl ho6.rd (by simpa using enc_pos _) (ints_oneCell _ _) (by simp [maxLen]; omega) (by simp; omega) (by omega) ?_; intro v7 w7 ho7 hg7; have hbel7 : Below w.heap.size w w7 := hbel6.grown hg7 hsz6 hout6.lt))
              have hfin : Own 5 w7 w.heap.size v7 ((X ++ runPiece ls i k).map (Value.int .u8)) := by
                rw [HP.out, if_pos h1k]
                simpa using ho7
              clear ho7 hg7 ho5
              go_wp2_with fail
              go_roundw
              case rel => exact ⟨k, f2, X ++ runPiece ls i k, hk2, rfl, hf2, hfin, HX2, hbel7⟩
              case measure => simp [intOf]; omega
            · have hI1 : ¬ (1 : Int) < (k : Int) - (i : Int) := by omega
              have hfin : Own 5 w5 w.heap.size v5 ((X ++ runPiece ls i k).map (Value.int .u8)) := by
                rw [HP.out, if_neg h1k]
                simpa using ho5
              clear ho5
              go_wp2_with fail
              go_roundw
              case rel => exact ⟨k, f2, X ++ runPiece ls i k, hk2, rfl, hf2, hfin, HX2, hbel5⟩
              case measure => simp [intOf]; omega
    · have HX2 : Hid _ := putR_stop (by omega) HX.out
      clear hr hlen
      go_wp2_with fail
      go_ret
      exact ⟨_, rfl, by rw [← HX2.out]; exact how, hbel⟩

set_option maxHeartbeats 1000000 in
set_option maxRecDepth 100000 in
theorem specPutRuns_any (C : Nat) (w : World) (v : Value) (ls : List Int) (hl : ls.length ≤ 1048576) (hC : C ≤ w.heap.size) (hr : Rd C w v (ls.map (Value.int .i64))) :
    Calls Try.prog 34 #[v] w fun e w' => ∃ r, e = .returned (.tuple #[r, .int .i64 (putRunsC ls)]) ∧ Own 5 w' w.heap.size r ((putRunsB ls).map (Value.int .u8)) ∧ Below w.heap.size w w' := by
  have hr0 := hr
  obtain ⟨ao, cap, rfl, _, _, _, hr⟩ := hr
  rw [List.length_map] at hr hr0 ⊢
  clear hr
  by_cases h4 : ls.length ≤ 4096
  · cases hok : runsOK ls with
    | false =>
      obtain ⟨e1, e2⟩ := putRuns_bad h4 hok
      rw [e1, e2]
      have HO : Hid _ := hok
      clear e1 e2 hok
      go_enter Try.func34, Try.ntmps34
      go_wp2_with (first | (go_at_call 69; refine (l01RunsOK_any C w _ ls hl hr0).mono ?_; rintro e w' ⟨rfl, rfl⟩; rw [HO.out]))
      go_ret2
      exact ⟨_, rfl, own_lit _ 5 [] 0 rfl (by decide), (Below.refl _ _).alloc (Nat.le_refl _) _⟩
    | true =>
      obtain ⟨e1, e2⟩ := putRuns_ok h4 hok
      rw [e1, e2]
      have HO : Hid _ := hok
      clear e1 e2 hok
      go_enter Try.func34, Try.ntmps34
      go_wp2_with (first | (go_at_call 69; refine (l01RunsOK_any C w _ ls hl hr0).mono ?_; rintro e w' ⟨rfl, rfl⟩; rw [HO.out]) | (go_at_call 45; refine (l01PutRuns_any C _ _ ls h4 HO.out hC hr0).mono ?_; rintro e w1 ⟨r1, rfl, ho1, hb1⟩))
      go_ret2
      exact ⟨_, rfl, ho1, hb1⟩
  · obtain ⟨e1, e2⟩ := putRuns_long h4
    rw [e1, e2]
    clear e1 e2
    go_enter Try.func34, Try.ntmps34
    go_wp2_with fail
    go_ret2
    exact ⟨_, rfl, own_lit _ 5 [] 0 rfl (by decide), (Below.refl _ _).alloc (Nat.le_refl _) _⟩
end Go.Proofs.Ytpiadcjkbbgggaa
