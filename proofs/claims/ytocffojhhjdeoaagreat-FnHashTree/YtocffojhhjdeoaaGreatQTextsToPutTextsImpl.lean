/- What sharedStart, l01Alike, textsSize, szStringS, toStringS and eqStringS do. What l01PutTexts and the specification's PutTexts do. What the code's PutTexts does. -/
import Derived.Test.YtocffojhhjdeoaaGreatQInfoToSignSpec
import Derived.Test.YtocffojhhjdeoaaGreatQTextsBase
namespace Go.Proofs.YtocffojhhjdeoaaGreat
open Go.RowKit Go.Lib
set_option linter.unusedVariables false

theorem info9 : (Tryz.prog.info? 9).map (fun i => (i.zero, i.size, i.bytes)) = some (some (.string ByteArray.empty), 1, 16) := by kernel_rfl

set_option maxHeartbeats 1000000 in
theorem l01Alike_any (a b : ByteArray) (w : World) (ha : a.size ≤ 140737488355328) (hb : b.size ≤ 140737488355328) :
    Calls Tryz.prog 79 #[.string a, .string b] w fun e w' => e = .returned (.int .i64 ((alike a b : Nat) : Int)) ∧ ∃ n, w' = w.drewN n := by
  go_enter Tryz.func79, Tryz.ntmps79
  go_wp2
  go_loopw [5] (fun i wr => ∃ k : Nat, k ≤ a.size ∧ k ≤ b.size ∧ i = .int .i64 k ∧ (∃ n, wr = w.drewN n) ∧ Hid (alike a b = k + alikeL (a.data.toList.drop k) (b.data.toList.drop k))) (fun i _ => a.size - (intOf i).toNat)
  case atStart => exact ⟨0, Nat.zero_le _, Nat.zero_le _, rfl, ⟨0, rfl⟩, by simp [Hid, alike]⟩
  case round =>
    obtain ⟨k, hka, hkb, rfl, ⟨n, rfl⟩, H⟩ := hrel
    by_cases h1 : k < a.size
    · have hi1 : (k : Int) < (a.size : Int) := by omega
      by_cases h2 : k < b.size
      · have hi2 : (k : Int) < (b.size : Int) := by omega
        by_cases he : a[k] = b[k]
        · have HS : Hid _ := alike_step h1 h2 he H.out
          clear H
          go_wp2
          go_quiet (fail)
          go_wp2
          go_roundw
          case rel => exact ⟨k + 1, by omega, by omega, by go_num, ⟨_, rfl⟩, HS⟩
          case measure => simp [intOf]; omega
        · have HS : Hid _ := alike_stop (fun _ _ => he) H.out
          have hne : ((a[k].toNat : Int) == (b[k].toNat : Int)) = false := by
            rw [beq_eq_false_iff_ne]
            intro h
            exact he (UInt8.toNat_inj.1 (by omega))
          clear H
          go_wp2
          go_quiet (fail)
          go_wp2
          go_ret
          exact ⟨by rw [HS.out]; rfl, n + nq, by simp⟩
      · have HS : Hid _ := alike_stop (fun _ h => absurd h h2) H.out
        have hi2 : decide ((k : Int) < (b.size : Int)) = false := by simp; omega
        clear H
        go_wp2
        go_quiet (fail)
        go_wp2
        go_ret
        exact ⟨by rw [HS.out]; rfl, n + nq, by simp⟩
    · have HS : Hid _ := alike_stop (fun h _ => absurd h h1) H.out
      have hi1 : decide ((k : Int) < (a.size : Int)) = false := by simp; omega
      clear H
      go_wp2
      go_quiet (fail)
      go_wp2
      go_ret
      exact ⟨by rw [HS.out]; rfl, n + nq, by simp⟩

set_option maxHeartbeats 1000000 in
theorem sharedStart_any (a b : ByteArray) (w : World) (ha : a.size ≤ 140737488355328) (hb : b.size ≤ 140737488355328) :
    Calls Tryz.prog 128 #[.string a, .string b] w fun e w' => e = .returned (.int .i64 ((alike a b : Nat) : Int)) ∧ ∃ n, w' = w.drewN n := by
  go_enter Tryz.func128, Tryz.ntmps128
  go_wp2
  go_loopw [5] (fun i wr => ∃ k : Nat, k ≤ a.size ∧ k ≤ b.size ∧ i = .int .i64 k ∧ (∃ n, wr = w.drewN n) ∧ Hid (alike a b = k + alikeL (a.data.toList.drop k) (b.data.toList.drop k))) (fun i _ => a.size - (intOf i).toNat)
  case atStart => exact ⟨0, Nat.zero_le _, Nat.zero_le _, rfl, ⟨0, rfl⟩, by simp [Hid, alike]⟩
  case round =>
    obtain ⟨k, hka, hkb, rfl, ⟨n, rfl⟩, H⟩ := hrel
    by_cases h1 : k < a.size
    · have hi1 : (k : Int) < (a.size : Int) := by omega
      by_cases h2 : k < b.size
      · have hi2 : (k : Int) < (b.size : Int) := by omega
        by_cases he : a[k] = b[k]
        · have HS : Hid _ := alike_step h1 h2 he H.out
          clear H
          go_wp2
          go_quiet (fail)
          go_wp2
          go_roundw
          case rel => exact ⟨k + 1, by omega, by omega, by go_num, ⟨_, rfl⟩, HS⟩
          case measure => simp [intOf]; omega
        · have HS : Hid _ := alike_stop (fun _ _ => he) H.out
          have hne : ((a[k].toNat : Int) == (b[k].toNat : Int)) = false := by
            rw [beq_eq_false_iff_ne]
            intro h
            exact he (UInt8.toNat_inj.1 (by omega))
          clear H
          go_wp2
          go_quiet (fail)
          go_wp2
          go_ret
          exact ⟨by rw [HS.out]; rfl, n + nq, by simp⟩
      · have HS : Hid _ := alike_stop (fun _ h => absurd h h2) H.out
        have hi2 : decide ((k : Int) < (b.size : Int)) = false := by simp; omega
        clear H
        go_wp2
        go_quiet (fail)
        go_wp2
        go_ret
        exact ⟨by rw [HS.out]; rfl, n + nq, by simp⟩
    · have HS : Hid _ := alike_stop (fun h _ => absurd h h1) H.out
      have hi1 : decide ((k : Int) < (a.size : Int)) = false := by simp; omega
      clear H
      go_wp2
      go_quiet (fail)
      go_wp2
      go_ret
      exact ⟨by rw [HS.out]; rfl, n + nq, by simp⟩

set_option maxHeartbeats 400000 in
theorem textsSize_any (C : Nat) (w : World) (v : Value) (ss : List ByteArray) (hl : ss.length ≤ 1048576) (ht : tot ss ss.length ≤ 1048576) (hr : Rd C w v (ss.map Value.string)) :
    Calls Tryz.prog 127 #[v] w fun e w' => e = .returned (.int .i64 ((tot ss ss.length : Nat) : Int)) ∧ w' = w := by
  obtain ⟨ao, cap, rfl, _, _, _, hr⟩ := hr
  rw [List.length_map] at hr ⊢
  go_enter Tryz.func127, Tryz.ntmps127
  go_wp2
  go_loop [3, 8] (fun t i => ∃ k : Nat, k ≤ ss.length ∧ i = .int .i64 k ∧ t = .int .i64 ((tot ss k : Nat) : Int)) (fun _ i => ss.length - (intOf i).toNat)
  case atStart => exact ⟨0, Nat.zero_le _, rfl, rfl⟩
  case round =>
    obtain ⟨k, hk, rfl, rfl⟩ := hrel
    have hm := tot_mono ss hk
    by_cases hlt : k < ss.length
    · obtain ⟨g, off, rfl, _, hc⟩ := hr (by omega)
      have c1 := hc k (.string (txt ss k)) (by simp [txt, hlt])
      have hm1 := tot_mono ss (show k + 1 ≤ ss.length from hlt)
      simp only [tot] at hm1
      clear hc hr
      go_wp2
      go_round
      case rel => exact ⟨k + 1, by omega, by go_num, by simp [tot]⟩
      case measure => simp [intOf]; omega
    · go_wp2
      go_ret
      exact ⟨by rw [show k = ss.length by omega]; rfl, rfl⟩

end Go.Proofs.YtocffojhhjdeoaaGreat

namespace Go.Proofs.YtocffojhhjdeoaaGreat
open Go.RowKit Go.Lib
set_option linter.unusedVariables false

set_option maxHeartbeats 2000000 in
set_option maxRecDepth 100000 in
theorem l01PutTexts_any (C : Nat) (w : World) (v : Value) (ss : List ByteArray) (hl : ss.length ≤ 4096) (ht : tot ss ss.length ≤ 1048576) (hC : C ≤ w.heap.size) (hr : Rd C w v (ss.map Value.string)) :
    Calls Tryz.prog 60 #[v] w fun e w' => ∃ r k, e = .returned r ∧ k ≤ ss.length ∧ Own 5 w' w.heap.size r ((putN ss k).map (Value.int .u8)) ∧ (k = ss.length ∨ 1048576 < (putN ss k).length) ∧ Below w.heap.size w w' := by
  obtain ⟨i0, hi, hz0, hz1, hz2⟩ := info_parts info5
  have hlen := putN_len ss (by omega) ss.length ht
  obtain ⟨ao, cap, rfl, _, _, _, hr⟩ := hr
  rw [List.length_map] at hr ⊢
  go_enter Tryz.func60, Tryz.ntmps60
  go_wp2_with fail
  refine (l01Put_any ss.length ss.length w (Nat.le_refl _) (by omega)).mono ?_
  rintro e w0 ⟨r0, rfl, ho0, hb0⟩
  go_wp2_with fail
  go_loopw [3, 4, 5, 6] (fun to tl ti tn wr => ∃ k : Nat, k ≤ ss.length ∧ ti = .int .i64 k ∧ tl = .string (ahead ss k) ∧ Own 5 wr w.heap.size to ((putN ss k).map (Value.int .u8)) ∧ Below w.heap.size w wr) (fun _ _ ti _ _ => ss.length - (intOf ti).toNat)
  case atStart => exact ⟨0, Nat.zero_le _, rfl, rfl, ho0, hb0⟩
  case round =>
    clear ho0 hb0
    obtain ⟨k, hk, rfl, rfl, how, hbel⟩ := hrel
    by_cases hlt : k < ss.length
    · obtain ⟨g, off, rfl, hg, hc⟩ := hr (by omega)
      have hcell : ∀ w' : World, Below w.heap.size w w' → w'.cell? ⟨g, off + k, none⟩ = some (.string (txt ss k)) := fun w' hb => (hb.cell (p := ⟨g, off + k, none⟩) (by show g < _; omega)).trans (hc k _ (by simp [txt, hlt]))
      have HCELL : Hid _ := hcell
      clear hc hr hcell
      have hln := hlen k (by omega)
      have hln1 := hlen (k + 1) (by omega)
      have htk := tot_mono ss hk
      have hts := tot_size ss hlt
      have hta : (ahead ss k).size ≤ 1048576 := by
        cases k with
        | zero => simp [ahead]
        | succ k => have := tot_size ss (show k < ss.length by omega); simp only [ahead]; omega
      have hal := alike_le (ahead ss k) (txt ss k)
      have hpc : (putN ss (k + 1)).length = (putN ss k).length + (piece ss k).length := by simp [putN]
      have htk1 := tot_mono ss (show k + 1 ≤ ss.length from hlt)
      have HP : Hid (piece ss k = enc (alike (ahead ss k) (txt ss k)) ++ enc ((txt ss k).size - alike (ahead ss k) (txt ss k)) ++ (strInts (txt ss k)).drop (alike (ahead ss k) (txt ss k))) := rfl
      have c1 := HCELL.out _ hbel
      have hsz := hbel.size
      clear hlen
      go_wp2_with fail
      refine (l01Alike_any _ _ _ (by omega) (by omega)).mono ?_
      rintro e w1 ⟨rfl, n1, rfl⟩
      generalize alike (ahead ss k) (txt ss k) = al at hal HP ⊢
      have hel := enc_len (n := al) (by omega)
      have hel2 := enc_len (n := (txt ss k).size - al) (by omega)
      go_wp2_with fail
      refine (l01Put_any al al _ (Nat.le_refl _) (by omega)).mono ?_
      rintro e w2 ⟨r2, rfl, ho2, hb2⟩
      have hout2 : Own 5 w2 w.heap.size _ _ := (show Own 5 (wr.drewN n1) w.heap.size _ _ from how).below hb2 (Nat.le_refl _)
      have hbel2 : Below w.heap.size w w2 := (below_drewN hbel n1).trans (hb2.mono hsz)
      have hsz2 := hbel2.size
      obtain ⟨g2, cap2, rfl, hb2', hlt2, hc2⟩ := ho2.some (by simpa using enc_pos _)
      rw [List.length_map] at ho2 ⊢
      clear how c1 ho2
      go_wp2_with (at_builtin; refine wpList_append_own _ rfl _ _ 22 rfl w.heap.size 5 i0 (.int .u8 0) 1 1 Tryz.underlying22 hi hz0 hz1 hz2 rfl (by decide) _ _ _ rfl hout2 ⟨g2, 0, none⟩ (enc al).length cap2 ((enc al).map (Value.int .u8)) rfl (by simp) hc2 (ints_oneCell _ _) (by simp [maxLen]; omega) (by simp; omega) (by omega) ?_)
      intro v3 w3 ho3 hg3 _
      have hout3 := own_of ho3
      have hbel3 : Below w.heap.size w w3 := hbel2.grown hg3 hsz2 hout2.lt
      have hsz3 := hbel3.size
      have c3 := HCELL.out _ hbel3
      clear ho3 hg3 hout2 hc2
      go_wp2_with fail
      rw [show (((txt ss k).size : Int) - (al : Int)) = (((txt ss k).size - al : Nat) : Int) by omega]
      refine (l01Put_any _ ((txt ss k).size - al) w3 (Nat.le_refl _) (by omega)).mono ?_
      rintro e w4 ⟨r4, rfl, ho4, hb4⟩
      have hout4 : Own 5 w4 w.heap.size _ _ := hout3.below hb4 (Nat.le_refl _)
      have hbel4 : Below w.heap.size w w4 := hbel3.trans (hb4.mono hsz3)
      have hsz4 := hbel4.size
      obtain ⟨g4, cap4, rfl, hb4', hlt4, hc4⟩ := ho4.some (by simpa using enc_pos _)
      rw [List.length_map] at ho4 ⊢
      clear hout3 c3 ho4
      go_wp2_with (at_builtin; refine wpList_append_own _ rfl _ _ 22 rfl w.heap.size 5 i0 (.int .u8 0) 1 1 Tryz.underlying22 hi hz0 hz1 hz2 rfl (by decide) _ _ _ rfl hout4 ⟨g4, 0, none⟩ (enc ((txt ss k).size - al)).length cap4 ((enc ((txt ss k).size - al)).map (Value.int .u8)) rfl (by simp) hc4 (ints_oneCell _ _) (by simp [maxLen]; omega) (by simp; omega) (by omega) ?_)
      intro v5 w5 ho5 hg5 _
      have hout5 := own_of ho5
      have hbel5 : Below w.heap.size w w5 := hbel4.grown hg5 hsz4 hout4.lt
      have hsz5 := hbel5.size
      have c5 := HCELL.out _ hbel5
      clear ho5 hg5 hout4 hc4
      have hxs : ((txt ss k).extract al (txt ss k).size).size = (txt ss k).size - al := by simp
      go_wp2_with (at_builtin; refine wpList_append_own_string _ rfl _ _ 22 9 rfl w.heap.size 5 i0 Tryz.underlying22 Tryz.underlying9 hi hz0 hz1 hz2 _ _ _ rfl hout5 ((txt ss k).extract al (txt ss k).size) rfl (by simp [maxLen]; omega) (by simp; omega) (by omega) ?_)
      intro v6 w6 ho6 hg6 _
      have hout6 := own_of ho6
      have hbel6 : Below w.heap.size w w6 := hbel5.grown hg6 hsz5 hout5.lt
      have hsz6 := hbel6.size
      have c6 := HCELL.out _ hbel6
      rw [strCells_from _ _ hal.2] at hout6
      have hfin : Own 5 w6 w.heap.size v6 ((putN ss (k + 1)).map (Value.int .u8)) := by
        have e : (putN ss (k + 1)).map (Value.int .u8) = (putN ss k).map (Value.int .u8) ++ (enc al).map (Value.int .u8) ++ (enc ((txt ss k).size - al)).map (Value.int .u8) ++ ((strInts (txt ss k)).drop al).map (Value.int .u8) := by
          simp only [putN]
          rw [HP.out]
          simp
        rw [e]
        simpa using hout6
      clear ho6 hg6 hout5 hout6
      obtain ⟨ao6, cap6, rfl, hsh6⟩ := hfin.slice
      rw [List.length_map] at hfin hsh6 ⊢
      clear hsh6
      by_cases hbig : 1048576 < (putN ss (k + 1)).length
      · go_wp2_with fail
        go_ret
        exact ⟨_, k + 1, rfl, hlt, hfin, .inr hbig, hbel6⟩
      · go_wp2_with fail
        go_roundw
        case rel => exact ⟨k + 1, hlt, by go_num, rfl, hfin, hbel6⟩
        case measure => simp [intOf]; omega
    · go_wp2_with fail
      go_ret
      exact ⟨_, k, rfl, hk, how, .inl (by omega), hbel⟩

end Go.Proofs.YtocffojhhjdeoaaGreat

namespace Go.Proofs.YtocffojhhjdeoaaGreat
open Go.RowKit Go.Lib
set_option linter.unusedVariables false

set_option maxHeartbeats 2000000 in
set_option maxRecDepth 100000 in
theorem implPutTexts_any (C : Nat) (w : World) (v : Value) (ss : List ByteArray) (hl : ss.length ≤ 1048576) (ht : tot ss ss.length ≤ 1048576) (hC : C ≤ w.heap.size) (hr : Rd C w v (ss.map Value.string)) :
    Calls Tryz.prog 103 #[v] w fun e w' => ∃ r, e = .returned (.tuple #[r, .int .i64 (putTextsC ss)]) ∧ Own 5 w' w.heap.size r ((putTextsB ss).map (Value.int .u8)) ∧ Below w.heap.size w w' := by
  obtain ⟨i0, hi, hz0, hz1, hz2⟩ := info_parts info5
  have hlen := putN_len ss (by omega) ss.length ht
  have hr0 := hr
  obtain ⟨ao, cap, rfl, _, _, _, hr⟩ := hr
  rw [List.length_map] at hr hr0 ⊢
  by_cases h4 : 4096 < ss.length
  · obtain ⟨e1, e2⟩ := putTexts_no (ss := ss) (by omega)
    rw [e1, e2]
    clear e1 e2
    go_enter Tryz.func103, Tryz.ntmps103
    go_wp2_with fail
    go_ret2
    exact ⟨_, rfl, World.ownsRow_nil _ _ _ _, Below.refl _ _⟩
  · go_enter Tryz.func103, Tryz.ntmps103
    go_wp2_with fail
    refine (textsSize_any C w _ ss hl ht hr0).mono ?_
    rintro e w' ⟨rfl, rfl⟩
    go_wp2_with fail
    refine (appendInt_any w'.heap.size w' _ [] ss.length (by omega) (by simp) (Nat.le_refl _) (World.ownsRow_nil _ _ _ _)).mono ?_
    rintro e w0 ⟨r0, rfl, ho0, hb0⟩
    rw [List.nil_append] at ho0
    go_wp2_with fail
    go_loopw [4, 5, 22] (fun to tl ti wr => ∃ k : Nat, k ≤ ss.length ∧ ti = .int .i64 k ∧ tl = .string (ahead ss k) ∧ Own 5 wr w'.heap.size to ((putN ss k).map (Value.int .u8)) ∧ Below w'.heap.size w' wr) (fun _ _ ti _ => ss.length - (intOf ti).toNat)
    case atStart => exact ⟨0, Nat.zero_le _, rfl, rfl, ho0, hb0⟩
    case round =>
      clear ho0 hb0
      obtain ⟨k, hk, rfl, rfl, how, hbel⟩ := hrel
      have hln := hlen k hk
      have htk := tot_mono ss hk
      by_cases hlt : k < ss.length
      · obtain ⟨g, off, rfl, hg, hc⟩ := hr (by omega)
        have c1 : wr.cell? ⟨g, off + k, none⟩ = some (.string (txt ss k)) := (hbel.cell (p := ⟨g, off + k, none⟩) (by show g < _; omega)).trans (hc k _ (by simp [txt, hlt]))
        clear hc hr hr0
        have hts := tot_size ss hlt
        have hta : (ahead ss k).size ≤ 1048576 := by
          cases k with
          | zero => simp [ahead]
          | succ k => have := tot_size ss (show k < ss.length by omega); simp only [ahead]; omega
        have hal := alike_le (ahead ss k) (txt ss k)
        have HP : Hid (piece ss k = enc (alike (ahead ss k) (txt ss k)) ++ enc ((txt ss k).size - alike (ahead ss k) (txt ss k)) ++ (strInts (txt ss k)).drop (alike (ahead ss k) (txt ss k))) := rfl
        have hsz := hbel.size
        clear hlen
        go_wp2_with fail
        refine (sharedStart_any _ _ _ (by omega) (by omega)).mono ?_
        rintro e w1 ⟨rfl, n1, rfl⟩
        generalize alike (ahead ss k) (txt ss k) = al at hal HP ⊢
        have hel := enc_len (n := al) (by omega)
        have hel2 := enc_len (n := (txt ss k).size - al) (by omega)
        go_wp2_with fail
        refine (appendInt_any w'.heap.size (wr.drewN n1) _ (putN ss k) al (by omega) (by omega) (by exact hsz) how).mono ?_
        rintro e w2 ⟨r2, rfl, ho2, hb2⟩
        have hbel2 : Below w'.heap.size w' w2 := (below_drewN hbel n1).trans hb2
        have hsz2 := hbel2.size
        clear how c1
        go_wp2_with fail
        rw [show (((txt ss k).size : Int) - (al : Int)) = (((txt ss k).size - al : Nat) : Int) by omega]
        refine (appendInt_any w'.heap.size w2 _ (putN ss k ++ enc al) ((txt ss k).size - al) (by omega) (by simp; omega) hsz2 ho2).mono ?_
        rintro e w3 ⟨r3, rfl, ho3, hb3⟩
        have hbel3 : Below w'.heap.size w' w3 := hbel2.trans hb3
        have hsz3 := hbel3.size
        have hxs : ((txt ss k).extract al (txt ss k).size).size = (txt ss k).size - al := by simp
        clear ho2
        go_wp2_with (at_builtin; refine wpList_append_own_string _ rfl _ _ 22 9 rfl w'.heap.size 5 i0 Tryz.underlying22 Tryz.underlying9 hi hz0 hz1 hz2 _ _ _ rfl ho3 ((txt ss k).extract al (txt ss k).size) rfl (by simp [maxLen]; omega) (by simp; omega) (by omega) ?_)
        intro v6 w6 ho6 hg6 _
        have hout6 := own_of ho6
        have hbel6 : Below w'.heap.size w' w6 := hbel3.grown hg6 hsz3 ho3.lt
        rw [strCells_from _ _ hal.2] at hout6
        have hfin : Own 5 w6 w'.heap.size v6 ((putN ss (k + 1)).map (Value.int .u8)) := by
          have e : (putN ss (k + 1)).map (Value.int .u8) = (putN ss k).map (Value.int .u8) ++ (enc al).map (Value.int .u8) ++ (enc ((txt ss k).size - al)).map (Value.int .u8) ++ ((strInts (txt ss k)).drop al).map (Value.int .u8) := by
            simp only [putN]
            rw [HP.out]
            simp
          rw [e]
          simpa using hout6
        clear ho6 hg6 ho3 hout6
        go_wp2_with fail
        go_roundw
        case rel => exact ⟨k + 1, hlt, by go_num, rfl, hfin, hbel6⟩
        case measure => simp [intOf]; omega
      · have hke : k = ss.length := by omega
        subst hke
        obtain ⟨ao1, cap1, rfl, hsh1⟩ := how.slice
        rw [List.length_map] at how hsh1
        clear hsh1 hr hr0
        by_cases hbig : 1048576 < (putN ss ss.length).length
        · obtain ⟨e1, e2⟩ := putTexts_no (ss := ss) (by omega)
          have E1 : Hid _ := e1
          have E2 : Hid _ := e2
          clear e1 e2
          rw [List.length_map]
          go_wp2_with fail
          go_ret2
          exact ⟨_, by rw [E2.out]; rfl, by rw [E1.out]; exact World.ownsRow_nil _ _ _ _, hbel⟩
        · obtain ⟨e1, e2⟩ := putTexts_yes (ss := ss) ⟨by omega, ht, by omega⟩
          have E1 : Hid _ := e1
          have E2 : Hid _ := e2
          clear e1 e2
          rw [List.length_map]
          go_wp2_with fail
          go_ret2
          exact ⟨_, by rw [E2.out]; rfl, by rw [E1.out]; exact how, hbel⟩
end Go.Proofs.YtocffojhhjdeoaaGreat
