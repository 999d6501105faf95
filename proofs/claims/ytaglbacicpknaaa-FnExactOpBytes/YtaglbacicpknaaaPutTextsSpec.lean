/- What l01PutTexts and the specification's PutTexts do. -/
import Derived.Test.YtaglbacicpknaaaTexts
namespace Go.Proofs.Ytaglbacicpknaaa
open Go.RowKit Go.Lib
set_option linter.unusedVariables false

set_option maxHeartbeats 2000000 in
set_option maxRecDepth 100000 in
theorem l01PutTexts_any (C : Nat) (w : World) (v : Value) (ss : List ByteArray) (hl : ss.length ≤ 4096) (ht : tot ss ss.length ≤ 1048576) (hC : C ≤ w.heap.size) (hr : Rd C w v (ss.map Value.string)) :
    Calls Try.prog 32 #[v] w fun e w' => ∃ r k, e = .returned r ∧ k ≤ ss.length ∧ Own 5 w' w.heap.size r ((putN ss k).map (Value.int .u8)) ∧ (k = ss.length ∨ 1048576 < (putN ss k).length) ∧ Below w.heap.size w w' := by
  obtain ⟨i0, hi, hz0, hz1, hz2⟩ := info_parts info5
  have hlen := putN_len ss (by omega) ss.length ht
  obtain ⟨ao, cap, rfl, _, _, _, hr⟩ := hr
  rw [List.length_map] at hr ⊢
  go_enter Try.func32, Try.ntmps32
  go_wp2_with fail
  refine (l01Put_any ss.length ss.length w (Nat.le_refl _) (by omega)).mono ?_
  rintro e w0 ⟨r0, rfl, ho0, hb0⟩
  go_wp2_with fail
  go_loopw [3, 4, 5, 6] (fun to tl ti tn wr => ∃ k : Nat, k ≤ ss.length ∧ ti = .int .i64 k ∧ tl = .string (ahead ss k) ∧ Own 5 wr w.heap.size to ((putN ss k).map (Value.int .u8)) ∧ Below w.heap.size w wr) (fun _ _ ti _ _ => ss.length - (intOf ti).toNat)
  case atStart => exact ⟨0, Nat.zero_le _, rfl, rfl, ho0, hb0⟩
  case round =>
    clear ho0 hb0
    obtain ⟨k, hk, rfl, rfl, how, hbel⟩ := hrel
    by_cases hlt : k < ss.length
    · obtain ⟨g, off, rfl, hg, hc⟩ := hr (by omega)
      have hcell : ∀ w' : World, Below w.heap.size w w' → w'.cell? ⟨g, off + k, none⟩ = some (.string (txt ss k)) := fun w' hb => (hb.cell (p := ⟨g, off + k, none⟩) (by show g < _; omega)).trans (hc k _ (by simp [txt, hlt]))
      have HCELL : Hid _ := hcell
      clear hc hr hcell
      have hln := hlen k (by omega)
      have hln1 := hlen (k + 1) (by omega)
      have htk := tot_mono ss hk
      have hts := tot_size ss hlt
      have hta : (ahead ss k).size ≤ 1048576 := by
        cases k with
        | zero => simp [ahead]
        | succ k => have := tot_size ss (show k < ss.length by omega); simp only [ahead]; omega
      have hal := alike_le (ahead ss k) (txt ss k)
      have hpc : (putN ss (k + 1)).length = (putN ss k).length + (piece ss k).length := by simp [putN]
      have htk1 := tot_mono ss (show k + 1 ≤ ss.length from hlt)
      have HP : Hid (piece ss k = enc (alike (ahead ss k) (txt ss k)) ++ enc ((txt ss k).size - alike (ahead ss k) (txt ss k)) ++ (strInts (txt ss k)).drop (alike (ahead ss k) (txt ss k))) := rfl
      have c1 := HCELL.out _ hbel
      have hsz := hbel.size
      clear hlen
      go_wp2_with fail
      refine (l01Alike_any _ _ _ (by omega) (by omega)).mono ?_
      rintro e w1 ⟨rfl, n1, rfl⟩
      generalize alike (ahead ss k) (txt ss k) = al at hal HP ⊢
      have hel := enc_len (n := al) (by omega)
      have hel2 := enc_len (n := (txt ss k).size - al) (by omega)
      go_wp2_with fail
      refine (l01Put_any al al _ (Nat.le_refl _) (by omega)).mono ?_
      rintro e w2 ⟨r2, rfl, ho2, hb2⟩
      have hout2 : Own 5 w2 w.heap.size _ _ := (show Own 5 (wr.drewN n1) w.heap.size _ _ from how).below hb2 (Nat.le_refl _)
      have hbel2 : Below w.heap.size w w2 := (below_drewN hbel n1).trans (hb2.mono hsz)
      have hsz2 := hbel2.size
      obtain ⟨g2, cap2, rfl, hb2', hlt2, hc2⟩ := ho2.some (by simpa using enc_pos _)
      rw [List.length_map] at ho2 ⊢
      clear how c1 ho2
      go_wp2_with (at_builtin; refine wpList_append_own _ rfl _ _ 30 rfl w.heap.size 5 i0 (.int .u8 0) 1 1 Try.underlying30 hi hz0 hz1 hz2 rfl (by decide) _ _ _ rfl hout2 ⟨g2, 0, none⟩ (enc al).length cap2 ((enc al).map (Value.int .u8)) rfl (by simp) hc2 (ints_oneCell _ _) (by simp [maxLen]; omega) (by simp; omega) (by omega) ?_)
      intro v3 w3 ho3 hg3 _
      have hout3 := own_of ho3
      have hbel3 : Below w.heap.size w w3 := hbel2.grown hg3 hsz2 hout2.lt
      have hsz3 := hbel3.size
      have c3 := HCELL.out _ hbel3
      clear ho3 hg3 hout2 hc2
      go_wp2_with fail
      rw [show (((txt ss k).size : Int) - (al : Int)) = (((txt ss k).size - al : Nat) : Int) by omega]
      refine (l01Put_any _ ((txt ss k).size - al) w3 (Nat.le_refl _) (by omega)).mono ?_
      rintro e w4 ⟨r4, rfl, ho4, hb4⟩
      have hout4 : Own 5 w4 w.heap.size _ _ := hout3.below hb4 (Nat.le_refl _)
      have hbel4 : Below w.heap.size w w4 := hbel3.trans (hb4.mono hsz3)
      have hsz4 := hbel4.size
      obtain ⟨g4, cap4, rfl, hb4', hlt4, hc4⟩ := ho4.some (by simpa using enc_pos _)
      rw [List.length_map] at ho4 ⊢
      clear hout3 c3 ho4
      go_wp2_with (at_builtin; refine wpList_append_own _ rfl _ _ 30 rfl w.heap.size 5 i0 (.int .u8 0) 1 1 Try.underlying30 hi hz0 hz1 hz2 rfl (by decide) _ _ _ rfl hout4 ⟨g4, 0, none⟩ (enc ((txt ss k).size - al)).length cap4 ((enc ((txt ss k).size - al)).map (Value.int .u8)) rfl (by simp) hc4 (ints_oneCell _ _) (by simp [maxLen]; omega) (by simp; omega) (by omega) ?_)
      intro v5 w5 ho5 hg5 _
      have hout5 := own_of ho5
      have hbel5 : Below w.heap.size w w5 := hbel4.grown hg5 hsz4 hout4.lt
      have hsz5 := hbel5.size
      have c5 := HCELL.out _ hbel5
      clear ho5 hg5 hout4 hc4
      have hxs : ((txt ss k).extract al (txt ss k).size).size = (txt ss k).size - al := by simp
      go_wp2_with (at_builtin; refine wpList_append_own_string _ rfl _ _ 30 9 rfl w.heap.size 5 i0 Try.underlying30 Try.underlying9 hi hz0 hz1 hz2 _ _ _ rfl hout5 ((txt ss k).extract al (txt ss k).size) rfl (by simp [maxLen]; omega) (by simp; omega) (by omega) ?_)
      intro v6 w6 ho6 hg6 _
      have hout6 := own_of ho6
      have hbel6 : Below w.heap.size w w6 := hbel5.grown hg6 hsz5 hout5.lt
      have hsz6 := hbel6.size
      have c6 := HCELL.out _ hbel6
      rw [strCells_from _ _ hal.2] at hout6
      have hfin : Own 5 w6 w.heap.size v6 ((putN ss (k + 1)).map (Value.int .u8)) := by
        have e : (putN ss (k + 1)).map (Value.int .u8) = (putN ss k).map (Value.int .u8) ++ (enc al).map (Value.int .u8) ++ (enc ((txt ss k).size - al)).map (Value.int .u8) ++ ((strInts (txt ss k)).drop al).map (Value.int .u8) := by
          simp only [putN]
          rw [HP.out]
          simp
        rw [e]
        simpa using hout6
      clear ho6 hg6 hout5 hout6
      obtain ⟨ao6, cap6, rfl, hsh6⟩ := hfin.slice
      rw [List.length_map] at hfin hsh6 ⊢
      clear hsh6
      by_cases hbig : 1048576 < (putN ss (k + 1)).length
      · go_wp2_with fail
        go_ret
        exact ⟨_, k + 1, rfl, hlt, hfin, .inr hbig, hbel6⟩
      · go_wp2_with fail
        go_roundw
        case rel => exact ⟨k + 1, hlt, by go_num, rfl, hfin, hbel6⟩
        case measure => simp [intOf]; omega
    · go_wp2_with fail
      go_ret
      exact ⟨_, k, rfl, hk, how, .inl (by omega), hbel⟩

end Go.Proofs.Ytaglbacicpknaaa
