/- What the code's PutTexts does. -/
import Derived.Test.YtaglbacicpknaaaTexts
namespace Go.Proofs.Ytaglbacicpknaaa
open Go.RowKit Go.Lib
set_option linter.unusedVariables false

set_option maxHeartbeats 2000000 in
set_option maxRecDepth 100000 in
theorem implPutTexts_any (C : Nat) (w : World) (v : Value) (ss : List ByteArray) (hl : ss.length ≤ 1048576) (ht : tot ss ss.length ≤ 1048576) (hC : C ≤ w.heap.size) (hr : Rd C w v (ss.map Value.string)) :
    Calls Try.prog 43 #[v] w fun e w' => ∃ r, e = .returned (.tuple #[r, .int .i64 (putTextsC ss)]) ∧ Own 5 w' w.heap.size r ((putTextsB ss).map (Value.int .u8)) ∧ Below w.heap.size w w' := by
  obtain ⟨i0, hi, hz0, hz1, hz2⟩ := info_parts info5
  have hlen := putN_len ss (by omega) ss.length ht
  have hr0 := hr
  obtain ⟨ao, cap, rfl, _, _, _, hr⟩ := hr
  rw [List.length_map] at hr hr0 ⊢
  by_cases h4 : 4096 < ss.length
  · obtain ⟨e1, e2⟩ := putTexts_no (ss := ss) (by omega)
    rw [e1, e2]
    clear e1 e2
    go_enter Try.func43, Try.ntmps43
    go_wp2_with fail
    go_ret2
    exact ⟨_, rfl, World.ownsRow_nil _ _ _ _, Below.refl _ _⟩
  · go_enter Try.func43, Try.ntmps43
    go_wp2_with fail
    refine (textsSize_any C w _ ss hl ht hr0).mono ?_
    rintro e w' ⟨rfl, rfl⟩
    go_wp2_with fail
    refine (appendInt_any w'.heap.size w' _ [] ss.length (by omega) (by simp) (Nat.le_refl _) (World.ownsRow_nil _ _ _ _)).mono ?_
    rintro e w0 ⟨r0, rfl, ho0, hb0⟩
    rw [List.nil_append] at ho0
    go_wp2_with fail
    go_loopw [4, 5, 22] (fun to tl ti wr => ∃ k : Nat, k ≤ ss.length ∧ ti = .int .i64 k ∧ tl = .string (ahead ss k) ∧ Own 5 wr w'.heap.size to ((putN ss k).map (Value.int .u8)) ∧ Below w'.heap.size w' wr) (fun _ _ ti _ => ss.length - (intOf ti).toNat)
    case atStart => exact ⟨0, Nat.zero_le _, rfl, rfl, ho0, hb0⟩
    case round =>
      clear ho0 hb0
      obtain ⟨k, hk, rfl, rfl, how, hbel⟩ := hrel
      have hln := hlen k hk
      have htk := tot_mono ss hk
      by_cases hlt : k < ss.length
      · obtain ⟨g, off, rfl, hg, hc⟩ := hr (by omega)
        have c1 : wr.cell? ⟨g, off + k, none⟩ = some (.string (txt ss k)) := (hbel.cell (p := ⟨g, off + k, none⟩) (by show g < _; omega)).trans (hc k _ (by simp [txt, hlt]))
        clear hc hr hr0
        have hts := tot_size ss hlt
        have hta : (ahead ss k).size ≤ 1048576 := by
          cases k with
          | zero => simp [ahead]
          | succ k => have := tot_size ss (show k < ss.length by omega); simp only [ahead]; omega
        have hal := alike_le (ahead ss k) (txt ss k)
        have HP : Hid (piece ss k = enc (alike (ahead ss k) (txt ss k)) ++ enc ((txt ss k).size - alike (ahead ss k) (txt ss k)) ++ (strInts (txt ss k)).drop (alike (ahead ss k) (txt ss k))) := rfl
        have hsz := hbel.size
        clear hlen
        go_wp2_with fail
        refine (sharedStart_any _ _ _ (by omega) (by omega)).mono ?_
        rintro e w1 ⟨rfl, n1, rfl⟩
        generalize alike (ahead ss k) (txt ss k) = al at hal HP ⊢
        have hel := enc_len (n := al) (by omega)
        have hel2 := enc_len (n := (txt ss k).size - al) (by omega)
        go_wp2_with fail
        refine (appendInt_any w'.heap.size (wr.drewN n1) _ (putN ss k) al (by omega) (by omega) (by exact hsz) how).mono ?_
        rintro e w2 ⟨r2, rfl, ho2, hb2⟩
        have hbel2 : Below w'.heap.size w' w2 := (below_drewN hbel n1).trans hb2
        have hsz2 := hbel2.size
        clear how c1
        go_wp2_with fail
        rw [show (((txt ss k).size : Int) - (al : Int)) = (((txt ss k).size - al : Nat) : Int) by omega]
        refine (appendInt_any w'.heap.size w2 _ (putN ss k ++ enc al) ((txt ss k).size - al) (by omega) (by simp; omega) hsz2 ho2).mono ?_
        rintro e w3 ⟨r3, rfl, ho3, hb3⟩
        have hbel3 : Below w'.heap.size w' w3 := hbel2.trans hb3
        have hsz3 := hbel3.size
        have hxs : ((txt ss k).extract al (txt ss k).size).size = (txt ss k).size - al := by simp
        clear ho2
        go_wp2_with (at_builtin; refine wpList_append_own_string _ rfl _ _ 30 9 rfl w'.heap.size 5 i0 Try.underlying30 Try.underlying9 hi hz0 hz1 hz2 _ _ _ rfl ho3 ((txt ss k).extract al (txt ss k).size) rfl (by simp [maxLen]; omega) (by simp; omega) (by omega) ?_)
        intro v6 w6 ho6 hg6 _
        have hout6 := own_of ho6
        have hbel6 : Below w'.heap.size w' w6 := hbel3.grown hg6 hsz3 ho3.lt
        rw [strCells_from _ _ hal.2] at hout6
        have hfin : Own 5 w6 w'.heap.size v6 ((putN ss (k + 1)).map (Value.int .u8)) := by
          have e : (putN ss (k + 1)).map (Value.int .u8) = (putN ss k).map (Value.int .u8) ++ (enc al).map (Value.int .u8) ++ (enc ((txt ss k).size - al)).map (Value.int .u8) ++ ((strInts (txt ss k)).drop al).map (Value.int .u8) := by
            simp only [putN]
            rw [HP.out]
            simp
          rw [e]
          simpa using hout6
        clear ho6 hg6 ho3 hout6
        go_wp2_with fail
        go_roundw
        case rel => exact ⟨k + 1, hlt, by go_num, rfl, hfin, hbel6⟩
        case measure => simp [intOf]; omega
      · have hke : k = ss.length := by omega
        subst hke
        obtain ⟨ao1, cap1, rfl, hsh1⟩ := how.slice
        rw [List.length_map] at how hsh1
        clear hsh1 hr hr0
        by_cases hbig : 1048576 < (putN ss ss.length).length
        · obtain ⟨e1, e2⟩ := putTexts_no (ss := ss) (by omega)
          have E1 : Hid _ := e1
          have E2 : Hid _ := e2
          clear e1 e2
          rw [List.length_map]
          go_wp2_with fail
          go_ret2
          exact ⟨_, by rw [E2.out]; rfl, by rw [E1.out]; exact World.ownsRow_nil _ _ _ _, hbel⟩
        · obtain ⟨e1, e2⟩ := putTexts_yes (ss := ss) ⟨by omega, ht, by omega⟩
          have E1 : Hid _ := e1
          have E2 : Hid _ := e2
          clear e1 e2
          rw [List.length_map]
          go_wp2_with fail
          go_ret2
          exact ⟨_, by rw [E2.out]; rfl, by rw [E1.out]; exact how, hbel⟩
end Go.Proofs.Ytaglbacicpknaaa
