/- What the specification's l02Bytes and VecBytes do. -/
import Derived.Test.YtpiadcjkbbgggaaVecBytesImpl
namespace Go.Proofs.Ytpiadcjkbbgggaa
open Go.RowKit
set_option linter.unusedVariables false

set_option maxHeartbeats 2000000 in
set_option maxRecDepth 100000 in
theorem l02Bytes_any (C : Nat) (w : World) (va : Value) (xs : List Int) (hok : vecOK xs = true) (hC : C ≤ w.heap.size) (ha : Rd C w va (xs.map (Value.int .i64))) :
    Calls Try.prog 50 #[.agg #[va]] w fun e w' => ∃ r, e = .returned r ∧ Own 5 w' w.heap.size r ((bytesTo xs (toldN xs 16)).map (Value.int .u8)) ∧ Below w.heap.size w w' := by
  obtain ⟨j0, hi, hz0, hz1, hz2⟩ := info_parts info5
  have hx := (vecOK_get hok).1
  have HD : Hid _ := vec_get hok
  obtain ⟨ao, ca, rfl, _, _, _, ha⟩ := ha
  rw [List.length_map] at ha ⊢
  obtain ⟨ga, oa, rfl, hga, hca⟩ := ha (by omega)
  have HA : Hid (∀ k, k < 16 → ∀ w' : World, Below w.heap.size w w' → w'.cell? ⟨ga, oa + k, none⟩ = some (.int .i64 (xs.getD k 0))) := fun k hk w' h => (h.cell (p := ⟨ga, oa + k, none⟩) (by show ga < _; omega)).trans (hca k _ (by simp [show k < xs.length by omega]))
  rw [hx]
  clear ha hca hok
  have hB0 := below_alloc w (.cells #[.slice (some ⟨ga, oa, none⟩) 16 ca] 38)
  have cA0 := cell_made1 (Below.refl (w.alloc (.cells #[.slice (some ⟨ga, oa, none⟩) 16 ca] 38)).heap.size _)
  have hW0 : w.heap.size < (w.alloc (.cells #[.slice (some ⟨ga, oa, none⟩) 16 ca] 38)).heap.size := by simp
  go_enter Try.func50, Try.ntmps50
  go_wp2_with fail
  generalize w.alloc (.cells #[.slice (some ⟨ga, oa, none⟩) 16 ca] 38) = W at hB0 cA0 hW0 ⊢
  go_loop [3] (fun ti => ∃ s : Nat, s ≤ 16 ∧ ti = .int .i64 (s : Int) ∧ Hid (toldN xs 16 = toldN xs s)) (fun ti => (intOf ti).toNat)
  case atStart => exact ⟨16, Nat.le_refl _, rfl, rfl⟩
  case round =>
    obtain ⟨s, hs, rfl, HT⟩ := hrel
    by_cases hgo : ∃ s', s = s' + 1 ∧ xs.getD s' 0 = 0
    · obtain ⟨s, rfl, h0⟩ := hgo
      have c1 := HA.out s (by omega) W hB0
      have i0 : (0 : Int) ≤ (s : Int) := by omega
      have i1 : (s : Int) < 16 := by omega
      have HN : Hid (toldN xs 16 = toldN xs s) := by unfold Hid; rw [HT.out, toldN, if_pos h0]
      rw [h0] at c1
      clear HT h0
      go_wp2_with fail
      go_round
      case rel => exact ⟨s, by omega, by go_num, HN⟩
      case measure => simp [intOf]
    · have HN : Hid (toldN xs 16 = s) := by
        unfold Hid
        rw [HT.out]
        cases s with
        | zero => rfl
        | succ s => rw [toldN, if_neg (fun h => hgo ⟨s, rfl, h⟩)]
      refine if hs0 : s = 0 then ?wayN else ?wayS
      case' wayN =>
        subst hs0
        clear HT hgo
        go_wp2_with fail
      case' wayS =>
        obtain ⟨t, rfl⟩ : ∃ t, s = t + 1 := ⟨s - 1, by omega⟩
        have c1 := HA.out t (by omega) W hB0
        have i0 : (0 : Int) ≤ (t : Int) := by omega
        have i1 : (t : Int) < 16 := by omega
        have hne : ¬ xs.getD t 0 = 0 := fun h => hgo ⟨t, rfl, h⟩
        generalize xs.getD t 0 = x at c1 hne
        have hb : (x == 0) = false := by simpa using hne
        clear HT hgo hne hs0
        go_wp2_with fail
      all_goals
        have hoB := own_lit W 5 [] 0 rfl (by decide)
        have hB1 := below_seq hB0 (below_alloc W (.cells #[] 5))
        have cA1 := alloc_keep cA0 (.cells #[] 5)
        go_loopw [4, 5] (fun to ti wr => ∃ k : Nat, k ≤ toldN xs 16 ∧ ti = .int .i64 (k : Int) ∧ Own 5 wr W.heap.size to ((bytesTo xs k).map (Value.int .u8)) ∧ Below W.heap.size W wr) (fun _ ti _ => 16 - (intOf ti).toNat)
        case atStart => exact ⟨0, Nat.zero_le _, rfl, hoB, below_alloc _ _⟩
        case round =>
          clear hoB hB1 cA1
          obtain ⟨k, hk, rfl, ho, hBr⟩ := hrel
          have htl := toldN_le xs 16
          have hN := HN.out
          by_cases hlt : k < toldN xs 16
          · first
            | (exfalso; omega)
            | (have cX := HA.out k (by omega) wr (below_seq hB0 hBr)
               have cA := (hBr.cell (p := ⟨w.heap.size, 0, none⟩) hW0).trans cA0
               have hd := HD.out k
               have hbl := bytesTo_len xs (fun k => by have := HD.out k; omega) k
               have HS : Hid (bytesTo xs (k + 1) = bytesTo xs k ++ enc (xs.getD k 0).toNat) := rfl
               obtain ⟨x, hx'⟩ := Int.eq_ofNat_of_zero_le hd.1
               rw [hx'] at cX hd HS
               rw [Int.toNat_natCast] at HS
               have q0 : (0 : Int) ≤ (k : Int) := by omega
               have q1 : (k : Int) < 16 := by omega
               have q2 : (k : Int) < (t : Int) + 1 := by omega
               have hm1 : 16 - (k + 1) < 16 - k := by omega
               have hk1 : k + 1 ≤ toldN xs 16 := by omega
               have hel := enc_len (n := x) (by omega)
               have HK1 : Hid _ := hk1
               have hsz := hBr.size
               clear hN hlt hk htl HN hk1
               go_wp2_with fail
               refine (l01Put_any x x wr (Nat.le_refl _) (by omega)).mono ?_
               rintro e w6 ⟨r6, rfl, ho6, hb6⟩
               have hz6 := hb6.size
               have how := ho.below hb6 (Nat.le_refl _)
               have hB6 := hBr.trans (hb6.mono hsz)
               clear ho hBr hb6 cX cA
               go_wp2_with (at_builtin; refine wpList_append_rd rfl (.tmp 25) (.tmp 31) 22 rfl W.heap.size 5 j0 (.int .u8 0) 1 Try.underlying22 hi hz0 hz1 hz2 rfl _ _ rfl how _ _ ((enc x).map (Value.int .u8)) rfl ho6.rd (ints_oneCell _ _) (by simp [maxLen]; omega) (by simp; omega) (by omega) ?_)
               intro v7 w7 ho7 hg7
               have hB7 : Below W.heap.size W w7 := hB6.grown hg7 (by omega) how.lt
               have ho8 : Own 5 w7 W.heap.size v7 ((bytesTo xs (k + 1)).map (Value.int .u8)) := by rw [HS.out]; simpa using ho7
               clear ho7 hg7 how hB6 ho6
               go_wp2_with fail
               go_roundw
               case rel => exact ⟨k + 1, HK1.out, by go_num, ho8, hB7⟩
               case measure => simp [intOf]; omega)
          · obtain rfl : toldN xs 16 = k := by omega
            have hfin : Below w.heap.size w wr := below_seq hB0 hBr
            have hof := ho.mono hB0.size
            rw [hN] at hof ⊢
            have q3 : ¬ ((toldN xs 16 : Nat) : Int) < ((toldN xs 16 : Nat) : Int) := by omega
            rw [hN] at q3
            have E1 : Hid _ := hN
            clear hlt hN hk htl HN ho hBr
            go_wp2_with fail
            go_ret
            exact ⟨_, rfl, by rw [E1.out]; exact hof, hfin⟩

end Go.Proofs.Ytpiadcjkbbgggaa
