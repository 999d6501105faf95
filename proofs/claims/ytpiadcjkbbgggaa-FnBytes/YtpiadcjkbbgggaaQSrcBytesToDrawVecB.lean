/- Drawn numbers, texts, lists of numbers and vectors. What the draw of VecBytes answers; and what the laws' sameTexts and sameInts say of two lists that are alike. -/
import Derived.Test.YtpiadcjkbbgggaaQSrcToSrcMore
import Derived.Test.YtpiadcjkbbgggaaQSrcVecToSrcVec2
import Derived.Test.YtpiadcjkbbgggaaQInfoToRunsDef
import Derived.Test.YtpiadcjkbbgggaaQTextsToPutTextsSpec
import Derived.Test.YtpiadcjkbbgggaaQTextsBase
namespace Go.Proofs.Ytpiadcjkbbgggaa
open Go.RowKit
set_option linter.unusedVariables false

theorem litNum (n : Nat) (h : n < 9) : ∃ x : Int, -9223372036854775808 ≤ x ∧ x ≤ 9223372036854775807 ∧ (#[.int .i64 0, .int .i64 1, .int .i64 127, .int .i64 128, .int .i64 16383, .int .i64 16384, .int .i64 4611686018427387903, .int .i64 4611686018427387902, .int .i64 1152921504606846975] : Array Value)[n]? = some (.int .i64 x) := by
  match n, h with
  | 0, _ => exact ⟨_, by decide, by decide, rfl⟩
  | 1, _ => exact ⟨_, by decide, by decide, rfl⟩
  | 2, _ => exact ⟨_, by decide, by decide, rfl⟩
  | 3, _ => exact ⟨_, by decide, by decide, rfl⟩
  | 4, _ => exact ⟨_, by decide, by decide, rfl⟩
  | 5, _ => exact ⟨_, by decide, by decide, rfl⟩
  | 6, _ => exact ⟨_, by decide, by decide, rfl⟩
  | 7, _ => exact ⟨_, by decide, by decide, rfl⟩
  | 8, _ => exact ⟨_, by decide, by decide, rfl⟩
theorem litMin (n : Nat) (h : n < 4) : ∃ x : Int, -9223372036854775808 ≤ x ∧ x ≤ 9223372036854775807 ∧ (#[.int .i64 (-1), .int .i64 4611686018427387904, .int .i64 9223372036854775807, .int .i64 (-9223372036854775808)] : Array Value)[n]? = some (.int .i64 x) := by
  match n, h with
  | 0, _ => exact ⟨_, by decide, by decide, rfl⟩
  | 1, _ => exact ⟨_, by decide, by decide, rfl⟩
  | 2, _ => exact ⟨_, by decide, by decide, rfl⟩
  | 3, _ => exact ⟨_, by decide, by decide, rfl⟩
theorem litR (n : Nat) (h : n < 3) : ∃ x : Int, (#[.int .i64 (-1), .int .i64 1152921504606846975, .int .i64 1152921504606846976] : Array Value)[n]? = some (.int .i64 x) := by
  match n, h with
  | 0, _ => exact ⟨_, rfl⟩
  | 1, _ => exact ⟨_, rfl⟩
  | 2, _ => exact ⟨_, rfl⟩

set_option maxHeartbeats 2000000 in
set_option maxRecDepth 100000 in
theorem num_any (C b A : Nat) (w : World) (h : Src C w b A) (hA : A ≤ 800000000) :
    Calls Try.prog 55 #[.pointer (some ⟨b, 0, none⟩)] w fun e w' => ∃ x : Int, e = .returned (.int .i64 x) ∧ -9223372036854775808 ≤ x ∧ x ≤ 9223372036854775807 ∧ Src C w' b (A + 9) ∧ w.grownBy w' (some b) := by
  go_enter Try.func55, Try.ntmps55
  go_wp2_with fail
  refine (srcNext_any C b A 12 _ h (by omega) (by omega) (by omega)).mono ?_
  rintro e w1 ⟨r, rfl, hr0, hr1, hS, hG⟩
  refine if h0 : r = 0 then ?pa else ?pb
  case' pb => refine if h1 : r = 1 then ?pc else ?pd
  case' pd => refine if h2 : r = 2 then ?pe else ?pf
  case' pf => refine if h3 : r = 3 then ?pg else ?ph
  case' ph => refine if h4 : r = 4 then ?pi else ?pj
  case pa =>
    subst h0
    go_wp2_with fail
    refine (srcNext_any C b _ 9 _ (hS.alloc _) (by omega) (by omega) (by omega)).mono ?_
    rintro e w2 ⟨r2, rfl, hr2, hr3, hS2, hG2⟩
    obtain ⟨n1, rfl⟩ : ∃ n : Nat, r2 = (n : Int) := ⟨r2.toNat, by omega⟩
    obtain ⟨x1, l1, l2, hx1⟩ := litNum n1 (by omega)
    have hl := cell_blk (blk_kept hS.lt hG2) n1 hx1
    have hG3 := grownBy_trans (gr_alloc hG _) hG2
    go_wp2_with fail
    go_ret
    exact ⟨_, rfl, l1, l2, hS2.mono (by omega), hG3⟩
  case pc =>
    subst h1
    go_wp2_with fail
    refine (srcNext_any C b _ 16777216 _ hS (by omega) (by omega) (by omega)).mono ?_
    rintro e w2 ⟨r2, rfl, hr2, hr3, hS2, hG2⟩
    go_wp2_with fail
    refine (srcNext_any C b _ 65536 _ hS2 (by omega) (by omega) (by omega)).mono ?_
    rintro e w3 ⟨r3, rfl, hr4, hr5, hS3, hG3⟩
    go_wp2_with fail
    go_ret
    exact ⟨_, rfl, by omega, by omega, hS3.mono (by omega), grownBy_trans (grownBy_trans hG hG2) hG3⟩
  case pe =>
    subst h2
    go_wp2_with fail
    refine (srcNext_any C b _ 4 _ (hS.alloc _) (by omega) (by omega) (by omega)).mono ?_
    rintro e w2 ⟨r2, rfl, hr2, hr3, hS2, hG2⟩
    obtain ⟨n1, rfl⟩ : ∃ n : Nat, r2 = (n : Int) := ⟨r2.toNat, by omega⟩
    obtain ⟨x1, l1, l2, hx1⟩ := litMin n1 (by omega)
    have hl := cell_blk (blk_kept hS.lt hG2) n1 hx1
    have hG3 := grownBy_trans (gr_alloc hG _) hG2
    go_wp2_with fail
    go_ret
    exact ⟨_, rfl, l1, l2, hS2.mono (by omega), hG3⟩
  case pg =>
    subst h3
    go_wp2_with fail
    refine (srcNext_any C b _ 100000 _ hS (by omega) (by omega) (by omega)).mono ?_
    rintro e w2 ⟨r2, rfl, hr2, hr3, hS2, hG2⟩
    go_wp2_with fail
    go_ret
    exact ⟨_, rfl, by omega, by omega, hS2.mono (by omega), grownBy_trans hG hG2⟩
  case pi =>
    subst h4
    go_wp2_with fail
    refine (srcNext_any C b _ 100000 _ hS (by omega) (by omega) (by omega)).mono ?_
    rintro e w2 ⟨r2, rfl, hr2, hr3, hS2, hG2⟩
    go_wp2_with fail
    go_ret
    exact ⟨_, rfl, by omega, by omega, hS2.mono (by omega), grownBy_trans hG hG2⟩
  case pj =>
    go_wp2_with fail
    refine (srcNext_any C b _ 60 _ hS (by omega) (by omega) (by omega)).mono ?_
    rintro e w2 ⟨r2, rfl, hr2, hr3, hS2, hG2⟩
    go_wp2_with fail
    go_ret
    exact ⟨_, rfl, by omega, by omega, hS2.mono (by omega), grownBy_trans hG hG2⟩

set_option maxHeartbeats 1000000 in
set_option maxRecDepth 100000 in
theorem drawPutInt_any (C : Nat) (w : World) (v : Value) (xs : List Int) (hC : C ≤ w.heap.size) (hr : Rd C w v (xs.map (Value.int .u8))) (hX : ∀ x ∈ xs, 0 ≤ x ∧ x ≤ 255) (hl : xs.length ≤ 1048576) :
    Calls Try.prog 25 #[v] w fun e w' => ∃ x : Int, e = .returned (.int .i64 x) ∧ -9223372036854775808 ≤ x ∧ x ≤ 9223372036854775807 ∧ Below w.heap.size w w' := by
  obtain ⟨ao, la, ca, rfl⟩ : ∃ ao len cap, v = .slice ao len cap := by
    obtain ⟨ao, cap, rfl, _⟩ := hr
    exact ⟨_, _, _, rfl⟩
  go_enter Try.func25, Try.ntmps25
  go_wp2_with fail
  refine (source_any C _ _ xs hC hr hX hl).mono ?_
  rintro e w1 ⟨rfl, hS, hb1⟩
  go_wp2_with fail
  refine (num_any C _ _ _ hS (by omega)).mono ?_
  rintro e w2 ⟨x, rfl, h1, h2, hS2, hG2⟩
  go_wp2_with fail
  go_ret
  exact ⟨_, rfl, h1, h2, gr_below hb1 hG2 (Nat.le_refl _) hb1.size⟩

set_option maxHeartbeats 2000000 in
set_option maxRecDepth 100000 in
theorem l01Texts_any (C b A : Nat) (w : World) (h : Src C w b A) (hA : A ≤ 700000000) :
    Calls Try.prog 61 #[.pointer (some ⟨b, 0, none⟩)] w fun e w' => ∃ (v : Value) (ss : List ByteArray), e = .returned v ∧ ss.length ≤ 30 ∧ (∀ s ∈ ss, s.size ≤ 10) ∧ SwD 9 C w b v (ss.map Value.string) (A + 300) w' := by
  obtain ⟨i0, hi, hz0, hz1, hz2⟩ := info_parts info9
  have hlt := h.lt
  go_enter Try.func61, Try.ntmps61
  have hw0 : SwD 9 C w b (.slice (some ⟨w.heap.size, 0, none⟩) 0 0) [] A (w.alloc (.cells #[] 9)) := ⟨own_lit w 9 [] 0 rfl (by decide), h.alloc _, World.grownBy_alloc w _ _, hlt⟩
  clear h
  go_wp2_with fail
  refine (size_any C _ _ 30 _ hw0.src (by omega)).mono ?_
  rintro e w' ⟨r, rfl, r0, r1, rfl⟩
  go_wp2_with fail
  refine (srcNext_any C _ _ (r + 1) _ hw0.src (by omega) (by omega) (by omega)).mono ?_
  rintro e w2 ⟨n, rfl, n0, n1, hS2, hG2⟩
  have hw2 := hw0.on hS2 hG2
  obtain ⟨j0, rfl⟩ : ∃ j : Nat, n = (j : Int) := ⟨n.toNat, by omega⟩
  clear hw0 hS2 hG2
  go_wp2_with fail
  go_loopw [3, 4] (fun tl ti wr => ∃ (j : Nat) (ss : List ByteArray), ti = .int .i64 (j : Int) ∧ ss.length + j ≤ 30 ∧ (∀ s ∈ ss, s.size ≤ 10) ∧ SwD 9 C w b tl (ss.map Value.string) (A + 3 + 6 * ss.length) wr) (fun _ ti _ => (intOf ti).toNat)
  case atStart => exact ⟨j0, [], rfl, by simp; omega, by simp, hw2⟩
  case round =>
    clear hw2
    obtain ⟨j, ss, rfl, hjl, hsz, hw⟩ := hrel
    by_cases hj : 0 < j
    · have q0 : (0 : Int) < (j : Int) := by omega
      go_wp2_with fail
      refine (word_any C _ _ _ hw.src (by omega)).mono ?_
      rintro e w3 ⟨s1, rfl, z1, hS3, hG3⟩
      have hw3 := hw.on hS3 hG3
      clear hw hS3 hG3
      go_wp2_with fail
      refine (word_any C _ _ _ hw3.src (by omega)).mono ?_
      rintro e w4 ⟨s2, rfl, z2, hS4, hG4⟩
      have hw4 := hw3.on hS4 hG4
      clear hw3 hS4 hG4
      have hsz2 : (s1 ++ s2).size ≤ 10 := by rw [ByteArray.size_append]; omega
      go_wp2_with (at_builtin; refine wpList_append_own _ rfl _ _ 23 rfl w.heap.size 9 i0 (.string ByteArray.empty) 1 16 Try.underlying23 hi hz0 hz1 hz2 rfl (by decide) _ _ _ rfl (hw4.alloc _).own ⟨w4.heap.size, 0, none⟩ 1 1 [.string (s1 ++ s2)] rfl rfl (one_new _ _ _) (by simp [Value.oneCell']) (by simp [maxLen]; omega) (by simp; omega) (by have := hw4.size; simp; omega) ?_)
      intro v5 w5 ho5 hg5 _
      have hw5 := (hw4.alloc (.cells #[.string (s1 ++ s2)] 9)).add (own_of ho5) hg5
      clear hw4 ho5 hg5
      go_wp2_with fail
      go_roundw
      case rel => exact ⟨j - 1, ss ++ [s1 ++ s2], by congr 1; omega, by simp; omega, fun s hs => by rcases List.mem_append.1 hs with h | h; exact hsz s h; rw [List.mem_singleton.1 h]; exact hsz2, by rw [List.map_append]; exact hw5.mono (by simp; omega)⟩
      case measure => simp [intOf]; omega
    · have q0 : ¬ (0 : Int) < (j : Int) := by omega
      go_wp2_with fail
      go_ret
      exact ⟨_, rfl, ss, by omega, hsz, hw.mono (by omega)⟩

theorem tot_small {ss : List ByteArray} {m : Nat} (h : ∀ s ∈ ss, s.size ≤ m) : ∀ k, tot ss k ≤ m * k := by
  intro k
  induction k with
  | zero => simp [tot]
  | succ k ih =>
    have h1 : (txt ss k).size ≤ m := by
      by_cases hk : k < ss.length
      · rw [txt_get hk]
        exact h _ (List.getElem_mem hk)
      · have e : txt ss k = ByteArray.empty := by unfold txt; rw [List.getD_eq_getElem?_getD, List.getElem?_eq_none (by omega)]; rfl
        rw [e]
        exact Nat.zero_le _
    simp only [tot, Nat.mul_add, Nat.mul_one]
    omega

set_option maxHeartbeats 2000000 in
set_option maxRecDepth 100000 in
theorem drawPutTexts_any (C : Nat) (w : World) (v : Value) (xs : List Int) (hC : C ≤ w.heap.size) (hr : Rd C w v (xs.map (Value.int .u8))) (hX : ∀ x ∈ xs, 0 ≤ x ∧ x ≤ 255) (hl : xs.length ≤ 1048576) :
    Calls Try.prog 28 #[v] w fun e w' => ∃ (v' : Value) (ss : List ByteArray), e = .returned v' ∧ ss.length ≤ 4097 ∧ tot ss ss.length ≤ 1000 ∧ Own 9 w' w.heap.size v' (ss.map Value.string) ∧ Below w.heap.size w w' := by
  obtain ⟨i0, hi, hz0, hz1, hz2⟩ := info_parts info9
  obtain ⟨ao, la, ca, rfl⟩ : ∃ ao len cap, v = .slice ao len cap := by
    obtain ⟨ao, cap, rfl, _⟩ := hr
    exact ⟨_, _, _, rfl⟩
  go_enter Try.func28, Try.ntmps28
  go_wp2_with fail
  refine (source_any C _ _ xs hC hr hX hl).mono ?_
  rintro e w1 ⟨rfl, hS, hb1⟩
  go_wp2_with fail
  refine (chance_any C _ _ 60 _ hS (by omega) (by omega) (by omega)).mono ?_
  rintro e w2 ⟨r, rfl, hS2, hG2⟩
  have hb2 := gr_below hb1 hG2 (Nat.le_refl _) hb1.size
  clear hS hG2 hb1
  cases r with
  | true =>
    go_wp2_with fail
    refine (srcNext_any C _ _ 2 _ hS2 (by omega) (by omega) (by omega)).mono ?_
    rintro e w3 ⟨r3, rfl, hr3, hr4, hS3, hG3⟩
    have hb3 := gr_below hb2 hG3 (Nat.le_refl _) hb2.size
    have hz3 := hb3.size
    clear hS2 hG3 hb2
    obtain rfl | rfl : r3 = 0 ∨ r3 = 1 := by omega
    · go_wp2_with (at_make; refine wpList_make_full _ rfl _ _ 23 rfl w.heap.size 9 i0 (.string ByteArray.empty) 1 Try.underlying23 hi hz0 hz1 _ _ _ _ 4096 rfl rfl rfl rfl (by rw [hz2]; omega) (by unfold maxLen; omega) hz3 ?_)
      intro w4 hown hgrow
      have ho4 := own_of hown
      rw [toList_madeCells_one] at ho4
      have hb4 : Below w.heap.size w w4 := hb3.grown hgrow hz3 (fun k hk => by cases hk)
      have ho5 : Own 9 w4 w.heap.size (.slice (some ⟨w3.heap.size, 0, none⟩) 4096 4096) ((List.replicate 4096 ByteArray.empty).map Value.string) := by rw [List.map_replicate]; exact ho4
      have ht : tot (List.replicate 4096 ByteArray.empty) (List.replicate 4096 ByteArray.empty).length ≤ 1000 := Nat.le_trans (tot_small (m := 0) (fun s hs => by rw [List.eq_of_mem_replicate hs]; exact Nat.le_refl _) _) (by omega)
      have hn : (List.replicate 4096 ByteArray.empty).length ≤ 4097 := by rw [List.length_replicate]; omega
      generalize List.replicate 4096 ByteArray.empty = ss at ho5 ht hn
      clear hown hgrow ho4
      go_wp2_with fail
      go_ret
      first | exact ⟨_, ss, rfl, hn, ht, ho5, hb4⟩ | exact ⟨_, rfl, ss, hn, ht, ho5, hb4⟩
    · go_wp2_with (at_make; refine wpList_make_full _ rfl _ _ 23 rfl w.heap.size 9 i0 (.string ByteArray.empty) 1 Try.underlying23 hi hz0 hz1 _ _ _ _ 4097 rfl rfl rfl rfl (by rw [hz2]; omega) (by unfold maxLen; omega) hz3 ?_)
      intro w4 hown hgrow
      have ho4 := own_of hown
      rw [toList_madeCells_one] at ho4
      have hb4 : Below w.heap.size w w4 := hb3.grown hgrow hz3 (fun k hk => by cases hk)
      have ho5 : Own 9 w4 w.heap.size (.slice (some ⟨w3.heap.size, 0, none⟩) 4097 4097) ((List.replicate 4097 ByteArray.empty).map Value.string) := by rw [List.map_replicate]; exact ho4
      have ht : tot (List.replicate 4097 ByteArray.empty) (List.replicate 4097 ByteArray.empty).length ≤ 1000 := Nat.le_trans (tot_small (m := 0) (fun s hs => by rw [List.eq_of_mem_replicate hs]; exact Nat.le_refl _) _) (by omega)
      have hn : (List.replicate 4097 ByteArray.empty).length ≤ 4097 := by rw [List.length_replicate]; omega
      generalize List.replicate 4097 ByteArray.empty = ss at ho5 ht hn
      clear hown hgrow ho4
      go_wp2_with fail
      go_ret
      first | exact ⟨_, ss, rfl, hn, ht, ho5, hb4⟩ | exact ⟨_, rfl, ss, hn, ht, ho5, hb4⟩
  | false =>
    go_wp2_with fail
    refine (l01Texts_any C _ _ _ hS2 (by omega)).mono ?_
    rintro e w3 ⟨v3, ss, rfl, hss, hsz, hw⟩
    have hg3 := hw.gr
    have ho3 := hw.own.mono hb2.size
    have ht := tot_small hsz ss.length
    go_wp2_with fail
    go_ret
    first | exact ⟨_, ss, rfl, by omega, by omega, ho3, gr_below hb2 hg3 (Nat.le_refl _) hb2.size⟩ | exact ⟨_, rfl, ss, by omega, by omega, ho3, gr_below hb2 hg3 (Nat.le_refl _) hb2.size⟩

set_option maxHeartbeats 4000000 in
set_option maxRecDepth 100000 in
theorem l01Numbers_any (C b A : Nat) (w : World) (h : Src C w b A) (hA : A ≤ 700000000) :
    Calls Try.prog 65 #[.pointer (some ⟨b, 0, none⟩)] w fun e w' => ∃ (v : Value) (ls : List Int), e = .returned v ∧ ls.length ≤ 50 ∧ SwD 3 C w b v (ls.map (Value.int .i64)) (A + 1000) w' := by
  obtain ⟨i0, hi, hz0, hz1, hz2⟩ := info_parts info3
  have hlt := h.lt
  go_enter Try.func65, Try.ntmps65
  have hw0 : SwD 3 C w b (.slice (some ⟨w.heap.size, 0, none⟩) 0 0) [] A (w.alloc (.cells #[] 3)) := ⟨own_lit w 3 [] 0 rfl (by decide), h.alloc _, World.grownBy_alloc w _ _, hlt⟩
  clear h
  go_wp2_with fail
  refine (srcNext_any C _ _ 50 _ hw0.src (by omega) (by omega) (by omega)).mono ?_
  rintro e w1 ⟨v1, rfl, a0, a1, hS1, hG1⟩
  have hw1 := hw0.on hS1 hG1
  clear hw0 hS1 hG1
  go_wp2_with fail
  refine (srcNext_any C _ _ 5 _ hw1.src (by omega) (by omega) (by omega)).mono ?_
  rintro e w2 ⟨d1, rfl, b0, b1, hS2, hG2⟩
  have hw2 := hw1.on hS2 hG2
  clear hw1 hS2 hG2
  go_wp2_with fail
  refine (size_any C _ _ 50 _ hw2.src (by omega)).mono ?_
  rintro e w' ⟨r, rfl, r0, r1, rfl⟩
  go_wp2_with fail
  refine (srcNext_any C _ _ (r + 1) _ hw2.src (by omega) (by omega) (by omega)).mono ?_
  rintro e w3 ⟨n, rfl, n0, n1, hS3, hG3⟩
  have hw3 := hw2.on hS3 hG3
  obtain ⟨j0, rfl⟩ : ∃ j : Nat, n = (j : Int) := ⟨n.toNat, by omega⟩
  clear hw2 hS3 hG3
  go_wp2_with fail
  go_loopw [3, 4, 5, 6] (fun tl tv td ti wr => ∃ (j : Nat) (ls : List Int) (vv dd : Int), ti = .int .i64 (j : Int) ∧ tv = .int .i64 vv ∧ td = .int .i64 dd ∧ 0 ≤ vv ∧ vv ≤ 1152921504606846975 + 2 * ls.length ∧ -2 ≤ dd ∧ dd ≤ 2 ∧ ls.length + j ≤ 50 ∧ SwD 3 C w b tl (ls.map (Value.int .i64)) (A + 9 + 18 * ls.length) wr) (fun _ _ _ ti _ => (intOf ti).toNat)
  case atStart => exact ⟨j0, [], v1, d1 - 2, rfl, rfl, rfl, by omega, by simp; omega, by omega, by omega, by simp; omega, hw3⟩
  case round =>
    clear hw3 a0 a1 b0 b1
    obtain ⟨j, ls, vv, dd, rfl, rfl, rfl, g0, g1, g2, g3, hjl, hw⟩ := hrel
    by_cases hj : 0 < j
    · have q0 : (0 : Int) < (j : Int) := by omega
      have q1 : vv + dd ≤ 9223372036854775807 := by omega
      have q2 : -9223372036854775808 ≤ vv + dd := by omega
      go_wp2_with (at_builtin; refine wpList_append_own _ rfl _ _ 32 rfl w.heap.size 3 i0 (.int .i64 0) 1 8 Try.underlying32 hi hz0 hz1 hz2 rfl (by decide) _ _ _ rfl (hw.alloc _).own ⟨wr.heap.size, 0, none⟩ 1 1 [.int .i64 vv] rfl rfl (one_new _ _ _) (by simp [Value.oneCell']) (by simp [maxLen]; omega) (by simp; omega) (by have := hw.size; simp; omega) ?_)
      intro v4 w4 ho4 hg4 _
      have hw4 := (hw.alloc (.cells #[.int .i64 vv] 3)).add (own_of ho4) hg4
      clear hw ho4 hg4
      go_wp2_with fail
      all_goals
        refine (chance_any C _ _ 4 _ hw4.src (by omega) (by omega) (by omega)).mono ?_
        rintro e w5 ⟨r5, rfl, hS5, hG5⟩
        have hw5 := hw4.on hS5 hG5
        clear hS5 hG5
        cases r5 with
        | true =>
          go_wp2_with fail
          refine (srcNext_any C _ _ 5 _ hw5.src (by omega) (by omega) (by omega)).mono ?_
          rintro e w6 ⟨d6, rfl, b0, b1, hS6, hG6⟩
          have hw6 := hw5.on hS6 hG6
          clear hS6 hG6 hw5
          go_wp2_with fail
          refine (chance_any C _ _ 9 _ hw6.src (by omega) (by omega) (by omega)).mono ?_
          rintro e w7 ⟨r7, rfl, hS7, hG7⟩
          have hw7 := hw6.on hS7 hG7
          clear hS7 hG7 hw6
          cases r7 with
          | true =>
            go_wp2_with fail
            refine (num_any C _ _ _ hw7.src (by omega)).mono ?_
            rintro e w8 ⟨x8, rfl, c0, c1, hS8, hG8⟩
            have hw8 := hw7.on hS8 hG8
            clear hS8 hG8 hw7
            go_wp2_with fail
            all_goals
              go_roundw
              case rel => exact ⟨j - 1, ls ++ [vv], _, _, by congr 1; omega, rfl, rfl, by omega, by simp; omega, by omega, by omega, by simp; omega, by rw [List.map_append]; exact hw8.mono (by simp; omega)⟩
              case measure => simp [intOf]; omega
          | false =>
            go_wp2_with fail
            go_roundw
            case rel => exact ⟨j - 1, ls ++ [vv], _, _, by congr 1; omega, rfl, rfl, by omega, by simp; omega, by omega, by omega, by simp; omega, by rw [List.map_append]; exact hw7.mono (by simp; omega)⟩
            case measure => simp [intOf]; omega
        | false =>
          go_wp2_with fail
          refine (chance_any C _ _ 9 _ hw5.src (by omega) (by omega) (by omega)).mono ?_
          rintro e w7 ⟨r7, rfl, hS7, hG7⟩
          have hw7 := hw5.on hS7 hG7
          clear hS7 hG7 hw5
          cases r7 with
          | true =>
            go_wp2_with fail
            refine (num_any C _ _ _ hw7.src (by omega)).mono ?_
            rintro e w8 ⟨x8, rfl, c0, c1, hS8, hG8⟩
            have hw8 := hw7.on hS8 hG8
            clear hS8 hG8 hw7
            go_wp2_with fail
            all_goals
              go_roundw
              case rel => exact ⟨j - 1, ls ++ [vv], _, _, by congr 1; omega, rfl, rfl, by omega, by simp; omega, by omega, by omega, by simp; omega, by rw [List.map_append]; exact hw8.mono (by simp; omega)⟩
              case measure => simp [intOf]; omega
          | false =>
            go_wp2_with fail
            go_roundw
            case rel => exact ⟨j - 1, ls ++ [vv], _, _, by congr 1; omega, rfl, rfl, by omega, by simp; omega, by omega, by omega, by simp; omega, by rw [List.map_append]; exact hw7.mono (by simp; omega)⟩
            case measure => simp [intOf]; omega
    · have q0 : ¬ (0 : Int) < (j : Int) := by omega
      go_wp2_with fail
      go_ret
      exact ⟨_, rfl, ls, by omega, hw.mono (by omega)⟩

set_option maxHeartbeats 2000000 in
set_option maxRecDepth 100000 in
theorem drawPutRuns_any (C : Nat) (w : World) (v : Value) (xs : List Int) (hC : C ≤ w.heap.size) (hr : Rd C w v (xs.map (Value.int .u8))) (hX : ∀ x ∈ xs, 0 ≤ x ∧ x ≤ 255) (hl : xs.length ≤ 1048576) :
    Calls Try.prog 32 #[v] w fun e w' => ∃ (v' : Value) (ls : List Int), e = .returned v' ∧ ls.length ≤ 51 ∧ Own 3 w' w.heap.size v' (ls.map (Value.int .i64)) ∧ Below w.heap.size w w' := by
  obtain ⟨i0, hi, hz0, hz1, hz2⟩ := info_parts info3
  obtain ⟨ao, la, ca, rfl⟩ : ∃ ao len cap, v = .slice ao len cap := by
    obtain ⟨ao, cap, rfl, _⟩ := hr
    exact ⟨_, _, _, rfl⟩
  go_enter Try.func32, Try.ntmps32
  go_wp2_with fail
  refine (source_any C _ _ xs hC hr hX hl).mono ?_
  rintro e w1 ⟨rfl, hS, hb1⟩
  go_wp2_with fail
  refine (l01Numbers_any C _ _ _ hS (by omega)).mono ?_
  rintro e w2 ⟨v2, ls, rfl, hll, hw2⟩
  have hB2 := gr_below hb1 hw2.gr (Nat.le_refl _) hb1.size
  go_wp2_with fail
  refine (chance_any C _ _ 8 _ hw2.src (by omega) (by omega) (by omega)).mono ?_
  rintro e w3 ⟨r, rfl, hS3, hG3⟩
  have hw3 := hw2.on hS3 hG3
  have hB3 := gr_below hB2 hG3 (Nat.le_refl _) hB2.size
  clear hS hS3 hG3 hw2 hB2
  cases r with
  | true =>
    go_wp2_with fail
    refine (srcNext_any C _ _ 3 _ (hw3.alloc _).src (by omega) (by omega) (by omega)).mono ?_
    rintro e w4 ⟨r2, rfl, hr2, hr3, hS4, hG4⟩
    obtain ⟨n1, rfl⟩ : ∃ n : Nat, r2 = (n : Int) := ⟨r2.toNat, by omega⟩
    obtain ⟨x1, hx1⟩ := litR n1 (by omega)
    have hl := cell_blk (blk_kept hw3.src.lt hG4) n1 hx1
    have hw4 := (hw3.alloc _).on hS4 hG4
    have hB4 := gr_below (hB3.alloc hB3.size _) hG4 (Nat.le_refl _) (by rw [World.size_alloc]; have := hB3.size; omega)
    have hz4 := hB4.size
    clear hw3 hB3 hS4 hG4
    have ho4 := hw4.own.mono hb1.size
    go_wp2_with (at_builtin; refine wpList_append_own _ rfl _ _ 32 rfl w.heap.size 3 i0 (.int .i64 0) 1 8 Try.underlying32 hi hz0 hz1 hz2 rfl (by decide) _ _ _ rfl (Own.below ho4 (below_alloc _ _) (Nat.le_refl _)) ⟨w4.heap.size, 0, none⟩ 1 1 [.int .i64 x1] rfl rfl (one_new _ _ _) (by simp [Value.oneCell']) (by simp [maxLen]; omega) (by simp; omega) (by simp; omega) ?_)
    intro v5 w5 ho5 hg5 _
    have ho6 : Own 3 w5 w.heap.size v5 ((ls ++ [x1]).map (Value.int .i64)) := by rw [List.map_append]; exact own_of ho5
    have hB5 : Below w.heap.size w w5 := (hB4.alloc hz4 _).grown hg5 (by rw [World.size_alloc]; omega) (fun k hk => ho4.lt k hk)
    go_wp2_with fail
    go_ret
    first | exact ⟨_, ls ++ [x1], rfl, by simp; omega, ho6, hB5⟩ | exact ⟨_, rfl, ls ++ [x1], by simp; omega, ho6, hB5⟩
  | false =>
    have ho3 := hw3.own.mono hb1.size
    go_wp2_with fail
    go_ret
    first | exact ⟨_, ls, rfl, by omega, ho3, hB3⟩ | exact ⟨_, rfl, ls, by omega, ho3, hB3⟩

end Go.Proofs.Ytpiadcjkbbgggaa

namespace Go.Proofs.Ytpiadcjkbbgggaa
open Go.RowKit
set_option linter.unusedVariables false

set_option maxHeartbeats 2000000 in
set_option maxRecDepth 100000 in
theorem drawVecBytes_any (C : Nat) (w : World) (v : Value) (xs : List Int) (hC : C ≤ w.heap.size) (hr : Rd C w v (xs.map (Value.int .u8))) (hX : ∀ x ∈ xs, 0 ≤ x ∧ x ≤ 255) (hl : xs.length ≤ 1048576) :
    Calls Try.prog 36 #[v] w fun e w' => ∃ (g n c : Nat) (ls : List Int), e = .returned (.agg #[.slice (some ⟨g, 0, none⟩) n c]) ∧ n = ls.length ∧ ls.length ≤ 17 ∧ Own 3 w' w.heap.size (.slice (some ⟨g, 0, none⟩) n c) (ls.map (Value.int .i64)) ∧ Below w.heap.size w w' := by
  have hr1 := Rd.alloc hr (.cells #[.slice none 0 0] 38) hC
  have hs := source_any C (w.alloc (.cells #[.slice none 0 0] 38)) v xs (by rw [World.size_alloc]; omega) hr1 hX hl
  clear hr1
  obtain ⟨ao, la, ca, rfl⟩ : ∃ ao len cap, v = .slice ao len cap := by
    obtain ⟨ao, cap, rfl, _⟩ := hr
    exact ⟨_, _, _, rfl⟩
  clear hr
  go_enter Try.func36, Try.ntmps36
  go_wp2_with fail
  refine hs.mono ?_
  rintro e w1 ⟨rfl, hS, hb1⟩
  rw [World.size_alloc] at hS hb1 ⊢
  go_wp2_with fail
  refine (oddVector_any C _ _ _ hS (by omega)).mono ?_
  rintro e w2 ⟨g, n, c, ls, rfl, hn, hl2, _, ho2, hS2, hG2⟩
  have hk : w2.heap[w.heap.size]? = some (.cells #[.slice none 0 0] 38 (0, 0)) := blk_on ((hb1.block w.heap.size (by omega)).trans (heap_alloc_new w _)) hG2 (by omega)
  have c0 := cell_blk hk 0 rfl
  have f0 := free_blk hk 0
  have hz1 := hb1.size
  rw [World.size_alloc] at hz1
  have q0 : (w2.setCell ⟨w.heap.size, 0, none⟩ (.slice (some ⟨g, 0, none⟩) n c)).cell? ⟨w.heap.size, 0, none⟩ = some (.slice (some ⟨g, 0, none⟩) n c) := World.cell?_setCell_same _ _ _ c0
  have hlt := own_lt ho2
  have ho3 := own_beside (m := w.heap.size) (k := 0) ho2 (by omega) (.slice (some ⟨g, 0, none⟩) n c)
  have hB : Below w.heap.size w w2 := (below_seq (below_alloc w (.cells #[.slice none 0 0] 38)) (by rw [World.size_alloc]; exact hb1)).grown hG2 (by omega) (fun k hk => by cases hk; omega)
  have hB2 := hB.setCell (p := ⟨w.heap.size, 0, none⟩) (Nat.le_refl _) (.slice (some ⟨g, 0, none⟩) n c)
  have HN : Hid _ := hn
  clear hS hS2 hG2 hb1 hB ho2 hn
  go_wp2_with fail
  refine bodyPost_ret (v := .agg #[.slice (some ⟨g, 0, none⟩) n c]) ?_ rfl ⟨_, _, _, ls, rfl, HN.out, hl2, ho3.mono (by omega), hB2⟩
  simp [results, Try.results36, go_sem, q0]

set_option maxHeartbeats 1000000 in
set_option maxRecDepth 100000 in
theorem sameInts_same (C C' : Nat) (w : World) (va vb : Value) (xs : List Int) (hl : xs.length ≤ 140737488355328) (ha : Rd C w va (xs.map (Value.int .i64))) (hb : Rd C' w vb (xs.map (Value.int .i64))) :
    Calls Try.prog 35 #[va, vb] w fun e w' => e = .returned (.bool true) ∧ ∃ n, w' = w.drewN n := by
  obtain ⟨ao, ca, rfl, _, _, _, ha⟩ := ha
  obtain ⟨bo, cb, rfl, _, _, _, hb⟩ := hb
  simp only [List.length_map] at ha hb ⊢
  go_enter Try.func35, Try.ntmps35
  go_wp2_with fail
  go_loopw [5] (fun i wr => ∃ k : Nat, k ≤ xs.length ∧ i = .int .i64 k ∧ ∃ n, wr = w.drewN n) (fun i _ => xs.length - (intOf i).toNat)
  case atStart => exact ⟨0, Nat.zero_le _, rfl, 0, rfl⟩
  case round =>
    obtain ⟨k, hk, rfl, n, rfl⟩ := hrel
    by_cases hlt : k < xs.length
    · obtain ⟨g, off, rfl, _, hc⟩ := ha (by omega)
      obtain ⟨g', off', rfl, _, hc'⟩ := hb (by omega)
      have c1 : w.cell? ⟨g, off + k, none⟩ = some (.int .i64 xs[k]) := hc k _ (by simp [hlt])
      have c2 : w.cell? ⟨g', off' + k, none⟩ = some (.int .i64 xs[k]) := hc' k _ (by simp [hlt])
      generalize xs[k] = x at c1 c2
      have q1 : (k : Int) < (xs.length : Int) := by omega
      clear hc hc' ha hb
      go_wp2_with fail
      go_quiet (fail)
      go_wp2_with fail
      go_roundw
      case rel => exact ⟨k + 1, by omega, by go_num, n + nq, by simp⟩
      case measure => simp [intOf]; omega
    · have q1 : ¬ (k : Int) < (xs.length : Int) := by omega
      go_wp2_with fail
      go_ret
      exact ⟨rfl, n, rfl⟩

set_option maxHeartbeats 1000000 in
set_option maxRecDepth 100000 in
theorem sameTexts_same (C C' : Nat) (w : World) (va vb : Value) (xs : List ByteArray) (hl : xs.length ≤ 140737488355328) (ha : Rd C w va (xs.map Value.string)) (hb : Rd C' w vb (xs.map Value.string)) :
    Calls Try.prog 31 #[va, vb] w fun e w' => e = .returned (.bool true) ∧ ∃ n, w' = w.drewN n := by
  obtain ⟨ao, ca, rfl, _, _, _, ha⟩ := ha
  obtain ⟨bo, cb, rfl, _, _, _, hb⟩ := hb
  simp only [List.length_map] at ha hb ⊢
  go_enter Try.func31, Try.ntmps31
  go_wp2_with fail
  go_loopw [5] (fun i wr => ∃ k : Nat, k ≤ xs.length ∧ i = .int .i64 k ∧ ∃ n, wr = w.drewN n) (fun i _ => xs.length - (intOf i).toNat)
  case atStart => exact ⟨0, Nat.zero_le _, rfl, 0, rfl⟩
  case round =>
    obtain ⟨k, hk, rfl, n, rfl⟩ := hrel
    by_cases hlt : k < xs.length
    · obtain ⟨g, off, rfl, _, hc⟩ := ha (by omega)
      obtain ⟨g', off', rfl, _, hc'⟩ := hb (by omega)
      have c1 : w.cell? ⟨g, off + k, none⟩ = some (.string xs[k]) := hc k _ (by simp [hlt])
      have c2 : w.cell? ⟨g', off' + k, none⟩ = some (.string xs[k]) := hc' k _ (by simp [hlt])
      generalize xs[k] = x at c1 c2
      have q1 : (k : Int) < (xs.length : Int) := by omega
      clear hc hc' ha hb
      go_wp2_with fail
      go_quiet (fail)
      go_wp2_with fail
      go_roundw
      case rel => exact ⟨k + 1, by omega, by go_num, n + nq, by simp⟩
      case measure => simp [intOf]; omega
    · have q1 : ¬ (k : Int) < (xs.length : Int) := by omega
      go_wp2_with fail
      go_ret
      exact ⟨rfl, n, rfl⟩

end Go.Proofs.Ytpiadcjkbbgggaa
