/- Drawn registers. -/
import Derived.Test.YtonpeiknoifdbabSrcOdd
import Derived.Test.YtonpeiknoifdbabRegGreater
import Derived.Test.YtonpeiknoifdbabStr
namespace Go.Proofs.Ytonpeiknoifdbab
open Go.RowKit
set_option linter.unusedVariables false

theorem Src.grown {C : Nat} {w w' : World} {b A : Nat} (h : Src C w b A) (hg : w.grownBy w' none) : Src C w' b A := by
  obtain ⟨v, xs, p, q, h1, h2, h3, h4⟩ := h
  refine ⟨v, xs, p, q, ?_, h2, h3.grown hg (fun k hk => by cases hk), h4⟩
  unfold Sr
  rw [hg.block b h1.lt (by simp)]
  exact h1
theorem tr_of {w : World} {g : Nat} {x y z : Value} {T : TypeId} (h : w.heap[g]? = some (.cells #[x, y, z] T (0, 0))) : Tr w g x y z := ⟨⟨cell_blk h 0 rfl, cell_blk h 1 rfl, cell_blk h 2 rfl⟩, free_blk h⟩
theorem gr_none {w w1 : World} {row : Option Nat} (h : w.grownBy w1 none) : w.grownBy w1 row := ⟨h.os, h.tape, h.output, h.size, fun i hi _ => h.block i hi (by simp)⟩
theorem gr_put3 {w w1 : World} {row : Option Nat} {n : Nat} (h : w.grownBy w1 row) (hn : w.heap.size ≤ n) (x y z : Value) : w.grownBy (((w1.setCell ⟨n, 0, none⟩ x).setCell ⟨n, 1, none⟩ y).setCell ⟨n, 2, none⟩ z) row := gr_put (gr_put (gr_put h hn _ _) hn _ _) hn _ _
theorem Src.set3 {C : Nat} {w : World} {b A n : Nat} (h : Src C w b A) (hn : b < n) (x y z : Value) : Src C (((w.setCell ⟨n, 0, none⟩ x).setCell ⟨n, 1, none⟩ y).setCell ⟨n, 2, none⟩ z) b A := ((h.set hn x).set hn y).set hn z
theorem tr_aside {w : World} {n m : Nat} {x y z : Value} (h : Tr w n x y z) (hn : n ≠ m) (p q r : Value) : Tr (((w.setCell ⟨m, 0, none⟩ p).setCell ⟨m, 1, none⟩ q).setCell ⟨m, 2, none⟩ r) n x y z := by
  have o : ∀ (w : World) (i j : Nat) (u : Value), (w.setCell ⟨m, j, none⟩ u).cell? ⟨n, i, none⟩ = w.cell? ⟨n, i, none⟩ := fun w i j u => World.cell?_setCells_out m [u] j w _ (fun e => absurd e hn)
  refine ⟨⟨?_, ?_, ?_⟩, fun k => ?_⟩
  · rw [o, o, o]; exact h.1.1
  · rw [o, o, o]; exact h.1.2.1
  · rw [o, o, o]; exact h.1.2.2
  · exact ((World.frozen?_setCells m [r] 2 _ _).trans ((World.frozen?_setCells m [q] 1 _ _).trans (World.frozen?_setCells m [p] 0 _ _))).trans (h.2 k)
theorem ofInts_size (xs : List Int) : (ofInts xs).size = xs.length := by simp [ofInts, ByteArray.size]

set_option maxHeartbeats 8000000 in
set_option maxRecDepth 100000 in
theorem reg_any (C b A : Nat) (w : World) (h : Src C w b A) (hA : A ≤ 600000000) :
    Calls Try.prog 31 #[.pointer (some ⟨b, 0, none⟩)] w fun e w' => ∃ (t a : Int) (s : ByteArray), e = .returned (.agg #[.int .i64 t, .int .i64 a, .string s]) ∧ s.size ≤ 201 ∧ Src C w' b (A + 15) ∧ w.grownBy w' (some b) := by
  obtain ⟨i0, hi, hz0, hz1, hz2⟩ := info_parts info5
  have hlt := h.lt
  go_enter Try.func31, Try.ntmps31
  go_wp2_with fail
  refine (srcNext_any C b A 12 _ (h.alloc _) (by omega) (by omega) (by omega)).mono ?_
  rintro e w1 ⟨r, rfl, hr0, hr1, hS, hG0⟩
  have hk := blk_kept hlt hG0
  have hG := grownBy_trans (World.grownBy_alloc w _ (some b)) hG0
  have hsz := hG0.size
  rw [World.size_alloc] at hsz
  clear hG0 h
  refine if h0 : r = 0 then ?pa else ?pb
  case' pb => refine if h1 : r = 1 then ?pc else ?pd
  case' pd => refine if h2 : r = 2 then ?pe else ?pf
  case' pf => refine if h3 : r = 3 then ?pg else ?ph
  case pa =>
    subst h0
    have HT : Hid (Tr _ _ _ _ _) := tr_of hk
    obtain ⟨⟨c0, c1, c2⟩, hf⟩ := HT.out
    have f0 := hf 0
    have f1 := hf 1
    have f2 := hf 2
    have hp := (HT.out.put (.int .i64 0) (.int .i64 0) (.string ⟨#[]⟩)).1
    go_wp2_with fail
    refine bodyPost_ret (v := .agg #[.int .i64 0, .int .i64 0, .string ⟨#[]⟩]) ?_ rfl ⟨_, _, _, rfl, by decide, (hS.set3 hlt _ _ _).mono (by omega), gr_put3 hG (Nat.le_refl _) _ _ _⟩
    simp [results, Try.results31, go_sem, hp.1, hp.2.1, hp.2.2]
  case pc =>
    subst h1
    have HT : Hid (Tr _ _ _ _ _) := tr_of hk
    obtain ⟨⟨c0, c1, c2⟩, hf⟩ := HT.out
    have f0 := hf 0
    have f1 := hf 1
    have f2 := hf 2
    have hp := (HT.out.put (.int .i64 0) (.int .i64 0) (.string ⟨#[97]⟩)).1
    go_wp2_with fail
    refine bodyPost_ret (v := .agg #[.int .i64 0, .int .i64 0, .string ⟨#[97]⟩]) ?_ rfl ⟨_, _, _, rfl, by decide, (hS.set3 hlt _ _ _).mono (by omega), gr_put3 hG (Nat.le_refl _) _ _ _⟩
    simp [results, Try.results31, go_sem, hp.1, hp.2.1, hp.2.2]
  case pe =>
    subst h2
    go_wp2_with fail
    refine (oddStamp_any C b _ _ hS (by omega)).mono ?_
    rintro e w2 ⟨t, a, rfl, hS2, hG2⟩
    replace hk := blk_on hk hG2 (by omega)
    replace hG := grownBy_trans hG hG2
    go_wp2_with fail
    refine (word_any C b _ _ hS2 (by omega)).mono ?_
    rintro e w3 ⟨s, rfl, hs, hS3, hG3⟩
    replace hk := blk_on hk hG3 (by omega)
    replace hG := grownBy_trans hG hG3
    have HT : Hid (Tr _ _ _ _ _) := tr_of hk
    obtain ⟨⟨c0, c1, c2⟩, hf⟩ := HT.out
    have f0 := hf 0
    have f1 := hf 1
    have f2 := hf 2
    have hp := (HT.out.put (.int .i64 t) (.int .i64 a) (.string s)).1
    clear hS hS2 hG2 hG3
    go_wp2_with fail
    refine bodyPost_ret (v := .agg #[.int .i64 t, .int .i64 a, .string s]) ?_ rfl ⟨_, _, _, rfl, by omega, (hS3.set3 hlt _ _ _).mono (by omega), gr_put3 hG (Nat.le_refl _) _ _ _⟩
    simp [results, Try.results31, go_sem, hp.1, hp.2.1, hp.2.2]
  case pg =>
    subst h3
    go_wp2_with fail
    refine (stamp_any C b _ _ hS (by omega)).mono ?_
    rintro e w2 ⟨t, a, rfl, hS2, hG2⟩
    replace hk := blk_on hk hG2 (by omega)
    replace hG := grownBy_trans hG hG2
    go_wp2_with fail
    refine (srcNext_any C b _ 2 _ hS2 (by omega) (by omega) (by omega)).mono ?_
    rintro e w3 ⟨r2, rfl, hr2, hr3, hS3, hG3⟩
    replace hk := blk_on hk hG3 (by omega)
    replace hG := grownBy_trans hG hG3
    clear hS hS2 hG2 hG3
    obtain ⟨m, hm, hm2⟩ : ∃ m : Nat, 200 + r2 = (m : Int) ∧ m ≤ 201 := ⟨(200 + r2).toNat, by omega, by omega⟩
    have hr2' : r2 = (m : Int) - 200 := by omega
    subst hr2'
    have e200 : 200 + ((m : Int) - 200) = (m : Int) := by omega
    go_wp2_with (at_make; refine wpList_make_full _ rfl _ _ 22 rfl w3.heap.size 5 i0 (.int .u8 0) 1 Try.underlying22 hi hz0 hz1 _ _ _ _ m rfl rfl rfl rfl (by rw [hz2]; omega) (by unfold maxLen; omega) (Nat.le_refl _) ?_)
    intro w4 hown hgrow
    have ho4 := own_of hown
    rw [toList_madeCells_one] at ho4
    have hz4 : Rd w4.heap.size w4 (.slice (some ⟨w3.heap.size, 0, none⟩) m m) ((List.replicate m (0 : Int)).map (Value.int .u8)) := by
      rw [List.map_replicate]
      exact ho4.rd
    have hst := run_string_of hz4
    have hs := ofInts_size (List.replicate m (0 : Int))
    rw [List.length_replicate] at hs
    generalize ofInts (List.replicate m (0 : Int)) = s at hst hs
    have hS4 := hS3.grown hgrow
    replace hk := (hgrow.block w.heap.size (Array.getElem?_eq_some_iff.1 hk).1 (by simp)).trans hk
    replace hG := grownBy_trans hG (gr_none hgrow)
    have HT : Hid (Tr _ _ _ _ _) := tr_of hk
    obtain ⟨⟨c0, c1, c2⟩, hf⟩ := HT.out
    have f0 := hf 0
    have f1 := hf 1
    have f2 := hf 2
    have hp := (HT.out.put (.int .i64 t) (.int .i64 a) (.string s)).1
    clear hown hgrow ho4 hz4 hS3
    go_wp2_with fail
    refine bodyPost_ret (v := .agg #[.int .i64 t, .int .i64 a, .string s]) ?_ rfl ⟨_, _, _, rfl, by omega, (hS4.set3 hlt _ _ _).mono (by omega), gr_put3 hG (Nat.le_refl _) _ _ _⟩
    simp [results, Try.results31, go_sem, hp.1, hp.2.1, hp.2.2]
  case ph =>
    have q0 : (r == 0) = false := by simpa using h0
    have q1 : (r == 1) = false := by simpa using h1
    have q2 : (r == 2) = false := by simpa using h2
    have q3 : (r == 3) = false := by simpa using h3
    clear h0 h1 h2 h3
    go_wp2_with fail
    refine (stamp_any C b _ _ hS (by omega)).mono ?_
    rintro e w2 ⟨t, a, rfl, hS2, hG2⟩
    replace hk := blk_on hk hG2 (by omega)
    replace hG := grownBy_trans hG hG2
    go_wp2_with fail
    refine (word_any C b _ _ hS2 (by omega)).mono ?_
    rintro e w3 ⟨s, rfl, hs, hS3, hG3⟩
    replace hk := blk_on hk hG3 (by omega)
    replace hG := grownBy_trans hG hG3
    have HT : Hid (Tr _ _ _ _ _) := tr_of hk
    obtain ⟨⟨c0, c1, c2⟩, hf⟩ := HT.out
    have f0 := hf 0
    have f1 := hf 1
    have f2 := hf 2
    have hp := (HT.out.put (.int .i64 t) (.int .i64 a) (.string s)).1
    clear hS hS2 hG2 hG3
    go_wp2_with fail
    refine bodyPost_ret (v := .agg #[.int .i64 t, .int .i64 a, .string s]) ?_ rfl ⟨_, _, _, rfl, by omega, (hS3.set3 hlt _ _ _).mono (by omega), gr_put3 hG (Nat.le_refl _) _ _ _⟩
    simp [results, Try.results31, go_sem, hp.1, hp.2.1, hp.2.2]

set_option maxHeartbeats 4000000 in
set_option maxRecDepth 100000 in
theorem drawRegJoin_any (C : Nat) (w : World) (v : Value) (xs : List Int) (hC : C ≤ w.heap.size) (hr : Rd C w v (xs.map (Value.int .u8))) (hX : ∀ x ∈ xs, 0 ≤ x ∧ x ≤ 255) (hl : xs.length ≤ 1048576) :
    Calls Try.prog 7 #[v] w fun e w' => ∃ (t a : Int) (s : ByteArray) (t' a' : Int) (s' : ByteArray), e = .returned (.tuple #[.agg #[.int .i64 t, .int .i64 a, .string s], .agg #[.int .i64 t', .int .i64 a', .string s']]) ∧ s.size ≤ 201 ∧ s'.size ≤ 201 ∧ Below w.heap.size w w' := by
  have hB0 : Below w.heap.size w ((w.alloc (.cells #[.int .i64 0, .int .i64 0, .string ⟨#[]⟩] 26)).alloc (.cells #[.int .i64 0, .int .i64 0, .string ⟨#[]⟩] 26)) := below_then (below_alloc _ _) _
  have hr2 := Rd.below hr (hB0.mono hC)
  obtain ⟨ao, la, ca, rfl⟩ : ∃ ao len cap, v = .slice ao len cap := by
    obtain ⟨ao, cap, rfl, _⟩ := hr
    exact ⟨_, _, _, rfl⟩
  have k1 : ((w.alloc (.cells #[.int .i64 0, .int .i64 0, .string ⟨#[]⟩] 26)).alloc (.cells #[.int .i64 0, .int .i64 0, .string ⟨#[]⟩] 26)).heap[w.heap.size]? = some (.cells #[.int .i64 0, .int .i64 0, .string ⟨#[]⟩] 26 (0, 0)) := blk_al (heap_alloc_new w _) _
  have k2 : ((w.alloc (.cells #[.int .i64 0, .int .i64 0, .string ⟨#[]⟩] 26)).alloc (.cells #[.int .i64 0, .int .i64 0, .string ⟨#[]⟩] 26)).heap[w.heap.size + 1]? = some (.cells #[.int .i64 0, .int .i64 0, .string ⟨#[]⟩] 26 (0, 0)) := by
    have := heap_alloc_new (w.alloc (.cells #[.int .i64 0, .int .i64 0, .string ⟨#[]⟩] 26)) (.cells #[.int .i64 0, .int .i64 0, .string ⟨#[]⟩] 26)
    rw [World.size_alloc] at this
    exact this
  go_enter Try.func7, Try.ntmps7
  go_wp2_with fail
  refine (source_any C _ _ xs (Nat.le_trans hC hB0.size) hr2 hX hl).mono ?_
  rintro e w1 ⟨rfl, hS, hb1⟩
  have hB1 := below_seq hB0 hb1
  replace k1 := (hb1.block w.heap.size (by simp only [World.size_alloc]; omega)).trans k1
  replace k2 := (hb1.block (w.heap.size + 1) (by simp only [World.size_alloc]; omega)).trans k2
  clear hr hr2 hb1
  simp only [World.size_alloc] at hS
  go_wp2_with fail
  refine (reg_any C _ 0 _ hS (by omega)).mono ?_
  rintro e w2 ⟨t, a, s, rfl, hs, hS2, hG2⟩
  have hB2 := gr_below hB1 hG2 (by omega) hB1.size
  replace k1 := blk_on k1 hG2 (by omega)
  replace k2 := blk_on k2 hG2 (by omega)
  go_wp2_with fail
  refine (reg_any C _ _ _ hS2 (by omega)).mono ?_
  rintro e w3 ⟨t', a', s', rfl, hs', hS3, hG3⟩
  have hB3 := gr_below hB2 hG3 (by omega) hB2.size
  replace k1 := blk_on k1 hG3 (by omega)
  replace k2 := blk_on k2 hG3 (by omega)
  have HT : Hid (Tr w3 w.heap.size _ _ _) := tr_of k1
  have HU : Hid (Tr w3 (w.heap.size + 1) _ _ _) := tr_of k2
  obtain ⟨⟨c0, c1, c2⟩, hf⟩ := HT.out
  obtain ⟨⟨d0, d1, d2⟩, hg⟩ := HU.out
  have f0 := hf 0
  have f1 := hf 1
  have f2 := hf 2
  have g0 := hg 0
  have g1 := hg 1
  have g2 := hg 2
  have p1 := HT.out.put (.int .i64 t) (.int .i64 a) (.string s)
  have hU2 : Tr _ (w.heap.size + 1) _ _ _ := tr_aside HU.out (m := w.heap.size) (by omega) (.int .i64 t) (.int .i64 a) (.string s)
  have p2 := (hU2.put (.int .i64 t') (.int .i64 a') (.string s')).1
  have p3 := (tr_aside p1 (m := w.heap.size + 1) (by omega) (.int .i64 t') (.int .i64 a') (.string s')).1
  clear hS hS2 hG2 hS3 hG3 hB1 hB2 hf hg
  go_wp2_with fail
  refine bodyPost_ret (v := .tuple #[.agg #[.int .i64 t, .int .i64 a, .string s], .agg #[.int .i64 t', .int .i64 a', .string s']]) ?_ rfl ⟨_, _, _, _, _, _, rfl, hs, hs', below_put (below_put hB3 (Nat.le_refl _) _ _ _) (by omega) _ _ _⟩
  simp [results, Try.results7, go_sem, p2.1, p2.2.1, p2.2.2, p3.1, p3.2.1, p3.2.2]

end Go.Proofs.Ytonpeiknoifdbab
