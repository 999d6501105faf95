/- Drawn counters: what chance, l03Actor, l03DrawCounter and the draws of CounterJoin and CounterAdd answer. -/
import Derived.Test.YtonpeiknoifdbabSrcVec2
import Derived.Test.YtonpeiknoifdbabSrcMore
import Derived.Test.YtonpeiknoifdbabCtrBase
namespace Go.Proofs.Ytonpeiknoifdbab
open Go.RowKit
set_option linter.unusedVariables false

theorem litA (n : Nat) (h : n < 3) : ∃ x : Int, (#[.int .i64 (-1), .int .i64 15, .int .i64 16] : Array Value)[n]? = some (.int .i64 x) := by
  match n, h with
  | 0, _ => exact ⟨_, rfl⟩
  | 1, _ => exact ⟨_, rfl⟩
  | 2, _ => exact ⟨_, rfl⟩
theorem litQ (n : Nat) (h : n < 4) : ∃ x : Int, (#[.int .i64 1000000000000, .int .i64 1000000000001, .int .i64 (-1000000000000), .int .i64 (-1000000000001)] : Array Value)[n]? = some (.int .i64 x) := by
  match n, h with
  | 0, _ => exact ⟨_, rfl⟩
  | 1, _ => exact ⟨_, rfl⟩
  | 2, _ => exact ⟨_, rfl⟩
  | 3, _ => exact ⟨_, rfl⟩

set_option maxHeartbeats 1000000 in
set_option maxRecDepth 100000 in
theorem l03Actor_any (C b A : Nat) (w : World) (h : Src C w b A) (hA : A ≤ 800000000) :
    Calls Try.prog 43 #[.pointer (some ⟨b, 0, none⟩)] w fun e w' => ∃ c : Int, e = .returned (.int .i64 c) ∧ Src C w' b (A + 6) ∧ w.grownBy w' (some b) := by
  go_enter Try.func43, Try.ntmps43
  go_wp2_with fail
  refine (chance_any C b A 12 _ h (by omega) (by omega) (by omega)).mono ?_
  rintro e w1 ⟨r, rfl, hS, hG⟩
  cases r with
  | true =>
    go_wp2_with fail
    refine (srcNext_any C b _ 3 _ (hS.alloc _) (by omega) (by omega) (by omega)).mono ?_
    rintro e w2 ⟨r2, rfl, hr2, hr3, hS2, hG2⟩
    obtain ⟨n1, rfl⟩ : ∃ n : Nat, r2 = (n : Int) := ⟨r2.toNat, by omega⟩
    obtain ⟨x1, hx1⟩ := litA n1 (by omega)
    have hl := cell_blk (blk_kept hS.lt hG2) n1 hx1
    have hG3 := grownBy_trans (gr_alloc hG _) hG2
    go_wp2_with fail
    go_ret
    exact ⟨_, rfl, hS2, hG3⟩
  | false =>
    go_wp2_with fail
    refine (srcNext_any C b _ 4 _ hS (by omega) (by omega) (by omega)).mono ?_
    rintro e w2 ⟨r2, rfl, hr2, hr3, hS2, hG2⟩
    go_wp2_with fail
    go_ret
    exact ⟨_, rfl, hS2, grownBy_trans hG hG2⟩

set_option maxHeartbeats 1000000 in
set_option maxRecDepth 100000 in
theorem drawCtr_any (C b A : Nat) (w : World) (h : Src C w b A) (hA : A ≤ 500000000) :
    Calls Try.prog 35 #[.pointer (some ⟨b, 0, none⟩)] w fun e w' => ∃ (ga la ca gb lb cb : Nat) (xs ys : List Int), e = .returned (.agg #[.slice (some ⟨ga, 0, none⟩) la ca, .slice (some ⟨gb, 0, none⟩) lb cb]) ∧ la = xs.length ∧ lb = ys.length ∧ xs.length ≤ 17 ∧ ys.length ≤ 17 ∧ Own 3 w' w.heap.size (.slice (some ⟨ga, 0, none⟩) la ca) (xs.map (Value.int .i64)) ∧ Own 3 w' w.heap.size (.slice (some ⟨gb, 0, none⟩) lb cb) (ys.map (Value.int .i64)) ∧ Src C w' b (A + 42) ∧ w.grownBy w' (some b) := by
  have hlt := h.lt
  go_enter Try.func35, Try.ntmps35
  go_wp2_with fail
  refine (oddVector_any C b A _ (h.alloc _) (by omega)).mono ?_
  rintro e w1 ⟨ga, la, ca, xs, rfl, rfl, hxl, hxX, hoA, hS1, hG1⟩
  have hk := blk_kept hlt hG1
  have hG := grownBy_trans (World.grownBy_alloc w _ (some b)) hG1
  rw [World.size_alloc] at hoA
  have s1 := hG1.size
  rw [World.size_alloc] at s1
  clear hG1
  go_wp2_with fail
  refine (oddVector_any C b _ _ hS1 (by omega)).mono ?_
  rintro e w2 ⟨gb, lb, cb, ys, rfl, rfl, hyl, hyX, hoB, hS2, hG2⟩
  replace hk := blk_on hk hG2 (by omega)
  replace hoA := hoA.apart hG2 (fun k hk => by cases hk; omega)
  replace hG := grownBy_trans hG hG2
  have c0 := cell_blk hk 0 rfl
  have c1 := cell_blk hk 1 rfl
  have f0 := free_blk hk 0
  have f1 := free_blk hk 1
  have hq := res2 c0 c1 (.slice (some ⟨ga, 0, none⟩) xs.length ca) (.slice (some ⟨gb, 0, none⟩) ys.length cb)
  have oA := ((hoA.setK 0 (.slice (some ⟨ga, 0, none⟩) xs.length ca) (Nat.lt_succ_self _)).setK 1 (.slice (some ⟨gb, 0, none⟩) ys.length cb) (Nat.lt_succ_self _)).mono (B' := w.heap.size) (by omega)
  have oB := ((hoB.setK (P := w.heap.size) 0 (.slice (some ⟨ga, 0, none⟩) xs.length ca) (by omega)).setK (P := w.heap.size) 1 (.slice (some ⟨gb, 0, none⟩) ys.length cb) (by omega)).mono (B' := w.heap.size) (by omega)
  clear hG2 hS1 hoA hoB
  go_wp2_with fail
  refine bodyPost_ret (v := .agg #[.slice (some ⟨ga, 0, none⟩) xs.length ca, .slice (some ⟨gb, 0, none⟩) ys.length cb]) ?_ rfl ⟨ga, _, ca, gb, _, cb, xs, ys, rfl, rfl, rfl, hxl, hyl, oA, oB, ((hS2.set hlt _).set hlt _).mono (by omega), gr_put (gr_put hG (Nat.le_refl _) _ _) (Nat.le_refl _) _ _⟩
  simp [results, Try.results35, go_sem, hq.1, hq.2]

/-- What a pair of drawn vectors is, behind all. -/
structure PrC (w w' : World) (va vb : Value) (xs ys : List Int) : Prop where
  oa : Own 3 w' w.heap.size va (xs.map (Value.int .i64))
  ob : Own 3 w' w.heap.size vb (ys.map (Value.int .i64))
  la : xs.length ≤ 17
  lb : ys.length ≤ 17

set_option maxHeartbeats 2000000 in
set_option maxRecDepth 100000 in
theorem drawCounterJoin_any (C : Nat) (w : World) (v : Value) (cs : List Int) (hC : C ≤ w.heap.size) (hr : Rd C w v (cs.map (Value.int .u8))) (hX : ∀ x ∈ cs, 0 ≤ x ∧ x ≤ 255) (hl : cs.length ≤ 1048576) :
    Calls Try.prog 10 #[v] w fun e w' => ∃ (va vb va' vb' : Value) (xs ys xs' ys' : List Int), e = .returned (.tuple #[.agg #[va, vb], .agg #[va', vb']]) ∧ PrC w w' va vb xs ys ∧ PrC w w' va' vb' xs' ys' ∧ Below w.heap.size w w' := by
  have hB0 : Below w.heap.size w ((w.alloc (.cells #[.slice none 0 0, .slice none 0 0] 36)).alloc (.cells #[.slice none 0 0, .slice none 0 0] 36)) := below_then (below_alloc _ _) _
  have hr2 := Rd.below hr (hB0.mono hC)
  obtain ⟨ao, la0, ca0, rfl⟩ : ∃ ao len cap, v = .slice ao len cap := by
    obtain ⟨ao, cap, rfl, _⟩ := hr
    exact ⟨_, _, _, rfl⟩
  have k1 : ((w.alloc (.cells #[.slice none 0 0, .slice none 0 0] 36)).alloc (.cells #[.slice none 0 0, .slice none 0 0] 36)).heap[w.heap.size]? = some (.cells #[.slice none 0 0, .slice none 0 0] 36 (0, 0)) := blk_al (heap_alloc_new w _) _
  have k2 : ((w.alloc (.cells #[.slice none 0 0, .slice none 0 0] 36)).alloc (.cells #[.slice none 0 0, .slice none 0 0] 36)).heap[w.heap.size + 1]? = some (.cells #[.slice none 0 0, .slice none 0 0] 36 (0, 0)) := by
    have := heap_alloc_new (w.alloc (.cells #[.slice none 0 0, .slice none 0 0] 36)) (.cells #[.slice none 0 0, .slice none 0 0] 36)
    rw [World.size_alloc] at this
    exact this
  go_enter Try.func10, Try.ntmps10
  go_wp2_with fail
  refine (source_any C _ _ cs (Nat.le_trans hC hB0.size) hr2 hX hl).mono ?_
  rintro e w1 ⟨rfl, hS, hb1⟩
  have hB1 := below_seq hB0 hb1
  replace k1 := (hb1.block w.heap.size (by simp only [World.size_alloc]; omega)).trans k1
  replace k2 := (hb1.block (w.heap.size + 1) (by simp only [World.size_alloc]; omega)).trans k2
  simp only [World.size_alloc] at hS
  have ls := hS.lt
  clear hr hr2 hb1 hB0
  go_wp2_with fail
  refine (drawCtr_any C _ 0 _ hS (by omega)).mono ?_
  rintro e w2 ⟨ga, la, ca, gb, lb, cb, xs, ys, rfl, rfl, rfl, hxl, hyl, oA, oB, hS2, hG2⟩
  have hB2 := gr_below hB1 hG2 (by omega) hB1.size
  replace k1 := blk_on k1 hG2 (by omega)
  replace k2 := blk_on k2 hG2 (by omega)
  have s2 := hG2.size
  clear hG2 hS
  go_wp2_with fail
  refine (drawCtr_any C _ _ _ hS2 (by omega)).mono ?_
  rintro e w3 ⟨gc, lc, cc, gd, ld, cd, us, vs, rfl, rfl, rfl, hul, hvl, oC, oD, hS3, hG3⟩
  have hB3 := gr_below hB2 hG3 (by omega) hB2.size
  replace k1 := blk_on k1 hG3 (by omega)
  replace k2 := blk_on k2 hG3 (by omega)
  replace oA := oA.apart hG3 (fun k hk => by cases hk; omega)
  replace oB := oB.apart hG3 (fun k hk => by cases hk; omega)
  clear hG3 hS2 hS3
  have K1 : Dy w3 w.heap.size (.slice none 0 0) (.slice none 0 0) := ⟨⟨cell_blk k1 0 rfl, cell_blk k1 1 rfl⟩, free_blk k1⟩
  have K2 : Dy w3 (w.heap.size + 1) (.slice none 0 0) (.slice none 0 0) := ⟨⟨cell_blk k2 0 rfl, cell_blk k2 1 rfl⟩, free_blk k2⟩
  generalize hva : Value.slice (some ⟨ga, 0, none⟩) xs.length ca = va at oA
  generalize hvb : Value.slice (some ⟨gb, 0, none⟩) ys.length cb = vb at oB
  generalize hvc : Value.slice (some ⟨gc, 0, none⟩) us.length cc = vc at oC
  generalize hvd : Value.slice (some ⟨gd, 0, none⟩) vs.length cd = vd at oD
  have P1 := ((((K1.set0 va).set1 vb).aside (m := w.heap.size + 1) (by omega) 0 vc).aside (m := w.heap.size + 1) (by omega) 1 vd).1
  have P2 := ((((K2.aside (m := w.heap.size) (by omega) 0 va).aside (m := w.heap.size) (by omega) 1 vb).set0 vc).set1 vd).1
  obtain ⟨⟨c0, c1⟩, hf⟩ := K1
  obtain ⟨⟨d0, d1⟩, hf'⟩ := K2
  have f0 := hf 0
  have f1 := hf 1
  have g0 := hf' 0
  have g1 := hf' 1
  have all : ∀ {v : Value} {zs : List Value} {B : Nat}, Own 3 w3 B v zs → w.heap.size + 1 < B → Own 3 ((((w3.setCell ⟨w.heap.size, 0, none⟩ va).setCell ⟨w.heap.size, 1, none⟩ vb).setCell ⟨w.heap.size + 1, 0, none⟩ vc).setCell ⟨w.heap.size + 1, 1, none⟩ vd) w.heap.size v zs := fun h hB =>
    ((((h.setK (P := w.heap.size) 0 va (by omega)).setK (P := w.heap.size) 1 vb (by omega)).setK (P := w.heap.size + 1) 0 vc (by omega)).setK (P := w.heap.size + 1) 1 vd (by omega)).mono (by omega)
  have R : PrC w _ va vb xs ys := ⟨all oA (by omega), all oB (by omega), hxl, hyl⟩
  have R' : PrC w _ vc vd us vs := ⟨all oC (by omega), all oD (by omega), hul, hvl⟩
  have hB : Below w.heap.size w ((((w3.setCell ⟨w.heap.size, 0, none⟩ va).setCell ⟨w.heap.size, 1, none⟩ vb).setCell ⟨w.heap.size + 1, 0, none⟩ vc).setCell ⟨w.heap.size + 1, 1, none⟩ vd) := (((hB3.setCell (p := ⟨w.heap.size, 0, none⟩) (Nat.le_refl _) _).setCell (p := ⟨w.heap.size, 1, none⟩) (Nat.le_refl _) _).setCell (p := ⟨w.heap.size + 1, 0, none⟩) (Nat.le_succ _) _).setCell (p := ⟨w.heap.size + 1, 1, none⟩) (Nat.le_succ _) _
  clear oA oB oC oD hf hf' all hB1 hB2 hB3 k1 k2
  subst hva hvb hvc hvd
  go_wp2_with fail
  refine bodyPost_ret (v := .tuple #[.agg #[.slice (some ⟨ga, 0, none⟩) xs.length ca, .slice (some ⟨gb, 0, none⟩) ys.length cb], .agg #[.slice (some ⟨gc, 0, none⟩) us.length cc, .slice (some ⟨gd, 0, none⟩) vs.length cd]]) ?_ rfl ⟨_, _, _, _, xs, ys, us, vs, rfl, R, R', hB⟩
  simp [results, Try.results10, go_sem, P1.1, P1.2, P2.1, P2.2]

set_option maxHeartbeats 2000000 in
set_option maxRecDepth 100000 in
theorem drawCounterAdd_any (C : Nat) (w : World) (v : Value) (cs : List Int) (hC : C ≤ w.heap.size) (hr : Rd C w v (cs.map (Value.int .u8))) (hX : ∀ x ∈ cs, 0 ≤ x ∧ x ≤ 255) (hl : cs.length ≤ 1048576) :
    Calls Try.prog 15 #[v] w fun e w' => ∃ (va vb : Value) (xs ys : List Int) (c n : Int), e = .returned (.tuple #[.agg #[va, vb], .int .i64 c, .int .i64 n]) ∧ PrC w w' va vb xs ys ∧ Below w.heap.size w w' := by
  have hB0 : Below w.heap.size w (w.alloc (.cells #[.slice none 0 0, .slice none 0 0] 36)) := below_alloc _ _
  have hr2 := Rd.below hr (hB0.mono hC)
  obtain ⟨ao, la0, ca0, rfl⟩ : ∃ ao len cap, v = .slice ao len cap := by
    obtain ⟨ao, cap, rfl, _⟩ := hr
    exact ⟨_, _, _, rfl⟩
  have k1 : (w.alloc (.cells #[.slice none 0 0, .slice none 0 0] 36)).heap[w.heap.size]? = some (.cells #[.slice none 0 0, .slice none 0 0] 36 (0, 0)) := heap_alloc_new w _
  go_enter Try.func15, Try.ntmps15
  go_wp2_with fail
  refine (source_any C _ _ cs (Nat.le_trans hC hB0.size) hr2 hX hl).mono ?_
  rintro e w1 ⟨rfl, hS, hb1⟩
  have hB := below_seq hB0 hb1
  replace k1 := (hb1.block w.heap.size (by simp only [World.size_alloc]; omega)).trans k1
  simp only [World.size_alloc] at hS
  have ls := hS.lt
  clear hr hr2 hb1 hB0
  go_wp2_with fail
  refine (srcNext_any C _ 0 40 _ hS (by omega) (by omega) (by omega)).mono ?_
  rintro e w2 ⟨r, rfl, hr0, hr1, hS2, hG2⟩
  replace hB := gr_below hB hG2 (by omega) hB.size
  replace k1 := blk_on k1 hG2 (by omega)
  have s2 := hG2.size
  clear hG2 hS
  go_wp2_with fail
  refine (chance_any C _ _ 8 _ hS2 (by omega) (by omega) (by omega)).mono ?_
  rintro e w3 ⟨q, rfl, hS3, hG3⟩
  replace hB := gr_below hB hG3 (by omega) hB.size
  replace k1 := blk_on k1 hG3 (by omega)
  have s3 := hG3.size
  clear hG3 hS2
  cases q with
  | true =>
    go_wp2_with fail
    refine (srcNext_any C _ _ 4 _ (hS3.alloc _) (by omega) (by omega) (by omega)).mono ?_
    rintro e w4 ⟨r2, rfl, hr2, hr3, hS4, hG4⟩
    obtain ⟨n1, rfl⟩ : ∃ n : Nat, r2 = (n : Int) := ⟨r2.toNat, by omega⟩
    obtain ⟨x1, hx1⟩ := litQ n1 (by omega)
    have hl := cell_blk (blk_kept hS3.lt hG4) n1 hx1
    replace hB := gr_below (below_then hB (.cells #[.int .i64 1000000000000, .int .i64 1000000000001, .int .i64 (-1000000000000), .int .i64 (-1000000000001)] 3)) hG4 (by omega) (below_then hB _).size
    replace k1 := blk_on (blk_al k1 _) hG4 (by omega)
    have s4 := hG4.size
    rw [World.size_alloc] at s4
    clear hG4 hS3
    go_wp2_with fail
    refine (drawCtr_any C _ _ _ hS4 (by omega)).mono ?_
    rintro e w5 ⟨ga, la, ca, gb, lb, cb, xs, ys, rfl, rfl, rfl, hxl, hyl, oA, oB, hS5, hG5⟩
    replace hB := gr_below hB hG5 (by omega) hB.size
    replace k1 := blk_on k1 hG5 (by omega)
    clear hG5 hS4 hl
    go_wp2_with fail
    refine (l03Actor_any C _ _ _ hS5 (by omega)).mono ?_
    rintro e w6 ⟨c, rfl, hS6, hG6⟩
    replace hB := gr_below hB hG6 (by omega) hB.size
    replace k1 := blk_on k1 hG6 (by omega)
    replace oA := oA.apart hG6 (fun k hk => by cases hk; omega)
    replace oB := oB.apart hG6 (fun k hk => by cases hk; omega)
    have c0 := cell_blk k1 0 rfl
    have c1 := cell_blk k1 1 rfl
    have f0 := free_blk k1 0
    have f1 := free_blk k1 1
    have hq := res2 c0 c1 (.slice (some ⟨ga, 0, none⟩) xs.length ca) (.slice (some ⟨gb, 0, none⟩) ys.length cb)
    have R : PrC w ((w6.setCell ⟨w.heap.size, 0, none⟩ (.slice (some ⟨ga, 0, none⟩) xs.length ca)).setCell ⟨w.heap.size, 1, none⟩ (.slice (some ⟨gb, 0, none⟩) ys.length cb)) (.slice (some ⟨ga, 0, none⟩) xs.length ca) (.slice (some ⟨gb, 0, none⟩) ys.length cb) xs ys := ⟨((oA.setK (P := w.heap.size) 0 _ (by omega)).setK (P := w.heap.size) 1 _ (by omega)).mono (by omega), ((oB.setK (P := w.heap.size) 0 _ (by omega)).setK (P := w.heap.size) 1 _ (by omega)).mono (by omega), hxl, hyl⟩
    have hB2 := (hB.setCell (p := ⟨w.heap.size, 0, none⟩) (Nat.le_refl _) (.slice (some ⟨ga, 0, none⟩) xs.length ca)).setCell (p := ⟨w.heap.size, 1, none⟩) (Nat.le_refl _) (.slice (some ⟨gb, 0, none⟩) ys.length cb)
    clear oA oB hG6
    go_wp2_with fail
    refine bodyPost_ret (v := .tuple #[.agg #[.slice (some ⟨ga, 0, none⟩) xs.length ca, .slice (some ⟨gb, 0, none⟩) ys.length cb], .int .i64 c, .int .i64 x1]) ?_ rfl ⟨_, _, xs, ys, c, x1, rfl, R, hB2⟩
    simp [results, Try.results15, go_sem, hq.1, hq.2]
  | false =>
    go_wp2_with fail
    refine (drawCtr_any C _ _ _ hS3 (by omega)).mono ?_
    rintro e w5 ⟨ga, la, ca, gb, lb, cb, xs, ys, rfl, rfl, rfl, hxl, hyl, oA, oB, hS5, hG5⟩
    replace hB := gr_below hB hG5 (by omega) hB.size
    replace k1 := blk_on k1 hG5 (by omega)
    clear hG5 hS3
    go_wp2_with fail
    refine (l03Actor_any C _ _ _ hS5 (by omega)).mono ?_
    rintro e w6 ⟨c, rfl, hS6, hG6⟩
    replace hB := gr_below hB hG6 (by omega) hB.size
    replace k1 := blk_on k1 hG6 (by omega)
    replace oA := oA.apart hG6 (fun k hk => by cases hk; omega)
    replace oB := oB.apart hG6 (fun k hk => by cases hk; omega)
    have c0 := cell_blk k1 0 rfl
    have c1 := cell_blk k1 1 rfl
    have f0 := free_blk k1 0
    have f1 := free_blk k1 1
    have hq := res2 c0 c1 (.slice (some ⟨ga, 0, none⟩) xs.length ca) (.slice (some ⟨gb, 0, none⟩) ys.length cb)
    have R : PrC w ((w6.setCell ⟨w.heap.size, 0, none⟩ (.slice (some ⟨ga, 0, none⟩) xs.length ca)).setCell ⟨w.heap.size, 1, none⟩ (.slice (some ⟨gb, 0, none⟩) ys.length cb)) (.slice (some ⟨ga, 0, none⟩) xs.length ca) (.slice (some ⟨gb, 0, none⟩) ys.length cb) xs ys := ⟨((oA.setK (P := w.heap.size) 0 _ (by omega)).setK (P := w.heap.size) 1 _ (by omega)).mono (by omega), ((oB.setK (P := w.heap.size) 0 _ (by omega)).setK (P := w.heap.size) 1 _ (by omega)).mono (by omega), hxl, hyl⟩
    have hB2 := (hB.setCell (p := ⟨w.heap.size, 0, none⟩) (Nat.le_refl _) (.slice (some ⟨ga, 0, none⟩) xs.length ca)).setCell (p := ⟨w.heap.size, 1, none⟩) (Nat.le_refl _) (.slice (some ⟨gb, 0, none⟩) ys.length cb)
    clear oA oB hG6
    go_wp2_with fail
    refine bodyPost_ret (v := .tuple #[.agg #[.slice (some ⟨ga, 0, none⟩) xs.length ca, .slice (some ⟨gb, 0, none⟩) ys.length cb], .int .i64 c, .int .i64 (r - 20)]) ?_ rfl ⟨_, _, xs, ys, c, r - 20, rfl, R, hB2⟩
    simp [results, Try.results15, go_sem, hq.1, hq.2]

end Go.Proofs.Ytonpeiknoifdbab
