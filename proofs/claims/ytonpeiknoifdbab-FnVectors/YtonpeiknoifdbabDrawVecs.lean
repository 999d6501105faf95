/- What the draws of two vectors answer. -/
import Derived.Test.YtonpeiknoifdbabSrcVec2
namespace Go.Proofs.Ytonpeiknoifdbab
open Go.RowKit
set_option linter.unusedVariables false

set_option maxHeartbeats 1000000 in
set_option maxRecDepth 100000 in
theorem next1_any (C b A : Nat) (n : Int) (w : World) (h : Src C w b A) (hA : A ≤ 900000000) (hn : 1 ≤ n) (hn' : n ≤ 16777216) :
    Calls Try.prog 41 #[.pointer (some ⟨b, 0, none⟩), .int .i64 n] w fun e w' => ∃ r : Int, e = .returned (.int .i64 r) ∧ 0 ≤ r ∧ r < n ∧ Src C w' b (A + 3) ∧ w.grownBy w' (some b) := by
  by_cases h2 : 2 ≤ n
  · exact srcNext_any C b A n w h hA h2 hn'
  · obtain rfl : n = 1 := by omega
    go_enter Try.func41, Try.ntmps41
    go_wp2_with fail
    go_ret
    exact ⟨0, rfl, by omega, by omega, h.mono (by omega), World.grownBy.refl _ _⟩

/-- Beside a source in b: two rows, two variables that hold them, and two places for the answer. -/
structure Dt (C : Nat) (w : World) (b na nb : Nat) (va vb : Value) (xs ys : List Int) (A : Nat) (wr : World) : Prop where
  ownA : Own 3 wr (b + 1) va (xs.map (Value.int .i64))
  ownB : Own 3 wr (b + 1) vb (ys.map (Value.int .i64))
  varA : wr.heap[na]? = some (.cells #[va] 34 (0, 0))
  varB : wr.heap[nb]? = some (.cells #[vb] 34 (0, 0))
  res0 : wr.heap[w.heap.size]? = some (.cells #[.slice none 0 0] 34 (0, 0))
  res1 : wr.heap[w.heap.size + 1]? = some (.cells #[.slice none 0 0] 34 (0, 0))
  src : Src C wr b A
  bel : Below w.heap.size w wr
  lb : b = w.heap.size + 2
  la : b < na
  ln : na < nb
theorem Dt.on {C : Nat} {w : World} {b na nb : Nat} {va vb : Value} {xs ys : List Int} {A A' : Nat} {wr w' : World} (h : Dt C w b na nb va vb xs ys A wr) (hs : Src C w' b A') (hg : wr.grownBy w' (some b)) : Dt C w b na nb va vb xs ys A' w' := by
  have := h.lb
  have := h.la
  have := h.ln
  exact ⟨h.ownA.apart hg (fun k hk => by cases hk; omega), h.ownB.apart hg (fun k hk => by cases hk; omega), blk_on h.varA hg (by omega), blk_on h.varB hg (by omega), blk_on h.res0 hg (by omega), blk_on h.res1 hg (by omega), hs, gr_below h.bel hg (by omega) h.bel.size, h.lb, h.la, h.ln⟩
theorem Dt.drew {C : Nat} {w : World} {b na nb : Nat} {va vb : Value} {xs ys : List Int} {A : Nat} {wr : World} (h : Dt C w b na nb va vb xs ys A wr) : Dt C w b na nb va vb xs ys A wr.drew := ⟨h.ownA, h.ownB, h.varA, h.varB, h.res0, h.res1, h.src, h.bel.drew, h.lb, h.la, h.ln⟩
/-- The second variable put anew: a row that was copied. -/
theorem Dt.copied {C : Nat} {w : World} {b na nb : Nat} {va vb vc : Value} {xs ys zs : List Int} {A : Nat} {wr w' : World} (h : Dt C w b na nb va vb xs ys A wr) (hb : Below wr.heap.size wr w') (ho : Own 3 w' wr.heap.size vc (zs.map (Value.int .i64))) :
    w'.cell? ⟨nb, 0, none⟩ = some vb ∧ w'.frozen? ⟨nb, 0, none⟩ = false ∧ Dt C w b na nb va vc xs zs A (w'.setCell ⟨nb, 0, none⟩ vc) := by
  have h1 := h.lb
  have h2 := h.la
  have h3 := h.ln
  have la := (Array.getElem?_eq_some_iff.1 h.varA).1
  have lb := (Array.getElem?_eq_some_iff.1 h.varB).1
  have l0 := (Array.getElem?_eq_some_iff.1 h.res0).1
  have l1 := (Array.getElem?_eq_some_iff.1 h.res1).1
  have ls := h.src.lt
  have kb := (hb.block nb lb).trans h.varB
  have ka := (hb.block na la).trans h.varA
  have k0 := (hb.block w.heap.size l0).trans h.res0
  have k1 := (hb.block (w.heap.size + 1) l1).trans h.res1
  have hg := grownBy_set w' nb 0 vc
  refine ⟨cell_blk kb 0 rfl, free_blk kb 0, ⟨?_, ?_, blk_beside ka (by omega) _, blk_put kb, blk_beside k0 (by omega) _, blk_beside k1 (by omega) _, (h.src.below hb ls).set (by omega) _, (below_seq h.bel hb).setCell (p := ⟨nb, 0, none⟩) (by show w.heap.size ≤ nb; omega) _, h1, h2, h3⟩⟩
  · have := h.ownA.below hb (Nat.le_refl _)
    obtain ⟨q1, q2⟩ := this
    refine ⟨q1, ?_⟩
    rcases q2 with q2 | ⟨g, cap, cur, hv, hb', hh, r⟩
    · exact .inl q2
    · refine .inr ⟨g, cap, cur, hv, hb', ?_, r⟩
      rw [hg.block g (Array.getElem?_eq_some_iff.1 hh).1 (fun e => ?_)]
      · exact hh
      · cases e
        rw [kb] at hh
        simp only [Option.some.injEq, Obj.cells.injEq] at hh
        exact absurd hh.2.1 (by decide)
  · exact (ho.apart hg (fun k hk => by cases hk; omega)).mono (by omega)
/-- A count of the second row put anew. -/
theorem Dt.put {C : Nat} {w : World} {b na nb : Nat} {va : Value} {xs ys : List Int} {A g l c : Nat} {wr : World} (h : Dt C w b na nb va (.slice (some ⟨g, 0, none⟩) l c) xs ys A wr) (hn : ∀ k, va.ownBlock = some k → k ≠ g) (n : Nat) (x : Int) : Dt C w b na nb va (.slice (some ⟨g, 0, none⟩) l c) xs (ys.set n x) A (wr.setCell ⟨g, n, none⟩ (.int .i64 x)) := by
  have h1 := h.lb
  have h2 := h.la
  have h3 := h.ln
  have h4 := own_lt h.ownB
  have n1 := own_ne h.ownB h.varA (by decide)
  have n2 := own_ne h.ownB h.varB (by decide)
  have hg := grownBy_set wr g n (.int .i64 x)
  refine ⟨?_, ?_, blk_beside h.varA (fun e => n1 e.symm) _, blk_beside h.varB (fun e => n2 e.symm) _, blk_beside h.res0 (by omega) _, blk_beside h.res1 (by omega) _, h.src.set (by omega) _, h.bel.setCell (p := ⟨g, n, none⟩) (by show w.heap.size ≤ g; omega) _, h1, h2, h3⟩
  · obtain ⟨q1, q2⟩ := h.ownA
    refine ⟨q1, ?_⟩
    rcases q2 with q2 | ⟨g', cap, cur, hv, hb', hh, r⟩
    · exact .inl q2
    · refine .inr ⟨g', cap, cur, hv, hb', ?_, r⟩
      rw [hg.block g' (Array.getElem?_eq_some_iff.1 hh).1 (fun e => ?_)]
      · exact hh
      · cases e
        subst hv
        exact hn g rfl rfl
  · have := own_set h.ownB n (.int .i64 x)
    rw [map_set_int] at this
    exact this
/-- What lies there at the answer. -/
theorem Dt.fin {C : Nat} {w : World} {b na nb : Nat} {va vb : Value} {xs ys : List Int} {A : Nat} {wr : World} (h : Dt C w b na nb va vb xs ys A wr) :
    ((wr.setCell ⟨w.heap.size, 0, none⟩ va).setCell ⟨w.heap.size + 1, 0, none⟩ vb).drew.cell? ⟨w.heap.size, 0, none⟩ = some va ∧ ((wr.setCell ⟨w.heap.size, 0, none⟩ va).setCell ⟨w.heap.size + 1, 0, none⟩ vb).drew.cell? ⟨w.heap.size + 1, 0, none⟩ = some vb ∧
    Own 3 ((wr.setCell ⟨w.heap.size, 0, none⟩ va).setCell ⟨w.heap.size + 1, 0, none⟩ vb).drew w.heap.size va (xs.map (Value.int .i64)) ∧
    Own 3 ((wr.setCell ⟨w.heap.size, 0, none⟩ va).setCell ⟨w.heap.size + 1, 0, none⟩ vb).drew w.heap.size vb (ys.map (Value.int .i64)) ∧
    Below w.heap.size w ((wr.setCell ⟨w.heap.size, 0, none⟩ va).setCell ⟨w.heap.size + 1, 0, none⟩ vb).drew := by
  have h1 := h.lb
  have g1 := grownBy_set wr w.heap.size 0 va
  have g2 := grownBy_set (wr.setCell ⟨w.heap.size, 0, none⟩ va) (w.heap.size + 1) 0 vb
  have a1 : Own 3 _ (b + 1) va _ := (h.ownA.apart g1 (fun k hk => by cases hk; omega)).apart g2 (fun k hk => by cases hk; omega)
  have b1 : Own 3 _ (b + 1) vb _ := (h.ownB.apart g1 (fun k hk => by cases hk; omega)).apart g2 (fun k hk => by cases hk; omega)
  have k0 := blk_beside (m := w.heap.size + 1) (k := 0) (blk_put (v := va) h.res0) (by omega) vb
  have k1 := blk_put (v := vb) (blk_beside (m := w.heap.size) (k := 0) h.res1 (by omega) va)
  have hB := (h.bel.setCell (p := ⟨w.heap.size, 0, none⟩) (Nat.le_refl _) va).setCell (p := ⟨w.heap.size + 1, 0, none⟩) (Nat.le_succ _) vb
  exact ⟨cell_blk k0 0 rfl, cell_blk k1 0 rfl, a1.mono (by omega), b1.mono (by omega), hB.drew⟩

set_option maxHeartbeats 8000000 in
set_option maxRecDepth 100000 in
theorem drawTwo_any (C : Nat) (w : World) (v : Value) (cs : List Int) (hC : C ≤ w.heap.size) (hr : Rd C w v (cs.map (Value.int .u8))) (hX : ∀ x ∈ cs, 0 ≤ x ∧ x ≤ 255) (hl : cs.length ≤ 1048576) :
    Calls Try.prog 54 #[v] w fun e w' => ∃ (va vb : Value) (xs ys : List Int), e = .returned (.tuple #[.agg #[va], .agg #[vb]]) ∧ xs.length ≤ 17 ∧ ys.length ≤ 17 ∧ Own 3 w' w.heap.size va (xs.map (Value.int .i64)) ∧ Own 3 w' w.heap.size vb (ys.map (Value.int .i64)) ∧ Below w.heap.size w w' := by
  have hB0 : Below w.heap.size w ((w.alloc (.cells #[.slice none 0 0] 34)).alloc (.cells #[.slice none 0 0] 34)) := below_then (below_alloc _ _) _
  have hr2 := Rd.below hr (hB0.mono hC)
  obtain ⟨ao, la0, ca0, rfl⟩ : ∃ ao len cap, v = .slice ao len cap := by
    obtain ⟨ao, cap, rfl, _⟩ := hr
    exact ⟨_, _, _, rfl⟩
  have k1 : ((w.alloc (.cells #[.slice none 0 0] 34)).alloc (.cells #[.slice none 0 0] 34)).heap[w.heap.size]? = some (.cells #[.slice none 0 0] 34 (0, 0)) := blk_al (heap_alloc_new w _) _
  have k2 : ((w.alloc (.cells #[.slice none 0 0] 34)).alloc (.cells #[.slice none 0 0] 34)).heap[w.heap.size + 1]? = some (.cells #[.slice none 0 0] 34 (0, 0)) := by
    have := heap_alloc_new (w.alloc (.cells #[.slice none 0 0] 34)) (.cells #[.slice none 0 0] 34)
    rw [World.size_alloc] at this
    exact this
  go_enter Try.func54, Try.ntmps54
  go_wp2_with fail
  refine (source_any C _ _ cs (Nat.le_trans hC hB0.size) hr2 hX hl).mono ?_
  rintro e w1 ⟨rfl, hS, hb1⟩
  have hB1 := below_seq hB0 hb1
  replace k1 := (hb1.block w.heap.size (by simp only [World.size_alloc]; omega)).trans k1
  replace k2 := (hb1.block (w.heap.size + 1) (by simp only [World.size_alloc]; omega)).trans k2
  simp only [World.size_alloc] at hS
  clear hr hr2 hb1 hB0
  go_wp2_with fail
  refine (oddVector_any C _ 0 _ hS (by omega)).mono ?_
  rintro e w2 ⟨ga, la, ca, xs, rfl, rfl, hxl, hxX, hoA, hS2, hG2⟩
  have hB2 := gr_below hB1 hG2 (by omega) hB1.size
  replace k1 := blk_on k1 hG2 (by omega)
  replace k2 := blk_on k2 hG2 (by omega)
  have lA := own_lt hoA
  have mA := hoA.blk ga rfl
  have ls := hS.lt
  replace hoA := hoA.mono (B' := w.heap.size + 2 + 1) (by omega)
  clear hS hG2 hB1
  go_wp2_with fail
  refine (oddVector_any C _ _ _ (hS2.alloc (.cells #[.slice (some ⟨ga, 0, none⟩) xs.length ca] 34)) (by omega)).mono ?_
  rintro e w3 ⟨gb, lb, cb, ys, rfl, rfl, hyl, hyX, hoB, hS3, hG3⟩
  have lB := own_lt hoB
  have mB := hoB.blk gb rfl
  rw [World.size_alloc] at lB
  have s3 := hG3.size
  rw [World.size_alloc] at s3
  have DT : Dt C w (w.heap.size + 2) w2.heap.size w3.heap.size (.slice (some ⟨ga, 0, none⟩) xs.length ca) (.slice (some ⟨gb, 0, none⟩) ys.length cb) xs ys (0 + 21 + 21) (w3.alloc (.cells #[.slice (some ⟨gb, 0, none⟩) ys.length cb] 34)) := by
    have t0 := gr_below (below_then hB2 (.cells #[.slice (some ⟨ga, 0, none⟩) xs.length ca] 34)) hG3 (by omega) (below_then hB2 _).size
    refine ⟨Own.below ((Own.below hoA (below_alloc w2 _) (Nat.le_refl _)).apart hG3 (fun k hk => by cases hk; omega)) (below_alloc w3 _) (Nat.le_refl _), Own.below (hoB.mono (by rw [World.size_alloc]; omega)) (below_alloc w3 _) (Nat.le_refl _), blk_al (blk_kept (by omega) hG3) _, heap_alloc_new w3 _, blk_al (blk_on (blk_al k1 _) hG3 (by omega)) _, blk_al (blk_on (blk_al k2 _) hG3 (by omega)) _, hS3.alloc _, below_then t0 _, rfl, by omega, by omega⟩
  generalize hna : w2.heap.size = na at DT lB s3 mA ⊢
  generalize hnb : w3.heap.size = nb at DT s3 mB ⊢
  clear hS2 hS3 hG3 hoA hoB hB2 k1 k2 hna
  go_wp2_with fail
  refine (srcNext_any C _ _ 4 _ DT.src (by omega) (by omega) (by omega)).mono ?_
  rintro e w4 ⟨r, rfl, hr0, hr1, hS4, hG4⟩
  replace DT := DT.on hS4 hG4
  have s4 := hG4.size
  rw [World.size_alloc, hnb] at s4
  clear hS4 hG4 hnb
  refine if h0 : r = 0 then ?pa else ?pb
  case' pb => refine if h1 : r = 1 then ?pc else ?pd
  case pa =>
    subst h0
    have c0 := cell_blk DT.varA 0 rfl
    go_wp2_with fail
    refine (l02Copy_any _ w4 _ xs (by omega) (Nat.le_refl _) DT.ownA.rd).mono ?_
    rintro e w5 ⟨a5, c5, rfl, ho5, hb5⟩
    obtain ⟨q1, q2, DT⟩ := DT.copied hb5 ho5
    have c1 := cell_blk DT.varA 0 rfl
    have c2 := cell_blk DT.varB 0 rfl
    have c3 := cell_blk DT.res0 0 rfl
    have f3 := free_blk DT.res0 0
    have c4 := cell_blk DT.res1 0 rfl
    have f4 := free_blk DT.res1 0
    obtain ⟨z0, z1, z2, z3, z4⟩ := DT.fin
    go_wp2_with fail
    go_region
    go_wp2_with fail
    refine bodyPost_ret (v := .tuple #[.agg #[.slice (some ⟨ga, 0, none⟩) xs.length ca], .agg #[.slice a5 xs.length c5]]) ?_ rfl ⟨_, _, xs, xs, rfl, hxl, by first | omega | (simp; omega), z2, z3, z4⟩
    simp [results, Try.results54, go_sem, z0, z1]
  case pc =>
    subst h1
    have c0 := cell_blk DT.varA 0 rfl
    go_wp2_with fail
    refine (l02Copy_any _ w4 _ xs (by omega) (Nat.le_refl _) DT.ownA.rd).mono ?_
    rintro e w5 ⟨a5, c5, rfl, ho5, hb5⟩
    obtain ⟨q1, q2, DT⟩ := DT.copied hb5 ho5
    have c2 := cell_blk DT.varB 0 rfl
    by_cases hz : xs.length = 0
    · have hz' : ¬ (0 : Int) < (xs.length : Int) := by omega
      clear hz
      have c1 := cell_blk DT.varA 0 rfl
      have c2 := cell_blk DT.varB 0 rfl
      have c3 := cell_blk DT.res0 0 rfl
      have f3 := free_blk DT.res0 0
      have c4 := cell_blk DT.res1 0 rfl
      have f4 := free_blk DT.res1 0
      obtain ⟨z0, z1, z2, z3, z4⟩ := DT.fin
      go_wp2_with fail
      go_region
      go_wp2_with fail
      refine bodyPost_ret (v := .tuple #[.agg #[.slice (some ⟨ga, 0, none⟩) xs.length ca], .agg #[.slice a5 xs.length c5]]) ?_ rfl ⟨_, _, xs, xs, rfl, hxl, by first | omega | (simp; omega), z2, z3, z4⟩
      simp [results, Try.results54, go_sem, z0, z1]
    · have hz' : (0 : Int) < (xs.length : Int) := by omega
      have hz1 : (1 : Int) ≤ (xs.length : Int) := by omega
      have hz2 : (xs.length : Int) ≤ 16777216 := by omega
      obtain ⟨g5, c5', e5, l5, m5, _⟩ := ho5.some (by simp; omega)
      rw [List.length_map] at e5
      simp only [Value.slice.injEq] at e5
      obtain ⟨rfl, _, rfl⟩ := e5
      replace DT := DT.drew
      have c6 := cell_blk DT.varB 0 rfl
      clear hz
      go_wp2_with fail
      go_region_with (go_at_call 41; refine Calls.mono (next1_any C _ _ _ _ (by exact DT.src) (by omega) hz1 hz2) ?_; rintro e w6 ⟨r1, rfl, hr0, hr1, hS6, hG6⟩; replace DT := DT.on hS6 hG6; (obtain ⟨n1, rfl⟩ : ∃ n : Nat, r1 = (n : Int) := ⟨r1.toNat, by omega⟩); (have hn1 : n1 < xs.length := by omega); (have c7 := cell_blk DT.varB 0 rfl); (have d1 := own_cell DT.ownB (k := n1) (by rw [List.length_map]; exact hn1)); (rw [List.getElem_map] at d1); (have d2 := own_free DT.ownB n1); (have hq := hxX xs[n1] (List.getElem_mem hn1)); (have hw : IntKind.i64.wrap (xs[n1] + 1) = xs[n1] + 1 := by rw [IntKind.wrap_i64]; omega))
      all_goals
        replace DT := DT.put (fun k hk => by simp [Value.ownBlock] at hk; omega) n1 (xs[n1] + 1)
        try rw [hw]
        clear hw
        generalize xs[n1] + 1 = y at *
        have c1 := cell_blk DT.varA 0 rfl
        have c2 := cell_blk DT.varB 0 rfl
        have c3 := cell_blk DT.res0 0 rfl
        have f3 := free_blk DT.res0 0
        have c4 := cell_blk DT.res1 0 rfl
        have f4 := free_blk DT.res1 0
        obtain ⟨z0, z1, z2, z3, z4⟩ := DT.fin
        go_wp2_with fail
        go_region
        go_wp2_with fail
        refine bodyPost_ret (v := .tuple #[.agg #[.slice (some ⟨ga, 0, none⟩) xs.length ca], .agg #[.slice (some ⟨g5, 0, none⟩) xs.length c5]]) ?_ rfl ⟨_, _, xs, xs.set n1 y, rfl, hxl, by first | omega | (simp; omega), z2, z3, z4⟩
        simp [results, Try.results54, go_sem, z0, z1]
  case pd =>
    have e0 : (r == 0) = false := by simpa using h0
    have e1 : (r == 1) = false := by simpa using h1
    clear h0 h1
    have c1 := cell_blk DT.varA 0 rfl
    have c2 := cell_blk DT.varB 0 rfl
    have c3 := cell_blk DT.res0 0 rfl
    have f3 := free_blk DT.res0 0
    have c4 := cell_blk DT.res1 0 rfl
    have f4 := free_blk DT.res1 0
    obtain ⟨z0, z1, z2, z3, z4⟩ := DT.fin
    go_wp2_with fail
    go_region
    go_wp2_with fail
    refine bodyPost_ret (v := .tuple #[.agg #[.slice (some ⟨ga, 0, none⟩) xs.length ca], .agg #[.slice (some ⟨gb, 0, none⟩) ys.length cb]]) ?_ rfl ⟨_, _, xs, ys, rfl, hxl, by first | omega | (simp; omega), z2, z3, z4⟩
    simp [results, Try.results54, go_sem, z0, z1]

end Go.Proofs.Ytonpeiknoifdbab
