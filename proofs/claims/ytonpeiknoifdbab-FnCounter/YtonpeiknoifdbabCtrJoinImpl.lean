/- What the code's CounterJoin does. -/
import Derived.Test.YtonpeiknoifdbabCtrOf
namespace Go.Proofs.Ytonpeiknoifdbab
open Go.RowKit
set_option linter.unusedVariables false

/-- The cells of two arguments, and the answer's. -/
theorem base6 {w w1 : World} {va vb va' vb' : Value} (h : Below (((w.alloc (.cells #[va, vb] 36)).alloc (.cells #[va', vb'] 36)).alloc (.cells #[.slice none 0 0, .slice none 0 0] 36)).heap.size (((w.alloc (.cells #[va, vb] 36)).alloc (.cells #[va', vb'] 36)).alloc (.cells #[.slice none 0 0, .slice none 0 0] 36)) w1) :
    (w1.cell? ⟨w.heap.size, 0, none⟩ = some va ∧ w1.cell? ⟨w.heap.size, 1, none⟩ = some vb ∧ w1.cell? ⟨w.heap.size + 1, 0, none⟩ = some va' ∧ w1.cell? ⟨w.heap.size + 1, 1, none⟩ = some vb') ∧ Dy w1 (w.heap.size + 1 + 1) (.slice none 0 0) (.slice none 0 0) := by
  have h2 := below_seq (below_alloc _ _) h
  have k := two_cells h2
  rw [World.size_alloc] at k
  have k' := two_cells (below_seq (below_alloc _ _) h2)
  refine ⟨⟨k'.1, k'.2, k.1, k.2⟩, ?_⟩
  have := (Dy.made ((w.alloc (.cells #[va, vb] 36)).alloc (.cells #[va', vb'] 36)) (.slice none 0 0) (.slice none 0 0) 36).on h
  rw [World.size_alloc, World.size_alloc] at this
  exact this

/-- Two rows of the call's own, and a code. -/
def TwoAns (us vs : List Int) (k : Int) (w : World) (e : Ending) (w' : World) : Prop :=
  ∃ a la ca b lb cb T, e = .returned (.tuple #[.agg #[.slice a la ca, .slice b lb cb], .int .i64 k]) ∧ Own T w' w.heap.size (.slice a la ca) (us.map (Value.int .i64)) ∧ Own T w' w.heap.size (.slice b lb cb) (vs.map (Value.int .i64)) ∧ Apart (.slice a la ca) (.slice b lb cb) ∧ Below w.heap.size w w'
theorem twoNone {k : Int} {w w' : World} (hb : Below w.heap.size w w') : TwoAns [] [] k w (.returned (.tuple #[.agg #[.slice none 0 0, .slice none 0 0], .int .i64 k])) w' :=
  ⟨none, 0, 0, none, 0, 0, 3, rfl, World.ownsRow_nil _ _ _ _, World.ownsRow_nil _ _ _ _, fun i j hi => by simp [Value.ownBlock] at hi, hb⟩

set_option maxHeartbeats 8000000 in
set_option maxRecDepth 100000 in
theorem implJoin_core (w : World) (va vb va' vb' : Value) (X Y X' Y' : List Int) (okA okB : Bool) (us vs : List Int) (k : Int) (hy : Hid ((okA && okB) = true → us = List.zipWith mxI X X' ∧ vs = List.zipWith mxI Y Y' ∧ k = 0)) (hn : Hid ((okA && okB) = false → us = [] ∧ vs = [] ∧ k = 1)) (hX : X.length = 16) (hY : Y.length = 16) (hX' : X'.length = 16) (hY' : Y'.length = 16)
    (h1 : Calls Try.prog 36 #[.agg #[va], .agg #[vb]] (((w.alloc (.cells #[va, vb] 36)).alloc (.cells #[va', vb'] 36)).alloc (.cells #[.slice none 0 0, .slice none 0 0] 36)) fun e w' => e = .returned (.tuple #[.agg (arrC X).toArray, .agg (arrC Y).toArray, .bool okA]) ∧ Below (((w.alloc (.cells #[va, vb] 36)).alloc (.cells #[va', vb'] 36)).alloc (.cells #[.slice none 0 0, .slice none 0 0] 36)).heap.size (((w.alloc (.cells #[va, vb] 36)).alloc (.cells #[va', vb'] 36)).alloc (.cells #[.slice none 0 0, .slice none 0 0] 36)) w')
    (h2 : ∀ w1, Below w.heap.size w w1 → Calls Try.prog 36 #[.agg #[va'], .agg #[vb']] w1 fun e w' => e = .returned (.tuple #[.agg (arrC X').toArray, .agg (arrC Y').toArray, .bool okB]) ∧ Below w1.heap.size w1 w') :
    Calls Try.prog 11 #[.agg #[va, vb], .agg #[va', vb']] w (TwoAns us vs k w) := by
  have hB0 : Below w.heap.size w (((w.alloc (.cells #[va, vb] 36)).alloc (.cells #[va', vb'] 36)).alloc (.cells #[.slice none 0 0, .slice none 0 0] 36)) := below_then (below_then (below_alloc _ _) _) _
  have HI : Hid _ := arr_info' hX
  have HJ : Hid _ := arr_info' hY
  have HI' : Hid _ := arr_info' hX'
  have HJ' : Hid _ := arr_info' hY'
  go_enter Try.func11, Try.ntmps11
  go_wp2_with fail
  refine h1.mono ?_
  rintro e w1 ⟨rfl, hb1⟩
  obtain ⟨t1, t2, hK, r1, r2⟩ := arr_two (Below.refl w1.heap.size w1) (Nat.le_refl _) #[.int .i64 0, .int .i64 0, .int .i64 0, .int .i64 0, .int .i64 0, .int .i64 0, .int .i64 0, .int .i64 0, .int .i64 0, .int .i64 0, .int .i64 0, .int .i64 0, .int .i64 0, .int .i64 0, .int .i64 0, .int .i64 0] rfl 68 X Y hX hY
  have hB3 := below_seq hb1 hK
  have z1 := hb1.size
  simp only [World.size_alloc] at z1
  obtain ⟨⟨c0, c1, d0, d1⟩, _⟩ := base6 hB3
  clear h1 hb1
  go_wp2_with (first | (refine wpList_store_mid rfl 68 _ _ rfl w1.heap.size 0 (arrC X).toArray rfl rfl t1 HI.out (arrC_all _) ?_) | (refine wpList_store_mid rfl 68 _ _ rfl (w1.heap.size + 1) 0 (arrC Y).toArray rfl rfl t2 HJ.out (arrC_all _) ?_))
  have z3 : w1.heap.size + 1 + 1 ≤ ((((w1.alloc (.cells #[.int .i64 0, .int .i64 0, .int .i64 0, .int .i64 0, .int .i64 0, .int .i64 0, .int .i64 0, .int .i64 0, .int .i64 0, .int .i64 0, .int .i64 0, .int .i64 0, .int .i64 0, .int .i64 0, .int .i64 0, .int .i64 0] 68)).alloc (.cells #[.int .i64 0, .int .i64 0, .int .i64 0, .int .i64 0, .int .i64 0, .int .i64 0, .int .i64 0, .int .i64 0, .int .i64 0, .int .i64 0, .int .i64 0, .int .i64 0, .int .i64 0, .int .i64 0, .int .i64 0, .int .i64 0] 68)).setCells w1.heap.size 0 (arrC X)).setCells (w1.heap.size + 1) 0 (arrC Y)).heap.size := by
    have := (below_setCells (B := w1.heap.size) (b := w1.heap.size + 1) (by omega) (arrC Y) 0 _ (below_setCells (Nat.le_refl (w1.heap.size)) (arrC X) 0 _ (Below.refl w1.heap.size ((w1.alloc (.cells #[.int .i64 0, .int .i64 0, .int .i64 0, .int .i64 0, .int .i64 0, .int .i64 0, .int .i64 0, .int .i64 0, .int .i64 0, .int .i64 0, .int .i64 0, .int .i64 0, .int .i64 0, .int .i64 0, .int .i64 0, .int .i64 0] 68)).alloc (.cells #[.int .i64 0, .int .i64 0, .int .i64 0, .int .i64 0, .int .i64 0, .int .i64 0, .int .i64 0, .int .i64 0, .int .i64 0, .int .i64 0, .int .i64 0, .int .i64 0, .int .i64 0, .int .i64 0, .int .i64 0, .int .i64 0] 68))))).size
    simp only [World.size_alloc] at this
    exact this
  clear t1 t2 hK
  generalize (((w1.alloc (.cells #[.int .i64 0, .int .i64 0, .int .i64 0, .int .i64 0, .int .i64 0, .int .i64 0, .int .i64 0, .int .i64 0, .int .i64 0, .int .i64 0, .int .i64 0, .int .i64 0, .int .i64 0, .int .i64 0, .int .i64 0, .int .i64 0] 68)).alloc (.cells #[.int .i64 0, .int .i64 0, .int .i64 0, .int .i64 0, .int .i64 0, .int .i64 0, .int .i64 0, .int .i64 0, .int .i64 0, .int .i64 0, .int .i64 0, .int .i64 0, .int .i64 0, .int .i64 0, .int .i64 0, .int .i64 0] 68)).setCells w1.heap.size 0 (arrC X)).setCells (w1.heap.size + 1) 0 (arrC Y) = w3 at *
  refine (h2 w3 (below_seq hB0 hB3)).mono ?_
  rintro e w4 ⟨rfl, hb4⟩
  obtain ⟨t1, t2, hK, r3, r4⟩ := arr_two (Below.refl w4.heap.size w4) (Nat.le_refl _) #[.int .i64 0, .int .i64 0, .int .i64 0, .int .i64 0, .int .i64 0, .int .i64 0, .int .i64 0, .int .i64 0, .int .i64 0, .int .i64 0, .int .i64 0, .int .i64 0, .int .i64 0, .int .i64 0, .int .i64 0, .int .i64 0] rfl 68 X' Y' hX' hY'
  have hB5 := below_seq (below_seq hB3 hb4) hK
  have hK3 := below_seq hb4 hK
  have r1' := range_below hK3 (show w1.heap.size < w3.heap.size by omega) r1
  have r2' := range_below hK3 (show w1.heap.size + 1 < w3.heap.size by omega) r2
  have z4 := hb4.size
  clear h2 hb4 hK3 r1 r2 c0 c1 d0 d1 hB3
  have HR : Hid (Dy ((((w4.alloc (.cells #[.int .i64 0, .int .i64 0, .int .i64 0, .int .i64 0, .int .i64 0, .int .i64 0, .int .i64 0, .int .i64 0, .int .i64 0, .int .i64 0, .int .i64 0, .int .i64 0, .int .i64 0, .int .i64 0, .int .i64 0, .int .i64 0] 68)).alloc (.cells #[.int .i64 0, .int .i64 0, .int .i64 0, .int .i64 0, .int .i64 0, .int .i64 0, .int .i64 0, .int .i64 0, .int .i64 0, .int .i64 0, .int .i64 0, .int .i64 0, .int .i64 0, .int .i64 0, .int .i64 0, .int .i64 0] 68)).setCells w4.heap.size 0 (arrC X')).setCells (w4.heap.size + 1) 0 (arrC Y')) (w.heap.size + 1 + 1) (.slice none 0 0) (.slice none 0 0)) := (base6 hB5).2
  have hBw := below_seq hB0 hB5
  clear hB5 hB0
  have z5 : w4.heap.size + 1 + 1 ≤ ((((w4.alloc (.cells #[.int .i64 0, .int .i64 0, .int .i64 0, .int .i64 0, .int .i64 0, .int .i64 0, .int .i64 0, .int .i64 0, .int .i64 0, .int .i64 0, .int .i64 0, .int .i64 0, .int .i64 0, .int .i64 0, .int .i64 0, .int .i64 0] 68)).alloc (.cells #[.int .i64 0, .int .i64 0, .int .i64 0, .int .i64 0, .int .i64 0, .int .i64 0, .int .i64 0, .int .i64 0, .int .i64 0, .int .i64 0, .int .i64 0, .int .i64 0, .int .i64 0, .int .i64 0, .int .i64 0, .int .i64 0] 68)).setCells w4.heap.size 0 (arrC X')).setCells (w4.heap.size + 1) 0 (arrC Y')).heap.size := by
    have := (below_setCells (B := w4.heap.size) (b := w4.heap.size + 1) (by omega) (arrC Y') 0 _ (below_setCells (Nat.le_refl (w4.heap.size)) (arrC X') 0 _ (Below.refl w4.heap.size ((w4.alloc (.cells #[.int .i64 0, .int .i64 0, .int .i64 0, .int .i64 0, .int .i64 0, .int .i64 0, .int .i64 0, .int .i64 0, .int .i64 0, .int .i64 0, .int .i64 0, .int .i64 0, .int .i64 0, .int .i64 0, .int .i64 0, .int .i64 0] 68)).alloc (.cells #[.int .i64 0, .int .i64 0, .int .i64 0, .int .i64 0, .int .i64 0, .int .i64 0, .int .i64 0, .int .i64 0, .int .i64 0, .int .i64 0, .int .i64 0, .int .i64 0, .int .i64 0, .int .i64 0, .int .i64 0, .int .i64 0] 68))))).size
    simp only [World.size_alloc] at this
    exact this
  obtain ⟨⟨u0, u1⟩, hf⟩ := HR.out
  have f0 := hf 0
  have f1 := hf 1
  cases hok : (okA && okB) with
  | false =>
    have HA := hn.out hok
    obtain ⟨rfl, rfl, rfl⟩ := HA
    have hcs : okA = false ∨ (okA = true ∧ okB = false) := by cases okA <;> simp_all
    clear hy hn hok
    rcases hcs with rfl | ⟨rfl, rfl⟩
    all_goals
      go_wp2_with (first | (refine wpList_store_mid rfl 68 _ _ rfl w4.heap.size 0 (arrC X').toArray rfl rfl t1 HI'.out (arrC_all _) ?_) | (refine wpList_store_mid rfl 68 _ _ rfl (w4.heap.size + 1) 0 (arrC Y').toArray rfl rfl t2 HJ'.out (arrC_all _) ?_))
      have hp := (Dy.set1 (Dy.set0 HR.out (.slice none 0 0)) (.slice none 0 0)).1
      refine bodyPost_ret (v := .tuple #[.agg #[.slice none 0 0, .slice none 0 0], .int .i64 1]) ?_ rfl (twoNone ((hBw.setCell (p := ⟨w.heap.size + 1 + 1, 0, none⟩) (by show w.heap.size ≤ w.heap.size + 1 + 1; omega) _).setCell (p := ⟨w.heap.size + 1 + 1, 1, none⟩) (by show w.heap.size ≤ w.heap.size + 1 + 1; omega) _))
      simp [results, Try.results11, go_sem, hp.1, hp.2]
  | true =>
    have HA := hy.out hok
    obtain ⟨rfl, rfl, rfl⟩ := HA
    rw [Bool.and_eq_true] at hok
    obtain ⟨rfl, rfl⟩ := hok
    clear hy hn
    go_wp2_with (first | (refine wpList_store_mid rfl 68 _ _ rfl w4.heap.size 0 (arrC X').toArray rfl rfl t1 HI'.out (arrC_all _) ?_) | (refine wpList_store_mid rfl 68 _ _ rfl (w4.heap.size + 1) 0 (arrC Y').toArray rfl rfl t2 HJ'.out (arrC_all _) ?_))
    clear t1 t2 hK u0 u1 hf f0 f1
    generalize (((w4.alloc (.cells #[.int .i64 0, .int .i64 0, .int .i64 0, .int .i64 0, .int .i64 0, .int .i64 0, .int .i64 0, .int .i64 0, .int .i64 0, .int .i64 0, .int .i64 0, .int .i64 0, .int .i64 0, .int .i64 0, .int .i64 0, .int .i64 0] 68)).alloc (.cells #[.int .i64 0, .int .i64 0, .int .i64 0, .int .i64 0, .int .i64 0, .int .i64 0, .int .i64 0, .int .i64 0, .int .i64 0, .int .i64 0, .int .i64 0, .int .i64 0, .int .i64 0, .int .i64 0, .int .i64 0, .int .i64 0] 68)).setCells w4.heap.size 0 (arrC X')).setCells (w4.heap.size + 1) 0 (arrC Y') = w5 at *
    have HX : Hid _ := arr_info hX
    have HY : Hid _ := arr_info hY
    have HX' : Hid _ := arr_info hX'
    have HY' : Hid _ := arr_info hY'
    have lX : (List.zipWith mxI X X').length = 16 := by simp [hX, hX']
    have lY : (List.zipWith mxI Y Y').length = 16 := by simp [hY, hY']
    refine wp_region_held_drew (S := fun w' => w'.rangeAt w1.heap.size 0 (arrC X) ∧ w'.rangeAt w4.heap.size 0 (arrC X') ∧ w'.rangeAt (w1.heap.size + 1) 0 (arrC Y) ∧ w'.rangeAt (w4.heap.size + 1) 0 (arrC Y')) (by kernel_rfl) ⟨(World.rangeAt_drew _ _ _ _).2 r1', (World.rangeAt_drew _ _ _ _).2 r3, (World.rangeAt_drew _ _ _ _).2 r2', (World.rangeAt_drew _ _ _ _).2 r4⟩ (fun hHeld => ?_)
    refine wpAnyH_take (i := 0) (v := .agg (arrC X).toArray) rfl (by kernel_rfl) (by kernel_rfl) (by kernel_rfl) (fun _ _ _ h => h) (yieldsIf_load_mid rfl _ _ rfl w1.heap.size 0 rfl (arrC X) _ (fun w h => h.1) Try.underlying68 rfl HX.out) hHeld ?_
    simp only [List.getElem_toArray, List.getElem_cons_zero, Act.put, List.setIfInBounds_toArray, List.set_cons_zero, List.set_cons_succ]
    refine wpAnyH_take (i := 1) (v := .agg (arrC X').toArray) rfl (by kernel_rfl) (by kernel_rfl) (by kernel_rfl) (fun _ _ _ h => h) (yieldsIf_load_mid rfl _ _ rfl w4.heap.size 0 rfl (arrC X') _ (fun w h => h.2.1) Try.underlying68 rfl HX'.out) hHeld ?_
    simp only [List.getElem_toArray, List.getElem_cons_succ, List.getElem_cons_zero, Act.put, List.setIfInBounds_toArray, List.set_cons_zero, List.set_cons_succ]
    refine wpAnyH_take (i := 3) (v := .agg (arrC Y).toArray) rfl (by kernel_rfl) (by kernel_rfl) (by kernel_rfl) (fun _ _ _ h => h) (yieldsIf_load_mid rfl _ _ rfl (w1.heap.size + 1) 0 rfl (arrC Y) _ (fun w h => h.2.2.1) Try.underlying68 rfl HY.out) hHeld ?_
    simp only [List.getElem_toArray, List.getElem_cons_succ, List.getElem_cons_zero, Act.put, List.setIfInBounds_toArray, List.set_cons_zero, List.set_cons_succ]
    refine wpAnyH_take (i := 4) (v := .agg (arrC Y').toArray) rfl (by kernel_rfl) (by kernel_rfl) (by kernel_rfl) (fun _ _ _ h => h) (yieldsIf_load_mid rfl _ _ rfl (w4.heap.size + 1) 0 rfl (arrC Y') _ (fun w h => h.2.2.2) Try.underlying68 rfl HY'.out) hHeld ?_
    simp only [List.getElem_toArray, List.getElem_cons_succ, List.getElem_cons_zero, Act.put, List.setIfInBounds_toArray, List.set_cons_zero, List.set_cons_succ]
    refine wpAnyH_ready (rs := [2]) (by kernel_rfl) (by simp) ?_
    refine AllReadyH.cons rfl (fun K hK => ?_) AllReadyH.nil
    go_simp
    refine (join_any _ X X' hX hX').mono ?_
    rintro e w6 ⟨rfl, hb6⟩
    go_wp2_with fail
    have z6 : w5.heap.size ≤ w6.heap.size := hb6.size
    have e5 : w5.drew.heap.size = w5.heap.size := rfl
    refine hK.out _ _ ⟨range_below hb6 (by omega) hHeld.1, range_below hb6 (by omega) hHeld.2.1, range_below hb6 (by omega) hHeld.2.2.1, range_below hb6 (by omega) hHeld.2.2.2⟩ (fun hHeld1 => ?_)
    clear hK K
    refine wpAnyH_ready (rs := [5]) (by kernel_rfl) (by simp) ?_
    refine AllReadyH.cons rfl (fun K hK => ?_) AllReadyH.nil
    go_simp
    refine (join_any _ Y Y' hY hY').mono ?_
    rintro e w7 ⟨rfl, hb7⟩
    go_wp2_with fail
    have z7 := hb7.size
    refine hK.out _ _ ⟨range_below hb7 (by omega) hHeld1.1, range_below hb7 (by omega) hHeld1.2.1, range_below hb7 (by omega) hHeld1.2.2.1, range_below hb7 (by omega) hHeld1.2.2.2⟩ (fun hHeld2 => ?_)
    clear hK K
    refine wpAnyH_ready (rs := [6]) (by kernel_rfl) (by simp) ?_
    refine AllReadyH.cons rfl (fun K hK => ?_) AllReadyH.nil
    go_simp
    refine (counterOf_any _ _ _ lX lY).mono ?_
    rintro e w8 ⟨a8, b8, rfl, ho8, hp8, hap, hb8⟩
    go_wp2_with fail
    have z8 := hb8.size
    refine hK.out _ _ ⟨range_below hb8 (by omega) hHeld2.1, range_below hb8 (by omega) hHeld2.2.1, range_below hb8 (by omega) hHeld2.2.2.1, range_below hb8 (by omega) hHeld2.2.2.2⟩ (fun hHeld3 => ?_)
    clear hK K
    refine wpAnyH_ready (rs := [7]) (by kernel_rfl) (by simp) ?_
    refine AllReadyH.cons rfl (fun K hK => ?_) AllReadyH.nil
    have hR8 : Dy w8 (w.heap.size + 1 + 1) (.slice none 0 0) (.slice none 0 0) := ((Dy.on (w := w5.drew) HR.out hb6).on hb7).on hb8
    have hR8' := hR8
    obtain ⟨⟨u0, u1⟩, hf⟩ := hR8'
    have f0 := hf 0
    have f1 := hf 1
    go_simp
    refine hK.out _ _ ⟨World.rangeAt_setCells_apart (World.rangeAt_setCells_apart hHeld3.1 _ _ [_] (.inl (by omega))) _ _ [_] (.inl (by omega)), World.rangeAt_setCells_apart (World.rangeAt_setCells_apart hHeld3.2.1 _ _ [_] (.inl (by omega))) _ _ [_] (.inl (by omega)), World.rangeAt_setCells_apart (World.rangeAt_setCells_apart hHeld3.2.2.1 _ _ [_] (.inl (by omega))) _ _ [_] (.inl (by omega)), World.rangeAt_setCells_apart (World.rangeAt_setCells_apart hHeld3.2.2.2 _ _ [_] (.inl (by omega))) _ _ [_] (.inl (by omega))⟩ (fun hHeld4 => ?_)
    clear hK K
    refine wpAnyH_take (i := 8) (v := _) rfl (by kernel_rfl) (by kernel_rfl) (by kernel_rfl) (fun _ _ _ h => h) (Or.inl ⟨rfl, fun w hw => rfl⟩) hHeld4 ?_
    simp only [List.getElem_toArray, List.getElem_cons_succ, List.getElem_cons_zero, Act.put, List.setIfInBounds_toArray, List.set_cons_zero, List.set_cons_succ]
    refine wpAnyH_done (by kernel_rfl) ?_ _
    have hR9 := (Dy.set1 (Dy.set0 hR8 (.slice a8 16 16)) (.slice b8 16 16)).1
    have k1 := Own.setK (Own.setK ho8 (P := w.heap.size + 1 + 1) 0 (.slice a8 16 16) (by omega)) (P := w.heap.size + 1 + 1) 1 (.slice b8 16 16) (by omega)
    have k2 := Own.setK (Own.setK hp8 (P := w.heap.size + 1 + 1) 0 (.slice a8 16 16) (by omega)) (P := w.heap.size + 1 + 1) 1 (.slice b8 16 16) (by omega)
    have hB9 := ((below_seq (below_seq (below_seq hBw.drew hb6) hb7) hb8).setCell (p := ⟨w.heap.size + 1 + 1, 0, none⟩) (by show w.heap.size ≤ w.heap.size + 1 + 1; omega) (.slice a8 16 16)).setCell (p := ⟨w.heap.size + 1 + 1, 1, none⟩) (by show w.heap.size ≤ w.heap.size + 1 + 1; omega) (.slice b8 16 16)
    go_wp2_with fail
    refine bodyPost_ret (v := .tuple #[.agg #[.slice a8 16 16, .slice b8 16 16], .int .i64 0]) ?_ rfl ⟨a8, 16, 16, b8, 16, 16, 68, rfl, k1.mono (by omega), k2.mono (by omega), hap, hB9⟩
    simp [results, Try.results11, go_sem, hR9.1, hR9.2]

/-- What both functions CounterJoin answer. -/
def jnOK (xs ys xs' ys' : List Int) : Bool := (vecOK xs && vecOK ys) && (vecOK xs' && vecOK ys')
def jnA (ok : Bool) (xs xs' : List Int) : List Int := if ok = true then List.zipWith mxI xs xs' else []
def jnC (ok : Bool) : Int := if ok = true then 0 else 1

theorem implCounterJoin_any (C D C' D' : Nat) (w : World) (va vb va' vb' : Value) (xs ys xs' ys' : List Int) (hC : C ≤ w.heap.size) (hD : D ≤ w.heap.size) (hC' : C' ≤ w.heap.size) (hD' : D' ≤ w.heap.size)
    (ha : Rd C w va (xs.map (Value.int .i64))) (hb : Rd D w vb (ys.map (Value.int .i64))) (ha' : Rd C' w va' (xs'.map (Value.int .i64))) (hb' : Rd D' w vb' (ys'.map (Value.int .i64))) :
    Calls Try.prog 11 #[.agg #[va, vb], .agg #[va', vb']] w (TwoAns (jnA (jnOK xs ys xs' ys') xs xs') (jnA (jnOK xs ys xs' ys') ys ys') (jnC (jnOK xs ys xs' ys')) w) := by
  have hB0 : Below w.heap.size w (((w.alloc (.cells #[va, vb] 36)).alloc (.cells #[va', vb'] 36)).alloc (.cells #[.slice none 0 0, .slice none 0 0] 36)) := below_then (below_then (below_alloc _ _) _) _
  refine implJoin_core w va vb va' vb' (cnt xs) (cnt ys) (cnt xs') (cnt ys') (vecOK xs && vecOK ys) (vecOK xs' && vecOK ys') _ _ _ (fun h => ?_) (fun h => ?_) (cnt_len _) (cnt_len _) (cnt_len _) (cnt_len _)
    (countsOfBoth_any C D _ va vb xs ys (Nat.le_trans hC hB0.size) (Nat.le_trans hD hB0.size) (ha.belowW hB0 hC) (hb.belowW hB0 hD))
    (fun w1 hw => countsOfBoth_any C' D' w1 va' vb' xs' ys' (Nat.le_trans hC' hw.size) (Nat.le_trans hD' hw.size) (ha'.belowW hw hC') (hb'.belowW hw hD'))
  · have h' := h
    simp only [Bool.and_eq_true] at h'
    unfold jnA jnC jnOK cnt
    rw [h, if_pos rfl, if_pos rfl, if_pos rfl, if_pos h'.1.1, if_pos h'.1.2, if_pos h'.2.1, if_pos h'.2.2]
    exact ⟨rfl, rfl, rfl⟩
  · unfold jnA jnC jnOK
    rw [h]
    exact ⟨rfl, rfl, rfl⟩

end Go.Proofs.Ytonpeiknoifdbab
