/- What the code's counterOf does. -/
import Derived.Test.YtonpeiknoifdbabCtrBase
import Derived.Test.YtonpeiknoifdbabVecJoinImpl
namespace Go.Proofs.Ytonpeiknoifdbab
open Go.RowKit
set_option linter.unusedVariables false

theorem apart_of {T T' : TypeId} {w w' : World} {B : Nat} {u v : Value} {cs ds : List Value} (h : Own T w B u cs) (k : Own T' w' w.heap.size v ds) : Apart u v := fun i j hi hj => by
  have := h.blk i hi
  have := k.lt j hj
  omega

set_option maxHeartbeats 2000000 in
set_option maxRecDepth 100000 in
theorem counterOf_any (w : World) (X Y : List Int) (hx : X.length = 16) (hy : Y.length = 16) :
    Calls Try.prog 37 #[.agg (arrC X).toArray, .agg (arrC Y).toArray] w fun e w' => ∃ a b, e = .returned (.agg #[.slice a 16 16, .slice b 16 16]) ∧ Own 68 w' w.heap.size (.slice a 16 16) (X.map (Value.int .i64)) ∧ Own 68 w' w.heap.size (.slice b 16 16) (Y.map (Value.int .i64)) ∧ Apart (.slice a 16 16) (.slice b 16 16) ∧ Below w.heap.size w w' := by
  have HX : Hid _ := arr_info hx
  have HY : Hid _ := arr_info hy
  have HB := Below.refl (((w.alloc (.cells (arrC X).toArray 68)).alloc (.cells (arrC Y).toArray 68)).alloc (.cells #[.slice none 0 0, .slice none 0 0] 36)).heap.size (((w.alloc (.cells (arrC X).toArray 68)).alloc (.cells (arrC Y).toArray 68)).alloc (.cells #[.slice none 0 0, .slice none 0 0] 36))
  have HB1 := below_seq (below_alloc _ _) HB
  have hry := own_range (own_arr (block_made HB1) hy (Nat.le_refl _))
  have HB2 := below_seq (below_alloc _ _) HB1
  have hrx := own_range (own_arr (block_made HB2) hx (Nat.le_refl _))
  have HR : Hid (Dy _ _ _ _) := Dy.made ((w.alloc (.cells (arrC X).toArray 68)).alloc (.cells (arrC Y).toArray 68)) (.slice none 0 0) (.slice none 0 0) 36
  have HB3 := below_seq (below_alloc _ _) HB2
  simp only [World.size_alloc] at hry
  rw [World.size_alloc, World.size_alloc] at HR
  clear HB HB1 HB2
  go_enter Try.func37, Try.ntmps37
  go_wp2_with fail
  have hsz : w.heap.size + 1 + 1 + 1 = (((w.alloc (.cells (arrC X).toArray 68)).alloc (.cells (arrC Y).toArray 68)).alloc (.cells #[.slice none 0 0, .slice none 0 0] 36)).heap.size := by simp only [World.size_alloc]
  generalize (((w.alloc (.cells (arrC X).toArray 68)).alloc (.cells (arrC Y).toArray 68)).alloc (.cells #[.slice none 0 0, .slice none 0 0] 36)) = w0 at *
  refine wp_region_held_drew (S := fun w' => w'.rangeAt w.heap.size 0 (arrC X) ∧ w'.rangeAt (w.heap.size + 1) 0 (arrC Y)) (by kernel_rfl) ⟨(World.rangeAt_drew _ _ _ _).2 hrx, (World.rangeAt_drew _ _ _ _).2 hry⟩ (fun hHeld => ?_)
  refine wpAnyH_take (i := 0) (v := .agg (arrC X).toArray) rfl (by kernel_rfl) (by kernel_rfl) (by kernel_rfl) (fun _ _ _ h => h) (yieldsIf_load_mid rfl _ _ rfl w.heap.size 0 rfl (arrC X) _ (fun w h => h.1) Try.underlying68 rfl HX.out) hHeld ?_
  simp only [List.getElem_toArray, List.getElem_cons_zero, Act.put, List.setIfInBounds_toArray, List.set_cons_zero, List.set_cons_succ]
  refine wpAnyH_take (i := 2) (v := .agg (arrC Y).toArray) rfl (by kernel_rfl) (by kernel_rfl) (by kernel_rfl) (fun _ _ _ h => h) (yieldsIf_load_mid rfl _ _ rfl (w.heap.size + 1) 0 rfl (arrC Y) _ (fun w h => h.2) Try.underlying68 rfl HY.out) hHeld ?_
  simp only [List.getElem_toArray, List.getElem_cons_succ, List.getElem_cons_zero, Act.put, List.setIfInBounds_toArray, List.set_cons_zero, List.set_cons_succ]
  refine wpAnyH_ready (rs := [1]) (by kernel_rfl) (by simp) ?_
  refine AllReadyH.cons rfl (fun K hK => ?_) AllReadyH.nil
  go_simp
  refine (vector_any _ X hx).mono ?_
  rintro e w1 ⟨a1, rfl, ho1, hb1⟩
  go_wp2_with fail
  have hz0 : w.heap.size + 1 + 1 + 1 = w0.drew.heap.size := hsz
  refine hK.out _ _ ⟨range_below hb1 (by omega) hHeld.1, range_below hb1 (by omega) hHeld.2⟩ (fun hHeld1 => ?_)
  clear hK K
  refine wpAnyH_ready (rs := [3]) (by kernel_rfl) (by simp) ?_
  refine AllReadyH.cons rfl (fun K hK => ?_) AllReadyH.nil
  go_simp
  refine (vector_any _ Y hy).mono ?_
  rintro e w2 ⟨a2, rfl, ho2, hb2⟩
  go_wp2_with fail
  have hz1 := hb1.size
  refine hK.out _ _ ⟨range_below hb2 (by omega) hHeld1.1, range_below hb2 (by omega) hHeld1.2⟩ (fun hHeld2 => ?_)
  clear hK K
  refine wpAnyH_take (i := 4) (v := .agg #[.slice a1 16 16, .slice a2 16 16]) rfl (by kernel_rfl) (by kernel_rfl) (by kernel_rfl) (fun _ _ _ h => h) (Or.inl ⟨by rfl, by intro w hSw; go_simp⟩) hHeld2 ?_
  simp only [List.getElem_toArray, List.getElem_cons_succ, List.getElem_cons_zero, Act.put, List.setIfInBounds_toArray, List.set_cons_zero, List.set_cons_succ]
  refine wpAnyH_ready (rs := [5]) (by kernel_rfl) (by simp) ?_
  refine AllReadyH.cons rfl (fun K hK => ?_) AllReadyH.nil
  have hR2 : Dy w2 (w.heap.size + 1 + 1) (.slice none 0 0) (.slice none 0 0) := (Dy.on (w := w0.drew) HR.out hb1).on hb2
  have hR2' := hR2
  obtain ⟨⟨u0, u1⟩, hf⟩ := hR2'
  have f0 := hf 0
  have f1 := hf 1
  go_simp
  refine hK.out _ _ ⟨World.rangeAt_setCells_apart (World.rangeAt_setCells_apart hHeld2.1 _ _ [_] (.inl (by omega))) _ _ [_] (.inl (by omega)), World.rangeAt_setCells_apart (World.rangeAt_setCells_apart hHeld2.2 _ _ [_] (.inl (by omega))) _ _ [_] (.inl (by omega))⟩ (fun hHeld3 => ?_)
  clear hK K
  refine wpAnyH_done (by kernel_rfl) ?_ _
  have hR3 := (Dy.set1 (Dy.set0 hR2 (.slice a1 16 16)) (.slice a2 16 16)).1
  have k1 := Own.setK (Own.setK (ho1.below hb2 (Nat.le_refl _)) (P := w.heap.size + 1 + 1) 0 (.slice a1 16 16) (by omega)) (P := w.heap.size + 1 + 1) 1 (.slice a2 16 16) (by omega)
  have k2 := Own.setK (Own.setK ho2 (P := w.heap.size + 1 + 1) 0 (.slice a1 16 16) (by omega)) (P := w.heap.size + 1 + 1) 1 (.slice a2 16 16) (by omega)
  have hA := apart_of ho1 ho2
  have hBf := ((below_seq (below_seq HB3.drew hb1) hb2).setCell (p := ⟨w.heap.size + 1 + 1, 0, none⟩) (by show w.heap.size ≤ w.heap.size + 1 + 1; omega) (.slice a1 16 16)).setCell (p := ⟨w.heap.size + 1 + 1, 1, none⟩) (by show w.heap.size ≤ w.heap.size + 1 + 1; omega) (.slice a2 16 16)
  go_wp2_with fail
  refine bodyPost_ret (v := .agg #[.slice a1 16 16, .slice a2 16 16]) ?_ rfl ⟨a1, a2, rfl, k1.mono (by omega), k2.mono (by omega), hA, hBf⟩
  simp [results, Try.results37, go_sem, hR3.1, hR3.2]

end Go.Proofs.Ytonpeiknoifdbab
