/- Drawn stamps that may not be valid. -/
import Derived.Deep.RegionHeld3
import Derived.Test.YtmmkmkaannlkhaaGreatDoorQSrcToSrcMore
namespace Go.Proofs.YtmmkmkaannlkhaaGreatDoor
open Go.RowKit
set_option linter.unusedVariables false

theorem blk_al {w : World} {g : Nat} {o : Obj} (h : w.heap[g]? = some o) (o' : Obj) : (w.alloc o').heap[g]? = some o := by
  rw [Below.heap_alloc w o' g (Array.getElem?_eq_some_iff.1 h).1]
  exact h
theorem keep_c {w w1 : World} {g k b : Nat} {v : Value} (h : w.cell? ⟨g, k, none⟩ = some v) (hg : w.grownBy w1 (some b)) (hn : g ≠ b) : w1.cell? ⟨g, k, none⟩ = some v := hg.cell (a := ⟨g, k, none⟩) h (fun e => hn (by simpa using e))
theorem gr_undrew {w w1 : World} {row : Option Nat} (h : w.drew.grownBy w1 row) : w.grownBy w1 row := ⟨h.os, h.tape, h.output, h.size, h.block⟩
theorem gr_drew {w w1 : World} {row : Option Nat} (h : w.grownBy w1 row) : w.grownBy w1.drew row := ⟨h.os, h.tape, h.output, h.size, h.block⟩
theorem Src.allocD {C : Nat} {w : World} {b A : Nat} (h : Src C w b A) (o : Obj) : Src C (w.alloc o).drew b A := h.alloc o
theorem lit3 (n : Nat) (h : n < 3) : ∃ x : Int, (#[.int .i64 (-1), .int .i64 16, .int .i64 15] : Array Value)[n]? = some (.int .i64 x) := by
  match n, h with
  | 0, _ => exact ⟨_, rfl⟩
  | 1, _ => exact ⟨_, rfl⟩
  | 2, _ => exact ⟨_, rfl⟩
theorem lit4 (n : Nat) (h : n < 4) : ∃ x : Int, (#[.int .i64 0, .int .i64 (-1), .int .i64 1000000000000, .int .i64 1000000000001] : Array Value)[n]? = some (.int .i64 x) := by
  match n, h with
  | 0, _ => exact ⟨_, rfl⟩
  | 1, _ => exact ⟨_, rfl⟩
  | 2, _ => exact ⟨_, rfl⟩
  | 3, _ => exact ⟨_, rfl⟩
theorem res2 {w : World} {n : Nat} {x y : Value} (c0 : w.cell? ⟨n, 0, none⟩ = some x) (c1 : w.cell? ⟨n, 1, none⟩ = some y) (u v : Value) :
    ((w.setCell ⟨n, 0, none⟩ u).setCell ⟨n, 1, none⟩ v).cell? ⟨n, 0, none⟩ = some u ∧ ((w.setCell ⟨n, 0, none⟩ u).setCell ⟨n, 1, none⟩ v).cell? ⟨n, 1, none⟩ = some v :=
  ⟨(World.cell?_setCells_out n [v] 1 _ _ (fun _ => by simp)).trans (World.cell?_setCell_same _ _ _ c0), World.cell?_setCell_same _ _ _ ((World.cell?_setCells_out n [u] 0 _ _ (fun _ => by simp)).trans c1)⟩

set_option maxHeartbeats 8000000 in
set_option maxRecDepth 100000 in
theorem oddStamp_any (C b A : Nat) (w : World) (h : Src C w b A) (hA : A ≤ 700000000) :
    Calls Tryz.prog 42 #[.pointer (some ⟨b, 0, none⟩)] w fun e w' => ∃ t a : Int, e = .returned (.agg #[.int .i64 t, .int .i64 a]) ∧ Src C w' b (A + 9) ∧ w.grownBy w' (some b) := by
  have hlt := h.lt
  go_enter Tryz.func42, Tryz.ntmps42
  go_wp2_with fail
  refine (srcNext_any C b A 10 _ (h.alloc _) (by omega) (by omega) (by omega)).mono ?_
  rintro e w1 ⟨r, rfl, hr0, hr1, hS, hG0⟩
  have hk := blk_kept hlt hG0
  have hG := grownBy_trans (World.grownBy_alloc w _ (some b)) hG0
  have hsz := hG0.size
  rw [World.size_alloc] at hsz
  clear hG0 h
  refine if h0 : r = 0 then ?pa else ?pb
  case' pb => refine if h1 : r = 1 then ?pc else ?pd
  case' pd => refine if h2 : r = 2 then ?pe else ?pf
  case pa =>
    subst h0
    have mk : Hid True := trivial
    have hSx := hS
    have hkx := hk
    have hGx := hG
    replace hS : Src C w1.drew b (A + 3) := hS
    replace hk : w1.drew.heap[w.heap.size]? = _ := hk
    replace hG := gr_drew hG
    go_wp2_with fail
    go_region_with (first | (go_at_call 18; clear mk; refine Calls.mono (srcNext_any C b (A + 3) _ _ (by first | (with_reducible exact hS) | (with_reducible exact Src.allocD hSx _) | (with_reducible exact Src.alloc hS _)) (by omega) (by omega) (by omega)) ?_; rintro e w2 ⟨r1, rfl, hr0, hr1, hS2, hG2⟩; have z2 := hG2.size; (try simp only [World.size_drew] at z2); (try simp only [World.size_alloc] at z2); replace hS := hS2; clear hS2; obtain ⟨n1, rfl⟩ : ∃ n : Nat, r1 = (n : Int) := ⟨r1.toNat, by omega⟩; obtain ⟨x1, hx1⟩ := lit4 n1 (by omega); first | (replace hk := blk_on hk hG2 (by omega); replace hG := grownBy_trans hG hG2; have hl := cell_blk (heap_alloc_new w2 (.cells #[.int .i64 0, .int .i64 (-1), .int .i64 1000000000000, .int .i64 1000000000001] 3)) n1 hx1) | (have hG2x := gr_undrew (w := w1.alloc (.cells #[.int .i64 0, .int .i64 (-1), .int .i64 1000000000000, .int .i64 1000000000001] 3)) hG2; have hl := cell_blk (blk_kept (by omega) hG2x) n1 hx1; replace hk := blk_on (blk_al hkx (.cells #[.int .i64 0, .int .i64 (-1), .int .i64 1000000000000, .int .i64 1000000000001] 3)) hG2x (by omega); replace hG := grownBy_trans (gr_alloc hGx (.cells #[.int .i64 0, .int .i64 (-1), .int .i64 1000000000000, .int .i64 1000000000001] 3)) hG2x) | (have hl := cell_blk (blk_kept (by omega) hG2) n1 hx1; replace hk := blk_on (blk_al hk (.cells #[.int .i64 0, .int .i64 (-1), .int .i64 1000000000000, .int .i64 1000000000001] 3)) hG2 (by omega); replace hG := grownBy_trans (gr_alloc hG (.cells #[.int .i64 0, .int .i64 (-1), .int .i64 1000000000000, .int .i64 1000000000001] 3)) hG2)) | (go_at_call 18; refine Calls.mono (srcNext_any C b (A + 3 + 3) _ _ (by first | (with_reducible exact hS) | (with_reducible exact Src.allocD hSx _) | (with_reducible exact Src.alloc hS _)) (by omega) (by omega) (by omega)) ?_; rintro e w3 ⟨r2, rfl, hr2, hr3, hS3, hG3⟩; have z3 := hG3.size; (try simp only [World.size_alloc] at z3); replace hS := hS3; clear hS3; (first | (replace hk := blk_on hk hG3 (by omega); replace hG := grownBy_trans hG hG3) | (replace hk := blk_on (blk_al hk (.cells #[.int .i64 0, .int .i64 (-1), .int .i64 1000000000000, .int .i64 1000000000001] 3)) hG3 (by omega); replace hG := grownBy_trans (gr_alloc hG (.cells #[.int .i64 0, .int .i64 (-1), .int .i64 1000000000000, .int .i64 1000000000001] 3)) hG3)); (try replace hl := keep_c hl hG3 (by omega)); have hl' := cell_blk (heap_alloc_new w3 (.cells #[.int .i64 0, .int .i64 (-1), .int .i64 1000000000000, .int .i64 1000000000001] 3)) n1 hx1; have d0 := cell_blk hk 0 rfl; have d1 := cell_blk hk 1 rfl; have f0 := free_blk hk 0; have f1 := free_blk hk 1; have e0 := cell_blk (blk_al hk (.cells #[.int .i64 0, .int .i64 (-1), .int .i64 1000000000000, .int .i64 1000000000001] 3)) 0 rfl; have e1 := cell_blk (blk_al hk (.cells #[.int .i64 0, .int .i64 (-1), .int .i64 1000000000000, .int .i64 1000000000001] 3)) 1 rfl; have g0 := free_blk (blk_al hk (.cells #[.int .i64 0, .int .i64 (-1), .int .i64 1000000000000, .int .i64 1000000000001] 3)) 0; have g1 := free_blk (blk_al hk (.cells #[.int .i64 0, .int .i64 (-1), .int .i64 1000000000000, .int .i64 1000000000001] 3)) 1))
    all_goals
      go_wp2_with fail
      first
      | (have hq := res2 d0 d1 (.int .i64 x1) (.int .i64 r2)
         refine bodyPost_ret (v := .agg #[.int .i64 x1, .int .i64 r2]) ?_ rfl ⟨_, _, rfl, (Src.set (Src.set hS hlt _) hlt _).mono (by omega), gr_put (gr_put hG (Nat.le_refl _) _ _) (Nat.le_refl _) _ _⟩
         simp [results, Tryz.results42, go_sem, hq.1, hq.2]
         done)
      | (have hq := res2 e0 e1 (.int .i64 x1) (.int .i64 r2)
         refine bodyPost_ret (v := .agg #[.int .i64 x1, .int .i64 r2]) ?_ rfl ⟨_, _, rfl, (Src.set (Src.set (Src.alloc hS _) hlt _) hlt _).mono (by omega), gr_put (gr_put (gr_alloc hG _) (Nat.le_refl _) _ _) (Nat.le_refl _) _ _⟩
         simp [results, Tryz.results42, go_sem, hq.1, hq.2]
         done)
  case pc =>
    subst h1
    go_wp2_with fail
    refine (srcNext_any C b _ 3 _ hS (by omega) (by omega) (by omega)).mono ?_
    rintro e w2 ⟨r1, rfl, hr2, hr3, hS2, hG2⟩
    replace hk := blk_on hk hG2 (by omega)
    replace hG := grownBy_trans hG hG2
    have z2 := hG2.size
    go_wp2_with fail
    refine (srcNext_any C b _ 3 _ (Src.alloc hS2 _) (by omega) (by omega) (by omega)).mono ?_
    rintro e w3 ⟨r2, rfl, hr4, hr5, hS3, hG3⟩
    obtain ⟨n1, rfl⟩ : ∃ n : Nat, r2 = (n : Int) := ⟨r2.toNat, by omega⟩
    obtain ⟨x1, hx1⟩ := lit3 n1 (by omega)
    have hl := cell_blk (blk_kept (by omega) hG3) n1 hx1
    replace hk := blk_on (blk_al hk _) hG3 (by omega)
    replace hG := grownBy_trans (gr_alloc hG _) hG3
    have c0 := cell_blk hk 0 rfl
    have c1 := cell_blk hk 1 rfl
    have f0 := free_blk hk 0
    have f1 := free_blk hk 1
    have hq := res2 c0 c1 (.int .i64 (1 + r1)) (.int .i64 x1)
    clear hS hG2 hS2 hG3
    go_wp2_with fail
    refine bodyPost_ret (v := .agg #[.int .i64 (1 + r1), .int .i64 x1]) ?_ rfl ⟨_, _, rfl, (Src.set (Src.set hS3 hlt _) hlt _).mono (by omega), gr_put (gr_put hG (Nat.le_refl _) _ _) (Nat.le_refl _) _ _⟩
    simp [results, Tryz.results42, go_sem, hq.1, hq.2]
  case pe =>
    subst h2
    have c0 := cell_blk hk 0 rfl
    have c1 := cell_blk hk 1 rfl
    have f0 := free_blk hk 0
    have f1 := free_blk hk 1
    have hq := res2 c0 c1 (.int .i64 0) (.int .i64 0)
    go_wp2_with fail
    refine bodyPost_ret (v := .agg #[.int .i64 0, .int .i64 0]) ?_ rfl ⟨_, _, rfl, (Src.set (Src.set hS hlt _) hlt _).mono (by omega), gr_put (gr_put hG (Nat.le_refl _) _ _) (Nat.le_refl _) _ _⟩
    simp [results, Tryz.results42, go_sem, hq.1, hq.2]
  case pf =>
    have q0 : (r == 0) = false := by simpa using h0
    have q1 : (r == 1) = false := by simpa using h1
    have q2 : (r == 2) = false := by simpa using h2
    clear h0 h1 h2
    go_wp2_with fail
    refine (stamp_any C b _ _ hS (by omega)).mono ?_
    rintro e w2 ⟨t, a, rfl, hS2, hG2⟩
    replace hk := blk_on hk hG2 (by omega)
    replace hG := grownBy_trans hG hG2
    have c0 := cell_blk hk 0 rfl
    have c1 := cell_blk hk 1 rfl
    have f0 := free_blk hk 0
    have f1 := free_blk hk 1
    have hq := res2 c0 c1 (.int .i64 t) (.int .i64 a)
    clear hS hG2
    go_wp2_with fail
    refine bodyPost_ret (v := .agg #[.int .i64 t, .int .i64 a]) ?_ rfl ⟨_, _, rfl, (Src.set (Src.set hS2 hlt _) hlt _).mono (by omega), gr_put (gr_put hG (Nat.le_refl _) _ _) (Nat.le_refl _) _ _⟩
    simp [results, Tryz.results42, go_sem, hq.1, hq.2]

end Go.Proofs.YtmmkmkaannlkhaaGreatDoor
