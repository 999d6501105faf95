/- The specification's l08Counts: how many operations of each actor there are. -/
import Derived.Test.YtnpiinjdaiobgaaLedPut
import Derived.Test.YtnpiinjdaiobgaaTakeKit
namespace Go.Proofs.Ytnpiinjdaiobgaa
open Go.RowKit
set_option linter.unusedVariables false

set_option maxHeartbeats 1000000 in
set_option maxRecDepth 100000 in
theorem newO_any (w : World) : Calls Try.prog 24 #[] w fun e w' => ∃ g, e = .returned (.agg #[.slice (some ⟨g, 0, none⟩) 16 16]) ∧ Own 3 w' w.heap.size (.slice (some ⟨g, 0, none⟩) 16 16) ((List.replicate 16 0).map (Value.int .i64)) ∧ Below w.heap.size w w' := by
  obtain ⟨i0, hi, hz0, hz1, hz2⟩ := info_parts info3
  go_enter Try.func24, Try.ntmps24
  go_wp2_with (at_make; refine wpList_make_full _ rfl _ _ 30 rfl (w.heap.size + 1) 3 i0 (.int .i64 0) 1 Try.underlying30 hi hz0 hz1 _ _ _ _ 16 rfl rfl rfl rfl (by rw [hz2]; omega) (by unfold maxLen; omega) (by simp) ?_)
  intro w1 hown hgrow
  have ho1 := own_of hown
  rw [toList_madeCells_one] at ho1
  have hk := (hgrow.block w.heap.size (by simp) (by simp)).trans (heap_alloc_new w _)
  have c0 := blk_cell hk 0 rfl
  have f0 := blk_free hk 0
  have hb1 : Below w.heap.size w w1 := (below_alloc w _).grown hgrow (by simp) (fun k hk => by cases hk)
  have ho2 := ho1.apart (grownBy_set w1 w.heap.size 0 (.slice (some ⟨w.heap.size + 1, 0, none⟩) 16 16)) (fun kk hk => by cases hk; omega)
  have hb2 := hb1.setCell (p := ⟨w.heap.size, 0, none⟩) (Nat.le_refl _) (.slice (some ⟨w.heap.size + 1, 0, none⟩) 16 16)
  have q0 : (w1.setCell ⟨w.heap.size, 0, none⟩ (.slice (some ⟨w.heap.size + 1, 0, none⟩) 16 16)).cell? ⟨w.heap.size, 0, none⟩ = some (.slice (some ⟨w.heap.size + 1, 0, none⟩) 16 16) := World.cell?_setCell_same _ _ _ c0
  clear hown hgrow ho1
  go_wp2_with fail
  refine bodyPost_ret (v := .agg #[.slice (some ⟨w.heap.size + 1, 0, none⟩) 16 16]) ?_ rfl ⟨_, rfl, ho2.mono (by omega), hb2⟩
  simp [results, Try.results24, go_sem, q0]

/-- How many operations of each actor there are. -/
def cnts (P : List Ov) : List Int := (List.range 16).map fun a => ((byA P a).length : Int)
theorem cnts_len (P : List Ov) : (cnts P).length = 16 := by simp [cnts]
theorem cnts_at (P : List Ov) {a : Nat} (h : a < 16) : (cnts P)[a]? = some ((byA P a).length : Int) := by simp [cnts, h]
theorem cnts_snoc (P : List Ov) (x : Ov) {a : Nat} (hx : x.a = (a : Int)) (h : a < 16) : cnts (P ++ [x]) = (cnts P).set a (((byA P a).length : Int) + 1) := by
  apply List.ext_getElem?
  intro b
  by_cases hb : b < 16
  · rw [cnts_at _ hb, byA_snoc]
    by_cases e : b = a
    · subst e
      rw [if_pos hx, List.getElem?_set_self (by rw [cnts_len]; exact h)]
      simp
    · rw [if_neg (by rw [hx]; omega), List.getElem?_set_ne (by omega), cnts_at _ hb]
  · rw [List.getElem?_eq_none (by rw [cnts_len]; omega), List.getElem?_eq_none (by rw [List.length_set, cnts_len]; omega)]

set_option maxHeartbeats 2000000 in
set_option maxRecDepth 100000 in
theorem l08Counts_any (C : Nat) (w : World) (v : Value) (L : List Ov) (hC : C ≤ w.heap.size) (hr : RdO C w v L) (hl : L.length ≤ 1024) (hA : ∀ x ∈ L, 0 ≤ x.a ∧ x.a < 16) :
    Calls Try.prog 11 #[v] w fun e w' => ∃ gc, e = .returned (.agg #[.slice (some ⟨gc, 0, none⟩) 16 16]) ∧ Own 3 w' w.heap.size (.slice (some ⟨gc, 0, none⟩) 16 16) ((cnts L).map (Value.int .i64)) ∧ Below w.heap.size w w' := by
  obtain ⟨⟨ao, cap, rfl, hcap, hmax, hnil, hrow⟩, hdv⟩ := hr
  clear hdv
  have hn := newO_any (w.alloc (.cells #[.slice none 0 0] 38))
  go_enter Try.func11, Try.ntmps11
  go_wp2_with fail
  refine hn.mono ?_
  rintro e w1 ⟨gc, rfl, ho, hb⟩
  rw [World.size_alloc] at ho
  have hgc : w.heap.size + 1 ≤ gc ∧ gc < w1.heap.size := World.ownsRow.lt ho gc rfl
  have hs1 := hb.size
  rw [World.size_alloc] at hs1
  have hbw : Below w.heap.size w w1 := below_seq (below_alloc _ _) hb
  have r1 : w1.heap[w.heap.size]? = some (.cells #[.slice none 0 0] 38 (0, 0)) := (hb.block w.heap.size (by rw [World.size_alloc]; omega)).trans (heap_alloc_new w _)
  have HI : Hid (Own 3 (w1.alloc (.cells #[.slice (some ⟨gc, 0, none⟩) 16 16] 38)) (w.heap.size + 1) (.slice (some ⟨gc, 0, none⟩) 16 16) ((cnts (L.take 0)).map (Value.int .i64)) ∧ (w1.alloc (.cells #[.slice (some ⟨gc, 0, none⟩) 16 16] 38)).heap[w1.heap.size]? = some (.cells #[.slice (some ⟨gc, 0, none⟩) 16 16] 38 (0, 0)) ∧ (w1.alloc (.cells #[.slice (some ⟨gc, 0, none⟩) 16 16] 38)).heap[w.heap.size]? = some (.cells #[.slice none 0 0] 38 (0, 0)) ∧ Below w.heap.size w (w1.alloc (.cells #[.slice (some ⟨gc, 0, none⟩) 16 16] 38))) :=
    ⟨World.ownsRow.alloc ho _, heap_alloc_new w1 _, (Below.heap_alloc w1 _ _ (by omega)).trans r1, below_then hbw _⟩
  clear hn hb ho r1
  go_wp2_with fail
  go_loopw [4] (fun ti wr => ∃ k : Nat, k ≤ L.length ∧ ti = .int .i64 (k : Int) ∧ Hid (Own 3 wr (w.heap.size + 1) (.slice (some ⟨gc, 0, none⟩) 16 16) ((cnts (L.take k)).map (Value.int .i64)) ∧ wr.heap[w1.heap.size]? = some (.cells #[.slice (some ⟨gc, 0, none⟩) 16 16] 38 (0, 0)) ∧ wr.heap[w.heap.size]? = some (.cells #[.slice none 0 0] 38 (0, 0)) ∧ Below w.heap.size w wr)) (fun ti _ => L.length - (intOf ti).toNat)
  case atStart => exact ⟨0, Nat.zero_le _, rfl, HI⟩
  case round =>
    clear HI hbw
    obtain ⟨k, hk, rfl, HI⟩ := hrel
    obtain ⟨ho, hvo, hro, hbel⟩ := HI.out
    by_cases hlt : k < L.length
    · have hki : (k : Int) < (L.length : Int) := by omega
      have hk2 : (k : Int) + 1 < 9223372036854775808 := by omega
      obtain ⟨g, off, rfl, hg, hcs⟩ := hrow (by omega)
      have hx := ((hcs k hlt).below (hbel.mono hC) hg).c0
      have hxa := hA _ (ovAt_mem hlt)
      obtain ⟨j, hj⟩ := Int.eq_ofNat_of_zero_le hxa.1
      have hj16 : j < 16 := by omega
      have hj16' : (j : Int) < 16 := by omega
      have hle : (byA (L.take k) j).length ≤ 1024 := Nat.le_trans (List.length_filter_le _ _) (by rw [List.length_take]; omega)
      have HC : Hid (cnts (L.take (k + 1)) = (cnts (L.take k)).set j (((byA (L.take k) j).length : Int) + 1)) := by
        unfold Hid
        rw [List.take_add_one, ovAt_get hlt]
        exact cnts_snoc _ _ hj hj16
      rw [hj] at hx
      have hcj0 : wr.cell? ⟨gc, j, none⟩ = some (.int .i64 ((byA (L.take k) j).length : Int)) := own_at ho (by rw [List.getElem?_map, cnts_at _ hj16]; rfl)
      have hfj0 := own_free ho j
      have HN := own_set ho j (.int .i64 (((byA (L.take k) j).length : Int) + 1))
      rw [← List.map_set, ← HC.out] at HN
      generalize hce : ((byA (L.take k) j).length : Int) = c at *
      have hcw : IntKind.i64.wrap (c + 1) = c + 1 := by rw [IntKind.wrap_i64]; omega
      have hvb : wr.drew.cell? ⟨w1.heap.size, 0, none⟩ = some (.slice (some ⟨gc, 0, none⟩) 16 16) := blk_cell (w := wr) hvo 0 rfl
      have hxj : wr.drew.cell? ⟨g, off + k * 12, none⟩ = some (.int .i64 (j : Int)) := hx
      have hcj : wr.drew.cell? ⟨gc, j, none⟩ = some (.int .i64 c) := hcj0
      have hfj : wr.drew.frozen? ⟨gc, j, none⟩ = false := hfj0
      have hgw : g < w.heap.size := by omega
      have hv9 : (wr.setCell ⟨gc, j, none⟩ (.int .i64 (c + 1))).drew.cell? ⟨w1.heap.size, 0, none⟩ = some (.slice (some ⟨gc, 0, none⟩) 16 16) := blk_cell (w := wr.setCell ⟨gc, j, none⟩ (.int .i64 (c + 1))) ((heap_setCell_other wr ⟨gc, j, none⟩ w1.heap.size _ (by show w1.heap.size ≠ gc; omega)).trans hvo) 0 rfl
      have hx9 : (wr.setCell ⟨gc, j, none⟩ (.int .i64 (c + 1))).drew.cell? ⟨g, off + k * 12, none⟩ = some (.int .i64 (j : Int)) := (World.cell?_of_block (w := wr) (heap_setCell_other wr ⟨gc, j, none⟩ g _ (by show g ≠ gc; omega))).trans hx
      have HI2 : Hid (Own 3 (wr.setCell ⟨gc, j, none⟩ (.int .i64 (c + 1))).drew (w.heap.size + 1) (.slice (some ⟨gc, 0, none⟩) 16 16) ((cnts (L.take (k + 1))).map (Value.int .i64)) ∧ (wr.setCell ⟨gc, j, none⟩ (.int .i64 (c + 1))).drew.heap[w1.heap.size]? = some (.cells #[.slice (some ⟨gc, 0, none⟩) 16 16] 38 (0, 0)) ∧ (wr.setCell ⟨gc, j, none⟩ (.int .i64 (c + 1))).drew.heap[w.heap.size]? = some (.cells #[.slice none 0 0] 38 (0, 0)) ∧ Below w.heap.size w (wr.setCell ⟨gc, j, none⟩ (.int .i64 (c + 1))).drew) :=
        ⟨HN, (heap_setCell_other wr ⟨gc, j, none⟩ w1.heap.size _ (by show w1.heap.size ≠ gc; omega)).trans hvo, (heap_setCell_other wr ⟨gc, j, none⟩ w.heap.size _ (by show w.heap.size ≠ gc; omega)).trans hro, (hbel.setCell (p := ⟨gc, j, none⟩) (by show w.heap.size ≤ gc; omega) _).drew⟩
      clear hcs HI ho hvo hro hbel HN hce HC hA hrow
      go_wp2_with fail
      refine wp_region_held_drew (S := fun w' => w'.cell? ⟨w1.heap.size, 0, none⟩ = some (.slice (some ⟨gc, 0, none⟩) 16 16) ∧ w'.cell? ⟨g, off + k * 12, none⟩ = some (.int .i64 (j : Int))) (by kernel_rfl) (⟨hvb, hxj⟩) (fun hHeld => ?_)
      refine tkH 0 (.pointer (some ⟨w1.heap.size, 0, none⟩)) rfl (Or.inl ⟨by kernel_rfl, by intro w hSw; obtain ⟨s0, s1⟩ := hSw; go_simp⟩) hHeld ?_
      simp only [tkS, Act.put]
      refine tkH 1 (.slice (some ⟨gc, 0, none⟩) 16 16) rfl (Or.inl ⟨by kernel_rfl, by intro w hSw; obtain ⟨s0, s1⟩ := hSw; go_simp⟩) hHeld ?_
      simp only [tkS, Act.put]
      refine tkH 2 (.slice (some ⟨g, off, none⟩) L.length cap) rfl (Or.inl ⟨by kernel_rfl, by intro w hSw; obtain ⟨s0, s1⟩ := hSw; go_simp⟩) hHeld ?_
      simp only [tkS, Act.put]
      refine tkH 3 (.int .i64 ((k : Int))) rfl (Or.inl ⟨by kernel_rfl, by intro w hSw; obtain ⟨s0, s1⟩ := hSw; go_simp⟩) hHeld ?_
      simp only [tkS, Act.put]
      refine tkH 4 (.pointer (some ⟨g, off + k * 12, none⟩)) rfl (Or.inl ⟨by kernel_rfl, by intro w hSw; obtain ⟨s0, s1⟩ := hSw; go_simp⟩) hHeld ?_
      simp only [tkS, Act.put]
      refine tkH 5 (.pointer (some ⟨g, off + k * 12, none⟩)) rfl (Or.inl ⟨by kernel_rfl, by intro w hSw; obtain ⟨s0, s1⟩ := hSw; go_simp⟩) hHeld ?_
      simp only [tkS, Act.put]
      refine tkH 6 (.int .i64 ((j : Int))) rfl (Or.inl ⟨by kernel_rfl, by intro w hSw; obtain ⟨s0, s1⟩ := hSw; go_simp⟩) hHeld ?_
      simp only [tkS, Act.put]
      refine tkH 7 (.pointer (some ⟨gc, j, none⟩)) rfl (Or.inl ⟨by kernel_rfl, by intro w hSw; obtain ⟨s0, s1⟩ := hSw; go_simp⟩) hHeld ?_
      simp only [tkS, Act.put]
      refine wpAnyH_ready (rs := [8]) (by kernel_rfl) (by simp) ?_
      refine AllReadyH.cons rfl (fun K hK => ?_) AllReadyH.nil
      have c8 := hcj
      have c8b : wr.cell? ⟨gc, j, none⟩ = some (.int .i64 c) := hcj
      go_simp
      refine hK.out _ _ (⟨hvb, hxj⟩) (fun hHeld => ?_)
      clear hK K
      refine tkH 9 (.int .i64 (c + 1)) rfl (Or.inl ⟨by kernel_rfl, by intro w hSw; obtain ⟨s0, s1⟩ := hSw; go_simp⟩) hHeld ?_
      simp only [tkS, Act.put]
      refine tkH 10 (.pointer (some ⟨gc, j, none⟩)) rfl (Or.inl ⟨by kernel_rfl, by intro w hSw; obtain ⟨s0, s1⟩ := hSw; go_simp⟩) hHeld ?_
      simp only [tkS, Act.put]
      refine wpAnyH_ready (rs := [11]) (by kernel_rfl) (by simp) ?_
      refine AllReadyH.cons rfl (fun K hK => ?_) AllReadyH.nil
      have c11 := hcj
      have c11b : wr.cell? ⟨gc, j, none⟩ = some (.int .i64 c) := hcj
      have f11 := hfj
      have f11b : wr.frozen? ⟨gc, j, none⟩ = false := hfj
      go_simp
      refine hK.out _ _ (⟨hv9, hx9⟩) (fun hHeld => ?_)
      clear hK K
      refine wpAnyH_done (by kernel_rfl) ?_ _
      go_wp2_with fail
      go_roundw
      case rel => exact ⟨k + 1, by omega, by go_num, HI2⟩
      case measure => simp [intOf]; omega
    · obtain rfl : k = L.length := by omega
      rw [List.take_of_length_le (Nat.le_refl _)] at ho
      have c1 := blk_cell hvo 0 rfl
      have c0 := blk_cell hro 0 rfl
      have f0 := blk_free hro 0
      have HO2 : Hid (Own 3 (wr.setCell ⟨w.heap.size, 0, none⟩ (.slice (some ⟨gc, 0, none⟩) 16 16)) w.heap.size (.slice (some ⟨gc, 0, none⟩) 16 16) ((cnts L).map (Value.int .i64))) := (ho.apart (grownBy_set wr w.heap.size 0 (.slice (some ⟨gc, 0, none⟩) 16 16)) (fun kk hk => by cases hk; omega)).mono (by omega)
      have HB2 : Hid (Below w.heap.size w (wr.setCell ⟨w.heap.size, 0, none⟩ (.slice (some ⟨gc, 0, none⟩) 16 16))) := hbel.setCell (p := ⟨w.heap.size, 0, none⟩) (Nat.le_refl _) _
      have q0 : (wr.setCell ⟨w.heap.size, 0, none⟩ (.slice (some ⟨gc, 0, none⟩) 16 16)).cell? ⟨w.heap.size, 0, none⟩ = some (.slice (some ⟨gc, 0, none⟩) 16 16) := World.cell?_setCell_same _ _ _ c0
      clear HI ho hvo hro hbel hrow hA
      go_wp2_with fail
      exact bodyPost_ret (v := .agg #[.slice (some ⟨gc, 0, none⟩) 16 16]) (by simp [results, Try.results11, go_sem, q0]) rfl ⟨_, rfl, HO2.out, HB2.out⟩
end Go.Proofs.Ytnpiinjdaiobgaa
