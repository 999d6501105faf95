/- What the law FnVectors does. -/
import Derived.Test.YtonpeiknoifdbabFrame
import Derived.Test.YtonpeiknoifdbabDrawVecs
import Derived.Test.YtonpeiknoifdbabVecOrderImpl
import Derived.Test.YtonpeiknoifdbabVecOrderSpec
import Derived.Test.YtonpeiknoifdbabVecJoinImpl
import Derived.Test.YtonpeiknoifdbabVecMeetImpl
namespace Go.Proofs.Ytonpeiknoifdbab
open Go.RowKit
set_option linter.unusedVariables false

set_option maxHeartbeats 1000000 in
theorem drawVecOrder_any (C : Nat) (w : World) (v : Value) (cs : List Int) (hC : C ≤ w.heap.size) (hr : Rd C w v (cs.map (Value.int .u8))) (hX : ∀ x ∈ cs, 0 ≤ x ∧ x ≤ 255) (hl : cs.length ≤ 1048576) :
    Calls Try.prog 25 #[v] w fun e w' => ∃ (va vb : Value) (xs ys : List Int), e = .returned (.tuple #[.agg #[va], .agg #[vb]]) ∧ xs.length ≤ 17 ∧ ys.length ≤ 17 ∧ Own 3 w' w.heap.size va (xs.map (Value.int .i64)) ∧ Own 3 w' w.heap.size vb (ys.map (Value.int .i64)) ∧ Below w.heap.size w w' := by
  have hB0 : Below w.heap.size w ((w.alloc (.cells #[.slice none 0 0] 34)).alloc (.cells #[.slice none 0 0] 34)) := below_then (below_alloc _ _) _
  have hr2 := Rd.below hr (hB0.mono hC)
  obtain ⟨ao, la0, ca0, rfl⟩ : ∃ ao len cap, v = .slice ao len cap := by
    obtain ⟨ao, cap, rfl, _⟩ := hr
    exact ⟨_, _, _, rfl⟩
  go_enter Try.func25, Try.ntmps25
  go_wp2_with fail
  refine (drawTwo_any C _ _ cs (Nat.le_trans hC hB0.size) hr2 hX hl).mono ?_
  rintro e w1 ⟨va, vb, xs, ys, rfl, hx, hy, ha, hb, hb1⟩
  have c1 := cell_made1 hb1
  have f1 := frozen_made hb1 0
  have hb2 := below_seq (below_alloc _ _) hb1
  have c0 := cell_made1 hb2
  have f0 := frozen_made hb2 0
  simp only [World.size_alloc] at c1 f1
  have hB := below_seq hB0 hb1
  obtain ⟨aa, ca, rfl, _⟩ := ha.slice
  obtain ⟨ab, cb, rfl, _⟩ := hb.slice
  rw [List.length_map] at ha hb ⊢
  simp only [World.size_alloc] at ha hb
  generalize hva : Value.slice aa xs.length ca = va at ha
  generalize hvb : Value.slice ab ys.length cb = vb at hb
  have g1 := grownBy_set w1 w.heap.size 0 va
  have g2 := grownBy_set (w1.setCell ⟨w.heap.size, 0, none⟩ va) (w.heap.size + 1) 0 vb
  have a1 : Own 3 _ (w.heap.size + 1 + 1) va _ := (ha.apart g1 (fun k hk => by cases hk; omega)).apart g2 (fun k hk => by cases hk; omega)
  have b1 : Own 3 _ (w.heap.size + 1 + 1) vb _ := (hb.apart g1 (fun k hk => by cases hk; omega)).apart g2 (fun k hk => by cases hk; omega)
  have hB2 := (hB.setCell (p := ⟨w.heap.size, 0, none⟩) (Nat.le_refl _) va).setCell (p := ⟨w.heap.size + 1, 0, none⟩) (Nat.le_succ _) vb
  have d0 : ((w1.setCell ⟨w.heap.size, 0, none⟩ va).setCell ⟨w.heap.size + 1, 0, none⟩ vb).cell? ⟨w.heap.size, 0, none⟩ = some va := (World.cell?_setCells_out (w.heap.size + 1) [vb] 0 _ _ (fun e => absurd e (by show ¬ w.heap.size = w.heap.size + 1; omega))).trans (World.cell?_setCell_same _ _ _ c0)
  have d1 : ((w1.setCell ⟨w.heap.size, 0, none⟩ va).setCell ⟨w.heap.size + 1, 0, none⟩ vb).cell? ⟨w.heap.size + 1, 0, none⟩ = some vb := World.cell?_setCell_same _ _ _ ((World.cell?_setCells_out w.heap.size [va] 0 _ _ (fun e => absurd e (by show ¬ w.heap.size + 1 = w.heap.size; omega))).trans c1)
  clear ha hb g1 g2 hB hb1 hb2
  subst hva hvb
  go_wp2_with fail
  refine bodyPost_ret (v := .tuple #[.agg #[.slice aa xs.length ca], .agg #[.slice ab ys.length cb]]) ?_ rfl ⟨_, _, xs, ys, rfl, hx, hy, a1.mono (by omega), b1.mono (by omega), hB2⟩
  simp [results, Try.results25, go_sem, d0, d1]

theorem ord_turn (xs ys : List Int) : (ordV xs ys = 0 ∧ ordV ys xs = 0) ∨ (ordV xs ys = 1 ∧ ordV ys xs = 2) ∨ (ordV xs ys = 2 ∧ ordV ys xs = 1) ∨ (ordV xs ys = 3 ∧ ordV ys xs = 3) := by
  unfold ordV
  cases covers xs ys <;> cases covers ys xs <;> simp
theorem zipB_yes {f : Int → Int → Int} {xs ys : List Int} (h : (vecOK xs && vecOK ys) = true) : zipB f xs ys = List.zipWith f xs ys ∧ zipC xs ys = 0 := by
  unfold zipB zipC
  rw [if_pos h, if_pos h]
  exact ⟨rfl, rfl⟩
/-- Two variables that were made, behind whatever leaves old memory as it is. -/
theorem vars2 {w1 wr : World} {va vb : Value} {T T' : TypeId} (h : Below ((w1.alloc (.cells #[va] T)).alloc (.cells #[vb] T')).heap.size ((w1.alloc (.cells #[va] T)).alloc (.cells #[vb] T')) wr) : wr.cell? ⟨w1.heap.size, 0, none⟩ = some va ∧ wr.cell? ⟨w1.heap.size + 1, 0, none⟩ = some vb := by
  have c1 := cell_made1 h
  rw [World.size_alloc] at c1
  exact ⟨cell_made1 (below_seq (below_alloc _ _) h), c1⟩
/-- The cells of a row that can be read. -/
theorem rd_cells {C : Nat} {w : World} {v : Value} {xs : List Int} (h : Rd C w v (xs.map (Value.int .i64))) (hx : 0 < xs.length) : ∃ g off cap, v = .slice (some ⟨g, off, none⟩) xs.length cap ∧ Hid (∀ k (hk : k < xs.length), w.cell? ⟨g, off + k, none⟩ = some (.int .i64 xs[k])) := by
  obtain ⟨ao, cap, rfl, _, _, _, h⟩ := h
  rw [List.length_map]
  obtain ⟨g, off, rfl, _, hc⟩ := h (by rw [List.length_map]; omega)
  exact ⟨g, off, cap, rfl, fun k hk => hc k _ (by simp [hk])⟩

set_option maxHeartbeats 8000000 in
set_option maxRecDepth 100000 in
theorem lawVectors_walk (a0 : Option Addr) (l0 c0 : Nat) (z0 : List Int) (w : World) (h0 : IsRow .u8 w a0 l0 c0 z0) :
    Calls Try.prog 6 #[.slice a0 l0 c0] w fun e w' => e = .returned (.bool true) ∧ Below w.heap.size w w' := by
  obtain ⟨hr0, hl0⟩ := h0.rd
  have hX0 := h0.bytes
  generalize z0.take l0 = zs at hr0 hl0 hX0
  clear h0
  subst hl0
  by_cases q0 : zs.length ≤ 1048576
  · have i0 : ¬ (1048576 : Int) < (zs.length : Int) := by omega
    go_enter Try.func6, Try.ntmps6
    go_wp2_with fail
    refine (drawVecOrder_any w.heap.size w _ zs (Nat.le_refl _) hr0 hX0 q0).mono ?_
    rintro e w1 ⟨va, vb, xs, ys, rfl, hx, hy, ha, hb, hB⟩
    have hra := ha.rd
    have hrb := hb.rd
    obtain ⟨aa, ca, rfl, _⟩ := ha.slice
    obtain ⟨ab, cb, rfl, _⟩ := hb.slice
    simp only [List.length_map] at hra hrb ⊢
    generalize hva : Value.slice aa xs.length ca = va at hra ⊢
    generalize hvb : Value.slice ab ys.length cb = vb at hrb ⊢
    have hW : Below w1.heap.size w1 ((w1.alloc (.cells #[va] 34)).alloc (.cells #[vb] 34)) := below_then (below_alloc _ _) _
    have hZ := Below.refl ((w1.alloc (.cells #[va] 34)).alloc (.cells #[vb] 34)).heap.size ((w1.alloc (.cells #[va] 34)).alloc (.cells #[vb] 34))
    have hI := fun w' (h : Below w1.heap.size w1 w') => implVecOrder_any w1.heap.size w1.heap.size w' va vb xs ys h.size h.size (hra.belowW h (Nat.le_refl _)) (hrb.belowW h (Nat.le_refl _))
    have hI2 := fun w' (h : Below w1.heap.size w1 w') => implVecOrder_any w1.heap.size w1.heap.size w' vb va ys xs h.size h.size (hrb.belowW h (Nat.le_refl _)) (hra.belowW h (Nat.le_refl _))
    have hP := fun w' (h : Below w1.heap.size w1 w') => specVecOrder_any w1.heap.size w1.heap.size w' va vb xs ys h.size h.size (hra.belowW h (Nat.le_refl _)) (hrb.belowW h (Nat.le_refl _))
    have hJ := fun w' (h : Below w1.heap.size w1 w') => implVecJoin_any w1.heap.size w1.heap.size w' va vb xs ys h.size h.size (hra.belowW h (Nat.le_refl _)) (hrb.belowW h (Nat.le_refl _))
    have hM := fun w' (h : Below w1.heap.size w1 w') => implVecMeet_any w1.heap.size w1.heap.size w' va vb xs ys h.size h.size (hra.belowW h (Nat.le_refl _)) (hrb.belowW h (Nat.le_refl _))
    have HB : Hid (∀ w', Below w1.heap.size w1 w' → Below w.heap.size w w') := fun w' h => below_seq hB h
    have HRA : Hid (Rd w1.heap.size w1 va (xs.map (Value.int .i64))) := hra
    have HRB : Hid (Rd w1.heap.size w1 vb (ys.map (Value.int .i64))) := hrb
    clear ha hb hra hrb hB hr0 hX0
    cases hok : (vecOK xs && vecOK ys) with
    | false =>
      obtain ⟨e1, e2⟩ := ord_no hok
      rw [e1, e2] at hI hP
      clear hI2 hJ hM hok e1 e2
      obtain ⟨d0, d1⟩ := vars2 hZ
      subst hva hvb
      go_wp2_with fail
      refine (hI _ hW).mono ?_
      rintro e w2 ⟨rfl, hb2⟩
      obtain ⟨d0, d1⟩ := vars2 (below_seq hZ hb2)
      have hW2 := below_seq hW hb2
      go_wp2_with fail
      refine (hP _ hW2).mono ?_
      rintro e w3 ⟨rfl, hb3⟩
      have hW3 := below_seq hW2 hb3
      go_wp2_with fail
      go_ret
      exact ⟨rfl, HB.out _ hW3⟩
    | true =>
      obtain ⟨e1, e2⟩ := ord_yes hok
      have hok2 : (vecOK ys && vecOK xs) = true := by rw [Bool.and_comm]; exact hok
      obtain ⟨e3, e4⟩ := ord_yes hok2
      have hkk := hok
      rw [Bool.and_eq_true] at hkk
      have hx16 := (vecOK_get hkk.1).1
      have hy16 := (vecOK_get hkk.2).1
      have hzj := (zipB_yes (f := mxI) hok).1
      have hzm := (zipB_yes (f := mnI) hok).1
      have hzc := (zipB_yes (f := mnI) hok).2
      rw [e1, e2] at hI hP
      rw [e3, e4] at hI2
      rw [hzj, hzc] at hJ
      rw [hzm, hzc] at hM
      have HXL : Hid _ := hx16
      have HYL : Hid _ := hy16
      have hjl : (List.zipWith mxI xs ys).length = 16 := by simp [hx16, hy16]
      have hml : (List.zipWith mnI xs ys).length = 16 := by simp [hx16, hy16]
      have HCJ : Hid (∀ k (h1 : k < xs.length) (h2 : k < ys.length), ∃ h3 : k < (List.zipWith mxI xs ys).length, (List.zipWith mxI xs ys)[k] = if xs[k] < ys[k] then ys[k] else xs[k]) := fun k h1 h2 => ⟨by simp; omega, by simp [mxI]⟩
      have HCM : Hid (∀ k (h1 : k < xs.length) (h2 : k < ys.length), ∃ h3 : k < (List.zipWith mnI xs ys).length, (List.zipWith mnI xs ys)[k] = if ys[k] < xs[k] then ys[k] else xs[k]) := fun k h1 h2 => ⟨by simp; omega, by simp [mnI]⟩
      generalize List.zipWith mxI xs ys = js at hJ hjl HCJ
      generalize List.zipWith mnI xs ys = ms at hM hml HCM
      have HJL : Hid _ := hjl
      have HML : Hid _ := hml
      have ht := ord_turn xs ys
      generalize ordV xs ys = o at hI hP ht
      generalize ordV ys xs = o' at hI2 ht
      clear hok hok2 e1 e2 e3 e4 hkk hzj hzm hzc hjl hml
      obtain ⟨d0, d1⟩ := vars2 hZ
      rw [hx16] at hva
      rw [hy16] at hvb
      clear hx16 hy16 hx hy
      rcases ht with ⟨rfl, rfl⟩ | ⟨rfl, rfl⟩ | ⟨rfl, rfl⟩ | ⟨rfl, rfl⟩
      all_goals
        subst hva hvb
        go_wp2_with fail
        refine (hI _ hW).mono ?_
        rintro e w2 ⟨rfl, hb2⟩
        have hZ2 := below_seq hZ hb2
        obtain ⟨d0, d1⟩ := vars2 hZ2
        have hW2 := below_seq hW hb2
        go_wp2_with fail
        refine (hP _ hW2).mono ?_
        rintro e w3 ⟨rfl, hb3⟩
        have hZ3 := below_seq hZ2 hb3
        obtain ⟨d0, d1⟩ := vars2 hZ3
        have hW3 := below_seq hW2 hb3
        clear hI hP hb2 hb3
        go_wp2_with fail
        refine (hI2 _ hW3).mono ?_
        rintro e w4 ⟨rfl, hb4⟩
        have hZ4 := below_then (below_seq hZ3 hb4) (.cells #[.int .i64 0, .int .i64 2, .int .i64 1, .int .i64 3] 3)
        obtain ⟨d0, d1⟩ := vars2 hZ4
        have hW4 := below_then (below_seq hW3 hb4) (.cells #[.int .i64 0, .int .i64 2, .int .i64 1, .int .i64 3] 3)
        clear hI2 hb4
        go_wp2_with fail
        refine (hJ _ hW4).mono ?_
        rintro e w5 ⟨a5, n5, c5, T5, rfl, ho5, hb5⟩
        have hZ5 := below_then (below_seq hZ4 hb5) (.cells #[.slice a5 n5 c5] 34)
        obtain ⟨d0, d1⟩ := vars2 hZ5
        have hW5 := below_then (below_seq hW4 hb5) (.cells #[.slice a5 n5 c5] 34)
        clear hJ
        go_wp2_with fail
        refine (hM _ hW5).mono ?_
        rintro e w6 ⟨a6, n6, c6, T6, rfl, ho6, hb6⟩
        have hK := below_then hb6 (.cells #[.slice a6 n6 c6] 34)
        have hW7 := below_seq hW5 hK
        have hZ7 := below_seq hZ5 hK
        obtain ⟨d0, d1⟩ := vars2 hZ7
        have d2 := cell_made1 hK
        have d3 := cell_blk (heap_alloc_new w6 (.cells #[.slice a6 n6 c6] 34)) 0 rfl
        obtain ⟨ga, oa, ca', ea, HA⟩ := rd_cells (Rd.belowW HRA.out hW7 (Nat.le_refl _)) (by rw [HXL.out]; omega)
        obtain ⟨gb, ob, cb', eb, HBB⟩ := rd_cells (Rd.belowW HRB.out hW7 (Nat.le_refl _)) (by rw [HYL.out]; omega)
        obtain ⟨gj, oj, cj, ej, HJ⟩ := rd_cells (Rd.belowW ho5.rd (below_seq (below_alloc w5 (.cells #[.slice a5 n5 c5] 34)) hK) (Nat.le_refl _)) (by rw [HJL.out]; omega)
        obtain ⟨gm, om, cm, em, HM⟩ := rd_cells (Rd.belowW ho6.rd (below_alloc w6 (.cells #[.slice a6 n6 c6] 34)) (Nat.le_refl _)) (by rw [HML.out]; omega)
        rw [HXL.out] at ea
        rw [HYL.out] at eb
        rw [HJL.out] at ej
        rw [HML.out] at em
        simp only [Value.slice.injEq] at ea eb ej em
        obtain ⟨rfl, _, rfl⟩ := ea
        obtain ⟨rfl, _, rfl⟩ := eb
        obtain ⟨rfl, rfl, rfl⟩ := ej
        obtain ⟨rfl, rfl, rfl⟩ := em
        have HW7 : Hid _ := hW7
        clear hM hZ hZ2 hZ3 hZ4 hZ5 hZ7 hW hW2 hW3 hW4 hW5 hW7 hK hb5 hb6 ho5 ho6 HRA HRB
        go_wp2_with fail
        go_loop [16, 17, 18] (fun i _ _ => ∃ k : Nat, k ≤ 16 ∧ i = .int .i64 (k : Int)) (fun i _ _ => 16 - (intOf i).toNat)
        case atStart => exact ⟨0, by omega, rfl⟩
        case round =>
          obtain ⟨k, hk, rfl⟩ := hrel
          by_cases hlt : k < 16
          · have k1 : k < xs.length := by rw [HXL.out]; exact hlt
            have k2 : k < ys.length := by rw [HYL.out]; exact hlt
            have x1 := HA.out k k1
            have x2 := HBB.out k k2
            obtain ⟨k3, e3⟩ := HCJ.out k k1 k2
            obtain ⟨k4, e4⟩ := HCM.out k k1 k2
            have x3 := HJ.out k k3
            have x4 := HM.out k k4
            rw [e3] at x3
            rw [e4] at x4
            clear e3 e4
            generalize xs[k] = x at x1 x3 x4
            generalize ys[k] = y at x2 x3 x4
            have j0 : (0 : Int) ≤ (k : Int) := by omega
            have j1 : (k : Int) < 16 := by omega
            clear k1 k2 k3 k4
            go_wp2_with fail
            all_goals
              go_round
              case rel => exact ⟨k + 1, by omega, by go_num⟩
              case measure => simp [intOf]; omega
          · obtain rfl : k = 16 := by omega
            go_wp2_with fail
            go_ret
            exact ⟨rfl, HB.out _ HW7.out⟩
  · have i0 : (1048576 : Int) < (zs.length : Int) := by omega
    go_enter Try.func6, Try.ntmps6
    go_wp2_with fail
    go_ret
    exact ⟨rfl, Below.refl _ _⟩

end Go.Proofs.Ytonpeiknoifdbab
