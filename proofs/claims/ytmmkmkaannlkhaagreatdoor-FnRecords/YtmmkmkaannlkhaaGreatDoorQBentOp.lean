/- The specification's l08Bent: a log of which one operation is changed. -/
import Derived.Test.YtmmkmkaannlkhaaGreatDoorQBentBase
import Derived.Test.YtmmkmkaannlkhaaGreatDoorQOpNumsToRdCut
import Derived.Test.YtmmkmkaannlkhaaGreatDoorQSrcOdd
import Derived.Test.YtmmkmkaannlkhaaGreatDoorQInfoToLawAt
namespace Go.Proofs.YtmmkmkaannlkhaaGreatDoor
open Go.RowKit
set_option linter.unusedVariables false

theorem ofInts_sizeB (xs : List Int) : (ofInts xs).size = xs.length := by
  unfold ofInts
  simp [ByteArray.size]
theorem below_none {w w' : World} (h : w.grownBy w' none) : Below w.heap.size w w' := ⟨h.os, h.tape, h.output, h.size, fun k hk => h.block k hk (by simp)⟩
theorem litB4 (a b c d : Int) (q : Nat) (h : q < 4) : ∃ z : Int, (#[.int .i64 a, .int .i64 b, .int .i64 c, .int .i64 d] : Array Value)[q]? = some (.int .i64 z) ∧ (z = a ∨ z = b ∨ z = c ∨ z = d) := by
  match q, h with
  | 0, _ => exact ⟨a, rfl, .inl rfl⟩
  | 1, _ => exact ⟨b, rfl, .inr (.inl rfl)⟩
  | 2, _ => exact ⟨c, rfl, .inr (.inr (.inl rfl))⟩
  | 3, _ => exact ⟨d, rfl, .inr (.inr (.inr rfl))⟩
theorem litB3 (a b c : Int) (q : Nat) (h : q < 3) : ∃ z : Int, (#[.int .i64 a, .int .i64 b, .int .i64 c] : Array Value)[q]? = some (.int .i64 z) ∧ (z = a ∨ z = b ∨ z = c) := by
  match q, h with
  | 0, _ => exact ⟨a, rfl, .inl rfl⟩
  | 1, _ => exact ⟨b, rfl, .inr (.inl rfl)⟩
  | 2, _ => exact ⟨c, rfl, .inr (.inr rfl)⟩
set_option maxHeartbeats 400000 in
theorem srcNext_pos (C b A n : Nat) (w : World) (h : Src C w b A) (hA : A ≤ 900000000) (hn : 1 ≤ n) (hn' : n ≤ 16777216) :
    Calls Tryz.prog 18 #[.pointer (some ⟨b, 0, none⟩), .int .i64 (n : Int)] w fun e w' => ∃ r : Int, e = .returned (.int .i64 r) ∧ 0 ≤ r ∧ r < n ∧ Src C w' b (A + 3) ∧ w.grownBy w' (some b) := by
  by_cases h1 : n = 1
  · subst h1
    go_enter Tryz.func18, Tryz.ntmps18
    go_wp2_with fail
    go_ret
    exact ⟨0, rfl, by omega, by omega, h.mono (by omega), ⟨rfl, rfl, rfl, Nat.le_refl _, fun _ _ _ => rfl⟩⟩
  · exact srcNext_any C b A (n : Int) w h hA (by omega) (by omega)

set_option maxHeartbeats 16000000 in
set_option maxRecDepth 100000 in
theorem l08Bent_any (C b A : Nat) (w : World) (v : Value) (L : List Ov) (T n : Nat) (h : Src C w b A) (hA : A ≤ 600000000) (hr : RdO w.heap.size w v L) (hL : DrL 3 T n L) (hn : n ≤ 4096) :
    Calls Tryz.prog 16 #[.pointer (some ⟨b, 0, none⟩), v] w fun e w' => ∃ r M, e = .returned r ∧ RdO w'.heap.size w' r M ∧ BtL n M ∧ Src C w' b (A + 20) ∧ w.grownBy w' (some b) := by
  have hcp := l08Copy_any w.heap.size w v L (Nat.le_refl _) hr (Nat.le_trans hL.1 hn) (fun x hx => by have := (hL.2 x hx).2.1; omega)
  obtain ⟨ao, cap0, rfl⟩ : ∃ ao cap, v = .slice ao L.length cap := by obtain ⟨⟨ao, cap, h, _⟩, _⟩ := hr; exact ⟨_, _, h⟩
  go_enter Tryz.func16, Tryz.ntmps16
  go_wp2_with fail
  refine hcp.mono ?_
  rintro e w1 ⟨r, M, rfl, hSm, hrow, hown, hb1, g, cap, rfl⟩
  have hBM : BtL n M := (hL.same hSm).bt
  have hS1 := h.below hb1 h.lt
  have hG1 := grownBy_below hb1 (Nat.le_refl _) (some b)
  have hlt := h.lt
  have hln : M.length ≤ 4096 := Nat.le_trans hBM.1 hn
  clear hcp hr hL hSm h
  by_cases hz : M.length = 0
  · have hzb : ((M.length : Int) == 0) = true := by simp [hz]
    have hR := owns_rdO hrow (fun x hx => (hown x hx).rd.mono (Nat.le_refl _))
    clear hz
    go_wp2_with fail
    go_ret
    exact ⟨_, M, rfl, hR, hBM, hS1.mono (by omega), hG1⟩
  · have hzb : ((M.length : Int) == 0) = false := by simpa using hz
    have hl1 : 1 ≤ M.length := by omega
    clear hz
    go_wp2_with fail
    refine (srcNext_pos C b A M.length w1 hS1 (by omega) hl1 (by omega)).mono ?_
    rintro e w2 ⟨k, rfl, hk0, hk1, hS2, hG2⟩
    obtain ⟨k, rfl⟩ := Int.eq_ofNat_of_zero_le hk0
    have hk : k < M.length := by omega
    have hg1 := World.ownsRow.lt hrow g rfl
    have hrow2 := owns_blk hrow (hG2.block g hg1.2 (fun e => by cases e; omega))
    have hown2 : ∀ y ∈ M, Own 3 w2 w.heap.size y.dv (y.ds.map (Value.int .i64)) := fun y hy => (hown y hy).apart hG2 (fun j hj => by cases hj; exact hlt)
    have hgr2 := grownBy_trans hG1 hG2
    have hRd := owns_rdO hrow2 (fun x hx => (hown2 x hx).rd.mono (Nat.le_refl _))
    have hXO := hBM.2 _ (ovAt_mem hk)
    have hXown := hown2 _ (ovAt_mem hk)
    have hAt : OpAt w2 g (k * 12) (ovAt M k) := by
      obtain ⟨⟨a1, c1, e1, _, _, _, h4⟩, _⟩ := hRd
      simp only [Value.slice.injEq] at e1
      obtain ⟨g9, o9, e9, _, h5⟩ := h4 (by omega)
      rw [e9] at e1
      simp only [Option.some.injEq, Addr.mk.injEq, and_true] at e1
      obtain ⟨⟨rfl, rfl⟩, -, -⟩ := e1
      have := h5 k hk
      rwa [Nat.zero_add] at this
    obtain ⟨gc, xc, hdv⟩ : ∃ gc xc, (ovAt M k).dv = .slice (some ⟨gc, 0, none⟩) 16 xc := by
      obtain ⟨a1, c1, e1, h1⟩ := hXown.slice
      rw [List.length_map, hXO.2.1] at e1 h1
      obtain ⟨g1, rfl⟩ := h1 (by omega)
      exact ⟨g1, c1, e1⟩
    generalize HX : ovAt M k = X at *
    obtain ⟨xa, xs, xt, xdv, xk, xo, xn, xu, xpt, xpa, xky, xtx, xds⟩ := X
    obtain rfl : xdv = .slice (some ⟨gc, 0, none⟩) 16 xc := hdv
    obtain ⟨c0, c1, c2, c3, c4, c5, c6, c7, c8, c9, c10, c11⟩ := hAt
    simp only at c0 c1 c2 c3 c4 c5 c6 c7 c8 c9 c10 c11
    have hB3 : Bt C w (w2.alloc (.cells #[.int .i64 xa, .int .i64 xs, .int .i64 xt, .slice (some ⟨gc, 0, none⟩) 16 xc, .int .i64 xk, .int .i64 xo, .int .i64 xn, .int .i64 xu, .int .i64 xpt, .int .i64 xpa, .string xky, .string xtx] 29)) b (A + 3) g cap w2.heap.size M ⟨xa, xs, xt, .slice (some ⟨gc, 0, none⟩) 16 xc, xk, xo, xn, xu, xpt, xpa, xky, xtx, xds⟩ := by
      have hb := below_alloc w2 (.cells #[.int .i64 xa, .int .i64 xs, .int .i64 xt, .slice (some ⟨gc, 0, none⟩) 16 xc, .int .i64 xk, .int .i64 xo, .int .i64 xn, .int .i64 xu, .int .i64 xpt, .int .i64 xpa, .string xky, .string xtx] 29)
      have hlw := hG2.size
      have hlw1 := hb1.size
      exact ⟨hS2.below hb hS2.lt, grownBy_trans hgr2 (grownBy_below hb (Nat.le_refl _) (some b)), hlt, owns_on hrow2 hb (Nat.le_refl _), fun y hy => (hown2 y hy).below hb (Nat.le_refl _), heap_alloc_new w2 _, by omega, by omega, hXown.below hb (Nat.le_refl _)⟩
    have hkm : (k : Int) < (M.length : Int) := by omega
    have hds16 : xds.length = 16 := hXO.2.1
    clear HX hXown hRd hown2 hrow2 hown hrow hgr2 hG2 hG1 hS1 hS2 hb1
    go_upto_region 6 with fail
    clear c0 c1 c2 c3 c4 c5 c6 c7 c8 c9 c10 c11
    generalize w2.alloc (.cells #[.int .i64 xa, .int .i64 xs, .int .i64 xt, .slice (some ⟨gc, 0, none⟩) 16 xc, .int .i64 xk, .int .i64 xo, .int .i64 xn, .int .i64 xu, .int .i64 xpt, .int .i64 xpa, .string xky, .string xtx] 29) = w3 at *
    generalize w2.heap.size = ob at *
    go_wp2_with fail
    refine (srcNext_any C b _ 40 w3 hB3.src (by omega) (by omega) (by omega)).mono ?_
    rintro e w4 ⟨r, rfl, hr0, hr1, hS4, hG4⟩
    have hB4 := hB3.next hS4 hG4
    clear hB3 hS4 hG4
    refine ways12 hr0 (fun h => ?w8) (fun h => ?w0) (fun h => ?w1) (fun h => ?w2) (fun h => ?w3) (fun h => ?w4) (fun h => ?w5) (fun h => ?w6) (fun h => ?w7) (fun h => ?w9) (fun h => ?w10) (fun h => ?wx)
    case w8 =>
      subst h
      have hRd := owns_rdO hB4.row (fun x hx => (hB4.own x hx).rd.mono (Nat.le_refl _))
      have hct := hRd.cut 1 (M.length - 1) (by omega) (Nat.le_refl _)
      have hBC : BtL n ((M.drop 1).take (M.length - 1)) := ⟨by rw [List.length_take]; have := hBM.1; omega, fun x hx => hBM.2 x (List.mem_of_mem_drop (List.mem_of_mem_take hx))⟩
      have hcm : M.length ≤ cap := by
        obtain ⟨⟨a1, c1, e1, h1, _⟩, _⟩ := hRd
        simp only [Value.slice.injEq] at e1
        omega
      by_cases hc1 : cap = 1
      · subst hc1
        rw [if_pos rfl] at hct
        have hl2 : M.length = 1 := by omega
        rw [hl2] at hct hBC ⊢
        go_wp2_with fail
        go_ret
        exact ⟨_, _, rfl, hct, hBC, hB4.src.mono (by omega), hB4.gr⟩
      · rw [if_neg hc1] at hct
        have hmi : (1 : Int) ≤ (M.length : Int) := by omega
        go_wp2_with fail
        go_ret
        exact ⟨_, _, rfl, hct, hBC, hB4.src.mono (by omega), hB4.gr⟩
    case' w0 =>
      subst h
      go_wp2_with fail
      refine (srcNext_any C b _ 4 _ (hB4.src.alloc _) (by omega) (by omega) (by omega)).mono ?_
      rintro e w5 ⟨q, rfl, hq0, hq1, hS5, hG5⟩
      obtain ⟨q, rfl⟩ := Int.eq_ofNat_of_zero_le hq0
      have hB5 := (hB4.below (below_alloc w4 _)).next hS5 hG5
      have hl5 := blk_kept hB4.src.lt hG5
      obtain ⟨z, hz, hzv⟩ := litB4 (0) (1) (1000000000000) (1000000000001) q (by omega)
      have cz := blk_cell hl5 q hz
      have hqi : (q : Int) < 4 := by omega
      clear hl5 hz hS5 hG5 hB4 hq1
      have cw := hB5.op.at 2 rfl
      have fw := hB5.op.free 2
      have HJ : Hid (∃ MM y, MM.length = M.length ∧ Bt C w (w5.setCell ⟨ob, 2, none⟩ (.int .i64 z)) b (A + 20) g cap ob MM y ∧ BtL n MM ∧ BtO y) := ⟨M, ⟨xa, xs, z, .slice (some ⟨gc, 0, none⟩) 16 xc, xk, xo, xn, xu, xpt, xpa, xky, xtx, xds⟩, rfl, (hB5.put (y := ⟨xa, xs, z, .slice (some ⟨gc, 0, none⟩) 16 xc, xk, xo, xn, xu, xpt, xpa, xky, xtx, xds⟩) 2 (.int .i64 z) rfl rfl rfl).mono (by omega), hBM, hXO.1, hXO.2.1, hXO.2.2.1, hXO.2.2.2⟩
      go_upto_region 29 with fail
      generalize w5.setCell ⟨ob, 2, none⟩ (.int .i64 z) = wz at *
      clear cw fw
    case' w1 =>
      subst h
      go_wp2_with fail
      have hBd := hB4.below (Below.refl _ _).drew
      refine wp_region_held_drew (S := fun w' => w'.cell? ⟨ob, 3, none⟩ = some (.slice (some ⟨gc, 0, none⟩) 16 xc)) (by kernel_rfl) (hBd.op.at 3 rfl) (fun hHeld => ?_)
      clear hB4
      generalize w4.drew = w5 at *
      refine tkH 0 (.pointer (some ⟨ob, 3, none⟩)) rfl (Or.inl ⟨by kernel_rfl, by intro w hSw; clear hSw; go_simp⟩) hHeld ?_
      simp only [tkS, Act.put]
      refine tkH 1 (.pointer (some ⟨ob, 3, none⟩)) rfl (Or.inl ⟨by kernel_rfl, by intro w hSw; clear hSw; go_simp⟩) hHeld ?_
      simp only [tkS, Act.put]
      refine tkH 2 (.slice (some ⟨gc, 0, none⟩) 16 xc) rfl (Or.inl ⟨by kernel_rfl, by intro w hSw; have s0 := hSw; clear hSw; go_simp⟩) hHeld ?_
      simp only [tkS, Act.put]
      refine tkH 3 (.pointer (some ⟨b, 0, none⟩)) rfl (Or.inl ⟨by kernel_rfl, by intro w hSw; clear hSw; go_simp⟩) hHeld ?_
      simp only [tkS, Act.put]
      refine wpAnyH_ready (rs := [4]) (by kernel_rfl) (by simp) ?_
      refine AllReadyH.cons rfl (fun K hK => ?_) AllReadyH.nil
      go_simp
      refine (srcNext_any C b _ 4 w5 hBd.src (by omega) (by omega) (by omega)).mono ?_
      rintro e w6 ⟨q, rfl, hq0, hq1, hS6, hG6⟩
      obtain ⟨q, rfl⟩ := Int.eq_ofNat_of_zero_le hq0
      have hB6 := hBd.next hS6 hG6
      have hq4 : q < xds.length := by omega
      have hqi : (q : Int) < 16 := by omega
      have hqi4 : (q : Int) < 4 := by omega
      have cq : w6.cell? ⟨gc, q, none⟩ = some (.int .i64 xds[q]) := own_at hB6.xo (by rw [List.getElem?_map, List.getElem?_eq_getElem hq4]; rfl)
      have fq : w6.frozen? ⟨gc, q, none⟩ = false := by
        have h9 : Own 3 w6 w.heap.size (.slice (some ⟨gc, 0, none⟩) 16 xc) (xds.map (Value.int .i64)) := hB6.xo
        unfold Own at h9
        rw [List.length_map, hds16] at h9
        exact World.ownsRow.frozenAt h9 q
      clear hBd hS6 hG6
      go_wp2_with fail
      refine hK.out _ _ (hB6.op.at 3 rfl) (fun hHeld => ?_)
      clear hK K
      try simp only [tkS, Act.put]
      refine tkH 5 (.pointer (some ⟨gc, q, none⟩)) rfl (Or.inl ⟨by kernel_rfl, by intro w hSw; clear hSw; go_simp⟩) hHeld ?_
      simp only [tkS, Act.put]
      refine wpAnyH_ready (rs := [6]) (by kernel_rfl) (by simp) ?_
      refine AllReadyH.cons rfl (fun K hK => ?_) AllReadyH.nil
      generalize xds[q] = cv at *
      go_simp
      refine hK.out _ _ (hB6.op.at 3 rfl) (fun hHeld => ?_)
      clear hK K
      try simp only [tkS, Act.put]
      refine tkH 7 (.int .i64 (IntKind.i64.wrap (cv + 1))) rfl (Or.inl ⟨by kernel_rfl, by intro w hSw; clear hSw; go_simp⟩) hHeld ?_
      simp only [tkS, Act.put]
      refine tkH 8 (.pointer (some ⟨gc, q, none⟩)) rfl (Or.inl ⟨by kernel_rfl, by intro w hSw; clear hSw; go_simp⟩) hHeld ?_
      simp only [tkS, Act.put]
      refine wpAnyH_ready (rs := [9]) (by kernel_rfl) (by simp) ?_
      refine AllReadyH.cons rfl (fun K hK => ?_) AllReadyH.nil
      have hB7 := (hB6.bump q (IntKind.i64.wrap (cv + 1)) rfl).mono (show A + 3 + 3 + 3 ≤ A + 20 by omega)
      go_simp
      refine hK.out _ _ (hB7.op.at 3 (by rw [bumpO_cs]; rfl)) (fun hHeld => ?_)
      clear hK K
      try simp only [tkS, Act.put]
      refine wpAnyH_done (by kernel_rfl) ?_ _
      have HJ : Hid (∃ MM y, MM.length = M.length ∧ Bt C w (w6.setCell ⟨gc, q, none⟩ (.int .i64 (IntKind.i64.wrap (cv + 1)))) b (A + 20) g cap ob MM y ∧ BtL n MM ∧ BtO y) := ⟨_, _, List.length_map _, hB7, btL_bump hBM, bumpO_bt hXO⟩
      clear hB7 hB6 cq fq
      go_upto_region 29 with fail
      generalize w6.setCell ⟨gc, q, none⟩ (.int .i64 (IntKind.i64.wrap (cv + 1))) = wz at *
    case' w2 =>
      subst h
      go_wp2_with fail
      refine (srcNext_any C b _ 7 _ hB4.src (by omega) (by omega) (by omega)).mono ?_
      rintro e w5 ⟨q, rfl, hq0, hq1, hS5, hG5⟩
      have hB5 := hB4.next hS5 hG5
      clear hS5 hG5 hB4
      have cw := hB5.op.at 4 rfl
      have fw := hB5.op.free 4
      have HJ : Hid (∃ MM y, MM.length = M.length ∧ Bt C w (w5.setCell ⟨ob, 4, none⟩ (.int .i64 (q - 1))) b (A + 20) g cap ob MM y ∧ BtL n MM ∧ BtO y) := ⟨M, ⟨xa, xs, xt, .slice (some ⟨gc, 0, none⟩) 16 xc, q - 1, xo, xn, xu, xpt, xpa, xky, xtx, xds⟩, rfl, (hB5.put (y := ⟨xa, xs, xt, .slice (some ⟨gc, 0, none⟩) 16 xc, q - 1, xo, xn, xu, xpt, xpa, xky, xtx, xds⟩) 4 (.int .i64 (q - 1)) rfl rfl rfl).mono (by omega), hBM, hXO.1, hXO.2.1, hXO.2.2.1, hXO.2.2.2⟩
      go_upto_region 29 with fail
      generalize w5.setCell ⟨ob, 4, none⟩ (.int .i64 (q - 1)) = wz at *
      clear cw fw
    case' w3 =>
      subst h
      go_wp2_with fail
      refine (srcNext_any C b _ 4 _ (hB4.src.alloc _) (by omega) (by omega) (by omega)).mono ?_
      rintro e w5 ⟨q, rfl, hq0, hq1, hS5, hG5⟩
      obtain ⟨q, rfl⟩ := Int.eq_ofNat_of_zero_le hq0
      have hB5 := (hB4.below (below_alloc w4 _)).next hS5 hG5
      have hl5 := blk_kept hB4.src.lt hG5
      obtain ⟨z, hz, hzv⟩ := litB4 (0) (1) (100) (101) q (by omega)
      have cz := blk_cell hl5 q hz
      have hqi : (q : Int) < 4 := by omega
      clear hl5 hz hS5 hG5 hB4 hq1
      have cw := hB5.op.at 5 rfl
      have fw := hB5.op.free 5
      have HJ : Hid (∃ MM y, MM.length = M.length ∧ Bt C w (w5.setCell ⟨ob, 5, none⟩ (.int .i64 z)) b (A + 20) g cap ob MM y ∧ BtL n MM ∧ BtO y) := ⟨M, ⟨xa, xs, xt, .slice (some ⟨gc, 0, none⟩) 16 xc, xk, z, xn, xu, xpt, xpa, xky, xtx, xds⟩, rfl, (hB5.put (y := ⟨xa, xs, xt, .slice (some ⟨gc, 0, none⟩) 16 xc, xk, z, xn, xu, xpt, xpa, xky, xtx, xds⟩) 5 (.int .i64 z) rfl rfl rfl).mono (by omega), hBM, hXO.1, hXO.2.1, hXO.2.2.1, hXO.2.2.2⟩
      go_upto_region 29 with fail
      generalize w5.setCell ⟨ob, 5, none⟩ (.int .i64 z) = wz at *
      clear cw fw
    case' w4 =>
      subst h
      go_wp2_with fail
      refine (srcNext_any C b _ 4 _ (hB4.src.alloc _) (by omega) (by omega) (by omega)).mono ?_
      rintro e w5 ⟨q, rfl, hq0, hq1, hS5, hG5⟩
      obtain ⟨q, rfl⟩ := Int.eq_ofNat_of_zero_le hq0
      have hB5 := (hB4.below (below_alloc w4 _)).next hS5 hG5
      have hl5 := blk_kept hB4.src.lt hG5
      obtain ⟨z, hz, hzv⟩ := litB4 (-1000000000001) (1000000000000) (55296) (-1) q (by omega)
      have cz := blk_cell hl5 q hz
      have hqi : (q : Int) < 4 := by omega
      clear hl5 hz hS5 hG5 hB4 hq1
      have cw := hB5.op.at 6 rfl
      have fw := hB5.op.free 6
      have HJ : Hid (∃ MM y, MM.length = M.length ∧ Bt C w (w5.setCell ⟨ob, 6, none⟩ (.int .i64 z)) b (A + 20) g cap ob MM y ∧ BtL n MM ∧ BtO y) := ⟨M, ⟨xa, xs, xt, .slice (some ⟨gc, 0, none⟩) 16 xc, xk, xo, z, xu, xpt, xpa, xky, xtx, xds⟩, rfl, (hB5.put (y := ⟨xa, xs, xt, .slice (some ⟨gc, 0, none⟩) 16 xc, xk, xo, z, xu, xpt, xpa, xky, xtx, xds⟩) 6 (.int .i64 z) rfl rfl rfl).mono (by omega), hBM, hXO.1, hXO.2.1, hXO.2.2.1, hXO.2.2.2⟩
      go_upto_region 29 with fail
      generalize w5.setCell ⟨ob, 6, none⟩ (.int .i64 z) = wz at *
      clear cw fw
    case' w5 =>
      subst h
      go_wp2_with fail
      refine (srcNext_any C b _ 4 _ hB4.src (by omega) (by omega) (by omega)).mono ?_
      rintro e w5 ⟨q, rfl, hq0, hq1, hS5, hG5⟩
      have hB5 := hB4.next hS5 hG5
      clear hS5 hG5 hB4
      have cw := hB5.op.at 7 rfl
      have fw := hB5.op.free 7
      have HJ : Hid (∃ MM y, MM.length = M.length ∧ Bt C w (w5.setCell ⟨ob, 7, none⟩ (.int .i64 (q - 1))) b (A + 20) g cap ob MM y ∧ BtL n MM ∧ BtO y) := ⟨M, ⟨xa, xs, xt, .slice (some ⟨gc, 0, none⟩) 16 xc, xk, xo, xn, q - 1, xpt, xpa, xky, xtx, xds⟩, rfl, (hB5.put (y := ⟨xa, xs, xt, .slice (some ⟨gc, 0, none⟩) 16 xc, xk, xo, xn, q - 1, xpt, xpa, xky, xtx, xds⟩) 7 (.int .i64 (q - 1)) rfl rfl rfl).mono (by omega), hBM, hXO.1, hXO.2.1, hXO.2.2.1, hXO.2.2.2⟩
      go_upto_region 29 with fail
      generalize w5.setCell ⟨ob, 7, none⟩ (.int .i64 (q - 1)) = wz at *
      clear cw fw
    case' w6 =>
      subst h
      go_wp2_with fail
      refine (oddStamp_any C b _ _ hB4.src (by omega)).mono ?_
      rintro e w5 ⟨st, sa, rfl, hS5, hG5⟩
      have hB5 := hB4.next hS5 hG5
      have c8 := hB5.op.at 8 rfl
      have c9 := hB5.op.at 9 rfl
      have f8 := hB5.op.free 8
      have f9 := hB5.op.free 9
      clear hS5 hG5 hB4
      have HJ : Hid (∃ MM y, MM.length = M.length ∧ Bt C w ((w5.setCell ⟨ob, 8, none⟩ (.int .i64 st)).setCell ⟨ob, 9, none⟩ (.int .i64 sa)) b (A + 20) g cap ob MM y ∧ BtL n MM ∧ BtO y) := ⟨M, ⟨xa, xs, xt, .slice (some ⟨gc, 0, none⟩) 16 xc, xk, xo, xn, xu, st, sa, xky, xtx, xds⟩, rfl, ((hB5.put (y := ⟨xa, xs, xt, .slice (some ⟨gc, 0, none⟩) 16 xc, xk, xo, xn, xu, st, xpa, xky, xtx, xds⟩) 8 (.int .i64 st) rfl rfl rfl).put (y := ⟨xa, xs, xt, .slice (some ⟨gc, 0, none⟩) 16 xc, xk, xo, xn, xu, st, sa, xky, xtx, xds⟩) 9 (.int .i64 sa) rfl rfl rfl).mono (by omega), hBM, hXO.1, hXO.2.1, hXO.2.2.1, hXO.2.2.2⟩
      go_upto_region 29 with fail
      generalize (w5.setCell ⟨ob, 8, none⟩ (.int .i64 st)).setCell ⟨ob, 9, none⟩ (.int .i64 sa) = wz at *
      clear c8 c9 f8 f9
    case' w7 =>
      subst h
      go_wp2_with fail
      refine (srcNext_any C b _ 2 _ hB4.src (by omega) (by omega) (by omega)).mono ?_
      rintro e w5 ⟨q, rfl, hq0, hq1, hS5, hG5⟩
      have hB5 := hB4.next hS5 hG5
      clear hS5 hG5 hB4
      obtain ⟨m, hm, hm2⟩ : ∃ m : Nat, 200 + q = (m : Int) ∧ m ≤ 201 := ⟨(200 + q).toNat, by omega, by omega⟩
      have hr2' : q = (m : Int) - 200 := by omega
      subst hr2'
      have e200 : 200 + ((m : Int) - 200) = (m : Int) := by omega
      obtain ⟨i5, hi5, hy0, hy1, hy2⟩ := info_parts info5
      go_wp2_with (at_make; refine wpList_make_full _ rfl _ _ 22 rfl w5.heap.size 5 i5 (.int .u8 0) 1 Tryz.underlying22 hi5 hy0 hy1 _ _ _ _ m rfl rfl rfl rfl (by rw [hy2]; omega) (by unfold maxLen; omega) (Nat.le_refl _) ?_)
      intro w6 hown hgrow
      have ho6 := own_of hown
      rw [toList_madeCells_one] at ho6
      have hz6 : Rd w6.heap.size w6 (.slice (some ⟨w5.heap.size, 0, none⟩) m m) ((List.replicate m (0 : Int)).map (Value.int .u8)) := by
        rw [List.map_replicate]
        exact ho6.rd
      have hst := run_string_of hz6
      have hs := ofInts_sizeB (List.replicate m (0 : Int))
      rw [List.length_replicate] at hs
      generalize ofInts (List.replicate m (0 : Int)) = s at hst hs
      replace hB5 := hB5.below (below_none hgrow)
      clear hown hgrow ho6 hz6 e200
      have cw := hB5.op.at 10 rfl
      have fw := hB5.op.free 10
      have HJ : Hid (∃ MM y, MM.length = M.length ∧ Bt C w (w6.setCell ⟨ob, 10, none⟩ (.string s)) b (A + 20) g cap ob MM y ∧ BtL n MM ∧ BtO y) := ⟨M, ⟨xa, xs, xt, .slice (some ⟨gc, 0, none⟩) 16 xc, xk, xo, xn, xu, xpt, xpa, s, xtx, xds⟩, rfl, (hB5.put (y := ⟨xa, xs, xt, .slice (some ⟨gc, 0, none⟩) 16 xc, xk, xo, xn, xu, xpt, xpa, s, xtx, xds⟩) 10 (.string s) rfl rfl rfl).mono (by omega), hBM, hXO.1, hXO.2.1, (by show s.size ≤ 201; omega), hXO.2.2.2⟩
      go_upto_region 29 with fail
      generalize w6.setCell ⟨ob, 10, none⟩ (.string s) = wz at *
      clear cw fw
    case' w9 =>
      subst h
      have cs1 := hB4.op.at 1 rfl
      have hB5 := hB4
      clear hB4
      have cw := hB5.op.at 1 rfl
      have fw := hB5.op.free 1
      have HJ : Hid (∃ MM y, MM.length = M.length ∧ Bt C w (w4.setCell ⟨ob, 1, none⟩ (.int .i64 (wrap64 (xs + 1)))) b (A + 20) g cap ob MM y ∧ BtL n MM ∧ BtO y) := ⟨M, ⟨xa, wrap64 (xs + 1), xt, .slice (some ⟨gc, 0, none⟩) 16 xc, xk, xo, xn, xu, xpt, xpa, xky, xtx, xds⟩, rfl, (hB5.put (y := ⟨xa, wrap64 (xs + 1), xt, .slice (some ⟨gc, 0, none⟩) 16 xc, xk, xo, xn, xu, xpt, xpa, xky, xtx, xds⟩) 1 (.int .i64 (wrap64 (xs + 1))) rfl rfl rfl).mono (by omega), hBM, hXO.1, hXO.2.1, hXO.2.2.1, hXO.2.2.2⟩
      go_upto_region 29 with fail
      generalize w4.setCell ⟨ob, 1, none⟩ (.int .i64 (wrap64 (xs + 1))) = wz at *
      clear cw fw
    case' w10 =>
      subst h
      go_wp2_with fail
      refine (srcNext_any C b _ 3 _ (hB4.src.alloc _) (by omega) (by omega) (by omega)).mono ?_
      rintro e w5 ⟨q, rfl, hq0, hq1, hS5, hG5⟩
      obtain ⟨q, rfl⟩ := Int.eq_ofNat_of_zero_le hq0
      have hB5 := (hB4.below (below_alloc w4 _)).next hS5 hG5
      have hl5 := blk_kept hB4.src.lt hG5
      obtain ⟨z, hz, hzv⟩ := litB3 (-1) (3) (16) q (by omega)
      have cz := blk_cell hl5 q hz
      have hqi : (q : Int) < 3 := by omega
      clear hl5 hz hS5 hG5 hB4 hq1
      have cw := hB5.op.at 0 rfl
      have fw := hB5.op.free 0
      have HJ : Hid (∃ MM y, MM.length = M.length ∧ Bt C w (w5.setCell ⟨ob, 0, none⟩ (.int .i64 z)) b (A + 20) g cap ob MM y ∧ BtL n MM ∧ BtO y) := ⟨M, ⟨z, xs, xt, .slice (some ⟨gc, 0, none⟩) 16 xc, xk, xo, xn, xu, xpt, xpa, xky, xtx, xds⟩, rfl, (hB5.put (y := ⟨z, xs, xt, .slice (some ⟨gc, 0, none⟩) 16 xc, xk, xo, xn, xu, xpt, xpa, xky, xtx, xds⟩) 0 (.int .i64 z) rfl rfl rfl).mono (by omega), hBM, (by show z ≠ 7; omega), hXO.2.1, hXO.2.2.1, hXO.2.2.2⟩
      go_upto_region 29 with fail
      generalize w5.setCell ⟨ob, 0, none⟩ (.int .i64 z) = wz at *
      clear cw fw
    case' wx =>
      have hrn : (r == 0) = false ∧ (r == 1) = false ∧ (r == 2) = false ∧ (r == 3) = false ∧ (r == 4) = false ∧ (r == 5) = false ∧ (r == 6) = false ∧ (r == 7) = false ∧ (r == 8) = false ∧ (r == 9) = false ∧ (r == 10) = false := by refine ⟨?_, ?_, ?_, ?_, ?_, ?_, ?_, ?_, ?_, ?_, ?_⟩ <;> (simp; omega)
      obtain ⟨n0, n1, n2, n3, n4, n5, n6, n7, n8, n9, n10⟩ := hrn
      have HJ : Hid (∃ MM y, MM.length = M.length ∧ Bt C w w4 b (A + 20) g cap ob MM y ∧ BtL n MM ∧ BtO y) := ⟨M, _, rfl, hB4.mono (by omega), hBM, hXO⟩
      clear hB4 h
      go_upto_region 29 with fail
      generalize w4 = wz at *
      clear n0 n1 n2 n3 n4 n5 n6 n7 n8 n9 n10
    all_goals
      obtain ⟨MM, y, hml, hB, hBL, hyO⟩ := HJ.out
      obtain ⟨hR, hSf, hGf⟩ := hB.fin (k := k) (by omega)
      rw [hml] at hR
      have hrg := opBlk_range hB.op
      have hcm : MM.length ≤ cap := by
        have hRd := owns_rdO hB.row (fun x hx => (hB.own x hx).rd.mono (Nat.le_refl _))
        obtain ⟨⟨a1, c1, e1, h1, _⟩, _⟩ := hRd
        simp only [Value.slice.injEq] at e1
        omega
      have hth : wz.there g (k * 12) y.cs.toArray.size := there_row hB.row (by show k * 12 + 12 ≤ cap * 12; omega)
      have HI1 : Hid ((Tryz.prog.info? 29).map (·.size) = some y.cs.length) := infoOpB _
      have HI2 : Hid ((Tryz.prog.info? 29).map (·.size) = some y.cs.toArray.size) := infoOpB _
      have hone : y.cs.toArray.all (·.oneCell') = true := all_oneCell_toArray (cs_one y (by obtain ⟨a1, c1, e1, _⟩ := hB.xo.slice; rw [e1]; rfl))
      have hBS := btL_set (k := k) hBL hyO
      obtain ⟨cs, HCS⟩ : ∃ cs, Hid (y.cs = cs) := ⟨_, rfl⟩
      rw [HCS.out] at hR hSf hGf hrg hth HI1 HI2 hone
      clear HJ hB hBL hyO hcm
      go_wp2_with (first | (refine wpList_load_mid rfl 29 _ rfl ob 0 rfl cs _ hrg Tryz.underlying29 rfl HI1.out ?_) | (refine wpList_store_mid rfl 29 _ _ rfl g (k * 12) cs.toArray rfl rfl hth HI2.out hone ?_))
      go_ret
      exact ⟨_, _, rfl, hR, hBS, hSf, hGf⟩
end Go.Proofs.YtmmkmkaannlkhaaGreatDoor
