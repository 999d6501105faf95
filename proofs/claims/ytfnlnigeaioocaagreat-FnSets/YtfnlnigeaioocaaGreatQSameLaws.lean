/- What sameInts and sameEntries of the laws answer at rows that read alike, and the draws of SetJoin and MultiJoin. -/
import Derived.Test.YtfnlnigeaioocaaGreatQDrawDraw
import Derived.Test.YtfnlnigeaioocaaGreatQTakeKit
namespace Go.Proofs.YtfnlnigeaioocaaGreat
open Go.RowKit
set_option linter.unusedVariables false

theorem two_put {lo n k : Nat} {u v u' v' x : Value} {w : World} (h : Two lo u v u' v' w) (hn : n < lo) : Two lo u v u' v' (w.setCell ⟨n, k, none⟩ x) := h.frm ((Frm.gr (World.grownBy.refl w none) (fun k e => by cases e)).put n k x (fun _ => (rfl : n = n)) (P := fun i => i = n)) (fun i hi e => by omega)
theorem two_put4 {lo n m : Nat} {u v u' v' a b c d : Value} {w : World} (h : Two lo u v u' v' w) (hn : n < lo) (hm : m < lo) : Two lo u v u' v' ((((w.setCell ⟨n, 0, none⟩ a).setCell ⟨n, 1, none⟩ b).setCell ⟨m, 0, none⟩ c).setCell ⟨m, 1, none⟩ d) := two_put (two_put (two_put (two_put h hn) hn) hm) hm
theorem two_lo {lo lo' : Nat} {u v u' v' : Value} {w : World} (h : Two lo u v u' v' w) (hl : lo' ≤ lo) : Two lo' u v u' v' w := by
  obtain ⟨⟨ys, a1, Z1, z1, a2, a3⟩, ⟨ms, b1, Z2, z2, b2, b3⟩, ⟨ys', c1, Z3, z3, c2, c3⟩, ⟨ms', d1, Z4, z4, d2, d3⟩, s1, s2, s3, s4⟩ := h
  exact ⟨⟨ys, a1, Z1, z1, a2, fun a n c e hz => Nat.le_trans hl (a3 a n c e hz)⟩, ⟨ms, b1, Z2, z2, b2, fun a n c e hz => Nat.le_trans hl (b3 a n c e hz)⟩, ⟨ys', c1, Z3, z3, c2, fun a n c e hz => Nat.le_trans hl (c3 a n c e hz)⟩, ⟨ms', d1, Z4, z4, d2, fun a n c e hz => Nat.le_trans hl (d3 a n c e hz)⟩, s1, s2, s3, s4⟩
theorem two_on {lo : Nat} {u v u' v' : Value} {w w' : World} (h : Two lo u v u' v' w) (hb : Below w.heap.size w w') : Two lo u v u' v' w' := h.frm (frm_below hb (fun _ => False)) (fun _ _ e => e)
theorem dy4 {w : World} {n m : Nat} {x y x' y' : Value} (h : Dy w n x y) (k : Dy w m x' y') (hnm : n ≠ m) (a b c d : Value) : Dy ((((w.setCell ⟨n, 0, none⟩ a).setCell ⟨n, 1, none⟩ b).setCell ⟨m, 0, none⟩ c).setCell ⟨m, 1, none⟩ d) n a b ∧ Dy ((((w.setCell ⟨n, 0, none⟩ a).setCell ⟨n, 1, none⟩ b).setCell ⟨m, 0, none⟩ c).setCell ⟨m, 1, none⟩ d) m c d :=
  ⟨Dy.aside (Dy.aside (Dy.set1 (Dy.set0 h a) b) hnm 0 c) hnm 1 d, Dy.set1 (Dy.set0 (Dy.aside (Dy.aside k (Ne.symm hnm) 0 a) (Ne.symm hnm) 1 b) c) d⟩
theorem src_far {C b A n : Nat} {w : World} (h : Src C w b A) (hn : n < b) (hC : C ≤ n) (k : Nat) (x : Value) : Src C (w.setCell ⟨n, k, none⟩ x) b A := by
  have hlt := h.lt
  obtain ⟨v, xs, p, q, h1, h2, h3, h4⟩ := h
  refine ⟨v, xs, p, q, ?_, h2, frmR ((Frm.gr (World.grownBy.refl w none) (fun k e => by cases e)).put n k x (fun _ => (rfl : n = n)) (P := fun i => i = n)) h3 (by omega) (fun a m c e hl he => by omega), h4⟩
  unfold Sr
  rw [heap_setCell_other w ⟨n, k, none⟩ b x (by show b ≠ n; omega)]
  exact h1
theorem src_put4 {C b A n m : Nat} {w : World} {a b' c d : Value} (h : Src C w b A) (hn : n < b) (hm : m < b) (hC : C ≤ n) (hC' : C ≤ m) : Src C ((((w.setCell ⟨n, 0, none⟩ a).setCell ⟨n, 1, none⟩ b').setCell ⟨m, 0, none⟩ c).setCell ⟨m, 1, none⟩ d) b A := src_far (src_far (src_far (src_far h hn hC 0 a) hn hC 1 b') hm hC' 0 c) hm hC' 1 d
theorem below_put4 {B : Nat} {w w' : World} {n m : Nat} {a b c d : Value} (h : Below B w w') (hn : B ≤ n) (hm : B ≤ m) : Below B w ((((w'.setCell ⟨n, 0, none⟩ a).setCell ⟨n, 1, none⟩ b).setCell ⟨m, 0, none⟩ c).setCell ⟨m, 1, none⟩ d) := (((h.setCell (p := ⟨n, 0, none⟩) hn _).setCell (p := ⟨n, 1, none⟩) hn _).setCell (p := ⟨m, 0, none⟩) hm _).setCell (p := ⟨m, 1, none⟩) hm _

set_option maxHeartbeats 4000000 in
set_option maxRecDepth 100000 in
theorem l03DrawSet_any (C : Nat) (w : World) (v : Value) (cs : List Int) (hC : C ≤ w.heap.size) (hr : Rd C w v (cs.map (Value.int .u8))) (hX : ∀ x ∈ cs, 0 ≤ x ∧ x ≤ 255) (hl : cs.length ≤ 1048576) :
    Calls Tryz.prog 10 #[v] w fun e w' => ∃ b ua ub uc va vb vc pa pb pc qa qb qc, e = .returned (.tuple #[.agg #[.slice ua ub uc, .slice va vb vc], .agg #[.slice pa pb pc, .slice qa qb qc], .pointer (some ⟨b, 0, none⟩)]) ∧ Two (b + 1) (.slice ua ub uc) (.slice va vb vc) (.slice pa pb pc) (.slice qa qb qc) w' ∧ Src C w' b 5000 ∧ w.heap.size ≤ b ∧ Below w.heap.size w w' := by
  obtain ⟨W, hW⟩ : ∃ W, (w.alloc (.cells #[.slice none 0 0, .slice none 0 0] 28)).alloc (.cells #[.slice none 0 0, .slice none 0 0] 28) = W := ⟨_, rfl⟩
  have hB0 : Below w.heap.size w W := by rw [← hW]; exact below_then (below_alloc _ _) _
  have HZ : Hid (W.heap.size = w.heap.size + 1 + 1) := by unfold Hid; rw [← hW]; simp
  have HQ4 : Hid (Dy W w.heap.size (.slice none 0 0) (.slice none 0 0)) := by rw [← hW]; exact (Dy.made w _ _ 28).on (below_alloc _ _)
  have HQ5 : Hid (Dy W (w.heap.size + 1) (.slice none 0 0) (.slice none 0 0)) := by
    have := Dy.made (w.alloc (.cells #[.slice none 0 0, .slice none 0 0] 28)) (.slice none 0 0) (.slice none 0 0) 28
    rw [World.size_alloc, hW] at this
    exact this
  go_enter Tryz.func10, Tryz.ntmps10
  go_upto_region 1 with fail
  clear hW
  go_wp2_with fail
  refine (source_any C W v cs (Nat.le_trans hC hB0.size) (hr.belowW hB0 hC) hX hl).mono ?_
  rintro e w1 ⟨rfl, hS1, hb1⟩
  go_wp2_with fail
  refine (l03Draw_any C W.heap.size 0 w1 true hS1 (by omega)).mono ?_
  rintro e w2 ⟨u, v, u', v', rfl, HT, hS2, hg2⟩
  obtain ⟨ua, ub, uc, rfl⟩ := HT.s1
  obtain ⟨va, vb, vc, rfl⟩ := HT.s2
  obtain ⟨pa, pb, pc, rfl⟩ := HT.s3
  obtain ⟨qa, qb, qc, rfl⟩ := HT.s4
  have z1 := hb1.size
  have z2 := hg2.size
  have hZ := HZ.out
  have hB2 : Below w.heap.size w w2 := (below_seq hB0 hb1).grown hg2 (by omega) (fun k hk => by cases hk; omega)
  have hD4 := dy_gr (HQ4.out.on hb1) hg2 (by omega)
  have hD5 := dy_gr (HQ5.out.on hb1) hg2 (by omega)
  obtain ⟨X, hX'⟩ : ∃ X, (w2.alloc (.cells #[.slice ua ub uc, .slice va vb vc] 74)).alloc (.cells #[.slice pa pb pc, .slice qa qb qc] 74) = X := ⟨_, rfl⟩
  have hBX : Below w2.heap.size w2 X := by rw [← hX']; exact below_then (below_alloc _ _) _
  have HM6 : Hid (Dy X w2.heap.size (.slice ua ub uc) (.slice va vb vc)) := by rw [← hX']; exact (Dy.made w2 _ _ 74).on (below_alloc _ _)
  have HM7 : Hid (Dy X (w2.heap.size + 1) (.slice pa pb pc) (.slice qa qb qc)) := by
    have := Dy.made (w2.alloc (.cells #[.slice ua ub uc, .slice va vb vc] 74)) (.slice pa pb pc) (.slice qa qb qc) 74
    rw [World.size_alloc, hX'] at this
    exact this
  have HD4 : Hid (Dy X w.heap.size (.slice none 0 0) (.slice none 0 0)) := hD4.on hBX
  have HD5 : Hid (Dy X (w.heap.size + 1) (.slice none 0 0) (.slice none 0 0)) := hD5.on hBX
  have HE : Hid _ := dy4 HD4.out HD5.out (show w.heap.size ≠ w.heap.size + 1 by omega) (.slice ua ub uc) (.slice va vb vc) (.slice pa pb pc) (.slice qa qb qc)
  have HTT : Hid (Two w1.heap.size (.slice ua ub uc) (.slice va vb vc) (.slice pa pb pc) (.slice qa qb qc) X) := two_on HT hBX
  have HSX : Hid (Src C X W.heap.size 5000) := (hS2.mono (by omega)).below hBX hS2.lt
  have HBX : Hid (Below w.heap.size w X) := below_seq hB2 hBX
  have hlt1 := hS1.lt
  have HE4 : Hid (w.heap.size < w1.heap.size ∧ w.heap.size + 1 < w1.heap.size ∧ W.heap.size + 1 ≤ w1.heap.size ∧ w.heap.size ≤ W.heap.size ∧ w.heap.size < W.heap.size ∧ w.heap.size + 1 < W.heap.size ∧ w2.heap.size ≠ w.heap.size ∧ w2.heap.size ≠ w.heap.size + 1 ∧ w2.heap.size + 1 ≠ w.heap.size ∧ w2.heap.size + 1 ≠ w.heap.size + 1) := ⟨by omega, by omega, by omega, by omega, by omega, by omega, by omega, by omega, by omega, by omega⟩
  clear hD4 hD5 hS2 hg2 hS1 HT hZ z1 z2 hBX hB2 hb1 hB0 hlt1
  go_upto_region 3 with fail
  clear hX'
  obtain ⟨⟨m0, m1⟩, _⟩ := HM6.out
  obtain ⟨⟨n0, n1⟩, _⟩ := HM7.out
  have HSP : Hid (∀ (wx : World), ((wx.cell? ⟨w2.heap.size, 0, none⟩ = some (.slice ua ub uc)) ∧ (wx.cell? ⟨w2.heap.size, 1, none⟩ = some (.slice va vb vc)) ∧ (wx.cell? ⟨w2.heap.size + 1, 0, none⟩ = some (.slice pa pb pc)) ∧ (wx.cell? ⟨w2.heap.size + 1, 1, none⟩ = some (.slice qa qb qc))) → ∀ n, w2.heap.size ≠ n → w2.heap.size + 1 ≠ n → ∀ x y, (((wx.setCell ⟨n, 0, none⟩ x).setCell ⟨n, 1, none⟩ y).cell? ⟨w2.heap.size, 0, none⟩ = some (.slice ua ub uc)) ∧ (((wx.setCell ⟨n, 0, none⟩ x).setCell ⟨n, 1, none⟩ y).cell? ⟨w2.heap.size, 1, none⟩ = some (.slice va vb vc)) ∧ (((wx.setCell ⟨n, 0, none⟩ x).setCell ⟨n, 1, none⟩ y).cell? ⟨w2.heap.size + 1, 0, none⟩ = some (.slice pa pb pc)) ∧ (((wx.setCell ⟨n, 0, none⟩ x).setCell ⟨n, 1, none⟩ y).cell? ⟨w2.heap.size + 1, 1, none⟩ = some (.slice qa qb qc))) := fun wx hx n h7 h8 x y => by
    have o : ∀ (p k : Nat), p ≠ n → ((wx.setCell ⟨n, 0, none⟩ x).setCell ⟨n, 1, none⟩ y).cell? ⟨p, k, none⟩ = wx.cell? ⟨p, k, none⟩ := fun p k hp => (World.cell?_setCells_out n [y] 1 _ _ (fun e => absurd e hp)).trans (World.cell?_setCells_out n [x] 0 _ _ (fun e => absurd e hp))
    rw [o _ 0 h7, o _ 1 h7, o _ 0 h8, o _ 1 h8]
    exact hx
  clear m0 m1 n0 n1
  have hHS : X.drew.cell? ⟨w2.heap.size, 0, none⟩ = some (.slice ua ub uc) ∧ X.drew.cell? ⟨w2.heap.size, 1, none⟩ = some (.slice va vb vc) ∧ X.drew.cell? ⟨w2.heap.size + 1, 0, none⟩ = some (.slice pa pb pc) ∧ X.drew.cell? ⟨w2.heap.size + 1, 1, none⟩ = some (.slice qa qb qc) := ⟨HM6.out.1.1, HM6.out.1.2, HM7.out.1.1, HM7.out.1.2⟩
  refine wp_region_held_drew (S := (fun w' => w'.cell? ⟨w2.heap.size, 0, none⟩ = some (.slice ua ub uc) ∧ w'.cell? ⟨w2.heap.size, 1, none⟩ = some (.slice va vb vc) ∧ w'.cell? ⟨w2.heap.size + 1, 0, none⟩ = some (.slice pa pb pc) ∧ w'.cell? ⟨w2.heap.size + 1, 1, none⟩ = some (.slice qa qb qc))) (by kernel_rfl) hHS (fun hHeld => ?_)
  clear hHS
  replace HD4 : Hid (Dy X.drew w.heap.size (.slice none 0 0) (.slice none 0 0)) := HD4
  replace HD5 : Hid (Dy X.drew (w.heap.size + 1) (.slice none 0 0) (.slice none 0 0)) := HD5
  replace HTT : Hid (Two w1.heap.size (.slice ua ub uc) (.slice va vb vc) (.slice pa pb pc) (.slice qa qb qc) X.drew) := two_on HTT.out (Below.refl _ _).drew
  replace HSX : Hid (Src C X.drew W.heap.size 5000) := HSX
  replace HBX : Hid (Below w.heap.size w X.drew) := HBX.out.drew
  replace HE : Hid _ := dy4 HD4.out HD5.out (show w.heap.size ≠ w.heap.size + 1 by omega) (.slice ua ub uc) (.slice va vb vc) (.slice pa pb pc) (.slice qa qb qc)
  generalize X.drew = Y at HD4 HD5 HTT HSX HBX HE hHeld ⊢
  refine tkH 0 (.pointer (some ⟨w2.heap.size, 0, none⟩)) rfl (Or.inl ⟨by rfl, by intro w hSw; obtain ⟨s0, s1, s2, s3⟩ := hSw; go_simp⟩) hHeld ?_
  simp only [tkS, Act.put]
  refine tkH 1 (.agg #[.slice ua ub uc]) rfl (Or.inl ⟨by rfl, by intro w hSw; obtain ⟨s0, s1, s2, s3⟩ := hSw; go_simp⟩) hHeld ?_
  simp only [tkS, Act.put]
  refine tkH 2 (.pointer (some ⟨w2.heap.size, 1, none⟩)) rfl (Or.inl ⟨by rfl, by intro w hSw; obtain ⟨s0, s1, s2, s3⟩ := hSw; go_simp⟩) hHeld ?_
  simp only [tkS, Act.put]
  refine tkH 3 (.slice va vb vc) rfl (Or.inl ⟨by rfl, by intro w hSw; obtain ⟨s0, s1, s2, s3⟩ := hSw; go_simp⟩) hHeld ?_
  simp only [tkS, Act.put]
  refine tkH 4 (.agg #[.slice ua ub uc, .slice va vb vc]) rfl (Or.inl ⟨by rfl, by intro w hSw; obtain ⟨s0, s1, s2, s3⟩ := hSw; go_simp⟩) hHeld ?_
  simp only [tkS, Act.put]
  refine tkH 5 (.pointer (some ⟨w2.heap.size + 1, 0, none⟩)) rfl (Or.inl ⟨by rfl, by intro w hSw; obtain ⟨s0, s1, s2, s3⟩ := hSw; go_simp⟩) hHeld ?_
  simp only [tkS, Act.put]
  refine tkH 6 (.agg #[.slice pa pb pc]) rfl (Or.inl ⟨by rfl, by intro w hSw; obtain ⟨s0, s1, s2, s3⟩ := hSw; go_simp⟩) hHeld ?_
  simp only [tkS, Act.put]
  refine tkH 7 (.pointer (some ⟨w2.heap.size + 1, 1, none⟩)) rfl (Or.inl ⟨by rfl, by intro w hSw; obtain ⟨s0, s1, s2, s3⟩ := hSw; go_simp⟩) hHeld ?_
  simp only [tkS, Act.put]
  refine tkH 8 (.slice qa qb qc) rfl (Or.inl ⟨by rfl, by intro w hSw; obtain ⟨s0, s1, s2, s3⟩ := hSw; go_simp⟩) hHeld ?_
  simp only [tkS, Act.put]
  refine tkH 9 (.agg #[.slice pa pb pc, .slice qa qb qc]) rfl (Or.inl ⟨by rfl, by intro w hSw; obtain ⟨s0, s1, s2, s3⟩ := hSw; go_simp⟩) hHeld ?_
  simp only [tkS, Act.put]
  refine tkH 10 (.pointer (some ⟨W.heap.size, 0, none⟩)) rfl (Or.inl ⟨by rfl, by intro w hSw; obtain ⟨s0, s1, s2, s3⟩ := hSw; go_simp⟩) hHeld ?_
  simp only [tkS, Act.put]
  obtain ⟨⟨b0, b1⟩, bf⟩ := HD4.out
  have f0 := bf 0
  have f1 := bf 1
  clear bf
  refine wpAnyH_ready (rs := [11]) (by kernel_rfl) (by simp) (AllReadyH.cons rfl (fun K hK => ?_) AllReadyH.nil)
  go_simp
  refine hK.out _ _ (HSP.out _ hHeld _ HE4.out.2.2.2.2.2.2.1 HE4.out.2.2.2.2.2.2.2.2.1 _ _) (fun hHeld => ?_)
  clear hK K b0 b1 f0 f1
  obtain ⟨⟨b0, b1⟩, bf⟩ := Dy.aside (Dy.aside HD5.out (Nat.succ_ne_self w.heap.size) 0 (.slice ua ub uc)) (Nat.succ_ne_self w.heap.size) 1 (.slice va vb vc)
  have f0 := bf 0
  have f1 := bf 1
  clear bf
  refine wpAnyH_ready (rs := [12]) (by kernel_rfl) (by simp) (AllReadyH.cons rfl (fun K hK => ?_) AllReadyH.nil)
  go_simp
  refine hK.out _ _ (HSP.out _ hHeld _ HE4.out.2.2.2.2.2.2.2.1 HE4.out.2.2.2.2.2.2.2.2.2 _ _) (fun hHeld => ?_)
  clear hK K b0 b1 f0 f1
  refine tkH 13 (.pointer (some ⟨W.heap.size, 0, none⟩)) rfl (Or.inl ⟨by rfl, by intro w hSw; obtain ⟨s0, s1, s2, s3⟩ := hSw; go_simp⟩) hHeld ?_
  simp only [tkS, Act.put]
  refine wpAnyH_done (by kernel_rfl) ?_ _
  go_wp2_with fail
  refine bodyPost_ret (v := .tuple #[.agg #[.slice ua ub uc, .slice va vb vc], .agg #[.slice pa pb pc, .slice qa qb qc], .pointer (some ⟨W.heap.size, 0, none⟩)]) ?_ rfl ⟨_, _, _, _, _, _, _, _, _, _, _, _, _, rfl, two_lo (two_put4 HTT.out HE4.out.1 HE4.out.2.1) HE4.out.2.2.1, src_put4 HSX.out HE4.out.2.2.2.2.1 HE4.out.2.2.2.2.2.1 hC (Nat.le_succ_of_le hC), HE4.out.2.2.2.1, below_put4 HBX.out (Nat.le_refl _) (Nat.le_succ _)⟩
  simp [results, Tryz.results10, go_sem, HE.out.1.1.1, HE.out.1.1.2, HE.out.2.1.1, HE.out.2.1.2]

end Go.Proofs.YtfnlnigeaioocaaGreat
