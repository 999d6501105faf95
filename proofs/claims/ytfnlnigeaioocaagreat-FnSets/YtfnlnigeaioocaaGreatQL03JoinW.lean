/- What the specification's l03Join answers at valid values. -/
import Derived.BigQuiet
import Derived.Deep.CutRange
import Derived.Deep.CutBlock
import Derived.Test.YtfnlnigeaioocaaGreatQTakeKit
import Derived.Test.YtfnlnigeaioocaaGreatQSetRemImplToFindMath
namespace Go.Proofs.YtfnlnigeaioocaaGreat
open Go.RowKit
set_option linter.unusedVariables false

theorem fm_some {f : En → Option En} {ls : List En} {k : Nat} {acc : List En} (hk : k < ls.length) {x : En} (h : f (enAt ls k) = some x) : ((ls.take (k + 1)).filterMap f).foldl insE acc = insE (((ls.take k).filterMap f).foldl insE acc) x := by
  have e : ls.take (k + 1) = ls.take k ++ [enAt ls k] := by simp [enAt, hk]
  rw [e, List.filterMap_append, List.foldl_append]
  simp [h]
theorem fm_none {f : En → Option En} {ls : List En} {k : Nat} {acc : List En} (hk : k < ls.length) (h : f (enAt ls k) = none) : ((ls.take (k + 1)).filterMap f).foldl insE acc = ((ls.take k).filterMap f).foldl insE acc := by
  have e : ls.take (k + 1) = ls.take k ++ [enAt ls k] := by simp [enAt, hk]
  rw [e, List.filterMap_append, List.foldl_append]
  simp [h]
theorem fold_len : ∀ (L acc : List En), (L.foldl insE acc).length = acc.length + L.length := by
  intro L
  induction L with
  | nil => intro acc; rfl
  | cons e L ih => intro acc; rw [List.foldl_cons, ih, insE_len, List.length_cons]; omega
theorem fm_len (f : En → Option En) (ls : List En) (k : Nat) (acc : List En) : (((ls.take k).filterMap f).foldl insE acc).length ≤ acc.length + ls.length := by
  rw [fold_len]
  have h1 := List.length_filterMap_le f (ls.take k)
  have h2 : (ls.take k).length ≤ ls.length := by rw [List.length_take]; exact Nat.min_le_right _ _
  omega
theorem rd16 {C : Nat} {w : World} {v : Value} {xs : List Int} (h : Rd C w v (xs.map (Value.int .i64))) (h16 : xs.length = 16) : ∃ g off cap, v = .slice (some ⟨g, off, none⟩) 16 cap ∧ g < C ∧ ∀ k, k < 16 → w.cell? ⟨g, off + k, none⟩ = some (.int .i64 (xs.getD k 0)) := by
  obtain ⟨ao, cap, rfl, _, _, _, hc⟩ := h
  obtain ⟨g, off, rfl, hg, hc⟩ := hc (by rw [List.length_map]; omega)
  exact ⟨g, off, cap, by rw [List.length_map, h16], hg, fun k hk => hc k _ (by simp [show k < xs.length by omega])⟩
theorem mem_at {ls : List En} {k : Nat} (hk : k < ls.length) : enAt ls k ∈ ls := by
  rw [show enAt ls k = ls[k] by simp [enAt, hk]]
  exact List.getElem_mem hk
theorem OwnE.off {w w' : World} {B b : Nat} {v : Value} {ls : List En} (h : OwnE w B v ls) (hg : w.grownBy w' (Option.some b)) (hr : ∀ k, v.ownBlock = Option.some k → k < b) : OwnE w' B v ls := by
  obtain ⟨h1, h2⟩ := h
  refine ⟨h1, ?_⟩
  rcases h2 with h2 | ⟨g, cap, cur, hv, hb, hh, r⟩
  · exact .inl h2
  · exact .inr ⟨g, cap, cur, hv, hb, by rw [hg.block g (Array.getElem?_eq_some_iff.1 hh).1 (fun e => by have := hr g (by rw [hv]; rfl); cases e; omega)]; exact hh, r⟩
theorem gtr_bl (x y : List UInt8) : (!Op.bytesLess y x && !(y == x)) = Op.bytesLess x y := by
  rcases bl_triK x y with h | h | h
  · have h2 : Op.bytesLess y x = false := by
      cases hc : Op.bytesLess y x with
      | false => rfl
      | true => have := bl_transK _ _ _ h hc; rw [bl_irreflK] at this; cases this
    have h3 : (y == x) = false := by
      cases hc : (y == x) with
      | false => rfl
      | true => have e : y = x := by simpa using hc
                rw [e, bl_irreflK] at h; cases h
    rw [h, h2, h3]
    rfl
  · rw [h, bl_irreflK]
    simp
  · have h2 : Op.bytesLess x y = false := by
      cases hc : Op.bytesLess x y with
      | false => rfl
      | true => have := bl_transK _ _ _ h hc; rw [bl_irreflK] at this; cases this
    rw [h, h2]
    rfl
theorem Tr.made0L (w : World) (x y z : Value) (T : TypeId) : Tr (w.alloc (.cells #[x, y, z] T)) w.heap.size x y z := ⟨three_cells (Below.refl _ _), frozen_made (Below.refl _ _)⟩
theorem Tr.on0L {w w1 : World} {x y z : Value} {T : TypeId} (_ : Tr (w.alloc (.cells #[x, y, z] T)) w.heap.size x y z) (hb : Below (w.alloc (.cells #[x, y, z] T)).heap.size (w.alloc (.cells #[x, y, z] T)) w1) : Tr w1 w.heap.size x y z := ⟨three_cells hb, frozen_made hb⟩
theorem OwnE.drewN {w : World} {B : Nat} {v : Value} {ls : List En} (h : OwnE w B v ls) (n : Nat) : OwnE (w.drewN n) B v ls := h
theorem keep_hit {ms : List En} {ys : List Int} {t a : Int} {s s' : ByteArray} (h : ms.find? (twinE (t, a, s)) = some (t, a, s')) (b : Bool) (hb : Op.bytesLess s.toList s'.toList = b) : keepE ms ys (t, a, s) = some (if b = true then (t, a, s') else (t, a, s)) := by
  unfold keepE
  rw [h]
  simp only [grE, lessR_same, hb]
theorem keep_no {ms : List En} {ys : List Int} {e : En} (h : ms.find? (twinE e) = none) : (e.1 ≤ ys.getD e.2.1.toNat 0 → keepE ms ys e = none) ∧ (¬ e.1 ≤ ys.getD e.2.1.toNat 0 → keepE ms ys e = some e) := by
  unfold keepE
  rw [h]
  exact ⟨fun h => if_pos h, fun h => if_neg h⟩
theorem sole_hit {ls : List En} {xs : List Int} {e y : En} (h : ls.find? (twinE e) = some y) : soleE xs ls e = none := by
  unfold soleE
  rw [h]
  rfl
theorem sole_no {ls : List En} {xs : List Int} {e : En} (h : ls.find? (twinE e) = none) : (e.1 ≤ xs.getD e.2.1.toNat 0 → soleE xs ls e = none) ∧ (¬ e.1 ≤ xs.getD e.2.1.toNat 0 → soleE xs ls e = some e) := by
  have e0 : soleE xs ls e = keepE ls xs e := by unfold soleE; rw [h]; rfl
  rw [e0]
  exact keep_no h

set_option maxHeartbeats 8000000 in
set_option maxRecDepth 100000 in
theorem l03Join_any : L03Join := by
  intro C w v ve v' ve' xs ys ls ms hC hv he hv' he' hk1 hk2
  have x16 := (vecOK_get (vecOK_ofS hk1).1).1
  have y16 := (vecOK_get (vecOK_ofS hk2).1).1
  have hl1 := (vecOK_ofS hk1).2
  have hl2 := (vecOK_ofS hk2).2
  have HA1 : Hid (∀ e ∈ ls, 0 ≤ e.2.1 ∧ e.2.1 < 16) := okJ_act hk1
  have HA2 : Hid (∀ e ∈ ms, 0 ≤ e.2.1 ∧ e.2.1 < 16) := okJ_act hk2
  have HJ : Hid (jnL xs ys ls ms = ((ms.filterMap (soleE xs ls)).foldl insE ((ls.filterMap (keepE ms ys)).foldl insE []))) := rfl
  generalize jnL xs ys ls ms = out at HJ ⊢
  clear hk1 hk2
  obtain ⟨gx, ox, cx, rfl, hgx, hx⟩ := rd16 hv x16
  obtain ⟨gy, oy, cy, rfl, hgy, hy⟩ := rd16 hv' y16
  have HX : Hid (∀ k, k < 16 → w.cell? ⟨gx, ox + k, none⟩ = some (.int .i64 (xs.getD k 0))) := hx
  have HY : Hid (∀ k, k < 16 → w.cell? ⟨gy, oy + k, none⟩ = some (.int .i64 (ys.getD k 0))) := hy
  clear hx hy hv hv' x16 y16
  have he0 := he
  obtain ⟨eo, ec, rfl, hE⟩ := he0
  have he0 := he'
  obtain ⟨fo, fc, rfl, hF⟩ := he0
  have HE : Hid _ := hE
  have HF : Hid _ := hF
  clear hE hF
  have hl1' : (ls.length : Int) < 9223372036854775808 := by omega
  have hl2' : (ms.length : Int) < 9223372036854775808 := by omega
  obtain ⟨W, hW⟩ : ∃ W, (w.alloc (.cells #[.slice (some ⟨gx, ox, none⟩) 16 cx] 25)).alloc (.cells #[.slice (some ⟨gy, oy, none⟩) 16 cy] 25) = W := ⟨_, rfl⟩
  have hB0 : Below w.heap.size w W := by rw [← hW]; exact below_then (below_alloc _ _) _
  have HZ : Hid (W.heap.size = w.heap.size + 1 + 1) := by unfold Hid; rw [← hW]; simp
  have hx0 : W.cell? ⟨w.heap.size, 0, none⟩ = some (.slice (some ⟨gx, ox, none⟩) 16 cx) := by
    rw [← hW]
    exact cell_made1 (below_alloc _ _)
  have hy0 : W.cell? ⟨w.heap.size + 1, 0, none⟩ = some (.slice (some ⟨gy, oy, none⟩) 16 cy) := by
    have := cell_made1 (Below.refl ((w.alloc (.cells #[.slice (some ⟨gx, ox, none⟩) 16 cx] 25)).alloc (.cells #[.slice (some ⟨gy, oy, none⟩) 16 cy] 25)).heap.size ((w.alloc (.cells #[.slice (some ⟨gx, ox, none⟩) 16 cx] 25)).alloc (.cells #[.slice (some ⟨gy, oy, none⟩) 16 cy] 25)))
    rw [World.size_alloc, hW] at this
    exact this
  have HX0 : Hid _ := hx0
  have HY0 : Hid _ := hy0
  clear hx0 hy0
  have ho0 : OwnE (W.alloc (.cells #[] 60)) W.heap.size (.slice (some ⟨W.heap.size, 0, none⟩) 0 0) [] := World.ownsRow_lit W #[] 0 (Nat.le_refl _) (by decide) (by simp)
  have hBa := below_alloc W (.cells #[] 60)
  go_enter Tryz.func96, Tryz.ntmps96
  go_upto_region 1 with fail
  clear hW
  go_wp2_with fail
  go_loopw [9, 10] (fun tl tk wr => ∃ k : Nat, k ≤ ls.length ∧ tk = .int .i64 (k : Int) ∧ OwnE wr W.heap.size tl (((ls.take k).filterMap (keepE ms ys)).foldl insE []) ∧ tl ≠ .slice none 0 0 ∧ Below W.heap.size W wr) (fun _ tk _ => ls.length - (intOf tk).toNat)
  case atStart => exact ⟨0, Nat.zero_le _, rfl, ho0, by simp, hBa⟩
  case round =>
    clear ho0 hBa
    obtain ⟨k, hk, rfl, ho, hv5, hB⟩ := hrel
    have HV5 : Hid _ := hv5
    clear hv5
    have hBw := below_seq hB0 hB
    have hz := hB.size
    by_cases hlt : k < ls.length
    · obtain ⟨g, off, rfl, hg, hc⟩ := HE.out (by omega)
      obtain ⟨q0, q1, q2⟩ := hc k hlt
      rw [← hBw.cell (p := ⟨g, off + k * 3, none⟩) (by show g < _; omega)] at q0
      rw [← hBw.cell (p := ⟨g, off + (k * 3 + 1), none⟩) (by show g < _; omega)] at q1
      rw [← hBw.cell (p := ⟨g, off + (k * 3 + 2), none⟩) (by show g < _; omega)] at q2
      have hact := HA1.out _ (mem_at hlt)
      have HS : Hid (∀ x, keepE ms ys (enAt ls k) = some x → ((ls.take (k + 1)).filterMap (keepE ms ys)).foldl insE [] = insE (((ls.take k).filterMap (keepE ms ys)).foldl insE []) x) := fun x h => fm_some hlt h
      have HN : Hid (keepE ms ys (enAt ls k) = none → ((ls.take (k + 1)).filterMap (keepE ms ys)).foldl insE [] = ((ls.take k).filterMap (keepE ms ys)).foldl insE []) := fun h => fm_none hlt h
      obtain ⟨t, a0, s, hee⟩ : ∃ t a s, enAt ls k = (t, a, s) := ⟨_, _, _, rfl⟩
      rw [hee] at q0 q1 q2 HS HN hact
      obtain ⟨a, rfl⟩ : ∃ a : Nat, a0 = (a : Int) := ⟨a0.toNat, by have := hact.1; simp only at this; omega⟩
      have ha16 : a < 16 := by have := hact.2; simp only at this; omega
      replace q0 : wr.cell? ⟨g, off + k * 3, none⟩ = some (.int .i64 t) := q0
      replace q1 : wr.cell? ⟨g, off + k * 3 + 1, none⟩ = some (.int .i64 (a : Int)) := q1
      replace q2 : wr.cell? ⟨g, off + k * 3 + 2, none⟩ = some (.string s) := q2
      have hlen : (((ls.take k).filterMap (keepE ms ys)).foldl insE []).length ≤ 1048576 := by
        have := fm_len (keepE ms ys) ls k []
        simp only [List.length_nil] at this
        omega
      generalize ((ls.take k).filterMap (keepE ms ys)).foldl insE [] = zs at ho HS HN hlen
      have j0 : (0 : Int) ≤ (k : Int) := by omega
      have a0 : (0 : Int) ≤ (a : Int) := by omega
      have a1 : (a : Int) < 16 := by omega
      have j1 : (k : Int) < (ls.length : Int) := by omega
      have j2 : (k : Int) + 1 < 9223372036854775808 := by omega
      clear hee hc hact HE
      have hBe := below_alloc wr (.cells #[.int .i64 t, .int .i64 (a : Int), .string s] 60)
      have hFi := l03Find_any C (wr.alloc (.cells #[.int .i64 t, .int .i64 (a : Int), .string s] 60)) (.slice fo ms.length fc) ms t (a : Int) (by omega) (by have := (below_seq hBw hBe).size; omega) (he'.below ((below_seq hBw hBe).mono hC))
      have hT := Tr.made0L wr (.int .i64 t) (.int .i64 (a : Int)) (.string s) 60
      have HT : Hid _ := hT
      clear hT
      have HO : Hid (OwnE wr W.heap.size u9 zs) := ho
      clear ho
      have hso := fun k hk => (OwnE.lt HO.out k hk).2
      have HSO : Hid (∀ k, u9.ownBlock = some k → k < wr.heap.size) := hso
      clear hso
      rcases findE_cases ms t (a : Int) with ⟨m, hm⟩ | hm
      · obtain ⟨hml, hfind⟩ := findE_some (e := (t, (a : Int), s)) hm
        rw [hm] at hFi
        clear hm
        obtain ⟨g2, off2, rfl, hg2, hc⟩ := HF.out (by omega)
        have htw := List.find?_some hfind
        unfold twinE at htw
        simp only [decide_eq_true_eq] at htw
        obtain ⟨t2, a2, s2, hee⟩ : ∃ t a s, enAt ms m = (t, a, s) := ⟨_, _, _, rfl⟩
        have hq := hc m hml
        rw [hee] at htw hfind hq
        simp only at htw
        obtain ⟨rfl, rfl⟩ := htw
        have HQ : Hid _ := hq
        have m0 : (0 : Int) ≤ (m : Int) := by omega
        have m1 : (m : Int) < (ms.length : Int) := by omega
        clear hee hc hq HF
        cases hbl : Op.bytesLess s.toList s2.toList with
        | true =>
          have HR : Hid (((ls.take (k + 1)).filterMap (keepE ms ys)).foldl insE [] = insE zs (t2, (a : Int), s2)) := HS.out _ (by rw [keep_hit hfind true hbl]; rfl)
          clear HS HN hfind
          go_wp2_with fail
          refine hFi.mono ?_
          rintro e w1 ⟨rfl, hb1⟩
          have hBe1 := below_seq hBe hb1
          have hTr := Tr.on0L HT.out hb1
          obtain ⟨⟨c0, c1, c2⟩, cf⟩ := hTr
          clear hFi
          have r2 : w1.cell? ⟨g2, off2 + m * 3 + 2, none⟩ = some (.string s2) := cell_on (below_seq hBw hBe1) HQ.out.2.2
          have HT1 : Hid (Tr w1 wr.heap.size _ _ _) := ⟨⟨c0, c1, c2⟩, cf⟩
          clear cf
          go_wp2_with fail
          go_quiet (fail)
          rw [gtr_bl, hbl]
          have hBq := below_drewN hBe1 nq
          have HTq : Hid (Tr (w1.drewN nq) wr.heap.size _ _ _) := HT1.out
          clear r2 c0 c1 c2 HT1 hb1 hBe1
          generalize w1.drewN nq = wq at hBq HTq ⊢
          have r0 : wq.cell? ⟨g2, off2 + m * 3, none⟩ = some (.int .i64 t2) := cell_on (below_seq hBw hBq) HQ.out.1
          have r1 : wq.cell? ⟨g2, off2 + m * 3 + 1, none⟩ = some (.int .i64 (a : Int)) := cell_on (below_seq hBw hBq) HQ.out.2.1
          have r2 : wq.cell? ⟨g2, off2 + m * 3 + 2, none⟩ = some (.string s2) := cell_on (below_seq hBw hBq) HQ.out.2.2
          obtain ⟨⟨c0, c1, c2⟩, cf⟩ := HTq.out
          have f0 := cf 0
          have f1 := cf 1
          have f2 := cf 2
          clear cf
          go_upto_region 9 with fail
          clear r0 r1 r2 c0 c1 c2 f0 f1 f2
          obtain ⟨⟨c0, c1, c2⟩, cf⟩ := Tr.put HTq.out (.int .i64 t2) (.int .i64 (a : Int)) (.string s2)
          have hgr : wq.grownBy (((wq.setCell ⟨wr.heap.size, 0, none⟩ (.int .i64 t2)).setCell ⟨wr.heap.size, 1, none⟩ (.int .i64 (a : Int))).setCell ⟨wr.heap.size, 2, none⟩ (.string s2)) (some wr.heap.size) := grownBy_trans (grownBy_trans (grownBy_set _ _ _ _) (grownBy_set _ _ _ _)) (grownBy_set _ _ _ _)
          have hO2 : OwnE (((wq.setCell ⟨wr.heap.size, 0, none⟩ (.int .i64 t2)).setCell ⟨wr.heap.size, 1, none⟩ (.int .i64 (a : Int))).setCell ⟨wr.heap.size, 2, none⟩ (.string s2)) W.heap.size u9 zs := (HO.out.on hBq).off hgr HSO.out
          have hBs : Below wr.heap.size wr (((wq.setCell ⟨wr.heap.size, 0, none⟩ (.int .i64 t2)).setCell ⟨wr.heap.size, 1, none⟩ (.int .i64 (a : Int))).setCell ⟨wr.heap.size, 2, none⟩ (.string s2)) := ((hBq.setCell (p := ⟨wr.heap.size, 0, none⟩) (Nat.le_refl _) _).setCell (p := ⟨wr.heap.size, 1, none⟩) (Nat.le_refl _) _).setCell (p := ⟨wr.heap.size, 2, none⟩) (Nat.le_refl _) _
          clear hgr cf
          generalize ((wq.setCell ⟨wr.heap.size, 0, none⟩ (.int .i64 t2)).setCell ⟨wr.heap.size, 1, none⟩ (.int .i64 (a : Int))).setCell ⟨wr.heap.size, 2, none⟩ (.string s2) = w1s at *
          go_quiet (fail)
          go_wp2_with fail
          refine (l03Insert_any W.heap.size _ u9 zs t2 (a : Int) s2 hlen (hO2.drewN _) HV5.out).mono ?_
          rintro e w2 ⟨r2, rfl, ho2, hn2, hb2⟩
          have HN2 : Hid _ := hn2
          clear hn2
          go_wp2_with fail
          go_roundw
          case rel => exact ⟨k + 1, by omega, by go_num, by rw [HR.out]; exact ho2.mono (Nat.le_trans hz hBs.size), HN2.out, below_seq hB (below_seq (below_drewN hBs nq) hb2)⟩
          case measure => simp [intOf]; omega
        | false =>
          have HR : Hid (((ls.take (k + 1)).filterMap (keepE ms ys)).foldl insE [] = insE zs (t2, (a : Int), s)) := HS.out _ (by rw [keep_hit hfind false hbl]; rfl)
          clear HS HN hfind
          go_wp2_with fail
          refine hFi.mono ?_
          rintro e w1 ⟨rfl, hb1⟩
          have hBe1 := below_seq hBe hb1
          have hTr := Tr.on0L HT.out hb1
          obtain ⟨⟨c0, c1, c2⟩, cf⟩ := hTr
          clear hFi
          have r2 : w1.cell? ⟨g2, off2 + m * 3 + 2, none⟩ = some (.string s2) := cell_on (below_seq hBw hBe1) HQ.out.2.2
          clear cf
          go_wp2_with fail
          go_quiet (fail)
          rw [gtr_bl, hbl]
          go_wp2_with fail
          go_quiet (fail)
          go_wp2_with fail
          refine (l03Insert_any W.heap.size _ u9 zs t2 (a : Int) s hlen ((HO.out.on hBe1).drewN _) HV5.out).mono ?_
          rintro e w2 ⟨r2, rfl, ho2, hn2, hb2⟩
          have HN2 : Hid _ := hn2
          clear hn2
          go_wp2_with fail
          go_roundw
          case rel => exact ⟨k + 1, by omega, by go_num, by rw [HR.out]; exact ho2.mono (Nat.le_trans hz hBe1.size), HN2.out, below_seq hB (below_seq (below_drewN hBe1 _) hb2)⟩
          case measure => simp [intOf]; omega
      · have hfind := findE_none (ls := ms) (e := (t, (a : Int), s)) (by rw [hm]; omega)
        rw [hm] at hFi
        clear hm
        have hxa := HY.out a ha16
        rw [← hBw.cell (p := ⟨gy, oy + a, none⟩) (by show gy < _; omega)] at hxa
        have hkn := keep_no (ys := ys) hfind
        simp only [Int.toNat_natCast] at hkn
        generalize ys.getD a 0 = y at hxa hkn
        have HQ : Hid _ := hxa
        clear hxa
        by_cases hlt2 : t ≤ y
        · have HR : Hid (((ls.take (k + 1)).filterMap (keepE ms ys)).foldl insE [] = zs) := HN.out (hkn.1 hlt2)
          have hd : decide (y < t) = false := by simpa using hlt2
          clear HS HN hkn hfind
          go_wp2_with fail
          refine hFi.mono ?_
          rintro e w1 ⟨rfl, hb1⟩
          have hBe1 := below_seq hBe hb1
          have hTr := Tr.on0L HT.out hb1
          obtain ⟨⟨c0, c1, c2⟩, cf⟩ := hTr
          clear hFi
          have y0 := cell_on (below_seq hB hBe1) HY0.out
          have y1 := cell_on hBe1 HQ.out
          clear cf
          go_wp2_with fail
          go_quiet (fail)
          go_wp2_with fail
          go_quiet (fail)
          go_wp2_with fail
          go_roundw
          case rel => exact ⟨k + 1, by omega, by go_num, by rw [HR.out]; exact (HO.out.on hBe1).drewN _, HV5.out, below_seq hB (below_drewN hBe1 _)⟩
          case measure => simp [intOf]; omega
        · have HR : Hid (((ls.take (k + 1)).filterMap (keepE ms ys)).foldl insE [] = insE zs (t, (a : Int), s)) := HS.out _ (hkn.2 hlt2)
          have hd : decide (y < t) = true := by simpa using hlt2
          have hd2 : y < t := by omega
          clear HS HN hkn hfind hlt2
          go_wp2_with fail
          refine hFi.mono ?_
          rintro e w1 ⟨rfl, hb1⟩
          have hBe1 := below_seq hBe hb1
          have hTr := Tr.on0L HT.out hb1
          obtain ⟨⟨c0, c1, c2⟩, cf⟩ := hTr
          clear hFi
          have y0 := cell_on (below_seq hB hBe1) HY0.out
          have y1 := cell_on hBe1 HQ.out
          clear cf
          go_wp2_with fail
          go_quiet (fail)
          go_wp2_with fail
          go_quiet (fail)
          go_wp2_with fail
          refine (l03Insert_any W.heap.size _ u9 zs t (a : Int) s hlen ((HO.out.on hBe1).drewN _) HV5.out).mono ?_
          rintro e w2 ⟨r2, rfl, ho2, hn2, hb2⟩
          have HN2 : Hid _ := hn2
          clear hn2
          go_wp2_with fail
          go_roundw
          case rel => exact ⟨k + 1, by omega, by go_num, by rw [HR.out]; exact ho2.mono (Nat.le_trans hz hBe1.size), HN2.out, below_seq hB (below_seq (below_drewN hBe1 _) hb2)⟩
          case measure => simp [intOf]; omega
    · obtain rfl : k = ls.length := by omega
      rw [List.take_length] at ho
      have hn : ¬ (ls.length : Int) < (ls.length : Int) := by omega
      have HLA : Hid _ := fm_len (keepE ms ys) ls ls.length []
      rw [List.take_length] at HLA
      generalize (ls.filterMap (keepE ms ys)).foldl insE [] = acc at ho HJ HLA
      have ho0 := ho
      have HVV : Hid _ := HV5.out
      have hBa := hB
      clear ho hB HV5 hBw hz
      go_wp2_with fail
      go_loopw [9, 13] (fun tl tk wr => ∃ k : Nat, k ≤ ms.length ∧ tk = .int .i64 (k : Int) ∧ OwnE wr W.heap.size tl (((ms.take k).filterMap (soleE xs ls)).foldl insE acc) ∧ tl ≠ .slice none 0 0 ∧ Below W.heap.size W wr) (fun _ tk _ => ms.length - (intOf tk).toNat)
      case atStart => exact ⟨0, Nat.zero_le _, rfl, ho0, HVV.out, hBa⟩
      case round =>
        clear ho0 hBa HVV
        obtain ⟨k, hk, rfl, ho, hv5, hB⟩ := hrel
        have HV5 : Hid _ := hv5
        clear hv5
        have hBw := below_seq hB0 hB
        have hz := hB.size
        by_cases hlt : k < ms.length
        · obtain ⟨g, off, rfl, hg, hc⟩ := HF.out (by omega)
          obtain ⟨q0, q1, q2⟩ := hc k hlt
          rw [← hBw.cell (p := ⟨g, off + k * 3, none⟩) (by show g < _; omega)] at q0
          rw [← hBw.cell (p := ⟨g, off + (k * 3 + 1), none⟩) (by show g < _; omega)] at q1
          rw [← hBw.cell (p := ⟨g, off + (k * 3 + 2), none⟩) (by show g < _; omega)] at q2
          have hact := HA2.out _ (mem_at hlt)
          have HS : Hid (∀ x, soleE xs ls (enAt ms k) = some x → ((ms.take (k + 1)).filterMap (soleE xs ls)).foldl insE acc = insE (((ms.take k).filterMap (soleE xs ls)).foldl insE acc) x) := fun x h => fm_some hlt h
          have HN : Hid (soleE xs ls (enAt ms k) = none → ((ms.take (k + 1)).filterMap (soleE xs ls)).foldl insE acc = ((ms.take k).filterMap (soleE xs ls)).foldl insE acc) := fun h => fm_none hlt h
          obtain ⟨t, a0, s, hee⟩ : ∃ t a s, enAt ms k = (t, a, s) := ⟨_, _, _, rfl⟩
          rw [hee] at q0 q1 q2 HS HN hact
          obtain ⟨a, rfl⟩ : ∃ a : Nat, a0 = (a : Int) := ⟨a0.toNat, by have := hact.1; simp only at this; omega⟩
          have ha16 : a < 16 := by have := hact.2; simp only at this; omega
          replace q0 : wr.cell? ⟨g, off + k * 3, none⟩ = some (.int .i64 t) := q0
          replace q1 : wr.cell? ⟨g, off + k * 3 + 1, none⟩ = some (.int .i64 (a : Int)) := q1
          replace q2 : wr.cell? ⟨g, off + k * 3 + 2, none⟩ = some (.string s) := q2
          have hlen : (((ms.take k).filterMap (soleE xs ls)).foldl insE acc).length ≤ 1048576 := by
            have := fm_len (soleE xs ls) ms k acc
            have h2 := HLA.out
            simp only [List.length_nil] at h2
            omega
          generalize ((ms.take k).filterMap (soleE xs ls)).foldl insE acc = zs at ho HS HN hlen
          have j0 : (0 : Int) ≤ (k : Int) := by omega
          have a0 : (0 : Int) ≤ (a : Int) := by omega
          have a1 : (a : Int) < 16 := by omega
          have j1 : (k : Int) < (ms.length : Int) := by omega
          have j2 : (k : Int) + 1 < 9223372036854775808 := by omega
          have hxa := HX.out a ha16
          rw [← hBw.cell (p := ⟨gx, ox + a, none⟩) (by show gx < _; omega)] at hxa
          have HSS : Hid (∀ wx, Below wr.heap.size wr wx → wx.cell? ⟨g, off + k * 3, none⟩ = some (.int .i64 t) ∧ wx.cell? ⟨g, off + k * 3 + 1, none⟩ = some (.int .i64 (a : Int)) ∧ wx.cell? ⟨w.heap.size, 0, none⟩ = some (.slice (some ⟨gx, ox, none⟩) 16 cx) ∧ wx.cell? ⟨gx, ox + a, none⟩ = some (.int .i64 (xs.getD a 0))) := fun wx h => ⟨cell_on h q0, cell_on h q1, cell_on (below_seq hB h) HX0.out, cell_on h hxa⟩
          have HQQ : Hid (∀ wx, Below wr.heap.size wr wx → wx.cell? ⟨g, off + k * 3, none⟩ = some (.int .i64 t) ∧ wx.cell? ⟨g, off + k * 3 + 1, none⟩ = some (.int .i64 (a : Int)) ∧ wx.cell? ⟨g, off + k * 3 + 2, none⟩ = some (.string s)) := fun wx h => ⟨cell_on h q0, cell_on h q1, cell_on h q2⟩
          have HO : Hid (OwnE wr W.heap.size u9 zs) := ho
          clear hee hc hact q0 q1 q2 hxa ho
          have hFi := fun wx (hb : Below wr.heap.size wr wx) => l03Find_any C wx (.slice eo ls.length ec) ls t (a : Int) (by omega) (by have := (below_seq hBw hb).size; omega) (he.below ((below_seq hBw hb).mono hC))
          have hB9 := (Below.refl wr.heap.size wr).drew
          go_upto_region 14 with fail
          rcases findE_cases ls t (a : Int) with ⟨m, hm⟩ | hm
          · obtain ⟨hml, hfind⟩ := findE_some (e := (t, (a : Int), s)) hm
            have HR : Hid (((ms.take (k + 1)).filterMap (soleE xs ls)).foldl insE acc = zs) := HN.out (sole_hit hfind)
            have m0 : ¬ (m : Int) < 0 := by omega
            have m1 : decide ((m : Int) < 0) = false := by simp
            rw [hm] at hFi
            clear hm hml hfind HS HN
            generalize xs.getD a 0 = x at HSS
            refine wp_region_held_drew (S := fun w' => w'.cell? ⟨g, off + k * 3, none⟩ = some (.int .i64 t) ∧ w'.cell? ⟨g, off + k * 3 + 1, none⟩ = some (.int .i64 (a : Int)) ∧ w'.cell? ⟨w.heap.size, 0, none⟩ = some (.slice (some ⟨gx, ox, none⟩) 16 cx) ∧ w'.cell? ⟨gx, ox + a, none⟩ = some (.int .i64 x)) (by kernel_rfl) (HSS.out _ hB9) (fun hHeld => ?_)
            refine tkH 0 ((.slice eo ls.length ec)) rfl (Or.inl ⟨by rfl, by intro w hSw; obtain ⟨s0, s1, s2, s3⟩ := hSw; go_simp⟩) hHeld ?_
            simp only [tkS, Act.put]
            refine tkH 1 ((.slice (some ⟨g, off, none⟩) ms.length fc)) rfl (Or.inl ⟨by rfl, by intro w hSw; obtain ⟨s0, s1, s2, s3⟩ := hSw; go_simp⟩) hHeld ?_
            simp only [tkS, Act.put]
            refine tkH 2 ((.int .i64 (k : Int))) rfl (Or.inl ⟨by rfl, by intro w hSw; obtain ⟨s0, s1, s2, s3⟩ := hSw; go_simp⟩) hHeld ?_
            simp only [tkS, Act.put]
            refine tkH 3 ((.pointer (some ⟨g, off + k * 3, none⟩))) rfl (Or.inl ⟨by rfl, by intro w hSw; obtain ⟨s0, s1, s2, s3⟩ := hSw; go_simp⟩) hHeld ?_
            simp only [tkS, Act.put]
            refine tkH 4 ((.pointer (some ⟨g, off + k * 3, none⟩))) rfl (Or.inl ⟨by rfl, by intro w hSw; obtain ⟨s0, s1, s2, s3⟩ := hSw; go_simp⟩) hHeld ?_
            simp only [tkS, Act.put]
            refine tkH 5 ((.agg #[.int .i64 t, .int .i64 (a : Int)])) rfl (Or.inl ⟨by rfl, by intro w hSw; obtain ⟨s0, s1, s2, s3⟩ := hSw; go_simp⟩) hHeld ?_
            simp only [tkS, Act.put]
            refine wpAnyH_ready (rs := [6]) (by kernel_rfl) (by simp) ?_
            refine AllReadyH.cons rfl (fun K hK => ?_) AllReadyH.nil
            go_simp
            refine (hFi _ hB9).mono ?_
            rintro e wn ⟨rfl, hbn⟩
            replace hB9 := below_seq hB9 hbn
            clear hbn
            go_wp2_with fail
            refine hK.out _ _ (HSS.out _ hB9) (fun hHeld => ?_)
            clear hK K
            refine tkH 7 ((.bool false)) rfl (Or.inl ⟨by rfl, by intro w hSw; obtain ⟨s0, s1, s2, s3⟩ := hSw; go_simp⟩) hHeld ?_
            simp only [tkS, Act.put]
            refine tkH 8 ((.bool false)) rfl (Or.inl ⟨by rfl, by intro w hSw; obtain ⟨s0, s1, s2, s3⟩ := hSw; go_simp⟩) hHeld ?_
            simp only [tkS, Act.put]
            refine tkH 9 (undef) rfl (Or.inr ⟨by rfl, rfl⟩) hHeld ?_
            simp only [tkS, Act.put]
            refine tkH 10 (undef) rfl (Or.inr ⟨by rfl, rfl⟩) hHeld ?_
            simp only [tkS, Act.put]
            refine tkH 11 (undef) rfl (Or.inr ⟨by rfl, rfl⟩) hHeld ?_
            simp only [tkS, Act.put]
            refine tkH 12 (undef) rfl (Or.inr ⟨by rfl, rfl⟩) hHeld ?_
            simp only [tkS, Act.put]
            refine tkH 13 (undef) rfl (Or.inr ⟨by rfl, rfl⟩) hHeld ?_
            simp only [tkS, Act.put]
            refine tkH 14 (undef) rfl (Or.inr ⟨by rfl, rfl⟩) hHeld ?_
            simp only [tkS, Act.put]
            refine tkH 15 (undef) rfl (Or.inr ⟨by rfl, rfl⟩) hHeld ?_
            simp only [tkS, Act.put]
            refine tkH 16 (undef) rfl (Or.inr ⟨by rfl, rfl⟩) hHeld ?_
            simp only [tkS, Act.put]
            refine tkH 17 (undef) rfl (Or.inr ⟨by rfl, rfl⟩) hHeld ?_
            simp only [tkS, Act.put]
            refine tkH 18 (undef) rfl (Or.inr ⟨by rfl, rfl⟩) hHeld ?_
            simp only [tkS, Act.put]
            refine tkH 19 (undef) rfl (Or.inr ⟨by rfl, rfl⟩) hHeld ?_
            simp only [tkS, Act.put]
            refine tkH 20 (undef) rfl (Or.inr ⟨by rfl, rfl⟩) hHeld ?_
            simp only [tkS, Act.put]
            refine tkH 21 (undef) rfl (Or.inr ⟨by rfl, rfl⟩) hHeld ?_
            simp only [tkS, Act.put]
            refine tkH 22 (undef) rfl (Or.inr ⟨by rfl, rfl⟩) hHeld ?_
            simp only [tkS, Act.put]
            refine tkH 23 (undef) rfl (Or.inr ⟨by rfl, rfl⟩) hHeld ?_
            simp only [tkS, Act.put]
            refine tkH 24 (undef) rfl (Or.inr ⟨by rfl, rfl⟩) hHeld ?_
            simp only [tkS, Act.put]
            refine tkH 25 (undef) rfl (Or.inr ⟨by rfl, rfl⟩) hHeld ?_
            simp only [tkS, Act.put]
            refine tkH 26 ((.bool false)) rfl (Or.inl ⟨by rfl, by intro w hSw; obtain ⟨s0, s1, s2, s3⟩ := hSw; go_simp⟩) hHeld ?_
            simp only [tkS, Act.put]
            refine wpAnyH_done (by kernel_rfl) ?_ _
            go_wp2_with fail
            go_roundw
            case rel => exact ⟨k + 1, by omega, by go_num, by rw [HR.out]; exact (HO.out.on hB9), HV5.out, below_seq hB hB9⟩
            case measure => simp [intOf]; omega
          · have hfind := findE_none (ls := ls) (e := (t, (a : Int), s)) (by rw [hm]; omega)
            rw [hm] at hFi
            have hkn := sole_no (xs := xs) hfind
            simp only [Int.toNat_natCast] at hkn
            generalize xs.getD a 0 = x at HSS hkn
            clear hm hfind
            by_cases hlt2 : t ≤ x
            · have HR : Hid (((ms.take (k + 1)).filterMap (soleE xs ls)).foldl insE acc = zs) := HN.out (hkn.1 hlt2)
              have hd : decide (x < t) = false := by simpa using hlt2
              have hd2 : ¬ x < t := by omega
              clear HS HN hkn
              refine wp_region_held_drew (S := fun w' => w'.cell? ⟨g, off + k * 3, none⟩ = some (.int .i64 t) ∧ w'.cell? ⟨g, off + k * 3 + 1, none⟩ = some (.int .i64 (a : Int)) ∧ w'.cell? ⟨w.heap.size, 0, none⟩ = some (.slice (some ⟨gx, ox, none⟩) 16 cx) ∧ w'.cell? ⟨gx, ox + a, none⟩ = some (.int .i64 x)) (by kernel_rfl) (HSS.out _ hB9) (fun hHeld => ?_)
              refine tkH 0 ((.slice eo ls.length ec)) rfl (Or.inl ⟨by rfl, by intro w hSw; obtain ⟨s0, s1, s2, s3⟩ := hSw; go_simp⟩) hHeld ?_
              simp only [tkS, Act.put]
              refine tkH 1 ((.slice (some ⟨g, off, none⟩) ms.length fc)) rfl (Or.inl ⟨by rfl, by intro w hSw; obtain ⟨s0, s1, s2, s3⟩ := hSw; go_simp⟩) hHeld ?_
              simp only [tkS, Act.put]
              refine tkH 2 ((.int .i64 (k : Int))) rfl (Or.inl ⟨by rfl, by intro w hSw; obtain ⟨s0, s1, s2, s3⟩ := hSw; go_simp⟩) hHeld ?_
              simp only [tkS, Act.put]
              refine tkH 3 ((.pointer (some ⟨g, off + k * 3, none⟩))) rfl (Or.inl ⟨by rfl, by intro w hSw; obtain ⟨s0, s1, s2, s3⟩ := hSw; go_simp⟩) hHeld ?_
              simp only [tkS, Act.put]
              refine tkH 4 ((.pointer (some ⟨g, off + k * 3, none⟩))) rfl (Or.inl ⟨by rfl, by intro w hSw; obtain ⟨s0, s1, s2, s3⟩ := hSw; go_simp⟩) hHeld ?_
              simp only [tkS, Act.put]
              refine tkH 5 ((.agg #[.int .i64 t, .int .i64 (a : Int)])) rfl (Or.inl ⟨by rfl, by intro w hSw; obtain ⟨s0, s1, s2, s3⟩ := hSw; go_simp⟩) hHeld ?_
              simp only [tkS, Act.put]
              refine wpAnyH_ready (rs := [6]) (by kernel_rfl) (by simp) ?_
              refine AllReadyH.cons rfl (fun K hK => ?_) AllReadyH.nil
              go_simp
              refine (hFi _ hB9).mono ?_
              rintro e wn ⟨rfl, hbn⟩
              replace hB9 := below_seq hB9 hbn
              clear hbn
              go_wp2_with fail
              refine hK.out _ _ (HSS.out _ hB9) (fun hHeld => ?_)
              clear hK K
              refine tkH 7 ((.bool true)) rfl (Or.inl ⟨by rfl, by intro w hSw; obtain ⟨s0, s1, s2, s3⟩ := hSw; go_simp⟩) hHeld ?_
              simp only [tkS, Act.put]
              refine tkH 8 ((.bool true)) rfl (Or.inl ⟨by rfl, by intro w hSw; obtain ⟨s0, s1, s2, s3⟩ := hSw; go_simp⟩) hHeld ?_
              simp only [tkS, Act.put]
              refine tkH 9 ((.pointer (some ⟨w.heap.size, 0, none⟩))) rfl (Or.inl ⟨by rfl, by intro w hSw; obtain ⟨s0, s1, s2, s3⟩ := hSw; go_simp⟩) hHeld ?_
              simp only [tkS, Act.put]
              refine tkH 10 ((.slice (some ⟨gx, ox, none⟩) 16 cx)) rfl (Or.inl ⟨by rfl, by intro w hSw; obtain ⟨s0, s1, s2, s3⟩ := hSw; go_simp⟩) hHeld ?_
              simp only [tkS, Act.put]
              refine tkH 11 ((.slice (some ⟨g, off, none⟩) ms.length fc)) rfl (Or.inl ⟨by rfl, by intro w hSw; obtain ⟨s0, s1, s2, s3⟩ := hSw; go_simp⟩) hHeld ?_
              simp only [tkS, Act.put]
              refine tkH 12 ((.int .i64 (k : Int))) rfl (Or.inl ⟨by rfl, by intro w hSw; obtain ⟨s0, s1, s2, s3⟩ := hSw; go_simp⟩) hHeld ?_
              simp only [tkS, Act.put]
              refine tkH 13 ((.pointer (some ⟨g, off + k * 3, none⟩))) rfl (Or.inl ⟨by rfl, by intro w hSw; obtain ⟨s0, s1, s2, s3⟩ := hSw; go_simp⟩) hHeld ?_
              simp only [tkS, Act.put]
              refine tkH 14 ((.pointer (some ⟨g, off + k * 3, none⟩))) rfl (Or.inl ⟨by rfl, by intro w hSw; obtain ⟨s0, s1, s2, s3⟩ := hSw; go_simp⟩) hHeld ?_
              simp only [tkS, Act.put]
              refine tkH 15 ((.pointer (some ⟨g, off + k * 3 + 1, none⟩))) rfl (Or.inl ⟨by rfl, by intro w hSw; obtain ⟨s0, s1, s2, s3⟩ := hSw; go_simp⟩) hHeld ?_
              simp only [tkS, Act.put]
              refine tkH 16 ((.int .i64 (a : Int))) rfl (Or.inl ⟨by rfl, by intro w hSw; obtain ⟨s0, s1, s2, s3⟩ := hSw; go_simp⟩) hHeld ?_
              simp only [tkS, Act.put]
              refine tkH 17 ((.pointer (some ⟨gx, ox + a, none⟩))) rfl (Or.inl ⟨by rfl, by intro w hSw; obtain ⟨s0, s1, s2, s3⟩ := hSw; go_simp⟩) hHeld ?_
              simp only [tkS, Act.put]
              refine tkH 18 ((.int .i64 x)) rfl (Or.inl ⟨by rfl, by intro w hSw; obtain ⟨s0, s1, s2, s3⟩ := hSw; go_simp⟩) hHeld ?_
              simp only [tkS, Act.put]
              refine tkH 19 ((.slice (some ⟨g, off, none⟩) ms.length fc)) rfl (Or.inl ⟨by rfl, by intro w hSw; obtain ⟨s0, s1, s2, s3⟩ := hSw; go_simp⟩) hHeld ?_
              simp only [tkS, Act.put]
              refine tkH 20 ((.int .i64 (k : Int))) rfl (Or.inl ⟨by rfl, by intro w hSw; obtain ⟨s0, s1, s2, s3⟩ := hSw; go_simp⟩) hHeld ?_
              simp only [tkS, Act.put]
              refine tkH 21 ((.pointer (some ⟨g, off + k * 3, none⟩))) rfl (Or.inl ⟨by rfl, by intro w hSw; obtain ⟨s0, s1, s2, s3⟩ := hSw; go_simp⟩) hHeld ?_
              simp only [tkS, Act.put]
              refine tkH 22 ((.pointer (some ⟨g, off + k * 3, none⟩))) rfl (Or.inl ⟨by rfl, by intro w hSw; obtain ⟨s0, s1, s2, s3⟩ := hSw; go_simp⟩) hHeld ?_
              simp only [tkS, Act.put]
              refine tkH 23 ((.pointer (some ⟨g, off + k * 3, none⟩))) rfl (Or.inl ⟨by rfl, by intro w hSw; obtain ⟨s0, s1, s2, s3⟩ := hSw; go_simp⟩) hHeld ?_
              simp only [tkS, Act.put]
              refine tkH 24 ((.int .i64 t)) rfl (Or.inl ⟨by rfl, by intro w hSw; obtain ⟨s0, s1, s2, s3⟩ := hSw; go_simp⟩) hHeld ?_
              simp only [tkS, Act.put]
              refine tkH 25 ((.bool false)) rfl (Or.inl ⟨by rfl, by intro w hSw; obtain ⟨s0, s1, s2, s3⟩ := hSw; go_simp⟩) hHeld ?_
              simp only [tkS, Act.put]
              refine tkH 26 ((.bool false)) rfl (Or.inl ⟨by rfl, by intro w hSw; obtain ⟨s0, s1, s2, s3⟩ := hSw; go_simp⟩) hHeld ?_
              simp only [tkS, Act.put]
              refine wpAnyH_done (by kernel_rfl) ?_ _
              go_wp2_with fail
              go_roundw
              case rel => exact ⟨k + 1, by omega, by go_num, by rw [HR.out]; exact (HO.out.on hB9), HV5.out, below_seq hB hB9⟩
              case measure => simp [intOf]; omega
            · have HR : Hid (((ms.take (k + 1)).filterMap (soleE xs ls)).foldl insE acc = insE zs (t, (a : Int), s)) := HS.out _ (hkn.2 hlt2)
              have hd : decide (x < t) = true := by simpa using hlt2
              have hd2 : x < t := by omega
              clear HS HN hkn hlt2
              refine wp_region_held_drew (S := fun w' => w'.cell? ⟨g, off + k * 3, none⟩ = some (.int .i64 t) ∧ w'.cell? ⟨g, off + k * 3 + 1, none⟩ = some (.int .i64 (a : Int)) ∧ w'.cell? ⟨w.heap.size, 0, none⟩ = some (.slice (some ⟨gx, ox, none⟩) 16 cx) ∧ w'.cell? ⟨gx, ox + a, none⟩ = some (.int .i64 x)) (by kernel_rfl) (HSS.out _ hB9) (fun hHeld => ?_)
              refine tkH 0 ((.slice eo ls.length ec)) rfl (Or.inl ⟨by rfl, by intro w hSw; obtain ⟨s0, s1, s2, s3⟩ := hSw; go_simp⟩) hHeld ?_
              simp only [tkS, Act.put]
              refine tkH 1 ((.slice (some ⟨g, off, none⟩) ms.length fc)) rfl (Or.inl ⟨by rfl, by intro w hSw; obtain ⟨s0, s1, s2, s3⟩ := hSw; go_simp⟩) hHeld ?_
              simp only [tkS, Act.put]
              refine tkH 2 ((.int .i64 (k : Int))) rfl (Or.inl ⟨by rfl, by intro w hSw; obtain ⟨s0, s1, s2, s3⟩ := hSw; go_simp⟩) hHeld ?_
              simp only [tkS, Act.put]
              refine tkH 3 ((.pointer (some ⟨g, off + k * 3, none⟩))) rfl (Or.inl ⟨by rfl, by intro w hSw; obtain ⟨s0, s1, s2, s3⟩ := hSw; go_simp⟩) hHeld ?_
              simp only [tkS, Act.put]
              refine tkH 4 ((.pointer (some ⟨g, off + k * 3, none⟩))) rfl (Or.inl ⟨by rfl, by intro w hSw; obtain ⟨s0, s1, s2, s3⟩ := hSw; go_simp⟩) hHeld ?_
              simp only [tkS, Act.put]
              refine tkH 5 ((.agg #[.int .i64 t, .int .i64 (a : Int)])) rfl (Or.inl ⟨by rfl, by intro w hSw; obtain ⟨s0, s1, s2, s3⟩ := hSw; go_simp⟩) hHeld ?_
              simp only [tkS, Act.put]
              refine wpAnyH_ready (rs := [6]) (by kernel_rfl) (by simp) ?_
              refine AllReadyH.cons rfl (fun K hK => ?_) AllReadyH.nil
              go_simp
              refine (hFi _ hB9).mono ?_
              rintro e wn ⟨rfl, hbn⟩
              replace hB9 := below_seq hB9 hbn
              clear hbn
              go_wp2_with fail
              refine hK.out _ _ (HSS.out _ hB9) (fun hHeld => ?_)
              clear hK K
              refine tkH 7 ((.bool true)) rfl (Or.inl ⟨by rfl, by intro w hSw; obtain ⟨s0, s1, s2, s3⟩ := hSw; go_simp⟩) hHeld ?_
              simp only [tkS, Act.put]
              refine tkH 8 ((.bool true)) rfl (Or.inl ⟨by rfl, by intro w hSw; obtain ⟨s0, s1, s2, s3⟩ := hSw; go_simp⟩) hHeld ?_
              simp only [tkS, Act.put]
              refine tkH 9 ((.pointer (some ⟨w.heap.size, 0, none⟩))) rfl (Or.inl ⟨by rfl, by intro w hSw; obtain ⟨s0, s1, s2, s3⟩ := hSw; go_simp⟩) hHeld ?_
              simp only [tkS, Act.put]
              refine tkH 10 ((.slice (some ⟨gx, ox, none⟩) 16 cx)) rfl (Or.inl ⟨by rfl, by intro w hSw; obtain ⟨s0, s1, s2, s3⟩ := hSw; go_simp⟩) hHeld ?_
              simp only [tkS, Act.put]
              refine tkH 11 ((.slice (some ⟨g, off, none⟩) ms.length fc)) rfl (Or.inl ⟨by rfl, by intro w hSw; obtain ⟨s0, s1, s2, s3⟩ := hSw; go_simp⟩) hHeld ?_
              simp only [tkS, Act.put]
              refine tkH 12 ((.int .i64 (k : Int))) rfl (Or.inl ⟨by rfl, by intro w hSw; obtain ⟨s0, s1, s2, s3⟩ := hSw; go_simp⟩) hHeld ?_
              simp only [tkS, Act.put]
              refine tkH 13 ((.pointer (some ⟨g, off + k * 3, none⟩))) rfl (Or.inl ⟨by rfl, by intro w hSw; obtain ⟨s0, s1, s2, s3⟩ := hSw; go_simp⟩) hHeld ?_
              simp only [tkS, Act.put]
              refine tkH 14 ((.pointer (some ⟨g, off + k * 3, none⟩))) rfl (Or.inl ⟨by rfl, by intro w hSw; obtain ⟨s0, s1, s2, s3⟩ := hSw; go_simp⟩) hHeld ?_
              simp only [tkS, Act.put]
              refine tkH 15 ((.pointer (some ⟨g, off + k * 3 + 1, none⟩))) rfl (Or.inl ⟨by rfl, by intro w hSw; obtain ⟨s0, s1, s2, s3⟩ := hSw; go_simp⟩) hHeld ?_
              simp only [tkS, Act.put]
              refine tkH 16 ((.int .i64 (a : Int))) rfl (Or.inl ⟨by rfl, by intro w hSw; obtain ⟨s0, s1, s2, s3⟩ := hSw; go_simp⟩) hHeld ?_
              simp only [tkS, Act.put]
              refine tkH 17 ((.pointer (some ⟨gx, ox + a, none⟩))) rfl (Or.inl ⟨by rfl, by intro w hSw; obtain ⟨s0, s1, s2, s3⟩ := hSw; go_simp⟩) hHeld ?_
              simp only [tkS, Act.put]
              refine tkH 18 ((.int .i64 x)) rfl (Or.inl ⟨by rfl, by intro w hSw; obtain ⟨s0, s1, s2, s3⟩ := hSw; go_simp⟩) hHeld ?_
              simp only [tkS, Act.put]
              refine tkH 19 ((.slice (some ⟨g, off, none⟩) ms.length fc)) rfl (Or.inl ⟨by rfl, by intro w hSw; obtain ⟨s0, s1, s2, s3⟩ := hSw; go_simp⟩) hHeld ?_
              simp only [tkS, Act.put]
              refine tkH 20 ((.int .i64 (k : Int))) rfl (Or.inl ⟨by rfl, by intro w hSw; obtain ⟨s0, s1, s2, s3⟩ := hSw; go_simp⟩) hHeld ?_
              simp only [tkS, Act.put]
              refine tkH 21 ((.pointer (some ⟨g, off + k * 3, none⟩))) rfl (Or.inl ⟨by rfl, by intro w hSw; obtain ⟨s0, s1, s2, s3⟩ := hSw; go_simp⟩) hHeld ?_
              simp only [tkS, Act.put]
              refine tkH 22 ((.pointer (some ⟨g, off + k * 3, none⟩))) rfl (Or.inl ⟨by rfl, by intro w hSw; obtain ⟨s0, s1, s2, s3⟩ := hSw; go_simp⟩) hHeld ?_
              simp only [tkS, Act.put]
              refine tkH 23 ((.pointer (some ⟨g, off + k * 3, none⟩))) rfl (Or.inl ⟨by rfl, by intro w hSw; obtain ⟨s0, s1, s2, s3⟩ := hSw; go_simp⟩) hHeld ?_
              simp only [tkS, Act.put]
              refine tkH 24 ((.int .i64 t)) rfl (Or.inl ⟨by rfl, by intro w hSw; obtain ⟨s0, s1, s2, s3⟩ := hSw; go_simp⟩) hHeld ?_
              simp only [tkS, Act.put]
              refine tkH 25 ((.bool true)) rfl (Or.inl ⟨by rfl, by intro w hSw; obtain ⟨s0, s1, s2, s3⟩ := hSw; go_simp⟩) hHeld ?_
              simp only [tkS, Act.put]
              refine tkH 26 ((.bool true)) rfl (Or.inl ⟨by rfl, by intro w hSw; obtain ⟨s0, s1, s2, s3⟩ := hSw; go_simp⟩) hHeld ?_
              simp only [tkS, Act.put]
              refine wpAnyH_done (by kernel_rfl) ?_ _
              have hq := HQQ.out _ hB9
              obtain ⟨q0, q1, q2⟩ := hq
              go_wp2_with fail
              refine (l03Insert_any W.heap.size _ u9 zs t (a : Int) s hlen (HO.out.on hB9) HV5.out).mono ?_
              rintro e w2 ⟨r2, rfl, ho2, hn2, hb2⟩
              have HN2 : Hid _ := hn2
              clear hn2
              go_wp2_with fail
              go_roundw
              case rel => exact ⟨k + 1, by omega, by go_num, by rw [HR.out]; exact ho2.mono (Nat.le_trans hz hB9.size), HN2.out, below_seq hB (below_seq hB9 hb2)⟩
              case measure => simp [intOf]; omega
        · obtain rfl : k = ms.length := by omega
          rw [List.take_length, ← HJ.out] at ho
          have hn : ¬ (ms.length : Int) < (ms.length : Int) := by omega
          go_wp2_with fail
          refine bodyPost_ret (v := u9) ?_ rfl ⟨_, rfl, ho.mono (by have := HZ.out; omega), HV5.out, hBw⟩
          simp [results, Tryz.results96, go_sem]

end Go.Proofs.YtfnlnigeaioocaaGreat
