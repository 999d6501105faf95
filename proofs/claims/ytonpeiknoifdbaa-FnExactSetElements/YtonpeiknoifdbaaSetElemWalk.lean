/- The walk of the law over both functions SetElements: it answers true at every set. -/
import Derived.Test.YtonpeiknoifdbaaSetElemSpec
import Derived.Test.YtonpeiknoifdbaaSetLaws
import Derived.Test.YtonpeiknoifdbaaTextsCells
import Derived.Test.YtonpeiknoifdbaaFrame
import Derived.Deep.RegionHeld2
namespace Go.Proofs.Ytonpeiknoifdbaa
open Go.RowKit Go.Sort
set_option linter.unusedVariables false

def elemsT (xs : List Int) (ls : List En) : List ByteArray := (elemsB xs ls).map fun l => ⟨l.toArray⟩
theorem elemsT_cells (xs : List Int) (ls : List En) : (elemsT xs ls).map Value.string = (elemsB xs ls).map encStr := by
  unfold elemsT
  rw [List.map_map]
  rfl
theorem elemsT_len (xs : List Int) (ls : List En) : (elemsT xs ls).length ≤ ls.length := by
  unfold elemsT
  rw [List.length_map, elemsB_ins]
  split
  · have := insAll_len (textsE ls)
    rwa [textsE_len] at this
  · simp
theorem row_lenS {w : World} {ao : Option Addr} {la ca : Nat} {za : List Int} (h : IsRow .i64 w ao la ca za) : la ≤ maxLen := by
  obtain ⟨⟨_, cap', e, h1, h2, _⟩, hla⟩ := h.rd
  simp only [Value.slice.injEq, List.length_map, hla] at e h1
  omega
theorem Own.same {e : TypeId} {w w' : World} {B : Nat} {v : Value} {cs : List Value} (h : Own e w B v cs) (hs : ∀ k, v.ownBlock = Option.some k → w'.heap[k]? = w.heap[k]?) : Own e w' B v cs := by
  obtain ⟨h1, h2⟩ := h
  refine ⟨h1, ?_⟩
  rcases h2 with h2 | ⟨g, cap, cur, hv, hb, hh, r⟩
  · exact .inl h2
  · exact .inr ⟨g, cap, cur, hv, hb, by rw [hs g (by rw [hv]; rfl)]; exact hh, r⟩

set_option maxHeartbeats 4000000 in
set_option maxRecDepth 100000 in
theorem lawSetElements_walk (ao : Option Addr) (la ca : Nat) (za : List Int) (ve : Value) (ls : List En) (w : World) (hra : IsRow .i64 w ao la ca za) (he : RdE w.heap.size w ve ls) (hln : ls.length ≤ 9223372036854775807) (hss : ∀ k, (enAt ls k).2.2.size ≤ 9223372036854775807) :
    Calls Try.prog 8 #[.agg #[.slice ao la ca, ve]] w fun e w' => e = .returned (.bool true) ∧ Below w.heap.size w w' := by
  have hma := row_lenS hra
  obtain ⟨ha, hla⟩ := hra.rd
  generalize za.take la = xs at ha hla
  clear hra
  subst hla
  have hve := he
  obtain ⟨eo, ec, rfl, _⟩ := hve
  have hB := Below.refl (w.alloc (.cells #[.slice ao xs.length ca, .slice eo ls.length ec] 67)).heap.size (w.alloc (.cells #[.slice ao xs.length ca, .slice eo ls.length ec] 67))
  have hA0 := below_alloc w (.cells #[.slice ao xs.length ca, .slice eo ls.length ec] 67)
  have HT := elemsT_cells xs ls
  have htl := elemsT_len xs ls
  have hspec := fun C w v ve hC hv he => specSetElements_any C w v ve xs ls hC hv he
  have himpl := fun C w v ve hC hv he => implSetElements_any C w v ve xs ls hC hv he
  rw [← HT] at hspec himpl
  clear HT
  generalize elemsT xs ls = T at hspec himpl htl
  generalize elemsC xs ls = K at hspec himpl
  go_enter Try.func8, Try.ntmps8
  go_wp2_with fail
  refine (szSet_any w.heap.size _ ao xs.length ca _ ls hma hln hss hA0.size (he.below (hA0.mono (Nat.le_refl _)))).mono ?_
  rintro e w1 ⟨⟨x, rfl, hx⟩, hb1⟩
  replace hB := below_seq hB hb1
  clear hb1
  by_cases h0 : x < 0
  · clear hx
    go_wp2_with fail
    go_ret
    exact ⟨rfl, below_seq (below_alloc _ _) hB⟩
  · obtain ⟨hlx, hly⟩ := hx (by omega)
    clear hx
    obtain ⟨c0, c1⟩ := two_cells hB
    have hBw := below_seq (below_alloc _ _) hB
    go_wp2_with fail
    refine (toSet_any w.heap.size w.heap.size _ _ _ xs ls hlx hly hBw.size hBw.size (ha.belowW hBw (Nat.le_refl _)) (he.below hBw)).mono ?_
    rintro e w2 ⟨a2, k2, g2, rfl, ho2, hR2, _, hb2⟩
    replace hB := below_seq hB hb2
    clear c0 c1 hBw hb2
    go_wp2_with fail
    refine (hspec _ _ _ _ (Nat.le_refl _) ho2.rd hR2.rd).mono ?_
    rintro e w3 ⟨r0, rfl, hr0, hb3⟩
    replace hB := below_seq hB hb3
    have rd0 := hr0.rd
    have hz03 := hB.size
    clear hb3 ho2 hR2 hr0
    obtain ⟨c0, c1⟩ := two_cells hB
    have hBw := below_seq (below_alloc _ _) hB
    go_wp2_with fail
    refine (toSet_any w.heap.size w.heap.size _ _ _ xs ls hlx hly hBw.size hBw.size (ha.belowW hBw (Nat.le_refl _)) (he.below hBw)).mono ?_
    rintro e w4 ⟨a4, k4, g4, rfl, ho4, hR4, hap, hb4⟩
    have rd4 := rd0.belowW hb4 (Nat.le_refl _)
    have hz34 := hb4.size
    have hg4 := hR4.lt
    have hblk4 := ho4.blk
    replace hB := below_seq (below_seq hB hb4) (below_alloc _ (.cells #[.slice a4 xs.length k4, .slice (some ⟨g4, 0, none⟩) ls.length ls.length] 74))
    have HX : Hid (Dy _ w4.heap.size _ _) := Dy.made w4 (.slice a4 xs.length k4) (.slice (some ⟨g4, 0, none⟩) ls.length ls.length) 74
    have ho5 : Own 3 (w4.alloc (.cells #[.slice a4 xs.length k4, .slice (some ⟨g4, 0, none⟩) ls.length ls.length] 74)) _ _ _ := World.ownsRow.alloc ho4 _
    have hR5 := hR4.on (below_alloc w4 (.cells #[.slice a4 xs.length k4, .slice (some ⟨g4, 0, none⟩) ls.length ls.length] 74))
    have rd5 := rd4.alloc (.cells #[.slice a4 xs.length k4, .slice (some ⟨g4, 0, none⟩) ls.length ls.length] 74) hz34
    have hz45 : w4.heap.size + 1 = (w4.alloc (.cells #[.slice a4 xs.length k4, .slice (some ⟨g4, 0, none⟩) ls.length ls.length] 74)).heap.size := by rw [World.size_alloc]
    clear c0 c1 hBw hb4 ho4 hR4 rd0 rd4
    go_wp2_with fail
    refine (himpl _ _ _ _ (Nat.le_refl _) ho5.rd hR5.rd).mono ?_
    rintro e w6 ⟨r1, rfl, hr1, hb6⟩
    replace hB := below_seq hB hb6
    replace HX : Hid (Dy w6 w4.heap.size _ _) := HX.out.on hb6
    have ho6 := ho5.below hb6 (Nat.le_refl _)
    have hR6 := hR5.on hb6
    have rd6 := rd5.belowW hb6 (by omega)
    have hz6 := hb6.size
    rw [← hz45] at hr1 hz6
    clear hb6 ho5 hR5 rd5 hz45
    go_wp2_with fail
    refine (eqStringS_same _ _ w6 r1 r0 T (by omega) hr1.rd rd6).mono ?_
    rintro e w7 ⟨rfl, n7, rfl⟩
    replace hB := (below_drewN hB n7).drew
    replace HX : Hid (Dy (w6.drewN n7).drew w4.heap.size _ _) := HX
    replace ho6 : Own 3 (w6.drewN n7).drew _ _ _ := ho6
    replace hR6 : RowE (w6.drewN n7).drew _ _ _ _ _ := hR6
    replace rd6 : Rd w3.heap.size (w6.drewN n7).drew _ _ := rd6
    replace hr1 : Own 9 (w6.drewN n7).drew _ _ _ := hr1
    replace hz6 : w4.heap.size + 1 ≤ (w6.drewN n7).drew.heap.size := hz6
    go_wp2_with fail
    go_region_held2 (fun w' => w'.cell? ⟨w.heap.size, 0, none⟩ = some (.slice ao xs.length ca) ∧ w'.cell? ⟨w.heap.size, 1, none⟩ = some (.slice eo ls.length ec) ∧ w'.cell? ⟨w4.heap.size, 0, none⟩ = some (.slice a4 xs.length k4) ∧ w'.cell? ⟨w4.heap.size, 1, none⟩ = some (.slice (some ⟨g4, 0, none⟩) ls.length ls.length)) (exact ⟨(two_cells hB).1, (two_cells hB).2, HX.out.1.1, HX.out.1.2⟩) (first | (go_at_call 36; have hBw := below_seq (below_alloc _ _) hB; refine (toSet_any w.heap.size w.heap.size _ _ _ xs ls hlx hly hBw.size hBw.size (ha.belowW hBw (Nat.le_refl _)) (he.below hBw)).mono ?_; rintro e w8 ⟨a8, k8, g8, rfl, ho8, hR8, _, hb8⟩; replace hB := below_seq hB hb8; replace HX : Hid (Dy w8 w4.heap.size (.slice a4 xs.length k4) (.slice (some ⟨g4, 0, none⟩) ls.length ls.length)) := HX.out.on hb8; replace ho6 := ho6.below hb8 (Nat.le_refl _); replace hR6 := hR6.on hb8; replace rd6 := rd6.belowW hb8 (by omega); replace hr1 := hr1.below hb8 (Nat.le_refl _); replace hz6 := Nat.le_trans hz6 hb8.size; clear hBw hb8) | (go_at_call 39; refine (eqSet_same _ _ _ _ _ _ _ _ _ xs ls (by omega) (by omega) (Nat.le_refl _) (Nat.le_refl _) (Nat.le_refl _) (Nat.le_refl _) ho6.rd hR6.rd ho8.rd hR8.rd).mono ?_; rintro e w9 ⟨rfl, hb9⟩; replace hB := below_seq hB hb9; replace HX : Hid (Dy w9 w4.heap.size (.slice a4 xs.length k4) (.slice (some ⟨g4, 0, none⟩) ls.length ls.length)) := HX.out.on hb9; replace ho6 := ho6.below hb9 (Nat.le_refl _); replace hR6 := hR6.on hb9; replace rd6 := rd6.belowW hb9 (by omega); replace hr1 := hr1.below hb9 (Nat.le_refl _); replace hz6 := Nat.le_trans hz6 hb9.size; clear hb9))
    obtain ⟨x0, x1⟩ := HX.out.1
    go_wp2_with fail
    have hzw : w9.heap.size = w9.heap.size := rfl
    refine (markSet_any w3.heap.size _ w9 a4 xs.length k4 g4 ls.length _ ls (by omega) (by simp; omega) hly ho6 hR6 hap).mono ?_
    rintro e w10 ⟨⟨x10, rfl, hx10⟩, hkeep, hz10, hbel⟩
    have hb10 := hbel w3.heap.size (Nat.le_refl _) hg4.1 (by omega)
    have hr10 : Own 9 w10 (w4.heap.size + 1) r1 (T.map Value.string) := hr1.same (fun k hk => hkeep k (hr1.blk k hk) (fun e => by have h1 := hr1.lt k hk; have h2 := hblk4 k e; omega) (by have h1 := hr1.lt k hk; omega))
    have rd10 : Rd w3.heap.size w10 r0 (T.map Value.string) := rd6.below hb10
    replace hB := hB.trans (hb10.mono hz03)
    have hx10' : ¬ x10 < 0 := by omega
    have hB0 := below_seq (below_alloc _ _) hB
    clear hkeep hbel hb10 ho6 hR6 rd6 hr1 HX x0 x1 ho8 hR8 hzw
    go_wp2_with fail
    refine (eqStringS_same _ _ w10 r1 r0 T (by omega) hr10.rd rd10).mono ?_
    rintro e w11 ⟨rfl, n11, rfl⟩
    go_wp2_with fail
    refine (markStringS_any (w4.heap.size + 1) (w10.drewN n11) r1 _ 1 (by simp; omega) (by omega) (by show w4.heap.size + 1 ≤ w10.heap.size; omega) hr10).mono ?_
    rintro e w12 ⟨rfl, ho12, hb12, _⟩
    rw [List.length_map] at ho12 ⊢
    have hz12 : w10.heap.size ≤ w12.heap.size := hb12.size
    replace hB := (below_drewN hB n11).trans (hb12.mono (by omega))
    have rd12 : Rd w3.heap.size w12 r0 _ := (rd10.drewN n11).below (hb12.mono (by omega))
    clear hb12 rd10 hr10 hB0
    go_wp2_with fail
    refine (heldStringS_same _ w12 r1 1 T.length (by omega) (by omega) (Nat.le_refl _) ho12.rd).mono ?_
    rintro e w13 ⟨rfl, hb13⟩
    have hz13 := hb13.size
    replace hB := below_seq hB hb13
    have rd13 := rd12.belowW hb13 (by omega)
    have ho13 := ho12.below hb13 (Nat.le_refl _)
    clear hb13 rd12 ho12
    obtain ⟨c0, c1⟩ := two_cells hB
    have hBw := below_seq (below_alloc _ _) hB
    go_wp2_with fail
    refine (toSet_any w.heap.size w.heap.size _ _ _ xs ls hlx hly hBw.size hBw.size (ha.belowW hBw (Nat.le_refl _)) (he.below hBw)).mono ?_
    rintro e w14 ⟨a14, k14, g14, rfl, ho14, hR14, _, hb14⟩
    have hz14 := hb14.size
    replace hB := below_seq hB hb14
    have rd14 := rd13.belowW hb14 (by omega)
    have ho14b := ho13.below hb14 (Nat.le_refl _)
    clear c0 c1 hBw hb14 rd13 ho13
    go_wp2_with fail
    refine (himpl _ _ _ _ (Nat.le_refl _) ho14.rd hR14.rd).mono ?_
    rintro e w15 ⟨r2, rfl, hr2, hb15⟩
    have hz15 := hb15.size
    replace hB := below_seq hB hb15
    have rd15 := rd14.belowW hb15 (by omega)
    have ho15 := ho14b.below hb15 (Nat.le_refl _)
    clear hb15 rd14 ho14b ho14 hR14
    go_wp2_with fail
    refine (eqStringS_same _ _ w15 r2 r0 T (by omega) hr2.rd rd15).mono ?_
    rintro e w16 ⟨rfl, n16, rfl⟩
    go_wp2_with fail
    refine (heldStringS_same _ (w15.drewN n16) r1 1 T.length (by omega) (by omega) (Nat.le_refl _) ho15.rd).mono ?_
    rintro e w17 ⟨rfl, hb17⟩
    replace hB := below_seq (below_drewN hB n16) hb17
    go_wp2_with fail
    go_ret
    exact ⟨rfl, below_seq (below_alloc _ _) hB⟩

end Go.Proofs.Ytonpeiknoifdbaa
