/- The walk of the law over the two functions ReadRecords: it answers true whatever bytes it is given. -/
import Derived.Test.YtcjlihfkibpgoaaGreatDoorQRsAs
import Derived.Test.YtcjlihfkibpgoaaGreatDoorQRecSpec
import Derived.Test.YtcjlihfkibpgoaaGreatDoorQHeldOpsToOpEq
import Derived.Test.YtcjlihfkibpgoaaGreatDoorQOpToToLawKit
import Derived.Test.YtcjlihfkibpgoaaGreatDoorQInfoToCopies
import Derived.Test.YtcjlihfkibpgoaaGreatDoorQFrame
namespace Go.Proofs.YtcjlihfkibpgoaaGreatDoor
open Go.RowKit Go.Lib
set_option linter.unusedVariables false

/-- An answer of operations, none or in a row, that may be written over. -/
def An (w : World) (B : Nat) (r : Value) (M : List Ov) : Prop :=
  (M = [] ∧ r = .slice none 0 0) ∨ ∃ g c G, r = .slice (some ⟨g, 0, none⟩) M.length c ∧ M.length ≤ c ∧ c ≤ maxLen ∧ As w B g G M
theorem Rs.an {w wr : World} {ra : Option Addr} {rc : Nat} {gs : List Nat} {L : List Ov} (h : Rs w wr (.slice ra L.length rc) gs L) : An wr w.heap.size (.slice ra L.length rc) L := by
  rcases h.addr with rfl | ⟨g, rfl⟩
  · obtain ⟨h1, h2⟩ := h.none
    subst h1 h2
    exact .inl ⟨rfl, rfl⟩
  · obtain ⟨_, _, _, h4, h5⟩ := Rs.rth h.row
    exact .inr ⟨g, rc, _, rfl, h4, h5, h.as⟩
theorem An.on {w w' : World} {B : Nat} {r : Value} {M : List Ov} (h : An w B r M) (hs : w.heap.size ≤ w'.heap.size) (hb : ∀ b, B ≤ b → b < w.heap.size → w'.heap[b]? = w.heap[b]?) : An w' B r M := by
  rcases h with h | ⟨g, c, G, e, h1, h2, hA⟩
  · exact .inl h
  · exact .inr ⟨g, c, G, e, h1, h2, hA.on hs hb⟩
theorem An.below {w w' : World} {B : Nat} {r : Value} {M : List Ov} (h : An w B r M) (hb : Below w.heap.size w w') : An w' B r M := h.on hb.size fun b _ hl => hb.block b hl
theorem An.rd {w : World} {B : Nat} {r : Value} {M : List Ov} (h : An w B r M) : RdO w.heap.size w r M := by
  rcases h with ⟨rfl, rfl⟩ | ⟨g, c, G, rfl, h1, h2, hA⟩
  · exact owns_rdO (B := 0) ⟨by simp [rowCs], .inl ⟨rfl, rfl⟩⟩ (fun x hx => by simp at hx)
  · exact hA.rd h1 h2
theorem An.ds {w : World} {B : Nat} {r : Value} {M : List Ov} (h : An w B r M) : ∀ x ∈ M, x.ds.length ≤ 1048576 := fun x hx => by
  rcases h with ⟨rfl, rfl⟩ | ⟨g, c, G, rfl, h1, h2, hA⟩
  · simp at hx
  · obtain ⟨i, hi, e⟩ := List.getElem_of_mem hx
    have hx : x = ovAt M i := by have := ovAt_get hi; rw [List.getElem?_eq_getElem hi, e] at this; exact Option.some.inj this
    rw [hx, hA.len i hi]; omega
theorem An.mark {w : World} {B : Nat} {r : Value} {M : List Ov} (h : An w B r M) (hn : M.length ≤ 1048576) :
    Calls Tryz.prog 10 #[r, .int .i64 1] w fun e w' => e = .returned (.int .i64 ((1 + 27 * M.length : Nat) : Int)) ∧ An w' B r (mkL 1 M M.length) ∧ Below B w w' := by
  rcases h with ⟨rfl, rfl⟩ | ⟨g, c, G, rfl, h1, h2, hA⟩
  · refine (markOp0 w 1).mono ?_
    rintro e w' ⟨rfl, rfl⟩
    exact ⟨rfl, .inl ⟨rfl, rfl⟩, Below.refl _ _⟩
  · refine (markOpS_as w B g c 1 G M hn (by omega) hA).mono ?_
    rintro e w' ⟨rfl, hA', hb, _⟩
    exact ⟨rfl, .inr ⟨g, c, G, by rw [mkL_len], by rw [mkL_len]; exact h1, h2, hA'⟩, hb⟩
theorem An.held {w : World} {B : Nat} {r : Value} {M : List Ov} (h : An w B r (mkL 1 M M.length)) (hn : M.length ≤ 1048576) :
    Calls Tryz.prog 11 #[r, .int .i64 1] w fun e w' => e = .returned (.int .i64 ((1 + 27 * M.length : Nat) : Int)) ∧ Below w.heap.size w w' := by
  have := heldOpS_same w.heap.size w r (mkL 1 M M.length) 1 (by rw [mkL_len]; exact hn) (by omega) (Nat.le_refl _) h.rd (mkL_same 1 M)
  rw [mkL_len] at this
  exact this
/-- What the law holds while it walks: the specification's answer, the code's answer. -/
structure Kr (w wc wX : World) (B : Nat) (r0 : Value) (M0 : List Ov) (r1 : Value) (M : List Ov) : Prop where
  bel : Below w.heap.size w wX
  rd0 : RdO wc.heap.size wX r0 M0
  wcs : wc.heap.size ≤ wX.heap.size
  an : An wX B r1 M
theorem Kr.below {w wc wX w' : World} {B : Nat} {r0 : Value} {M0 : List Ov} {r1 : Value} {M : List Ov} (h : Kr w wc wX B r0 M0 r1 M) (hb : Below wX.heap.size wX w') : Kr w wc w' B r0 M0 r1 M :=
  ⟨below_seq h.bel hb, h.rd0.below (hb.mono h.wcs), by have := hb.size; have := h.wcs; omega, h.an.below hb⟩

set_option maxHeartbeats 8000000 in
set_option maxRecDepth 100000 in
theorem lawReadRecords_walk (a0 : Option Addr) (len0 cap0 : Nat) (z0 : List Int) (w : World) (a : Addr) (h0 : IsRow .u8 w a0 len0 cap0 z0) (hw0 : 0 < w.heap.size) (hgl : w.cell? ⟨0, 0, none⟩ = some (.iface 133 (.pointer (some a)))) :
    Calls Tryz.prog 3 #[.slice a0 len0 cap0] w fun e w' => e = .returned (.bool true) ∧ Below w.heap.size w w' := by
  obtain ⟨hr, hlen⟩ := h0.rd
  have hx : Bytes (z0.take len0) := h0.bytes
  have hmx : len0 ≤ maxLen := by rcases h0 with ⟨_, rfl, _⟩ | ⟨_, _, h1, h2, _⟩ <;> omega
  clear h0
  unfold maxLen at hmx
  generalize z0.take len0 = xs at hr hlen hx
  subst hlen
  by_cases hl : (1048576 : Int) < (xs.length : Int)
  · go_enter Tryz.func3, Tryz.ntmps3
    go_wp2_with fail
    go_ret
    exact ⟨rfl, Below.refl _ _⟩
  · have hl' : xs.length ≤ 1048576 := by omega
    have hyl : (recs xs 0).1.length ≤ 1048576 := by have := recs_len hx xs.length 0 (by omega) (by omega); omega
    have hSp := fun w' t (h : Rd w'.heap.size w' t (xs.map (Value.int .u8))) => specReadRecords_any w'.heap.size w' t xs hx hl' (Nat.le_refl _) h
    have hIm := fun w' t (hb : Below w.heap.size w w') (h : Rd w'.heap.size w' t (xs.map (Value.int .u8))) => implReadRecords_any w'.heap.size w' t xs a hx hl' (Nat.le_refl _) h (by have := hb.size; omega) ((hb.cell (p := ⟨0, 0, none⟩) hw0).trans hgl)
    generalize (recs xs 0).1 = A at hyl hSp hIm
    generalize (((recs xs 0).2 : Nat) : Int) = U at hSp hIm
    go_enter Tryz.func3, Tryz.ntmps3
    go_wp2_with fail
    refine (toByteS_any _ w _ xs hl' (Nat.le_refl _) hr).mono ?_
    rintro e w1 ⟨t1, rfl, ho1, hb1⟩
    go_wp2_with fail
    refine (hSp w1 t1 ho1.rd).mono ?_
    rintro e w2 ⟨ra0, rc0, M0, rfl, hs0, hq0⟩
    have hB2 := below_seq hb1 hq0.below
    have hR2 := hq0.rd
    have s2 := hB2.size
    clear hSp ho1 hb1 hq0
    go_wp2_with fail
    refine (toByteS_any _ _ _ xs hl' hB2.size (hr.below hB2)).mono ?_
    rintro e w3 ⟨x0, rfl, hox, hb3⟩
    have hB3 := below_seq hB2 hb3
    have hR3 := hR2.below hb3
    have s3 := hb3.size
    have hnv : ∀ k, x0.ownBlock = some k → w2.heap.size ≤ k ∧ k < w3.heap.size := fun k hk => World.ownsRow.lt hox k hk
    clear hb3 hR2
    go_wp2_with fail
    refine (hIm w3 x0 hB3 hox.rd).mono ?_
    rintro e w4 ⟨ra1, rc1, gs1, L, rfl, hs1, hRs⟩
    have hb4 := hRs.below
    have K4 : Kr w w2 w4 w3.heap.size (.slice ra0 M0.length rc0) M0 (.slice ra1 L.length rc1) L := ⟨below_seq hB3 hb4, hR3.below (hb4.mono s3), by have := hb4.size; omega, hRs.an⟩
    have hx4 := hox.below hb4 (Nat.le_refl _)
    have s4 := hb4.size
    have hll : L.length ≤ 1048576 := by rw [hs1.1]; exact hyl
    have hS01 := sameL_two hs1 hs0
    generalize (Value.slice ra0 M0.length rc0) = r0 at *
    generalize (Value.slice ra1 L.length rc1) = r1 at *
    clear hRs hb4 hR3 hox
    go_wp2_with fail
    refine (eqOpS_same _ _ w4 _ _ L M0 hll K4.an.ds (Nat.le_refl _) K4.wcs K4.an.rd K4.rd0 hS01).mono ?_
    rintro e w5 ⟨rfl, hb5⟩
    have K5 := K4.below hb5
    have hx5 := hx4.below hb5 (Nat.le_refl _)
    have s5 := hb5.size
    clear K4 hx4 hb5
    go_wp2_with fail
    refine (toByteS_any _ _ _ xs hl' K5.bel.size (hr.below K5.bel)).mono ?_
    rintro e w6 ⟨t6, rfl, ho6, hb6⟩
    have K6 := K5.below hb6
    have s6 := hb6.size
    have hx6 := hx5.below hb6 (Nat.le_refl _)
    clear K5 hx5 hb6
    go_wp2_with fail
    refine (eqByteS_same _ _ w6 x0 t6 xs (by omega) hx6.rd ho6.rd).mono ?_
    rintro e w7 ⟨rfl, n7, rfl⟩
    have K7 := K6.below (below_drewN (Below.refl w6.heap.size w6) n7)
    have s7 : w5.heap.size ≤ (w6.drewN n7).heap.size := s6
    replace hx6 : Own 5 (w6.drewN n7) _ _ _ := hx6
    clear ho6 s6 K6
    generalize w6.drewN n7 = w7 at *
    go_wp2_with fail
    refine (markByteS_any w2.heap.size w7 x0 _ 1 (by simp; omega) (by omega) hx6).mono ?_
    rintro e w8 ⟨rfl, _, hb8, hg8⟩
    rw [List.length_map]
    have s8 := hb8.size
    have K8 : Kr w w2 w8 w3.heap.size r0 M0 r1 L := ⟨K7.bel.trans (hb8.mono s2), K7.rd0.below hb8, by have := K7.wcs; omega, K7.an.on s8 (fun b hb hl => hg8.block b hl (fun h => by have := (hnv _ h.symm).2; omega))⟩
    have hnk : ¬ ((1 + xs.length : Nat) : Int) < 0 := by omega
    clear K7 hx6 hb8 hg8
    go_wp2_with fail
    refine (eqOpS_same _ _ w8 _ _ L M0 hll K8.an.ds (Nat.le_refl _) K8.wcs K8.an.rd K8.rd0 hS01).mono ?_
    rintro e w9 ⟨rfl, hb9⟩
    have K9 := K8.below hb9
    have s9 := hb9.size
    clear K8 hb9
    go_wp2_with fail
    refine (K9.an.mark hll).mono ?_
    rintro e w10 ⟨rfl, hA10, hb10⟩
    have s10 := hb10.size
    have K10 : Kr w w2 w10 w3.heap.size r0 M0 r1 (mkL 1 L L.length) := ⟨K9.bel.trans (hb10.mono (by omega)), K9.rd0.below (hb10.mono s3), by have := K9.wcs; omega, hA10⟩
    clear K9 hA10 hb10
    go_wp2_with fail
    refine (K10.an.held hll).mono ?_
    rintro e w11 ⟨rfl, hb11⟩
    have K11 := K10.below hb11
    have s11 := hb11.size
    have hnq : ¬ ((1 + 27 * L.length : Nat) : Int) < 0 := by omega
    clear K10 hb11
    go_wp2_with fail
    refine (toByteS_any _ _ _ xs hl' K11.bel.size (hr.below K11.bel)).mono ?_
    rintro e w12 ⟨t12, rfl, ho12, hb12⟩
    have K12 := K11.below hb12
    have s12 := hb12.size
    clear K11 hb12
    go_wp2_with fail
    refine (hIm w12 t12 K12.bel ho12.rd).mono ?_
    rintro e w13 ⟨ra2, rc2, gs2, L2, rfl, hs2, hRs2⟩
    have hb13 := hRs2.below
    have K13 := K12.below hb13
    have hA2 := hRs2.an
    have hll2 : L2.length ≤ 1048576 := by rw [hs2.1]; exact hyl
    generalize (Value.slice ra2 L2.length rc2) = r2 at *
    clear K12 hRs2 hIm ho12
    go_wp2_with fail
    refine (eqOpS_same _ _ w13 _ _ L2 M0 hll2 hA2.ds (Nat.le_refl _) K13.wcs hA2.rd K13.rd0 (sameL_two hs2 hs0)).mono ?_
    rintro e w14 ⟨rfl, hb14⟩
    have K14 := K13.below hb14
    clear K13 hA2 hb14
    go_wp2_with fail
    refine (K14.an.held hll).mono ?_
    rintro e w15 ⟨rfl, hb15⟩
    have K15 := K14.below hb15
    go_wp2_with fail
    go_ret
    exact ⟨rfl, K15.bel⟩
end Go.Proofs.YtcjlihfkibpgoaaGreatDoor
