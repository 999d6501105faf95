/- The walk of the law over both functions SetRemove: it answers true at every value. -/
import Derived.Deep.RegionHeld2
import Derived.Test.YtdkfeabpnikedaaQSetRemImpl
import Derived.Test.YtdkfeabpnikedaaQSetSV
import Derived.Test.YtdkfeabpnikedaaQFrame
namespace Go.Proofs.Ytdkfeabpnikedaa
open Go.RowKit
set_option linter.unusedVariables false

theorem dyOnSet {w w1 : World} {n : Nat} {x y : Value} (h : Hid (Dy w n x y)) (hb : Below w.heap.size w w1) : Hid (Dy w1 n x y) := Dy.on h.out hb
theorem svOnSet {w w1 : World} {B E : Nat} {u v : Value} {xs : List Int} {ls : List En} (h : Hid (Sv w B E u v xs ls)) (hb : Below w.heap.size w w1) : Hid (Sv w1 B E u v xs ls) := Sv.on h.out hb
theorem row_lenSet {w : World} {ao : Option Addr} {la ca : Nat} {za : List Int} (h : IsRow .i64 w ao la ca za) : la ≤ maxLen := by
  obtain ⟨⟨_, cap', e, h1, h2, _⟩, hla⟩ := h.rd
  simp only [Value.slice.injEq, List.length_map, hla] at e h1
  omega

set_option maxHeartbeats 20000000 in
set_option maxRecDepth 100000 in
theorem lawSetRemove_walk (ao : Option Addr) (la ca : Nat) (za : List Int) (ve : Value) (ls : List En) (s : ByteArray) (w : World) (hra : IsRow .i64 w ao la ca za) (he : RdE w.heap.size w ve ls) (hln : ls.length ≤ 9223372036854775807) (hss : ∀ k, (enAt ls k).2.2.size ≤ 9223372036854775807) (hs : s.size ≤ 9223372036854775807)
    (hlen : (remV (za.take la) ls s).length ≤ 1048576 ∧ (remE (za.take la) ls s).length ≤ 1048576) :
    Calls Try.prog 6 #[.agg #[.slice ao la ca, ve], .string s] w fun e w' => e = .returned (.bool true) ∧ Below w.heap.size w w' := by
  have hma := row_lenSet hra
  obtain ⟨ha, hla⟩ := hra.rd
  generalize za.take la = xs at ha hla hlen
  clear hra
  subst hla
  have hve := he
  obtain ⟨eo, ec, rfl, _⟩ := hve
  have hB := below_alloc w (.cells #[.slice ao xs.length ca, .slice eo ls.length ec] 41)
  have HC : Hid (Dy _ w.heap.size _ _) := Dy.made w (.slice ao xs.length ca) (.slice eo ls.length ec) 41
  have hP := fun C w v ve hC hv he => specSetRemove_sv C w v ve xs ls s hs hC hv he
  have hI := fun C w v ve hC hv he => implSetRemove_any C w v ve xs ls s hs hC hv he
  unfold SvAns at hP hI
  obtain ⟨l1, l2⟩ := hlen
  generalize remV xs ls s = us at hP hI l1
  generalize remE xs ls s = bs at hP hI l2
  generalize remC xs ls s = k at hP hI
  by_cases hbig : s.size ≤ 1048576
  · have hbg : ¬ (1048576 : Int) < (s.size : Int) := by omega
    clear hbig
    go_enter Try.func6, Try.ntmps6
    go_wp2_with fail
    refine (szSet_any w.heap.size _ ao xs.length ca _ ls hma hln hss hB.size (he.below hB)).mono ?_
    rintro e w1 ⟨⟨x, rfl, hx⟩, hb1⟩
    replace hB := below_seq hB hb1
    replace HC := dyOnSet HC hb1
    clear hb1
    by_cases h0 : x < 0
    · clear hx
      go_wp2_with fail
      go_ret
      exact ⟨rfl, hB⟩
    · obtain ⟨hlx, hly⟩ := hx (by omega)
      clear hx
      obtain ⟨⟨c0, c1⟩, _⟩ := HC.out
      go_wp2_with fail
      refine (toSet_sv w.heap.size w.heap.size _ _ _ xs ls hlx hly hB.size hB.size (ha.belowW hB (Nat.le_refl _)) (he.below hB)).mono ?_
      rintro e w2 ⟨a2, n2, k2, b2, m2, d2, rfl, S2, hb2⟩
      replace hB := below_seq hB hb2
      replace HC := dyOnSet HC hb2
      have z2 := hB.size
      clear c0 c1 hb2
      go_wp2_with fail
      refine (hP _ _ _ _ (Nat.le_refl _) S2.rd S2.rdE).mono ?_
      rintro e w3 ⟨u3, v3, rfl, S3, hb3⟩
      obtain ⟨a3, n3, k3, b3, m3, d3, rfl, rfl⟩ := S3.shape
      have z3 := hb3.size
      replace hB := below_then (below_seq hB hb3) (.cells #[.slice a3 n3 k3, .slice b3 m3 d3] 43)
      replace HC := dyOnSet (dyOnSet HC hb3) (below_alloc _ (.cells #[.slice a3 n3 k3, .slice b3 m3 d3] 43))
      have HP : Hid (Dy _ w3.heap.size _ _) := Dy.made w3 (.slice a3 n3 k3) (.slice b3 m3 d3) 43
      have H3 : Hid (Sv _ _ _ _ _ _ _) := S3.alloc (.cells #[.slice a3 n3 k3, .slice b3 m3 d3] 43)
      clear hb3 S2 S3 hP
      obtain ⟨⟨c0, c1⟩, _⟩ := HC.out
      go_wp2_with fail
      refine (toSet_sv w.heap.size w.heap.size _ _ _ xs ls hlx hly hB.size hB.size (ha.belowW hB (Nat.le_refl _)) (he.below hB)).mono ?_
      rintro e w4 ⟨a4, n4, k4, b4, m4, d4, rfl, S4, hb4⟩
      have z4 := hb4.size
      rw [World.size_alloc] at z4 S4
      replace hB := below_then (below_seq hB hb4) (.cells #[.slice a4 n4 k4, .slice b4 m4 d4] 43)
      replace HC := dyOnSet (dyOnSet HC hb4) (below_alloc _ (.cells #[.slice a4 n4 k4, .slice b4 m4 d4] 43))
      replace HP := dyOnSet (dyOnSet HP hb4) (below_alloc _ (.cells #[.slice a4 n4 k4, .slice b4 m4 d4] 43))
      have HX : Hid (Dy _ w4.heap.size _ _) := Dy.made w4 (.slice a4 n4 k4) (.slice b4 m4 d4) 43
      replace H3 := svOnSet (svOnSet H3 hb4) (below_alloc _ (.cells #[.slice a4 n4 k4, .slice b4 m4 d4] 43))
      have H4 : Hid (Sv _ _ _ _ _ _ _) := S4.alloc (.cells #[.slice a4 n4 k4, .slice b4 m4 d4] 43)
      clear hb4 c0 c1 S4
      go_wp2_with fail
      refine (hI _ _ _ _ (Nat.le_refl _) H4.out.rd H4.out.rdE).mono ?_
      rintro e w6 ⟨u6, v6, rfl, S6, hb6⟩
      obtain ⟨a6, n6, k6, b6, m6, d6, rfl, rfl⟩ := S6.shape
      have z6 := hb6.size
      rw [World.size_alloc] at z6 S6
      replace hB := below_then (below_seq hB hb6) (.cells #[.slice a6 n6 k6, .slice b6 m6 d6] 43)
      replace HC := dyOnSet (dyOnSet HC hb6) (below_alloc _ (.cells #[.slice a6 n6 k6, .slice b6 m6 d6] 43))
      replace HP := dyOnSet (dyOnSet HP hb6) (below_alloc _ (.cells #[.slice a6 n6 k6, .slice b6 m6 d6] 43))
      replace HX := dyOnSet (dyOnSet HX hb6) (below_alloc _ (.cells #[.slice a6 n6 k6, .slice b6 m6 d6] 43))
      have HG : Hid (Dy _ w6.heap.size _ _) := Dy.made w6 (.slice a6 n6 k6) (.slice b6 m6 d6) 43
      replace H3 := svOnSet (svOnSet H3 hb6) (below_alloc _ (.cells #[.slice a6 n6 k6, .slice b6 m6 d6] 43))
      replace H4 := svOnSet (svOnSet H4 hb6) (below_alloc _ (.cells #[.slice a6 n6 k6, .slice b6 m6 d6] 43))
      have H6 : Hid (Sv _ _ _ _ _ _ _) := S6.alloc (.cells #[.slice a6 n6 k6, .slice b6 m6 d6] 43)
      clear hb6 S6
      obtain ⟨⟨p0, p1⟩, _⟩ := HP.out
      go_wp2_with fail
      refine (eqSet_sv _ _ _ _ _ _ _ _ _ us bs (by omega) (by omega) H6.out H3.out).mono ?_
      rintro e w7 ⟨rfl, hb7⟩
      have z7 := hb7.size
      rw [World.size_alloc] at z7
      replace hB := (below_seq hB hb7).drew
      replace HC : Hid (Dy w7.drew _ _ _) := dyOnSet HC hb7.drew
      replace HP : Hid (Dy w7.drew _ _ _) := dyOnSet HP hb7.drew
      replace HX : Hid (Dy w7.drew _ _ _) := dyOnSet HX hb7.drew
      replace HG : Hid (Dy w7.drew _ _ _) := dyOnSet HG hb7.drew
      replace H3 : Hid (Sv w7.drew _ _ _ _ _ _) := svOnSet H3 hb7.drew
      replace H4 : Hid (Sv w7.drew _ _ _ _ _ _) := svOnSet H4 hb7.drew
      replace H6 : Hid (Sv w7.drew _ _ _ _ _ _) := svOnSet H6 hb7.drew
      clear hb7 p0 p1
      go_wp2_with fail
      go_region_held2 (fun w' => w'.cell? ⟨w.heap.size, 0, none⟩ = some (.slice ao xs.length ca) ∧ w'.cell? ⟨w.heap.size, 1, none⟩ = some (.slice eo ls.length ec) ∧ w'.cell? ⟨w4.heap.size, 0, none⟩ = some (.slice a4 n4 k4) ∧ w'.cell? ⟨w4.heap.size, 1, none⟩ = some (.slice b4 m4 d4)) (exact ⟨HC.out.1.1, HC.out.1.2, HX.out.1.1, HX.out.1.2⟩) (first | (go_at_call 19; refine (toSet_sv w.heap.size w.heap.size _ _ _ xs ls hlx hly hB.size hB.size (ha.belowW hB (Nat.le_refl _)) (he.below hB)).mono ?_; rintro e w8 ⟨a8, n8, k8, b8, m8, d8, rfl, S8, hb8⟩; have z8 := hb8.size; (try simp only [World.size_drew] at z8); replace hB := below_seq hB hb8; replace HC := dyOnSet HC hb8; replace HP := dyOnSet HP hb8; replace HX := dyOnSet HX hb8; replace HG := dyOnSet HG hb8; replace H3 := svOnSet H3 hb8; replace H4 := svOnSet H4 hb8; replace H6 := svOnSet H6 hb8; clear hb8) | (go_at_call 21; refine (eqSet_sv _ _ _ _ _ _ _ _ _ xs ls (by omega) (by omega) H4.out S8).mono ?_; rintro e w9 ⟨rfl, hb9⟩; have z9 := hb9.size; replace hB := below_seq hB hb9; replace HC := dyOnSet HC hb9; replace HP := dyOnSet HP hb9; replace HX := dyOnSet HX hb9; replace HG := dyOnSet HG hb9; replace H3 := svOnSet H3 hb9; replace H4 := svOnSet H4 hb9; replace H6 := svOnSet H6 hb9; clear hb9))
      clear S8
      have zz : w7.heap.size ≤ w8.heap.size := z8
      obtain ⟨⟨x0, x1⟩, _⟩ := HX.out
      go_wp2_with fail
      refine (markSet_sv (w3.heap.size + 1) w4.heap.size w9 a4 n4 k4 b4 m4 d4 xs ls (by omega) (by omega) hlx hly H4.out).mono ?_
      rintro e w10 ⟨rfl, _, hk10, hb10⟩
      have z10 := hk10.1
      replace hB : Below w.heap.size w w10 := hB.trans (hb10.mono (by omega))
      replace HC : Hid (Dy w10 w.heap.size _ _) := hk10.dy HC.out (by omega)
      replace HP : Hid (Dy w10 w3.heap.size _ _) := hk10.dy HP.out (by omega)
      replace HG : Hid (Dy w10 w6.heap.size _ _) := hk10.dy HG.out (by omega)
      replace H3 : Hid (Sv w10 _ _ _ _ _ _) := H3.out.away hk10 (by omega)
      replace H6 : Hid (Sv w10 _ _ _ _ _ _) := H6.out.away hk10 (by omega)
      have hn10 : ¬ ((1 + xs.length + 3 * ls.length : Nat) : Int) < 0 := by omega
      clear hb10 hk10 x0 x1 HX H4
      obtain ⟨⟨p0, p1⟩, _⟩ := HP.out
      obtain ⟨⟨g0, g1⟩, _⟩ := HG.out
      go_wp2_with fail
      refine (eqSet_sv _ _ _ _ _ _ _ _ _ us bs (by omega) (by omega) H6.out H3.out).mono ?_
      rintro e w11 ⟨rfl, hb11⟩
      have z11 := hb11.size
      replace hB := below_seq hB hb11
      replace HC := dyOnSet HC hb11
      replace HP := dyOnSet HP hb11
      replace HG := dyOnSet HG hb11
      replace H3 := svOnSet H3 hb11
      replace H6 := svOnSet H6 hb11
      clear hb11 p0 p1 g0 g1
      obtain ⟨⟨g0, g1⟩, _⟩ := HG.out
      go_wp2_with fail
      refine (markSet_sv (w4.heap.size + 1) w6.heap.size w11 a6 n6 k6 b6 m6 d6 us bs (by omega) (by omega) l1 l2 H6.out).mono ?_
      rintro e w12 ⟨rfl, S7, hk12, hb12⟩
      have z12 := hk12.1
      replace hB : Below w.heap.size w w12 := hB.trans (hb12.mono (by omega))
      replace HC : Hid (Dy w12 w.heap.size _ _) := hk12.dy HC.out (by omega)
      replace HP : Hid (Dy w12 w3.heap.size _ _) := hk12.dy HP.out (by omega)
      replace HG : Hid (Dy w12 w6.heap.size _ _) := hk12.dy HG.out (by omega)
      replace H3 : Hid (Sv w12 _ _ _ _ _ _) := H3.out.away hk12 (by omega)
      have H7 : Hid (Sv w12 _ _ _ _ _ _) := S7
      clear hb12 hk12 g0 g1 H6 S7
      obtain ⟨⟨g0, g1⟩, _⟩ := HG.out
      have hn12 : ¬ ((1 + us.length + 3 * bs.length : Nat) : Int) < 0 := by omega
      go_wp2_with fail
      refine (heldSet_sv _ _ w12 a6 n6 k6 b6 m6 d6 us.length bs.length l1 l2 H7.out).mono ?_
      rintro e w13 ⟨rfl, hb13⟩
      have z13 := hb13.size
      replace hB := below_seq hB hb13
      replace HC := dyOnSet HC hb13
      replace HP := dyOnSet HP hb13
      replace HG := dyOnSet HG hb13
      replace H3 := svOnSet H3 hb13
      replace H7 := svOnSet H7 hb13
      clear hb13 g0 g1
      obtain ⟨⟨c0, c1⟩, _⟩ := HC.out
      go_wp2_with fail
      refine (toSet_sv w.heap.size w.heap.size _ _ _ xs ls hlx hly hB.size hB.size (ha.belowW hB (Nat.le_refl _)) (he.below hB)).mono ?_
      rintro e w14 ⟨a14, n14, k14, b14, m14, d14, rfl, S14, hb14⟩
      replace hB := below_seq hB hb14
      replace HP := dyOnSet HP hb14
      replace HG := dyOnSet HG hb14
      replace H3 := svOnSet H3 hb14
      replace H7 := svOnSet H7 hb14
      clear hb14 c0 c1
      go_wp2_with fail
      refine (hI _ _ _ _ (Nat.le_refl _) S14.rd S14.rdE).mono ?_
      rintro e w15 ⟨u15, v15, rfl, S15, hb15⟩
      obtain ⟨a15, n15, k15, b15, m15, d15, rfl, rfl⟩ := S15.shape
      replace hB := below_then (below_seq hB hb15) (.cells #[.slice a15 n15 k15, .slice b15 m15 d15] 43)
      replace HP := dyOnSet (dyOnSet HP hb15) (below_alloc _ (.cells #[.slice a15 n15 k15, .slice b15 m15 d15] 43))
      replace HG := dyOnSet (dyOnSet HG hb15) (below_alloc _ (.cells #[.slice a15 n15 k15, .slice b15 m15 d15] 43))
      replace H3 := svOnSet (svOnSet H3 hb15) (below_alloc _ (.cells #[.slice a15 n15 k15, .slice b15 m15 d15] 43))
      replace H7 := svOnSet (svOnSet H7 hb15) (below_alloc _ (.cells #[.slice a15 n15 k15, .slice b15 m15 d15] 43))
      have H15 : Hid (Sv _ _ _ _ _ _ _) := S15.alloc (.cells #[.slice a15 n15 k15, .slice b15 m15 d15] 43)
      clear hb15 S14 S15
      obtain ⟨⟨p0, p1⟩, _⟩ := HP.out
      go_wp2_with fail
      refine (eqSet_sv _ _ _ _ _ _ _ _ _ us bs (by omega) (by omega) H15.out H3.out).mono ?_
      rintro e w16 ⟨rfl, hb16⟩
      replace hB := below_seq hB hb16
      replace HG := dyOnSet HG hb16
      replace H7 := svOnSet H7 hb16
      clear hb16 p0 p1 HP H3 H15
      obtain ⟨⟨g0, g1⟩, _⟩ := HG.out
      go_wp2_with fail
      refine (heldSet_sv _ _ w16 a6 n6 k6 b6 m6 d6 us.length bs.length l1 l2 H7.out).mono ?_
      rintro e w17 ⟨rfl, hb17⟩
      replace hB := below_seq hB hb17
      go_wp2_with fail
      go_ret
      exact ⟨rfl, hB⟩
  · have hbg : (1048576 : Int) < (s.size : Int) := by omega
    go_enter Try.func6, Try.ntmps6
    go_wp2_with fail
    go_ret
    exact ⟨rfl, hB⟩
end Go.Proofs.Ytdkfeabpnikedaa
