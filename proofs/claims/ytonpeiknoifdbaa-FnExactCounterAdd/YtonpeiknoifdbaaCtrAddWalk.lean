/- The walk of the law over both functions CounterAdd: it answers true at every counter, actor and number. -/
import Derived.Test.YtonpeiknoifdbaaCtrAddIn
import Derived.Test.YtonpeiknoifdbaaCtrAddSpec
import Derived.Test.YtonpeiknoifdbaaCtrMarks
import Derived.Test.YtonpeiknoifdbaaCtrValWalk
namespace Go.Proofs.Ytonpeiknoifdbaa
open Go.RowKit
set_option linter.unusedVariables false

set_option maxHeartbeats 20000000 in
set_option maxRecDepth 100000 in
theorem lawCounterAdd_walk (ao : Option Addr) (la ca : Nat) (za : List Int) (bo : Option Addr) (lb cb : Nat) (zb : List Int) (c n : Int) (w : World) (hra : IsRow .i64 w ao la ca za) (hrb : IsRow .i64 w bo lb cb zb) :
    Calls Try.prog 6 #[.agg #[.slice ao la ca, .slice bo lb cb], .int .i64 c, .int .i64 n] w fun e w' => e = .returned (.bool true) ∧ Below w.heap.size w w' := by
  have hma := row_len hra
  have hmb := row_len hrb
  obtain ⟨ha, hla⟩ := hra.rd
  obtain ⟨hb, hlb⟩ := hrb.rd
  generalize za.take la = xs at ha hla
  generalize zb.take lb = ys at hb hlb
  clear hra hrb
  subst hla hlb
  have hsz := fun w' => szCounter_any ao xs.length ca bo ys.length cb 1048576 (by omega) hma hmb w'
  have hB := below_alloc w (.cells #[.slice ao xs.length ca, .slice bo ys.length cb] 50)
  have HC : Hid (Dy _ w.heap.size _ _) := Dy.made w (.slice ao xs.length ca) (.slice bo ys.length cb) 50
  by_cases h : xs.length + ys.length ≤ 1048576
  · rw [left2_yes h] at hsz
    have h1 : ¬ ((1048576 - xs.length - ys.length : Nat) : Int) < 0 := by omega
    have hlx : xs.length ≤ 1048576 := by omega
    have hly : ys.length ≤ 1048576 := by omega
    have hP := fun C D w va vb h1 h2 h3 h4 => specCounterAdd_any C D w va vb xs ys c n h1 h2 h3 h4
    have hI := fun C D w va vb h1 h2 h3 h4 => implCounterAdd_any C D w va vb xs ys c n h1 h2 h3 h4
    unfold AddAns at hP hI
    have hAB := addAB_len xs ys c n
    generalize addA xs ys c n = us at hP hI hAB
    generalize addB xs ys c n = bs at hP hI hAB
    generalize addC xs ys c n = k at hP hI
    obtain ⟨l1, l2⟩ := hAB
    go_enter Try.func6, Try.ntmps6
    go_wp2_with fail
    refine (hsz _).mono ?_
    rintro e w1 ⟨rfl, hb1⟩
    replace hB := below_seq hB hb1
    replace HC : Hid (Dy w1 w.heap.size _ _) := HC.out.on hb1
    clear hsz hb1
    obtain ⟨⟨c0, c1⟩, _⟩ := HC.out
    go_wp2_with fail
    refine (toCounter_any w.heap.size w.heap.size _ _ _ xs ys hlx hly hB.size hB.size (ha.belowW hB (Nat.le_refl _)) (hb.belowW hB (Nat.le_refl _))).mono ?_
    rintro e w2 ⟨a2, k2, b2, m2, rfl, ho2, hp2, hb2⟩
    replace hB := below_seq hB hb2
    replace HC : Hid (Dy w2 w.heap.size _ _) := HC.out.on hb2
    clear c0 c1 hb2
    go_wp2_with fail
    refine (hP _ _ _ _ _ (Nat.le_refl _) (Nat.le_refl _) ho2.rd hp2.rd).mono ?_
    rintro e w3 ⟨a3, n3, k3, b3, m3, j3, T3, rfl, ho3, hp3, _, hb3⟩
    have z23 := hb3.size
    have z2 := hB.size
    have v3 := ho3.blk
    have x3 := hp3.blk
    replace hB := below_then (below_seq hB hb3) (.cells #[.slice a3 n3 k3, .slice b3 m3 j3] 55)
    replace HC : Hid (Dy (w3.alloc (.cells #[.slice a3 n3 k3, .slice b3 m3 j3] 55)) w.heap.size _ _) := (HC.out.on hb3).on (below_alloc _ _)
    have HP : Hid (Dy _ w3.heap.size _ _) := Dy.made w3 (.slice a3 n3 k3) (.slice b3 m3 j3) 55
    replace ho3 := ownA ho3 (.cells #[.slice a3 n3 k3, .slice b3 m3 j3] 55)
    replace hp3 := ownA hp3 (.cells #[.slice a3 n3 k3, .slice b3 m3 j3] 55)
    clear hb3 ho2 hp2 hP
    obtain ⟨⟨c0, c1⟩, _⟩ := HC.out
    go_wp2_with fail
    refine (toCounter_ap w.heap.size w.heap.size _ _ _ xs ys hlx hly hB.size hB.size (ha.belowW hB (Nat.le_refl _)) (hb.belowW hB (Nat.le_refl _))).mono ?_
    rintro e w4 ⟨a4, k4, b4, m4, rfl, ho4, hp4, hap4, hb4⟩
    have z4 := hb4.size
    have v4 := ho4.blk
    have x4 := hp4.blk
    rw [World.size_alloc] at z4 ho4 hp4
    have l4 := ho4.lt
    have y4 := hp4.lt
    replace hB := below_then (below_seq hB hb4) (.cells #[.slice a4 xs.length k4, .slice b4 ys.length m4] 55)
    replace HC : Hid (Dy (w4.alloc (.cells #[.slice a4 xs.length k4, .slice b4 ys.length m4] 55)) w.heap.size _ _) := (HC.out.on hb4).on (below_alloc _ _)
    replace HP : Hid (Dy (w4.alloc (.cells #[.slice a4 xs.length k4, .slice b4 ys.length m4] 55)) w3.heap.size _ _) := (HP.out.on hb4).on (below_alloc _ _)
    have HX : Hid (Dy _ w4.heap.size _ _) := Dy.made w4 (.slice a4 xs.length k4) (.slice b4 ys.length m4) 55
    replace ho3 := ownA (ho3.below hb4 (Nat.le_refl _)) (.cells #[.slice a4 xs.length k4, .slice b4 ys.length m4] 55)
    replace hp3 := ownA (hp3.below hb4 (Nat.le_refl _)) (.cells #[.slice a4 xs.length k4, .slice b4 ys.length m4] 55)
    replace ho4 := ownA ho4 (.cells #[.slice a4 xs.length k4, .slice b4 ys.length m4] 55)
    replace hp4 := ownA hp4 (.cells #[.slice a4 xs.length k4, .slice b4 ys.length m4] 55)
    clear hb4 c0 c1
    go_wp2_with fail
    refine (hI _ _ _ _ _ (Nat.le_refl _) (Nat.le_refl _) ho4.rd hp4.rd).mono ?_
    rintro e w6 ⟨a6, n6, k6, b6, m6, j6, T6, rfl, ho6, hp6, hap6, hb6⟩
    have z6 := hb6.size
    have v6 := ho6.blk
    have x6 := hp6.blk
    rw [World.size_alloc] at z6 ho6 hp6
    have l6 := ho6.lt
    have y6 := hp6.lt
    replace hB := below_then (below_seq hB hb6) (.cells #[.slice a6 n6 k6, .slice b6 m6 j6] 55)
    replace HC : Hid (Dy (w6.alloc (.cells #[.slice a6 n6 k6, .slice b6 m6 j6] 55)) w.heap.size _ _) := (HC.out.on hb6).on (below_alloc _ _)
    replace HP : Hid (Dy (w6.alloc (.cells #[.slice a6 n6 k6, .slice b6 m6 j6] 55)) w3.heap.size _ _) := (HP.out.on hb6).on (below_alloc _ _)
    replace HX : Hid (Dy (w6.alloc (.cells #[.slice a6 n6 k6, .slice b6 m6 j6] 55)) w4.heap.size _ _) := (HX.out.on hb6).on (below_alloc _ _)
    have HG : Hid (Dy _ w6.heap.size _ _) := Dy.made w6 (.slice a6 n6 k6) (.slice b6 m6 j6) 55
    replace ho3 := ownA (ho3.below hb6 (Nat.le_refl _)) (.cells #[.slice a6 n6 k6, .slice b6 m6 j6] 55)
    replace hp3 := ownA (hp3.below hb6 (Nat.le_refl _)) (.cells #[.slice a6 n6 k6, .slice b6 m6 j6] 55)
    replace ho4 := ownA (ho4.below hb6 (Nat.le_refl _)) (.cells #[.slice a6 n6 k6, .slice b6 m6 j6] 55)
    replace hp4 := ownA (hp4.below hb6 (Nat.le_refl _)) (.cells #[.slice a6 n6 k6, .slice b6 m6 j6] 55)
    replace ho6 := ownA ho6 (.cells #[.slice a6 n6 k6, .slice b6 m6 j6] 55)
    replace hp6 := ownA hp6 (.cells #[.slice a6 n6 k6, .slice b6 m6 j6] 55)
    clear hb6
    obtain ⟨⟨p0, p1⟩, _⟩ := HP.out
    go_wp2_with fail
    refine (eqCounter_same _ _ _ _ _ _ _ _ _ us bs (by omega) (by omega) (Nat.le_refl _) (Nat.le_refl _) (Nat.le_refl _) (Nat.le_refl _) ho6.rd hp6.rd ho3.rd hp3.rd).mono ?_
    rintro e w7 ⟨rfl, hb7⟩
    have z7 := hb7.size
    rw [World.size_alloc] at z7
    replace hB := (below_seq hB hb7).drew
    replace HC : Hid (Dy w7.drew w.heap.size _ _) := HC.out.on hb7.drew
    replace HP : Hid (Dy w7.drew w3.heap.size _ _) := HP.out.on hb7.drew
    replace HX : Hid (Dy w7.drew w4.heap.size _ _) := HX.out.on hb7.drew
    replace HG : Hid (Dy w7.drew w6.heap.size _ _) := HG.out.on hb7.drew
    replace ho3 := ho3.below hb7.drew (Nat.le_refl _)
    replace hp3 := hp3.below hb7.drew (Nat.le_refl _)
    replace ho4 := ho4.below hb7.drew (Nat.le_refl _)
    replace hp4 := hp4.below hb7.drew (Nat.le_refl _)
    replace ho6 := ho6.below hb7.drew (Nat.le_refl _)
    replace hp6 := hp6.below hb7.drew (Nat.le_refl _)
    clear hb7 p0 p1
    go_wp2_with fail
    go_region_held2 (fun w' => w'.cell? ⟨w.heap.size, 0, none⟩ = some (.slice ao xs.length ca) ∧ w'.cell? ⟨w.heap.size, 1, none⟩ = some (.slice bo ys.length cb) ∧ w'.cell? ⟨w4.heap.size, 0, none⟩ = some (.slice a4 xs.length k4) ∧ w'.cell? ⟨w4.heap.size, 1, none⟩ = some (.slice b4 ys.length m4)) (exact ⟨HC.out.1.1, HC.out.1.2, HX.out.1.1, HX.out.1.2⟩) (first | (go_at_call 25; refine (toCounter_any w.heap.size w.heap.size _ _ _ xs ys hlx hly hB.size hB.size (ha.belowW hB (Nat.le_refl _)) (hb.belowW hB (Nat.le_refl _))).mono ?_; rintro e w8 ⟨a8, k8, b8, m8, rfl, ho8, hp8, hb8⟩; have z8 := hb8.size; (try simp only [World.size_drew] at z8); replace hB := below_seq hB hb8; replace HC := DyH.on HC hb8; replace HP := DyH.on HP hb8; replace HX := DyH.on HX hb8; replace HG := DyH.on HG hb8; replace ho3 := ho3.below hb8 (Nat.le_refl _); replace hp3 := hp3.below hb8 (Nat.le_refl _); replace ho4 := ho4.below hb8 (Nat.le_refl _); replace hp4 := hp4.below hb8 (Nat.le_refl _); replace ho6 := ho6.below hb8 (Nat.le_refl _); replace hp6 := hp6.below hb8 (Nat.le_refl _); clear hb8) | (go_at_call 27; refine (eqCounter_same _ _ _ _ _ _ _ _ _ xs ys (by omega) (by omega) (Nat.le_refl _) (Nat.le_refl _) (Nat.le_refl _) (Nat.le_refl _) ho4.rd hp4.rd ho8.rd hp8.rd).mono ?_; rintro e w9 ⟨rfl, hb9⟩; have z9 := hb9.size; replace hB := below_seq hB hb9; replace HC := DyH.on HC hb9; replace HP := DyH.on HP hb9; replace HX := DyH.on HX hb9; replace HG := DyH.on HG hb9; replace ho3 := ho3.below hb9 (Nat.le_refl _); replace hp3 := hp3.below hb9 (Nat.le_refl _); replace ho4 := ho4.below hb9 (Nat.le_refl _); replace hp4 := hp4.below hb9 (Nat.le_refl _); replace ho6 := ho6.below hb9 (Nat.le_refl _); replace hp6 := hp6.below hb9 (Nat.le_refl _); clear hb9))
    clear ho8 hp8
    obtain ⟨⟨x0, x1⟩, _⟩ := HX.out
    go_wp2_with fail
    refine (markCounter_any (w3.heap.size + 1) w9 _ _ _ _ _ _ _ _ 1 (by simp; omega) (by simp; omega) (by omega) (by omega) ho4 hp4 hap4).mono ?_
    rintro e w10 ⟨rfl, _, _, hb10, hk10⟩
    rw [List.length_map, List.length_map]
    have z10 := hk10.1
    replace hB : Below w.heap.size w w10 := hB.trans (hb10.mono (by omega))
    replace HC : Hid (Dy w10 w.heap.size _ _) := hk10.dy HC.out (fun e => by have := l4 _ e; omega) (fun e => by have := y4 _ e; omega)
    replace HP : Hid (Dy w10 w3.heap.size _ _) := hk10.dy HP.out (fun e => by have := l4 _ e; omega) (fun e => by have := y4 _ e; omega)
    replace HG : Hid (Dy w10 w6.heap.size _ _) := hk10.dy HG.out (fun e => by have := v4 _ e; omega) (fun e => by have := x4 _ e; omega)
    replace ho3 := hk10.own ho3 (fun i j hi hj => by have := l4 _ hi; have := v3 _ hj; omega) (fun i j hi hj => by have := y4 _ hi; have := v3 _ hj; omega)
    replace hp3 := hk10.own hp3 (fun i j hi hj => by have := l4 _ hi; have := x3 _ hj; omega) (fun i j hi hj => by have := y4 _ hi; have := x3 _ hj; omega)
    replace ho6 := hk10.own ho6 (fun i j hi hj => by have := v4 _ hi; have := l6 _ hj; omega) (fun i j hi hj => by have := x4 _ hi; have := l6 _ hj; omega)
    replace hp6 := hk10.own hp6 (fun i j hi hj => by have := v4 _ hi; have := y6 _ hj; omega) (fun i j hi hj => by have := x4 _ hi; have := y6 _ hj; omega)
    have hn10 : ¬ ((1 + xs.length + ys.length : Nat) : Int) < 0 := by omega
    clear hb10 hk10 x0 x1 HX ho4 hp4
    obtain ⟨⟨p0, p1⟩, _⟩ := HP.out
    obtain ⟨⟨g0, g1⟩, _⟩ := HG.out
    go_wp2_with fail
    refine (eqCounter_same _ _ _ _ _ _ _ _ _ us bs (by omega) (by omega) (Nat.le_refl _) (Nat.le_refl _) (Nat.le_refl _) (Nat.le_refl _) ho6.rd hp6.rd ho3.rd hp3.rd).mono ?_
    rintro e w11 ⟨rfl, hb11⟩
    have z11 := hb11.size
    replace hB := below_seq hB hb11
    replace HC := DyH.on HC hb11
    replace HP := DyH.on HP hb11
    replace HG := DyH.on HG hb11
    replace ho3 := ho3.below hb11 (Nat.le_refl _)
    replace hp3 := hp3.below hb11 (Nat.le_refl _)
    replace ho6 := ho6.below hb11 (Nat.le_refl _)
    replace hp6 := hp6.below hb11 (Nat.le_refl _)
    clear hb11 p0 p1 g0 g1
    obtain ⟨⟨g0, g1⟩, _⟩ := HG.out
    go_wp2_with fail
    refine (markCounter_any (w4.heap.size + 1) w11 _ _ _ _ _ _ _ _ 1 (by simp; omega) (by simp; omega) (by omega) (by omega) ho6 hp6 hap6).mono ?_
    rintro e w12 ⟨rfl, ho7, hp7, hb12, hk12⟩
    simp only [List.length_map] at ho7 hp7 ⊢
    have z12 := hk12.1
    replace hB : Below w.heap.size w w12 := hB.trans (hb12.mono (by omega))
    replace HC : Hid (Dy w12 w.heap.size _ _) := hk12.dy HC.out (fun e => by have := l6 _ e; omega) (fun e => by have := y6 _ e; omega)
    replace HP : Hid (Dy w12 w3.heap.size _ _) := hk12.dy HP.out (fun e => by have := l6 _ e; omega) (fun e => by have := y6 _ e; omega)
    replace HG : Hid (Dy w12 w6.heap.size _ _) := hk12.dy HG.out (fun e => by have := v6 _ e; omega) (fun e => by have := x6 _ e; omega)
    replace ho3 := hk12.own ho3 (fun i j hi hj => by have := l6 _ hi; have := v3 _ hj; omega) (fun i j hi hj => by have := y6 _ hi; have := v3 _ hj; omega)
    replace hp3 := hk12.own hp3 (fun i j hi hj => by have := l6 _ hi; have := x3 _ hj; omega) (fun i j hi hj => by have := y6 _ hi; have := x3 _ hj; omega)
    clear hb12 hk12 g0 g1 ho6 hp6
    obtain ⟨⟨g0, g1⟩, _⟩ := HG.out
    have hn12 : ¬ ((1 + us.length + bs.length : Nat) : Int) < 0 := by omega
    go_wp2_with fail
    refine (heldCounter_same _ _ w12 _ _ 1 us.length bs.length (by omega) (by omega) (by omega) (Nat.le_refl _) (Nat.le_refl _) ho7.rd hp7.rd).mono ?_
    rintro e w13 ⟨rfl, hb13⟩
    have z13 := hb13.size
    replace hB := below_seq hB hb13
    replace HC := DyH.on HC hb13
    replace HP := DyH.on HP hb13
    replace HG := DyH.on HG hb13
    replace ho3 := ho3.below hb13 (Nat.le_refl _)
    replace hp3 := hp3.below hb13 (Nat.le_refl _)
    replace ho7 := ho7.below hb13 (Nat.le_refl _)
    replace hp7 := hp7.below hb13 (Nat.le_refl _)
    clear hb13 g0 g1
    obtain ⟨⟨c0, c1⟩, _⟩ := HC.out
    go_wp2_with fail
    refine (toCounter_any w.heap.size w.heap.size _ _ _ xs ys hlx hly hB.size hB.size (ha.belowW hB (Nat.le_refl _)) (hb.belowW hB (Nat.le_refl _))).mono ?_
    rintro e w14 ⟨a14, k14, b14, m14, rfl, ho14, hp14, hb14⟩
    replace hB := below_seq hB hb14
    replace HP := DyH.on HP hb14
    replace HG := DyH.on HG hb14
    replace ho3 := ho3.below hb14 (Nat.le_refl _)
    replace hp3 := hp3.below hb14 (Nat.le_refl _)
    replace ho7 := ho7.below hb14 (Nat.le_refl _)
    replace hp7 := hp7.below hb14 (Nat.le_refl _)
    clear hb14 c0 c1
    go_wp2_with fail
    refine (hI _ _ _ _ _ (Nat.le_refl _) (Nat.le_refl _) ho14.rd hp14.rd).mono ?_
    rintro e w15 ⟨a15, n15, k15, b15, m15, j15, T15, rfl, ho15, hp15, _, hb15⟩
    replace hB := below_then (below_seq hB hb15) (.cells #[.slice a15 n15 k15, .slice b15 m15 j15] 55)
    replace HP : Hid (Dy (w15.alloc (.cells #[.slice a15 n15 k15, .slice b15 m15 j15] 55)) w3.heap.size _ _) := (HP.out.on hb15).on (below_alloc _ _)
    replace HG : Hid (Dy (w15.alloc (.cells #[.slice a15 n15 k15, .slice b15 m15 j15] 55)) w6.heap.size _ _) := (HG.out.on hb15).on (below_alloc _ _)
    replace ho3 := ownA (ho3.below hb15 (Nat.le_refl _)) (.cells #[.slice a15 n15 k15, .slice b15 m15 j15] 55)
    replace hp3 := ownA (hp3.below hb15 (Nat.le_refl _)) (.cells #[.slice a15 n15 k15, .slice b15 m15 j15] 55)
    replace ho7 := ownA (ho7.below hb15 (Nat.le_refl _)) (.cells #[.slice a15 n15 k15, .slice b15 m15 j15] 55)
    replace hp7 := ownA (hp7.below hb15 (Nat.le_refl _)) (.cells #[.slice a15 n15 k15, .slice b15 m15 j15] 55)
    replace ho15 := ownA ho15 (.cells #[.slice a15 n15 k15, .slice b15 m15 j15] 55)
    replace hp15 := ownA hp15 (.cells #[.slice a15 n15 k15, .slice b15 m15 j15] 55)
    clear hb15 ho14 hp14
    obtain ⟨⟨p0, p1⟩, _⟩ := HP.out
    go_wp2_with fail
    refine (eqCounter_same _ _ _ _ _ _ _ _ _ us bs (by omega) (by omega) (Nat.le_refl _) (Nat.le_refl _) (Nat.le_refl _) (Nat.le_refl _) ho15.rd hp15.rd ho3.rd hp3.rd).mono ?_
    rintro e w16 ⟨rfl, hb16⟩
    replace hB := below_seq hB hb16
    replace HG := DyH.on HG hb16
    replace ho7 := ho7.below hb16 (Nat.le_refl _)
    replace hp7 := hp7.below hb16 (Nat.le_refl _)
    clear hb16 p0 p1 HP ho3 hp3 ho15 hp15
    obtain ⟨⟨g0, g1⟩, _⟩ := HG.out
    go_wp2_with fail
    refine (heldCounter_same _ _ w16 _ _ 1 us.length bs.length (by omega) (by omega) (by omega) (Nat.le_refl _) (Nat.le_refl _) ho7.rd hp7.rd).mono ?_
    rintro e w17 ⟨rfl, hb17⟩
    replace hB := below_seq hB hb17
    go_wp2_with fail
    go_ret
    exact ⟨rfl, hB⟩
  · rw [left2_no h] at hsz
    go_enter Try.func6, Try.ntmps6
    go_wp2_with ((go_at_call 23; refine (hsz _).mono ?_; rintro e w1 ⟨rfl, hb1⟩))
    go_ret
    exact ⟨rfl, below_seq (below_alloc _ _) hb1⟩
end Go.Proofs.Ytonpeiknoifdbaa
