/- The walk of the law over both functions VecOrder: it answers true at every two vectors. -/
import Derived.Test.YthkopbkceeggjabVecOrderImpl
import Derived.Test.YthkopbkceeggjabVecMarks
import Derived.Test.YthkopbkceeggjabFrame
import Derived.Deep.RegionHeld2
import Derived.Deep.RegionHeld3
import Derived.Deep.Cut
namespace Go.Proofs.Ythkopbkceeggjab
open Go.RowKit
set_option linter.unusedVariables false

theorem ownAlloc {e : TypeId} {w : World} {B : Nat} {v : Value} {cs : List Value} (h : Own e w B v cs) (o : Obj) : Own e (w.alloc o) B v cs := World.ownsRow.alloc h o

set_option maxHeartbeats 8000000 in
set_option maxRecDepth 100000 in
theorem lawVecOrder_walk (ao : Option Addr) (la ca : Nat) (za : List Int) (bo : Option Addr) (lb cb : Nat) (zb : List Int) (w : World) (hra : IsRow .i64 w ao la ca za) (hrb : IsRow .i64 w bo lb cb zb) :
    Calls Try.prog 8 #[.agg #[.slice ao la ca], .agg #[.slice bo lb cb]] w fun e w' => e = .returned (.bool true) ∧ Below w.heap.size w w' := by
  obtain ⟨ha, hla⟩ := hra.rd
  obtain ⟨hb, hlb⟩ := hrb.rd
  have hma : la ≤ maxLen := by
    obtain ⟨_, cap', e, h1, h2, _⟩ := ha
    simp only [Value.slice.injEq, List.length_map, hla] at e h1
    omega
  have hmb : lb ≤ maxLen := by
    obtain ⟨_, cap', e, h1, h2, _⟩ := hb
    simp only [Value.slice.injEq, List.length_map, hlb] at e h1
    omega
  generalize za.take la = xs at ha hla
  generalize zb.take lb = ys at hb hlb
  clear hra hrb
  subst hla hlb
  have hE0 : Env ((w.alloc (.cells #[.slice ao xs.length ca] 38)).alloc (.cells #[.slice bo ys.length cb] 38)) [(w.heap.size + 1, .slice bo ys.length cb), (w.heap.size, .slice ao xs.length ca)] := by
    have := (Env.add (w := w) (L := []) (fun p hp => by simp at hp) (.slice ao xs.length ca) 38).add (.slice bo ys.length cb) 38
    rw [World.size_alloc] at this
    exact this
  have hB0 : Below w.heap.size w ((w.alloc (.cells #[.slice ao xs.length ca] 38)).alloc (.cells #[.slice bo ys.length cb] 38)) := below_then (below_alloc _ _) _
  have hsz := fun w' => szVector_any ao xs.length ca 1048576 (by omega) hma w'
  by_cases h1 : xs.length ≤ 1048576
  · rw [if_pos h1] at hsz
    have hn1 : ¬ ((1048576 - xs.length : Nat) : Int) < 0 := by omega
    have hsz2 := fun w' => szVector_any bo ys.length cb (1048576 - xs.length) (by omega) hmb w'
    have hlx : xs.length ≤ 1048576 := h1
    go_enter Try.func8, Try.ntmps8
    go_wp2_with fail
    refine (hsz _).mono ?_
    rintro e w1 ⟨rfl, hb1⟩
    have hE1 := hE0.below hb1
    have hB1 := below_seq hB0 hb1
    have c1 := (hE1 (w.heap.size + 1, .slice bo ys.length cb) (by simp)).1
    clear hsz hE0 hB0 hb1
    by_cases h2 : ys.length ≤ 1048576 - xs.length
    · rw [if_pos h2] at hsz2
      have hn2 : ¬ ((1048576 - xs.length - ys.length : Nat) : Int) < 0 := by omega
      have hly : ys.length ≤ 1048576 := by omega
      go_wp2_with fail
      refine (hsz2 _).mono ?_
      rintro e w2 ⟨rfl, hb2⟩
      have hE := (hE1.below hb2)
      have hB := below_seq hB1 hb2
      clear hE1 hB1 hb2 hsz2 c1
      have cA := (hE (w.heap.size, .slice ao xs.length ca) (by simp)).1
      have cB := (hE (w.heap.size + 1, .slice bo ys.length cb) (by simp)).1
      go_wp2_with fail
      have hS : w2.drew.cell? ⟨w.heap.size, 0, none⟩ = some (.slice ao xs.length ca) ∧ w2.drew.cell? ⟨w.heap.size + 1, 0, none⟩ = some (.slice bo ys.length cb) := ⟨cA, cB⟩
      replace hE : Env w2.drew _ := hE
      replace hB := hB.drew
      go_region_held3 (fun w' => w'.cell? ⟨w.heap.size, 0, none⟩ = some (.slice ao xs.length ca) ∧ w'.cell? ⟨w.heap.size + 1, 0, none⟩ = some (.slice bo ys.length cb)) (exact hS) (first | (go_at_call 20; first | (refine (toVector_any w.heap.size _ (.slice ao xs.length ca) xs hlx hB.size (ha.belowW hB (Nat.le_refl _))).mono ?_; rintro e w3 ⟨a3, k3, rfl, hq3, hb3⟩; replace hE := hE.below hb3; replace hB := below_seq hB hb3; replace hS := And.intro (hE (w.heap.size, .slice ao xs.length ca) (by simp)).1 (hE (w.heap.size + 1, .slice bo ys.length cb) (by simp)).1) | (refine (toVector_any w.heap.size _ (.slice bo ys.length cb) ys hly hB.size (hb.belowW hB (Nat.le_refl _))).mono ?_; rintro e w4 ⟨a4, k4, rfl, hq4, hb4⟩; replace hE := hE.below hb4; replace hB := below_seq hB hb4; replace hS := And.intro (hE (w.heap.size, .slice ao xs.length ca) (by simp)).1 (hE (w.heap.size + 1, .slice bo ys.length cb) (by simp)).1; replace hq3 := hq3.below hb4 (Nat.le_refl _))) | (go_at_call 29; refine (specVecOrder_any _ _ _ _ _ xs ys (Nat.le_refl _) (Nat.le_refl _) hq3.rd hq4.rd).mono ?_; rintro e w5 ⟨rfl, hb5⟩; replace hE := hE.below hb5; replace hB := below_seq hB hb5; replace hS := And.intro (hE (w.heap.size, .slice ao xs.length ca) (by simp)).1 (hE (w.heap.size + 1, .slice bo ys.length cb) (by simp)).1))
      clear hq3 hq4 hb3 hb4 hb5 hS cA cB
      have cA := (hE (w.heap.size, .slice ao xs.length ca) (by simp)).1
      go_wp2_with fail
      refine (toVector_any w.heap.size _ (.slice ao xs.length ca) xs hlx hB.size (ha.belowW hB (Nat.le_refl _))).mono ?_
      rintro e w6 ⟨a6, k6, rfl, ho6, hb6⟩
      have hE7 := (hE.below hb6).add (.slice a6 xs.length k6) 41
      have hB7 := below_seq (below_seq hB hb6) (below_alloc _ (.cells #[.slice a6 xs.length k6] 41))
      have ho7 := ownAlloc ho6 (.cells #[.slice a6 xs.length k6] 41)
      have cB7 := (hE7 (w.heap.size + 1, .slice bo ys.length cb) (by simp)).1
      clear cA hE hB hb6 ho6
      go_wp2_with fail
      refine (toVector_any w.heap.size _ (.slice bo ys.length cb) ys hly hB7.size (hb.belowW hB7 (Nat.le_refl _))).mono ?_
      rintro e w8 ⟨a8, k8, rfl, ho8, hb8⟩
      have hE9 := (hE7.below hb8).add (.slice a8 ys.length k8) 41
      have hB9 := below_seq (below_seq hB7 hb8) (below_alloc _ (.cells #[.slice a8 ys.length k8] 41))
      have hx9 := ownAlloc (ho7.below hb8 (Nat.le_refl _)) (.cells #[.slice a8 ys.length k8] 41)
      have hy9 := ownAlloc ho8 (.cells #[.slice a8 ys.length k8] 41)
      have cX9 := (hE9 (w6.heap.size, .slice a6 xs.length k6) (by simp)).1
      have cY9 := (hE9 (w8.heap.size, .slice a8 ys.length k8) (by simp)).1
      clear cB7 hE7 hB7 ho7 ho8 hb8
      go_wp2_with fail
      refine (implVecOrder_any _ _ _ _ _ xs ys (Nat.le_refl _) (Nat.le_refl _) hx9.rd hy9.rd).mono ?_
      rintro e w12 ⟨rfl, hb10⟩
      have hE12 := hE9.below hb10
      have hB12 := below_seq hB9 hb10
      have hx12 := hx9.below hb10 (Nat.le_refl _)
      have hy12 := hy9.below hb10 (Nat.le_refl _)
      clear hE9 hB9 hx9 hy9 hb10 cX9 cY9
      go_wp2_with fail
      replace hE12 : Env w12.drew _ := hE12
      replace hB12 := hB12.drew
      replace hx12 : Own 3 w12.drew _ _ _ := hx12
      replace hy12 : Own 3 w12.drew _ _ _ := hy12
      go_region_held2 (fun w' => w'.cell? ⟨w6.heap.size, 0, none⟩ = some (.slice a6 xs.length k6) ∧ w'.cell? ⟨w.heap.size, 0, none⟩ = some (.slice ao xs.length ca)) (exact ⟨(hE12 (w6.heap.size, .slice a6 xs.length k6) (by simp)).1, (hE12 (w.heap.size, .slice ao xs.length ca) (by simp)).1⟩) (first | (go_at_call 20; refine (toVector_any w.heap.size _ (.slice ao xs.length ca) xs hlx hB12.size (ha.belowW hB12 (Nat.le_refl _))).mono ?_; rintro e w13 ⟨a13, k13, rfl, ho13, hb13⟩; replace hE12 := hE12.below hb13; replace hB12 := below_seq hB12 hb13; replace hx12 := hx12.below hb13 (Nat.le_refl _); replace hy12 := hy12.below hb13 (Nat.le_refl _)) | (go_at_call 22; refine (eqVector_same _ _ _ _ _ xs (by omega) (Nat.le_refl _) (Nat.le_refl _) hx12.rd ho13.rd).mono ?_; rintro e w14 ⟨rfl, hc14⟩; replace hE12 := hE12.below hc14; replace hB12 := below_seq hB12 hc14; replace hx12 := hx12.below hc14 (Nat.le_refl _); replace hy12 := hy12.below hc14 (Nat.le_refl _)))
      clear ho13 hb13 hc14
      go_wp2_with fail
      replace hE12 : Env w14.drew _ := hE12
      replace hB12 := hB12.drew
      replace hx12 : Own 3 w14.drew _ _ _ := hx12
      replace hy12 : Own 3 w14.drew _ _ _ := hy12
      go_region_held2 (fun w' => w'.cell? ⟨w8.heap.size, 0, none⟩ = some (.slice a8 ys.length k8) ∧ w'.cell? ⟨w.heap.size + 1, 0, none⟩ = some (.slice bo ys.length cb)) (exact ⟨(hE12 (w8.heap.size, .slice a8 ys.length k8) (by simp)).1, (hE12 (w.heap.size + 1, .slice bo ys.length cb) (by simp)).1⟩) (first | (go_at_call 20; refine (toVector_any w.heap.size _ (.slice bo ys.length cb) ys hly hB12.size (hb.belowW hB12 (Nat.le_refl _))).mono ?_; rintro e w15 ⟨a15, k15, rfl, ho15, hb15⟩; replace hE12 := hE12.below hb15; replace hB12 := below_seq hB12 hb15; replace hx12 := hx12.below hb15 (Nat.le_refl _); replace hy12 := hy12.below hb15 (Nat.le_refl _)) | (go_at_call 22; refine (eqVector_same _ _ _ _ _ ys (by omega) (Nat.le_refl _) (Nat.le_refl _) hy12.rd ho15.rd).mono ?_; rintro e w16 ⟨rfl, hc16⟩; replace hE12 := hE12.below hc16; replace hB12 := below_seq hB12 hc16; replace hx12 := hx12.below hc16 (Nat.le_refl _); replace hy12 := hy12.below hc16 (Nat.le_refl _)))
      clear ho15 hb15 hc16
      go_wp2_with fail
      go_ret
      exact ⟨rfl, hB12⟩
    · rw [if_neg h2] at hsz2
      go_wp2_with fail
      refine (hsz2 _).mono ?_
      rintro e w2 ⟨rfl, hb2⟩
      go_wp2_with fail
      go_ret
      exact ⟨rfl, below_seq hB1 hb2⟩
  · rw [if_neg h1] at hsz
    go_enter Try.func8, Try.ntmps8
    go_wp2_with ((go_at_call 18; refine (hsz _).mono ?_; rintro e w1 ⟨rfl, hb1⟩))
    go_ret
    exact ⟨rfl, below_seq hB0 hb1⟩
end Go.Proofs.Ythkopbkceeggjab
