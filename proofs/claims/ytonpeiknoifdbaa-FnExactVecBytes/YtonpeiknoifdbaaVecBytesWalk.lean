/- The walk of the law over both functions VecBytes: it answers true at every vector. -/
import Derived.Test.YtonpeiknoifdbaaVecBytesSpec
import Derived.Test.YtonpeiknoifdbaaVecMarks
import Derived.Test.YtonpeiknoifdbaaCells
import Derived.Test.YtonpeiknoifdbaaFrame
import Derived.Deep.RegionHeld2
namespace Go.Proofs.Ytonpeiknoifdbaa
open Go.RowKit
set_option linter.unusedVariables false

theorem ownAlloc {e : TypeId} {w : World} {B : Nat} {v : Value} {cs : List Value} (h : Own e w B v cs) (o : Obj) : Own e (w.alloc o) B v cs := World.ownsRow.alloc h o

set_option maxHeartbeats 4000000 in
set_option maxRecDepth 100000 in
theorem lawVecBytes_walk (ao : Option Addr) (la ca : Nat) (za : List Int) (w : World) (hra : IsRow .i64 w ao la ca za) :
    Calls Try.prog 3 #[.agg #[.slice ao la ca]] w fun e w' => e = .returned (.bool true) ∧ Below w.heap.size w w' := by
  obtain ⟨ha, hla⟩ := hra.rd
  have hma : la ≤ maxLen := by
    obtain ⟨_, cap', e, h1, h2, _⟩ := ha
    simp only [Value.slice.injEq, List.length_map, hla] at e h1
    omega
  generalize za.take la = xs at ha hla
  clear hra
  subst hla
  have hE0 : Env (w.alloc (.cells #[.slice ao xs.length ca] 24)) [(w.heap.size, .slice ao xs.length ca)] := Env.add (w := w) (L := []) (fun p hp => by simp at hp) (.slice ao xs.length ca) 24
  have hB0 := below_alloc w (.cells #[.slice ao xs.length ca] 24)
  have hsz := fun w' => szVector_any ao xs.length ca 1048576 (by omega) hma w'
  by_cases h1 : xs.length ≤ 1048576
  · rw [if_pos h1] at hsz
    have hn1 : ¬ ((1048576 - xs.length : Nat) : Int) < 0 := by omega
    have hlx : xs.length ≤ 1048576 := h1
    have hvl := vecB_len xs
    go_enter Try.func3, Try.ntmps3
    go_wp2_with fail
    refine (hsz _).mono ?_
    rintro e w1 ⟨rfl, hb1⟩
    have hE1 := hE0.below hb1
    have hB1 := below_seq hB0 hb1
    have c1 := (hE1 (w.heap.size, .slice ao xs.length ca) (by simp)).1
    clear hsz hE0 hB0 hb1
    go_wp2_with fail
    refine (toVector_any w.heap.size _ (.slice ao xs.length ca) xs hlx hB1.size (ha.belowW hB1 (Nat.le_refl _))).mono ?_
    rintro e w2 ⟨a2, k2, rfl, ho2, hb2⟩
    have hE2 := hE1.below hb2
    have hB2 := below_seq hB1 hb2
    clear hE1 hB1 hb2 c1
    go_wp2_with fail
    refine (specVecBytes_any _ _ _ xs (Nat.le_refl _) ho2.rd).mono ?_
    rintro e w3 ⟨r3, rfl, ho3, hb3⟩
    have hE3 := hE2.below hb3
    have hB3 := below_seq hB2 hb3
    have rd3 := ho3.rd
    have c3 := (hE3 (w.heap.size, .slice ao xs.length ca) (by simp)).1
    have hn3 : w.heap.size + 1 ≤ w3.heap.size := hE3.lt (p := (w.heap.size, .slice ao xs.length ca)) (by simp)
    clear hE2 hB2 hb3 ho2 ho3
    go_wp2_with fail
    refine (toVector_any w.heap.size _ (.slice ao xs.length ca) xs hlx hB3.size (ha.belowW hB3 (Nat.le_refl _))).mono ?_
    rintro e w6 ⟨a6, k6, rfl, ho6, hb6⟩
    have hz6 := hb6.size
    have hk6 := ho6.blk
    have hE7 := (hE3.below hb6).add (.slice a6 xs.length k6) 29
    have hB7 := below_seq (below_seq hB3 hb6) (below_alloc _ (.cells #[.slice a6 xs.length k6] 29))
    have rd7 := (rd3.belowW hb6 (Nat.le_refl _)).alloc (.cells #[.slice a6 xs.length k6] 29) hb6.size
    have hx7 := ownAlloc ho6 (.cells #[.slice a6 xs.length k6] 29)
    have c7 := (hE7 (w6.heap.size, .slice a6 xs.length k6) (by simp)).1
    clear hE3 hB3 rd3 hb6 ho6 c3
    go_wp2_with fail
    refine (implVecBytes_any _ _ _ xs (Nat.le_refl _) hx7.rd).mono ?_
    rintro e w8 ⟨r8, rfl, ho8, hb8⟩
    have hz8 := hb8.size
    rw [World.size_alloc] at hz8 ho8
    have hE8 := hE7.below hb8
    have hB8 := below_seq hB7 hb8
    have rd8 := rd7.below (hb8.mono (by rw [World.size_alloc]; omega))
    have hx8 := hx7.below hb8 (Nat.le_refl _)
    have hk8 := ho8.blk
    clear hE7 hB7 rd7 hx7 hb8 c7
    go_wp2_with fail
    refine (eqByteS_same _ _ w8 r8 r3 (vecB xs) (by omega) ho8.rd rd8).mono ?_
    rintro e w12 ⟨rfl, n12, rfl⟩
    have hE12 : Env (w8.drewN n12) _ := hE8
    have hB12 := below_drewN hB8 n12
    have hx12 : Own 3 (w8.drewN n12) _ _ _ := hx8
    have hg12 : Own 5 (w8.drewN n12) _ _ _ := ho8
    have rd12 : Rd _ (w8.drewN n12) _ _ := rd8
    have hs12 : (w8.drewN n12).heap.size = w8.heap.size := rfl
    generalize w8.drewN n12 = w12 at hE12 hB12 hx12 hg12 rd12 hs12 ⊢
    clear hE8 hB8 rd8 hx8 ho8
    go_wp2_with fail
    replace hE12 : Env w12.drew _ := hE12
    replace hB12 := hB12.drew
    replace hx12 : Own 3 w12.drew _ _ _ := hx12
    replace hg12 : Own 5 w12.drew _ _ _ := hg12
    replace rd12 : Rd _ w12.drew _ _ := rd12
    have hCz : w3.heap.size ≤ w12.drew.heap.size := by show w3.heap.size ≤ w12.heap.size; omega
    go_region_held2 (fun w' => w'.cell? ⟨w6.heap.size, 0, none⟩ = some (.slice a6 xs.length k6) ∧ w'.cell? ⟨w.heap.size, 0, none⟩ = some (.slice ao xs.length ca)) (exact ⟨(hE12 (w6.heap.size, .slice a6 xs.length k6) (by simp)).1, (hE12 (w.heap.size, .slice ao xs.length ca) (by simp)).1⟩) (first | (go_at_call 11; refine (toVector_any w.heap.size _ (.slice ao xs.length ca) xs hlx hB12.size (ha.belowW hB12 (Nat.le_refl _))).mono ?_; rintro e w13 ⟨a13, k13, rfl, ho13, hb13⟩; replace hE12 := hE12.below hb13; replace hB12 := below_seq hB12 hb13; replace rd12 := rd12.below (hb13.mono hCz); replace hCz := Nat.le_trans hCz hb13.size; replace hx12 := hx12.below hb13 (Nat.le_refl _); replace hg12 := hg12.below hb13 (Nat.le_refl _)) | (go_at_call 14; refine (eqVector_same _ _ _ _ _ xs (by omega) (Nat.le_refl _) (Nat.le_refl _) hx12.rd ho13.rd).mono ?_; rintro e w14 ⟨rfl, hc14⟩; replace hE12 := hE12.below hc14; replace hB12 := below_seq hB12 hc14; replace rd12 := rd12.below (hc14.mono hCz); replace hCz := Nat.le_trans hCz hc14.size; replace hx12 := hx12.below hc14 (Nat.le_refl _); replace hg12 := hg12.below hc14 (Nat.le_refl _)))
    clear ho13 hb13 hc14
    have cX := (hE12 (w6.heap.size, .slice a6 xs.length k6) (by simp)).1
    go_wp2_with fail
    refine (markVector_any w3.heap.size w14 _ _ _ _ 1 (by simp; omega) (by omega) hCz hx12).mono ?_
    rintro e w17 ⟨rfl, _, hb17, hg17⟩
    rw [List.length_map]
    have hE17 := hE12.mark hg17 (fun k hk p hp => by
      have h1 := hx12.lt k hk
      have h2 := hk6 k hk
      simp only [List.mem_cons, List.not_mem_nil, or_false] at hp
      rcases hp with rfl | rfl <;> simp only <;> omega)
    have hB17 : Below w.heap.size w w17 := hB12.trans (hb17.mono (by omega))
    have rd17 := rd12.below hb17
    have hg17' := hg12.apart hg17 (fun k hk => by have := hk6 k hk; omega)
    have hz17 : w6.heap.size < w17.heap.size := hE17.lt (p := (w6.heap.size, .slice a6 xs.length k6)) (by simp)
    have hnk : ¬ ((1 + xs.length : Nat) : Int) < 0 := by omega
    clear hE12 hB12 rd12 hx12 hg12 hb17 hg17 cX
    go_wp2_with fail
    refine (eqByteS_same _ _ w17 r8 r3 (vecB xs) (by omega) hg17'.rd rd17).mono ?_
    rintro e w18 ⟨rfl, n18, rfl⟩
    go_wp2_with fail
    refine (markByteS_any (w6.heap.size + 1) (w17.drewN n18) r8 _ 1 (by simp; omega) (by omega) hg17').mono ?_
    rintro e w19 ⟨rfl, ho19, hb19, hg19⟩
    rw [List.length_map] at ho19 ⊢
    have hz19 : w17.heap.size ≤ w19.heap.size := hb19.size
    have hE19 : Env w19 _ := Env.mark (w := w17.drewN n18) hE17 hg19 (fun k hk p hp => by
      have h1 := hg17'.lt k hk
      have h2 := hk8 k hk
      simp only [List.mem_cons, List.not_mem_nil, or_false] at hp
      rcases hp with rfl | rfl <;> simp only <;> omega)
    have hB19 : Below w.heap.size w w19 := (below_drewN hB17 n18).trans (hb19.mono (by omega))
    have rd19 := (rd17.drewN n18).below (hb19.mono (by omega))
    clear hE17 hB17 rd17 hg17' hb19 hg19
    go_wp2_with fail
    refine (heldByteS_same _ w19 r8 1 (vecB xs).length (by omega) (by omega) ho19.rd).mono ?_
    rintro e w20 ⟨rfl, hw20⟩
    obtain rfl := hw20.symm
    have c20 := (hE19 (w.heap.size, .slice ao xs.length ca) (by simp)).1
    go_wp2_with fail
    refine (toVector_any w.heap.size _ (.slice ao xs.length ca) xs hlx hB19.size (ha.belowW hB19 (Nat.le_refl _))).mono ?_
    rintro e w21 ⟨a21, k21, rfl, ho21, hb21⟩
    have hz21 := hb21.size
    have hB21 := below_seq hB19 hb21
    have rd21 := rd19.below (hb21.mono (by omega))
    have hm21 := ho19.below hb21 (Nat.le_refl _)
    clear hE19 hB19 rd19 ho19 hb21 c20
    go_wp2_with fail
    refine (implVecBytes_any _ _ _ xs (Nat.le_refl _) ho21.rd).mono ?_
    rintro e w22 ⟨r22, rfl, ho22, hb22⟩
    have hz22 := hb22.size
    have hB22 := below_seq hB21 hb22
    have rd22 := rd21.below (hb22.mono (by omega))
    have hm22 := hm21.below hb22 (Nat.le_refl _)
    clear hB21 rd21 hm21 hb22 ho21
    go_wp2_with fail
    refine (eqByteS_same _ _ w22 r22 r3 (vecB xs) (by omega) ho22.rd rd22).mono ?_
    rintro e w23 ⟨rfl, n23, rfl⟩
    go_wp2_with fail
    refine (heldByteS_same _ (w22.drewN n23) r8 1 (vecB xs).length (by omega) (by omega) (show Rd _ (w22.drewN n23) r8 _ from hm22.rd)).mono ?_
    rintro e w24 ⟨rfl, hw24⟩
    obtain rfl := hw24.symm
    go_wp2_with fail
    go_ret
    exact ⟨rfl, below_drewN hB22 n23⟩
  · rw [if_neg h1] at hsz
    go_enter Try.func3, Try.ntmps3
    go_wp2_with ((go_at_call 9; refine (hsz _).mono ?_; rintro e w1 ⟨rfl, hb1⟩))
    go_ret
    exact ⟨rfl, below_seq hB0 hb1⟩
end Go.Proofs.Ytonpeiknoifdbaa
