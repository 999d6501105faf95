/- The walk of the law over both functions VecMeet: it answers true at every two vectors. -/
import Derived.Test.YthkopbkceeggjabVecMeetSpec
import Derived.Test.YthkopbkceeggjabVecMarks
import Derived.Test.YthkopbkceeggjabFrame
import Derived.Deep.RegionHeld2
import Derived.Deep.RegionHeld3
import Derived.Deep.Cut
namespace Go.Proofs.Ythkopbkceeggjab
open Go.RowKit
set_option linter.unusedVariables false

theorem ownAlloc {e : TypeId} {w : World} {B : Nat} {v : Value} {cs : List Value} (h : Own e w B v cs) (o : Obj) : Own e (w.alloc o) B v cs := World.ownsRow.alloc h o

set_option maxHeartbeats 40000000 in
set_option maxRecDepth 100000 in
theorem lawVecMeet_walk (ao : Option Addr) (la ca : Nat) (za : List Int) (bo : Option Addr) (lb cb : Nat) (zb : List Int) (w : World) (hra : IsRow .i64 w ao la ca za) (hrb : IsRow .i64 w bo lb cb zb) :
    Calls Try.prog 7 #[.agg #[.slice ao la ca], .agg #[.slice bo lb cb]] w fun e w' => e = .returned (.bool true) ∧ Below w.heap.size w w' := by
  obtain ⟨ha, hla⟩ := hra.rd
  obtain ⟨hb, hlb⟩ := hrb.rd
  have hma : la ≤ maxLen := by
    obtain ⟨_, cap', e, h1, h2, _⟩ := ha
    simp only [Value.slice.injEq, List.length_map, hla] at e h1
    omega
  have hmb : lb ≤ maxLen := by
    obtain ⟨_, cap', e, h1, h2, _⟩ := hb
    simp only [Value.slice.injEq, List.length_map, hlb] at e h1
    omega
  generalize za.take la = xs at ha hla
  generalize zb.take lb = ys at hb hlb
  clear hra hrb
  subst hla hlb
  have hE0 : Env ((w.alloc (.cells #[.slice ao xs.length ca] 38)).alloc (.cells #[.slice bo ys.length cb] 38)) [(w.heap.size + 1, .slice bo ys.length cb), (w.heap.size, .slice ao xs.length ca)] := by
    have := (Env.add (w := w) (L := []) (fun p hp => by simp at hp) (.slice ao xs.length ca) 38).add (.slice bo ys.length cb) 38
    rw [World.size_alloc] at this
    exact this
  have hB0 : Below w.heap.size w ((w.alloc (.cells #[.slice ao xs.length ca] 38)).alloc (.cells #[.slice bo ys.length cb] 38)) := below_then (below_alloc _ _) _
  have hsz := fun w' => szVector_any ao xs.length ca 1048576 (by omega) hma w'
  by_cases h1 : xs.length ≤ 1048576
  · rw [if_pos h1] at hsz
    have hn1 : ¬ ((1048576 - xs.length : Nat) : Int) < 0 := by omega
    have hsz2 := fun w' => szVector_any bo ys.length cb (1048576 - xs.length) (by omega) hmb w'
    have hlx : xs.length ≤ 1048576 := h1
    go_enter Try.func7, Try.ntmps7
    go_wp2_with fail
    refine (hsz _).mono ?_
    rintro e w1 ⟨rfl, hb1⟩
    have hE1 := hE0.below hb1
    have hB1 := below_seq hB0 hb1
    have c1 := (hE1 (w.heap.size + 1, .slice bo ys.length cb) (by simp)).1
    clear hsz hE0 hB0 hb1
    by_cases h2 : ys.length ≤ 1048576 - xs.length
    · rw [if_pos h2] at hsz2
      have hn2 : ¬ ((1048576 - xs.length - ys.length : Nat) : Int) < 0 := by omega
      have hly : ys.length ≤ 1048576 := by omega
      go_wp2_with fail
      refine (hsz2 _).mono ?_
      rintro e w2 ⟨rfl, hb2⟩
      have hE := (hE1.below hb2)
      have hB := below_seq hB1 hb2
      clear hE1 hB1 hb2 hsz2 c1
      have cA := (hE (w.heap.size, .slice ao xs.length ca) (by simp)).1
      have cB := (hE (w.heap.size + 1, .slice bo ys.length cb) (by simp)).1
      have hz2 : w.heap.size + 2 ≤ w2.heap.size := hE.lt (p := (w.heap.size + 1, .slice bo ys.length cb)) (by simp)
      go_wp2_with fail
      go_cut [6, 7] from 17 (fun s6 s7 wx => ∃ (P : Nat) (a5 : Option Addr) (n5 k5 : Nat), s6 = .pointer (some ⟨P, 0, none⟩) ∧ s7 = .int .i64 (zipC xs ys) ∧ Env wx [(P, .slice a5 n5 k5), (w.heap.size + 1, .slice bo ys.length cb), (w.heap.size, .slice ao xs.length ca)] ∧ Below w.heap.size w wx ∧ Own 3 wx w.heap.size (.slice a5 n5 k5) ((zipB mnI xs ys).map (Value.int .i64)))
      case first =>
        have hS : w2.drew.cell? ⟨w.heap.size, 0, none⟩ = some (.slice ao xs.length ca) ∧ w2.drew.cell? ⟨w.heap.size + 1, 0, none⟩ = some (.slice bo ys.length cb) := ⟨cA, cB⟩
        replace hE : Env w2.drew _ := hE
        replace hB := hB.drew
        go_region_held3 (fun w' => w'.cell? ⟨w.heap.size, 0, none⟩ = some (.slice ao xs.length ca) ∧ w'.cell? ⟨w.heap.size + 1, 0, none⟩ = some (.slice bo ys.length cb)) (first | exact hS | exact ⟨alloc_keep hS.1 _, alloc_keep hS.2 _⟩ | exact ⟨setO hS.1 _ _ _ (by show w.heap.size ≠ _; omega), setO hS.2 _ _ _ (by show w.heap.size + 1 ≠ _; omega)⟩) (first | (go_at_call 20; first | (refine (toVector_any w.heap.size _ (.slice ao xs.length ca) xs hlx hB.size (ha.belowW hB (Nat.le_refl _))).mono ?_; rintro e w3 ⟨a3, k3, rfl, hq3, hb3⟩; replace hq3 := hq3.mono hB.size; have hz3 := hb3.size; (try simp only [World.size_alloc] at hz3); replace hE := hE.below hb3; (try replace hP := hE (_, .slice none 0 0) (List.mem_cons_self)); have hy3 : w.heap.size + 2 ≤ w3.heap.size := hE.lt (p := (w.heap.size + 1, .slice bo ys.length cb)) (by simp); replace hB := below_seq hB hb3; replace hS := And.intro (hE (w.heap.size, .slice ao xs.length ca) (by simp)).1 (hE (w.heap.size + 1, .slice bo ys.length cb) (by simp)).1) | (replace hE := hE.add (.slice none 0 0) 41; (try change Env _ ((w2.heap.size, Value.slice none 0 0) :: _) at hE); replace hB := below_seq hB (below_alloc _ (.cells #[.slice none 0 0] 41)); refine (toVector_any w.heap.size _ (.slice ao xs.length ca) xs hlx hB.size (ha.belowW hB (Nat.le_refl _))).mono ?_; rintro e w3 ⟨a3, k3, rfl, hq3, hb3⟩; replace hq3 := hq3.mono hB.size; have hz3 := hb3.size; (try simp only [World.size_alloc] at hz3); replace hE := hE.below hb3; (try replace hP := hE (_, .slice none 0 0) (List.mem_cons_self)); have hy3 : w.heap.size + 2 ≤ w3.heap.size := hE.lt (p := (w.heap.size + 1, .slice bo ys.length cb)) (by simp); replace hB := below_seq hB hb3; replace hS := And.intro (hE (w.heap.size, .slice ao xs.length ca) (by simp)).1 (hE (w.heap.size + 1, .slice bo ys.length cb) (by simp)).1) | (refine (toVector_any w.heap.size _ (.slice bo ys.length cb) ys hly hB.size (hb.belowW hB (Nat.le_refl _))).mono ?_; rintro e w4 ⟨a4, k4, rfl, hq4, hb4⟩; replace hq4 := hq4.mono hB.size; have hz4 := hb4.size; (try simp only [World.size_alloc] at hz4); replace hE := hE.below hb4; (try replace hP := hE (_, .slice none 0 0) (List.mem_cons_self)); have hy4 : w.heap.size + 2 ≤ w4.heap.size := hE.lt (p := (w.heap.size + 1, .slice bo ys.length cb)) (by simp); replace hB := below_seq hB hb4; replace hS := And.intro (hE (w.heap.size, .slice ao xs.length ca) (by simp)).1 (hE (w.heap.size + 1, .slice bo ys.length cb) (by simp)).1; replace hq3 := hq3.below hb4 (Nat.le_refl _)) | (replace hE := hE.add (.slice none 0 0) 41; (try change Env _ ((w2.heap.size, Value.slice none 0 0) :: _) at hE); replace hB := below_seq hB (below_alloc _ (.cells #[.slice none 0 0] 41)); replace hq3 := ownAlloc hq3 (.cells #[.slice none 0 0] 41); refine (toVector_any w.heap.size _ (.slice bo ys.length cb) ys hly hB.size (hb.belowW hB (Nat.le_refl _))).mono ?_; rintro e w4 ⟨a4, k4, rfl, hq4, hb4⟩; replace hq4 := hq4.mono hB.size; have hz4 := hb4.size; (try simp only [World.size_alloc] at hz4); replace hE := hE.below hb4; (try replace hP := hE (_, .slice none 0 0) (List.mem_cons_self)); have hy4 : w.heap.size + 2 ≤ w4.heap.size := hE.lt (p := (w.heap.size + 1, .slice bo ys.length cb)) (by simp); replace hB := below_seq hB hb4; replace hS := And.intro (hE (w.heap.size, .slice ao xs.length ca) (by simp)).1 (hE (w.heap.size + 1, .slice bo ys.length cb) (by simp)).1; replace hq3 := hq3.below hb4 (Nat.le_refl _))) | (go_at_call 27; first | (refine (specVecMeet_any _ _ _ _ _ xs ys (Nat.le_refl _) (Nat.le_refl _) hq3.rd hq4.rd).mono ?_; rintro e w5 ⟨a5, n5, k5, rfl, hq5, hb5⟩; have hbase5 := hB.size; (try have hPb := hE.lt (p := (_, .slice none 0 0)) (List.mem_cons_self)); have hz5 := hb5.size; (try simp only [World.size_alloc] at hz5); replace hE := hE.below hb5; (try replace hP := hE (_, .slice none 0 0) (List.mem_cons_self)); have hy5 : w.heap.size + 2 ≤ w5.heap.size := hE.lt (p := (w.heap.size + 1, .slice bo ys.length cb)) (by simp); replace hB := below_seq hB hb5; (try (have cP := hP.1; have fP := hP.2)); replace hS := And.intro (hE (w.heap.size, .slice ao xs.length ca) (by simp)).1 (hE (w.heap.size + 1, .slice bo ys.length cb) (by simp)).1) | (replace hE := hE.add (.slice none 0 0) 41; (try change Env _ ((w2.heap.size, Value.slice none 0 0) :: _) at hE); replace hB := below_seq hB (below_alloc _ (.cells #[.slice none 0 0] 41)); replace hq3 := ownAlloc hq3 (.cells #[.slice none 0 0] 41); replace hq4 := ownAlloc hq4 (.cells #[.slice none 0 0] 41); refine (specVecMeet_any _ _ _ _ _ xs ys (Nat.le_refl _) (Nat.le_refl _) hq3.rd hq4.rd).mono ?_; rintro e w5 ⟨a5, n5, k5, rfl, hq5, hb5⟩; have hbase5 := hB.size; (try have hPb := hE.lt (p := (_, .slice none 0 0)) (List.mem_cons_self)); have hz5 := hb5.size; (try simp only [World.size_alloc] at hz5); replace hE := hE.below hb5; (try replace hP := hE (_, .slice none 0 0) (List.mem_cons_self)); have hy5 : w.heap.size + 2 ≤ w5.heap.size := hE.lt (p := (w.heap.size + 1, .slice bo ys.length cb)) (by simp); replace hB := below_seq hB hb5; (try (have cP := hP.1; have fP := hP.2)); replace hS := And.intro (hE (w.heap.size, .slice ao xs.length ca) (by simp)).1 (hE (w.heap.size + 1, .slice bo ys.length cb) (by simp)).1)))
        all_goals
          go_wp2_with fail
          go_meet
        all_goals
          first
          | (case rel => exact ⟨w5.heap.size, a5, n5, k5, rfl, rfl, hE.add _ _, below_seq hB (below_alloc _ _), ownAlloc (hq5.mono hbase5) _⟩)
          | (case rel => exact ⟨w2.heap.size, a5, n5, k5, rfl, rfl, hE.set _ (by simp; omega), hB.setCell (by show w.heap.size ≤ w2.heap.size; omega) _, (hq5.set _ hPb).mono hbase5⟩)
          | (case rel => exact ⟨w3.heap.size, a5, n5, k5, rfl, rfl, hE.set _ (by simp; omega), hB.setCell (by show w.heap.size ≤ w3.heap.size; omega) _, (hq5.set _ hPb).mono hbase5⟩)
          | (case rel => exact ⟨w4.heap.size, a5, n5, k5, rfl, rfl, hE.set _ (by simp; omega), hB.setCell (by show w.heap.size ≤ w4.heap.size; omega) _, (hq5.set _ hPb).mono hbase5⟩)
      case rest =>
        clear hE hB cA cB hz2
        obtain ⟨P, a5, n5, k5, rfl, rfl, hE, hB, hq5⟩ := hcut
        have rd5 := hq5.rd
        clear hq5
        have cA := (hE (w.heap.size, .slice ao xs.length ca) (by simp)).1
        go_wp2_with fail
        refine (toVector_any w.heap.size _ (.slice ao xs.length ca) xs hlx hB.size (ha.belowW hB (Nat.le_refl _))).mono ?_
        rintro e w6 ⟨a6, k6, rfl, ho6, hb6⟩
        have hE7 := (hE.below hb6).add (.slice a6 xs.length k6) 41
        have hB7 := below_seq (below_seq hB hb6) (below_alloc _ (.cells #[.slice a6 xs.length k6] 41))
        have rd7 := (rd5.belowW hb6 (Nat.le_refl _)).alloc (.cells #[.slice a6 xs.length k6] 41) hb6.size
        have ho7 := ownAlloc ho6 (.cells #[.slice a6 xs.length k6] 41)
        have hk6 := ho6.blk
        have hz6 := hb6.size
        have hPlt := hE.lt (p := (P, .slice a5 n5 k5)) (by simp)
        have hn2 : w.heap.size + 2 ≤ wc.heap.size := hE.lt (p := (w.heap.size + 1, .slice bo ys.length cb)) (by simp)
        have cB7 := (hE7 (w.heap.size + 1, .slice bo ys.length cb) (by simp)).1
        clear cA hE hB hb6 ho6 rd5
        go_wp2_with fail
        refine (toVector_any w.heap.size _ (.slice bo ys.length cb) ys hly hB7.size (hb.belowW hB7 (Nat.le_refl _))).mono ?_
        rintro e w8 ⟨a8, k8, rfl, ho8, hb8⟩
        have hz8 := hb8.size
        rw [World.size_alloc] at hz8 ho8
        have hE9 := (hE7.below hb8).add (.slice a8 ys.length k8) 41
        have hB9 := below_seq (below_seq hB7 hb8) (below_alloc _ (.cells #[.slice a8 ys.length k8] 41))
        have rd9 := ((rd7.below (hb8.mono (by rw [World.size_alloc]; omega))).alloc (.cells #[.slice a8 ys.length k8] 41) (by omega))
        have hx9 := ownAlloc (ho7.below hb8 (Nat.le_refl _)) (.cells #[.slice a8 ys.length k8] 41)
        have hy9 := ownAlloc ho8 (.cells #[.slice a8 ys.length k8] 41)
        have hk8 := ho8.blk
        have cX9 := (hE9 (w6.heap.size, .slice a6 xs.length k6) (by simp)).1
        have cY9 := (hE9 (w8.heap.size, .slice a8 ys.length k8) (by simp)).1
        clear cB7 hE7 hB7 rd7 ho7 ho8 hb8
        go_wp2_with fail
        refine (implVecMeet_any _ _ _ _ _ xs ys (Nat.le_refl _) (Nat.le_refl _) hx9.rd hy9.rd).mono ?_
        rintro e w10 ⟨a10, n10, k10, T10, rfl, ho10, hb10⟩
        have hz10 := hb10.size
        rw [World.size_alloc] at hz10 ho10
        have hE11 := (hE9.below hb10).add (.slice a10 n10 k10) 41
        have hB11 := below_seq (below_seq hB9 hb10) (below_alloc _ (.cells #[.slice a10 n10 k10] 41))
        have rd11 := ((rd9.below (hb10.mono (by rw [World.size_alloc]; omega))).alloc (.cells #[.slice a10 n10 k10] 41) (by omega))
        have hx11 := ownAlloc (hx9.below hb10 (Nat.le_refl _)) (.cells #[.slice a10 n10 k10] 41)
        have hy11 := ownAlloc (hy9.below hb10 (Nat.le_refl _)) (.cells #[.slice a10 n10 k10] 41)
        have hg11 := ownAlloc ho10 (.cells #[.slice a10 n10 k10] 41)
        have hk10 := ho10.blk
        have hzl := zipB_len mnI xs ys
        have cG := (hE11 (w10.heap.size, .slice a10 n10 k10) (by simp)).1
        have cP := (hE11 (P, .slice a5 n5 k5) (by simp)).1
        clear hE9 hB9 rd9 hx9 hy9 ho10 hb10 cX9 cY9
        go_wp2_with fail
        refine (eqVector_same _ _ _ _ _ (zipB mnI xs ys) (by omega) (Nat.le_refl _) (by rw [World.size_alloc]; omega) hg11.rd rd11).mono ?_
        rintro e w12 ⟨rfl, hb12⟩
        have hz12 := hb12.size
        rw [World.size_alloc] at hz12
        have hE12 := hE11.below hb12
        have hB12 := below_seq hB11 hb12
        have rd12 := rd11.below (hb12.mono (by rw [World.size_alloc]; omega))
        have hx12 := hx11.below hb12 (Nat.le_refl _)
        have hy12 := hy11.below hb12 (Nat.le_refl _)
        have hg12 := hg11.below hb12 (Nat.le_refl _)
        clear hE11 hB11 rd11 hx11 hy11 hg11 hb12 cG cP
        go_wp2_with fail
        replace hE12 : Env w12.drew _ := hE12
        replace hB12 := hB12.drew
        replace hx12 : Own 3 w12.drew _ _ _ := hx12
        replace hy12 : Own 3 w12.drew _ _ _ := hy12
        replace hg12 : Own T10 w12.drew _ _ _ := hg12
        replace rd12 : Rd _ w12.drew _ _ := rd12
        have hCz : wc.heap.size ≤ w12.drew.heap.size := by show wc.heap.size ≤ w12.heap.size; omega
        go_region_held2 (fun w' => w'.cell? ⟨w6.heap.size, 0, none⟩ = some (.slice a6 xs.length k6) ∧ w'.cell? ⟨w.heap.size, 0, none⟩ = some (.slice ao xs.length ca)) (exact ⟨(hE12 (w6.heap.size, .slice a6 xs.length k6) (by simp)).1, (hE12 (w.heap.size, .slice ao xs.length ca) (by simp)).1⟩) (first | (go_at_call 20; refine (toVector_any w.heap.size _ (.slice ao xs.length ca) xs hlx hB12.size (ha.belowW hB12 (Nat.le_refl _))).mono ?_; rintro e w13 ⟨a13, k13, rfl, ho13, hb13⟩; replace hE12 := hE12.below hb13; replace hB12 := below_seq hB12 hb13; replace rd12 := rd12.below (hb13.mono hCz); replace hCz := Nat.le_trans hCz hb13.size; replace hx12 := hx12.below hb13 (Nat.le_refl _); replace hy12 := hy12.below hb13 (Nat.le_refl _); replace hg12 := hg12.below hb13 (Nat.le_refl _)) | (go_at_call 22; refine (eqVector_same _ _ _ _ _ xs (by omega) (Nat.le_refl _) (Nat.le_refl _) hx12.rd ho13.rd).mono ?_; rintro e w14 ⟨rfl, hc14⟩; replace hE12 := hE12.below hc14; replace hB12 := below_seq hB12 hc14; replace rd12 := rd12.below (hc14.mono hCz); replace hCz := Nat.le_trans hCz hc14.size; replace hx12 := hx12.below hc14 (Nat.le_refl _); replace hy12 := hy12.below hc14 (Nat.le_refl _); replace hg12 := hg12.below hc14 (Nat.le_refl _)))
        clear ho13 hb13 hc14
        go_wp2_with fail
        replace hE12 : Env w14.drew _ := hE12
        replace hB12 := hB12.drew
        replace hx12 : Own 3 w14.drew _ _ _ := hx12
        replace hy12 : Own 3 w14.drew _ _ _ := hy12
        replace hg12 : Own T10 w14.drew _ _ _ := hg12
        replace rd12 : Rd _ w14.drew _ _ := rd12
        go_region_held2 (fun w' => w'.cell? ⟨w8.heap.size, 0, none⟩ = some (.slice a8 ys.length k8) ∧ w'.cell? ⟨w.heap.size + 1, 0, none⟩ = some (.slice bo ys.length cb)) (exact ⟨(hE12 (w8.heap.size, .slice a8 ys.length k8) (by simp)).1, (hE12 (w.heap.size + 1, .slice bo ys.length cb) (by simp)).1⟩) (first | (go_at_call 20; refine (toVector_any w.heap.size _ (.slice bo ys.length cb) ys hly hB12.size (hb.belowW hB12 (Nat.le_refl _))).mono ?_; rintro e w15 ⟨a15, k15, rfl, ho15, hb15⟩; replace hE12 := hE12.below hb15; replace hB12 := below_seq hB12 hb15; replace rd12 := rd12.below (hb15.mono hCz); replace hCz := Nat.le_trans hCz hb15.size; replace hx12 := hx12.below hb15 (Nat.le_refl _); replace hy12 := hy12.below hb15 (Nat.le_refl _); replace hg12 := hg12.below hb15 (Nat.le_refl _)) | (go_at_call 22; refine (eqVector_same _ _ _ _ _ ys (by omega) (Nat.le_refl _) (Nat.le_refl _) hy12.rd ho15.rd).mono ?_; rintro e w16 ⟨rfl, hc16⟩; replace hE12 := hE12.below hc16; replace hB12 := below_seq hB12 hc16; replace rd12 := rd12.below (hc16.mono hCz); replace hCz := Nat.le_trans hCz hc16.size; replace hx12 := hx12.below hc16 (Nat.le_refl _); replace hy12 := hy12.below hc16 (Nat.le_refl _); replace hg12 := hg12.below hc16 (Nat.le_refl _)))
        clear ho15 hb15 hc16
        have cX := (hE12 (w6.heap.size, .slice a6 xs.length k6) (by simp)).1
        go_wp2_with fail
        refine (markVector_any wc.heap.size w16 _ _ _ _ 1 (by simp; omega) (by omega) hCz hx12).mono ?_
        rintro e w17 ⟨rfl, _, hb17, hg17⟩
        rw [List.length_map]
        have hE17 := hE12.mark hg17 (fun k hk p hp => by
          have h1 := hx12.lt k hk
          have h2 := hk6 k hk
          simp only [List.mem_cons, List.not_mem_nil, or_false] at hp
          rcases hp with rfl | rfl | rfl | rfl | rfl | rfl <;> simp only <;> omega)
        have hB17 : Below w.heap.size w w17 := hB12.trans (hb17.mono (by omega))
        have rd17 := rd12.below hb17
        have hz17 := hb17.size
        have hy17 := hy12.apart hg17 (fun k hk => by have := hk6 k hk; omega)
        have hg17' := hg12.apart hg17 (fun k hk => by have := hk6 k hk; omega)
        have cY := (hE17 (w8.heap.size, .slice a8 ys.length k8) (by simp)).1
        have hlt17 : w8.heap.size < w17.heap.size := hE17.lt (p := (w8.heap.size, .slice a8 ys.length k8)) (by simp)
        clear hE12 hB12 rd12 hx12 hy12 hg12 hb17 hg17 cX
        go_wp2_with fail
        refine (markVector_any (w6.heap.size + 1) w17 _ _ _ _ (1 + xs.length) (by simp; omega) (by omega) (by omega) hy17).mono ?_
        rintro e w18 ⟨rfl, _, hb18, hg18⟩
        rw [List.length_map]
        have hE18 := hE17.mark hg18 (fun k hk p hp => by
          have h1 := hy17.lt k hk
          have h2 := hk8 k hk
          simp only [List.mem_cons, List.not_mem_nil, or_false] at hp
          rcases hp with rfl | rfl | rfl | rfl | rfl | rfl <;> simp only <;> omega)
        have hB18 : Below w.heap.size w w18 := hB17.trans (hb18.mono (by omega))
        have rd18 := rd17.below (hb18.mono (by omega))
        have hz18 := hb18.size
        have hg18' := hg17'.apart hg18 (fun k hk => by have := hk8 k hk; omega)
        have cG := (hE18 (w10.heap.size, .slice a10 n10 k10) (by simp)).1
        have cP := (hE18 (P, .slice a5 n5 k5) (by simp)).1
        have hnk : ¬ ((1 + xs.length + ys.length : Nat) : Int) < 0 := by omega
        clear hE17 hB17 rd17 hy17 hg17' hb18 hg18 cY
        go_wp2_with fail
        have hlt18 : w10.heap.size < w18.heap.size := hE18.lt (p := (w10.heap.size, .slice a10 n10 k10)) (by simp)
        refine (eqVector_same _ _ _ _ _ (zipB mnI xs ys) (by omega) (Nat.le_refl _) (by omega) hg18'.rd rd18).mono ?_
        rintro e w19 ⟨rfl, hb19⟩
        have hz19 := hb19.size
        have hE19 := hE18.below hb19
        have hB19 := below_seq hB18 hb19
        have rd19 := rd18.below (hb19.mono (by omega))
        have hg19 := hg18'.below hb19 (Nat.le_refl _)
        have cG19 := (hE19 (w10.heap.size, .slice a10 n10 k10) (by simp)).1
        clear hE18 hB18 rd18 hg18' hb19 cG cP
        go_wp2_with fail
        refine (markVector_any (w8.heap.size + 1) w19 _ _ _ _ 1 (by simp; omega) (by omega) (by omega) hg19).mono ?_
        rintro e w20 ⟨rfl, ho20, hb20, hg20⟩
        rw [List.length_map] at ho20 ⊢
        have hE20 := hE19.mark hg20 (fun k hk p hp => by
          have h1 := hg19.lt k hk
          have h2 := hk10 k hk
          simp only [List.mem_cons, List.not_mem_nil, or_false] at hp
          rcases hp with rfl | rfl | rfl | rfl | rfl | rfl <;> simp only <;> omega)
        have hB20 : Below w.heap.size w w20 := hB19.trans (hb20.mono (by omega))
        have rd20 := rd19.below (hb20.mono (by omega))
        have hz20 := hb20.size
        have cG20 := (hE20 (w10.heap.size, .slice a10 n10 k10) (by simp)).1
        clear hE19 hB19 rd19 hg19 hb20 hg20 cG19
        go_wp2_with fail
        refine (heldVector_same _ w20 _ 1 (zipB mnI xs ys).length (by omega) (by omega) (Nat.le_refl _) ho20.rd).mono ?_
        rintro e w21 ⟨rfl, hb21⟩
        have hz21 := hb21.size
        have hE21 := hE20.below hb21
        have hB21 := below_seq hB20 hb21
        have rd21 := rd20.below (hb21.mono (by omega))
        have ho21 := ho20.below hb21 (Nat.le_refl _)
        have hnq : ¬ ((1 + (zipB mnI xs ys).length : Nat) : Int) < 0 := by omega
        clear hE20 hB20 rd20 ho20 hb21 cG20
        go_wp2_with fail
        go_cut [15, 16] from 17 (fun s15 s16 wx => ∃ (H : Nat) (aH : Option Addr) (nH kH : Nat) (TH : TypeId), s15 = .pointer (some ⟨H, 0, none⟩) ∧ s16 = .int .i64 (zipC xs ys) ∧ Env wx [(H, .slice aH nH kH)] ∧ Below w.heap.size w wx ∧ Below w21.heap.size w21 wx ∧ Own TH wx w.heap.size (.slice aH nH kH) ((zipB mnI xs ys).map (Value.int .i64)))
        case first =>
          have hS2 : w21.drew.cell? ⟨w.heap.size, 0, none⟩ = some (.slice ao xs.length ca) ∧ w21.drew.cell? ⟨w.heap.size + 1, 0, none⟩ = some (.slice bo ys.length cb) := ⟨(hE21 (w.heap.size, .slice ao xs.length ca) (by simp)).1, (hE21 (w.heap.size + 1, .slice bo ys.length cb) (by simp)).1⟩
          have hz21' : w.heap.size + 2 ≤ w21.heap.size := hE21.lt (p := (w.heap.size + 1, .slice bo ys.length cb)) (by simp)
          have hE : Env w21.drew [(w.heap.size + 1, .slice bo ys.length cb), (w.heap.size, .slice ao xs.length ca)] := fun p hp => hE21 p (by simp at hp ⊢; rcases hp with rfl | rfl <;> simp)
          have hB := hB21.drew
          have hK := (Below.refl w21.heap.size w21).drew
          clear hE21 hB21 rd21 ho21
          go_region_held3 (fun w' => w'.cell? ⟨w.heap.size, 0, none⟩ = some (.slice ao xs.length ca) ∧ w'.cell? ⟨w.heap.size + 1, 0, none⟩ = some (.slice bo ys.length cb)) (first | exact hS2 | exact ⟨alloc_keep hS2.1 _, alloc_keep hS2.2 _⟩ | exact ⟨setO hS2.1 _ _ _ (by show w.heap.size ≠ _; omega), setO hS2.2 _ _ _ (by show w.heap.size + 1 ≠ _; omega)⟩) (first | (go_at_call 20; first | (refine (toVector_any w.heap.size _ (.slice ao xs.length ca) xs hlx hB.size (ha.belowW hB (Nat.le_refl _))).mono ?_; rintro e w22 ⟨a22, k22, rfl, hq22, hb22⟩; replace hq22 := hq22.mono hB.size; replace hE := hE.below hb22; (try replace hP := hE (_, .slice none 0 0) (List.mem_cons_self)); have hy22 : w.heap.size + 2 ≤ w22.heap.size := hE.lt (p := (w.heap.size + 1, .slice bo ys.length cb)) (by simp); replace hB := below_seq hB hb22; replace hK := below_seq hK hb22; have hv22 : w21.heap.size ≤ w22.heap.size := hK.size; replace hS2 := And.intro (hE (w.heap.size, .slice ao xs.length ca) (by simp)).1 (hE (w.heap.size + 1, .slice bo ys.length cb) (by simp)).1) | (replace hE := hE.add (.slice none 0 0) 41; (try change Env _ ((w21.heap.size, Value.slice none 0 0) :: _) at hE); replace hB := below_seq hB (below_alloc _ (.cells #[.slice none 0 0] 41)); replace hK := below_seq hK (below_alloc _ (.cells #[.slice none 0 0] 41)); refine (toVector_any w.heap.size _ (.slice ao xs.length ca) xs hlx hB.size (ha.belowW hB (Nat.le_refl _))).mono ?_; rintro e w22 ⟨a22, k22, rfl, hq22, hb22⟩; replace hq22 := hq22.mono hB.size; replace hE := hE.below hb22; (try replace hP := hE (_, .slice none 0 0) (List.mem_cons_self)); have hy22 : w.heap.size + 2 ≤ w22.heap.size := hE.lt (p := (w.heap.size + 1, .slice bo ys.length cb)) (by simp); replace hB := below_seq hB hb22; replace hK := below_seq hK hb22; have hv22 : w21.heap.size ≤ w22.heap.size := hK.size; replace hS2 := And.intro (hE (w.heap.size, .slice ao xs.length ca) (by simp)).1 (hE (w.heap.size + 1, .slice bo ys.length cb) (by simp)).1) | (refine (toVector_any w.heap.size _ (.slice bo ys.length cb) ys hly hB.size (hb.belowW hB (Nat.le_refl _))).mono ?_; rintro e w23 ⟨a23, k23, rfl, hq23, hb23⟩; replace hq23 := hq23.mono hB.size; replace hE := hE.below hb23; (try replace hP := hE (_, .slice none 0 0) (List.mem_cons_self)); have hy23 : w.heap.size + 2 ≤ w23.heap.size := hE.lt (p := (w.heap.size + 1, .slice bo ys.length cb)) (by simp); replace hB := below_seq hB hb23; replace hK := below_seq hK hb23; have hv23 : w21.heap.size ≤ w23.heap.size := hK.size; replace hS2 := And.intro (hE (w.heap.size, .slice ao xs.length ca) (by simp)).1 (hE (w.heap.size + 1, .slice bo ys.length cb) (by simp)).1; replace hq22 := hq22.below hb23 (Nat.le_refl _)) | (replace hE := hE.add (.slice none 0 0) 41; (try change Env _ ((w21.heap.size, Value.slice none 0 0) :: _) at hE); replace hB := below_seq hB (below_alloc _ (.cells #[.slice none 0 0] 41)); replace hK := below_seq hK (below_alloc _ (.cells #[.slice none 0 0] 41)); replace hq22 := ownAlloc hq22 (.cells #[.slice none 0 0] 41); refine (toVector_any w.heap.size _ (.slice bo ys.length cb) ys hly hB.size (hb.belowW hB (Nat.le_refl _))).mono ?_; rintro e w23 ⟨a23, k23, rfl, hq23, hb23⟩; replace hq23 := hq23.mono hB.size; replace hE := hE.below hb23; (try replace hP := hE (_, .slice none 0 0) (List.mem_cons_self)); have hy23 : w.heap.size + 2 ≤ w23.heap.size := hE.lt (p := (w.heap.size + 1, .slice bo ys.length cb)) (by simp); replace hB := below_seq hB hb23; replace hK := below_seq hK hb23; have hv23 : w21.heap.size ≤ w23.heap.size := hK.size; replace hS2 := And.intro (hE (w.heap.size, .slice ao xs.length ca) (by simp)).1 (hE (w.heap.size + 1, .slice bo ys.length cb) (by simp)).1; replace hq22 := hq22.below hb23 (Nat.le_refl _))) | (go_at_call 28; first | (refine (implVecMeet_any _ _ _ _ _ xs ys (Nat.le_refl _) (Nat.le_refl _) hq22.rd hq23.rd).mono ?_; rintro e w24 ⟨a24, n24, k24, T24, rfl, hq24, hb24⟩; have hbase := hB.size; (try have hPb := hE.lt (p := (_, .slice none 0 0)) (List.mem_cons_self)); replace hE := hE.below hb24; (try replace hP := hE (_, .slice none 0 0) (List.mem_cons_self)); have hy24 : w.heap.size + 2 ≤ w24.heap.size := hE.lt (p := (w.heap.size + 1, .slice bo ys.length cb)) (by simp); replace hB := below_seq hB hb24; replace hK := below_seq hK hb24; have hv24 : w21.heap.size ≤ w24.heap.size := hK.size; (try (have cP := hP.1; have fP := hP.2)); replace hS2 := And.intro (hE (w.heap.size, .slice ao xs.length ca) (by simp)).1 (hE (w.heap.size + 1, .slice bo ys.length cb) (by simp)).1) | (replace hE := hE.add (.slice none 0 0) 41; (try change Env _ ((w21.heap.size, Value.slice none 0 0) :: _) at hE); replace hB := below_seq hB (below_alloc _ (.cells #[.slice none 0 0] 41)); replace hK := below_seq hK (below_alloc _ (.cells #[.slice none 0 0] 41)); replace hq22 := ownAlloc hq22 (.cells #[.slice none 0 0] 41); replace hq23 := ownAlloc hq23 (.cells #[.slice none 0 0] 41); refine (implVecMeet_any _ _ _ _ _ xs ys (Nat.le_refl _) (Nat.le_refl _) hq22.rd hq23.rd).mono ?_; rintro e w24 ⟨a24, n24, k24, T24, rfl, hq24, hb24⟩; have hbase := hB.size; (try have hPb := hE.lt (p := (_, .slice none 0 0)) (List.mem_cons_self)); replace hE := hE.below hb24; (try replace hP := hE (_, .slice none 0 0) (List.mem_cons_self)); have hy24 : w.heap.size + 2 ≤ w24.heap.size := hE.lt (p := (w.heap.size + 1, .slice bo ys.length cb)) (by simp); replace hB := below_seq hB hb24; replace hK := below_seq hK hb24; have hv24 : w21.heap.size ≤ w24.heap.size := hK.size; (try (have cP := hP.1; have fP := hP.2)); replace hS2 := And.intro (hE (w.heap.size, .slice ao xs.length ca) (by simp)).1 (hE (w.heap.size + 1, .slice bo ys.length cb) (by simp)).1)))
          all_goals
            go_wp2_with fail
            go_meet
          all_goals
            first
            | (case rel => exact ⟨w24.heap.size, a24, n24, k24, T24, rfl, rfl, fun p hp => hE.add _ _ p (by simp at hp ⊢; simp [hp]), below_seq hB (below_alloc _ _), below_seq hK (below_alloc _ _), ownAlloc (hq24.mono hbase) _⟩)
            | (case rel => exact ⟨w21.heap.size, a24, n24, k24, T24, rfl, rfl, fun p hp => hE.set _ (by simp; omega) p (by simp at hp ⊢; simp [hp]), hB.setCell (by show w.heap.size ≤ w21.heap.size; omega) _, hK.setCell (by show w21.heap.size ≤ w21.heap.size; omega) _, (hq24.set _ hPb).mono hbase⟩)
            | (case rel => exact ⟨w22.heap.size, a24, n24, k24, T24, rfl, rfl, fun p hp => hE.set _ (by simp; omega) p (by simp at hp ⊢; simp [hp]), hB.setCell (by show w.heap.size ≤ w22.heap.size; omega) _, hK.setCell (by show w21.heap.size ≤ w22.heap.size; omega) _, (hq24.set _ hPb).mono hbase⟩)
            | (case rel => exact ⟨w23.heap.size, a24, n24, k24, T24, rfl, rfl, fun p hp => hE.set _ (by simp; omega) p (by simp at hp ⊢; simp [hp]), hB.setCell (by show w.heap.size ≤ w23.heap.size; omega) _, hK.setCell (by show w21.heap.size ≤ w23.heap.size; omega) _, (hq24.set _ hPb).mono hbase⟩)
        case rest =>
          obtain ⟨H, aH, nH, kH, TH, rfl, rfl, hEH, hBH, hKH, hoH⟩ := hcut
          have hE25 := hE21.below hKH
          have rd25 := rd21.below (hKH.mono (by omega))
          have ho25 := ho21.below hKH (Nat.le_refl _)
          have hz25 := hKH.size
          have cH := (hEH (H, .slice aH nH kH) (by simp)).1
          have cP := (hE25 (P, .slice a5 n5 k5) (by simp)).1
          clear hE21 hB21 rd21 ho21 hEH hKH
          go_wp2_with fail
          refine (eqVector_same _ _ _ _ _ (zipB mnI xs ys) (by omega) (Nat.le_refl _) (by omega) hoH.rd rd25).mono ?_
          rintro e w26 ⟨rfl, hb26⟩
          have hE26 := hE25.below hb26
          have ho26 := ho25.below hb26 (Nat.le_refl _)
          have cG26 := (hE26 (w10.heap.size, .slice a10 n10 k10) (by simp)).1
          have hB26 := below_seq hBH hb26
          clear hE25 rd25 ho25 cH cP hoH hb26 hBH
          go_wp2_with fail
          refine (heldVector_same _ w26 _ 1 (zipB mnI xs ys).length (by omega) (by omega) (Nat.le_refl _) ho26.rd).mono ?_
          rintro e w27 ⟨rfl, hb27⟩
          go_wp2_with fail
          go_ret
          exact ⟨rfl, below_seq hB26 hb27⟩
    · rw [if_neg h2] at hsz2
      go_wp2_with fail
      refine (hsz2 _).mono ?_
      rintro e w2 ⟨rfl, hb2⟩
      go_wp2_with fail
      go_ret
      exact ⟨rfl, below_seq hB1 hb2⟩
  · rw [if_neg h1] at hsz
    go_enter Try.func7, Try.ntmps7
    go_wp2_with ((go_at_call 18; refine (hsz _).mono ?_; rintro e w1 ⟨rfl, hb1⟩))
    go_ret
    exact ⟨rfl, below_seq hB0 hb1⟩
end Go.Proofs.Ythkopbkceeggjab
