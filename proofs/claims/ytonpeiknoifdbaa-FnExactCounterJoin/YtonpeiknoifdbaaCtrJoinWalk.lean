/- The walk of the law over both functions CounterJoin: it answers true at every two counters. -/
import Derived.Test.YtonpeiknoifdbaaCtrJoinSpec
import Derived.Test.YtonpeiknoifdbaaCtrAddSpec
import Derived.Test.YtonpeiknoifdbaaCtrMarks
import Derived.Test.YtonpeiknoifdbaaCtrValWalk
import Derived.Deep.Cut
namespace Go.Proofs.Ytonpeiknoifdbaa
open Go.RowKit
set_option linter.unusedVariables false

theorem base4c {w w1 : World} {T : TypeId} {va vb va' vb' : Value} (h : Below ((w.alloc (.cells #[va, vb] T)).alloc (.cells #[va', vb'] T)).heap.size ((w.alloc (.cells #[va, vb] T)).alloc (.cells #[va', vb'] T)) w1) :
    w1.cell? ⟨w.heap.size, 0, none⟩ = some va ∧ w1.cell? ⟨w.heap.size, 1, none⟩ = some vb ∧ w1.cell? ⟨w.heap.size + 1, 0, none⟩ = some va' ∧ w1.cell? ⟨w.heap.size + 1, 1, none⟩ = some vb' := by
  have k := two_cells h
  rw [World.size_alloc] at k
  have k' := two_cells (below_seq (below_alloc _ _) h)
  exact ⟨k'.1, k'.2, k.1, k.2⟩
theorem keep4 {w : World} {n : Nat} {x y z u : Value} (h : w.cell? ⟨n, 0, none⟩ = some x ∧ w.cell? ⟨n, 1, none⟩ = some y ∧ w.cell? ⟨n + 1, 0, none⟩ = some z ∧ w.cell? ⟨n + 1, 1, none⟩ = some u) (o : Obj) :
    (w.alloc o).cell? ⟨n, 0, none⟩ = some x ∧ (w.alloc o).cell? ⟨n, 1, none⟩ = some y ∧ (w.alloc o).cell? ⟨n + 1, 0, none⟩ = some z ∧ (w.alloc o).cell? ⟨n + 1, 1, none⟩ = some u :=
  ⟨alloc_keep h.1 o, alloc_keep h.2.1 o, alloc_keep h.2.2.1 o, alloc_keep h.2.2.2 o⟩
theorem DyH.drew {w : World} {n : Nat} {x y : Value} (h : Hid (Dy w n x y)) : Hid (Dy w.drew n x y) := h
theorem ownD {e : TypeId} {w : World} {B : Nat} {v : Value} {cs : List Value} (h : Own e w B v cs) : Own e w.drew B v cs := h
theorem DyH.kept {w w' : World} {u v x y : Value} {n : Nat} (h : Keeps w w' u v) (hd : Hid (Dy w n x y)) (hu : u.ownBlock ≠ some n) (hv : v.ownBlock ≠ some n) : Hid (Dy w' n x y) := h.dy hd.out hu hv
theorem jn_len (ok : Bool) (xs ys xs' ys' : List Int) (h : ok = jnOK xs ys xs' ys') : (jnA ok xs xs').length ≤ 16 ∧ (jnA ok ys ys').length ≤ 16 := by
  unfold jnA
  split
  · rename_i e
    rw [h] at e
    unfold jnOK at e
    simp only [Bool.and_eq_true] at e
    have := (vecOK_get e.1.1).1
    have := (vecOK_get e.1.2).1
    simp
    omega
  · simp

set_option maxHeartbeats 40000000 in
set_option maxRecDepth 100000 in
theorem lawCounterJoin_walk (ao : Option Addr) (la ca : Nat) (za : List Int) (bo : Option Addr) (lb cb : Nat) (zb : List Int) (ao' : Option Addr) (la' ca' : Nat) (za' : List Int) (bo' : Option Addr) (lb' cb' : Nat) (zb' : List Int) (w : World) (hra : IsRow .i64 w ao la ca za) (hrb : IsRow .i64 w bo lb cb zb) (hra' : IsRow .i64 w ao' la' ca' za') (hrb' : IsRow .i64 w bo' lb' cb' zb') :
    Calls Try.prog 7 #[.agg #[.slice ao la ca, .slice bo lb cb], .agg #[.slice ao' la' ca', .slice bo' lb' cb']] w fun e w' => e = .returned (.bool true) ∧ Below w.heap.size w w' := by
  have hma := row_len hra
  have hmb := row_len hrb
  have hma' := row_len hra'
  have hmb' := row_len hrb'
  obtain ⟨ha, hla⟩ := hra.rd
  obtain ⟨hb, hlb⟩ := hrb.rd
  obtain ⟨ha', hla'⟩ := hra'.rd
  obtain ⟨hb2, hlb'⟩ := hrb'.rd
  generalize za.take la = xs at ha hla
  generalize zb.take lb = ys at hb hlb
  generalize za'.take la' = xs' at ha' hla'
  generalize zb'.take lb' = ys' at hb2 hlb'
  clear hra hrb hra' hrb'
  subst hla hlb hla' hlb'
  have hB0 : Below w.heap.size w ((w.alloc (.cells #[.slice ao xs.length ca, .slice bo ys.length cb] 50)).alloc (.cells #[.slice ao' xs'.length ca', .slice bo' ys'.length cb'] 50)) := below_then (below_alloc _ _) _
  have hB := Below.refl ((w.alloc (.cells #[.slice ao xs.length ca, .slice bo ys.length cb] 50)).alloc (.cells #[.slice ao' xs'.length ca', .slice bo' ys'.length cb'] 50)).heap.size ((w.alloc (.cells #[.slice ao xs.length ca, .slice bo ys.length cb] 50)).alloc (.cells #[.slice ao' xs'.length ca', .slice bo' ys'.length cb'] 50))
  have hsz := fun w' => szCounter_any ao xs.length ca bo ys.length cb 1048576 (by omega) hma hmb w'
  by_cases h : xs.length + ys.length ≤ 1048576
  · rw [left2_yes h] at hsz
    have h1 : ¬ ((1048576 - xs.length - ys.length : Nat) : Int) < 0 := by omega
    have hsz2 := fun w' => szCounter_any ao' xs'.length ca' bo' ys'.length cb' (1048576 - xs.length - ys.length) (by omega) hma' hmb' w'
    have hlx : xs.length ≤ 1048576 := by omega
    have hly : ys.length ≤ 1048576 := by omega
    go_enter Try.func7, Try.ntmps7
    go_wp2_with fail
    refine (hsz _).mono ?_
    rintro e w1 ⟨rfl, hb1⟩
    replace hB := below_seq hB hb1
    clear hsz hb1
    obtain ⟨c0, c1, d0, d1⟩ := base4c hB
    by_cases h2 : xs'.length + ys'.length ≤ 1048576 - xs.length - ys.length
    · rw [left2_yes h2] at hsz2
      have h3 : ¬ ((1048576 - xs.length - ys.length - xs'.length - ys'.length : Nat) : Int) < 0 := by omega
      have hlx' : xs'.length ≤ 1048576 := by omega
      have hly' : ys'.length ≤ 1048576 := by omega
      have hP := fun (w' : World) (va vb va' vb' : Value) (q1 : Rd w'.heap.size w' va (xs.map (Value.int .i64))) (q2 : Rd w'.heap.size w' vb (ys.map (Value.int .i64))) (q3 : Rd w'.heap.size w' va' (xs'.map (Value.int .i64))) (q4 : Rd w'.heap.size w' vb' (ys'.map (Value.int .i64))) => specCounterJoin_any _ _ _ _ w' va vb va' vb' xs ys xs' ys' (Nat.le_refl _) (Nat.le_refl _) (Nat.le_refl _) (Nat.le_refl _) q1 q2 q3 q4
      have hI := fun (w' : World) (va vb va' vb' : Value) (q1 : Rd w'.heap.size w' va (xs.map (Value.int .i64))) (q2 : Rd w'.heap.size w' vb (ys.map (Value.int .i64))) (q3 : Rd w'.heap.size w' va' (xs'.map (Value.int .i64))) (q4 : Rd w'.heap.size w' vb' (ys'.map (Value.int .i64))) => implCounterJoin_any _ _ _ _ w' va vb va' vb' xs ys xs' ys' (Nat.le_refl _) (Nat.le_refl _) (Nat.le_refl _) (Nat.le_refl _) q1 q2 q3 q4
      unfold TwoAns at hP hI
      have hAB := jn_len _ xs ys xs' ys' rfl
      generalize jnA (jnOK xs ys xs' ys') xs xs' = us at hP hI hAB
      generalize jnA (jnOK xs ys xs' ys') ys ys' = vs at hP hI hAB
      generalize jnC (jnOK xs ys xs' ys') = k at hP hI
      obtain ⟨l1, l2⟩ := hAB
      have mk : Hid True := trivial
      go_wp2_with fail
      refine (hsz2 _).mono ?_
      rintro e w2 ⟨rfl, hb3⟩
      replace hB := below_seq hB hb3
      clear hsz2 hb3 c0 c1 d0 d1
      have z2 := hB.size
      simp only [World.size_alloc] at z2
      go_wp2_with fail
      go_cut [6, 7] from 17 (fun s6 s7 wx => ∃ (P : Nat) (ra : Option Addr) (rl rc : Nat) (sa : Option Addr) (sl sc : Nat) (T : TypeId), s6 = .pointer (some ⟨P, 0, none⟩) ∧ s7 = .int .i64 k ∧ Hid (Dy wx P (.slice ra rl rc) (.slice sa sl sc)) ∧ Own T wx (w.heap.size + 1 + 1) (.slice ra rl rc) (us.map (Value.int .i64)) ∧ Own T wx (w.heap.size + 1 + 1) (.slice sa sl sc) (vs.map (Value.int .i64)) ∧ w.heap.size + 1 + 1 ≤ P ∧ Below ((w.alloc (.cells #[.slice ao xs.length ca, .slice bo ys.length cb] 50)).alloc (.cells #[.slice ao' xs'.length ca', .slice bo' ys'.length cb'] 50)).heap.size ((w.alloc (.cells #[.slice ao xs.length ca, .slice bo ys.length cb] 50)).alloc (.cells #[.slice ao' xs'.length ca', .slice bo' ys'.length cb'] 50)) wx ∧ Below w2.heap.size w2 wx)
      case first =>
        have hBx := hB
        have hSx := base4c hBx
        have hK := (Below.refl w2.heap.size w2).drew
        replace hB := hB.drew
        have hS := base4c hB
        go_region_held3 (fun w' => w'.cell? ⟨w.heap.size, 0, none⟩ = some (.slice ao xs.length ca) ∧ w'.cell? ⟨w.heap.size, 1, none⟩ = some (.slice bo ys.length cb) ∧ w'.cell? ⟨w.heap.size + 1, 0, none⟩ = some (.slice ao' xs'.length ca') ∧ w'.cell? ⟨w.heap.size + 1, 1, none⟩ = some (.slice bo' ys'.length cb')) (first | exact hS | exact keep4 hSx (.cells #[.slice none 0 0, .slice none 0 0] 55) | exact keep4 hS _ | exact four_set hS (by omega) _ _ | exact four_set (keep4 hS _) (by omega) _ _) (first | (go_at_call 25; clear mk; refine Calls.mono (toCounter_any w.heap.size w.heap.size _ (.slice ao xs.length ca) (.slice bo ys.length cb) xs ys hlx hly (by first | exact (below_seq hB0 hB).size | exact (below_then (below_seq hB0 hB) (.cells #[.slice none 0 0, .slice none 0 0] 55)).size | exact (below_then (below_seq hB0 hBx) (.cells #[.slice none 0 0, .slice none 0 0] 55)).drew.size) (by first | exact (below_seq hB0 hB).size | exact (below_then (below_seq hB0 hB) (.cells #[.slice none 0 0, .slice none 0 0] 55)).size | exact (below_then (below_seq hB0 hBx) (.cells #[.slice none 0 0, .slice none 0 0] 55)).drew.size) (by first | exact Rd.belowW ha (below_seq hB0 hB) (Nat.le_refl _) | exact Rd.belowW ha (below_then (below_seq hB0 hB) (.cells #[.slice none 0 0, .slice none 0 0] 55)) (Nat.le_refl _) | exact Rd.belowW ha (below_then (below_seq hB0 hBx) (.cells #[.slice none 0 0, .slice none 0 0] 55)).drew (Nat.le_refl _)) (by first | exact Rd.belowW hb (below_seq hB0 hB) (Nat.le_refl _) | exact Rd.belowW hb (below_then (below_seq hB0 hB) (.cells #[.slice none 0 0, .slice none 0 0] 55)) (Nat.le_refl _) | exact Rd.belowW hb (below_then (below_seq hB0 hBx) (.cells #[.slice none 0 0, .slice none 0 0] 55)).drew (Nat.le_refl _))) ?_; rintro e v3 ⟨a3, k3, b3, m3, rfl, hq3, hr3, hb'⟩; (first | (replace hB := below_seq hB hb'; replace hK := below_seq hK hb'; (try replace HN := DyH.on HN hb'); have hy := hb'.size; (try simp only [World.size_drew] at hy); (try simp only [World.size_alloc] at hy); replace hS := base4c hB; clear hb') | (have HN := DyH.on (Dy.madeD w2 (.slice none 0 0) (.slice none 0 0) 55) hb'; replace hB := below_seq (below_then hBx (.cells #[.slice none 0 0, .slice none 0 0] 55)).drew hb'; replace hK := below_seq (below_alloc w2 (.cells #[.slice none 0 0, .slice none 0 0] 55)).drew hb'; have hy := hb'.size; (try simp only [World.size_drew] at hy); (try simp only [World.size_alloc] at hy); replace hS := base4c hB; clear hb') | (have HN := DyH.on (Dy.madeH _ (.slice none 0 0) (.slice none 0 0) 55) hb'; replace hB := below_seq (below_then hB (.cells #[.slice none 0 0, .slice none 0 0] 55)) hb'; replace hK := below_seq (below_then hK (.cells #[.slice none 0 0, .slice none 0 0] 55)) hb'; have hy := hb'.size; (try simp only [World.size_drew] at hy); (try simp only [World.size_alloc] at hy); replace hS := base4c hB; clear hb'))) | (go_at_call 25; refine Calls.mono (toCounter_any w.heap.size w.heap.size _ (.slice ao' xs'.length ca') (.slice bo' ys'.length cb') xs' ys' hlx' hly' (by first | exact (below_seq hB0 hB).size | exact (below_then (below_seq hB0 hB) (.cells #[.slice none 0 0, .slice none 0 0] 55)).size | exact (below_then (below_seq hB0 hBx) (.cells #[.slice none 0 0, .slice none 0 0] 55)).drew.size) (by first | exact (below_seq hB0 hB).size | exact (below_then (below_seq hB0 hB) (.cells #[.slice none 0 0, .slice none 0 0] 55)).size | exact (below_then (below_seq hB0 hBx) (.cells #[.slice none 0 0, .slice none 0 0] 55)).drew.size) (by first | exact Rd.belowW ha' (below_seq hB0 hB) (Nat.le_refl _) | exact Rd.belowW ha' (below_then (below_seq hB0 hB) (.cells #[.slice none 0 0, .slice none 0 0] 55)) (Nat.le_refl _) | exact Rd.belowW ha' (below_then (below_seq hB0 hBx) (.cells #[.slice none 0 0, .slice none 0 0] 55)).drew (Nat.le_refl _)) (by first | exact Rd.belowW hb2 (below_seq hB0 hB) (Nat.le_refl _) | exact Rd.belowW hb2 (below_then (below_seq hB0 hB) (.cells #[.slice none 0 0, .slice none 0 0] 55)) (Nat.le_refl _) | exact Rd.belowW hb2 (below_then (below_seq hB0 hBx) (.cells #[.slice none 0 0, .slice none 0 0] 55)).drew (Nat.le_refl _))) ?_; rintro e v4 ⟨a4, k4, b4, m4, rfl, hq4, hr4, hb'⟩; (first | (replace hB := below_seq hB hb'; replace hK := below_seq hK hb'; (try replace HN := DyH.on HN hb'); replace hq3 := hq3.below hb' (Nat.le_refl _); replace hr3 := hr3.below hb' (Nat.le_refl _); have hy := hb'.size; (try simp only [World.size_drew] at hy); (try simp only [World.size_alloc] at hy); replace hS := base4c hB; clear hb') | (have HN := DyH.on (Dy.madeD w2 (.slice none 0 0) (.slice none 0 0) 55) hb'; replace hB := below_seq (below_then hBx (.cells #[.slice none 0 0, .slice none 0 0] 55)).drew hb'; replace hK := below_seq (below_alloc w2 (.cells #[.slice none 0 0, .slice none 0 0] 55)).drew hb'; have hy := hb'.size; (try simp only [World.size_drew] at hy); (try simp only [World.size_alloc] at hy); replace hS := base4c hB; clear hb') | (have HN := DyH.on (Dy.madeH _ (.slice none 0 0) (.slice none 0 0) 55) hb'; replace hB := below_seq (below_then hB (.cells #[.slice none 0 0, .slice none 0 0] 55)) hb'; replace hK := below_seq (below_then hK (.cells #[.slice none 0 0, .slice none 0 0] 55)) hb'; replace hq3 := (ownA hq3 (.cells #[.slice none 0 0, .slice none 0 0] 55)).below hb' (Nat.le_refl _); replace hr3 := (ownA hr3 (.cells #[.slice none 0 0, .slice none 0 0] 55)).below hb' (Nat.le_refl _); have hy := hb'.size; (try simp only [World.size_drew] at hy); (try simp only [World.size_alloc] at hy); replace hS := base4c hB; clear hb'))) | (go_at_call 32; refine Calls.mono (hP _ _ _ _ _ (by first | exact hq3.rd | exact (ownA hq3 (.cells #[.slice none 0 0, .slice none 0 0] 55)).rd) (by first | exact hr3.rd | exact (ownA hr3 (.cells #[.slice none 0 0, .slice none 0 0] 55)).rd) (by first | exact hq4.rd | exact (ownA hq4 (.cells #[.slice none 0 0, .slice none 0 0] 55)).rd) (by first | exact hr4.rd | exact (ownA hr4 (.cells #[.slice none 0 0, .slice none 0 0] 55)).rd)) ?_; rintro e v5 ⟨a5, n5, k5, b5, m5, j5, T5, rfl, ho5, hp5, hap5, hb'⟩; (try simp only [World.size_alloc] at ho5); (try simp only [World.size_alloc] at hp5); have l5 := ho5.lt; have r5 := hp5.lt; have s5 := ho5.blk; have t5 := hp5.blk; (first | (replace hB := below_seq hB hb'; replace hK := below_seq hK hb'; (try replace HN := DyH.on HN hb'); have hy := hb'.size; (try simp only [World.size_drew] at hy); (try simp only [World.size_alloc] at hy); replace hS := base4c hB; clear hb') | (have HN := DyH.on (Dy.madeD w2 (.slice none 0 0) (.slice none 0 0) 55) hb'; replace hB := below_seq (below_then hBx (.cells #[.slice none 0 0, .slice none 0 0] 55)).drew hb'; replace hK := below_seq (below_alloc w2 (.cells #[.slice none 0 0, .slice none 0 0] 55)).drew hb'; have hy := hb'.size; (try simp only [World.size_drew] at hy); (try simp only [World.size_alloc] at hy); replace hS := base4c hB; clear hb') | (have HN := DyH.on (Dy.madeH _ (.slice none 0 0) (.slice none 0 0) 55) hb'; replace hB := below_seq (below_then hB (.cells #[.slice none 0 0, .slice none 0 0] 55)) hb'; replace hK := below_seq (below_then hK (.cells #[.slice none 0 0, .slice none 0 0] 55)) hb'; have hy := hb'.size; (try simp only [World.size_drew] at hy); (try simp only [World.size_alloc] at hy); replace hS := base4c hB; clear hb')); (try (obtain ⟨⟨b0, b1⟩, hf⟩ := HN.out; have f0 := hf 0; have f1 := hf 1))))
        all_goals
          go_wp2_with fail
          go_meet
        all_goals
          first
          | (case rel => exact ⟨v5.heap.size, a5, n5, k5, b5, m5, j5, T5, rfl, rfl, Dy.madeH _ _ _ _, ownA (ho5.mono (by omega)) _, ownA (hp5.mono (by omega)) _, by omega, below_then hB _, below_then hK _⟩)
          | (case rel => exact ⟨_, a5, n5, k5, b5, m5, j5, T5, rfl, rfl, Dy.set1 (Dy.set0 HN.out _) _, Own.besides (Own.besides (ho5.mono (by omega)) (fun i hi => by have := l5 i hi; have := s5 i hi; omega) _ _) (fun i hi => by have := l5 i hi; have := s5 i hi; omega) _ _, Own.besides (Own.besides (hp5.mono (by omega)) (fun i hi => by have := r5 i hi; have := t5 i hi; omega) _ _) (fun i hi => by have := r5 i hi; have := t5 i hi; omega) _ _, by omega, (hB.setCell (by simp only [World.size_alloc]; omega) _).setCell (by simp only [World.size_alloc]; omega) _, (hK.setCell (by first | exact Nat.le_refl _ | (dsimp only; omega)) _).setCell (by first | exact Nat.le_refl _ | (dsimp only; omega)) _⟩)
      case rest =>
        clear hB z2 hP
        obtain ⟨P, a3, n3, k3, b3, m3, j3, T3, rfl, rfl, HP, ho3, hp3, hPz, hB, _⟩ := hcut
        have z2 := hB.size
        simp only [World.size_alloc] at z2
        have hPl := HP.out.lt
        have v3 := ho3.blk
        have x3 := hp3.blk
        obtain ⟨c0, c1, d0, d1⟩ := base4c hB
        go_wp2_with fail
        refine (toCounter_ap w.heap.size w.heap.size _ _ _ xs ys hlx hly (below_seq hB0 hB).size (below_seq hB0 hB).size (ha.belowW (below_seq hB0 hB) (Nat.le_refl _)) (hb.belowW (below_seq hB0 hB) (Nat.le_refl _))).mono ?_
        rintro e w4 ⟨a4, k4, b4, m4, rfl, ho4, hp4, hap4, hb4⟩
        have z4 := hb4.size
        have v4 := ho4.blk
        have x4 := hp4.blk
        have l4 := ho4.lt
        have y4 := hp4.lt
        have HX : Hid (Dy _ w4.heap.size _ _) := Dy.made w4 (.slice a4 xs.length k4) (.slice b4 ys.length m4) 55
        replace hB := below_then (below_seq hB hb4) (.cells #[.slice a4 xs.length k4, .slice b4 ys.length m4] 55)
        replace HP := DyH.on (DyH.on HP hb4) (below_alloc w4 (.cells #[.slice a4 xs.length k4, .slice b4 ys.length m4] 55))
        replace ho3 := ownA (ho3.below hb4 (Nat.le_refl _)) (.cells #[.slice a4 xs.length k4, .slice b4 ys.length m4] 55)
        replace hp3 := ownA (hp3.below hb4 (Nat.le_refl _)) (.cells #[.slice a4 xs.length k4, .slice b4 ys.length m4] 55)
        replace ho4 := ownA ho4 (.cells #[.slice a4 xs.length k4, .slice b4 ys.length m4] 55)
        replace hp4 := ownA hp4 (.cells #[.slice a4 xs.length k4, .slice b4 ys.length m4] 55)
        clear c0 c1 d0 d1 hb4
        obtain ⟨c0, c1, d0, d1⟩ := base4c hB
        go_wp2_with fail
        refine (toCounter_ap w.heap.size w.heap.size _ _ _ xs' ys' hlx' hly' (below_seq hB0 hB).size (below_seq hB0 hB).size (ha'.belowW (below_seq hB0 hB) (Nat.le_refl _)) (hb2.belowW (below_seq hB0 hB) (Nat.le_refl _))).mono ?_
        rintro e w5 ⟨a5, k5, b5, m5, rfl, ho5, hp5, hap5, hb5⟩
        have z5 := hb5.size
        rw [World.size_alloc] at z5 ho5 hp5
        have v5 := ho5.blk
        have x5 := hp5.blk
        have l5 := ho5.lt
        have y5 := hp5.lt
        have HY : Hid (Dy _ w5.heap.size _ _) := Dy.made w5 (.slice a5 xs'.length k5) (.slice b5 ys'.length m5) 55
        replace hB := below_then (below_seq hB hb5) (.cells #[.slice a5 xs'.length k5, .slice b5 ys'.length m5] 55)
        replace HP := DyH.on (DyH.on HP hb5) (below_alloc w5 (.cells #[.slice a5 xs'.length k5, .slice b5 ys'.length m5] 55))
        replace HX := DyH.on (DyH.on HX hb5) (below_alloc w5 (.cells #[.slice a5 xs'.length k5, .slice b5 ys'.length m5] 55))
        replace ho3 := ownA (ho3.below hb5 (Nat.le_refl _)) (.cells #[.slice a5 xs'.length k5, .slice b5 ys'.length m5] 55)
        replace hp3 := ownA (hp3.below hb5 (Nat.le_refl _)) (.cells #[.slice a5 xs'.length k5, .slice b5 ys'.length m5] 55)
        replace ho4 := ownA (ho4.below hb5 (Nat.le_refl _)) (.cells #[.slice a5 xs'.length k5, .slice b5 ys'.length m5] 55)
        replace hp4 := ownA (hp4.below hb5 (Nat.le_refl _)) (.cells #[.slice a5 xs'.length k5, .slice b5 ys'.length m5] 55)
        replace ho5 := ownA ho5 (.cells #[.slice a5 xs'.length k5, .slice b5 ys'.length m5] 55)
        replace hp5 := ownA hp5 (.cells #[.slice a5 xs'.length k5, .slice b5 ys'.length m5] 55)
        clear c0 c1 d0 d1 hb5
        obtain ⟨⟨e0, e1⟩, _⟩ := HX.out
        obtain ⟨⟨g0, g1⟩, _⟩ := HY.out
        go_wp2_with fail
        refine (hI _ _ _ _ _ ho4.rd hp4.rd ho5.rd hp5.rd).mono ?_
        rintro e w6 ⟨a6, n6, k6, b6, m6, j6, T6, rfl, ho6, hp6, hap6, hb6⟩
        have z6 := hb6.size
        rw [World.size_alloc] at z6 ho6 hp6
        have v6 := ho6.blk
        have x6 := hp6.blk
        have l6 := ho6.lt
        have y6 := hp6.lt
        have HG : Hid (Dy _ w6.heap.size _ _) := Dy.made w6 (.slice a6 n6 k6) (.slice b6 m6 j6) 55
        replace hB := below_then (below_seq hB hb6) (.cells #[.slice a6 n6 k6, .slice b6 m6 j6] 55)
        replace HP := DyH.on (DyH.on HP hb6) (below_alloc w6 (.cells #[.slice a6 n6 k6, .slice b6 m6 j6] 55))
        replace HX := DyH.on (DyH.on HX hb6) (below_alloc w6 (.cells #[.slice a6 n6 k6, .slice b6 m6 j6] 55))
        replace HY := DyH.on (DyH.on HY hb6) (below_alloc w6 (.cells #[.slice a6 n6 k6, .slice b6 m6 j6] 55))
        replace ho3 := ownA (ho3.below hb6 (Nat.le_refl _)) (.cells #[.slice a6 n6 k6, .slice b6 m6 j6] 55)
        replace hp3 := ownA (hp3.below hb6 (Nat.le_refl _)) (.cells #[.slice a6 n6 k6, .slice b6 m6 j6] 55)
        replace ho4 := ownA (ho4.below hb6 (Nat.le_refl _)) (.cells #[.slice a6 n6 k6, .slice b6 m6 j6] 55)
        replace hp4 := ownA (hp4.below hb6 (Nat.le_refl _)) (.cells #[.slice a6 n6 k6, .slice b6 m6 j6] 55)
        replace ho5 := ownA (ho5.below hb6 (Nat.le_refl _)) (.cells #[.slice a6 n6 k6, .slice b6 m6 j6] 55)
        replace hp5 := ownA (hp5.below hb6 (Nat.le_refl _)) (.cells #[.slice a6 n6 k6, .slice b6 m6 j6] 55)
        replace ho6 := ownA ho6 (.cells #[.slice a6 n6 k6, .slice b6 m6 j6] 55)
        replace hp6 := ownA hp6 (.cells #[.slice a6 n6 k6, .slice b6 m6 j6] 55)
        clear e0 e1 g0 g1 hb6
        obtain ⟨⟨p0, p1⟩, _⟩ := HP.out
        go_wp2_with fail
        refine (eqCounter_same _ _ _ _ _ _ _ _ _ us vs (by omega) (by omega) (Nat.le_refl _) (Nat.le_refl _) (Nat.le_refl _) (Nat.le_refl _) ho6.rd hp6.rd ho3.rd hp3.rd).mono ?_
        rintro e w7 ⟨rfl, hb7⟩
        have z7 := hb7.size
        rw [World.size_alloc] at z7
        replace hb7 := hb7.drew
        replace hB := below_seq hB hb7
        replace HP := DyH.on HP hb7
        replace HX := DyH.on HX hb7
        replace HY := DyH.on HY hb7
        replace HG := DyH.on HG hb7
        replace ho3 := ho3.below hb7 (Nat.le_refl _)
        replace hp3 := hp3.below hb7 (Nat.le_refl _)
        replace ho4 := ho4.below hb7 (Nat.le_refl _)
        replace hp4 := hp4.below hb7 (Nat.le_refl _)
        replace ho5 := ho5.below hb7 (Nat.le_refl _)
        replace hp5 := hp5.below hb7 (Nat.le_refl _)
        replace ho6 := ho6.below hb7 (Nat.le_refl _)
        replace hp6 := hp6.below hb7 (Nat.le_refl _)
        clear hb7 p0 p1
        go_wp2_with fail
        go_region_held2 (fun w' => w'.cell? ⟨w.heap.size, 0, none⟩ = some (.slice ao xs.length ca) ∧ w'.cell? ⟨w.heap.size, 1, none⟩ = some (.slice bo ys.length cb) ∧ w'.cell? ⟨w4.heap.size, 0, none⟩ = some (.slice a4 xs.length k4) ∧ w'.cell? ⟨w4.heap.size, 1, none⟩ = some (.slice b4 ys.length m4)) (exact ⟨(base4c hB).1, (base4c hB).2.1, HX.out.1.1, HX.out.1.2⟩) (first | (go_at_call 25; refine (toCounter_any w.heap.size w.heap.size _ _ _ xs ys hlx hly (below_seq hB0 hB).size (below_seq hB0 hB).size (ha.belowW (below_seq hB0 hB) (Nat.le_refl _)) (hb.belowW (below_seq hB0 hB) (Nat.le_refl _))).mono ?_; rintro e w8 ⟨a8, k8, b8, m8, rfl, ho8, hp8, hb8⟩; have z8 := hb8.size; (try simp only [World.size_drew] at z8); replace hB := below_seq hB hb8; replace HP := DyH.on HP hb8; replace HX := DyH.on HX hb8; replace HY := DyH.on HY hb8; replace HG := DyH.on HG hb8; replace ho3 := ho3.below hb8 (Nat.le_refl _); replace hp3 := hp3.below hb8 (Nat.le_refl _); replace ho4 := ho4.below hb8 (Nat.le_refl _); replace hp4 := hp4.below hb8 (Nat.le_refl _); replace ho5 := ho5.below hb8 (Nat.le_refl _); replace hp5 := hp5.below hb8 (Nat.le_refl _); replace ho6 := ho6.below hb8 (Nat.le_refl _); replace hp6 := hp6.below hb8 (Nat.le_refl _); clear hb8) | (go_at_call 27; refine (eqCounter_same _ _ _ _ _ _ _ _ _ xs ys (by omega) (by omega) (Nat.le_refl _) (Nat.le_refl _) (Nat.le_refl _) (Nat.le_refl _) ho4.rd hp4.rd ho8.rd hp8.rd).mono ?_; rintro e w9 ⟨rfl, hb9⟩; have z9 := hb9.size; replace hB := below_seq hB hb9; replace HP := DyH.on HP hb9; replace HX := DyH.on HX hb9; replace HY := DyH.on HY hb9; replace HG := DyH.on HG hb9; replace ho3 := ho3.below hb9 (Nat.le_refl _); replace hp3 := hp3.below hb9 (Nat.le_refl _); replace ho4 := ho4.below hb9 (Nat.le_refl _); replace hp4 := hp4.below hb9 (Nat.le_refl _); replace ho5 := ho5.below hb9 (Nat.le_refl _); replace hp5 := hp5.below hb9 (Nat.le_refl _); replace ho6 := ho6.below hb9 (Nat.le_refl _); replace hp6 := hp6.below hb9 (Nat.le_refl _); clear hb9))
        clear ho8 hp8
        replace hB := hB.drew
        replace HP := DyH.drew HP
        replace HX := DyH.drew HX
        replace HY := DyH.drew HY
        replace HG := DyH.drew HG
        replace ho3 := ownD ho3
        replace hp3 := ownD hp3
        replace ho4 := ownD ho4
        replace hp4 := ownD hp4
        replace ho5 := ownD ho5
        replace hp5 := ownD hp5
        replace ho6 := ownD ho6
        replace hp6 := ownD hp6
        go_wp2_with fail
        go_region_held2 (fun w' => w'.cell? ⟨w.heap.size + 1, 0, none⟩ = some (.slice ao' xs'.length ca') ∧ w'.cell? ⟨w.heap.size + 1, 1, none⟩ = some (.slice bo' ys'.length cb') ∧ w'.cell? ⟨w5.heap.size, 0, none⟩ = some (.slice a5 xs'.length k5) ∧ w'.cell? ⟨w5.heap.size, 1, none⟩ = some (.slice b5 ys'.length m5)) (exact ⟨(base4c hB).2.2.1, (base4c hB).2.2.2, HY.out.1.1, HY.out.1.2⟩) (first | (go_at_call 25; refine (toCounter_any w.heap.size w.heap.size _ _ _ xs' ys' hlx' hly' (below_seq hB0 hB).size (below_seq hB0 hB).size (ha'.belowW (below_seq hB0 hB) (Nat.le_refl _)) (hb2.belowW (below_seq hB0 hB) (Nat.le_refl _))).mono ?_; rintro e w8b ⟨a8, k8, b8, m8, rfl, ho8, hp8, hb8⟩; have z8 := hb8.size; (try simp only [World.size_drew] at z8); replace hB := below_seq hB hb8; replace HP := DyH.on HP hb8; replace HX := DyH.on HX hb8; replace HY := DyH.on HY hb8; replace HG := DyH.on HG hb8; replace ho3 := ho3.below hb8 (Nat.le_refl _); replace hp3 := hp3.below hb8 (Nat.le_refl _); replace ho4 := ho4.below hb8 (Nat.le_refl _); replace hp4 := hp4.below hb8 (Nat.le_refl _); replace ho5 := ho5.below hb8 (Nat.le_refl _); replace hp5 := hp5.below hb8 (Nat.le_refl _); replace ho6 := ho6.below hb8 (Nat.le_refl _); replace hp6 := hp6.below hb8 (Nat.le_refl _); clear hb8) | (go_at_call 27; refine (eqCounter_same _ _ _ _ _ _ _ _ _ xs' ys' (by omega) (by omega) (Nat.le_refl _) (Nat.le_refl _) (Nat.le_refl _) (Nat.le_refl _) ho5.rd hp5.rd ho8.rd hp8.rd).mono ?_; rintro e w9b ⟨rfl, hb9⟩; have z9 := hb9.size; replace hB := below_seq hB hb9; replace HP := DyH.on HP hb9; replace HX := DyH.on HX hb9; replace HY := DyH.on HY hb9; replace HG := DyH.on HG hb9; replace ho3 := ho3.below hb9 (Nat.le_refl _); replace hp3 := hp3.below hb9 (Nat.le_refl _); replace ho4 := ho4.below hb9 (Nat.le_refl _); replace hp4 := hp4.below hb9 (Nat.le_refl _); replace ho5 := ho5.below hb9 (Nat.le_refl _); replace hp5 := hp5.below hb9 (Nat.le_refl _); replace ho6 := ho6.below hb9 (Nat.le_refl _); replace hp6 := hp6.below hb9 (Nat.le_refl _); clear hb9))
        clear ho8 hp8
        obtain ⟨⟨e0, e1⟩, _⟩ := HX.out
        go_wp2_with fail
        refine (markCounter_any wc.heap.size w9b _ _ _ _ _ _ _ _ 1 (by simp; omega) (by simp; omega) (by omega) (by omega) ho4 hp4 hap4).mono ?_
        rintro e w10 ⟨rfl, _, _, hb10, hk10⟩
        simp only [List.length_map]
        have z10 := hk10.1
        replace hB := hB.trans (hb10.mono (by simp only [World.size_alloc]; omega))
        replace HP := DyH.kept hk10 HP (fun e => by have := l4 _ e; omega) (fun e => by have := y4 _ e; omega)
        replace HY := DyH.kept hk10 HY (fun e => by have := v4 _ e; omega) (fun e => by have := x4 _ e; omega)
        replace HG := DyH.kept hk10 HG (fun e => by have := v4 _ e; omega) (fun e => by have := x4 _ e; omega)
        replace ho3 := hk10.own ho3 (fun i j hi hj => by have := l4 _ hi; have := v3 _ hj; omega) (fun i j hi hj => by have := y4 _ hi; have := v3 _ hj; omega)
        replace hp3 := hk10.own hp3 (fun i j hi hj => by have := l4 _ hi; have := x3 _ hj; omega) (fun i j hi hj => by have := y4 _ hi; have := x3 _ hj; omega)
        replace ho5 := hk10.own ho5 (fun i j hi hj => by have := v4 _ hi; have := l5 _ hj; omega) (fun i j hi hj => by have := x4 _ hi; have := l5 _ hj; omega)
        replace hp5 := hk10.own hp5 (fun i j hi hj => by have := v4 _ hi; have := y5 _ hj; omega) (fun i j hi hj => by have := x4 _ hi; have := y5 _ hj; omega)
        replace ho6 := hk10.own ho6 (fun i j hi hj => by have := v4 _ hi; have := l6 _ hj; omega) (fun i j hi hj => by have := x4 _ hi; have := l6 _ hj; omega)
        replace hp6 := hk10.own hp6 (fun i j hi hj => by have := v4 _ hi; have := y6 _ hj; omega) (fun i j hi hj => by have := x4 _ hi; have := y6 _ hj; omega)
        clear hb10 hk10 e0 e1 HX ho4 hp4
        obtain ⟨⟨e0, e1⟩, _⟩ := HY.out
        go_wp2_with fail
        refine (markCounter_any (w4.heap.size + 1) w10 _ _ _ _ _ _ _ _ (1 + xs.length + ys.length) (by simp; omega) (by simp; omega) (by omega) (by omega) ho5 hp5 hap5).mono ?_
        rintro e w10b ⟨rfl, _, _, hb10, hk10⟩
        simp only [List.length_map]
        have z10b := hk10.1
        replace hB := hB.trans (hb10.mono (by simp only [World.size_alloc]; omega))
        replace HP := DyH.kept hk10 HP (fun e => by have := l5 _ e; omega) (fun e => by have := y5 _ e; omega)
        replace HG := DyH.kept hk10 HG (fun e => by have := v5 _ e; omega) (fun e => by have := x5 _ e; omega)
        replace ho3 := hk10.own ho3 (fun i j hi hj => by have := l5 _ hi; have := v3 _ hj; omega) (fun i j hi hj => by have := y5 _ hi; have := v3 _ hj; omega)
        replace hp3 := hk10.own hp3 (fun i j hi hj => by have := l5 _ hi; have := x3 _ hj; omega) (fun i j hi hj => by have := y5 _ hi; have := x3 _ hj; omega)
        replace ho6 := hk10.own ho6 (fun i j hi hj => by have := v5 _ hi; have := l6 _ hj; omega) (fun i j hi hj => by have := x5 _ hi; have := l6 _ hj; omega)
        replace hp6 := hk10.own hp6 (fun i j hi hj => by have := v5 _ hi; have := y6 _ hj; omega) (fun i j hi hj => by have := x5 _ hi; have := y6 _ hj; omega)
        have hn10 : ¬ ((1 + xs.length + ys.length + xs'.length + ys'.length : Nat) : Int) < 0 := by omega
        clear hb10 hk10 e0 e1 HY ho5 hp5
        obtain ⟨⟨p0, p1⟩, _⟩ := HP.out
        obtain ⟨⟨g0, g1⟩, _⟩ := HG.out
        go_wp2_with fail
        refine (eqCounter_same _ _ _ _ _ _ _ _ _ us vs (by omega) (by omega) (Nat.le_refl _) (Nat.le_refl _) (Nat.le_refl _) (Nat.le_refl _) ho6.rd hp6.rd ho3.rd hp3.rd).mono ?_
        rintro e w11 ⟨rfl, hb11⟩
        have z11 := hb11.size
        replace hB := below_seq hB hb11
        replace HP := DyH.on HP hb11
        replace HG := DyH.on HG hb11
        replace ho3 := ho3.below hb11 (Nat.le_refl _)
        replace hp3 := hp3.below hb11 (Nat.le_refl _)
        replace ho6 := ho6.below hb11 (Nat.le_refl _)
        replace hp6 := hp6.below hb11 (Nat.le_refl _)
        clear hb11 p0 p1 g0 g1
        obtain ⟨⟨g0, g1⟩, _⟩ := HG.out
        go_wp2_with fail
        refine (markCounter_any (w5.heap.size + 1) w11 _ _ _ _ _ _ _ _ 1 (by simp; omega) (by simp; omega) (by omega) (by omega) ho6 hp6 hap6).mono ?_
        rintro e w12 ⟨rfl, ho7, hp7, hb12, hk12⟩
        simp only [List.length_map] at ho7 hp7 ⊢
        have z12 := hk12.1
        replace hB := hB.trans (hb12.mono (by simp only [World.size_alloc]; omega))
        replace HP := DyH.kept hk12 HP (fun e => by have := l6 _ e; omega) (fun e => by have := y6 _ e; omega)
        replace HG := DyH.kept hk12 HG (fun e => by have := v6 _ e; omega) (fun e => by have := x6 _ e; omega)
        replace ho3 := hk12.own ho3 (fun i j hi hj => by have := l6 _ hi; have := v3 _ hj; omega) (fun i j hi hj => by have := y6 _ hi; have := v3 _ hj; omega)
        replace hp3 := hk12.own hp3 (fun i j hi hj => by have := l6 _ hi; have := x3 _ hj; omega) (fun i j hi hj => by have := y6 _ hi; have := x3 _ hj; omega)
        clear hb12 hk12 g0 g1 ho6 hp6
        obtain ⟨⟨g0, g1⟩, _⟩ := HG.out
        have hn12 : ¬ ((1 + us.length + vs.length : Nat) : Int) < 0 := by omega
        go_wp2_with fail
        refine (heldCounter_same _ _ _ _ _ 1 us.length vs.length (by omega) (by omega) (by omega) (Nat.le_refl _) (Nat.le_refl _) ho7.rd hp7.rd).mono ?_
        rintro e w13 ⟨rfl, hb13⟩
        have z13 := hb13.size
        replace hB := below_seq hB hb13
        replace HP := DyH.on HP hb13
        replace HG := DyH.on HG hb13
        replace ho3 := ho3.below hb13 (Nat.le_refl _)
        replace hp3 := hp3.below hb13 (Nat.le_refl _)
        replace ho7 := ho7.below hb13 (Nat.le_refl _)
        replace hp7 := hp7.below hb13 (Nat.le_refl _)
        clear hb13 g0 g1
        have z2' := hB.size
        simp only [World.size_alloc] at z2'
        go_wp2_with fail
        go_cut [15, 16] from 17 (fun s15 s16 wx => ∃ (P : Nat) (ra : Option Addr) (rl rc : Nat) (sa : Option Addr) (sl sc : Nat) (T : TypeId), s15 = .pointer (some ⟨P, 0, none⟩) ∧ s16 = .int .i64 k ∧ Hid (Dy wx P (.slice ra rl rc) (.slice sa sl sc)) ∧ Own T wx (w.heap.size + 1 + 1) (.slice ra rl rc) (us.map (Value.int .i64)) ∧ Own T wx (w.heap.size + 1 + 1) (.slice sa sl sc) (vs.map (Value.int .i64)) ∧ w.heap.size + 1 + 1 ≤ P ∧ Below ((w.alloc (.cells #[.slice ao xs.length ca, .slice bo ys.length cb] 50)).alloc (.cells #[.slice ao' xs'.length ca', .slice bo' ys'.length cb'] 50)).heap.size ((w.alloc (.cells #[.slice ao xs.length ca, .slice bo ys.length cb] 50)).alloc (.cells #[.slice ao' xs'.length ca', .slice bo' ys'.length cb'] 50)) wx ∧ Below w13.heap.size w13 wx)
        case first =>
          have hBx := hB
          have hSx := base4c hBx
          have hK := (Below.refl w13.heap.size w13).drew
          replace hB := hB.drew
          have hS := base4c hB
          clear HP HG ho3 hp3 ho7 hp7
          go_region_held3 (fun w' => w'.cell? ⟨w.heap.size, 0, none⟩ = some (.slice ao xs.length ca) ∧ w'.cell? ⟨w.heap.size, 1, none⟩ = some (.slice bo ys.length cb) ∧ w'.cell? ⟨w.heap.size + 1, 0, none⟩ = some (.slice ao' xs'.length ca') ∧ w'.cell? ⟨w.heap.size + 1, 1, none⟩ = some (.slice bo' ys'.length cb')) (first | exact hS | exact keep4 hSx (.cells #[.slice none 0 0, .slice none 0 0] 55) | exact keep4 hS _ | exact four_set hS (by omega) _ _ | exact four_set (keep4 hS _) (by omega) _ _) (first | (go_at_call 25; clear mk; refine Calls.mono (toCounter_any w.heap.size w.heap.size _ (.slice ao xs.length ca) (.slice bo ys.length cb) xs ys hlx hly (by first | exact (below_seq hB0 hB).size | exact (below_then (below_seq hB0 hB) (.cells #[.slice none 0 0, .slice none 0 0] 55)).size | exact (below_then (below_seq hB0 hBx) (.cells #[.slice none 0 0, .slice none 0 0] 55)).drew.size) (by first | exact (below_seq hB0 hB).size | exact (below_then (below_seq hB0 hB) (.cells #[.slice none 0 0, .slice none 0 0] 55)).size | exact (below_then (below_seq hB0 hBx) (.cells #[.slice none 0 0, .slice none 0 0] 55)).drew.size) (by first | exact Rd.belowW ha (below_seq hB0 hB) (Nat.le_refl _) | exact Rd.belowW ha (below_then (below_seq hB0 hB) (.cells #[.slice none 0 0, .slice none 0 0] 55)) (Nat.le_refl _) | exact Rd.belowW ha (below_then (below_seq hB0 hBx) (.cells #[.slice none 0 0, .slice none 0 0] 55)).drew (Nat.le_refl _)) (by first | exact Rd.belowW hb (below_seq hB0 hB) (Nat.le_refl _) | exact Rd.belowW hb (below_then (below_seq hB0 hB) (.cells #[.slice none 0 0, .slice none 0 0] 55)) (Nat.le_refl _) | exact Rd.belowW hb (below_then (below_seq hB0 hBx) (.cells #[.slice none 0 0, .slice none 0 0] 55)).drew (Nat.le_refl _))) ?_; rintro e v3 ⟨a3, k3, b3, m3, rfl, hq3, hr3, hb'⟩; (first | (replace hB := below_seq hB hb'; replace hK := below_seq hK hb'; (try replace HN := DyH.on HN hb'); have hy := hb'.size; (try simp only [World.size_drew] at hy); (try simp only [World.size_alloc] at hy); replace hS := base4c hB; clear hb') | (have HN := DyH.on (Dy.madeD w13 (.slice none 0 0) (.slice none 0 0) 55) hb'; replace hB := below_seq (below_then hBx (.cells #[.slice none 0 0, .slice none 0 0] 55)).drew hb'; replace hK := below_seq (below_alloc w13 (.cells #[.slice none 0 0, .slice none 0 0] 55)).drew hb'; have hy := hb'.size; (try simp only [World.size_drew] at hy); (try simp only [World.size_alloc] at hy); replace hS := base4c hB; clear hb') | (have HN := DyH.on (Dy.madeH _ (.slice none 0 0) (.slice none 0 0) 55) hb'; replace hB := below_seq (below_then hB (.cells #[.slice none 0 0, .slice none 0 0] 55)) hb'; replace hK := below_seq (below_then hK (.cells #[.slice none 0 0, .slice none 0 0] 55)) hb'; have hy := hb'.size; (try simp only [World.size_drew] at hy); (try simp only [World.size_alloc] at hy); replace hS := base4c hB; clear hb'))) | (go_at_call 25; refine Calls.mono (toCounter_any w.heap.size w.heap.size _ (.slice ao' xs'.length ca') (.slice bo' ys'.length cb') xs' ys' hlx' hly' (by first | exact (below_seq hB0 hB).size | exact (below_then (below_seq hB0 hB) (.cells #[.slice none 0 0, .slice none 0 0] 55)).size | exact (below_then (below_seq hB0 hBx) (.cells #[.slice none 0 0, .slice none 0 0] 55)).drew.size) (by first | exact (below_seq hB0 hB).size | exact (below_then (below_seq hB0 hB) (.cells #[.slice none 0 0, .slice none 0 0] 55)).size | exact (below_then (below_seq hB0 hBx) (.cells #[.slice none 0 0, .slice none 0 0] 55)).drew.size) (by first | exact Rd.belowW ha' (below_seq hB0 hB) (Nat.le_refl _) | exact Rd.belowW ha' (below_then (below_seq hB0 hB) (.cells #[.slice none 0 0, .slice none 0 0] 55)) (Nat.le_refl _) | exact Rd.belowW ha' (below_then (below_seq hB0 hBx) (.cells #[.slice none 0 0, .slice none 0 0] 55)).drew (Nat.le_refl _)) (by first | exact Rd.belowW hb2 (below_seq hB0 hB) (Nat.le_refl _) | exact Rd.belowW hb2 (below_then (below_seq hB0 hB) (.cells #[.slice none 0 0, .slice none 0 0] 55)) (Nat.le_refl _) | exact Rd.belowW hb2 (below_then (below_seq hB0 hBx) (.cells #[.slice none 0 0, .slice none 0 0] 55)).drew (Nat.le_refl _))) ?_; rintro e v4 ⟨a4, k4, b4, m4, rfl, hq4, hr4, hb'⟩; (first | (replace hB := below_seq hB hb'; replace hK := below_seq hK hb'; (try replace HN := DyH.on HN hb'); replace hq3 := hq3.below hb' (Nat.le_refl _); replace hr3 := hr3.below hb' (Nat.le_refl _); have hy := hb'.size; (try simp only [World.size_drew] at hy); (try simp only [World.size_alloc] at hy); replace hS := base4c hB; clear hb') | (have HN := DyH.on (Dy.madeD w13 (.slice none 0 0) (.slice none 0 0) 55) hb'; replace hB := below_seq (below_then hBx (.cells #[.slice none 0 0, .slice none 0 0] 55)).drew hb'; replace hK := below_seq (below_alloc w13 (.cells #[.slice none 0 0, .slice none 0 0] 55)).drew hb'; have hy := hb'.size; (try simp only [World.size_drew] at hy); (try simp only [World.size_alloc] at hy); replace hS := base4c hB; clear hb') | (have HN := DyH.on (Dy.madeH _ (.slice none 0 0) (.slice none 0 0) 55) hb'; replace hB := below_seq (below_then hB (.cells #[.slice none 0 0, .slice none 0 0] 55)) hb'; replace hK := below_seq (below_then hK (.cells #[.slice none 0 0, .slice none 0 0] 55)) hb'; replace hq3 := (ownA hq3 (.cells #[.slice none 0 0, .slice none 0 0] 55)).below hb' (Nat.le_refl _); replace hr3 := (ownA hr3 (.cells #[.slice none 0 0, .slice none 0 0] 55)).below hb' (Nat.le_refl _); have hy := hb'.size; (try simp only [World.size_drew] at hy); (try simp only [World.size_alloc] at hy); replace hS := base4c hB; clear hb'))) | (go_at_call 33; refine Calls.mono (hI _ _ _ _ _ (by first | exact hq3.rd | exact (ownA hq3 (.cells #[.slice none 0 0, .slice none 0 0] 55)).rd) (by first | exact hr3.rd | exact (ownA hr3 (.cells #[.slice none 0 0, .slice none 0 0] 55)).rd) (by first | exact hq4.rd | exact (ownA hq4 (.cells #[.slice none 0 0, .slice none 0 0] 55)).rd) (by first | exact hr4.rd | exact (ownA hr4 (.cells #[.slice none 0 0, .slice none 0 0] 55)).rd)) ?_; rintro e v5 ⟨a5, n5, k5, b5, m5, j5, T5, rfl, ho5, hp5, hap5, hb'⟩; (try simp only [World.size_alloc] at ho5); (try simp only [World.size_alloc] at hp5); have l5 := ho5.lt; have r5 := hp5.lt; have s5 := ho5.blk; have t5 := hp5.blk; (first | (replace hB := below_seq hB hb'; replace hK := below_seq hK hb'; (try replace HN := DyH.on HN hb'); have hy := hb'.size; (try simp only [World.size_drew] at hy); (try simp only [World.size_alloc] at hy); replace hS := base4c hB; clear hb') | (have HN := DyH.on (Dy.madeD w13 (.slice none 0 0) (.slice none 0 0) 55) hb'; replace hB := below_seq (below_then hBx (.cells #[.slice none 0 0, .slice none 0 0] 55)).drew hb'; replace hK := below_seq (below_alloc w13 (.cells #[.slice none 0 0, .slice none 0 0] 55)).drew hb'; have hy := hb'.size; (try simp only [World.size_drew] at hy); (try simp only [World.size_alloc] at hy); replace hS := base4c hB; clear hb') | (have HN := DyH.on (Dy.madeH _ (.slice none 0 0) (.slice none 0 0) 55) hb'; replace hB := below_seq (below_then hB (.cells #[.slice none 0 0, .slice none 0 0] 55)) hb'; replace hK := below_seq (below_then hK (.cells #[.slice none 0 0, .slice none 0 0] 55)) hb'; have hy := hb'.size; (try simp only [World.size_drew] at hy); (try simp only [World.size_alloc] at hy); replace hS := base4c hB; clear hb')); (try (obtain ⟨⟨b0, b1⟩, hf⟩ := HN.out; have f0 := hf 0; have f1 := hf 1))))
          all_goals
            go_wp2_with fail
            go_meet
          all_goals
            first
            | (case rel => exact ⟨v5.heap.size, a5, n5, k5, b5, m5, j5, T5, rfl, rfl, Dy.madeH _ _ _ _, ownA (ho5.mono (by omega)) _, ownA (hp5.mono (by omega)) _, by omega, below_then hB _, below_then hK _⟩)
            | (case rel => exact ⟨_, a5, n5, k5, b5, m5, j5, T5, rfl, rfl, Dy.set1 (Dy.set0 HN.out _) _, Own.besides (Own.besides (ho5.mono (by omega)) (fun i hi => by have := l5 i hi; have := s5 i hi; omega) _ _) (fun i hi => by have := l5 i hi; have := s5 i hi; omega) _ _, Own.besides (Own.besides (hp5.mono (by omega)) (fun i hi => by have := r5 i hi; have := t5 i hi; omega) _ _) (fun i hi => by have := r5 i hi; have := t5 i hi; omega) _ _, by omega, (hB.setCell (by simp only [World.size_alloc]; omega) _).setCell (by simp only [World.size_alloc]; omega) _, (hK.setCell (by first | exact Nat.le_refl _ | (dsimp only; omega)) _).setCell (by first | exact Nat.le_refl _ | (dsimp only; omega)) _⟩)
        case rest =>
          obtain ⟨Q, a9, n9, k9, b9, m9, j9, T9, rfl, rfl, HQ, ho9, hp9, hQz, hB9, hK9⟩ := hcut
          replace HP := DyH.on HP hK9
          replace HG := DyH.on HG hK9
          replace ho3 := ho3.below hK9 (Nat.le_refl _)
          replace hp3 := hp3.below hK9 (Nat.le_refl _)
          replace ho7 := ho7.below hK9 (Nat.le_refl _)
          replace hp7 := hp7.below hK9 (Nat.le_refl _)
          clear hB hK9
          obtain ⟨⟨e0, e1⟩, _⟩ := HQ.out
          obtain ⟨⟨p0, p1⟩, _⟩ := HP.out
          go_wp2_with fail
          refine (eqCounter_same _ _ _ _ _ _ _ _ _ us vs (by omega) (by omega) (Nat.le_refl _) (Nat.le_refl _) (Nat.le_refl _) (Nat.le_refl _) ho9.rd hp9.rd ho3.rd hp3.rd).mono ?_
          rintro e w16 ⟨rfl, hb16⟩
          replace hB9 := below_seq hB9 hb16
          replace HG := DyH.on HG hb16
          replace ho7 := ho7.below hb16 (Nat.le_refl _)
          replace hp7 := hp7.below hb16 (Nat.le_refl _)
          clear hb16 p0 p1 e0 e1 HP HQ ho3 hp3 ho9 hp9
          obtain ⟨⟨g0, g1⟩, _⟩ := HG.out
          go_wp2_with fail
          refine (heldCounter_same _ _ _ _ _ 1 us.length vs.length (by omega) (by omega) (by omega) (Nat.le_refl _) (Nat.le_refl _) ho7.rd hp7.rd).mono ?_
          rintro e w17 ⟨rfl, hb17⟩
          replace hB9 := below_seq hB9 hb17
          go_wp2_with fail
          go_ret
          exact ⟨rfl, below_seq hB0 hB9⟩
    · rw [left2_no h2] at hsz2
      go_wp2_with fail
      refine (hsz2 _).mono ?_
      rintro e w2 ⟨rfl, hb2'⟩
      go_wp2_with fail
      go_ret
      exact ⟨rfl, below_seq hB0 (below_seq hB hb2')⟩
  · rw [left2_no h] at hsz
    go_enter Try.func7, Try.ntmps7
    go_wp2_with ((go_at_call 23; refine (hsz _).mono ?_; rintro e w1 ⟨rfl, hb1⟩))
    go_ret
    exact ⟨rfl, below_seq hB0 hb1⟩
end Go.Proofs.Ytonpeiknoifdbaa
