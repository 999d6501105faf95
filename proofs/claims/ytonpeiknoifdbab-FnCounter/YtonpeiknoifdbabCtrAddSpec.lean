/- What the specification's CounterAdd does. -/
import Derived.Test.YtonpeiknoifdbabCtrAddImpl
import Derived.Test.YtonpeiknoifdbabCtrVal
import Derived.Test.YtonpeiknoifdbabVecCopy
import Derived.Deep.RegionHeld3
import Derived.Deep.Cut
import Derived.BigRegion
namespace Go.Proofs.Ytonpeiknoifdbab
open Go.RowKit
set_option linter.unusedVariables false

/-- The argument's cells and the answer's. -/
theorem base4 {w w1 : World} {va vb : Value} (h : Below ((w.alloc (.cells #[va, vb] 36)).alloc (.cells #[.slice none 0 0, .slice none 0 0] 36)).heap.size ((w.alloc (.cells #[va, vb] 36)).alloc (.cells #[.slice none 0 0, .slice none 0 0] 36)) w1) :
    (w1.cell? ⟨w.heap.size, 0, none⟩ = some va ∧ w1.cell? ⟨w.heap.size, 1, none⟩ = some vb) ∧ Dy w1 (w.heap.size + 1) (.slice none 0 0) (.slice none 0 0) := by
  refine ⟨two_cells (below_seq (below_alloc _ _) h), ?_⟩
  have := (Dy.made (w.alloc (.cells #[va, vb] 36)) (.slice none 0 0) (.slice none 0 0) 36).on h
  rw [World.size_alloc] at this
  exact this
theorem vecOK_set {xs : List Int} {k : Nat} {v : Int} (h : vecOK xs = true) (hk : k < 16) (hv : 0 ≤ v) : vecOK (xs.set k v) = decide (v ≤ 1000000000000) := by
  obtain ⟨hl, hg⟩ := vecOK_get h
  by_cases hb : v ≤ 1000000000000
  · rw [decide_eq_true hb]
    refine vecOK_all (by simp [hl]) (fun j hj => ?_)
    rw [List.getElem_set]
    split
    · simp [cOK, hv, hb]
    · have := hg j (by simpa using hj)
      simp [cOK, this.1, this.2]
  · rw [decide_eq_false hb]
    exact vecOK_bad (k := k) (by simp; omega) (by simp [cOK]; omega)
theorem add_ok {xs ys : List Int} {c n : Int} (hx : vecOK xs = true) (hy : vecOK ys = true) (hi : inB c n) : (vecOK (addP xs c n) && vecOK (addM ys c n)) = !addMany xs ys c n := by
  obtain ⟨k, rfl⟩ : ∃ k : Nat, c = (k : Int) := ⟨c.toNat, by have := hi.1; omega⟩
  have hk : k < 16 := by have := hi.2.1; omega
  have l1 := (vecOK_get hx).1
  have l2 := (vecOK_get hy).1
  have b1 := okGet hx k
  have b2 := okGet hy k
  unfold addMany addP addM
  rw [Int.toNat_natCast]
  by_cases hn : 0 ≤ n
  · rw [if_pos hn, if_pos hn, vecOK_set hx hk (by omega), hy, Bool.and_true, show (xs.set k (xs.getD k 0 + n)).getD k 0 = xs.getD k 0 + n by simp [l1, hk], Bool.eq_iff_iff]
    simp only [decide_eq_true_eq, Bool.not_eq_true', decide_eq_false_iff_not]
    omega
  · rw [if_neg hn, if_neg hn, vecOK_set hy hk (by omega), hx, Bool.true_and, show (ys.set k (ys.getD k 0 - n)).getD k 0 = ys.getD k 0 - n by simp [l2, hk], Bool.eq_iff_iff]
    simp only [decide_eq_true_eq, Bool.not_eq_true', decide_eq_false_iff_not]
    omega
theorem Own.besides {e : TypeId} {w : World} {B P : Nat} {v : Value} {cs : List Value} (h : Own e w B v cs) (hne : ∀ i, v.ownBlock = Option.some i → i ≠ P) (k : Nat) (u : Value) : Own e (w.setCell ⟨P, k, none⟩ u) B v cs :=
  World.ownsRow.kept h (grownBy_set w P k u) (.inr (fun e => hne P e rfl))
theorem ownA {e : TypeId} {w : World} {B : Nat} {v : Value} {cs : List Value} (h : Own e w B v cs) (o : Obj) : Own e (w.alloc o) B v cs := World.ownsRow.alloc h o
theorem two_set {w : World} {n m : Nat} {x y : Value} (h : w.cell? ⟨n, 0, none⟩ = some x ∧ w.cell? ⟨n, 1, none⟩ = some y) (hm : n + 1 + 1 ≤ m) (a b : Value) : ((w.setCell ⟨m, 0, none⟩ a).setCell ⟨m, 1, none⟩ b).cell? ⟨n, 0, none⟩ = some x ∧ ((w.setCell ⟨m, 0, none⟩ a).setCell ⟨m, 1, none⟩ b).cell? ⟨n, 1, none⟩ = some y := by
  have o : ∀ (w : World) (i j : Nat) (u : Value), (w.setCell ⟨m, j, none⟩ u).cell? ⟨n, i, none⟩ = w.cell? ⟨n, i, none⟩ := fun w i j u => World.cell?_setCells_out m [u] j w _ (fun e => absurd e (by show n ≠ m; omega))
  rw [o, o, o, o]
  exact h
theorem DyH.on {w w1 : World} {n : Nat} {x y : Value} (h : Hid (Dy w n x y)) (hb : Below w.heap.size w w1) : Hid (Dy w1 n x y) := Dy.on h.out hb
theorem Dy.madeH (w : World) (x y : Value) (T : TypeId) : Hid (Dy (w.alloc (.cells #[x, y] T)) w.heap.size x y) := Dy.made w x y T
theorem Dy.madeD (w : World) (x y : Value) (T : TypeId) : Hid (Dy (w.alloc (.cells #[x, y] T)).drew w.heap.size x y) := Dy.made w x y T

set_option maxHeartbeats 8000000 in
set_option maxRecDepth 100000 in
theorem specAdd_bad (C D : Nat) (w : World) (va vb : Value) (xs ys : List Int) (c n : Int) (hC : C ≤ w.heap.size) (hD : D ≤ w.heap.size) (ha : Rd C w va (xs.map (Value.int .i64))) (hb : Rd D w vb (ys.map (Value.int .i64))) (hok : (vecOK xs && vecOK ys) = false) :
    Calls Try.prog 17 #[.agg #[va, vb], .int .i64 c, .int .i64 n] w (AddAns xs ys c n w) := by
  have h1 := counterOK_any C D ((w.alloc (.cells #[va, vb] 36)).alloc (.cells #[.slice none 0 0, .slice none 0 0] 36)) va vb xs ys (by simp; omega) (by simp; omega) ((ha.alloc _ hC).alloc _ (by simp; omega)) ((hb.alloc _ hD).alloc _ (by simp; omega))
  have hB0 : Below w.heap.size w ((w.alloc (.cells #[va, vb] 36)).alloc (.cells #[.slice none 0 0, .slice none 0 0] 36)) := below_then (below_alloc _ _) _
  have HA : Hid (addC xs ys c n = 1 ∧ addA xs ys c n = [] ∧ addB xs ys c n = []) := addC_bad hok
  rw [hok] at h1
  go_enter Try.func17, Try.ntmps17
  go_wp2_with fail
  refine h1.mono ?_
  rintro e w1 ⟨rfl, hB⟩
  have HR : Hid (Dy w1 (w.heap.size + 1) (.slice none 0 0) (.slice none 0 0)) := (base4 hB).2
  obtain ⟨⟨u0, u1⟩, hf⟩ := HR.out
  have f0 := hf 0
  have f1 := hf 1
  go_wp2_with fail
  have hp := (Dy.set1 (Dy.set0 HR.out (.slice none 0 0)) (.slice none 0 0)).1
  refine bodyPost_ret (v := .tuple #[.agg #[.slice none 0 0, .slice none 0 0], .int .i64 1]) ?_ rfl (addNone HA.out (((below_seq hB0 hB).setCell (p := ⟨w.heap.size + 1, 0, none⟩) (by show w.heap.size ≤ w.heap.size + 1; omega) _).setCell (p := ⟨w.heap.size + 1, 1, none⟩) (by show w.heap.size ≤ w.heap.size + 1; omega) _))
  simp [results, Try.results17, go_sem, hp.1, hp.2]

set_option maxHeartbeats 8000000 in
set_option maxRecDepth 100000 in
theorem specAdd_range (C D : Nat) (w : World) (va vb : Value) (xs ys : List Int) (c n : Int) (hC : C ≤ w.heap.size) (hD : D ≤ w.heap.size) (ha : Rd C w va (xs.map (Value.int .i64))) (hb : Rd D w vb (ys.map (Value.int .i64))) (hok : (vecOK xs && vecOK ys) = true) (hi : ¬ inB c n) :
    Calls Try.prog 17 #[.agg #[va, vb], .int .i64 c, .int .i64 n] w (AddAns xs ys c n w) := by
  have h1 := counterOK_any C D ((w.alloc (.cells #[va, vb] 36)).alloc (.cells #[.slice none 0 0, .slice none 0 0] 36)) va vb xs ys (by simp; omega) (by simp; omega) ((ha.alloc _ hC).alloc _ (by simp; omega)) ((hb.alloc _ hD).alloc _ (by simp; omega))
  have hB0 : Below w.heap.size w ((w.alloc (.cells #[va, vb] 36)).alloc (.cells #[.slice none 0 0, .slice none 0 0] 36)) := below_then (below_alloc _ _) _
  have HA : Hid (addC xs ys c n = 4 ∧ addA xs ys c n = [] ∧ addB xs ys c n = []) := addC_range hok hi
  rw [hok] at h1
  have hcs : c < 0 ∨ (0 ≤ c ∧ 16 ≤ c) ∨ (0 ≤ c ∧ c < 16 ∧ n < -1000000000000) ∨ (0 ≤ c ∧ c < 16 ∧ -1000000000000 ≤ n ∧ 1000000000000 < n) := by unfold inB at hi; omega
  clear hi
  rcases hcs with q1 | ⟨q1, q2⟩ | ⟨q1, q2, q3⟩ | ⟨q1, q2, q3, q4⟩
  all_goals
    go_enter Try.func17, Try.ntmps17
    go_wp2_with fail
    refine h1.mono ?_
    rintro e w1 ⟨rfl, hB⟩
    have HR : Hid (Dy w1 (w.heap.size + 1) (.slice none 0 0) (.slice none 0 0)) := (base4 hB).2
    obtain ⟨⟨u0, u1⟩, hf⟩ := HR.out
    have f0 := hf 0
    have f1 := hf 1
    go_wp2_with fail
    have hp := (Dy.set1 (Dy.set0 HR.out (.slice none 0 0)) (.slice none 0 0)).1
    refine bodyPost_ret (v := .tuple #[.agg #[.slice none 0 0, .slice none 0 0], .int .i64 4]) ?_ rfl (addNone HA.out (((below_seq hB0 hB).setCell (p := ⟨w.heap.size + 1, 0, none⟩) (by show w.heap.size ≤ w.heap.size + 1; omega) _).setCell (p := ⟨w.heap.size + 1, 1, none⟩) (by show w.heap.size ≤ w.heap.size + 1; omega) _))
    simp [results, Try.results17, go_sem, hp.1, hp.2]

set_option maxHeartbeats 8000000 in
set_option maxRecDepth 100000 in
theorem specAdd_in (C D : Nat) (w : World) (va vb : Value) (xs ys : List Int) (c n : Int) (hC : C ≤ w.heap.size) (hD : D ≤ w.heap.size) (ha : Rd C w va (xs.map (Value.int .i64))) (hb : Rd D w vb (ys.map (Value.int .i64))) (hok : (vecOK xs && vecOK ys) = true) (hi : inB c n) :
    Calls Try.prog 17 #[.agg #[va, vb], .int .i64 c, .int .i64 n] w (AddAns xs ys c n w) := by
  have h1 := counterOK_any C D ((w.alloc (.cells #[va, vb] 36)).alloc (.cells #[.slice none 0 0, .slice none 0 0] 36)) va vb xs ys (by simp; omega) (by simp; omega) ((ha.alloc _ hC).alloc _ (by simp; omega)) ((hb.alloc _ hD).alloc _ (by simp; omega))
  have hB0 : Below w.heap.size w ((w.alloc (.cells #[va, vb] 36)).alloc (.cells #[.slice none 0 0, .slice none 0 0] 36)) := below_then (below_alloc _ _) _
  have hCb := fun hm => addC_many hok hi hm
  have hCg := fun hm => addC_good hok hi hm
  rw [hok] at h1
  rw [Bool.and_eq_true] at hok
  obtain ⟨okx, oky⟩ := hok
  have hlx := (vecOK_get okx).1
  have hly := (vecOK_get oky).1
  have hl1 : xs.length ≤ 1048576 := by omega
  have hl2 : ys.length ≤ 1048576 := by omega
  have q1 := hi.1
  have q2 := hi.2.1
  have q3 := hi.2.2.1
  have q4 := hi.2.2.2
  have hcp1 := fun w' h1 h2 => l02Copy_any C w' va xs hl1 h1 h2
  have hcp2 := fun w' h1 h2 => l02Copy_any D w' vb ys hl2 h1 h2
  simp only [hlx] at hcp1
  simp only [hly] at hcp2
  have m1 : Hid True := trivial
  go_enter Try.func17, Try.ntmps17
  go_wp2_with fail
  refine h1.mono ?_
  rintro e w1 ⟨rfl, hB⟩
  obtain ⟨c0, c1⟩ := (base4 hB).1
  go_wp2_with fail
  go_cut [8] from 9 (fun s8 wx => ∃ (P : Nat) (a : Option Addr) (ca : Nat) (b : Option Addr) (cb : Nat), s8 = .pointer (some ⟨P, 0, none⟩) ∧ Hid (Dy wx P (.slice a 16 ca) (.slice b 16 cb)) ∧ Own 3 wx (w.heap.size + 1 + 1) (.slice a 16 ca) (xs.map (Value.int .i64)) ∧ Own 3 wx (w.heap.size + 1 + 1) (.slice b 16 cb) (ys.map (Value.int .i64)) ∧ Apart (.slice a 16 ca) (.slice b 16 cb) ∧ (∀ i, (Value.slice a 16 ca).ownBlock = some i → i ≠ P) ∧ (∀ i, (Value.slice b 16 cb).ownBlock = some i → i ≠ P) ∧ w.heap.size + 1 + 1 ≤ P ∧ Below ((w.alloc (.cells #[va, vb] 36)).alloc (.cells #[.slice none 0 0, .slice none 0 0] 36)).heap.size ((w.alloc (.cells #[va, vb] 36)).alloc (.cells #[.slice none 0 0, .slice none 0 0] 36)) wx)
  case first =>
    have hBx := hB
    have hSx := (base4 hBx).1
    replace hB := hB.drew
    have hS := (base4 hB).1
    have hz := hBx.size
    simp only [World.size_alloc] at hz
    go_region_held3 (fun w' => w'.cell? ⟨w.heap.size, 0, none⟩ = some va ∧ w'.cell? ⟨w.heap.size, 1, none⟩ = some vb) (first | exact hS | exact ⟨alloc_keep hSx.1 _, alloc_keep hSx.2 _⟩ | exact ⟨alloc_keep hS.1 _, alloc_keep hS.2 _⟩ | exact two_set hS (by omega) _ _ | exact two_set ⟨alloc_keep hS.1 _, alloc_keep hS.2 _⟩ (by omega) _ _) (first | (go_at_call 45; clear m1; refine Calls.mono (hcp1 _ (by first | exact Nat.le_trans hC (below_seq hB0 hB).size | exact Nat.le_trans hC (below_then (below_seq hB0 hB) (.cells #[.slice none 0 0, .slice none 0 0] 36)).size | exact Nat.le_trans hC (below_then (below_seq hB0 hBx) (.cells #[.slice none 0 0, .slice none 0 0] 36)).drew.size) (by first | exact Rd.belowW ha (below_seq hB0 hB) hC | exact Rd.belowW ha (below_then (below_seq hB0 hB) (.cells #[.slice none 0 0, .slice none 0 0] 36)) hC | exact Rd.belowW ha (below_then (below_seq hB0 hBx) (.cells #[.slice none 0 0, .slice none 0 0] 36)).drew hC)) ?_; rintro e w3 ⟨a3, k3, rfl, hq3, hb'⟩; (try simp only [World.size_drew] at hq3); (try simp only [World.size_alloc] at hq3); have l3 := hq3.lt; have m3 := hq3.blk; (try simp only [World.size_drew] at l3); (try simp only [World.size_alloc] at l3); (first | (replace hB := below_seq hB hb'; (try replace HN := DyH.on HN hb'); have hy := hb'.size; (try simp only [World.size_drew] at hy); (try simp only [World.size_alloc] at hy); have hz := hB.size; (try simp only [World.size_alloc] at hz); replace hS := (base4 hB).1; clear hb') | (have HN := DyH.on (Dy.madeD w1 (.slice none 0 0) (.slice none 0 0) 36) hb'; replace hB := below_seq (below_then hBx (.cells #[.slice none 0 0, .slice none 0 0] 36)).drew hb'; have hy := hb'.size; (try simp only [World.size_drew] at hy); (try simp only [World.size_alloc] at hy); have hz := hB.size; (try simp only [World.size_alloc] at hz); replace hS := (base4 hB).1; clear hb') | (have HN := DyH.on (Dy.madeH _ (.slice none 0 0) (.slice none 0 0) 36) hb'; replace hB := below_seq (below_then hB (.cells #[.slice none 0 0, .slice none 0 0] 36)) hb'; have hy := hb'.size; (try simp only [World.size_drew] at hy); (try simp only [World.size_alloc] at hy); have hz := hB.size; (try simp only [World.size_alloc] at hz); replace hS := (base4 hB).1; clear hb'))) | (go_at_call 45; refine Calls.mono (hcp2 _ (by first | exact Nat.le_trans hD (below_seq hB0 hB).size | exact Nat.le_trans hD (below_then (below_seq hB0 hB) (.cells #[.slice none 0 0, .slice none 0 0] 36)).size | exact Nat.le_trans hD (below_then (below_seq hB0 hBx) (.cells #[.slice none 0 0, .slice none 0 0] 36)).drew.size) (by first | exact Rd.belowW hb (below_seq hB0 hB) hD | exact Rd.belowW hb (below_then (below_seq hB0 hB) (.cells #[.slice none 0 0, .slice none 0 0] 36)) hD | exact Rd.belowW hb (below_then (below_seq hB0 hBx) (.cells #[.slice none 0 0, .slice none 0 0] 36)).drew hD)) ?_; rintro e w4 ⟨a4, k4, rfl, hq4, hb'⟩; (try simp only [World.size_drew] at hq4); (try simp only [World.size_alloc] at hq4); have l4 := hq4.lt; have m4 := hq4.blk; (try simp only [World.size_drew] at l4); (try simp only [World.size_alloc] at l4); (first | (replace hB := below_seq hB hb'; (try replace HN := DyH.on HN hb'); replace hq3 := hq3.below hb' (Nat.le_refl _); have hy := hb'.size; (try simp only [World.size_drew] at hy); (try simp only [World.size_alloc] at hy); have hz := hB.size; (try simp only [World.size_alloc] at hz); replace hS := (base4 hB).1; clear hb') | (have HN := DyH.on (Dy.madeD w1 (.slice none 0 0) (.slice none 0 0) 36) hb'; replace hB := below_seq (below_then hBx (.cells #[.slice none 0 0, .slice none 0 0] 36)).drew hb'; have hy := hb'.size; (try simp only [World.size_drew] at hy); (try simp only [World.size_alloc] at hy); have hz := hB.size; (try simp only [World.size_alloc] at hz); replace hS := (base4 hB).1; clear hb') | (have HN := DyH.on (Dy.madeH _ (.slice none 0 0) (.slice none 0 0) 36) hb'; replace hB := below_seq (below_then hB (.cells #[.slice none 0 0, .slice none 0 0] 36)) hb'; replace hq3 := (ownA hq3 (.cells #[.slice none 0 0, .slice none 0 0] 36)).below hb' (Nat.le_refl _); have hy := hb'.size; (try simp only [World.size_drew] at hy); (try simp only [World.size_alloc] at hy); have hz := hB.size; (try simp only [World.size_alloc] at hz); replace hS := (base4 hB).1; clear hb')); (try (obtain ⟨⟨b0, b1⟩, hf⟩ := HN.out; have f0 := hf 0; have f1 := hf 1))))
    all_goals
      go_wp2_with fail
      go_meet
    all_goals
      first
      | (case rel => exact ⟨_, a3, k3, a4, k4, rfl, Dy.set1 (Dy.set0 HN.out _) _, Own.besides (Own.besides (hq3.mono (by omega)) (fun i hi => by have := l3 i hi; have := m3 i hi; omega) _ _) (fun i hi => by have := l3 i hi; have := m3 i hi; omega) _ _, Own.besides (Own.besides (hq4.mono (by omega)) (fun i hi => by have := l4 i hi; have := m4 i hi; omega) _ _) (fun i hi => by have := l4 i hi; have := m4 i hi; omega) _ _, (fun i j hi hj => by have := l3 i hi; have := m3 i hi; have := l4 j hj; have := m4 j hj; omega), (fun i hi => by have := l3 i hi; have := m3 i hi; omega), (fun i hi => by have := l4 i hi; have := m4 i hi; omega), by omega, (hB.setCell (by simp only [World.size_alloc]; omega) _).setCell (by simp only [World.size_alloc]; omega) _⟩)
      | (case rel => exact ⟨w4.heap.size, a3, k3, a4, k4, rfl, Dy.madeH _ _ _ _, ownA (hq3.mono (by omega)) _, ownA (hq4.mono (by omega)) _, (fun i j hi hj => by have := l3 i hi; have := m3 i hi; have := l4 j hj; have := m4 j hj; omega), (fun i hi => by have := l3 i hi; have := m3 i hi; omega), (fun i hi => by have := l4 i hi; have := m4 i hi; omega), by omega, below_then hB _⟩)
  case rest =>
    clear hB c0 c1 m1
    obtain ⟨P, a, ca, b, cb, rfl, HP, hoa, hob, hap, hpa, hpb, hP, hB⟩ := hcut
    have hsum := add_ok okx oky hi
    have HX := okGet okx c.toNat
    have HY := okGet oky c.toNat
    obtain ⟨k, rfl⟩ : ∃ k : Nat, c = (k : Int) := ⟨c.toNat, by omega⟩
    have hk : k < 16 := by omega
    rw [Int.toNat_natCast] at HX HY
    have hPq : addP xs (k : Int) n = if 0 ≤ n then xs.set k (xs.getD k 0 + n) else xs := by unfold addP; rw [Int.toNat_natCast]
    have hMq : addM ys (k : Int) n = if 0 ≤ n then ys else ys.set k (ys.getD k 0 - n) := by unfold addM; rw [Int.toNat_natCast]
    have j0 : (0 : Int) ≤ (k : Int) := by omega
    have j1 : (k : Int) < 16 := by omega
    obtain ⟨g1, c1, e1, hg1, hg1', _⟩ := hoa.some (by simp; omega)
    obtain ⟨g2, c2, e2, hg2, hg2', _⟩ := hob.some (by simp; omega)
    rw [List.length_map, hlx] at e1
    rw [List.length_map, hly] at e2
    simp only [Value.slice.injEq] at e1 e2
    obtain ⟨rfl, _, rfl⟩ := e1
    obtain ⟨rfl, _, rfl⟩ := e2
    have hne : g1 ≠ g2 := hap g1 g2 rfl rfl
    have hn1 : g1 ≠ P := hpa g1 rfl
    have hn2 : g2 ≠ P := hpb g2 rfl
    have p0 := HP.out.1.1
    have p1 := HP.out.1.2
    have x0 : wc.cell? ⟨g1, k, none⟩ = some (.int .i64 (xs.getD k 0)) := by
      rw [own_cell hoa (k := k) (by simp; omega)]
      simp [hlx, hk]
    have y0 : wc.cell? ⟨g2, k, none⟩ = some (.int .i64 (ys.getD k 0)) := by
      rw [own_cell hob (k := k) (by simp; omega)]
      simp [hly, hk]
    have xf := own_free hoa k
    have yf := own_free hob k
    have HQ : Hid _ := hPq
    have HM : Hid _ := hMq
    clear hPq hMq h1 hcp1 hcp2 hpa hpb hap
    by_cases hn : 0 ≤ n
    · have hX : addP xs (k : Int) n = xs.set k (xs.getD k 0 + n) := by rw [HQ.out, if_pos hn]
      have hY : addM ys (k : Int) n = ys := by rw [HM.out, if_pos hn]
      have hoa5 := own_set hoa k (.int .i64 (xs.getD k 0 + n))
      rw [← List.map_set] at hoa5
      have hob5 := Own.besides hob (P := g1) (fun i hi => by simp [Value.ownBlock] at hi; omega) k (.int .i64 (xs.getD k 0 + n))
      have HP5 : Hid (Dy _ P _ _) := HP.out.aside (Ne.symm hn1) k (.int .i64 (xs.getD k 0 + n))
      have hB5 := hB.setCell (p := ⟨g1, k, none⟩) (by simp only [World.size_alloc]; show w.heap.size + 1 + 1 ≤ g1; omega) (.int .i64 (xs.getD k 0 + n))
      rw [hX, hY] at hsum hCg
      have a0 : xs.getD k 0 + n < 9223372036854775808 := by omega
      have a1 : -9223372036854775808 ≤ xs.getD k 0 + n := by omega
      generalize xs.set k (xs.getD k 0 + n) = X' at *
      generalize xs.getD k 0 = x at *
      go_wp2_with fail
      go_region
      go_wp2_with fail
      have hoa6 : Own 3 (wc.setCell ⟨g1, k, none⟩ (.int .i64 (x + n))).drew _ _ _ := hoa5
      have hob6 : Own 3 (wc.setCell ⟨g1, k, none⟩ (.int .i64 (x + n))).drew _ _ _ := hob5
      have HP6 : Hid (Dy (wc.setCell ⟨g1, k, none⟩ (.int .i64 (x + n))).drew P _ _) := HP5
      have hB6 := hB5.drew
      have hL := counterOK_any _ _ _ _ _ X' ys (Nat.le_refl _) (Nat.le_refl _) hoa6.rd hob6.rd
      clear hoa5 hob5 HP5 hB5 p0 p1 x0 y0 xf yf HP hoa hob hB
      generalize (wc.setCell ⟨g1, k, none⟩ (.int .i64 (x + n))).drew = w5 at *
      refine hL.mono ?_
      rintro e w6 ⟨rfl, hb6⟩
      rw [hsum]
      have hB7 := below_seq hB6 hb6
      have HR : Hid (Dy w6 (w.heap.size + 1) (.slice none 0 0) (.slice none 0 0)) := (base4 hB7).2
      have HP7 : Hid (Dy w6 P _ _) := HP6.out.on hb6
      have hoa7 := hoa6.below hb6 (Nat.le_refl _)
      have hob7 := hob6.below hb6 (Nat.le_refl _)
      have hBw := below_seq hB0 hB7
      obtain ⟨⟨u0, u1⟩, hf⟩ := HR.out
      have f0 := hf 0
      have f1 := hf 1
      obtain ⟨⟨v0, v1⟩, _⟩ := HP7.out
      clear hL hb6 hoa6 hob6 HP6 hB6 hB7 hsum
      cases hm : addMany xs ys (k : Int) n with
      | true =>
        have HA : Hid _ := hCb hm
        clear hCb hCg hm
        go_wp2_with fail
        have hp := (Dy.set1 (Dy.set0 HR.out (.slice none 0 0)) (.slice none 0 0)).1
        refine bodyPost_ret (v := .tuple #[.agg #[.slice none 0 0, .slice none 0 0], .int .i64 11]) ?_ rfl (addNone HA.out ((hBw.setCell (p := ⟨w.heap.size + 1, 0, none⟩) (by show w.heap.size ≤ w.heap.size + 1; omega) _).setCell (p := ⟨w.heap.size + 1, 1, none⟩) (by show w.heap.size ≤ w.heap.size + 1; omega) _))
        simp [results, Try.results17, go_sem, hp.1, hp.2]
      | false =>
        have HA : Hid _ := hCg hm
        clear hCb hCg hm
        have k1 := Own.setK (Own.setK hoa7 (P := w.heap.size + 1) 0 (.slice (some ⟨g1, 0, none⟩) 16 ca) (by omega)) (P := w.heap.size + 1) 1 (.slice (some ⟨g2, 0, none⟩) 16 cb) (by omega)
        have k2 := Own.setK (Own.setK hob7 (P := w.heap.size + 1) 0 (.slice (some ⟨g1, 0, none⟩) 16 ca) (by omega)) (P := w.heap.size + 1) 1 (.slice (some ⟨g2, 0, none⟩) 16 cb) (by omega)
        have hp := (Dy.set1 (Dy.set0 HR.out (.slice (some ⟨g1, 0, none⟩) 16 ca)) (.slice (some ⟨g2, 0, none⟩) 16 cb)).1
        have hB8 := (hBw.setCell (p := ⟨w.heap.size + 1, 0, none⟩) (by show w.heap.size ≤ w.heap.size + 1; omega) (.slice (some ⟨g1, 0, none⟩) 16 ca)).setCell (p := ⟨w.heap.size + 1, 1, none⟩) (by show w.heap.size ≤ w.heap.size + 1; omega) (.slice (some ⟨g2, 0, none⟩) 16 cb)
        clear hoa7 hob7 hBw
        go_wp2_with fail
        refine bodyPost_ret (v := .tuple #[.agg #[.slice (some ⟨g1, 0, none⟩) 16 ca, .slice (some ⟨g2, 0, none⟩) 16 cb], .int .i64 0]) ?_ rfl ⟨_, 16, ca, _, 16, cb, 3, by rw [HA.out.1], by rw [HA.out.2.1]; exact k1.mono (by omega), by rw [HA.out.2.2]; exact k2.mono (by omega), fun i j hi hj => by simp [Value.ownBlock] at hi hj; omega, hB8⟩
        simp [results, Try.results17, go_sem, hp.1, hp.2]
    · have hX : addP xs (k : Int) n = xs := by rw [HQ.out, if_neg hn]
      have hY : addM ys (k : Int) n = ys.set k (ys.getD k 0 - n) := by rw [HM.out, if_neg hn]
      replace hn : n < 0 := by omega
      have hob5 := own_set hob k (.int .i64 (ys.getD k 0 - n))
      rw [← List.map_set] at hob5
      have hoa5 := Own.besides hoa (P := g2) (fun i hi => by simp [Value.ownBlock] at hi; omega) k (.int .i64 (ys.getD k 0 - n))
      have HP5 : Hid (Dy _ P _ _) := HP.out.aside (Ne.symm hn2) k (.int .i64 (ys.getD k 0 - n))
      have hB5 := hB.setCell (p := ⟨g2, k, none⟩) (by simp only [World.size_alloc]; show w.heap.size + 1 + 1 ≤ g2; omega) (.int .i64 (ys.getD k 0 - n))
      rw [hX, hY] at hsum hCg
      have a0 : ys.getD k 0 - n < 9223372036854775808 := by omega
      have a1 : -9223372036854775808 ≤ ys.getD k 0 - n := by omega
      generalize ys.set k (ys.getD k 0 - n) = Y' at *
      generalize ys.getD k 0 = y at *
      go_wp2_with fail
      go_region
      go_wp2_with fail
      have hoa6 : Own 3 (wc.setCell ⟨g2, k, none⟩ (.int .i64 (y - n))).drew _ _ _ := hoa5
      have hob6 : Own 3 (wc.setCell ⟨g2, k, none⟩ (.int .i64 (y - n))).drew _ _ _ := hob5
      have HP6 : Hid (Dy (wc.setCell ⟨g2, k, none⟩ (.int .i64 (y - n))).drew P _ _) := HP5
      have hB6 := hB5.drew
      have hL := counterOK_any _ _ _ _ _ xs Y' (Nat.le_refl _) (Nat.le_refl _) hoa6.rd hob6.rd
      clear hoa5 hob5 HP5 hB5 p0 p1 x0 y0 xf yf HP hoa hob hB
      generalize (wc.setCell ⟨g2, k, none⟩ (.int .i64 (y - n))).drew = w5 at *
      refine hL.mono ?_
      rintro e w6 ⟨rfl, hb6⟩
      rw [hsum]
      have hB7 := below_seq hB6 hb6
      have HR : Hid (Dy w6 (w.heap.size + 1) (.slice none 0 0) (.slice none 0 0)) := (base4 hB7).2
      have HP7 : Hid (Dy w6 P _ _) := HP6.out.on hb6
      have hoa7 := hoa6.below hb6 (Nat.le_refl _)
      have hob7 := hob6.below hb6 (Nat.le_refl _)
      have hBw := below_seq hB0 hB7
      obtain ⟨⟨u0, u1⟩, hf⟩ := HR.out
      have f0 := hf 0
      have f1 := hf 1
      obtain ⟨⟨v0, v1⟩, _⟩ := HP7.out
      clear hL hb6 hoa6 hob6 HP6 hB6 hB7 hsum
      cases hm : addMany xs ys (k : Int) n with
      | true =>
        have HA : Hid _ := hCb hm
        clear hCb hCg hm
        go_wp2_with fail
        have hp := (Dy.set1 (Dy.set0 HR.out (.slice none 0 0)) (.slice none 0 0)).1
        refine bodyPost_ret (v := .tuple #[.agg #[.slice none 0 0, .slice none 0 0], .int .i64 11]) ?_ rfl (addNone HA.out ((hBw.setCell (p := ⟨w.heap.size + 1, 0, none⟩) (by show w.heap.size ≤ w.heap.size + 1; omega) _).setCell (p := ⟨w.heap.size + 1, 1, none⟩) (by show w.heap.size ≤ w.heap.size + 1; omega) _))
        simp [results, Try.results17, go_sem, hp.1, hp.2]
      | false =>
        have HA : Hid _ := hCg hm
        clear hCb hCg hm
        have k1 := Own.setK (Own.setK hoa7 (P := w.heap.size + 1) 0 (.slice (some ⟨g1, 0, none⟩) 16 ca) (by omega)) (P := w.heap.size + 1) 1 (.slice (some ⟨g2, 0, none⟩) 16 cb) (by omega)
        have k2 := Own.setK (Own.setK hob7 (P := w.heap.size + 1) 0 (.slice (some ⟨g1, 0, none⟩) 16 ca) (by omega)) (P := w.heap.size + 1) 1 (.slice (some ⟨g2, 0, none⟩) 16 cb) (by omega)
        have hp := (Dy.set1 (Dy.set0 HR.out (.slice (some ⟨g1, 0, none⟩) 16 ca)) (.slice (some ⟨g2, 0, none⟩) 16 cb)).1
        have hB8 := (hBw.setCell (p := ⟨w.heap.size + 1, 0, none⟩) (by show w.heap.size ≤ w.heap.size + 1; omega) (.slice (some ⟨g1, 0, none⟩) 16 ca)).setCell (p := ⟨w.heap.size + 1, 1, none⟩) (by show w.heap.size ≤ w.heap.size + 1; omega) (.slice (some ⟨g2, 0, none⟩) 16 cb)
        clear hoa7 hob7 hBw
        go_wp2_with fail
        refine bodyPost_ret (v := .tuple #[.agg #[.slice (some ⟨g1, 0, none⟩) 16 ca, .slice (some ⟨g2, 0, none⟩) 16 cb], .int .i64 0]) ?_ rfl ⟨_, 16, ca, _, 16, cb, 3, by rw [HA.out.1], by rw [HA.out.2.1]; exact k1.mono (by omega), by rw [HA.out.2.2]; exact k2.mono (by omega), fun i j hi hj => by simp [Value.ownBlock] at hi hj; omega, hB8⟩
        simp [results, Try.results17, go_sem, hp.1, hp.2]

set_option maxHeartbeats 400000 in
theorem specCounterAdd_any (C D : Nat) (w : World) (va vb : Value) (xs ys : List Int) (c n : Int) (hC : C ≤ w.heap.size) (hD : D ≤ w.heap.size) (ha : Rd C w va (xs.map (Value.int .i64))) (hb : Rd D w vb (ys.map (Value.int .i64))) :
    Calls Try.prog 17 #[.agg #[va, vb], .int .i64 c, .int .i64 n] w (AddAns xs ys c n w) := by
  cases hok : (vecOK xs && vecOK ys) with
  | false => exact specAdd_bad C D w va vb xs ys c n hC hD ha hb hok
  | true =>
    by_cases hi : inB c n
    · exact specAdd_in C D w va vb xs ys c n hC hD ha hb hok hi
    · exact specAdd_range C D w va vb xs ys c n hC hD ha hb hok hi

end Go.Proofs.Ytonpeiknoifdbab
