/- What the laws' own functions do with registers. -/
import Derived.Test.YtonpeiknoifdbaaRegGreater
namespace Go.Proofs.Ytonpeiknoifdbaa
open Go.RowKit
set_option linter.unusedVariables false

set_option maxHeartbeats 400000 in
theorem szReg_any (t a : Int) (s : ByteArray) (l : Nat) (hl : l ≤ 1048576) (hn : s.size ≤ maxLen) (w : World) :
    Calls Try.prog 18 #[.agg #[.int .i64 t, .int .i64 a, .string s], .int .i64 (l : Int)] w fun e w' => e = .returned (.int .i64 (if s.size ≤ l then ((l - s.size : Nat) : Int) else -1)) ∧ Below w.heap.size w w' := by
  unfold maxLen at hn
  by_cases h : s.size ≤ l
  · have h1 : ¬ (l : Int) - (s.size : Int) < 0 := by omega
    have e1 : (l : Int) - (s.size : Int) = ((l - s.size : Nat) : Int) := by omega
    rw [if_pos h]
    have H : Hid _ := e1
    clear h e1
    go_enter Try.func18, Try.ntmps18
    go_wp2_with fail
    go_ret
    exact ⟨by rw [← H.out]; rfl, below_alloc _ _⟩
  · have h1 : (l : Int) - (s.size : Int) < 0 := by omega
    rw [if_neg h]
    clear h
    go_enter Try.func18, Try.ntmps18
    go_wp2_with fail
    go_ret
    exact ⟨rfl, below_alloc _ _⟩

theorem Tr.on {w w1 : World} {n : Nat} {x y z : Value} (h : Tr w n x y z) (hn : n < w.heap.size) (hb : Below w.heap.size w w1) : Tr w1 n x y z :=
  ⟨⟨(hb.cell (p := ⟨n, 0, none⟩) hn).trans h.1.1, (hb.cell (p := ⟨n, 1, none⟩) hn).trans h.1.2.1, (hb.cell (p := ⟨n, 2, none⟩) hn).trans h.1.2.2⟩, fun k => (hb.frozen (p := ⟨n, k, none⟩) hn).trans (h.2 k)⟩
theorem Tr.made (w : World) (x y z : Value) (T : TypeId) : Tr (w.alloc (.cells #[x, y, z] T)) w.heap.size x y z := ⟨three_cells (Below.refl _ _), frozen_made (Below.refl _ _)⟩

set_option maxHeartbeats 1000000 in
set_option maxRecDepth 100000 in
theorem toReg_any (t a : Int) (s : ByteArray) (w : World) :
    Calls Try.prog 20 #[.agg #[.int .i64 t, .int .i64 a, .string s]] w fun e w' => e = .returned (.agg #[.int .i64 t, .int .i64 a, .string s]) ∧ Below w.heap.size w w' := by
  have hB := Below.refl (((w.alloc (.cells #[.int .i64 t, .int .i64 a, .string s] 39)).alloc (.cells #[.int .i64 0, .int .i64 0, .string ⟨#[]⟩] 43)).alloc (.cells #[.int .i64 0, .int .i64 0, .string ⟨#[]⟩] 43)).heap.size (((w.alloc (.cells #[.int .i64 t, .int .i64 a, .string s] 39)).alloc (.cells #[.int .i64 0, .int .i64 0, .string ⟨#[]⟩] 43)).alloc (.cells #[.int .i64 0, .int .i64 0, .string ⟨#[]⟩] 43))
  go_enter Try.func20, Try.ntmps20
  go_wp2_with fail
  refine (toStamp_any _ _ _).mono ?_
  rintro e w1 ⟨rfl, hb⟩
  replace hB := below_seq hB hb
  clear hb
  have hB2 := below_seq (below_alloc _ _) hB
  have hB3 := below_seq (below_alloc _ _) hB2
  have HV : Hid (Tr w1 (w.heap.size + 1 + 1) (.int .i64 0) (.int .i64 0) (.string ⟨#[]⟩)) := by
    have := three_cells hB
    have f := frozen_made hB
    rw [World.size_alloc, World.size_alloc] at this f
    exact ⟨this, f⟩
  have HU : Hid (Tr w1 (w.heap.size + 1) (.int .i64 0) (.int .i64 0) (.string ⟨#[]⟩)) := by
    have := three_cells hB2
    have f := frozen_made hB2
    rw [World.size_alloc] at this f
    exact ⟨this, f⟩
  obtain ⟨a0, a1, a2⟩ := three_cells hB3
  obtain ⟨⟨b0, b1, b2⟩, hf⟩ := HV.out
  have f0 := hf 0
  have f1 := hf 1
  have f2 := hf 2
  obtain ⟨⟨u0, u1, u2⟩, hg⟩ := HU.out
  have g0 := hg 0
  have g1 := hg 1
  have g2 := hg 2
  go_wp2_with fail
  have aside : ∀ {w : World} {n m : Nat} {x y z : Value}, Tr w n x y z → n ≠ m → ∀ p q r, Tr (((w.setCell ⟨m, 0, none⟩ p).setCell ⟨m, 1, none⟩ q).setCell ⟨m, 2, none⟩ r) n x y z := fun {w n m x y z} h hn p q r => by
    have o : ∀ (w : World) (i j : Nat) (u : Value), (w.setCell ⟨m, j, none⟩ u).cell? ⟨n, i, none⟩ = w.cell? ⟨n, i, none⟩ := fun w i j u => World.cell?_setCells_out m [u] j w _ (fun e => absurd e hn)
    refine ⟨⟨?_, ?_, ?_⟩, fun k => ?_⟩
    · rw [o, o, o]; exact h.1.1
    · rw [o, o, o]; exact h.1.2.1
    · rw [o, o, o]; exact h.1.2.2
    · exact ((World.frozen?_setCells m [r] 2 _ _).trans ((World.frozen?_setCells m [q] 1 _ _).trans (World.frozen?_setCells m [p] 0 _ _))).trans (h.2 k)
  have hp := ((aside HU.out (by omega : w.heap.size + 1 ≠ w.heap.size + 1 + 1) (.int .i64 t) (.int .i64 a) (.string s)).put (.int .i64 t) (.int .i64 a) (.string s)).1
  refine bodyPost_ret (v := .agg #[.int .i64 t, .int .i64 a, .string s]) ?_ rfl ⟨rfl, below_put (below_put (below_seq (below_alloc _ _) hB3) (by omega) _ _ _) (by omega) _ _ _⟩
  simp [results, Try.results20, go_sem, hp.1, hp.2.1, hp.2.2]

set_option maxHeartbeats 400000 in
theorem eqStampR_same (t a : Int) (w : World) :
    Calls Try.prog 57 #[.agg #[.int .i64 t, .int .i64 a], .agg #[.int .i64 t, .int .i64 a]] w fun e w' => e = .returned (.bool true) ∧ Below w.heap.size w w' := by
  go_enter Try.func57, Try.ntmps57
  go_wp2_with fail
  go_ret
  exact ⟨rfl, below_then (below_alloc _ _) _⟩

set_option maxHeartbeats 1000000 in
set_option maxRecDepth 100000 in
theorem eqReg_same (t a : Int) (s : ByteArray) (w : World) :
    Calls Try.prog 22 #[.agg #[.int .i64 t, .int .i64 a, .string s], .agg #[.int .i64 t, .int .i64 a, .string s]] w fun e w' => e = .returned (.bool true) ∧ Below w.heap.size w w' := by
  have hB := Below.refl ((w.alloc (.cells #[.int .i64 t, .int .i64 a, .string s] 43)).alloc (.cells #[.int .i64 t, .int .i64 a, .string s] 43)).heap.size ((w.alloc (.cells #[.int .i64 t, .int .i64 a, .string s] 43)).alloc (.cells #[.int .i64 t, .int .i64 a, .string s] 43))
  go_enter Try.func22, Try.ntmps22
  go_wp2_with fail
  refine (eqStampR_same _ _ _).mono ?_
  rintro e w1 ⟨rfl, hb⟩
  replace hB := below_seq hB hb
  clear hb
  obtain ⟨c0, c1, c2, d0, d1, d2⟩ := six_cells hB
  go_wp2_with fail
  go_ret
  exact ⟨rfl, below_seq (below_then (below_alloc _ _) _) hB⟩

end Go.Proofs.Ytonpeiknoifdbaa
