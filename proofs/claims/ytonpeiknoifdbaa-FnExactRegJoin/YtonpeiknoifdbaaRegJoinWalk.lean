/- The walk of the law over both functions RegJoin: it answers true at every two registers. -/
import Derived.Test.YtonpeiknoifdbaaRegJoins
import Derived.Test.YtonpeiknoifdbaaRegLaws
import Derived.Deep.RegionHeld2
import Derived.Deep.RegionHeld3
import Derived.Deep.Cut
namespace Go.Proofs.Ytonpeiknoifdbaa
open Go.RowKit
set_option linter.unusedVariables false

theorem rcell_lt {w : World} {a : Addr} {v : Value} (h : w.cell? a = some v) : a.block < w.heap.size := by
  unfold World.cell? at h
  split at h
  · rename_i hb
    exact (Array.getElem?_eq_some_iff.1 hb).1
  all_goals simp at h
theorem TrH.on {w w1 : World} {n : Nat} {x y z : Value} (h : Hid (Tr w n x y z)) (hb : Below w.heap.size w w1) : Hid (Tr w1 n x y z) := Tr.on h.out (rcell_lt h.out.1.1 : n < w.heap.size) hb
theorem Tr.madeD (w : World) (x y z : Value) (T : TypeId) : Hid (Tr (w.alloc (.cells #[x, y, z] T)).drew w.heap.size x y z) := Tr.made w x y z T
theorem TrH.alloc {w : World} {n : Nat} {x y z : Value} (h : Hid (Tr w n x y z)) (o : Obj) : Hid (Tr (w.alloc o) n x y z) := TrH.on h (below_alloc w o)
theorem TrH.allocD {w : World} {n : Nat} {x y z : Value} (h : Hid (Tr w n x y z)) (o : Obj) : Hid (Tr (w.alloc o).drew n x y z) := TrH.on h (below_alloc w o).drew
theorem Tr.madeH (w : World) (x y z : Value) (T : TypeId) : Hid (Tr (w.alloc (.cells #[x, y, z] T)) w.heap.size x y z) := Tr.made w x y z T

theorem keep6 {w : World} {n : Nat} {x y z p q r : Value} (h : w.cell? ⟨n, 0, none⟩ = some x ∧ w.cell? ⟨n, 1, none⟩ = some y ∧ w.cell? ⟨n, 2, none⟩ = some z ∧ w.cell? ⟨n + 1, 0, none⟩ = some p ∧ w.cell? ⟨n + 1, 1, none⟩ = some q ∧ w.cell? ⟨n + 1, 2, none⟩ = some r) (o : Obj) :
    (w.alloc o).cell? ⟨n, 0, none⟩ = some x ∧ (w.alloc o).cell? ⟨n, 1, none⟩ = some y ∧ (w.alloc o).cell? ⟨n, 2, none⟩ = some z ∧ (w.alloc o).cell? ⟨n + 1, 0, none⟩ = some p ∧ (w.alloc o).cell? ⟨n + 1, 1, none⟩ = some q ∧ (w.alloc o).cell? ⟨n + 1, 2, none⟩ = some r :=
  ⟨alloc_keep h.1 o, alloc_keep h.2.1 o, alloc_keep h.2.2.1 o, alloc_keep h.2.2.2.1 o, alloc_keep h.2.2.2.2.1 o, alloc_keep h.2.2.2.2.2 o⟩
theorem put_other (w : World) (m n i : Nat) (hn : n ≠ m) (a b c : Value) : (((w.setCell ⟨m, 0, none⟩ a).setCell ⟨m, 1, none⟩ b).setCell ⟨m, 2, none⟩ c).cell? ⟨n, i, none⟩ = w.cell? ⟨n, i, none⟩ := by
  have o : ∀ (w : World) (j : Nat) (u : Value), (w.setCell ⟨m, j, none⟩ u).cell? ⟨n, i, none⟩ = w.cell? ⟨n, i, none⟩ := fun w j u => World.cell?_setCells_out m [u] j w _ (fun e => absurd e hn)
  rw [o, o, o]
theorem set6 {w : World} {n m : Nat} {x y z p q r : Value} (h : w.cell? ⟨n, 0, none⟩ = some x ∧ w.cell? ⟨n, 1, none⟩ = some y ∧ w.cell? ⟨n, 2, none⟩ = some z ∧ w.cell? ⟨n + 1, 0, none⟩ = some p ∧ w.cell? ⟨n + 1, 1, none⟩ = some q ∧ w.cell? ⟨n + 1, 2, none⟩ = some r) (hm : n + 1 + 1 ≤ m) (a b c : Value) :
    (((w.setCell ⟨m, 0, none⟩ a).setCell ⟨m, 1, none⟩ b).setCell ⟨m, 2, none⟩ c).cell? ⟨n, 0, none⟩ = some x ∧ (((w.setCell ⟨m, 0, none⟩ a).setCell ⟨m, 1, none⟩ b).setCell ⟨m, 2, none⟩ c).cell? ⟨n, 1, none⟩ = some y ∧ (((w.setCell ⟨m, 0, none⟩ a).setCell ⟨m, 1, none⟩ b).setCell ⟨m, 2, none⟩ c).cell? ⟨n, 2, none⟩ = some z ∧ (((w.setCell ⟨m, 0, none⟩ a).setCell ⟨m, 1, none⟩ b).setCell ⟨m, 2, none⟩ c).cell? ⟨n + 1, 0, none⟩ = some p ∧ (((w.setCell ⟨m, 0, none⟩ a).setCell ⟨m, 1, none⟩ b).setCell ⟨m, 2, none⟩ c).cell? ⟨n + 1, 1, none⟩ = some q ∧ (((w.setCell ⟨m, 0, none⟩ a).setCell ⟨m, 1, none⟩ b).setCell ⟨m, 2, none⟩ c).cell? ⟨n + 1, 2, none⟩ = some r :=
  ⟨(put_other w m n 0 (by omega) a b c).trans h.1, (put_other w m n 1 (by omega) a b c).trans h.2.1, (put_other w m n 2 (by omega) a b c).trans h.2.2.1, (put_other w m (n + 1) 0 (by omega) a b c).trans h.2.2.2.1, (put_other w m (n + 1) 1 (by omega) a b c).trans h.2.2.2.2.1, (put_other w m (n + 1) 2 (by omega) a b c).trans h.2.2.2.2.2⟩

theorem Tr.aside3 {w : World} {n m : Nat} {x y z : Value} (h : Tr w n x y z) (hn : n ≠ m) (p q r : Value) : Tr (((w.setCell ⟨m, 0, none⟩ p).setCell ⟨m, 1, none⟩ q).setCell ⟨m, 2, none⟩ r) n x y z :=
  ⟨⟨(put_other w m n 0 hn p q r).trans h.1.1, (put_other w m n 1 hn p q r).trans h.1.2.1, (put_other w m n 2 hn p q r).trans h.1.2.2⟩, fun k => ((World.frozen?_setCells m [r] 2 _ _).trans ((World.frozen?_setCells m [q] 1 _ _).trans (World.frozen?_setCells m [p] 0 _ _))).trans (h.2 k)⟩

theorem rJoin_tuple (t a : Int) (s : ByteArray) (t' a' : Int) (s' : ByteArray) : ∃ x y z k, rJoin t a s t' a' s' = .tuple #[.agg #[.int .i64 x, .int .i64 y, .string z], .int .i64 k] := by
  unfold rJoin
  split
  · obtain ⟨x, y, z, h⟩ := rGr_agg t a s t' a' s'
    rw [h]
    exact ⟨_, _, _, _, rfl⟩
  · exact ⟨_, _, _, _, rfl⟩

set_option maxHeartbeats 20000000 in
set_option maxRecDepth 100000 in
theorem lawRegJoin_walk (t a : Int) (s : ByteArray) (t' a' : Int) (s' : ByteArray) (hs : s.size ≤ maxLen) (hs' : s'.size ≤ maxLen) (w : World) :
    Calls Try.prog 4 #[.agg #[.int .i64 t, .int .i64 a, .string s], .agg #[.int .i64 t', .int .i64 a', .string s']] w fun e w' => e = .returned (.bool true) ∧ Below w.heap.size w w' := by
  have hB := Below.refl ((w.alloc (.cells #[.int .i64 t, .int .i64 a, .string s] 39)).alloc (.cells #[.int .i64 t', .int .i64 a', .string s'] 39)).heap.size ((w.alloc (.cells #[.int .i64 t, .int .i64 a, .string s] 39)).alloc (.cells #[.int .i64 t', .int .i64 a', .string s'] 39))
  have hsz := fun w => szReg_any t a s 1048576 (by omega) hs w
  by_cases h1 : s.size ≤ 1048576
  · rw [if_pos h1] at hsz
    have hn1 : ¬ ((1048576 - s.size : Nat) : Int) < 0 := by omega
    have hsz2 := fun w => szReg_any t' a' s' (1048576 - s.size) (by omega) hs' w
    go_enter Try.func4, Try.ntmps4
    go_wp2_with fail
    refine (hsz _).mono ?_
    rintro e w1 ⟨rfl, hb1⟩
    replace hB := below_seq hB hb1
    clear hb1 hsz
    obtain ⟨c0, c1, c2, d0, d1, d2⟩ := six_cells hB
    by_cases h2 : s'.size ≤ 1048576 - s.size
    · rw [if_pos h2] at hsz2
      have hn2 : ¬ ((1048576 - s.size - s'.size : Nat) : Int) < 0 := by omega
      go_wp2_with fail
      refine (hsz2 _).mono ?_
      rintro e w2 ⟨rfl, hb2⟩
      replace hB := below_seq hB hb2
      clear hb2 hsz2 c0 c1 c2 d0 d1 d2
      obtain ⟨x, y, z, k, hx⟩ := rJoin_tuple t a s t' a' s'
      have hP := fun w => specRegJoin_any t a s t' a' s' w
      have hI := fun w => implRegJoin_any t a s t' a' s' w
      rw [hx] at hP hI
      clear hx
      have hz2 := hB.size
      simp only [World.size_alloc] at hz2
      go_wp2_with fail
      go_cut [6, 7] from 10 (fun s6 s7 wx => ∃ P : Nat, s6 = .pointer (some ⟨P, 0, none⟩) ∧ s7 = .int .i64 k ∧ Hid (Tr wx P (.int .i64 x) (.int .i64 y) (.string z)) ∧ Below ((w.alloc (.cells #[.int .i64 t, .int .i64 a, .string s] 39)).alloc (.cells #[.int .i64 t', .int .i64 a', .string s'] 39)).heap.size ((w.alloc (.cells #[.int .i64 t, .int .i64 a, .string s] 39)).alloc (.cells #[.int .i64 t', .int .i64 a', .string s'] 39)) wx)
      case first =>
        have hB0 := hB
        have hS0 := six_cells hB0
        replace hB := hB.drew
        have hS := six_cells hB
        go_region_held3 (fun w' => w'.cell? ⟨w.heap.size, 0, none⟩ = some (.int .i64 t) ∧ w'.cell? ⟨w.heap.size, 1, none⟩ = some (.int .i64 a) ∧ w'.cell? ⟨w.heap.size, 2, none⟩ = some (.string s) ∧ w'.cell? ⟨w.heap.size + 1, 0, none⟩ = some (.int .i64 t') ∧ w'.cell? ⟨w.heap.size + 1, 1, none⟩ = some (.int .i64 a') ∧ w'.cell? ⟨w.heap.size + 1, 2, none⟩ = some (.string s')) (first | exact hS | exact keep6 hS0 (.cells #[.int .i64 0, .int .i64 0, .string ⟨#[]⟩] 43) | exact keep6 hS _ | exact set6 hS (by omega) _ _ _ | exact set6 (keep6 hS _) (by omega) _ _ _) (first | (go_at_call 20; refine (toReg_any _ _ _ _).mono ?_; rintro e w3 ⟨rfl, hb⟩; first | (replace hB := below_seq hB hb; (try replace HN := TrH.on HN hb); have hy := hb.size; (try simp only [World.size_alloc] at hy); (try simp only [World.size_drew] at hy); have hz := hB.size; (try simp only [World.size_alloc] at hz); replace hS := six_cells hB; clear hb) | (have HN := TrH.on (Tr.madeD w2 (.int .i64 0) (.int .i64 0) (.string ⟨#[]⟩) 43) hb; replace hB := below_seq (below_then hB0 (.cells #[.int .i64 0, .int .i64 0, .string ⟨#[]⟩] 43)).drew hb; have hy := hb.size; (try simp only [World.size_alloc] at hy); (try simp only [World.size_drew] at hy); have hz := hB.size; (try simp only [World.size_alloc] at hz); replace hS := six_cells hB; clear hb) | (have HN := TrH.on (Tr.madeH _ (.int .i64 0) (.int .i64 0) (.string ⟨#[]⟩) 43) hb; replace hB := below_seq (below_then hB (.cells #[.int .i64 0, .int .i64 0, .string ⟨#[]⟩] 43)) hb; have hy := hb.size; (try simp only [World.size_alloc] at hy); (try simp only [World.size_drew] at hy); have hz := hB.size; (try simp only [World.size_alloc] at hz); replace hS := six_cells hB; clear hb)) | (go_at_call 19; refine (hP _).mono ?_; rintro e w5 ⟨rfl, hb⟩; (first | (replace hB := below_seq hB hb; (try replace HN := TrH.on HN hb); have hy := hb.size; (try simp only [World.size_alloc] at hy); (try simp only [World.size_drew] at hy); have hz := hB.size; (try simp only [World.size_alloc] at hz); replace hS := six_cells hB; clear hb) | (have HN := TrH.on (Tr.madeD w2 (.int .i64 0) (.int .i64 0) (.string ⟨#[]⟩) 43) hb; replace hB := below_seq (below_then hB0 (.cells #[.int .i64 0, .int .i64 0, .string ⟨#[]⟩] 43)).drew hb; have hy := hb.size; (try simp only [World.size_alloc] at hy); (try simp only [World.size_drew] at hy); have hz := hB.size; (try simp only [World.size_alloc] at hz); replace hS := six_cells hB; clear hb) | (have HN := TrH.on (Tr.madeH _ (.int .i64 0) (.int .i64 0) (.string ⟨#[]⟩) 43) hb; replace hB := below_seq (below_then hB (.cells #[.int .i64 0, .int .i64 0, .string ⟨#[]⟩] 43)) hb; have hy := hb.size; (try simp only [World.size_alloc] at hy); (try simp only [World.size_drew] at hy); have hz := hB.size; (try simp only [World.size_alloc] at hz); replace hS := six_cells hB; clear hb)); (try (obtain ⟨⟨b0, b1, b2⟩, hf⟩ := HN.out; have f0 := hf 0; have f1 := hf 1; have f2 := hf 2))))
        all_goals
          go_wp2_with fail
          go_meet
        all_goals
          first
          | (case rel => exact ⟨_, rfl, rfl, HN.out.put _ _ _, below_put hB (by simp only [World.size_alloc]; omega) _ _ _⟩)
          | (case rel => exact ⟨_, rfl, rfl, Tr.madeH _ _ _ _ _, below_then hB _⟩)
      case rest =>
        clear hB hz2
        obtain ⟨P, rfl, rfl, HP, hB⟩ := hcut
        have hz2 := hB.size
        simp only [World.size_alloc] at hz2
        go_wp2_with fail
        go_cut [8, 9] from 10 (fun s6 s7 wx => ∃ G : Nat, s6 = .pointer (some ⟨G, 0, none⟩) ∧ s7 = .int .i64 k ∧ Hid (Tr wx G (.int .i64 x) (.int .i64 y) (.string z)) ∧ Hid (Tr wx P (.int .i64 x) (.int .i64 y) (.string z)) ∧ Below ((w.alloc (.cells #[.int .i64 t, .int .i64 a, .string s] 39)).alloc (.cells #[.int .i64 t', .int .i64 a', .string s'] 39)).heap.size ((w.alloc (.cells #[.int .i64 t, .int .i64 a, .string s] 39)).alloc (.cells #[.int .i64 t', .int .i64 a', .string s'] 39)) wx)
        case first =>
          have hPlt : P < wc.heap.size := rcell_lt HP.out.1.1
          have HP0 := HP
          have hB0 := hB
          have hS0 := six_cells hB0
          replace hB := hB.drew
          replace HP : Hid (Tr wc.drew P (.int .i64 x) (.int .i64 y) (.string z)) := HP
          have hS := six_cells hB
          go_region_held3 (fun w' => w'.cell? ⟨w.heap.size, 0, none⟩ = some (.int .i64 t) ∧ w'.cell? ⟨w.heap.size, 1, none⟩ = some (.int .i64 a) ∧ w'.cell? ⟨w.heap.size, 2, none⟩ = some (.string s) ∧ w'.cell? ⟨w.heap.size + 1, 0, none⟩ = some (.int .i64 t') ∧ w'.cell? ⟨w.heap.size + 1, 1, none⟩ = some (.int .i64 a') ∧ w'.cell? ⟨w.heap.size + 1, 2, none⟩ = some (.string s')) (first | exact hS | exact keep6 hS0 (.cells #[.int .i64 0, .int .i64 0, .string ⟨#[]⟩] 43) | exact keep6 hS _ | exact set6 hS (by omega) _ _ _ | exact set6 (keep6 hS _) (by omega) _ _ _) (first | (go_at_call 20; refine (toReg_any _ _ _ _).mono ?_; rintro e w3 ⟨rfl, hb⟩; first | ((replace HP := TrH.on HP hb); replace hB := below_seq hB hb; (try replace HN := TrH.on HN hb); have hy := hb.size; (try simp only [World.size_alloc] at hy); (try simp only [World.size_drew] at hy); have hz := hB.size; (try simp only [World.size_alloc] at hz); replace hS := six_cells hB; clear hb) | ((replace HP := TrH.on (TrH.allocD HP0 (.cells #[.int .i64 0, .int .i64 0, .string ⟨#[]⟩] 43)) hb); have HN := TrH.on (Tr.madeD wc (.int .i64 0) (.int .i64 0) (.string ⟨#[]⟩) 43) hb; replace hB := below_seq (below_then hB0 (.cells #[.int .i64 0, .int .i64 0, .string ⟨#[]⟩] 43)).drew hb; have hy := hb.size; (try simp only [World.size_alloc] at hy); (try simp only [World.size_drew] at hy); have hz := hB.size; (try simp only [World.size_alloc] at hz); replace hS := six_cells hB; clear hb) | ((replace HP := TrH.on (TrH.alloc HP (.cells #[.int .i64 0, .int .i64 0, .string ⟨#[]⟩] 43)) hb); have HN := TrH.on (Tr.madeH _ (.int .i64 0) (.int .i64 0) (.string ⟨#[]⟩) 43) hb; replace hB := below_seq (below_then hB (.cells #[.int .i64 0, .int .i64 0, .string ⟨#[]⟩] 43)) hb; have hy := hb.size; (try simp only [World.size_alloc] at hy); (try simp only [World.size_drew] at hy); have hz := hB.size; (try simp only [World.size_alloc] at hz); replace hS := six_cells hB; clear hb)) | (go_at_call 21; refine (hI _).mono ?_; rintro e w5 ⟨rfl, hb⟩; (first | ((replace HP := TrH.on HP hb); replace hB := below_seq hB hb; (try replace HN := TrH.on HN hb); have hy := hb.size; (try simp only [World.size_alloc] at hy); (try simp only [World.size_drew] at hy); have hz := hB.size; (try simp only [World.size_alloc] at hz); replace hS := six_cells hB; clear hb) | ((replace HP := TrH.on (TrH.allocD HP0 (.cells #[.int .i64 0, .int .i64 0, .string ⟨#[]⟩] 43)) hb); have HN := TrH.on (Tr.madeD wc (.int .i64 0) (.int .i64 0) (.string ⟨#[]⟩) 43) hb; replace hB := below_seq (below_then hB0 (.cells #[.int .i64 0, .int .i64 0, .string ⟨#[]⟩] 43)).drew hb; have hy := hb.size; (try simp only [World.size_alloc] at hy); (try simp only [World.size_drew] at hy); have hz := hB.size; (try simp only [World.size_alloc] at hz); replace hS := six_cells hB; clear hb) | ((replace HP := TrH.on (TrH.alloc HP (.cells #[.int .i64 0, .int .i64 0, .string ⟨#[]⟩] 43)) hb); have HN := TrH.on (Tr.madeH _ (.int .i64 0) (.int .i64 0) (.string ⟨#[]⟩) 43) hb; replace hB := below_seq (below_then hB (.cells #[.int .i64 0, .int .i64 0, .string ⟨#[]⟩] 43)) hb; have hy := hb.size; (try simp only [World.size_alloc] at hy); (try simp only [World.size_drew] at hy); have hz := hB.size; (try simp only [World.size_alloc] at hz); replace hS := six_cells hB; clear hb)); (try (obtain ⟨⟨b0, b1, b2⟩, hf⟩ := HN.out; have f0 := hf 0; have f1 := hf 1; have f2 := hf 2))))
          all_goals
            go_wp2_with fail
            go_meet
          all_goals
            first
            | (case rel => exact ⟨_, rfl, rfl, HN.out.put _ _ _, Tr.aside3 HP.out (by omega) _ _ _, below_put hB (by simp only [World.size_alloc]; omega) _ _ _⟩)
            | (case rel => exact ⟨_, rfl, rfl, Tr.madeH _ _ _ _ _, TrH.alloc HP _, below_then hB _⟩)
        case rest =>
          clear hB hz2 HP
          obtain ⟨G, rfl, rfl, HG, HP, hB⟩ := hcut
          obtain ⟨⟨b0, b1, b2⟩, _⟩ := HG.out
          obtain ⟨⟨e0, e1, e2⟩, _⟩ := HP.out
          go_wp2_with fail
          refine (eqReg_same x y z _).mono ?_
          rintro e w9 ⟨rfl, hb9⟩
          replace hB := below_seq hB hb9
          go_wp2_with fail
          go_ret
          exact ⟨rfl, below_seq (below_then (below_alloc _ _) _) hB⟩
    · rw [if_neg h2] at hsz2
      go_wp2_with fail
      refine (hsz2 _).mono ?_
      rintro e w2 ⟨rfl, hb2⟩
      go_wp2_with fail
      go_ret
      exact ⟨rfl, below_seq (below_then (below_alloc _ _) _) (below_seq hB hb2)⟩
  · rw [if_neg h1] at hsz
    go_enter Try.func4, Try.ntmps4
    go_wp2_with ((go_at_call 18; refine (hsz _).mono ?_; rintro e w1 ⟨rfl, hb1⟩))
    go_ret
    exact ⟨rfl, below_seq (below_then (below_alloc _ _) _) hb1⟩
end Go.Proofs.Ytonpeiknoifdbaa
