/- Vectors: plain facts, and what the laws' own helpers do with them. -/
import Derived.Test.YtaglbacicpknaaaStampBase
import Derived.Test.YtaglbacicpknaaaIntCells
namespace Go.Proofs.Ytaglbacicpknaaa
open Go.RowKit
set_option linter.unusedVariables false

/-- A count is one; a vector is valid. -/
def cOK (c : Int) : Bool := decide (0 ≤ c ∧ c ≤ 1000000000000)
def vecOK (xs : List Int) : Bool := decide (xs.length = 16) && xs.all cOK
theorem vecOK_len {xs : List Int} (h : ¬ xs.length = 16) : vecOK xs = false := by unfold vecOK; rw [decide_eq_false h]; rfl
theorem vecOK_bad {xs : List Int} {k : Nat} (hk : k < xs.length) (h : cOK xs[k] = false) : vecOK xs = false := by
  unfold vecOK
  rw [Bool.and_eq_false_iff]
  exact .inr (List.all_eq_false.2 ⟨xs[k], List.getElem_mem hk, by rw [h]; decide⟩)
theorem vecOK_all {xs : List Int} (h16 : xs.length = 16) (h : ∀ k (hk : k < xs.length), cOK xs[k] = true) : vecOK xs = true := by
  unfold vecOK
  rw [decide_eq_true h16, Bool.true_and]
  refine List.all_eq_true.2 fun c hc => ?_
  obtain ⟨k, hk, rfl⟩ := List.mem_iff_getElem.1 hc
  exact h k hk
theorem vecOK_get {xs : List Int} (h : vecOK xs = true) : xs.length = 16 ∧ ∀ k (hk : k < xs.length), 0 ≤ xs[k] ∧ xs[k] ≤ 1000000000000 := by
  unfold vecOK at h
  rw [Bool.and_eq_true, decide_eq_true_eq] at h
  refine ⟨h.1, fun k hk => ?_⟩
  have := List.all_eq_true.1 h.2 xs[k] (List.getElem_mem hk)
  simpa [cOK] using this

/-- A slice that can be read, behind whatever leaves old memory as it is. -/
theorem Rd.belowW {C : Nat} {w w' : World} {v : Value} {cs : List Value} (h : Rd C w v cs) (hb : Below w.heap.size w w') (hC : C ≤ w.heap.size) : Rd C w' v cs := h.below (hb.mono hC)
theorem Rd.alloc {C : Nat} {w : World} {v : Value} {cs : List Value} (h : Rd C w v cs) (o : Obj) (hC : C ≤ w.heap.size) : Rd C (w.alloc o) v cs := h.belowW (below_alloc w o) hC

set_option maxHeartbeats 400000 in
theorem szIntS_any (ao : Option Addr) (n cap l : Nat) (hl : l ≤ 1048576) (hn : n ≤ maxLen) (w : World) :
    Calls Try.prog 23 #[.slice ao n cap, .int .i64 (l : Int)] w fun e w' => e = .returned (.int .i64 (if n ≤ l then ((l - n : Nat) : Int) else -1)) ∧ w' = w := by
  unfold maxLen at hn
  by_cases h : n ≤ l
  · have h1 : ¬ (l : Int) - (n : Int) < 0 := by omega
    have e1 : (l : Int) - (n : Int) = ((l - n : Nat) : Int) := by omega
    rw [if_pos h]
    have H : Hid _ := e1
    clear h e1
    go_enter Try.func23, Try.ntmps23
    go_wp2_with fail
    go_ret
    exact ⟨by rw [← H.out]; rfl, rfl⟩
  · have h1 : (l : Int) - (n : Int) < 0 := by omega
    rw [if_neg h]
    clear h
    go_enter Try.func23, Try.ntmps23
    go_wp2_with fail
    go_ret
    exact ⟨rfl, rfl⟩

set_option maxHeartbeats 400000 in
theorem szVector_any (ao : Option Addr) (n cap l : Nat) (hl : l ≤ 1048576) (hn : n ≤ maxLen) (w : World) :
    Calls Try.prog 13 #[.agg #[.slice ao n cap], .int .i64 (l : Int)] w fun e w' => e = .returned (.int .i64 (if n ≤ l then ((l - n : Nat) : Int) else -1)) ∧ Below w.heap.size w w' := by
  have hS := fun w => szIntS_any ao n cap l hl hn w
  by_cases h : n ≤ l
  · rw [if_pos h] at hS ⊢
    have h1 : ¬ ((l - n : Nat) : Int) < 0 := by omega
    go_enter Try.func13, Try.ntmps13
    go_wp2_with ((go_at_call 23; refine (hS _).mono ?_; rintro e w' ⟨rfl, rfl⟩))
    go_ret
    exact ⟨rfl, below_alloc _ _⟩
  · rw [if_neg h] at hS ⊢
    go_enter Try.func13, Try.ntmps13
    go_wp2_with ((go_at_call 23; refine (hS _).mono ?_; rintro e w' ⟨rfl, rfl⟩))
    go_ret
    exact ⟨rfl, below_alloc _ _⟩

set_option maxHeartbeats 400000 in
theorem toVector_any (C : Nat) (w : World) (v : Value) (xs : List Int) (hl : xs.length ≤ 1048576) (hC : C ≤ w.heap.size) (hr : Rd C w v (xs.map (Value.int .i64))) :
    Calls Try.prog 16 #[.agg #[v]] w fun e w' => ∃ a c, e = .returned (.agg #[.slice a xs.length c]) ∧ Own 3 w' w.heap.size (.slice a xs.length c) (xs.map (Value.int .i64)) ∧ Below w.heap.size w w' := by
  have hr3 : Rd C (((w.alloc (.cells #[v] 24)).alloc (.cells #[.slice none 0 0] 33)).alloc (.cells #[.slice none 0 0] 33)) v (xs.map (Value.int .i64)) := ((hr.alloc _ hC).alloc _ (by simp; omega)).alloc _ (by simp; omega)
  go_enter Try.func16, Try.ntmps16
  go_wp2_with fail
  refine (toIntS_any C _ v xs hl (by simp; omega) hr3).mono ?_
  rintro e w1 ⟨r, rfl, ho, hb⟩
  obtain ⟨ao, cap, rfl, _⟩ := ho.slice
  rw [List.length_map] at ho ⊢
  generalize hrr : Value.slice ao xs.length cap = r at ho
  have c2 := cell_made1 hb
  have f2 := frozen_made hb 0
  have hb1 := below_seq (below_alloc _ _) hb
  have c1 := cell_made1 hb1
  have f1 := frozen_made hb1 0
  have hbw := below_seq (below_then (below_alloc _ _) _) hb1
  simp only [World.size_alloc] at c1 f1 c2 f2
  have hbf : Below w.heap.size w ((w1.setCell ⟨w.heap.size + 1 + 1, 0, none⟩ r).setCell ⟨w.heap.size + 1, 0, none⟩ r) := (hbw.setCell (by simp; omega) _).setCell (by simp) _
  have hof : Own 3 ((w1.setCell ⟨w.heap.size + 1 + 1, 0, none⟩ r).setCell ⟨w.heap.size + 1, 0, none⟩ r) w.heap.size r (xs.map (Value.int .i64)) := by
    have h1 := ho.apart (grownBy_set w1 (w.heap.size + 1 + 1) 0 r) (fun k hk => by cases hk; simp)
    have h2 := h1.apart (grownBy_set _ (w.heap.size + 1) 0 r) (fun k hk => by cases hk; simp only [World.size_alloc]; omega)
    exact h2.mono (by simp; omega)
  clear hb hb1 hbw ho hr3
  subst hrr
  go_wp2_with fail
  exact bodyPost_ret (v := .agg #[.slice ao xs.length cap]) (by simp [results, Try.results16, go_sem, c1]) rfl ⟨_, _, rfl, hof, hbf⟩

set_option maxHeartbeats 400000 in
theorem eqVector_same (C C' : Nat) (w : World) (va vb : Value) (xs : List Int) (hl : xs.length ≤ 140737488355328) (hC : C ≤ w.heap.size) (hC' : C' ≤ w.heap.size)
    (ha : Rd C w va (xs.map (Value.int .i64))) (hb : Rd C' w vb (xs.map (Value.int .i64))) :
    Calls Try.prog 20 #[.agg #[va], .agg #[vb]] w fun e w' => e = .returned (.bool true) ∧ Below w.heap.size w w' := by
  have ha2 : Rd C ((w.alloc (.cells #[va] 33)).alloc (.cells #[vb] 33)) va (xs.map (Value.int .i64)) := (ha.alloc _ hC).alloc _ (by simp; omega)
  have hb2 : Rd C' ((w.alloc (.cells #[va] 33)).alloc (.cells #[vb] 33)) vb (xs.map (Value.int .i64)) := (hb.alloc _ hC').alloc _ (by simp; omega)
  go_enter Try.func20, Try.ntmps20
  go_wp2_with fail
  refine (eqIntS_same C C' _ va vb xs hl ha2 hb2).mono ?_
  rintro e w1 ⟨rfl, n, rfl⟩
  go_wp2_with fail
  go_ret
  exact ⟨rfl, below_drewN (below_then (below_alloc _ _) _) n⟩
end Go.Proofs.Ytaglbacicpknaaa
