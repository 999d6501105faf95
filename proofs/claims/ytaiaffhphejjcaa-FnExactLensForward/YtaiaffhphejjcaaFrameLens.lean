/- What steps and pairs that came in are. -/
import Derived.Test.YtaiaffhphejjcaaPairRows
import Derived.Test.YtaiaffhphejjcaaStepRows
import Derived.Deep.SlicePairs
import Derived.Below
import Derived.ChangeSame
import Derived.ChangeOld
import Derived.OpenShut
import Derived.ProofKit
import Derived.Lib.SmallJoins
import Derived.Test.YtaiaffhphejjcaaFrame
namespace Go.Proofs.Ytaiaffhphejjcaa
open Go.ChangeShapes Go.WideShapes Go.ChangeAt Go.RowKit
set_option linter.unusedVariables false
set_option linter.unusedSimpArgs false

theorem own_knob : ownKnob Try.prog.godebug = none := by kernel_rfl
theorem laid_out : laidOutB Try.prog = true := by kernel_rfl
theorem cellsL_int : Try.prog.cellsOf 3 = 1 := by kernel_rfl
theorem cellsL_text : Try.prog.cellsOf 9 = 1 := by kernel_rfl
theorem cellsL_st : Try.prog.cellsOf 39 = 4 := by kernel_rfl

set_option maxRecDepth 100000 in
theorem open_step {W : World} {H : Type} {enc : TypeId × Value → H} {fuel : Nat} {c0 c1 c2 c3 : Value} {x : DataW H × List MemPlace} (h : DataW.trod enc Try.prog W 0 (fun _ => true) true fuel 39 [c0, c1, c2, c3] = some x) :
    ∃ x0 x1 x2 x3, c0 = .int .i64 x0 ∧ c1 = .string x1 ∧ c2 = .string x2 ∧ c3 = .string x3 ∧ x1.size ≤ maxLen ∧ x2.size ≤ maxLen ∧ x3.size ≤ maxLen := by
  obtain ⟨y0, y1, y2, y3, m, hx, _, hy0, hy1, hy2, hy3⟩ := Go.Joins.trod_struct4 Try.underlying39 h
  obtain ⟨z0, e0, _, _⟩ := DataW.trod_int Try.underlying3 hy0
  obtain ⟨z1, e1, _, s1⟩ := DataW.trod_string Try.underlying9 hy1
  obtain ⟨z2, e2, _, s2⟩ := DataW.trod_string Try.underlying9 hy2
  obtain ⟨z3, e3, _, s3⟩ := DataW.trod_string Try.underlying9 hy3
  simp [cellsL_int, cellsL_text] at e0 e1 e2 e3
  exact ⟨_, _, _, _, e0, e1, e2, e3, s1, s2, s3⟩

set_option maxRecDepth 100000 in
theorem open_steps {W : World} {H : Type} {enc : TypeId × Value → H} {fuel : Nat} {c : Value} {x : DataW H × List MemPlace} (h : DataW.trod enc Try.prog W 0 (fun _ => true) true fuel 22 [c] = some x) :
    ∃ ls : List St, RdSt W.heap.size W c ls ∧ ls.length ≤ maxLen ∧ ∀ k, (stAt ls k).2.1.size ≤ maxLen ∧ (stAt ls k).2.2.1.size ≤ maxLen ∧ (stAt ls k).2.2.2.size ≤ maxLen := by
  rcases Go.Deep.open_slice Try.underlying22 h with ⟨hcs, _⟩ | ⟨a, len, cap, m, n, D, Pl, hcs, _, hl, hm, hmm, _, hall⟩
  · simp at hcs
    subst hcs
    exact ⟨[], ⟨none, 0, rfl, fun hp => absurd hp (by simp)⟩, Nat.zero_le _, fun k => ⟨Nat.zero_le _, Nat.zero_le _, Nat.zero_le _⟩⟩
  · simp at hcs
    subst hcs
    simp only [if_true] at hmm
    subst hmm
    rw [cellsL_st] at hall
    have each : ∀ i, i < len → ∃ q : St, W.cell? (a.add (i * 4)) = some (.int .i64 q.1) ∧ W.cell? (a.add (i * 4 + 1)) = some (.string q.2.1) ∧ W.cell? (a.add (i * 4 + 2)) = some (.string q.2.2.1) ∧ W.cell? (a.add (i * 4 + 3)) = some (.string q.2.2.2) ∧ q.2.1.size ≤ maxLen ∧ q.2.2.1.size ≤ maxLen ∧ q.2.2.2.size ≤ maxLen := by
      intro i hi
      obtain ⟨cs', h1, h2⟩ := hall i (by omega)
      obtain ⟨_, hlen, hcell⟩ := World.cells?_some h1
      match cs', hlen with
      | [v0, v1, v2, v3], _ =>
        obtain ⟨t0, t1, t2, t3, rfl, rfl, rfl, rfl, s1, s2, s3⟩ := open_step h2
        have e0 := hcell 0 (by omega)
        have e1 := hcell 1 (by omega)
        have e2 := hcell 2 (by omega)
        have e3 := hcell 3 (by omega)
        rw [Go.Deep.add_add] at e0 e1 e2 e3
        exact ⟨(t0, t1, t2, t3), by simpa using e0, by simpa using e1, by simpa using e2, by simpa using e3, s1, s2, s3⟩
    obtain ⟨q, hq⟩ := Go.Deep.choose_lt each
    have hget : ∀ k, k < len → stAt ((List.range len).map q) k = q k := fun k hk => by simp [stAt, hk]
    refine ⟨(List.range len).map q, ⟨some a, _, by simp; rfl, fun hp => ?_⟩, by simp; omega, fun k => ?_⟩
    · simp only [List.length_map, List.length_range] at hp ⊢
      obtain ⟨b, off, rfl⟩ : ∃ b off, a = ⟨b, off, none⟩ := by
        have h0 := (hq 0 (by omega)).1
        obtain ⟨b, off, spot⟩ := a
        have hspot : spot = none := by simpa [Addr.add] using World.cell?_spot h0
        subst hspot
        exact ⟨b, off, rfl⟩
      refine ⟨b, off, rfl, lt_of_cell (hq 0 (by omega)).1, fun k hk => ?_⟩
      obtain ⟨e0, e1, e2, e3, _⟩ := hq k hk
      rw [Addr.add_lit] at e0 e1 e2 e3
      rw [hget k hk]
      exact ⟨e0, e1, e2, e3⟩
    · by_cases hk : k < len
      · rw [hget k hk]
        exact (hq k hk).2.2.2.2
      · have : stAt ((List.range len).map q) k = default := by simp [stAt, hk]
        rw [this]
        exact ⟨Nat.zero_le _, Nat.zero_le _, Nat.zero_le _⟩

theorem cellsL_pr : Try.prog.cellsOf 42 = 2 := by kernel_rfl

set_option maxRecDepth 100000 in
theorem open_pair {W : World} {H : Type} {enc : TypeId × Value → H} {fuel : Nat} {c0 c1 : Value} {x : DataW H × List MemPlace} (h : DataW.trod enc Try.prog W 0 (fun _ => true) true fuel 42 [c0, c1] = some x) :
    ∃ x0 x1, c0 = .string x0 ∧ c1 = .string x1 ∧ x0.size ≤ maxLen ∧ x1.size ≤ maxLen := by
  obtain ⟨y0, y1, m, hx, _, hy0, hy1⟩ := trod_struct2 Try.underlying42 h
  obtain ⟨z0, e0, _, s0⟩ := DataW.trod_string Try.underlying9 hy0
  obtain ⟨z1, e1, _, s1⟩ := DataW.trod_string Try.underlying9 hy1
  simp [cellsL_int, cellsL_text] at e0 e1
  exact ⟨_, _, e0, e1, s0, s1⟩

set_option maxRecDepth 100000 in
theorem open_pairs {W : World} {H : Type} {enc : TypeId × Value → H} {fuel : Nat} {c : Value} {x : DataW H × List MemPlace} (h : DataW.trod enc Try.prog W 0 (fun _ => true) true fuel 23 [c] = some x) :
    ∃ ls : List Pr, RdPr W.heap.size W c ls ∧ ls.length ≤ maxLen ∧ ∀ k, (prAt ls k).1.size ≤ maxLen ∧ (prAt ls k).2.size ≤ maxLen := by
  rcases Go.Deep.open_slice Try.underlying23 h with ⟨hcs, _⟩ | ⟨a, len, cap, m, n, D, Pl, hcs, _, hl, hm, hmm, _, hall⟩
  · simp at hcs
    subst hcs
    exact ⟨[], ⟨none, 0, rfl, fun hp => absurd hp (by simp)⟩, Nat.zero_le _, fun k => ⟨Nat.zero_le _, Nat.zero_le _⟩⟩
  · simp at hcs
    subst hcs
    simp only [if_true] at hmm
    subst hmm
    rw [cellsL_pr] at hall
    have each : ∀ i, i < len → ∃ q : Pr, W.cell? (a.add (i * 2)) = some (.string q.1) ∧ W.cell? (a.add (i * 2 + 1)) = some (.string q.2) ∧ q.1.size ≤ maxLen ∧ q.2.size ≤ maxLen := by
      intro i hi
      obtain ⟨cs', h1, h2⟩ := hall i (by omega)
      obtain ⟨_, hlen, hcell⟩ := World.cells?_some h1
      match cs', hlen with
      | [v0, v1], _ =>
        obtain ⟨t0, t1, rfl, rfl, s0, s1⟩ := open_pair h2
        have e0 := hcell 0 (by omega)
        have e1 := hcell 1 (by omega)
        rw [Go.Deep.add_add] at e0 e1
        exact ⟨(t0, t1), by simpa using e0, by simpa using e1, s0, s1⟩
    obtain ⟨q, hq⟩ := Go.Deep.choose_lt each
    have hget : ∀ k, k < len → prAt ((List.range len).map q) k = q k := fun k hk => by simp [prAt, hk]
    refine ⟨(List.range len).map q, ⟨some a, _, by simp; rfl, fun hp => ?_⟩, by simp; omega, fun k => ?_⟩
    · simp only [List.length_map, List.length_range] at hp ⊢
      obtain ⟨b, off, rfl⟩ : ∃ b off, a = ⟨b, off, none⟩ := by
        have h0 := (hq 0 (by omega)).1
        obtain ⟨b, off, spot⟩ := a
        have hspot : spot = none := by simpa [Addr.add] using World.cell?_spot h0
        subst hspot
        exact ⟨b, off, rfl⟩
      refine ⟨b, off, rfl, lt_of_cell (hq 0 (by omega)).1, fun k hk => ?_⟩
      obtain ⟨e0, e1, _⟩ := hq k hk
      rw [Addr.add_lit] at e0 e1
      rw [hget k hk]
      exact ⟨e0, e1⟩
    · by_cases hk : k < len
      · rw [hget k hk]
        exact (hq k hk).2.2
      · have : prAt ((List.range len).map q) k = default := by simp [prAt, hk]
        rw [this]
        exact ⟨Nat.zero_le _, Nat.zero_le _⟩

end Go.Proofs.Ytaiaffhphejjcaa
