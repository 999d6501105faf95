/- What columns and rows that came in are. -/
import Derived.Test.YtlncfeakcgjioaaColumnRows
import Derived.Test.YtlncfeakcgjioaaRowNest
import Derived.Deep.SlicePairs
import Derived.Deep.Strs
import Derived.Below
import Derived.ChangeSame
import Derived.ChangeOld
import Derived.ChangeArms
import Derived.OpenShut
import Derived.ShutString
import Derived.ProofKit
import Derived.Lib.SmallJoins
import Derived.Test.YtlncfeakcgjioaaFrame
import Derived.Test.YtlncfeakcgjioaaFrameStr
namespace Go.Proofs.Ytlncfeakcgjioaa
open Go.ChangeShapes Go.WideShapes Go.ChangeAt Go.RowKit
open Go.ChangeMaps (open_string shut_string)
set_option linter.unusedVariables false
set_option linter.unusedSimpArgs false

theorem own_knob : ownKnob Try.prog.godebug = none := by kernel_rfl
theorem laid_out : laidOutB Try.prog = true := by kernel_rfl
theorem cellsR_bool : Try.prog.cellsOf 4 = 1 := by kernel_rfl
theorem cellsR_text : Try.prog.cellsOf 9 = 1 := by kernel_rfl
theorem cellsR_texts : Try.prog.cellsOf 44 = 1 := by kernel_rfl
theorem cellsR_cn : Try.prog.cellsOf 42 = 3 := by kernel_rfl
theorem cellsR_rw : Try.prog.cellsOf 46 = 2 := by kernel_rfl

set_option maxRecDepth 100000 in
theorem open_col {W : World} {H : Type} {enc : TypeId × Value → H} {fuel : Nat} {c0 c1 c2 : Value} {x : DataW H × List MemPlace} (h : DataW.trod enc Try.prog W 0 (fun _ => true) true fuel 42 [c0, c1, c2] = some x) :
    ∃ x0 x1 x2, c0 = .string x0 ∧ c1 = .bool x1 ∧ c2 = .bool x2 ∧ x0.size ≤ maxLen := by
  obtain ⟨xs, n, _, _, _, hlen, hf⟩ := DataW.trod_struct Try.underlying42 h
  match xs, hlen with
  | [y0, y1, y2], _ =>
    obtain ⟨z0, e0, _, s0⟩ := DataW.trod_string Try.underlying9 ((hf 0 _ rfl).trans rfl)
    obtain ⟨z1, e1, _⟩ := DataW.trod_bool Try.underlying4 ((hf 1 _ rfl).trans rfl)
    obtain ⟨z2, e2, _⟩ := DataW.trod_bool Try.underlying4 ((hf 2 _ rfl).trans rfl)
    simp [cellsR_bool, cellsR_text] at e0 e1 e2
    exact ⟨_, _, _, e0, e1, e2, s0⟩

set_option maxRecDepth 100000 in
theorem open_cols {W : World} {H : Type} {enc : TypeId × Value → H} {fuel : Nat} {c : Value} {x : DataW H × List MemPlace} (h : DataW.trod enc Try.prog W 0 (fun _ => true) true fuel 22 [c] = some x) :
    ∃ ls : List Cn, RdCn W.heap.size W c ls ∧ ls.length ≤ maxLen ∧ ∀ k, (cnAt ls k).1.size ≤ maxLen := by
  rcases Go.Deep.open_slice Try.underlying22 h with ⟨hcs, _⟩ | ⟨a, len, cap, m, n, D, Pl, hcs, _, hl, hm, hmm, _, hall⟩
  · simp at hcs
    subst hcs
    exact ⟨[], ⟨none, 0, rfl, fun hp => absurd hp (by simp)⟩, Nat.zero_le _, fun k => Nat.zero_le _⟩
  · simp at hcs
    subst hcs
    simp only [if_true] at hmm
    subst hmm
    rw [cellsR_cn] at hall
    have each : ∀ i, i < len → ∃ q : Cn, W.cell? (a.add (i * 3)) = some (.string q.1) ∧ W.cell? (a.add (i * 3 + 1)) = some (.bool q.2.1) ∧ W.cell? (a.add (i * 3 + 2)) = some (.bool q.2.2) ∧ q.1.size ≤ maxLen := by
      intro i hi
      obtain ⟨cs', h1, h2⟩ := hall i (by omega)
      obtain ⟨_, hlen, hcell⟩ := World.cells?_some h1
      match cs', hlen with
      | [v0, v1, v2], _ =>
        obtain ⟨t0, t1, t2, rfl, rfl, rfl, s0⟩ := open_col h2
        have e0 := hcell 0 (by omega)
        have e1 := hcell 1 (by omega)
        have e2 := hcell 2 (by omega)
        rw [Go.Deep.add_add] at e0 e1 e2
        exact ⟨(t0, t1, t2), by simpa using e0, by simpa using e1, by simpa using e2, s0⟩
    obtain ⟨q, hq⟩ := Go.Deep.choose_lt each
    have hget : ∀ k, k < len → cnAt ((List.range len).map q) k = q k := fun k hk => by simp [cnAt, hk]
    refine ⟨(List.range len).map q, ⟨some a, _, by simp; rfl, fun hp => ?_⟩, by simp; omega, fun k => ?_⟩
    · simp only [List.length_map, List.length_range] at hp ⊢
      obtain ⟨b, off, rfl⟩ : ∃ b off, a = ⟨b, off, none⟩ := by
        have h0 := (hq 0 (by omega)).1
        obtain ⟨b, off, spot⟩ := a
        have hspot : spot = none := by simpa [Addr.add] using World.cell?_spot h0
        subst hspot
        exact ⟨b, off, rfl⟩
      refine ⟨b, off, rfl, lt_of_cell (hq 0 (by omega)).1, fun k hk => ?_⟩
      obtain ⟨e0, e1, e2, _⟩ := hq k hk
      rw [Addr.add_lit] at e0 e1 e2
      rw [hget k hk]
      exact ⟨e0, e1, e2⟩
    · by_cases hk : k < len
      · rw [hget k hk]
        exact (hq k hk).2.2.2
      · have : cnAt ((List.range len).map q) k = default := by simp [cnAt, hk]
        rw [this]
        exact Nat.zero_le _

set_option maxRecDepth 100000 in
theorem open_texts {W : World} {H : Type} {enc : TypeId × Value → H} {fuel : Nat} {c : Value} {x : DataW H × List MemPlace} (h : DataW.trod enc Try.prog W 0 (fun _ => true) true fuel 44 [c] = some x) :
    ∃ ss : List ByteArray, Rd W.heap.size W c (ss.map Value.string) ∧ ss.length ≤ maxLen ∧ ∀ t ∈ ss, t.size ≤ maxLen := by
  have key : ∀ (a : Option Addr) (l cp : Nat) (zs : List ByteArray), IsStrs W a l cp zs → ∃ ss : List ByteArray, Rd W.heap.size W (.slice a l cp) (ss.map Value.string) ∧ ss.length ≤ maxLen ∧ ∀ t ∈ ss, t.size ≤ maxLen := fun a l cp zs hz => by
    obtain ⟨hr, hl, hs⟩ := hz.rd
    refine ⟨zs.take l, hr, hl, fun t ht => ?_⟩
    obtain ⟨k, hk⟩ := List.getElem?_of_mem ht
    have := hs k
    have e : txt (zs.take l) k = t := by
      unfold txt
      rw [List.getD_eq_getElem?_getD, hk]
      rfl
    rwa [e] at this
  rcases open_strings Try.underlying44 Try.underlying9 (by kernel_rfl) h with ⟨hcs, _⟩ | ⟨x, l, cp, zs, hcs, _, hl, hm, hz, _, hcell, hwz⟩
  · simp at hcs
    subst hcs
    exact key none 0 0 [] (.inl ⟨rfl, rfl, rfl, rfl⟩)
  · simp at hcs
    subst hcs
    exact key _ _ _ zs (.inr ⟨_, rfl, hl, hm, by simpa using hz, hcell, hwz⟩)

set_option maxRecDepth 100000 in
theorem open_row {W : World} {H : Type} {enc : TypeId × Value → H} {fuel : Nat} {c0 c1 : Value} {x : DataW H × List MemPlace} (h : DataW.trod enc Try.prog W 0 (fun _ => true) true fuel 46 [c0, c1] = some x) :
    ∃ y : Rw, c0 = .string y.1 ∧ Rd W.heap.size W c1 (y.2.map Value.string) ∧ y.1.size ≤ maxLen ∧ y.2.length ≤ maxLen ∧ ∀ t ∈ y.2, t.size ≤ maxLen := by
  obtain ⟨y0, y1, m, hx, _, hy0, hy1⟩ := trod_struct2 Try.underlying46 h
  obtain ⟨z0, e0, _, s0⟩ := DataW.trod_string Try.underlying9 hy0
  simp [cellsR_text, cellsR_texts] at e0 hy1
  obtain ⟨ss, hr, hl, hs⟩ := open_texts hy1
  exact ⟨(z0, ss), e0, hr, s0, hl, hs⟩

set_option maxRecDepth 100000 in
theorem open_rows {W : World} {H : Type} {enc : TypeId × Value → H} {fuel : Nat} {c : Value} {x : DataW H × List MemPlace} (h : DataW.trod enc Try.prog W 0 (fun _ => true) true fuel 23 [c] = some x) :
    ∃ P : List Rw, RdRw W.heap.size W c P ∧ P.length ≤ maxLen ∧ ∀ x ∈ P, x.1.size ≤ maxLen ∧ x.2.length ≤ maxLen ∧ ∀ t ∈ x.2, t.size ≤ maxLen := by
  rcases Go.Deep.open_slice Try.underlying23 h with ⟨hcs, _⟩ | ⟨a, len, cap, m, n, D, Pl, hcs, _, hl, hm, hmm, _, hall⟩
  · simp at hcs
    subst hcs
    exact ⟨[], ⟨none, 0, rfl, Nat.le_refl _, Nat.zero_le _, fun _ => rfl, fun hp => absurd hp (by simp)⟩, Nat.zero_le _, fun x hx => absurd hx (by simp)⟩
  · simp at hcs
    subst hcs
    simp only [if_true] at hmm
    subst hmm
    rw [cellsR_rw] at hall
    have each : ∀ i, i < len → ∃ q : Rw, (W.cell? (a.add (i * 2)) = some (.string q.1) ∧ ∃ u, W.cell? (a.add (i * 2 + 1)) = some u ∧ Rd W.heap.size W u (q.2.map Value.string)) ∧ q.1.size ≤ maxLen ∧ q.2.length ≤ maxLen ∧ ∀ t ∈ q.2, t.size ≤ maxLen := by
      intro i hi
      obtain ⟨cs', h1, h2⟩ := hall i (by omega)
      obtain ⟨_, hlen, hcell⟩ := World.cells?_some h1
      match cs', hlen with
      | [v0, v1], _ =>
        obtain ⟨y, rfl, hr, s0, hl', hs⟩ := open_row h2
        have e0 := hcell 0 (by omega)
        have e1 := hcell 1 (by omega)
        rw [Go.Deep.add_add] at e0 e1
        exact ⟨y, ⟨by simpa using e0, v1, by simpa using e1, hr⟩, s0, hl', hs⟩
    have inh : Inhabited Rw := ⟨(ByteArray.empty, [])⟩
    obtain ⟨q, hq⟩ := Go.Deep.choose_lt each
    have hget : ∀ k x, ((List.range len).map q)[k]? = some x → k < len ∧ x = q k := fun k x hx => by
      have hk := (List.getElem?_eq_some_iff.1 hx).1
      simp at hk
      simp [hk] at hx
      exact ⟨hk, hx.symm⟩
    refine ⟨(List.range len).map q, ⟨some a, _, by simp; rfl, by simp; omega, by omega, (fun e => by cases e), fun hp => ?_⟩, by simp; omega, fun x hx => ?_⟩
    · simp only [List.length_map, List.length_range] at hp ⊢
      obtain ⟨b, off, rfl⟩ : ∃ b off, a = ⟨b, off, none⟩ := by
        have h0 := (hq 0 (by omega)).1.1
        obtain ⟨b, off, spot⟩ := a
        have hspot : spot = none := by simpa [Addr.add] using World.cell?_spot h0
        subst hspot
        exact ⟨b, off, rfl⟩
      refine ⟨b, off, rfl, lt_of_cell (hq 0 (by omega)).1.1, fun k x hx => ?_⟩
      obtain ⟨hk, rfl⟩ := hget k x hx
      obtain ⟨⟨e0, u, e1, hr⟩, _⟩ := hq k hk
      rw [Addr.add_lit] at e0 e1
      exact ⟨e0, u, e1, hr⟩
    · obtain ⟨k, hk⟩ := List.getElem?_of_mem hx
      obtain ⟨hk2, rfl⟩ := hget k x hk
      exact (hq k hk2).2
end Go.Proofs.Ytlncfeakcgjioaa
