/- What entries, or a set, that came in are. What a register of several that came in is. -/
import Derived.Deep.SlicePairs
import Derived.Test.YtdkfeabpnikedaaQFrameVec
import Derived.Test.YtdkfeabpnikedaaQJoinedBaseToEntRows
namespace Go.Proofs.Ytdkfeabpnikedaa
open Go.ChangeShapes Go.WideShapes Go.ChangeAt Go.RowKit
set_option linter.unusedVariables false

theorem cellsE_int : Try.prog.cellsOf 3 = 1 := by kernel_rfl
theorem cellsE_text : Try.prog.cellsOf 9 = 1 := by kernel_rfl
theorem cellsE_stamp : Try.prog.cellsOf 98 = 2 := by kernel_rfl
theorem cellsE_entry : Try.prog.cellsOf 100 = 3 := by kernel_rfl
theorem cellsE_entries : Try.prog.cellsOf 25 = 1 := by kernel_rfl

set_option maxRecDepth 100000 in
theorem open_entry {W : World} {H : Type} {enc : TypeId × Value → H} {fuel : Nat} {c0 c1 c2 : Value} {x : DataW H × List MemPlace} (h : DataW.trod enc Try.prog W 0 (fun _ => true) true fuel 100 [c0, c1, c2] = some x) :
    ∃ t a s, c0 = .int .i64 t ∧ c1 = .int .i64 a ∧ c2 = .string s ∧ s.size ≤ maxLen := by
  obtain ⟨y0, y1, m, hx, _, hy0, hy1⟩ := trod_struct2 Try.underlying100 h
  obtain ⟨z0, z1, m', hx', _, hz0, hz1⟩ := trod_struct2 Try.underlying98 hy0
  obtain ⟨a, e0, _, _⟩ := DataW.trod_int Try.underlying3 hz0
  obtain ⟨b, e1, _, _⟩ := DataW.trod_int Try.underlying3 hz1
  obtain ⟨s, e2, _, hs⟩ := DataW.trod_string Try.underlying9 hy1
  simp [cellsE_int, cellsE_stamp, cellsE_text] at e0 e1 e2
  exact ⟨_, _, _, e0, e1, e2, hs⟩

set_option maxRecDepth 100000 in
theorem open_entries {W : World} {H : Type} {enc : TypeId × Value → H} {fuel : Nat} {c : Value} {x : DataW H × List MemPlace} (h : DataW.trod enc Try.prog W 0 (fun _ => true) true fuel 25 [c] = some x) :
    ∃ ls : List En, RdE W.heap.size W c ls ∧ ls.length ≤ maxLen ∧ ∀ k, (enAt ls k).2.2.size ≤ maxLen := by
  rcases Go.Deep.open_slice Try.underlying25 h with ⟨hcs, _⟩ | ⟨a, len, cap, m, n, D, Pl, hcs, _, hl, hm, hmm, _, hall⟩
  · simp at hcs
    subst hcs
    exact ⟨[], ⟨none, 0, rfl, fun hp => absurd hp (by simp)⟩, Nat.zero_le _, fun k => by simp [enAt]⟩
  · simp at hcs
    subst hcs
    simp only [if_true] at hmm
    subst hmm
    rw [cellsE_entry] at hall
    have each : ∀ i, i < len → ∃ q : En, W.cell? (a.add (i * 3)) = some (.int .i64 q.1) ∧ W.cell? (a.add (i * 3 + 1)) = some (.int .i64 q.2.1) ∧ W.cell? (a.add (i * 3 + 2)) = some (.string q.2.2) ∧ q.2.2.size ≤ maxLen := by
      intro i hi
      obtain ⟨cs', h1, h2⟩ := hall i (by omega)
      obtain ⟨_, hlen, hcell⟩ := World.cells?_some h1
      match cs', hlen with
      | [v0, v1, v2], _ =>
        obtain ⟨t, b, s, rfl, rfl, rfl, hs⟩ := open_entry h2
        have e0 := hcell 0 (by omega)
        have e1 := hcell 1 (by omega)
        have e2 := hcell 2 (by omega)
        rw [Go.Deep.add_add] at e0 e1 e2
        exact ⟨(t, b, s), by simpa using e0, by simpa using e1, by simpa using e2, hs⟩
    obtain ⟨q, hq⟩ := Go.Deep.choose_lt each
    have hget : ∀ k, k < len → enAt ((List.range len).map q) k = q k := fun k hk => by simp [enAt, hk]
    refine ⟨(List.range len).map q, ⟨some a, _, by simp; rfl, fun hp => ?_⟩, by simp; omega, fun k => ?_⟩
    · simp only [List.length_map, List.length_range] at hp ⊢
      obtain ⟨b, off, rfl⟩ : ∃ b off, a = ⟨b, off, none⟩ := by
        have h0 := (hq 0 (by omega)).1
        obtain ⟨b, off, spot⟩ := a
        have hspot : spot = none := by simpa [Addr.add] using World.cell?_spot h0
        subst hspot
        exact ⟨b, off, rfl⟩
      refine ⟨b, off, rfl, lt_of_cell (hq 0 (by omega)).1, fun k hk => ?_⟩
      obtain ⟨e0, e1, e2, _⟩ := hq k hk
      rw [Addr.add_lit] at e0 e1 e2
      rw [hget k hk]
      exact ⟨e0, e1, e2⟩
    · by_cases hk : k < len
      · rw [hget k hk]
        exact (hq k hk).2.2.2
      · simp [enAt, hk]

set_option maxRecDepth 100000 in
theorem open_rowS {W : World} {H : Type} {enc : TypeId × Value → H} {fuel : Nat} {c : Value} {x : DataW H × List MemPlace} (h : DataW.trod enc Try.prog W 0 (fun _ => true) true fuel 24 [c] = some x) : ∃ a len cap zs, c = .slice a len cap ∧ IsRow .i64 W a len cap zs := by
  obtain ⟨y0, m, hx, _, hy0⟩ := trod_struct1 Try.underlying24 h
  rcases open_ints Try.underlying22 Try.underlying3 (by kernel_rfl) hy0 with ⟨hcs, _⟩ | ⟨x, l, c, zs, hcs, _, hl, hm, hz, _, hcell, hwz⟩
  · simp [cells_ints] at hcs
    subst hcs
    exact ⟨none, 0, 0, [], rfl, .inl ⟨rfl, rfl, rfl, rfl⟩⟩
  · simp [cells_ints] at hcs
    subst hcs
    exact ⟨_, _, _, zs, rfl, .inr ⟨_, rfl, hl, hm, by simpa using hz, hcell, hwz⟩⟩
theorem cellsE_set : Try.prog.cellsOf 41 = 2 := by kernel_rfl

set_option maxRecDepth 100000 in
theorem open_set {W : World} {H : Type} {enc : TypeId × Value → H} {base : Nat} {r : Reach} {v : Value} {d : DataW H} {p : List MemPlace} (hok : Value.okWide Try.prog W r base 41 v)
    (h : DataW.Trod enc Try.prog W 0 (fun _ => true) true 41 v d p) : ∃ a la ca za ve ls, v = .agg #[.slice a la ca, ve] ∧ IsRow .i64 W a la ca za ∧ RdE W.heap.size W ve ls ∧ ls.length ≤ maxLen ∧ ∀ k, (enAt ls k).2.2.size ≤ maxLen := by
  obtain ⟨cs, rfl, hsz⟩ := okWide_struct Try.underlying41 hok
  rw [cellsE_set] at hsz
  obtain ⟨l⟩ := cs
  match l, hsz with
  | [c0, c1], _ =>
  obtain ⟨fuel, hf⟩ := h
  obtain ⟨y0, y1, m, hx, _, hy0, hy1⟩ := trod_struct2 Try.underlying41 hf
  simp only [Value.cells, cells_vector, cellsE_entries] at hy0 hy1
  obtain ⟨a, la, ca, za, rfl, ha⟩ := open_rowS (c := c0) hy0
  obtain ⟨ls, he, h1, h2⟩ := open_entries (c := c1) hy1
  exact ⟨a, la, ca, za, c1, ls, rfl, ha, he, h1, h2⟩
end Go.Proofs.Ytdkfeabpnikedaa

namespace Go.Proofs.Ytdkfeabpnikedaa
open Go.ChangeShapes Go.WideShapes Go.ChangeAt Go.RowKit
set_option linter.unusedVariables false

theorem cellsE_multi : Try.prog.cellsOf 27 = 2 := by kernel_rfl

set_option maxRecDepth 100000 in
theorem open_multi {W : World} {H : Type} {enc : TypeId × Value → H} {base : Nat} {r : Reach} {v : Value} {d : DataW H} {p : List MemPlace} (hok : Value.okWide Try.prog W r base 27 v)
    (h : DataW.Trod enc Try.prog W 0 (fun _ => true) true 27 v d p) : ∃ a la ca za ve ls, v = .agg #[.slice a la ca, ve] ∧ IsRow .i64 W a la ca za ∧ RdE W.heap.size W ve ls ∧ ls.length ≤ maxLen ∧ ∀ k, (enAt ls k).2.2.size ≤ maxLen := by
  obtain ⟨cs, rfl, hsz⟩ := okWide_struct Try.underlying27 hok
  rw [cellsE_multi] at hsz
  obtain ⟨l⟩ := cs
  match l, hsz with
  | [c0, c1], _ =>
  obtain ⟨fuel, hf⟩ := h
  obtain ⟨y0, y1, m, hx, _, hy0, hy1⟩ := trod_struct2 Try.underlying27 hf
  simp only [Value.cells, cells_vector, cellsE_entries] at hy0 hy1
  obtain ⟨a, la, ca, za, rfl, ha⟩ := open_rowS (c := c0) hy0
  obtain ⟨ls, he, h1, h2⟩ := open_entries (c := c1) hy1
  exact ⟨a, la, ca, za, c1, ls, rfl, ha, he, h1, h2⟩
end Go.Proofs.Ytdkfeabpnikedaa
