/- What operations that came in are. -/
import Derived.Deep.SlicePairs
import Derived.Test.YtgmhfhjmepkchaaGreatQFrameVec
import Derived.Test.YtgmhfhjmepkchaaGreatQOpComesToOpBase
namespace Go.Proofs.YtgmhfhjmepkchaaGreat
open Go.ChangeShapes Go.WideShapes Go.ChangeAt Go.RowKit
set_option linter.unusedVariables false

theorem cellsO_int : Tryz.prog.cellsOf 3 = 1 := by kernel_rfl
theorem cellsO_text : Tryz.prog.cellsOf 9 = 1 := by kernel_rfl
theorem cellsO_stamp : Tryz.prog.cellsOf 35 = 2 := by kernel_rfl
theorem cellsO_vec : Tryz.prog.cellsOf 33 = 1 := by kernel_rfl
theorem cellsO_op : Tryz.prog.cellsOf 37 = 12 := by kernel_rfl

set_option maxRecDepth 100000 in
theorem open_rowO {W : World} {H : Type} {enc : TypeId × Value → H} {fuel : Nat} {c : Value} {x : DataW H × List MemPlace} (h : DataW.trod enc Tryz.prog W 0 (fun _ => true) true fuel 33 [c] = some x) : ∃ a len cap zs, c = .slice a len cap ∧ IsRow .i64 W a len cap zs := by
  obtain ⟨y0, m, hx, _, hy0⟩ := trod_struct1 Tryz.underlying33 h
  rcases open_ints Tryz.underlying31 Tryz.underlying3 (by kernel_rfl) hy0 with ⟨hcs, _⟩ | ⟨x, l, c, zs, hcs, _, hl, hm, hz, _, hcell, hwz⟩
  · simp [cells_ints] at hcs
    subst hcs
    exact ⟨none, 0, 0, [], rfl, .inl ⟨rfl, rfl, rfl, rfl⟩⟩
  · simp [cells_ints] at hcs
    subst hcs
    exact ⟨_, _, _, zs, rfl, .inr ⟨_, rfl, hl, hm, by simpa using hz, hcell, hwz⟩⟩

set_option maxHeartbeats 1000000 in
set_option maxRecDepth 100000 in
theorem open_op {W : World} {H : Type} {enc : TypeId × Value → H} {fuel : Nat} {c0 c1 c2 c3 c4 c5 c6 c7 c8 c9 c10 c11 : Value} {x : DataW H × List MemPlace} (h : DataW.trod enc Tryz.prog W 0 (fun _ => true) true fuel 37 [c0, c1, c2, c3, c4, c5, c6, c7, c8, c9, c10, c11] = some x) :
    ∃ y : Ov, [c0, c1, c2, c3, c4, c5, c6, c7, c8, c9, c10, c11] = y.cs ∧ Rd W.heap.size W y.dv (y.ds.map (Value.int .i64)) ∧ y.ky.size ≤ maxLen ∧ y.tx.size ≤ maxLen := by
  obtain ⟨xs, n, _, _, _, hlen, hf⟩ := DataW.trod_struct Tryz.underlying37 h
  match xs, hlen with
  | [y0, y1, y2, y3, y4, y5, y6, y7, y8, y9, y10], _ =>
    obtain ⟨a0, e0, _, _⟩ := DataW.trod_int Tryz.underlying3 ((hf 0 _ rfl).trans rfl)
    obtain ⟨a1, e1, _, _⟩ := DataW.trod_int Tryz.underlying3 ((hf 1 _ rfl).trans rfl)
    obtain ⟨a2, e2, _, _⟩ := DataW.trod_int Tryz.underlying3 ((hf 2 _ rfl).trans rfl)
    obtain ⟨a4, e4, _, _⟩ := DataW.trod_int Tryz.underlying3 ((hf 4 _ rfl).trans rfl)
    obtain ⟨a5, e5, _, _⟩ := DataW.trod_int Tryz.underlying3 ((hf 5 _ rfl).trans rfl)
    obtain ⟨a6, e6, _, _⟩ := DataW.trod_int Tryz.underlying3 ((hf 6 _ rfl).trans rfl)
    obtain ⟨a7, e7, _, _⟩ := DataW.trod_int Tryz.underlying3 ((hf 7 _ rfl).trans rfl)
    obtain ⟨z0, z1, m', hx', _, hz0, hz1⟩ := trod_struct2 Tryz.underlying35 ((hf 8 _ rfl).trans rfl)
    obtain ⟨a8, e8, _, _⟩ := DataW.trod_int Tryz.underlying3 hz0
    obtain ⟨a9, e9, _, _⟩ := DataW.trod_int Tryz.underlying3 hz1
    obtain ⟨s1, e10, _, hs1⟩ := DataW.trod_string Tryz.underlying9 ((hf 9 _ rfl).trans rfl)
    obtain ⟨s2, e11, _, hs2⟩ := DataW.trod_string Tryz.underlying9 ((hf 10 _ rfl).trans rfl)
    have h3 := hf 3 _ rfl
    simp [cellsO_int, cellsO_stamp, cellsO_text, cellsO_vec] at e0 e1 e2 e4 e5 e6 e7 e8 e9 e10 e11 h3
    obtain ⟨a, len, cap, zs, rfl, hrow⟩ := open_rowO h3
    subst e0 e1 e2 e4 e5 e6 e7 e8 e9 e10 e11
    exact ⟨⟨a0, a1, a2, .slice a len cap, a4, a5, a6, a7, a8, a9, s1, s2, zs.take len⟩, rfl, hrow.rd.1, hs1, hs2⟩

set_option maxHeartbeats 1000000 in
set_option maxRecDepth 100000 in
theorem open_ops {W : World} {H : Type} {enc : TypeId × Value → H} {fuel : Nat} {c : Value} {x : DataW H × List MemPlace} (h : DataW.trod enc Tryz.prog W 0 (fun _ => true) true fuel 22 [c] = some x) :
    ∃ L : List Ov, RdO W.heap.size W c L ∧ ∀ x ∈ L, x.ky.size ≤ maxLen ∧ x.tx.size ≤ maxLen := by
  rcases Go.Deep.open_slice Tryz.underlying22 h with ⟨hcs, _⟩ | ⟨a, len, cap, m, n, D, Pl, hcs, _, hl, hm, hmm, _, hall⟩
  · simp at hcs
    subst hcs
    exact ⟨[], ⟨⟨none, 0, rfl, Nat.le_refl _, Nat.zero_le _, fun _ => rfl, fun hp => absurd hp (by simp)⟩, fun x hx => absurd hx (by simp)⟩, fun x hx => absurd hx (by simp)⟩
  · simp at hcs
    subst hcs
    simp only [if_true] at hmm
    subst hmm
    rw [cellsO_op] at hall
    have each : ∀ i, i < len → ∃ q : Ov, (∀ j u, q.cs[j]? = some u → W.cell? (a.add (i * 12 + j)) = some u) ∧ Rd W.heap.size W q.dv (q.ds.map (Value.int .i64)) ∧ q.ky.size ≤ maxLen ∧ q.tx.size ≤ maxLen := by
      intro i hi
      obtain ⟨cs', h1, h2⟩ := hall i (by omega)
      obtain ⟨_, hlen, hcell⟩ := World.cells?_some h1
      match cs', hlen with
      | [v0, v1, v2, v3, v4, v5, v6, v7, v8, v9, v10, v11], _ =>
        obtain ⟨y, hy, hd, hk, ht⟩ := open_op h2
        refine ⟨y, fun j u hj => ?_, hd, hk, ht⟩
        rw [← hy] at hj
        obtain ⟨hj1, hj2⟩ := List.getElem?_eq_some_iff.1 hj
        have e := hcell j (by simpa using hj1)
        rw [Go.Deep.add_add] at e
        rw [e]
        exact hj
    have inh : Inhabited Ov := ⟨ov0⟩
    obtain ⟨q, hq⟩ := Go.Deep.choose_lt each
    have hget : ∀ k, k < len → ovAt ((List.range len).map q) k = q k := fun k hk => by simp [ovAt, hk]
    refine ⟨(List.range len).map q, ⟨⟨some a, _, by simp; rfl, by simp; omega, by omega, (fun e => by cases e), fun hp => ?_⟩, fun x hx => ?_⟩, fun x hx => ?_⟩
    · simp only [List.length_map, List.length_range] at hp ⊢
      obtain ⟨b, off, rfl⟩ : ∃ b off, a = ⟨b, off, none⟩ := by
        have h0 := (hq 0 (by omega)).1 0 _ rfl
        obtain ⟨b, off, spot⟩ := a
        have hspot : spot = none := by simpa [Addr.add] using World.cell?_spot h0
        subst hspot
        exact ⟨b, off, rfl⟩
      have hb : b < W.heap.size := lt_of_cell ((hq 0 (by omega)).1 0 _ rfl)
      refine ⟨b, off, rfl, hb, fun k hk => ?_⟩
      rw [hget k hk]
      have cell : ∀ j u, (q k).cs[j]? = some u → W.cell? ⟨b, off + k * 12 + j, none⟩ = some u := fun j u hj => by
        have := (hq k hk).1 j u hj
        rw [Addr.add_lit, ← Nat.add_assoc] at this
        exact this
      exact ⟨cell 0 _ rfl, cell 1 _ rfl, cell 2 _ rfl, cell 3 _ rfl, cell 4 _ rfl, cell 5 _ rfl, cell 6 _ rfl, cell 7 _ rfl, cell 8 _ rfl, cell 9 _ rfl, cell 10 _ rfl, cell 11 _ rfl⟩
    · obtain ⟨k, hk, rfl⟩ := List.mem_map.1 hx
      exact (hq k (List.mem_range.1 hk)).2.1
    · obtain ⟨k, hk, rfl⟩ := List.mem_map.1 hx
      exact (hq k (List.mem_range.1 hk)).2.2
end Go.Proofs.YtgmhfhjmepkchaaGreat
