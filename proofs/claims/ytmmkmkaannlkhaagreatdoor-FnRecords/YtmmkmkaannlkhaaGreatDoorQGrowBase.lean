/- Three drawn logs beside a source: what is held while they grow. -/
import Derived.Test.YtmmkmkaannlkhaaGreatDoorQAddStepToSameSpec
import Derived.Test.YtmmkmkaannlkhaaGreatDoorQDrawAside
import Derived.Test.YtmmkmkaannlkhaaGreatDoorQDrawMake
import Derived.Test.YtmmkmkaannlkhaaGreatDoorQLedgerToLogFind
namespace Go.Proofs.YtmmkmkaannlkhaaGreatDoor
open Go.RowKit
set_option linter.unusedVariables false

theorem blk_loG {w : World} {g : Nat} {o : Obj} (h : w.heap[g]? = some o) : g < w.heap.size := (Array.getElem?_eq_some_iff.1 h).1
/-- A block of fewer than twelve cells holds no row of operations, nor sixteen counts. -/
theorem Rd.beside {D : Nat} {w w' : World} {b : Nat} {v : Value} {cs : List Value} (h : Rd D w v cs) (hn : 4 ≤ cs.length) (hs : ∀ k, 3 ≤ k → w.cell? ⟨b, k, none⟩ = none) (hg : w.grownBy w' (some b)) (hD : D ≤ w.heap.size) : Rd D w' v cs := by
  obtain ⟨ao, cap, rfl, h1, h2, h3, h4⟩ := h
  refine ⟨ao, cap, rfl, h1, h2, h3, fun hp => ?_⟩
  obtain ⟨g, off, rfl, hgD, hc⟩ := h4 hp
  have hne : g ≠ b := fun e => by
    have h5 := hc 3 _ (List.getElem?_eq_getElem (by omega))
    rw [e, hs _ (by omega)] at h5
    cases h5
  exact ⟨g, off, rfl, hgD, fun j u hj => (World.cell?_of_block (w := w) (a := ⟨g, off + j, none⟩) (hg.block g (by omega) (fun e => hne (Option.some.inj e)))).trans (hc j u hj)⟩
theorem RdO.beside {D : Nat} {w w' : World} {b : Nat} {v : Value} {L : List Ov} (h : RdO D w v L) (hL : ∀ x ∈ L, x.ds.length = 16) (hs : ∀ k, 3 ≤ k → w.cell? ⟨b, k, none⟩ = none) (hg : w.grownBy w' (some b)) (hD : D ≤ w.heap.size) : RdO D w' v L := by
  obtain ⟨⟨ao, cap, rfl, h1, h2, h3, h4⟩, h5⟩ := h
  refine ⟨⟨ao, cap, rfl, h1, h2, h3, fun hp => ?_⟩, fun x hx => (h5 x hx).beside (by rw [List.length_map, hL x hx]; omega) hs hg hD⟩
  obtain ⟨g, off, rfl, hgD, hc⟩ := h4 hp
  have hne : g ≠ b := fun e => by
    have h6 := (hc 0 hp).c11
    rw [e, hs _ (by omega)] at h6
    cases h6
  exact ⟨g, off, rfl, hgD, fun k hk => (hc k hk).block (hg.block g (by omega) (fun e => hne (Option.some.inj e)))⟩

/-- The source, and the row of three logs. -/
structure Gw (C : Nat) (w wr : World) (b A gl : Nat) (V : Nat → Value) (LL : Nat → List Ov) (T n : Nat) : Prop where
  src : Src C wr b A
  gr : w.grownBy wr (some b)
  row : wr.heap[gl]? = some (.cells #[V 0, V 1, V 2] 33 (0, 0))
  lo : w.heap.size ≤ gl
  lt : b < w.heap.size
  log : ∀ k, k < 3 → RdO wr.heap.size wr (V k) (LL k)
  dr : ∀ k, k < 3 → DrL 3 T n (LL k)
theorem Gw.mono {C : Nat} {w wr : World} {b A gl : Nat} {V : Nat → Value} {LL : Nat → List Ov} {T n A' T' n' : Nat} (h : Gw C w wr b A gl V LL T n) (hA : A ≤ A') (hT : T ≤ T') (hn : n ≤ n') : Gw C w wr b A' gl V LL T' n' := ⟨h.src.mono hA, h.gr, h.row, h.lo, h.lt, h.log, fun k hk => (h.dr k hk).mono hT hn⟩
theorem Gw.next {C : Nat} {w wr w' : World} {b A A' gl : Nat} {V : Nat → Value} {LL : Nat → List Ov} {T n : Nat} (h : Gw C w wr b A gl V LL T n) (hs : Src C w' b A') (hg : wr.grownBy w' (some b)) : Gw C w w' b A' gl V LL T n :=
  ⟨hs, grownBy_trans h.gr hg, blk_on h.row hg (by have := h.lo; have := h.lt; omega), h.lo, h.lt, fun k hk => ((h.log k hk).aside (fun x hx => ((h.dr k hk).2 x hx).2.1) h.src hg (Nat.le_refl _)).mono hg.size, h.dr⟩
theorem Gw.below {C : Nat} {w wr w' : World} {b A gl : Nat} {V : Nat → Value} {LL : Nat → List Ov} {T n : Nat} (h : Gw C w wr b A gl V LL T n) (hb : Below wr.heap.size wr w') : Gw C w w' b A gl V LL T n :=
  ⟨h.src.below hb h.src.lt, grownBy_trans h.gr (grownBy_below hb (Nat.le_refl _) (some b)), (hb.block _ (blk_loG h.row)).trans h.row, h.lo, h.lt, fun k hk => ((h.log k hk).below hb).mono hb.size, h.dr⟩
theorem Gw.drew {C : Nat} {w wr : World} {b A gl : Nat} {V : Nat → Value} {LL : Nat → List Ov} {T n : Nat} (h : Gw C w wr b A gl V LL T n) : Gw C w wr.drew b A gl V LL T n := h.below (Below.refl _ _).drew
theorem row3 (V : Nat → Value) : ∀ k, k < 3 → (#[V 0, V 1, V 2] : Array Value)[k]? = some (V k)
  | 0, _ => rfl
  | 1, _ => rfl
  | 2, _ => rfl
theorem Gw.at {C : Nat} {w wr : World} {b A gl : Nat} {V : Nat → Value} {LL : Nat → List Ov} {T n : Nat} (h : Gw C w wr b A gl V LL T n) {k : Nat} (hk : k < 3) : wr.cell? ⟨gl, k, none⟩ = some (V k) := blk_cell h.row k (row3 V k hk)
theorem Gw.free {C : Nat} {w wr : World} {b A gl : Nat} {V : Nat → Value} {LL : Nat → List Ov} {T n : Nat} (h : Gw C w wr b A gl V LL T n) (k : Nat) : wr.frozen? ⟨gl, k, none⟩ = false := blk_free h.row k
def updV {α : Type} (V : Nat → α) (k : Nat) (v : α) : Nat → α := fun j => if j = k then v else V j
theorem upd3 (V : Nat → Value) (v : Value) : ∀ k, k < 3 → (#[V 0, V 1, V 2] : Array Value).setIfInBounds k v = #[updV V k v 0, updV V k v 1, updV V k v 2]
  | 0, _ => rfl
  | 1, _ => rfl
  | 2, _ => rfl
theorem Gw.put {C : Nat} {w wr : World} {b A gl : Nat} {V : Nat → Value} {LL : Nat → List Ov} {T n : Nat} (h : Gw C w wr b A gl V LL T n) {k : Nat} (hk : k < 3) {v : Value} {L : List Ov} (hv : RdO wr.heap.size wr v L) (hL : DrL 3 T n L) : Gw C w (wr.setCell ⟨gl, k, none⟩ v) b A gl (updV V k v) (updV LL k L) T n := by
  have hg := grownBy_set wr gl k v
  have hsh : ∀ j, 3 ≤ j → wr.cell? ⟨gl, j, none⟩ = none := fun j hj => by
    unfold World.cell?
    rw [show wr.heap[(⟨gl, j, none⟩ : Addr).block]? = _ from h.row]
    simp
    omega
  have hlt := h.lt
  have hlo := h.lo
  refine ⟨h.src.kept hg (fun j hj => by cases hj; omega), gr_rowW h.gr hg (fun j e => by cases e; exact hlo), ?_, hlo, hlt, fun j hj => ?_, fun j hj => ?_⟩
  · rw [heap_setCell_same wr gl k _ _ v h.row, upd3 V v k hk]
  · unfold updV
    split
    · exact (hv.beside (fun x hx => (hL.2 x hx).2.1) hsh hg (Nat.le_refl _)).mono hg.size
    · exact ((h.log j hj).beside (fun x hx => ((h.dr j hj).2 x hx).2.1) hsh hg (Nat.le_refl _)).mono hg.size
  · unfold updV
    split
    · exact hL
    · exact h.dr j hj

/-- One operation more in a log that was drawn. -/
theorem l08Insert_drawn (w : World) (v : Value) (L : List Ov) (x : Ov) (T n : Nat) (hr : RdO w.heap.size w v L) (hL : DrL 3 T n L) (hx : DrO 3 (T + 1) x) (hn : n ≤ 4096) (hd : Rd w.heap.size w x.dv (x.ds.map (Value.int .i64))) :
    Calls Tryz.prog 46 #[v, .agg x.cs.toArray] w fun e w' => ∃ r M, e = .returned r ∧ RdO w'.heap.size w' r M ∧ DrL 3 (T + 1) (n + 1) M ∧ Below w.heap.size w w' := by
  have hdx : ∃ a n c, x.dv = .slice a n c := by
    obtain ⟨ao, cap, e, _⟩ := hd
    exact ⟨_, _, _, e⟩
  obtain ⟨ao, cap, rfl⟩ : ∃ ao cap, v = .slice ao L.length cap := by obtain ⟨⟨ao, cap, h, _⟩, _⟩ := hr; exact ⟨_, _, h⟩
  cases ao with
  | none =>
    obtain ⟨⟨ao, cap', e, h1, h2, h3, h4⟩, -⟩ := hr
    simp only [Value.slice.injEq, true_and] at e
    obtain ⟨e1, rfl⟩ := e
    have hc := h3 e1.symm
    obtain rfl : L = [] := List.length_eq_zero_iff.1 (by omega)
    subst hc
    refine (l08Insert_nil w x hdx).mono ?_
    rintro e w' ⟨r, rfl, ho, hb⟩
    refine ⟨r, [x], rfl, owns_rdO (M := [x]) ho (fun y hy => ?_), drL_put (A := []) (R := []) hL hx, hb⟩
    obtain rfl := List.mem_singleton.1 hy
    exact (hd.below hb).mono hb.size
  | some ad =>
    by_cases hz : L.length = 0
    · obtain ⟨⟨ao, cap', e, h1, h2, h3, h4⟩, -⟩ := hr
      simp only [Value.slice.injEq, true_and] at e
      obtain ⟨e1, rfl⟩ := e
      obtain rfl : L = [] := List.length_eq_zero_iff.1 hz
      refine (l08Insert_empty w x ad cap h2 hdx).mono ?_
      rintro e w' ⟨r, rfl, ho, hb⟩
      refine ⟨r, [x], rfl, owns_rdO (M := [x]) ho (fun y hy => ?_), drL_put (A := []) (R := []) hL hx, hb⟩
      obtain rfl := List.mem_singleton.1 hy
      exact (hd.below hb).mono hb.size
    · obtain ⟨g, off, rfl⟩ : ∃ g off, ad = ⟨g, off, none⟩ := by
        obtain ⟨⟨ao, cap', e, h1, h2, h3, h4⟩, -⟩ := hr
        simp only [Value.slice.injEq, true_and] at e
        obtain ⟨g, off, e2, _⟩ := h4 (by omega)
        rw [e2] at e
        exact ⟨g, off, Option.some.inj e.1⟩
      obtain ⟨A, R, hLA, hA, hR⟩ := ahead_split x L
      refine (l08Insert_any w.heap.size w g off cap L A R x hLA hA hR (Nat.le_refl _) hr (Nat.le_trans hL.1 hn) hdx (fun y hy => ?_)).mono ?_
      · obtain ⟨ao, cp, e, _⟩ := hr.2 y hy
        rw [e]
        rfl
      rintro e w' ⟨r, rfl, ho, hb⟩
      refine ⟨r, A ++ x :: R, rfl, owns_rdO ho (fun y hy => ?_), drL_put (hLA ▸ hL) hx, hb⟩
      rcases List.mem_append.1 hy with h | h
      · exact ((hr.2 y (by rw [hLA]; exact List.mem_append.2 (.inl h))).below hb).mono hb.size
      · rcases List.mem_cons.1 h with rfl | h
        · exact (hd.below hb).mono hb.size
        · exact ((hr.2 y (by rw [hLA]; exact List.mem_append.2 (.inr h))).below hb).mono hb.size
end Go.Proofs.YtmmkmkaannlkhaaGreatDoor
