/- A drawn log of which one operation is bent: what is held meanwhile. -/
import Derived.Test.YtmmkmkaannlkhaaGreatDoorQGrowBase
import Derived.Test.YtmmkmkaannlkhaaGreatDoorQRowKeepToCopyLog
import Derived.Test.YtmmkmkaannlkhaaGreatDoorQDeleteOps
import Derived.Test.YtmmkmkaannlkhaaGreatDoorQMarkOpsToCopyOps
namespace Go.Proofs.YtmmkmkaannlkhaaGreatDoor
open Go.RowKit
set_option linter.unusedVariables false

/-- What a bent log's operations are. -/
def BtO (x : Ov) : Prop := x.a ≠ 7 ∧ x.ds.length = 16 ∧ x.ky.size ≤ 201 ∧ x.tx.size ≤ 5
def BtL (n : Nat) (L : List Ov) : Prop := L.length ≤ n ∧ ∀ x ∈ L, BtO x
theorem DrO.bt {T : Nat} {x : Ov} (h : DrO 3 T x) : BtO x := ⟨by have := h.1.2; omega, h.2.1, by have := h.2.2.2.1; omega, h.2.2.2.2⟩
theorem DrL.bt {T n : Nat} {L : List Ov} (h : DrL 3 T n L) : BtL n L := ⟨h.1, fun x hx => (h.2 x hx).bt⟩
theorem own_op_ne {w : World} {ob B : Nat} {x : Ov} {dv : Value} {ds : List Value} (h : OpBlk w ob x) (hd : Own 3 w B dv ds) : ∀ k, dv.ownBlock = some k → k ≠ ob := by
  intro k hk e
  subst e
  obtain ⟨_, d2⟩ := hd
  rcases d2 with ⟨rfl, _⟩ | ⟨g, cap, cur, rfl, hg, hh, r⟩
  · simp [Value.ownBlock] at hk
  · simp only [Value.ownBlock, Option.some.injEq] at hk
    subst hk
    unfold OpBlk at h
    rw [h] at hh
    simp at hh
theorem rowCs_set {M : List Ov} {k : Nat} (hk : k < M.length) (x : Ov) : setAll (rowCs M) (k * 12) x.cs = rowCs (M.set k x) := by
  refine List.ext_getElem? fun j => ?_
  have hl : x.cs.length = 12 := rfl
  by_cases hj : j < M.length * 12
  · obtain ⟨i, q, hq, rfl⟩ : ∃ i q, q < 12 ∧ j = i * 12 + q := ⟨j / 12, j % 12, by omega, by omega⟩
    have hi : i < M.length := by omega
    rw [rowCs_idx (M.set k x) i q (by rw [List.length_set]; exact hi) hq, ovAt_set hk]
    by_cases e : i = k
    · subst e
      rw [if_pos rfl, setAll_in _ _ _ _ (by omega) (by rw [rowCs_len]; omega)]
    · rw [if_neg e, setAll_out _ _ _ _ (by omega), rowCs_idx M i q hi hq]
  · rw [List.getElem?_eq_none (by rw [setAll_len, rowCs_len]; omega), List.getElem?_eq_none (by rw [rowCs_len, List.length_set]; omega)]

/-- The copied log in block g, the operation that is bent in block ob, the source. -/
structure Bt (C : Nat) (w wr : World) (b A g cap ob : Nat) (M : List Ov) (x : Ov) : Prop where
  src : Src C wr b A
  gr : w.grownBy wr (some b)
  lt : b < w.heap.size
  row : wr.ownsRow w.heap.size 29 12 (.slice (some ⟨g, 0, none⟩) M.length cap) M.length (rowCs M)
  own : ∀ y ∈ M, Own 3 wr w.heap.size y.dv (y.ds.map (Value.int .i64))
  op : OpBlk wr ob x
  hob : w.heap.size ≤ ob
  ne : ob ≠ g
  xo : Own 3 wr w.heap.size x.dv (x.ds.map (Value.int .i64))
theorem Bt.mono {C : Nat} {w wr : World} {b A A' g cap ob : Nat} {M : List Ov} {x : Ov} (h : Bt C w wr b A g cap ob M x) (hA : A ≤ A') : Bt C w wr b A' g cap ob M x := ⟨h.src.mono hA, h.gr, h.lt, h.row, h.own, h.op, h.hob, h.ne, h.xo⟩
theorem Bt.lg {C : Nat} {w wr : World} {b A g cap ob : Nat} {M : List Ov} {x : Ov} (h : Bt C w wr b A g cap ob M x) : w.heap.size ≤ g ∧ g < wr.heap.size := World.ownsRow.lt h.row g rfl
theorem Bt.next {C : Nat} {w wr w' : World} {b A A' g cap ob : Nat} {M : List Ov} {x : Ov} (h : Bt C w wr b A g cap ob M x) (hs : Src C w' b A') (hg : wr.grownBy w' (some b)) : Bt C w w' b A' g cap ob M x :=
  ⟨hs, grownBy_trans h.gr hg, h.lt, owns_blk h.row (hg.block g h.lg.2 (fun e => by have := h.lg.1; have := h.lt; cases e; omega)), fun y hy => (h.own y hy).apart hg (fun k hk => by cases hk; exact h.lt), blk_on h.op hg (by have := h.hob; have := h.lt; omega), h.hob, h.ne, h.xo.apart hg (fun k hk => by cases hk; exact h.lt)⟩
theorem Bt.below {C : Nat} {w wr w' : World} {b A g cap ob : Nat} {M : List Ov} {x : Ov} (h : Bt C w wr b A g cap ob M x) (hb : Below wr.heap.size wr w') : Bt C w w' b A g cap ob M x :=
  ⟨h.src.below hb h.src.lt, grownBy_trans h.gr (grownBy_below hb (Nat.le_refl _) (some b)), h.lt, owns_on h.row hb (Nat.le_refl _), fun y hy => (h.own y hy).below hb (Nat.le_refl _), (hb.block _ h.op.lo).trans h.op, h.hob, h.ne, h.xo.below hb (Nat.le_refl _)⟩
/-- A cell of the operation is written, not where it counts. -/
theorem Bt.put {C : Nat} {w wr : World} {b A g cap ob : Nat} {M : List Ov} {x y : Ov} (h : Bt C w wr b A g cap ob M x) (j : Nat) (u : Value) (e : x.cs.toArray.setIfInBounds j u = y.cs.toArray) (hdv : y.dv = x.dv) (hds : y.ds = x.ds) : Bt C w (wr.setCell ⟨ob, j, none⟩ u) b A g cap ob M y := by
  have hg := grownBy_set wr ob j u
  have hob := h.hob
  have hlt := h.lt
  have hsame : ∀ {dv : Value} {ds : List Value}, Own 3 wr w.heap.size dv ds → Own 3 (wr.setCell ⟨ob, j, none⟩ u) w.heap.size dv ds := fun ho => ownSame' ho (fun k hk => hg.block k (ho.blk k hk) (fun e => own_op_ne h.op ho k hk (Option.some.inj e)))
  exact ⟨h.src.kept hg (fun k hk => by cases hk; omega), gr_rowW h.gr hg (fun k e => by cases e; exact hob), hlt, owns_blk h.row (hg.block g h.lg.2 (fun e => h.ne (Option.some.inj e).symm)), fun z hz => hsame (h.own z hz), h.op.put j u e, hob, h.ne, by rw [hdv, hds]; exact hsame h.xo⟩
/-- One number of what the operation counts is written. -/
def bumpO (gc i : Nat) (c : Int) (y : Ov) : Ov := if y.dv.ownBlock = some gc then { y with ds := y.ds.set i c } else y
theorem bumpO_cs (gc i : Nat) (c : Int) (y : Ov) : (bumpO gc i c y).cs = y.cs := by
  unfold bumpO
  split <;> rfl
theorem bumpO_rows (gc i : Nat) (c : Int) : ∀ M : List Ov, rowCs (M.map (bumpO gc i c)) = rowCs M
  | [] => rfl
  | y :: M => by
    show (bumpO gc i c y).cs ++ rowCs (M.map (bumpO gc i c)) = y.cs ++ rowCs M
    rw [bumpO_cs, bumpO_rows gc i c M]
theorem bumpO_bt {gc i : Nat} {c : Int} {y : Ov} (h : BtO y) : BtO (bumpO gc i c y) := by
  unfold bumpO
  split
  · exact ⟨h.1, by show (y.ds.set i c).length = 16; rw [List.length_set]; exact h.2.1, h.2.2⟩
  · exact h
theorem own_bump {wr : World} {B gc i : Nat} {c : Int} {y : Ov} (h : Own 3 wr B y.dv (y.ds.map (Value.int .i64))) : Own 3 (wr.setCell ⟨gc, i, none⟩ (.int .i64 c)) B (bumpO gc i c y).dv ((bumpO gc i c y).ds.map (Value.int .i64)) := by
  unfold bumpO
  split
  · rename_i e
    show Own 3 _ B y.dv ((y.ds.set i c).map (Value.int .i64))
    obtain ⟨ao, cp, ev, hz⟩ := h.slice
    rw [ev] at e h ⊢
    cases ao with
    | none => simp [Value.ownBlock] at e
    | some ad =>
      have hs := h.shape
      rcases hs with ⟨h1, _⟩ | ⟨g, cap, h1, h2⟩
      · cases h1
      · simp only [Value.slice.injEq, Option.some.injEq] at h1
        obtain ⟨rfl, h3, rfl⟩ := h1
        simp only [Value.ownBlock, Option.some.injEq] at e
        subst e
        have h4 := (World.ownsRow.stored h i (.int .i64 c)).1
        unfold Own
        rw [List.map_set, List.length_set]
        exact h4
  · rename_i e
    refine ownSame' h (fun k hk => heap_setCell_other wr ⟨gc, i, none⟩ k _ (fun e' => e ?_))
    rw [hk]
    exact congrArg some e'
theorem Bt.bump {C : Nat} {w wr : World} {b A g cap ob : Nat} {M : List Ov} {x : Ov} (h : Bt C w wr b A g cap ob M x) {gc : Nat} (i : Nat) (c : Int) (hgc : x.dv.ownBlock = some gc) : Bt C w (wr.setCell ⟨gc, i, none⟩ (.int .i64 c)) b A g cap ob (M.map (bumpO gc i c)) (bumpO gc i c x) := by
  have hg := grownBy_set wr gc i (.int .i64 c)
  have hlt := h.lt
  have hlo := h.xo.lt gc hgc
  have hrow := h.row
  have hne := owns_ne hrow h.xo gc hgc
  refine ⟨h.src.kept hg (fun k hk => by cases hk; omega), gr_rowW h.gr hg (fun k e => by cases e; exact hlo), hlt, ?_, fun z hz => ?_, ?_, h.hob, h.ne, own_bump h.xo⟩
  · rw [List.length_map, bumpO_rows]
    exact owns_blk hrow (hg.block g h.lg.2 (fun e => hne (by simpa [Value.ownBlock] using e)))
  · obtain ⟨y, hy, rfl⟩ := List.mem_map.1 hz
    exact own_bump (h.own y hy)
  · unfold OpBlk
    rw [bumpO_cs]
    exact (hg.block ob h.op.lo (fun e => own_op_ne h.op h.xo gc hgc (Option.some.inj e).symm)).trans h.op
/-- The operation is stored back: the log with it. -/
theorem Bt.fin {C : Nat} {w wr : World} {b A g cap ob : Nat} {M : List Ov} {x : Ov} (h : Bt C w wr b A g cap ob M x) {k : Nat} (hk : k < M.length) :
    RdO (wr.setCells g (k * 12) x.cs).heap.size (wr.setCells g (k * 12) x.cs) (.slice (some ⟨g, 0, none⟩) M.length cap) (M.set k x) ∧ Src C (wr.setCells g (k * 12) x.cs) b A ∧ w.grownBy (wr.setCells g (k * 12) x.cs) (some b) := by
  have hg := grownBy_setCells wr g x.cs (k * 12)
  have hlg := h.lg
  have hlt := h.lt
  have hown : ∀ {dv : Value} {ds : List Value}, Own 3 wr w.heap.size dv ds → Own 3 (wr.setCells g (k * 12) x.cs) w.heap.size dv ds := fun ho => ownSame' ho (fun j hj => hg.block j (ho.blk j hj) (fun e => owns_ne h.row ho j hj (by simpa [Value.ownBlock] using e.symm)))
  have hr := owns_cells x.cs (rowCs M) (k * 12) wr h.row
  rw [rowCs_set hk] at hr
  refine ⟨?_, h.src.kept hg (fun j hj => by cases hj; omega), gr_rowW h.gr hg (fun j e => by cases e; exact hlg.1)⟩
  have := owns_rdO (M := M.set k x) (by rw [List.length_set]; exact hr) (fun y hy => ?_)
  · exact this
  · rcases List.mem_or_eq_of_mem_set hy with h1 | rfl
    · exact (hown (h.own y h1)).rd.mono (Nat.le_refl _)
    · exact (hown h.xo).rd.mono (Nat.le_refl _)
theorem btL_set {n : Nat} {M : List Ov} {k : Nat} {x : Ov} (h : BtL n M) (hx : BtO x) : BtL n (M.set k x) := by
  refine ⟨by rw [List.length_set]; exact h.1, fun y hy => ?_⟩
  rcases List.mem_or_eq_of_mem_set hy with h1 | rfl
  · exact h.2 y h1
  · exact hx
theorem btL_bump {n : Nat} {M : List Ov} {gc i : Nat} {c : Int} (h : BtL n M) : BtL n (M.map (bumpO gc i c)) := by
  refine ⟨by rw [List.length_map]; exact h.1, fun y hy => ?_⟩
  obtain ⟨z, hz, rfl⟩ := List.mem_map.1 hy
  exact bumpO_bt (h.2 z hz)
theorem ways12 {P : Prop} {r : Int} (h : 0 ≤ r) (h8 : r = 8 → P) (h0 : r = 0 → P) (h1 : r = 1 → P) (h2 : r = 2 → P) (h3 : r = 3 → P) (h4 : r = 4 → P) (h5 : r = 5 → P) (h6 : r = 6 → P) (h7 : r = 7 → P) (h9 : r = 9 → P) (h10 : r = 10 → P) (hx : 10 < r → P) : P := by
  have hc : r = 8 ∨ r = 0 ∨ r = 1 ∨ r = 2 ∨ r = 3 ∨ r = 4 ∨ r = 5 ∨ r = 6 ∨ r = 7 ∨ r = 9 ∨ r = 10 ∨ 10 < r := by omega
  rcases hc with h | h | h | h | h | h | h | h | h | h | h | h
  · exact h8 h
  · exact h0 h
  · exact h1 h
  · exact h2 h
  · exact h3 h
  · exact h4 h
  · exact h5 h
  · exact h6 h
  · exact h7 h
  · exact h9 h
  · exact h10 h
  · exact hx h
end Go.Proofs.YtmmkmkaannlkhaaGreatDoor
