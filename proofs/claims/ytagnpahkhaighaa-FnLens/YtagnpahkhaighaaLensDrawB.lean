/- What l14DrawLens keeps as it goes on: the source, the lens, the form as it is now, the step that is drawn. -/
import Derived.Test.YtagnpahkhaighaaLensDraw
import Derived.Test.YtagnpahkhaighaaStepRows
namespace Go.Proofs.Ytagnpahkhaighaa
open Go.RowKit
set_option linter.unusedVariables false

theorem own_sliceE {w : World} {B : Nat} {v : Value} {ls : List St} (h : OwnSt w B v ls) : ∃ a c, v = .slice a ls.length c := by
  obtain ⟨_, ao, c, e, _⟩ := ownM_rd h
  exact ⟨ao, c, e⟩
theorem gr_own2 {w w1 w2 : World} {b : Nat} {row : Option Nat} (h : w.grownBy w1 (some b)) (k : w1.grownBy w2 row) (hr : ∀ g, row = some g → g = b ∨ w.heap.size ≤ g) : w.grownBy w2 (some b) :=
  ⟨k.os.trans h.os, k.tape.trans h.tape, k.output.trans h.output, Nat.le_trans h.size k.size, fun i hi hn => by
    have h1 := h.block i hi hn
    have h2 := k.block i (Nat.lt_of_lt_of_le hi h.size) (fun e => by
      rcases hr i (by first | exact e | exact e.symm) with e' | e'
      · exact hn (by rw [e'])
      · omega)
    exact h2.trans h1⟩
/-- The source, the lens that grows, the form as it is now. -/
structure Lw (C b A : Nat) (w wr : World) (tv nv : Value) (L : List St) (N : List Pr) : Prop where
  src : Src C wr b A
  out : OwnSt wr w.heap.size tv L
  now : OwnPr wr w.heap.size nv N
  gr : w.grownBy wr (some b)
  lt : b < w.heap.size
theorem Lw.mono {C b A A' : Nat} {w wr : World} {tv nv : Value} {L : List St} {N : List Pr} (h : Lw C b A w wr tv nv L N) (hA : A ≤ A') : Lw C b A' w wr tv nv L N := ⟨h.src.mono hA, h.out, h.now, h.gr, h.lt⟩
theorem Lw.next {C b A A' : Nat} {w wr w2 : World} {tv nv : Value} {L : List St} {N : List Pr} (h : Lw C b A w wr tv nv L N) (hS : Src C w2 b A') (hG : wr.grownBy w2 (some b)) : Lw C b A' w w2 tv nv L N :=
  ⟨hS, ownM_kept h.out hG (fun k hk e => by cases e; have := own_lo h.out _ hk; have := h.lt; omega), ownM_kept h.now hG (fun k hk e => by cases e; have := own_lo h.now _ hk; have := h.lt; omega), grownBy_trans h.gr hG, h.lt⟩
theorem Lw.below {C b A : Nat} {w wr w2 : World} {tv nv : Value} {L : List St} {N : List Pr} (h : Lw C b A w wr tv nv L N) (hb : Below wr.heap.size wr w2) : Lw C b A w w2 tv nv L N :=
  ⟨h.src.below hb h.src.lt, ownM_on h.out hb, ownM_on h.now hb, grownBy_trans h.gr (grownBy_below hb (Nat.le_refl _) (some b)), h.lt⟩
theorem Lw.alloc {C b A : Nat} {w wr : World} {tv nv : Value} {L : List St} {N : List Pr} (h : Lw C b A w wr tv nv L N) (o : Obj) : Lw C b A w (wr.alloc o) tv nv L N := h.below (below_alloc wr o)
theorem step_pair_ne {w : World} {B B' n m : Nat} {v u : Value} {cs ds : List Value} (h : w.ownsRow B 43 4 v n cs) (k : w.ownsRow B' 46 2 u m ds) : ∀ g, u.ownBlock = some g → v.ownBlock ≠ some g := by
  intro g hu hv
  rcases h.2 with ⟨e, _⟩ | ⟨g1, c1, cur1, e, _, hh, _⟩
  · rw [e] at hv; cases hv
  · rcases k.2 with ⟨e', _⟩ | ⟨g2, c2, cur2, e', _, hh', _⟩
    · rw [e'] at hu; cases hu
    · rw [e] at hv; rw [e'] at hu
      cases hv; cases hu
      rw [hh] at hh'
      simp at hh'
/-- A step more. -/
theorem Lw.app {C b A n : Nat} {w wr w2 : World} {tv nv v2 : Value} {L : List St} {N : List Pr} {e : St} (h : Lw C b A w wr tv nv L N) (hn : n = L.length) (ho : w2.ownsRow w.heap.size 43 4 v2 (n + 1) (stCs L ++ stCs [e])) (hg : wr.grownBy w2 tv.ownBlock) : Lw C b A w w2 v2 nv (L ++ [e]) N := by
  subst hn
  refine ⟨?_, ?_, ?_, gr_own (B := w.heap.size) h.gr hg (own_lo h.out), h.lt⟩
  · exact h.src.kept hg (fun k hk => by have := own_lo h.out k hk; have := h.lt; omega)
  · unfold OwnSt
    rw [List.length_append, stCs_app]
    exact ho
  · exact ownM_kept h.now hg (fun g hg' => step_pair_ne h.out h.now g hg')
/-- The step that is drawn, in a block of its own. -/
structure Lz (w wr : World) (tv nv : Value) (sb : Nat) (e : St) : Prop where
  stp : wr.heap[sb]? = some (.cells #[.int .i64 e.1, .string e.2.1, .string e.2.2.1, .string e.2.2.2] 43 (0, 0))
  n1 : tv.ownBlock ≠ some sb
  n2 : nv.ownBlock ≠ some sb
  lo : w.heap.size ≤ sb
theorem own_hi {T : TypeId} {m : Nat} {w : World} {B : Nat} {v : Value} {n : Nat} {cs : List Value} (h : w.ownsRow B T m v n cs) : v.ownBlock ≠ some w.heap.size := fun hg => by have := (World.ownsRow.lt h _ hg).2; omega
theorem Lz.made {C b A : Nat} {w wr : World} {tv nv : Value} {L : List St} {N : List Pr} (h : Lw C b A w wr tv nv L N) (e : St) : Lz w (wr.alloc (.cells #[.int .i64 e.1, .string e.2.1, .string e.2.2.1, .string e.2.2.2] 43)) tv nv wr.heap.size e :=
  ⟨heap_new _ _ _, own_hi h.out, own_hi h.now, h.gr.size⟩
theorem Lz.lt {w wr : World} {tv nv : Value} {sb : Nat} {e : St} (h : Lz w wr tv nv sb e) : sb < wr.heap.size := (Array.getElem?_eq_some_iff.1 h.stp).1
theorem Lz.grow {w wr w2 : World} {tv nv : Value} {sb : Nat} {e : St} {row : Option Nat} (h : Lz w wr tv nv sb e) (hg : wr.grownBy w2 row) (hn : row ≠ some sb) : Lz w w2 tv nv sb e :=
  ⟨(hg.block sb h.lt (fun e => hn (by first | exact e | exact e.symm))).trans h.stp, h.n1, h.n2, h.lo⟩
theorem Lz.alloc {w wr : World} {tv nv : Value} {sb : Nat} {e : St} (h : Lz w wr tv nv sb e) (o : Obj) : Lz w (wr.alloc o) tv nv sb e := h.grow (World.grownBy_alloc wr o none) (by simp)
theorem Lz.below {w wr w2 : World} {tv nv : Value} {sb : Nat} {e : St} (h : Lz w wr tv nv sb e) (hb : Below wr.heap.size wr w2) : Lz w w2 tv nv sb e := h.grow (grownBy_below hb (Nat.le_refl _) none) (by simp)
theorem Lz.c {w wr : World} {tv nv : Value} {sb : Nat} {e : St} (h : Lz w wr tv nv sb e) : wr.cell? ⟨sb, 0, none⟩ = some (.int .i64 e.1) ∧ wr.cell? ⟨sb, 1, none⟩ = some (.string e.2.1) ∧ wr.cell? ⟨sb, 2, none⟩ = some (.string e.2.2.1) ∧ wr.cell? ⟨sb, 3, none⟩ = some (.string e.2.2.2) :=
  ⟨cell_blk h.stp 0 rfl, cell_blk h.stp 1 rfl, cell_blk h.stp 2 rfl, cell_blk h.stp 3 rfl⟩
theorem Lz.f {w wr : World} {tv nv : Value} {sb : Nat} {e : St} (h : Lz w wr tv nv sb e) (j : Nat) : wr.frozen? ⟨sb, j, none⟩ = false := by
  have := h.stp
  simp [World.frozen?, this]
theorem Lz.set1 {w wr : World} {tv nv : Value} {sb : Nat} {k : Int} {n t x : ByteArray} (h : Lz w wr tv nv sb (k, n, t, x)) (u : ByteArray) : Lz w (wr.setCell ⟨sb, 1, none⟩ (.string u)) tv nv sb (k, u, t, x) := by
  refine ⟨?_, h.n1, h.n2, h.lo⟩
  rw [heap_setCell_same wr sb 1 _ _ _ h.stp]
  rfl
theorem Lz.set2 {w wr : World} {tv nv : Value} {sb : Nat} {k : Int} {n t x : ByteArray} (h : Lz w wr tv nv sb (k, n, t, x)) (u : ByteArray) : Lz w (wr.setCell ⟨sb, 2, none⟩ (.string u)) tv nv sb (k, n, u, x) := by
  refine ⟨?_, h.n1, h.n2, h.lo⟩
  rw [heap_setCell_same wr sb 2 _ _ _ h.stp]
  rfl
theorem Lz.set3 {w wr : World} {tv nv : Value} {sb : Nat} {k : Int} {n t x : ByteArray} (h : Lz w wr tv nv sb (k, n, t, x)) (u : ByteArray) : Lz w (wr.setCell ⟨sb, 3, none⟩ (.string u)) tv nv sb (k, n, t, u) := by
  refine ⟨?_, h.n1, h.n2, h.lo⟩
  rw [heap_setCell_same wr sb 3 _ _ _ h.stp]
  rfl
theorem Lw.set {C b A : Nat} {w wr : World} {tv nv : Value} {L : List St} {N : List Pr} {sb : Nat} {e : St} (h : Lw C b A w wr tv nv L N) (z : Lz w wr tv nv sb e) (j : Nat) (u : Value) : Lw C b A w (wr.setCell ⟨sb, j, none⟩ u) tv nv L N := by
  have hg : wr.grownBy (wr.setCell ⟨sb, j, none⟩ u) (some sb) := gr_set1 wr sb j u
  have hlo := z.lo
  refine ⟨h.src.kept hg (fun k hk => by cases hk; have := h.lt; omega), ownM_kept h.out hg (fun k hk e => z.n1 (by rw [hk, ← e])), ownM_kept h.now hg (fun k hk e => z.n2 (by rw [hk, ← e])), gr_own2 h.gr hg (fun g hg => by cases hg; exact .inr hlo), h.lt⟩
/-- One step that is written out. -/
theorem one_rdSt (w : World) (e : St) : RdM 4 (w.heap.size + 1) (w.alloc (.cells #[.int .i64 e.1, .string e.2.1, .string e.2.2.1, .string e.2.2.2] 43)) (.slice (some ⟨w.heap.size, 0, none⟩) 1 1) [e].length (stCs [e]) := by
  have h : (w.alloc (.cells #[.int .i64 e.1, .string e.2.1, .string e.2.2.1, .string e.2.2.2] 43)).ownsRow w.heap.size 43 4 (.slice (some ⟨w.heap.size, 0, none⟩) 1 1) 1 _ := World.ownsRow_lit w #[.int .i64 e.1, .string e.2.1, .string e.2.2.1, .string e.2.2.2] 1 (Nat.le_refl _) (by decide) (by simp)
  have h2 := ownM_rd h
  rw [World.size_alloc] at h2
  exact h2
/-- The first step's kind written over. -/
theorem own_head {w : World} {B n c : Nat} {g : Nat} {e : St} {L : List St} (h : w.ownsRow B 43 4 (.slice (some ⟨g, 0, none⟩) n c) n (stCs (e :: L))) (r : Int) :
    (w.setCell ⟨g, 0, none⟩ (.int .i64 r)).ownsRow B 43 4 (.slice (some ⟨g, 0, none⟩) n c) n (stCs ((r, e.2) :: L)) := by
  obtain ⟨hl, hr⟩ := h
  refine ⟨by rw [← hl]; rfl, ?_⟩
  rcases hr with ⟨e1, _⟩ | ⟨g1, cap, cur, e1, hB, hh, h1, h2, h3, h4⟩
  · cases e1
  · cases e1
    refine .inr ⟨g, c, cur.setIfInBounds 0 (.int .i64 r), rfl, hB, ?_, h1, h2, by simpa using h3, ?_⟩
    · rw [heap_setCell_same w g 0 _ _ _ hh]
    · have e2 : (cur.setIfInBounds 0 (.int .i64 r)).toList = cur.toList.set 0 (.int .i64 r) := by simp
      rw [e2, List.take_set, h4]
      rfl
end Go.Proofs.Ytagnpahkhaighaa
