/- Drawn vectors that may not be valid. -/
import Derived.Test.YtocffojhhjdeoaaGreatQSrcVec
namespace Go.Proofs.YtocffojhhjdeoaaGreat
open Go.RowKit
set_option linter.unusedVariables false

/-- Beside a source in b: a row in g, a variable in nv that holds it, and the place of the answer. -/
structure SvD (C : Nat) (w : World) (b g nv : Nat) (xs : List Int) (A : Nat) (wr : World) : Prop where
  own : Own 3 wr (w.heap.size + 1) (.slice (some ⟨g, 0, none⟩) 16 16) (xs.map (Value.int .i64))
  var : wr.heap[nv]? = some (.cells #[.slice (some ⟨g, 0, none⟩) 16 16] 33 (0, 0))
  res : wr.heap[w.heap.size]? = some (.cells #[.slice none 0 0] 33 (0, 0))
  src : Src C wr b A
  gr : w.grownBy wr (some b)
  lb : b < w.heap.size
  lg : g < nv
  lv : w.heap.size < nv
theorem SvD.drew {C : Nat} {w : World} {b g nv : Nat} {xs : List Int} {A : Nat} {wr : World} (h : SvD C w b g nv xs A wr) : SvD C w b g nv xs A wr.drew := ⟨h.own, h.var, h.res, h.src, gr_drew h.gr, h.lb, h.lg, h.lv⟩
theorem SvD.alloc {C : Nat} {w : World} {b g nv : Nat} {xs : List Int} {A : Nat} {wr : World} (h : SvD C w b g nv xs A wr) (o : Obj) : SvD C w b g nv xs A (wr.alloc o) :=
  ⟨Own.below h.own (below_alloc wr _) (Nat.le_refl _), blk_al h.var o, blk_al h.res o, h.src.alloc o, gr_alloc h.gr o, h.lb, h.lg, h.lv⟩
theorem SvD.on {C : Nat} {w : World} {b g nv : Nat} {xs : List Int} {A A' : Nat} {wr w' : World} (h : SvD C w b g nv xs A wr) (hs : Src C w' b A') (hg : wr.grownBy w' (some b)) : SvD C w b g nv xs A' w' := by
  have := h.lb
  have := h.lv
  exact ⟨h.own.apart hg (fun k hk => by cases hk; omega), blk_on h.var hg (by omega), blk_on h.res hg (by omega), hs, grownBy_trans h.gr hg, h.lb, h.lg, h.lv⟩
theorem SvD.put {C : Nat} {w : World} {b g nv : Nat} {xs : List Int} {A : Nat} {wr : World} (h : SvD C w b g nv xs A wr) (n : Nat) (x : Int) : SvD C w b g nv (xs.set n x) A (wr.setCell ⟨g, n, none⟩ (.int .i64 x)) := by
  have h1 := own_lt h.own
  have h2 := h.lb
  have h3 := h.lg
  refine ⟨?_, blk_beside h.var (by omega) _, blk_beside h.res (by omega) _, h.src.set (by omega) _, gr_put h.gr (by omega) _ _, h.lb, h.lg, h.lv⟩
  have := own_set h.own n (.int .i64 x)
  rw [map_set_int] at this
  exact this
/-- What lies ready for the answer. -/
theorem SvD.fin {C : Nat} {w : World} {b g nv : Nat} {xs : List Int} {A : Nat} {wr : World} (h : SvD C w b g nv xs A wr) :
    wr.cell? ⟨nv, 0, none⟩ = some (.slice (some ⟨g, 0, none⟩) 16 16) ∧ wr.cell? ⟨w.heap.size, 0, none⟩ = some (.slice none 0 0) ∧ wr.frozen? ⟨w.heap.size, 0, none⟩ = false ∧
    (wr.setCell ⟨w.heap.size, 0, none⟩ (.slice (some ⟨g, 0, none⟩) 16 16)).cell? ⟨w.heap.size, 0, none⟩ = some (.slice (some ⟨g, 0, none⟩) 16 16) ∧
    Own 3 (wr.setCell ⟨w.heap.size, 0, none⟩ (.slice (some ⟨g, 0, none⟩) 16 16)) w.heap.size (.slice (some ⟨g, 0, none⟩) 16 16) (xs.map (Value.int .i64)) ∧
    Src C (wr.setCell ⟨w.heap.size, 0, none⟩ (.slice (some ⟨g, 0, none⟩) 16 16)) b A ∧ w.grownBy (wr.setCell ⟨w.heap.size, 0, none⟩ (.slice (some ⟨g, 0, none⟩) 16 16)) (some b) := by
  have h1 := own_lt h.own
  exact ⟨cell_blk h.var 0 rfl, cell_blk h.res 0 rfl, free_blk h.res 0, World.cell?_setCell_same _ _ _ (cell_blk h.res 0 rfl), (own_beside h.own (by omega) _).mono (by omega), h.src.set h.lb _, gr_put h.gr (Nat.le_refl _) _ _⟩
theorem own_ne {e T : TypeId} {w : World} {B g n cap m : Nat} {cs : List Value} {c : Array Value} (h : Own e w B (.slice (some ⟨g, 0, none⟩) n cap) cs) (hm : w.heap[m]? = some (.cells c T (0, 0))) (he : e ≠ T) : g ≠ m := by
  obtain ⟨h1, h2⟩ := h
  rcases h2 with ⟨hv, _⟩ | ⟨g', cap', cur, hv, hb, hg, _⟩
  · simp at hv
  · simp only [Value.slice.injEq, Option.some.injEq, Addr.mk.injEq, and_true] at hv
    obtain ⟨rfl, _⟩ := hv
    rintro rfl
    rw [hg] at hm
    simp only [Option.some.injEq, Obj.cells.injEq] at hm
    exact he hm.2.1
theorem cell_one_new (w : World) (x : Value) (t : TypeId) : ∀ j u, [x][j]? = some u → (w.alloc (.cells #[x] t)).cell? ((⟨w.heap.size, 0, none⟩ : Addr).add j) = some u := by
  intro j u hj
  have h : (w.alloc (.cells #[x] t)).heap[w.heap.size]? = some (.cells #[x] t (0, 0)) := heap_alloc_new w _
  rw [Addr.add_lit, Nat.zero_add]
  exact cell_blk h j (by rw [← hj]; simp)
theorem own_take {e : TypeId} {w : World} {B g n cap m : Nat} {cs : List Value} (h : Own e w B (.slice (some ⟨g, 0, none⟩) n cap) cs) (hm : m ≤ cs.length) : Own e w B (.slice (some ⟨g, 0, none⟩) m cap) (cs.take m) := by
  obtain ⟨h1, h2⟩ := h
  rcases h2 with ⟨hv, _⟩ | ⟨g', cap', cur, hv, hb, hg, hle, hx, hs, ht⟩
  · simp at hv
  · simp only [Value.slice.injEq, Option.some.injEq, Addr.mk.injEq, and_true] at hv
    obtain ⟨rfl, rfl, rfl⟩ := hv
    have hl : (cs.take m).length = m := by simp; omega
    refine ⟨by rw [Nat.mul_one], .inr ⟨g, cap, cur, by rw [hl], hb, hg, by omega, hx, hs, ?_⟩⟩
    rw [Nat.mul_one, hl]
    rw [Nat.mul_one] at ht
    rw [← ht, List.take_take, Nat.min_eq_left (by omega)]
theorem gr_row {w w1 w2 : World} {b g : Nat} (h : w.grownBy w1 (some b)) (k : w1.grownBy w2 (some g)) (hg : w.heap.size ≤ g) : w.grownBy w2 (some b) :=
  ⟨k.os.trans h.os, k.tape.trans h.tape, k.output.trans h.output, Nat.le_trans h.size k.size, fun i hi hr => (k.block i (Nat.lt_of_lt_of_le hi h.size) (fun e => by cases e; omega)).trans (h.block i hi hr)⟩
theorem src_apart {C : Nat} {w w' : World} {b A g : Nat} (h : Src C w b A) (hg : w.grownBy w' (some g)) (hn : b < g) : Src C w' b A := by
  have hlt := h.lt
  obtain ⟨v, xs, p, q, h1, h2, h3, h4⟩ := h
  refine ⟨v, xs, p, q, ?_, h2, h3.grown hg (fun k hk => by cases hk; omega), h4⟩
  unfold Sr at h1 ⊢
  rw [hg.block b hlt (fun e => by cases e; omega)]
  exact h1
theorem litV (n : Nat) (h : n < 3) : ∃ x : Int, (#[.int .i64 (-1), .int .i64 1000000000000, .int .i64 1000000000001] : Array Value)[n]? = some (.int .i64 x) ∧ -1 ≤ x ∧ x ≤ 1000000000001 := by
  match n, h with
  | 0, _ => exact ⟨_, rfl, by omega, by omega⟩
  | 1, _ => exact ⟨_, rfl, by omega, by omega⟩
  | 2, _ => exact ⟨_, rfl, by omega, by omega⟩
theorem litW (r : Int) (h0 : 0 ≤ r) (h1 : r < 3) : ∃ n : Nat, r = (n : Int) ∧ ∃ x : Int, (#[.int .i64 (-1), .int .i64 1000000000000, .int .i64 1000000000001] : Array Value)[n]? = some (.int .i64 x) ∧ -1 ≤ x ∧ x ≤ 1000000000001 :=
  ⟨r.toNat, by omega, litV r.toNat (by omega)⟩
/-- A block that was put anew. -/
theorem blk_put {w : World} {g : Nat} {u v : Value} {T : TypeId} (h : w.heap[g]? = some (.cells #[u] T (0, 0))) : (w.setCell ⟨g, 0, none⟩ v).heap[g]? = some (.cells #[v] T (0, 0)) := by
  rw [heap_setCell_same w g 0 _ _ _ h]
  rfl
/-- What a drawn vector is, at its end. -/
def OddV (C : Nat) (w : World) (b A : Nat) (e : Ending) (w' : World) : Prop := ∃ (g n c : Nat) (xs : List Int), e = .returned (.agg #[.slice (some ⟨g, 0, none⟩) n c]) ∧ n = xs.length ∧ xs.length ≤ 17 ∧ Sml 1000000000001 xs ∧ Own 3 w' w.heap.size (.slice (some ⟨g, 0, none⟩) n c) (xs.map (Value.int .i64)) ∧ Src C w' b A ∧ w.grownBy w' (some b)

end Go.Proofs.YtocffojhhjdeoaaGreat
