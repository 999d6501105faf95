/- What the source's chance and size answer; a source beside a row that grows. -/
import Derived.Test.YtagnpahkhaighaaSrcStamp
namespace Go.Proofs.Ytagnpahkhaighaa
open Go.RowKit
set_option linter.unusedVariables false

set_option maxHeartbeats 1000000 in
set_option maxRecDepth 100000 in
theorem chance_any (C b A : Nat) (n : Int) (w : World) (h : Src C w b A) (hA : A ≤ 900000000) (hn : 2 ≤ n) (hn' : n ≤ 16777216) :
    Calls Try.prog 53 #[.pointer (some ⟨b, 0, none⟩), .int .i64 n] w fun e w' => ∃ r : Bool, e = .returned (.bool r) ∧ Src C w' b (A + 3) ∧ w.grownBy w' (some b) := by
  go_enter Try.func53, Try.ntmps53
  go_wp2_with fail
  refine (srcNext_any C b A n _ h hA hn hn').mono ?_
  rintro e w1 ⟨r, rfl, hr0, hr1, hS, hG⟩
  go_wp2_with fail
  go_ret
  exact ⟨_, rfl, hS, hG⟩

set_option maxHeartbeats 1000000 in
theorem size_any (C b A : Nat) (m : Int) (w : World) (h : Src C w b A) (hm : 1 ≤ m) :
    Calls Try.prog 56 #[.pointer (some ⟨b, 0, none⟩), .int .i64 m] w fun e w' => ∃ r : Int, e = .returned (.int .i64 r) ∧ 1 ≤ r ∧ r ≤ m ∧ w' = w := by
  obtain ⟨v, xs, p, q, hS, hC, hR, hX, hl, _⟩ := h
  obtain ⟨ao, cap, rfl, hcap, hmax, _, hc⟩ := hR
  rw [List.length_map] at hS
  have c0 := hS.c0
  go_enter Try.func56, Try.ntmps56
  go_wp2_with fail
  all_goals
    go_ret
    exact ⟨_, rfl, by omega, by omega, rfl⟩

theorem Src.kept {C : Nat} {w w' : World} {b A : Nat} {row : Option Nat} (h : Src C w b A) (hg : w.grownBy w' row) (hn : ∀ k, row = some k → b < k) : Src C w' b A := by
  have hlt := h.lt
  obtain ⟨v, xs, p, q, h1, h2, h3, h4⟩ := h
  refine ⟨v, xs, p, q, ?_, h2, h3.grown hg (fun k hk => by have := hn k hk; omega), h4⟩
  unfold Sr at h1 ⊢
  rw [hg.block b hlt (fun e => by have := hn b e.symm; omega)]
  exact h1
theorem one_new (w : World) (x : Value) (t : TypeId) : ∀ j u, [x][j]? = some u → (w.alloc (.cells #[x] t)).cell? ((⟨w.heap.size, 0, none⟩ : Addr).add j) = some u := by
  intro j u hj
  have h : (w.alloc (.cells #[x] t)).heap[w.heap.size]? = some (.cells #[x] t (0, 0)) := heap_alloc_new w _
  rw [Addr.add_lit, Nat.zero_add]
  exact cell_blk h j (by rw [← hj]; simp)
theorem gr_rowW {w w1 w2 : World} {b : Nat} {row : Option Nat} (h : w.grownBy w1 (some b)) (k : w1.grownBy w2 row) (hr : ∀ g, row = some g → w.heap.size ≤ g) : w.grownBy w2 (some b) :=
  ⟨k.os.trans h.os, k.tape.trans h.tape, k.output.trans h.output, Nat.le_trans h.size k.size, fun i hi hb => (k.block i (Nat.lt_of_lt_of_le hi h.size) (fun e => by have := hr i e.symm; omega)).trans (h.block i hi hb)⟩
/-- Beside a source in b: a row that the call owns. -/
structure SwD (e : TypeId) (C : Nat) (w : World) (b : Nat) (v : Value) (cs : List Value) (A : Nat) (wr : World) : Prop where
  own : Own e wr w.heap.size v cs
  src : Src C wr b A
  gr : w.grownBy wr (some b)
  lb : b < w.heap.size
theorem SwD.on {e : TypeId} {C : Nat} {w : World} {b : Nat} {v : Value} {cs : List Value} {A A' : Nat} {wr w' : World} (h : SwD e C w b v cs A wr) (hs : Src C w' b A') (hg : wr.grownBy w' (some b)) : SwD e C w b v cs A' w' :=
  ⟨h.own.apart hg (fun k hk => by cases hk; exact h.lb), hs, grownBy_trans h.gr hg, h.lb⟩
theorem SwD.alloc {e : TypeId} {C : Nat} {w : World} {b : Nat} {v : Value} {cs : List Value} {A : Nat} {wr : World} (h : SwD e C w b v cs A wr) (o : Obj) : SwD e C w b v cs A (wr.alloc o) :=
  ⟨Own.below h.own (below_alloc wr _) (Nat.le_refl _), h.src.alloc o, gr_alloc h.gr o, h.lb⟩
theorem SwD.add {e : TypeId} {C : Nat} {w : World} {b : Nat} {v v' : Value} {cs ds : List Value} {A : Nat} {wr w' : World} (h : SwD e C w b v cs A wr) (ho : Own e w' w.heap.size v' ds) (hg : wr.grownBy w' v.ownBlock) : SwD e C w b v' ds A w' :=
  ⟨ho, h.src.kept hg (fun k hk => by have := h.own.lt k hk; have := h.lb; omega), gr_rowW h.gr hg (fun k hk => h.own.lt k hk), h.lb⟩
theorem SwD.mono {e : TypeId} {C : Nat} {w : World} {b : Nat} {v : Value} {cs : List Value} {A A' : Nat} {wr : World} (h : SwD e C w b v cs A wr) (hA : A ≤ A') : SwD e C w b v cs A' wr := ⟨h.own, h.src.mono hA, h.gr, h.lb⟩
theorem SwD.size {e : TypeId} {C : Nat} {w : World} {b : Nat} {v : Value} {cs : List Value} {A : Nat} {wr : World} (h : SwD e C w b v cs A wr) : w.heap.size ≤ wr.heap.size := h.gr.size

end Go.Proofs.Ytagnpahkhaighaa
