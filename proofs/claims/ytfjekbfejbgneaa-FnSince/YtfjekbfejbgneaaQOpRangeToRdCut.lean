/- An operation's twelve cells as a range. A piece of operations that can be read. -/
import Derived.Deep.MidRow
import Derived.Test.YtfjekbfejbgneaaQOpComesToOpBase
namespace Go.Proofs.Ytfjekbfejbgneaa
open Go.RowKit
set_option linter.unusedVariables false

theorem opAt_range {w : World} {g o : Nat} {x : Ov} (h : OpAt w g o x) : w.rangeAt g o x.cs := by
  intro j u hj
  unfold Ov.cs at hj
  match j with
  | 0 => cases hj; exact h.c0
  | 1 => cases hj; exact h.c1
  | 2 => cases hj; exact h.c2
  | 3 => cases hj; exact h.c3
  | 4 => cases hj; exact h.c4
  | 5 => cases hj; exact h.c5
  | 6 => cases hj; exact h.c6
  | 7 => cases hj; exact h.c7
  | 8 => cases hj; exact h.c8
  | 9 => cases hj; exact h.c9
  | 10 => cases hj; exact h.c10
  | 11 => cases hj; exact h.c11
  | j + 12 => simp at hj
theorem infoOpB (x : Ov) : (Try.prog.info? 47).map (·.size) = some x.cs.length := by unfold Ov.cs; kernel_rfl

/-- An operation in a block of its own. -/
def OpBlk (W : World) (B : Nat) (x : Ov) : Prop := W.heap[B]? = some (.cells x.cs.toArray 47 (0, 0))
theorem OpBlk.cells {W : World} {B : Nat} {x : Ov} (h : OpBlk W B x) : W.cell? ⟨B, 1, none⟩ = some (.int .i64 x.s) ∧ W.cell? ⟨B, 7, none⟩ = some (.int .i64 x.u) := by
  constructor <;> simp [World.cell?, show W.heap[B]? = _ from h, Ov.cs]
theorem opBlk_range {W : World} {B : Nat} {x : Ov} (h : OpBlk W B x) : W.rangeAt B 0 x.cs := by
  intro j u hj
  unfold World.cell?
  rw [Nat.zero_add, show W.heap[(⟨B, j, none⟩ : Addr).block]? = some (.cells x.cs.toArray 47 (0, 0)) from h]
  simpa using hj
theorem dv_slice {C : Nat} {w : World} {v : Value} {L : List Ov} (h : RdO C w v L) : ∀ i, ∃ a l c, (ovAt L i).dv = .slice a l c := by
  intro i
  by_cases hi : i < L.length
  · have := h.2 _ (ovAt_mem hi)
    obtain ⟨a, c, e, _⟩ := this
    exact ⟨_, _, _, e⟩
  · unfold ovAt
    rw [List.getD_eq_getElem?_getD, List.getElem?_eq_none (by omega)]
    exact ⟨_, _, _, rfl⟩
theorem opNew (w : World) (x : Ov) : ∀ j u, x.cs[j]? = some u → (w.alloc (.cells #[.int .i64 x.a, .int .i64 x.s, .int .i64 x.t, x.dv, .int .i64 x.k, .int .i64 x.o, .int .i64 x.n, .int .i64 x.u, .int .i64 x.pt, .int .i64 x.pa, .string x.ky, .string x.tx] 47)).cell? ((⟨w.heap.size, 0, none⟩ : Addr).add j) = some u := by
  intro j u h
  rw [Addr.add_mid, Nat.zero_add]
  refine cell_made (Below.refl _ _) (k := j) ?_
  rw [← h, ← List.getElem?_toArray]
  rfl
end Go.Proofs.Ytfjekbfejbgneaa

namespace Go.Proofs.Ytfjekbfejbgneaa
open Go.RowKit
set_option linter.unusedVariables false

/-- A piece of operations that can be read. -/
theorem RdO.cut {C : Nat} {w : World} {ao : Option Addr} {n cap : Nat} {L : List Ov} (h : RdO C w (.slice ao n cap) L) (f m : Nat) (hf : f ≤ L.length) (hm : m ≤ L.length - f) :
    RdO C w (.slice (if cap = f then ao else ao.map (·.add (f * 12))) m (cap - f)) ((L.drop f).take m) := by
  obtain ⟨⟨ao1, cap1, e, hl, hx, hz, h⟩, hd⟩ := h
  simp only [Value.slice.injEq] at e
  obtain ⟨rfl, rfl, rfl⟩ := e
  have hlen : ((L.drop f).take m).length = m := by rw [List.length_take, List.length_drop]; omega
  refine ⟨⟨_, cap - f, by rw [hlen], by rw [hlen]; omega, by omega, fun hno => ?_, fun hpos => ?_⟩, fun x hx => hd x (List.mem_of_mem_drop (List.mem_of_mem_take hx))⟩
  · split at hno
    · omega
    · cases ao with
      | none => have := hz rfl; omega
      | some a => simp at hno
  · rw [hlen] at hpos
    obtain ⟨g, off, rfl, hlt, hr⟩ := h (by omega)
    rw [if_neg (by omega)]
    refine ⟨g, off + f * 12, by rw [Option.map_some, Addr.add_lit], hlt, fun k hk => ?_⟩
    rw [hlen] at hk
    have h1 := hr (f + k) (by omega)
    have e1 : ovAt ((L.drop f).take m) k = ovAt L (f + k) := by
      unfold ovAt
      simp only [List.getD_eq_getElem?_getD]
      rw [List.getElem?_take, if_pos hk, List.getElem?_drop]
    rw [e1, show off + f * 12 + k * 12 = off + (f + k) * 12 by omega]
    exact h1
end Go.Proofs.Ytfjekbfejbgneaa
