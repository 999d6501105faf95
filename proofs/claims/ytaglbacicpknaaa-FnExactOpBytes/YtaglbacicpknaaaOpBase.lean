/- Operations of a log in memory: one of them, a list of them, and where they can be read. -/
import Derived.Test.YtaglbacicpknaaaOpComes
namespace Go.Proofs.Ytaglbacicpknaaa
open Go.RowKit
set_option linter.unusedVariables false

/-- An operation: its numbers, its texts, what it counts, and the slice in which that lies. -/
structure Ov where
  a : Int
  s : Int
  t : Int
  dv : Value
  k : Int
  o : Int
  n : Int
  u : Int
  pt : Int
  pa : Int
  ky : ByteArray
  tx : ByteArray
  ds : List Int
def ov0 : Ov := ⟨0, 0, 0, .slice none 0 0, 0, 0, 0, 0, 0, 0, ByteArray.empty, ByteArray.empty, []⟩
/-- An operation's twelve cells. -/
def Ov.cs (x : Ov) : List Value := [.int .i64 x.a, .int .i64 x.s, .int .i64 x.t, x.dv, .int .i64 x.k, .int .i64 x.o, .int .i64 x.n, .int .i64 x.u, .int .i64 x.pt, .int .i64 x.pa, .string x.ky, .string x.tx]
def Ov.ok (x : Ov) : Bool := opB x.a x.s x.t x.k x.o x.n x.u x.pt x.pa x.ky x.tx x.ds
/-- All that an operation says, but for where what it counts lies. -/
def Ov.same (x y : Ov) : Prop := x.a = y.a ∧ x.s = y.s ∧ x.t = y.t ∧ x.ds = y.ds ∧ x.k = y.k ∧ x.o = y.o ∧ x.n = y.n ∧ x.u = y.u ∧ x.pt = y.pt ∧ x.pa = y.pa ∧ x.ky = y.ky ∧ x.tx = y.tx
def ovAt (L : List Ov) (k : Nat) : Ov := L.getD k ov0
theorem ovAt_get {L : List Ov} {k : Nat} (h : k < L.length) : L[k]? = some (ovAt L k) := by
  unfold ovAt
  rw [List.getD_eq_getElem?_getD, List.getElem?_eq_getElem h]
  rfl
theorem ovAt_mem {L : List Ov} {k : Nat} (h : k < L.length) : ovAt L k ∈ L := List.mem_of_getElem? (ovAt_get h)
/-- The operation x lies at a place of block g. -/
structure OpAt (w : World) (g o : Nat) (x : Ov) : Prop where
  c0 : w.cell? ⟨g, o, none⟩ = some (.int .i64 x.a)
  c1 : w.cell? ⟨g, o + 1, none⟩ = some (.int .i64 x.s)
  c2 : w.cell? ⟨g, o + 2, none⟩ = some (.int .i64 x.t)
  c3 : w.cell? ⟨g, o + 3, none⟩ = some x.dv
  c4 : w.cell? ⟨g, o + 4, none⟩ = some (.int .i64 x.k)
  c5 : w.cell? ⟨g, o + 5, none⟩ = some (.int .i64 x.o)
  c6 : w.cell? ⟨g, o + 6, none⟩ = some (.int .i64 x.n)
  c7 : w.cell? ⟨g, o + 7, none⟩ = some (.int .i64 x.u)
  c8 : w.cell? ⟨g, o + 8, none⟩ = some (.int .i64 x.pt)
  c9 : w.cell? ⟨g, o + 9, none⟩ = some (.int .i64 x.pa)
  c10 : w.cell? ⟨g, o + 10, none⟩ = some (.string x.ky)
  c11 : w.cell? ⟨g, o + 11, none⟩ = some (.string x.tx)
theorem OpAt.cells {w w' : World} {g o : Nat} {x : Ov} (h : OpAt w g o x) (hc : ∀ k, w'.cell? ⟨g, k, none⟩ = w.cell? ⟨g, k, none⟩) : OpAt w' g o x :=
  ⟨(hc _).trans h.c0, (hc _).trans h.c1, (hc _).trans h.c2, (hc _).trans h.c3, (hc _).trans h.c4, (hc _).trans h.c5, (hc _).trans h.c6, (hc _).trans h.c7, (hc _).trans h.c8, (hc _).trans h.c9, (hc _).trans h.c10, (hc _).trans h.c11⟩
theorem OpAt.below {C : Nat} {w w' : World} {g o : Nat} {x : Ov} (h : OpAt w g o x) (hb : Below C w w') (hg : g < C) : OpAt w' g o x := h.cells fun k => hb.cell (p := ⟨g, k, none⟩) hg
theorem OpAt.block {w w' : World} {g o : Nat} {x : Ov} (h : OpAt w g o x) (hb : w'.heap[g]? = w.heap[g]?) : OpAt w' g o x := h.cells fun k => World.cell?_of_block (w := w) hb
/-- The slice v reads as these operations, in blocks below C; what they count can be read, too. -/
def RdO (C : Nat) (w : World) (v : Value) (L : List Ov) : Prop :=
  (∃ ao cap, v = .slice ao L.length cap ∧ L.length ≤ cap ∧ cap ≤ maxLen ∧ (ao = none → cap = 0) ∧ (0 < L.length → ∃ g off, ao = some ⟨g, off, none⟩ ∧ g < C ∧ ∀ k, k < L.length → OpAt w g (off + k * 12) (ovAt L k))) ∧ ∀ x ∈ L, Rd C w x.dv (x.ds.map (Value.int .i64))
theorem RdO.below {C : Nat} {w w' : World} {v : Value} {L : List Ov} (h : RdO C w v L) (hb : Below C w w') : RdO C w' v L := by
  obtain ⟨⟨ao, cap, rfl, hn, hm, hz, h⟩, hd⟩ := h
  refine ⟨⟨ao, cap, rfl, hn, hm, hz, fun hp => ?_⟩, fun x hx => (hd x hx).below hb⟩
  obtain ⟨g, off, rfl, hg, hr⟩ := h hp
  exact ⟨g, off, rfl, hg, fun k hk => (hr k hk).below hb hg⟩
theorem RdO.mono {C C' : Nat} {w : World} {v : Value} {L : List Ov} (h : RdO C w v L) (hc : C ≤ C') : RdO C' w v L := by
  obtain ⟨⟨ao, cap, rfl, hn, hm, hz, h⟩, hd⟩ := h
  refine ⟨⟨ao, cap, rfl, hn, hm, hz, fun hp => ?_⟩, fun x hx => (hd x hx).mono hc⟩
  obtain ⟨g, off, rfl, hg, hr⟩ := h hp
  exact ⟨g, off, rfl, by omega, hr⟩
end Go.Proofs.Ytaglbacicpknaaa
