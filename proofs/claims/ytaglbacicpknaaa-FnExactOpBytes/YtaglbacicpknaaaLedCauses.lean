/- The code's ledger: what hasCauses answers. -/
import Derived.Test.YtaglbacicpknaaaLedPut
import Derived.Test.YtaglbacicpknaaaOpOK
namespace Go.Proofs.Ytaglbacicpknaaa
open Go.RowKit
set_option linter.unusedVariables false

/-- What the operation x counts of actor a is there, and below it. -/
def causeOK (P : List Ov) (x : Ov) (a : Nat) : Bool := decide (x.ds.getD a 0 ≤ ((byA P a).length : Int)) && (decide (x.ds.getD a 0 ≤ 0) || lessS (ovAt (byA P a) (x.ds.getD a 0 - 1).toNat).t (ovAt (byA P a) (x.ds.getD a 0 - 1).toNat).a x.t x.a)
def causesB (P : List Ov) (x : Ov) : Bool := (List.range 16).all (causeOK P x)
theorem rowCs_at : ∀ (L : List Ov) (k i : Nat), k < L.length → i < 12 → (rowCs L)[k * 12 + i]? = (ovAt L k).cs[i]? := by
  intro L
  induction L with
  | nil => intro k i h; simp at h
  | cons y L ih =>
    intro k i h hi
    have e : rowCs (y :: L) = y.cs ++ rowCs L := by simp [rowCs]
    have l12 : y.cs.length = 12 := rfl
    rw [e]
    cases k with
    | zero => rw [List.getElem?_append_left (by omega)]; simp [ovAt]
    | succ k =>
      rw [List.getElem?_append_right (by omega), show (k + 1) * 12 + i - y.cs.length = k * 12 + i by omega, ih k i (by simpa using h) hi]
      rfl
theorem row_at {w : World} {B g n cap : Nat} {L : List Ov} (h : w.ownsRow B 36 12 (.slice (some ⟨g, 0, none⟩) n cap) L.length (rowCs L)) {k : Nat} (hk : k < L.length) : OpAt w g (k * 12) (ovAt L k) := by
  obtain ⟨h1, h2⟩ := h
  rcases h2 with ⟨hv, _⟩ | ⟨g', cap', cur, hv, _, hh, _, _, hs, ht⟩
  · simp at hv
  · simp only [Value.slice.injEq, Option.some.injEq, Addr.mk.injEq, and_true] at hv
    obtain ⟨rfl, rfl, rfl⟩ := hv
    have cell : ∀ i, i < 12 → w.cell? ⟨g, k * 12 + i, none⟩ = (ovAt L k).cs[i]? := fun i hi => by
      rw [← rowCs_at L k i hk hi, ← ht, List.getElem?_take_of_lt (by omega)]
      unfold World.cell?
      rw [show w.heap[(⟨g, k * 12 + i, none⟩ : Addr).block]? = some (.cells cur 36 (0, 0)) from hh]
      simp
    exact ⟨cell 0 (by omega), cell 1 (by omega), cell 2 (by omega), cell 3 (by omega), cell 4 (by omega), cell 5 (by omega), cell 6 (by omega), cell 7 (by omega), cell 8 (by omega), cell 9 (by omega), cell 10 (by omega), cell 11 (by omega)⟩

end Go.Proofs.Ytaglbacicpknaaa
