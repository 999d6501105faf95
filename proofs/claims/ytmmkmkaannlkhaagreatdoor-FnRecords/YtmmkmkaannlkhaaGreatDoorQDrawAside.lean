/- Logs beside a source: what is drawn from the source leaves the logs as they were, for the source's block has three cells, an operation has twelve and its counts sixteen. -/
import Derived.Test.YtmmkmkaannlkhaaGreatDoorQOpComesToOpSpecBase
import Derived.Test.YtmmkmkaannlkhaaGreatDoorQSrcToSrcMore
namespace Go.Proofs.YtmmkmkaannlkhaaGreatDoor
open Go.RowKit
set_option linter.unusedVariables false

theorem Src.short {C : Nat} {w : World} {b A : Nat} (h : Src C w b A) {k : Nat} (hk : 3 ≤ k) : w.cell? ⟨b, k, none⟩ = none := by
  obtain ⟨v, xs, p, q, hS, _⟩ := h
  unfold Sr at hS
  simp [World.cell?, hS]
  omega
theorem Rd.aside {C D : Nat} {w w' : World} {b A : Nat} {v : Value} {cs : List Value} (h : Rd D w v cs) (hn : 4 ≤ cs.length) (hs : Src C w b A) (hg : w.grownBy w' (some b)) (hD : D ≤ w.heap.size) : Rd D w' v cs := by
  obtain ⟨ao, cap, rfl, h1, h2, h3, h4⟩ := h
  refine ⟨ao, cap, rfl, h1, h2, h3, fun hp => ?_⟩
  obtain ⟨g, off, rfl, hgD, hc⟩ := h4 hp
  have hne : g ≠ b := fun e => by
    have h5 := hc 3 _ (List.getElem?_eq_getElem (by omega))
    rw [e, hs.short (by omega)] at h5
    cases h5
  exact ⟨g, off, rfl, hgD, fun j u hj => (World.cell?_of_block (w := w) (a := ⟨g, off + j, none⟩) (hg.block g (by omega) (fun e => hne (Option.some.inj e)))).trans (hc j u hj)⟩
theorem RdO.aside {C D : Nat} {w w' : World} {b A : Nat} {v : Value} {L : List Ov} (h : RdO D w v L) (hL : ∀ x ∈ L, x.ds.length = 16) (hs : Src C w b A) (hg : w.grownBy w' (some b)) (hD : D ≤ w.heap.size) : RdO D w' v L := by
  obtain ⟨⟨ao, cap, rfl, h1, h2, h3, h4⟩, h5⟩ := h
  refine ⟨⟨ao, cap, rfl, h1, h2, h3, fun hp => ?_⟩, fun x hx => (h5 x hx).aside (by rw [List.length_map, hL x hx]; omega) hs hg hD⟩
  obtain ⟨g, off, rfl, hgD, hc⟩ := h4 hp
  have hne : g ≠ b := fun e => by
    have h6 := (hc 0 hp).c11
    rw [e, hs.short (by omega)] at h6
    cases h6
  exact ⟨g, off, rfl, hgD, fun k hk => (hc k hk).block (hg.block g (by omega) (fun e => hne (Option.some.inj e)))⟩
/-- A source and logs: what the draws of logs hold. -/
structure Ds (C : Nat) (w0 wr : World) (b A : Nat) : Prop where
  src : Src C wr b A
  gr : w0.grownBy wr (some b)
theorem Ds.next {C : Nat} {w0 wr w' : World} {b A A' : Nat} (h : Ds C w0 wr b A) (hs : Src C w' b A') (hg : wr.grownBy w' (some b)) : Ds C w0 w' b A' := ⟨hs, grownBy_trans h.gr hg⟩
theorem Ds.below {C : Nat} {w0 wr w' : World} {b A : Nat} (h : Ds C w0 wr b A) (hb : Below wr.heap.size wr w') : Ds C w0 w' b A := ⟨h.src.below hb h.src.lt, grownBy_trans h.gr (grownBy_below hb (Nat.le_refl _) (some b))⟩
theorem Ds.mono {C : Nat} {w0 wr : World} {b A A' : Nat} (h : Ds C w0 wr b A) (hA : A ≤ A') : Ds C w0 wr b A' := ⟨h.src.mono hA, h.gr⟩
end Go.Proofs.YtmmkmkaannlkhaaGreatDoor
