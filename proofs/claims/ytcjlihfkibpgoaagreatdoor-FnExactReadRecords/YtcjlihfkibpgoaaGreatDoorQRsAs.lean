/- What the code's ReadRecords answers may be written over: its operations lie in a row of the call's own, each vector in a block of its own. -/
import Derived.Test.YtcjlihfkibpgoaaGreatDoorQRecsImpl
import Derived.Test.YtcjlihfkibpgoaaGreatDoorQMarkAs
import Derived.Test.YtcjlihfkibpgoaaGreatDoorQLedgerToLogFind
namespace Go.Proofs.YtcjlihfkibpgoaaGreatDoor
open Go.RowKit Go.Lib
set_option linter.unusedVariables false

theorem Rs.rth {w : World} {B : Nat} {e : TypeId} {s g n cap : Nat} {xs : List Value} (h : w.ownsRow B e s (.slice (some ⟨g, 0, none⟩) n cap) n xs) : w.there g 0 (n * s) ∧ B ≤ g ∧ g < w.heap.size ∧ n ≤ cap ∧ cap ≤ maxLen := by
  obtain ⟨h1, h2⟩ := h
  rcases h2 with ⟨h', _⟩ | ⟨g', cap', cur, h', hb, hg, hnc, hcm, hcs, ht⟩
  · simp at h'
  · simp only [Value.slice.injEq, Option.some.injEq, Addr.mk.injEq, and_true, true_and] at h'
    obtain ⟨rfl, rfl⟩ := h'
    have hle : n * s ≤ cap * s := Nat.mul_le_mul_right s hnc
    refine ⟨fun j hj => ⟨?_, ?_⟩, hb, ?_, hnc, hcm⟩
    · have hlt : 0 + j < cur.size := by omega
      simp [World.cell?, hg, show j < cur.size by omega]
    · simp [World.frozen?, hg]
    · rcases Nat.lt_or_ge g w.heap.size with h | h
      · exact h
      · rw [Array.getElem?_eq_none h] at hg; cases hg

theorem Rs.as {w wr : World} {g cap : Nat} {gs : List Nat} {L : List Ov} (h : Rs w wr (.slice (some ⟨g, 0, none⟩) L.length cap) gs L) :
    As wr w.heap.size g (fun i => gs.getD i 0) L := by
  obtain ⟨ht, hb, hl, _, _⟩ := Rs.rth h.row
  refine ⟨hb, fun i hi => (h.dv i hi).2.1, fun i hi e => h.ne i hi (by simp only [Value.ownBlock]; rw [e]), fun i j hi hj hne (e : gs.getD i 0 = gs.getD j 0) => ?_, hl, fun i hi => (h.dv i hi).2.2.1, fun i hi => row_at h.row hi, ht, fun i hi => (h.dv i hi).1, fun i hi => (h.dv i hi).2.2.2.2.2, fun i hi => (h.dv i hi).2.2.2.1, fun i hi => (h.dv i hi).2.2.2.2.1⟩
  rcases Nat.lt_or_gt_of_ne hne with h1 | h1
  · have := h.inc i j h1 hj; omega
  · have := h.inc j i h1 hi; omega

/-- An answer without operations has no block. -/
theorem Rs.none {w wr : World} {rc : Nat} {gs : List Nat} {L : List Ov} (h : Rs w wr (.slice none L.length rc) gs L) : L = [] ∧ rc = 0 := by
  obtain ⟨h1, h2⟩ := h.row
  rcases h2 with ⟨h', hn⟩ | ⟨g', cap', cur, h', _⟩
  · simp only [Value.slice.injEq] at h'
    exact ⟨List.eq_nil_of_length_eq_zero hn, h'.2.2⟩
  · simp at h'

theorem Rs.addr {w wr : World} {ra : Option Addr} {n rc : Nat} {gs : List Nat} {L : List Ov} (h : Rs w wr (.slice ra n rc) gs L) : ra = Option.none ∨ ∃ g, ra = some ⟨g, 0, Option.none⟩ := by
  obtain ⟨h1, h2⟩ := h.row
  rcases h2 with ⟨h', hn⟩ | ⟨g', cap', cur, h', _⟩
  · simp only [Value.slice.injEq] at h'; exact .inl h'.1
  · simp only [Value.slice.injEq] at h'; exact .inr ⟨g', h'.1⟩

end Go.Proofs.YtcjlihfkibpgoaaGreatDoor
