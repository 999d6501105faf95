/- A value with a vector and entries that a call owns: plain facts. -/
import Derived.Test.YtdbipcmfolgjgaaEntHeld
import Derived.Test.YtdbipcmfolgjgaaCtrBase
import Derived.Test.YtdbipcmfolgjgaaVecMarks
namespace Go.Proofs.Ytdbipcmfolgjgaa
open Go.RowKit
set_option linter.unusedVariables false

/-- Two slices of the call's own, in blocks from B on and below E: these counts, these entries. -/
def Sv (w : World) (B E : Nat) (u v : Value) (xs : List Int) (ls : List En) : Prop :=
  ∃ T, Own T w B u (xs.map (Value.int .i64)) ∧ OwnE w B v ls ∧ Apart u v ∧ (∀ i, u.ownBlock = some i → i < E) ∧ (∀ i, v.ownBlock = some i → i < E)
/-- All blocks but those from B on and below E are as they were. -/
def Away (w w' : World) (B E : Nat) : Prop := w.heap.size ≤ w'.heap.size ∧ ∀ i, i < w.heap.size → i < B ∨ E ≤ i → w'.heap[i]? = w.heap[i]?
theorem Sv.shape {w : World} {B E : Nat} {u v : Value} {xs : List Int} {ls : List En} (h : Sv w B E u v xs ls) : ∃ a n c b m d, u = .slice a n c ∧ v = .slice b m d := by
  obtain ⟨T, h1, h2, _⟩ := h
  obtain ⟨a, c, rfl, _⟩ := h1.slice
  rcases ownE_shape h2 with ⟨rfl, _⟩ | ⟨g, d, rfl, _⟩
  · exact ⟨_, _, _, _, _, _, rfl, rfl⟩
  · exact ⟨_, _, _, _, _, _, rfl, rfl⟩
theorem Sv.rd {w : World} {B E : Nat} {u v : Value} {xs : List Int} {ls : List En} (h : Sv w B E u v xs ls) : Rd w.heap.size w u (xs.map (Value.int .i64)) := by
  obtain ⟨T, h1, _⟩ := h
  exact h1.rd
theorem Sv.rdE {w : World} {B E : Nat} {u v : Value} {xs : List Int} {ls : List En} (h : Sv w B E u v xs ls) : RdE w.heap.size w v ls := by
  obtain ⟨T, _, h2, _⟩ := h
  exact ownE_rd h2
theorem Sv.on {w w' : World} {B E : Nat} {u v : Value} {xs : List Int} {ls : List En} (h : Sv w B E u v xs ls) (hb : Below w.heap.size w w') : Sv w' B E u v xs ls := by
  obtain ⟨T, h1, h2, h3⟩ := h
  refine ⟨T, h1.below hb (Nat.le_refl _), ?_, h3⟩
  obtain ⟨k1, k2⟩ := h2
  refine ⟨k1, ?_⟩
  rcases k2 with k2 | ⟨g, cap, cur, hv, hg, hh, r⟩
  · exact .inl k2
  · exact .inr ⟨g, cap, cur, hv, hg, (hb.block g (Array.getElem?_eq_some_iff.1 hh).1).trans hh, r⟩
theorem Sv.alloc {w : World} {B E : Nat} {u v : Value} {xs : List Int} {ls : List En} (h : Sv w B E u v xs ls) (o : Obj) : Sv (w.alloc o) B E u v xs ls := h.on (below_alloc w o)
theorem Sv.drew {w : World} {B E : Nat} {u v : Value} {xs : List Int} {ls : List En} (h : Sv w B E u v xs ls) : Sv w.drew B E u v xs ls := h
theorem Sv.mono {w : World} {B B' E E' : Nat} {u v : Value} {xs : List Int} {ls : List En} (h : Sv w B E u v xs ls) (hb : B' ≤ B) (he : E ≤ E') : Sv w B' E' u v xs ls := by
  obtain ⟨T, h1, h2, h3, h4, h5⟩ := h
  exact ⟨T, h1.mono hb, h2.mono hb, h3, fun i hi => Nat.lt_of_lt_of_le (h4 i hi) he, fun i hi => Nat.lt_of_lt_of_le (h5 i hi) he⟩
theorem Sv.away {w w' : World} {B E B' E' : Nat} {u v : Value} {xs : List Int} {ls : List En} (h : Sv w B E u v xs ls) (hk : Away w w' B' E') (hd : E ≤ B' ∨ E' ≤ B) : Sv w' B E u v xs ls := by
  obtain ⟨T, h1, h2, h3, h4, h5⟩ := h
  refine ⟨T, ?_, ?_, h3, h4, h5⟩
  · obtain ⟨k1, k2⟩ := h1
    refine ⟨k1, ?_⟩
    rcases k2 with k2 | ⟨g, cap, cur, hv, hg, hh, r⟩
    · exact .inl k2
    · have hl := h4 g (by rw [hv]; rfl)
      exact .inr ⟨g, cap, cur, hv, hg, (hk.2 g (Array.getElem?_eq_some_iff.1 hh).1 (by omega)).trans hh, r⟩
  · obtain ⟨k1, k2⟩ := h2
    refine ⟨k1, ?_⟩
    rcases k2 with k2 | ⟨g, cap, cur, hv, hg, hh, r⟩
    · exact .inl k2
    · have hl := h5 g (by rw [hv]; rfl)
      exact .inr ⟨g, cap, cur, hv, hg, (hk.2 g (Array.getElem?_eq_some_iff.1 hh).1 (by omega)).trans hh, r⟩
theorem Away.dy {w w' : World} {B E n : Nat} {x y : Value} (h : Away w w' B E) (hd : Dy w n x y) (hn : n < B ∨ E ≤ n) : Dy w' n x y := by
  have hb := h.2 n hd.lt hn
  exact ⟨⟨(World.cell?_of_block (a := ⟨n, 0, none⟩) hb).trans hd.1.1, (World.cell?_of_block (a := ⟨n, 1, none⟩) hb).trans hd.1.2⟩, fun k => (World.frozen?_of_block (a := ⟨n, k, none⟩) hb).trans (hd.2 k)⟩
/-- A value with a vector and entries of the call's own, and a code. -/
def SvAns (xs : List Int) (ls : List En) (k : Int) (w : World) (e : Ending) (w' : World) : Prop :=
  ∃ u v, e = .returned (.tuple #[.agg #[u, v], .int .i64 k]) ∧ Sv w' w.heap.size w'.heap.size u v xs ls ∧ Below w.heap.size w w'
theorem svNone (w : World) (B E : Nat) : Sv w B E (.slice none 0 0) (.slice none 0 0) [] [] :=
  ⟨3, World.ownsRow_nil _ _ _ _, World.ownsRow_nil _ _ _ _, fun i j h => by simp [Value.ownBlock] at h, fun i h => by simp [Value.ownBlock] at h, fun i h => by simp [Value.ownBlock] at h⟩

theorem away_set (w : World) (p k : Nat) (u : Value) : Away w (w.setCell ⟨p, k, none⟩ u) p (p + 1) := ⟨by simp, fun i _ hi => heap_setCell_other w ⟨p, k, none⟩ i u (by show i ≠ p; omega)⟩
theorem sv_put {w : World} {B E : Nat} {u v : Value} {xs : List Int} {ls : List En} (h : Sv w B E u v xs ls) (p : Nat) (hp : p < B) (x y : Value) : Sv ((w.setCell ⟨p, 0, none⟩ x).setCell ⟨p, 1, none⟩ y) B E u v xs ls :=
  (h.away (away_set w p 0 x) (.inr (by omega))).away (away_set _ p 1 y) (.inr (by omega))
theorem Dy.grown {w w' : World} {n : Nat} {x y : Value} {row : Option Nat} (h : Dy w n x y) (hg : w.grownBy w' row) (hr : row ≠ some n) : Dy w' n x y := by
  have hb : w'.heap[n]? = w.heap[n]? := hg.block n h.lt (fun e => hr e.symm)
  exact ⟨⟨(World.cell?_of_block (a := ⟨n, 0, none⟩) hb).trans h.1.1, (World.cell?_of_block (a := ⟨n, 1, none⟩) hb).trans h.1.2⟩, fun k => (World.frozen?_of_block (a := ⟨n, k, none⟩) hb).trans (h.2 k)⟩

end Go.Proofs.Ytdbipcmfolgjgaa
