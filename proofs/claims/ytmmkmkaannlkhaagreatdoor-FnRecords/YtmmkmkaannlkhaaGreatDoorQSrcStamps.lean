/- Drawn stamps: what the source's size and the draws of StampLess answer; a list of stamps as a row that the call owns. -/
import Derived.Laws.OwnMore
import Derived.Test.YtmmkmkaannlkhaaGreatDoorQSrcOdd
import Derived.Test.YtmmkmkaannlkhaaGreatDoorQSrcToSrcMore
import Derived.Test.YtmmkmkaannlkhaaGreatDoorQStampLessWalkToStampNextMax
namespace Go.Proofs.YtmmkmkaannlkhaaGreatDoor
open Go.RowKit
set_option linter.unusedVariables false

/-- The cells of a list of stamps. -/
def flS (ls : List (Int × Int)) : List Value := ls.flatMap fun s => [.int .i64 s.1, .int .i64 s.2]
theorem flS_len (ls : List (Int × Int)) : (flS ls).length = ls.length * 2 := by
  induction ls with
  | nil => rfl
  | cons s ls ih =>
    have : flS (s :: ls) = .int .i64 s.1 :: .int .i64 s.2 :: flS ls := rfl
    rw [this, List.length_cons, List.length_cons, List.length_cons, ih]
    omega
theorem flS_add (ls : List (Int × Int)) (t a : Int) : flS ls ++ [.int .i64 t, .int .i64 a] = flS (ls ++ [(t, a)]) := by simp [flS]
theorem flS_get (ls : List (Int × Int)) : ∀ k, k < ls.length → (flS ls)[k * 2]? = some (.int .i64 (ls.getD k (0, 0)).1) ∧ (flS ls)[k * 2 + 1]? = some (.int .i64 (ls.getD k (0, 0)).2) := by
  induction ls with
  | nil => intro k hk; exact absurd hk (Nat.not_lt_zero _)
  | cons s ls ih =>
    intro k hk
    have e : flS (s :: ls) = .int .i64 s.1 :: .int .i64 s.2 :: flS ls := rfl
    rw [e]
    cases k with
    | zero => exact ⟨rfl, rfl⟩
    | succ k =>
      have h := ih k (by simpa using hk)
      have e1 : (k + 1) * 2 = k * 2 + 1 + 1 := by omega
      rw [e1]
      simpa using h
/-- A row of stamps that the call owns. -/
def OwS (w : World) (B : Nat) (v : Value) (ls : List (Int × Int)) : Prop := w.ownsRow B 27 2 v ls.length (flS ls) ∧ v ≠ .slice none 0 0
theorem OwS.out {w : World} {B : Nat} {v : Value} {ls : List (Int × Int)} (h : OwS w B v ls) : ∃ g cap, v = .slice (some ⟨g, 0, none⟩) ls.length cap ∧ B ≤ g ∧ g < w.heap.size ∧ SlS w g ls := by
  obtain ⟨h, hn⟩ := h
  have hl := h.lt
  have h0 := h
  rcases h.2 with ⟨e, _⟩ | ⟨g, cap, cur, rfl, hb, hg, _⟩
  · exact absurd e hn
  · refine ⟨g, cap, rfl, hb, (hl g rfl).2, fun k hk => ?_⟩
    have := flS_get ls k hk
    rw [h0.cellAt (k * 2) (by omega), h0.cellAt (k * 2 + 1) (by omega)]
    exact this
theorem OwS.apart {w w' : World} {B : Nat} {v : Value} {ls : List (Int × Int)} {b : Nat} (h : OwS w B v ls) (hg : w.grownBy w' (some b)) (hb : b < B) : OwS w' B v ls := by
  refine ⟨h.1.kept hg ?_, h.2⟩
  obtain ⟨g, cap, rfl, h1, _⟩ := h.out
  refine .inr fun e => ?_
  have : g = b := by simpa [Value.ownBlock] using e
  omega
theorem below_seq' {b : Nat} {w0 w : World} (h : Below b w0 w) (hb : b < w.heap.size) (Z : Obj) : Below b w0 (w.alloc Z) := h.alloc (by omega) Z
theorem Src.apart {C : Nat} {w w' : World} {b A g : Nat} (h : Src C w b A) (hg : w.grownBy w' (some g)) (hn : b < g) : Src C w' b A := by
  have hlt := h.lt
  obtain ⟨v, xs, p, q, h1, h2, h3, h4⟩ := h
  refine ⟨v, xs, p, q, ?_, h2, h3.grown hg (fun k hk => by cases hk; omega), h4⟩
  unfold Sr at h1 ⊢
  rw [hg.block b hlt (fun e => by cases e; omega)]
  exact h1

end Go.Proofs.YtmmkmkaannlkhaaGreatDoor
