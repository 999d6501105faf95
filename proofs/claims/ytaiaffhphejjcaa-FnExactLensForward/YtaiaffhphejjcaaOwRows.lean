/- Rows that the call owns, each between two blocks: what keeps them. No condition: they are lemmas. -/
import Derived.Test.YtaiaffhphejjcaaStepRows
namespace Go.Proofs.Ytaiaffhphejjcaa
open Go.RowKit
set_option linter.unusedVariables false

/-- A row that the call owns, in a block from B on, ahead of E. -/
def Ow (T : TypeId) (m : Nat) (w : World) (B E : Nat) (v : Value) (n : Nat) (cs : List Value) : Prop := w.ownsRow B T m v n cs ∧ ∀ k, v.ownBlock = some k → k < E
theorem Ow.mk {T : TypeId} {m : Nat} {w : World} {B : Nat} {v : Value} {n : Nat} {cs : List Value} (h : w.ownsRow B T m v n cs) : Ow T m w B w.heap.size v n cs := ⟨h, fun k hk => (World.ownsRow.lt h k hk).2⟩
theorem Ow.on {T : TypeId} {m : Nat} {w w' : World} {B E : Nat} {v : Value} {n : Nat} {cs : List Value} (h : Ow T m w B E v n cs) (hb : Below w.heap.size w w') : Ow T m w' B E v n cs := ⟨ownM_on h.1 hb, h.2⟩
theorem Ow.rd {T : TypeId} {m : Nat} {w : World} {B E : Nat} {v : Value} {n : Nat} {cs : List Value} (h : Ow T m w B E v n cs) : RdM m w.heap.size w v n cs := ownM_rd h.1
theorem Ow.away {T T' : TypeId} {m m' : Nat} {w w' : World} {B E B' E' : Nat} {v v' : Value} {n n' : Nat} {cs cs' : List Value} (h : Ow T m w B E v n cs) (hg : w.grownBy w' v'.ownBlock) (h' : Ow T' m' w B' E' v' n' cs') (hd : E ≤ B' ∨ E' ≤ B) : Ow T m w' B E v n cs :=
  ⟨ownM_kept h.1 hg (fun k hk e => by
    have h1 := (World.ownsRow.lt h.1 k hk).1
    have h2 := h.2 k hk
    have h3 := (World.ownsRow.lt h'.1 k e).1
    have h4 := h'.2 k e
    omega), h.2⟩
theorem Ow.grown {T' : TypeId} {m' : Nat} {w0 w w' : World} {B' E' : Nat} {v' : Value} {n' : Nat} {cs' : List Value} (hB : Below w0.heap.size w0 w) (hg : w.grownBy w' v'.ownBlock) (h' : Ow T' m' w B' E' v' n' cs') (hd : w0.heap.size ≤ B') : Below w0.heap.size w0 w' :=
  hB.grown hg hB.size (fun k hk => Nat.le_trans hd (World.ownsRow.lt h'.1 k hk).1)
theorem Ow.onH {T : TypeId} {m : Nat} {w w' : World} {B E : Nat} {v : Value} {n : Nat} {cs : List Value} (h : Hid (Ow T m w B E v n cs)) (hb : Below w.heap.size w w') : Hid (Ow T m w' B E v n cs) := Ow.on h.out hb
theorem Ow.awayH {T T' : TypeId} {m m' : Nat} {w w' : World} {B E B' E' : Nat} {v v' : Value} {n n' : Nat} {cs cs' : List Value} (h : Hid (Ow T m w B E v n cs)) (hg : w.grownBy w' v'.ownBlock) (h' : Hid (Ow T' m' w B' E' v' n' cs')) (hd : E ≤ B' ∨ E' ≤ B) : Hid (Ow T m w' B E v n cs) := Ow.away h.out hg h'.out hd
theorem Ow.shape {T : TypeId} {m : Nat} {w : World} {B E : Nat} {v : Value} {n : Nat} {cs : List Value} (h : Ow T m w B E v n cs) : ∃ a c, v = .slice a n c := by
  rcases ownM_shape h.1 with ⟨e, h0, _⟩ | ⟨g, c, e, _⟩
  · exact ⟨none, 0, by rw [e, h0]⟩
  · exact ⟨_, c, e⟩
end Go.Proofs.Ytaiaffhphejjcaa
