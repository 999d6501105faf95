/- The ledger's addAll: all that can be added is, each time the first; the rest waits. -/
import Derived.Test.YtfjekbfejbgneaaQGrowOpsToFindOps
import Derived.Test.YtfjekbfejbgneaaQDeleteOps
import Derived.Test.YtfjekbfejbgneaaQLedPutF
import Derived.Test.YtfjekbfejbgneaaQLedgerToRowRd
namespace Go.Proofs.Ytfjekbfejbgneaa
open Go.RowKit
set_option linter.unusedVariables false

def lenV : Value → Nat
  | .slice _ n _ => n
  | _ => 0
theorem owns_len {w : World} {B : Nat} {e : TypeId} {s n : Nat} {v : Value} {xs : List Value} (h : w.ownsRow B e s v n xs) : lenV v = n := by
  rcases h.2 with ⟨rfl, rfl⟩ | ⟨g, cap, cur, rfl, _⟩ <;> rfl
theorem led_apart {w w' : World} {B lb g : Nat} {vs : List Value} {P : List Ov} (h : Led w B lb vs P) (hg : w.grownBy w' (some g)) (hc : ClearOf vs lb g) : Led w' B lb vs P :=
  ⟨h.len, (hg.block lb h.lt (fun e => hc.1 (Option.some.inj e).symm)).trans h.blk, h.low, fun a ha => owns_all (h.row a ha) fun k hk => hg.block k (World.ownsRow.lt (h.row a ha) k hk).2 (fun e => hc.2 a ha (by rw [hk, ← Option.some.inj e])), h.far, h.part⟩
/-- Where adding stands: the ledger has P, these wait. -/
structure Adds (w0 : World) (B C BW lb : Nat) (wr : World) (v : Value) (P W : List Ov) : Prop where
  led : ∃ vs, Led wr B lb vs P ∧ ∀ k, v.ownBlock = some k → ClearOf vs lb k
  row : wr.ownsRow BW 47 12 v W.length (rowCs W)
  plen : P.length ≤ 1024
  wlen : W.length ≤ 1024
  ok : ∀ x ∈ W, x.ok = true
  rd : ∀ x ∈ W, Rd C wr x.dv (x.ds.map (Value.int .i64))
  bel : Below B w0 wr

end Go.Proofs.Ytfjekbfejbgneaa
