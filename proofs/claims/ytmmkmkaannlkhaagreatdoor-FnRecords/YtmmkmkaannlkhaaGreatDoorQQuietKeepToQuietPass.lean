/- A region that draws its order, whose operations only read and whose callees keep all that lay: walked once, in the order of the text. What is not met in a region that draws its order is passed by ('with_reducible refine quiet_pass (by kernel_rfl) ?_': with the elaborator's own unfolding the same step finds no end where what follows is not met either). -/
import Derived.Deep.QuietTactic
import Derived.Deep.MidRow
import Derived.Test.YtmmkmkaannlkhaaGreatDoorQBaseToOwnType
namespace Go.Proofs.YtmmkmkaannlkhaaGreatDoor
open Go.RowKit
set_option linter.unusedVariables false

/-- A world in which all that lay in w lies as it lay. -/
structure KeptBy (w : World) where
  W : World
  kept : Below w.heap.size w W
theorem kept_some (w : World) : Nonempty (KeptBy w) := ⟨⟨w, Below.refl _ _⟩⟩
theorem KeptBy.cell {w : World} (p : KeptBy w) {b k : Nat} {v : Value} (hb : b < w.heap.size) (h : w.cell? ⟨b, k, none⟩ = some v) : p.W.cell? ⟨b, k, none⟩ = some v := (p.kept.cell (p := ⟨b, k, none⟩) hb).trans h
theorem wp_region_kept {P : Program} {id : Nat} {Q : Exit → Act → World → Prop} {a : Act} {w : World} {l : List Oper} (hm : P.follows .mixedOrders = true) (hB : Region.lexB .any l.toArray = true)
    (h : wpQuiet P l.toArray (fun w' => ∃ p : KeptBy w, w' = p.W) (fun a' => ∀ w', (∃ p : KeptBy w, w' = p.W) → Q .normal a' w') l a) : (Code.region id l.toArray true).wp P Q a w :=
  wp_region_quiet (C := fun w' => ∃ p : KeptBy w, w' = p.W) hm hB ⟨⟨_, (Below.refl _ w).drew⟩, rfl⟩ (by simpa using h)
theorem kept_of {P : Program} {f : FuncId} {args : Array Value} {w : World} {p : KeptBy w} {v : Value} (h : Calls P f args p.W fun e w' => e = .returned v ∧ Below p.W.heap.size p.W w') : Calls P f args p.W fun e w'' => e = .returned v ∧ ∃ p : KeptBy w, w'' = p.W :=
  h.mono fun _ w' ⟨he, hb⟩ => ⟨he, ⟨w', p.kept.trans (hb.mono p.kept.size)⟩, rfl⟩
theorem quiet_skip {P : Program} {ops : Array Oper} {C : World → Prop} {Q : Act → Prop} {a : Act} {o : Oper} {rest : List Oper} (k : wpQuiet P ops C Q rest a) (hw : Region.wanted o (yielded ops a.tmps) = false := by kernel_rfl) (hp : a.put o.dst undef = a := by kernel_rfl) : wpQuiet P ops C Q (o :: rest) a := by
  unfold wpQuiet
  rw [if_neg (by rw [hw]; exact Bool.false_ne_true), hp]
  exact k
theorem quiet_load {P : Program} {ops : Array Oper} {C : World → Prop} {Q : Act → Prop} {a : Act} {o : Oper} {rest : List Oper} (ty : TypeId) (x : Operand) (b off : Nat) (cs : List Value) (d : TypeDesc) (hc : ∀ w, C w → w.rangeAt b off cs) (hu : P.underlying ty = some d) (hd : d.isRow = true) (hi : (P.info? ty).map (·.size) = some cs.length)
    (k : wpQuiet P ops C Q rest (a.put o.dst (.agg cs.toArray))) (ho : o.op = .load ty x := by rfl) (hx : a.eval x = .pointer (some ⟨b, off, none⟩) := by rfl) (hw : Region.wanted o (yielded ops a.tmps) = true := by kernel_rfl) : wpQuiet P ops C Q (o :: rest) a := by
  unfold wpQuiet
  rw [if_pos hw]
  refine ⟨.agg cs.toArray, fun w hC => ?_, k⟩
  unfold Oper.quietAt execOp
  simp only [ho, hx, Instr.loadAt, Instr.sureAddr, Sem.run_bind, Sem.run_pure, Result.andThen_ok, run_loadVar_mid w b off ty cs d (hc w hC) hu hd hi]
  exact ⟨rfl, rfl⟩
end Go.Proofs.YtmmkmkaannlkhaaGreatDoor

namespace Go.Proofs.YtmmkmkaannlkhaaGreatDoor
open Go.RowKit
set_option linter.unusedVariables false

theorem quiet_pass {P : Program} {ops : Array Oper} {C : World → Prop} {Q : Act → Prop} {a : Act} {o : Oper} {rest : List Oper} (hw : Region.wanted o (yielded ops a.tmps) = false) (k : wpQuiet P ops C Q rest (a.put o.dst undef)) : wpQuiet P ops C Q (o :: rest) a := by
  unfold wpQuiet
  rw [if_neg (by rw [hw]; exact Bool.false_ne_true)]
  exact k
end Go.Proofs.YtmmkmkaannlkhaaGreatDoor
