/- A step of a region that draws its order, in fewer words. Steps of a region that draws its order, in a large frame: the frame is written out only where it is wanted. -/
import Derived.Deep.RegionHeld
import Derived.Test.YtmmkmkaannlkhaaGreatDoorQInfoToLawAt
namespace Go.Proofs.YtmmkmkaannlkhaaGreatDoor
open Go.RowKit
set_option linter.unusedVariables false

theorem tkH {P : Program} {md : Region.Mode} {ops : Array Oper} {Q : Exit → Act → World → Prop} {S : World → Prop} {fuel : Nat} {listed : Array Bool} {a : Act} {w : World} {oi : Oper} (i : Nat) (v : Value) (hi : ops[i]? = some oi) (hy : YieldsIf P ops S oi v a) (hS : S w)
    (h : wpAnyH P md ops Q S fuel (listed.setIfInBounds i true) (a.put oi.dst v) w) (hs : Region.noSelect ops = true := by kernel_rfl) (hf : Region.free md ops listed i = true := by kernel_rfl) (hr : (Region.ready md ops listed).contains i = true := by kernel_rfl)
    (hQ : ∀ c a w, Q (.panic c) (a.put oi.dst v) w → Q (.panic c) a w := by exact fun _ _ _ h => h) : wpAnyH P md ops Q S (fuel + 1) listed a w := wpAnyH_take hi hs hf hr hQ hy hS h
theorem tkS : (∀ {α : Type} {xs : List α} {i : Nat} (h : i < xs.toArray.size), xs.toArray[i] = xs[i]'(by simpa using h)) ∧ (∀ {α : Type} {a : α} {bs : List α} {i : Nat} (h : i + 1 < (a :: bs).length), (a :: bs)[i + 1] = bs[i]'(by simpa using h)) ∧ (∀ {α : Type} {a : α} {bs : List α} (h : 0 < (a :: bs).length), (a :: bs)[0] = a) ∧ (∀ {α : Type} (l : List α) (i : Nat) (a : α), l.toArray.setIfInBounds i a = (l.set i a).toArray) ∧ (∀ {α : Type} (a b : α) (bs : List α), (a :: bs).set 0 b = b :: bs) ∧ (∀ {α : Type} (a b : α) (bs : List α) (n : Nat), (a :: bs).set (n + 1) b = a :: bs.set n b) :=
  ⟨fun h => List.getElem_toArray h, fun h => List.getElem_cons_succ .., fun h => List.getElem_cons_zero .., fun l i a => List.setIfInBounds_toArray l i a, fun a b bs => rfl, fun a b bs n => rfl⟩
end Go.Proofs.YtmmkmkaannlkhaaGreatDoor

namespace Go.Proofs.YtmmkmkaannlkhaaGreatDoor
open Go.RowKit
set_option linter.unusedVariables false

/-- What some slots hold. -/
def Agree (ρ : Operand → Value) : List (Nat × Value) → Prop
  | [] => ∀ v, ρ (.const v) = v
  | p :: tbl => ρ (.tmp p.1) = p.2 ∧ Agree ρ tbl
theorem agree_of (ρ : Operand → Value) (hc : ∀ v, ρ (.const v) = v) : ∀ (tbl : List (Nat × Value)), tbl.map (fun p => ρ (.tmp p.1)) = tbl.map (·.2) → Agree ρ tbl
  | [], _ => hc
  | p :: tbl, h => by
    simp only [List.map_cons, List.cons.injEq] at h
    exact ⟨h.1, agree_of ρ hc tbl h.2⟩
theorem tkB {P : Program} {md : Region.Mode} {ops : Array Oper} {Q : Exit → Act → World → Prop} {S : World → Prop} {fuel : Nat} {listed : Array Bool} {a : Act} {w : World} {oi : Oper} (i : Nat) (v : Value) (tbl : List (Nat × Value)) (hi : ops[i]? = some oi)
    (hr : ∀ ρ, Agree ρ tbl → ∀ w, S w → (execOp ρ oi).run P w = .ok (.value v) w) (hS : S w)
    (h : wpAnyH P md ops Q S fuel (listed.setIfInBounds i true) (a.put oi.dst v) w) (hs : Region.noSelect ops = true := by kernel_rfl) (hf : Region.free md ops listed i = true := by kernel_rfl) (hy : (Region.ready md ops listed).contains i = true := by kernel_rfl)
    (hQ : ∀ c a w, Q (.panic c) (a.put oi.dst v) w → Q (.panic c) a w := by exact fun _ _ _ h => h)
    (hw : Region.wanted oi (yielded ops a.tmps) = true := by kernel_rfl) (he : tbl.map (fun p => a.eval (.tmp p.1)) = tbl.map (·.2) := by kernel_rfl) : wpAnyH P md ops Q S (fuel + 1) listed a w :=
  wpAnyH_take hi hs hf hy hQ (Or.inl ⟨hw, fun w' hs' => hr a.eval (agree_of _ (fun _ => rfl) tbl he) w' hs'⟩) hS h
theorem tkN {P : Program} {md : Region.Mode} {ops : Array Oper} {Q : Exit → Act → World → Prop} {S : World → Prop} {fuel : Nat} {listed : Array Bool} {a : Act} {w : World} {oi : Oper} (i : Nat) (hi : ops[i]? = some oi) (hS : S w)
    (h : wpAnyH P md ops Q S fuel (listed.setIfInBounds i true) (a.put oi.dst undef) w) (hs : Region.noSelect ops = true := by kernel_rfl) (hf : Region.free md ops listed i = true := by kernel_rfl) (hy : (Region.ready md ops listed).contains i = true := by kernel_rfl)
    (hQ : ∀ c a w, Q (.panic c) (a.put oi.dst undef) w → Q (.panic c) a w := by exact fun _ _ _ h => h)
    (hw : Region.wanted oi (yielded ops a.tmps) = false := by kernel_rfl) : wpAnyH P md ops Q S (fuel + 1) listed a w :=
  wpAnyH_take hi hs hf hy hQ (Or.inr ⟨hw, rfl⟩) hS h
theorem actH {P : Program} {md : Region.Mode} {ops : Array Oper} {Q : Exit → Act → World → Prop} {S : World → Prop} {fuel : Nat} {listed : Array Bool} {a : Act} {w : World} (a' : Act) (l' : Array Bool) (k : wpAnyH P md ops Q S fuel l' a' w) (h : a = a' := by kernel_rfl) (hl : listed = l' := by kernel_rfl) : wpAnyH P md ops Q S fuel listed a w := by
  rw [h, hl]
  exact k
theorem actN {Q : Exit → Act → World → Prop} {a : Act} {w : World} (a' : Act) (k : Q .normal a' w) (h : a = a' := by kernel_rfl) : Q .normal a w := by
  rw [h]
  exact k
end Go.Proofs.YtmmkmkaannlkhaaGreatDoor
