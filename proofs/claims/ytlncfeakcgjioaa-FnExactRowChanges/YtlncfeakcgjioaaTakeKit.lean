/- A step of a region that draws its order, in fewer words. -/
import Derived.Test.YtlncfeakcgjioaaInfo
import Derived.Deep.RegionHeld
namespace Go.Proofs.Ytlncfeakcgjioaa
open Go.RowKit
set_option linter.unusedVariables false

theorem tkH {P : Program} {md : Region.Mode} {ops : Array Oper} {Q : Exit → Act → World → Prop} {S : World → Prop} {fuel : Nat} {listed : Array Bool} {a : Act} {w : World} {oi : Oper} (i : Nat) (v : Value) (hi : ops[i]? = some oi) (hy : YieldsIf P ops S oi v a) (hS : S w)
    (h : wpAnyH P md ops Q S fuel (listed.setIfInBounds i true) (a.put oi.dst v) w) (hs : Region.noSelect ops = true := by kernel_rfl) (hf : Region.free md ops listed i = true := by kernel_rfl) (hr : (Region.ready md ops listed).contains i = true := by kernel_rfl)
    (hQ : ∀ c a w, Q (.panic c) (a.put oi.dst v) w → Q (.panic c) a w := by exact fun _ _ _ h => h) : wpAnyH P md ops Q S (fuel + 1) listed a w := wpAnyH_take hi hs hf hr hQ hy hS h
theorem tkS : (∀ {α : Type} {xs : List α} {i : Nat} (h : i < xs.toArray.size), xs.toArray[i] = xs[i]'(by simpa using h)) ∧ (∀ {α : Type} {a : α} {bs : List α} {i : Nat} (h : i + 1 < (a :: bs).length), (a :: bs)[i + 1] = bs[i]'(by simpa using h)) ∧ (∀ {α : Type} {a : α} {bs : List α} (h : 0 < (a :: bs).length), (a :: bs)[0] = a) ∧ (∀ {α : Type} (l : List α) (i : Nat) (a : α), l.toArray.setIfInBounds i a = (l.set i a).toArray) ∧ (∀ {α : Type} (a b : α) (bs : List α), (a :: bs).set 0 b = b :: bs) ∧ (∀ {α : Type} (a b : α) (bs : List α) (n : Nat), (a :: bs).set (n + 1) b = a :: bs.set n b) :=
  ⟨fun h => List.getElem_toArray h, fun h => List.getElem_cons_succ .., fun h => List.getElem_cons_zero .., fun l i a => List.setIfInBounds_toArray l i a, fun a b bs => rfl, fun a b bs n => rfl⟩
end Go.Proofs.Ytlncfeakcgjioaa
