/- Two arrays of counts, compared. -/
import Derived.Test.YtonpeiknoifdbabVecArr
namespace Go.Proofs.Ytonpeiknoifdbab
open Go.RowKit
set_option linter.unusedVariables false

theorem run_partArr (w : World) (Y : List Int) (k : Nat) (hk : k < Y.length) : (part 3 (arrC Y).toArray k).run Try.prog w = .ok (.int .i64 Y[k]) w := by
  have hc : (arrC Y)[k]? = some (Value.int .i64 Y[k]) := by simp [arrC, hk]
  simp [Sem.run_bind, part]
  rw [hc]
  rfl

theorem run_sizeInt (w : World) : (sizeOf 3).run Try.prog w = .ok 1 w := by
  obtain ⟨i, hi, hs⟩ : ∃ i, Try.prog.info? 3 = some i ∧ i.size = 1 := by
    have := int_size
    cases h : Try.prog.info? 3 with
    | none => rw [h] at this; simp at this
    | some i => rw [h] at this; exact ⟨i, rfl, by simpa using this⟩
  simp [sizeOf, typeInfo, hi, hs]

theorem eq_loop (d : Nat) (w : World) (X Y : List Int) (hx : X.length = 16) (hy : Y.length = 16) : ∀ ks : List Nat, (∀ k ∈ ks, k < 16) →
    (forIn ks ((none : Option Bool), ()) fun i (__s : Option Bool × Unit) => do
            let a ← part 3 (arrC X).toArray (i * 1)
            let b ← part 3 (arrC Y).toArray (i * 1)
            let c ← Op.equalIn (d + 1) 3 a b
            if (!c) = true then pure (ForInStep.done (some false, ())) else pure (ForInStep.yield (none, ()))).run Try.prog w = .ok (if ks.all (fun k => X.getD k 0 == Y.getD k 0) = true then (none, ()) else (some false, ())) w := by
  intro ks
  induction ks with
  | nil => intro _; rfl
  | cons k ks ih =>
    intro h
    have hk : k < 16 := h k (by simp)
    have ih' := ih (fun j hj => h j (by simp [hj]))
    simp only [Nat.mul_one] at ih' ⊢
    rw [List.forIn_cons]
    simp only [Sem.run_bind, run_partArr _ X k (by omega), run_partArr _ Y k (by omega), Result.andThen_ok, run_equalIn_int _ d 3 _ _ _ _ Try.underlying3]
    have e1 : X.getD k 0 = X[k]'(by omega) := by simp [show k < X.length by omega]
    have e2 : Y.getD k 0 = Y[k]'(by omega) := by simp [show k < Y.length by omega]
    rw [List.all_cons, e1, e2]
    cases hc : (X[k]'(by omega) == Y[k]'(by omega)) with
    | true =>
      simp only [Bool.not_true, Bool.false_eq_true, if_false, Sem.run_pure, Result.andThen_ok, Bool.true_and]
      exact ih'
    | false => simp
theorem same_all (X Y : List Int) (hx : X.length = 16) (hy : Y.length = 16) : (List.range' 0 16 1).all (fun k => X.getD k 0 == Y.getD k 0) = decide (X = Y) := by
  by_cases h : X = Y
  · subst h
    simp
  · rw [decide_eq_false h, List.all_eq_false]
    apply Classical.byContradiction
    intro hn
    apply h
    apply List.ext_getElem (by omega)
    intro k h1 h2
    apply Classical.byContradiction
    intro hne
    apply hn
    refine ⟨k, by rw [List.mem_range']; exact ⟨k, by omega, by omega⟩, ?_⟩
    simp [h1, h2, hne]

theorem run_equalArr (d : Nat) (w : World) (X Y : List Int) (hx : X.length = 16) (hy : Y.length = 16) : (Op.equalIn (d + 2) 68 (.agg (arrC X).toArray) (.agg (arrC Y).toArray)).run Try.prog w = .ok (decide (X = Y)) w := by
  rw [Op.equalIn]
  simp only [Sem.run_bind, run_underlying Try.underlying68, Result.andThen_ok, run_sizeInt]
  rw [Std.Legacy.Range.forIn_eq_forIn_range']
  have hl := eq_loop d w X Y hx hy (List.range' 0 16 1) (fun k hk => by rw [List.mem_range'] at hk; obtain ⟨j, h1, h2⟩ := hk; omega)
  rw [same_all X Y hx hy] at hl
  rw [show List.range' [:16].start [:16].size [:16].step = List.range' 0 16 1 from rfl, hl]
  by_cases h : X = Y
  · simp [h]
  · simp [h]
end Go.Proofs.Ytonpeiknoifdbab
