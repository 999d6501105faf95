/- Two arrays of eight bytes, compared. -/
import Derived.Test.YtnomplfnblmciaaSealEight
namespace Go.Proofs.Ytnomplfnblmciaa
open Go.RowKit
set_option linter.unusedVariables false

theorem u8_size : (Try.prog.info? 5).map (·.size) = some 1 := by kernel_rfl
theorem run_part8 (w : World) (Y : List Int) (k : Nat) (hk : k < Y.length) : (part 5 (arr8 Y).toArray k).run Try.prog w = .ok (.int .u8 Y[k]) w := by
  have hc : (arr8 Y)[k]? = some (Value.int .u8 Y[k]) := by simp [arr8, hk]
  simp [Sem.run_bind, part]
  rw [hc]
  rfl
theorem run_sizeU8 (w : World) : (sizeOf 5).run Try.prog w = .ok 1 w := by
  obtain ⟨i, hi, hs⟩ : ∃ i, Try.prog.info? 5 = some i ∧ i.size = 1 := by
    have := u8_size
    cases h : Try.prog.info? 5 with
    | none => rw [h] at this; simp at this
    | some i => rw [h] at this; exact ⟨i, rfl, by simpa using this⟩
  simp [sizeOf, typeInfo, hi, hs]
theorem eq_loop8 (d : Nat) (w : World) (X Y : List Int) (hx : X.length = 8) (hy : Y.length = 8) : ∀ ks : List Nat, (∀ k ∈ ks, k < 8) →
    (forIn ks ((none : Option Bool), ()) fun i (__s : Option Bool × Unit) => do
            let a ← part 5 (arr8 X).toArray (i * 1)
            let b ← part 5 (arr8 Y).toArray (i * 1)
            let c ← Op.equalIn (d + 1) 5 a b
            if (!c) = true then pure (ForInStep.done (some false, ())) else pure (ForInStep.yield (none, ()))).run Try.prog w = .ok (if ks.all (fun k => X.getD k 0 == Y.getD k 0) = true then (none, ()) else (some false, ())) w := by
  intro ks
  induction ks with
  | nil => intro _; rfl
  | cons k ks ih =>
    intro h
    have hk : k < 8 := h k (by simp)
    have ih' := ih (fun j hj => h j (by simp [hj]))
    simp only [Nat.mul_one] at ih' ⊢
    rw [List.forIn_cons]
    simp only [Sem.run_bind, run_part8 _ X k (by omega), run_part8 _ Y k (by omega), Result.andThen_ok, run_equalIn_int _ d 5 _ _ _ _ Try.underlying5]
    have e1 : X.getD k 0 = X[k]'(by omega) := by simp [show k < X.length by omega]
    have e2 : Y.getD k 0 = Y[k]'(by omega) := by simp [show k < Y.length by omega]
    rw [List.all_cons, e1, e2]
    cases hc : (X[k]'(by omega) == Y[k]'(by omega)) with
    | true =>
      simp only [Bool.not_true, Bool.false_eq_true, if_false, Sem.run_pure, Result.andThen_ok, Bool.true_and]
      exact ih'
    | false => simp
theorem same_all8 (X Y : List Int) (hx : X.length = 8) (hy : Y.length = 8) : (List.range' 0 8 1).all (fun k => X.getD k 0 == Y.getD k 0) = decide (X = Y) := by
  by_cases h : X = Y
  · subst h
    simp
  · rw [decide_eq_false h, List.all_eq_false]
    apply Classical.byContradiction
    intro hn
    apply h
    apply List.ext_getElem (by omega)
    intro k h1 h2
    apply Classical.byContradiction
    intro hne
    apply hn
    refine ⟨k, by rw [List.mem_range']; exact ⟨k, by omega, by omega⟩, ?_⟩
    simp [h1, h2, hne]
theorem run_equal8 (d : Nat) (w : World) (X Y : List Int) (hx : X.length = 8) (hy : Y.length = 8) : (Op.equalIn (d + 2) 41 (.agg (arr8 X).toArray) (.agg (arr8 Y).toArray)).run Try.prog w = .ok (decide (X = Y)) w := by
  rw [Op.equalIn]
  simp only [Sem.run_bind, run_underlying Try.underlying41, Result.andThen_ok, run_sizeU8]
  rw [Std.Legacy.Range.forIn_eq_forIn_range']
  have hl := eq_loop8 d w X Y hx hy (List.range' 0 8 1) (fun k hk => by rw [List.mem_range'] at hk; obtain ⟨j, h1, h2⟩ := hk; omega)
  rw [same_all8 X Y hx hy] at hl
  rw [show List.range' [:8].start [:8].size [:8].step = List.range' 0 8 1 from rfl, hl]
  by_cases h : X = Y
  · simp [h]
  · simp [h]
end Go.Proofs.Ytnomplfnblmciaa
