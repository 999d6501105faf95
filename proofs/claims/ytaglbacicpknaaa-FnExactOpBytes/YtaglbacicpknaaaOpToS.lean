/- The laws' own functions over operations: the copy of a list of them. -/
import Derived.Test.YtaglbacicpknaaaOpTo
import Derived.Test.YtaglbacicpknaaaLedCauses
namespace Go.Proofs.Ytaglbacicpknaaa
open Go.RowKit
set_option linter.unusedVariables false

/-- Operations that say the same, one by one. -/
def SameL (M L : List Ov) : Prop := M.length = L.length ∧ ∀ k, k < L.length → (ovAt M k).same (ovAt L k)
/-- Cells written one behind the other. -/
def setAll : List Value → Nat → List Value → List Value
  | xs, _, [] => xs
  | xs, o, u :: us => setAll (xs.set o u) (o + 1) us
theorem setAll_len : ∀ (us : List Value) (xs : List Value) (o : Nat), (setAll xs o us).length = xs.length
  | [], _, _ => rfl
  | u :: us, xs, o => by rw [setAll, setAll_len us]; simp
theorem setAll_out : ∀ (us : List Value) (xs : List Value) (o j : Nat), (j < o ∨ o + us.length ≤ j) → (setAll xs o us)[j]? = xs[j]?
  | [], _, _, _, _ => rfl
  | u :: us, xs, o, j, h => by
    rw [setAll, setAll_out us _ _ _ (by simp at h; omega), List.getElem?_set_ne (by simp at h; omega)]
theorem setAll_in : ∀ (us : List Value) (xs : List Value) (o i : Nat), i < us.length → o + us.length ≤ xs.length → (setAll xs o us)[o + i]? = us[i]?
  | [], _, _, _, h, _ => absurd h (by simp)
  | u :: us, xs, o, i, h, hl => by
    rw [setAll]
    cases i with
    | zero =>
      rw [setAll_out us _ _ _ (.inl (by omega))]
      show (xs.set o u)[o]? = _
      rw [List.getElem?_set_self (by simp at hl; omega)]
      rfl
    | succ i =>
      rw [show o + (i + 1) = o + 1 + i by omega, setAll_in us _ _ i (by simpa using h) (by simp at hl ⊢; omega)]
      rfl
theorem owns_cells {B g : Nat} {e : TypeId} {s n c : Nat} : ∀ (us : List Value) (xs : List Value) (o : Nat) (w : World), w.ownsRow B e s (.slice (some ⟨g, 0, none⟩) n c) n xs → (w.setCells g o us).ownsRow B e s (.slice (some ⟨g, 0, none⟩) n c) n (setAll xs o us)
  | [], _, _, _, h => h
  | u :: us, xs, o, w, h => owns_cells us _ _ _ (World.ownsRow.stored h o u).1

/-- A row of n operations that the call owns in block g, the first of which are M; what these count lies in blocks of the call's own behind it. -/
structure RowO (w : World) (B g n : Nat) (M : List Ov) : Prop where
  row : ∃ xs, w.ownsRow B 36 12 (.slice (some ⟨g, 0, none⟩) n n) n xs ∧ ∀ j, j < M.length * 12 → xs[j]? = (rowCs M)[j]?
  deps : ∀ x ∈ M, Own 3 w (g + 1) x.dv (x.ds.map (Value.int .i64))
theorem RowO.on {w w' : World} {B g n : Nat} {M : List Ov} (h : RowO w B g n M) (hb : Below w.heap.size w w') : RowO w' B g n M := by
  obtain ⟨⟨xs, ho, hx⟩, hd⟩ := h
  exact ⟨⟨xs, owns_on ho hb (Nat.le_refl _), hx⟩, fun x hx => (hd x hx).below hb (Nat.le_refl _)⟩
theorem RowO.lt {w : World} {B g n : Nat} {M : List Ov} (h : RowO w B g n M) : B ≤ g ∧ g < w.heap.size := by
  obtain ⟨⟨xs, ho, _⟩, _⟩ := h
  exact World.ownsRow.lt ho g rfl
theorem RowO.there {w : World} {B g n : Nat} {M : List Ov} (h : RowO w B g n M) {k : Nat} (hk : k < n) : w.there g (k * 12) 12 := by
  obtain ⟨⟨xs, ho, _⟩, _⟩ := h
  have hl := ho.1
  intro j hj
  rw [World.ownsRow.cellAt ho _ (by omega), List.getElem?_eq_getElem (by omega)]
  exact ⟨rfl, World.ownsRow.frozenAt ho _⟩
theorem RowO.put {w : World} {B g n : Nat} {M : List Ov} (h : RowO w B g n M) (hn : M.length < n) (x : Ov) (hd : Own 3 w (g + 1) x.dv (x.ds.map (Value.int .i64))) : RowO (w.setCells g (M.length * 12) x.cs) B g n (M ++ [x]) := by
  have hlt := h.lt
  obtain ⟨⟨xs, ho, hx⟩, hm⟩ := h
  have hl := ho.1
  have l12 : x.cs.length = 12 := rfl
  refine ⟨⟨_, owns_cells x.cs xs _ w ho, fun j hj => ?_⟩, fun y hy => ?_⟩
  · rw [rowCs_app]
    have hr := rowCs_len M
    rw [List.length_append, List.length_singleton] at hj
    by_cases e : j < M.length * 12
    · rw [setAll_out _ _ _ _ (.inl e), List.getElem?_append_left (by omega)]
      exact hx j e
    · obtain ⟨i, rfl⟩ : ∃ i, j = M.length * 12 + i := ⟨j - M.length * 12, by omega⟩
      rw [setAll_in _ _ _ _ (by omega) (by omega), List.getElem?_append_right (by omega), hr, Nat.add_sub_cancel_left]
      simp [rowCs]
  · have k : ∀ y : Ov, Own 3 w (g + 1) y.dv (y.ds.map (Value.int .i64)) → Own 3 (w.setCells g (M.length * 12) x.cs) (g + 1) y.dv (y.ds.map (Value.int .i64)) := fun y h => h.apart (grownBy_setCells w g x.cs _) (fun kk hk => by cases hk; omega)
    rcases List.mem_append.1 hy with hy | hy
    · exact k y (hm y hy)
    · simp at hy; subst hy; exact k y hd
theorem RowO.rd {w : World} {B g : Nat} {M : List Ov} (h : RowO w B g M.length M) (hm : M.length ≤ maxLen) : RdO w.heap.size w (.slice (some ⟨g, 0, none⟩) M.length M.length) M := by
  have hlt := h.lt
  obtain ⟨⟨xs, ho, hx⟩, hd⟩ := h
  have hl := ho.1
  refine ⟨⟨_, _, rfl, Nat.le_refl _, hm, (fun e => by cases e), fun _ => ⟨g, 0, rfl, hlt.2, fun k hk => ?_⟩⟩, fun x hx => (hd x hx).rd⟩
  have cell : ∀ i, i < 12 → w.cell? ⟨g, k * 12 + i, none⟩ = (ovAt M k).cs[i]? := fun i hi => by
    rw [← rowCs_at M k i hk hi, ← hx _ (by omega), World.ownsRow.cellAt ho _ (by omega)]
  rw [Nat.zero_add]
  exact ⟨cell 0 (by omega), cell 1 (by omega), cell 2 (by omega), cell 3 (by omega), cell 4 (by omega), cell 5 (by omega), cell 6 (by omega), cell 7 (by omega), cell 8 (by omega), cell 9 (by omega), cell 10 (by omega), cell 11 (by omega)⟩

theorem set12 (w : World) (g o : Nat) (v0 v1 v2 v3 v4 v5 v6 v7 v8 v9 v10 v11 : Value) : w.setCells g o [v0, v1, v2, v3, v4, v5, v6, v7, v8, v9, v10, v11] = ((((((((((((w.setCell ⟨g, o, none⟩ v0).setCell ⟨g, o + 1, none⟩ v1).setCell ⟨g, o + 2, none⟩ v2).setCell ⟨g, o + 3, none⟩ v3).setCell ⟨g, o + 4, none⟩ v4).setCell ⟨g, o + 5, none⟩ v5).setCell ⟨g, o + 6, none⟩ v6).setCell ⟨g, o + 7, none⟩ v7).setCell ⟨g, o + 8, none⟩ v8).setCell ⟨g, o + 9, none⟩ v9).setCell ⟨g, o + 10, none⟩ v10).setCell ⟨g, o + 11, none⟩ v11) := rfl
theorem same_snoc {M L : List Ov} {x : Ov} {k : Nat} (hk : M.length = k) (hl : k < L.length) (h : ∀ j, j < k → (ovAt M j).same (ovAt L j)) (hx : x.same (ovAt L k)) : ∀ j, j < k + 1 → (ovAt (M ++ [x]) j).same (ovAt L j) := by
  intro j hj
  by_cases e : j = k
  · subst e
    have : ovAt (M ++ [x]) j = x := by
      unfold ovAt
      rw [List.getD_eq_getElem?_getD, List.getElem?_append_right (by omega), hk, Nat.sub_self]
      rfl
    rw [this]
    exact hx
  · have : ovAt (M ++ [x]) j = ovAt M j := by
      unfold ovAt
      rw [List.getD_eq_getElem?_getD, List.getElem?_append_left (by omega), ← List.getD_eq_getElem?_getD]
    rw [this]
    exact h j (by omega)

end Go.Proofs.Ytaglbacicpknaaa
