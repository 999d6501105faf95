/- The laws' own functions over operations: the copy of one. The laws' own functions over operations: the copy of a list of them. Logs, plain facts: what says the same is valid alike. -/
import Derived.Deep.CutRange
import Derived.Deep.MidRow
import Derived.Test.YtmmkmkaannlkhaaGreatDoorQLedgerToLogFind
import Derived.Test.YtmmkmkaannlkhaaGreatDoorQLedClosedToUndoMath
namespace Go.Proofs.YtmmkmkaannlkhaaGreatDoor
open Go.RowKit
set_option linter.unusedVariables false

theorem range12 {w : World} {b : Nat} {v0 v1 v2 v3 v4 v5 v6 v7 v8 v9 v10 v11 : Value} (h0 : w.cell? ⟨b, 0, none⟩ = some v0) (h1 : w.cell? ⟨b, 1, none⟩ = some v1) (h2 : w.cell? ⟨b, 2, none⟩ = some v2) (h3 : w.cell? ⟨b, 3, none⟩ = some v3) (h4 : w.cell? ⟨b, 4, none⟩ = some v4) (h5 : w.cell? ⟨b, 5, none⟩ = some v5) (h6 : w.cell? ⟨b, 6, none⟩ = some v6) (h7 : w.cell? ⟨b, 7, none⟩ = some v7) (h8 : w.cell? ⟨b, 8, none⟩ = some v8) (h9 : w.cell? ⟨b, 9, none⟩ = some v9) (h10 : w.cell? ⟨b, 10, none⟩ = some v10) (h11 : w.cell? ⟨b, 11, none⟩ = some v11) : w.rangeAt b 0 [v0, v1, v2, v3, v4, v5, v6, v7, v8, v9, v10, v11] := by
  intro j v hj
  rw [Nat.zero_add]
  match j, hj with
  | 0, hj => simp at hj; subst hj; exact h0
  | 1, hj => simp at hj; subst hj; exact h1
  | 2, hj => simp at hj; subst hj; exact h2
  | 3, hj => simp at hj; subst hj; exact h3
  | 4, hj => simp at hj; subst hj; exact h4
  | 5, hj => simp at hj; subst hj; exact h5
  | 6, hj => simp at hj; subst hj; exact h6
  | 7, hj => simp at hj; subst hj; exact h7
  | 8, hj => simp at hj; subst hj; exact h8
  | 9, hj => simp at hj; subst hj; exact h9
  | 10, hj => simp at hj; subst hj; exact h10
  | 11, hj => simp at hj; subst hj; exact h11
  | n + 12, hj => simp at hj
theorem there12 {w : World} {b : Nat} (h0 : (w.cell? ⟨b, 0, none⟩).isSome = true) (h1 : (w.cell? ⟨b, 1, none⟩).isSome = true) (h2 : (w.cell? ⟨b, 2, none⟩).isSome = true) (h3 : (w.cell? ⟨b, 3, none⟩).isSome = true) (h4 : (w.cell? ⟨b, 4, none⟩).isSome = true) (h5 : (w.cell? ⟨b, 5, none⟩).isSome = true) (h6 : (w.cell? ⟨b, 6, none⟩).isSome = true) (h7 : (w.cell? ⟨b, 7, none⟩).isSome = true) (h8 : (w.cell? ⟨b, 8, none⟩).isSome = true) (h9 : (w.cell? ⟨b, 9, none⟩).isSome = true) (h10 : (w.cell? ⟨b, 10, none⟩).isSome = true) (h11 : (w.cell? ⟨b, 11, none⟩).isSome = true) (f0 : w.frozen? ⟨b, 0, none⟩ = false) (f1 : w.frozen? ⟨b, 1, none⟩ = false) (f2 : w.frozen? ⟨b, 2, none⟩ = false) (f3 : w.frozen? ⟨b, 3, none⟩ = false) (f4 : w.frozen? ⟨b, 4, none⟩ = false) (f5 : w.frozen? ⟨b, 5, none⟩ = false) (f6 : w.frozen? ⟨b, 6, none⟩ = false) (f7 : w.frozen? ⟨b, 7, none⟩ = false) (f8 : w.frozen? ⟨b, 8, none⟩ = false) (f9 : w.frozen? ⟨b, 9, none⟩ = false) (f10 : w.frozen? ⟨b, 10, none⟩ = false) (f11 : w.frozen? ⟨b, 11, none⟩ = false) : w.there b 0 12 := by
  intro j hj
  rw [Nat.zero_add]
  match j, hj with
  | 0, _ => exact ⟨h0, f0⟩
  | 1, _ => exact ⟨h1, f1⟩
  | 2, _ => exact ⟨h2, f2⟩
  | 3, _ => exact ⟨h3, f3⟩
  | 4, _ => exact ⟨h4, f4⟩
  | 5, _ => exact ⟨h5, f5⟩
  | 6, _ => exact ⟨h6, f6⟩
  | 7, _ => exact ⟨h7, f7⟩
  | 8, _ => exact ⟨h8, f8⟩
  | 9, _ => exact ⟨h9, f9⟩
  | 10, _ => exact ⟨h10, f10⟩
  | 11, _ => exact ⟨h11, f11⟩
  | n + 12, hj => omega
theorem below_setCellsO {B : Nat} {a : World} {b : Nat} (hb : B ≤ b) : ∀ (vs : List Value) (o : Nat) (w : World), Below B a w → Below B a (w.setCells b o vs) := by
  intro vs
  induction vs with
  | nil => intro o w h; exact h
  | cons v vs ih => intro o w h; exact ih _ _ (h.setCell (p := ⟨b, o, none⟩) hb v)
theorem grownBy_setCells (w : World) (b : Nat) : ∀ (vs : List Value) (o : Nat), w.grownBy (w.setCells b o vs) (some b) := by
  intro vs
  induction vs generalizing w with
  | nil => intro o; exact ⟨rfl, rfl, rfl, Nat.le_refl _, fun _ _ _ => rfl⟩
  | cons v vs ih => intro o; exact grownBy_trans (grownBy_set w b o v) (ih _ _)
theorem info12 : (Tryz.prog.info? 29).map (·.size) = some 12 := by kernel_rfl

end Go.Proofs.YtmmkmkaannlkhaaGreatDoor

namespace Go.Proofs.YtmmkmkaannlkhaaGreatDoor
open Go.RowKit
set_option linter.unusedVariables false

/-- Operations that say the same, one by one. -/
def SameL (M L : List Ov) : Prop := M.length = L.length ∧ ∀ k, k < L.length → (ovAt M k).same (ovAt L k)
/-- Cells written one behind the other. -/
def setAll : List Value → Nat → List Value → List Value
  | xs, _, [] => xs
  | xs, o, u :: us => setAll (xs.set o u) (o + 1) us
theorem setAll_len : ∀ (us : List Value) (xs : List Value) (o : Nat), (setAll xs o us).length = xs.length
  | [], _, _ => rfl
  | u :: us, xs, o => by rw [setAll, setAll_len us]; simp
theorem setAll_out : ∀ (us : List Value) (xs : List Value) (o j : Nat), (j < o ∨ o + us.length ≤ j) → (setAll xs o us)[j]? = xs[j]?
  | [], _, _, _, _ => rfl
  | u :: us, xs, o, j, h => by
    rw [setAll, setAll_out us _ _ _ (by simp at h; omega), List.getElem?_set_ne (by simp at h; omega)]
theorem setAll_in : ∀ (us : List Value) (xs : List Value) (o i : Nat), i < us.length → o + us.length ≤ xs.length → (setAll xs o us)[o + i]? = us[i]?
  | [], _, _, _, h, _ => absurd h (by simp)
  | u :: us, xs, o, i, h, hl => by
    rw [setAll]
    cases i with
    | zero =>
      rw [setAll_out us _ _ _ (.inl (by omega))]
      show (xs.set o u)[o]? = _
      rw [List.getElem?_set_self (by simp at hl; omega)]
      rfl
    | succ i =>
      rw [show o + (i + 1) = o + 1 + i by omega, setAll_in us _ _ i (by simpa using h) (by simp at hl ⊢; omega)]
      rfl
theorem owns_cells {B g : Nat} {e : TypeId} {s n c : Nat} : ∀ (us : List Value) (xs : List Value) (o : Nat) (w : World), w.ownsRow B e s (.slice (some ⟨g, 0, none⟩) n c) n xs → (w.setCells g o us).ownsRow B e s (.slice (some ⟨g, 0, none⟩) n c) n (setAll xs o us)
  | [], _, _, _, h => h
  | u :: us, xs, o, w, h => owns_cells us _ _ _ (World.ownsRow.stored h o u).1

/-- A row of n operations that the call owns in block g, the first of which are M; what these count lies in blocks of the call's own behind it. -/
structure RowO (w : World) (B g n : Nat) (M : List Ov) : Prop where
  row : ∃ xs, w.ownsRow B 29 12 (.slice (some ⟨g, 0, none⟩) n n) n xs ∧ ∀ j, j < M.length * 12 → xs[j]? = (rowCs M)[j]?
  deps : ∀ x ∈ M, Own 3 w (g + 1) x.dv (x.ds.map (Value.int .i64))
theorem RowO.on {w w' : World} {B g n : Nat} {M : List Ov} (h : RowO w B g n M) (hb : Below w.heap.size w w') : RowO w' B g n M := by
  obtain ⟨⟨xs, ho, hx⟩, hd⟩ := h
  exact ⟨⟨xs, owns_on ho hb (Nat.le_refl _), hx⟩, fun x hx => (hd x hx).below hb (Nat.le_refl _)⟩
theorem RowO.lt {w : World} {B g n : Nat} {M : List Ov} (h : RowO w B g n M) : B ≤ g ∧ g < w.heap.size := by
  obtain ⟨⟨xs, ho, _⟩, _⟩ := h
  exact World.ownsRow.lt ho g rfl
theorem RowO.there {w : World} {B g n : Nat} {M : List Ov} (h : RowO w B g n M) {k : Nat} (hk : k < n) : w.there g (k * 12) 12 := by
  obtain ⟨⟨xs, ho, _⟩, _⟩ := h
  have hl := ho.1
  intro j hj
  rw [World.ownsRow.cellAt ho _ (by omega), List.getElem?_eq_getElem (by omega)]
  exact ⟨rfl, World.ownsRow.frozenAt ho _⟩
theorem RowO.put {w : World} {B g n : Nat} {M : List Ov} (h : RowO w B g n M) (hn : M.length < n) (x : Ov) (hd : Own 3 w (g + 1) x.dv (x.ds.map (Value.int .i64))) : RowO (w.setCells g (M.length * 12) x.cs) B g n (M ++ [x]) := by
  have hlt := h.lt
  obtain ⟨⟨xs, ho, hx⟩, hm⟩ := h
  have hl := ho.1
  have l12 : x.cs.length = 12 := rfl
  refine ⟨⟨_, owns_cells x.cs xs _ w ho, fun j hj => ?_⟩, fun y hy => ?_⟩
  · rw [rowCs_app]
    have hr := rowCs_len M
    rw [List.length_append, List.length_singleton] at hj
    by_cases e : j < M.length * 12
    · rw [setAll_out _ _ _ _ (.inl e), List.getElem?_append_left (by omega)]
      exact hx j e
    · obtain ⟨i, rfl⟩ : ∃ i, j = M.length * 12 + i := ⟨j - M.length * 12, by omega⟩
      rw [setAll_in _ _ _ _ (by omega) (by omega), List.getElem?_append_right (by omega), hr, Nat.add_sub_cancel_left]
      simp [rowCs]
  · have k : ∀ y : Ov, Own 3 w (g + 1) y.dv (y.ds.map (Value.int .i64)) → Own 3 (w.setCells g (M.length * 12) x.cs) (g + 1) y.dv (y.ds.map (Value.int .i64)) := fun y h => h.apart (grownBy_setCells w g x.cs _) (fun kk hk => by cases hk; omega)
    rcases List.mem_append.1 hy with hy | hy
    · exact k y (hm y hy)
    · simp at hy; subst hy; exact k y hd
theorem RowO.rd {w : World} {B g : Nat} {M : List Ov} (h : RowO w B g M.length M) (hm : M.length ≤ maxLen) : RdO w.heap.size w (.slice (some ⟨g, 0, none⟩) M.length M.length) M := by
  have hlt := h.lt
  obtain ⟨⟨xs, ho, hx⟩, hd⟩ := h
  have hl := ho.1
  refine ⟨⟨_, _, rfl, Nat.le_refl _, hm, (fun e => by cases e), fun _ => ⟨g, 0, rfl, hlt.2, fun k hk => ?_⟩⟩, fun x hx => (hd x hx).rd⟩
  have cell : ∀ i, i < 12 → w.cell? ⟨g, k * 12 + i, none⟩ = (ovAt M k).cs[i]? := fun i hi => by
    rw [← rowCs_at M k i hk hi, ← hx _ (by omega), World.ownsRow.cellAt ho _ (by omega)]
  rw [Nat.zero_add]
  exact ⟨cell 0 (by omega), cell 1 (by omega), cell 2 (by omega), cell 3 (by omega), cell 4 (by omega), cell 5 (by omega), cell 6 (by omega), cell 7 (by omega), cell 8 (by omega), cell 9 (by omega), cell 10 (by omega), cell 11 (by omega)⟩

theorem set12 (w : World) (g o : Nat) (v0 v1 v2 v3 v4 v5 v6 v7 v8 v9 v10 v11 : Value) : w.setCells g o [v0, v1, v2, v3, v4, v5, v6, v7, v8, v9, v10, v11] = ((((((((((((w.setCell ⟨g, o, none⟩ v0).setCell ⟨g, o + 1, none⟩ v1).setCell ⟨g, o + 2, none⟩ v2).setCell ⟨g, o + 3, none⟩ v3).setCell ⟨g, o + 4, none⟩ v4).setCell ⟨g, o + 5, none⟩ v5).setCell ⟨g, o + 6, none⟩ v6).setCell ⟨g, o + 7, none⟩ v7).setCell ⟨g, o + 8, none⟩ v8).setCell ⟨g, o + 9, none⟩ v9).setCell ⟨g, o + 10, none⟩ v10).setCell ⟨g, o + 11, none⟩ v11) := rfl
theorem same_snoc {M L : List Ov} {x : Ov} {k : Nat} (hk : M.length = k) (hl : k < L.length) (h : ∀ j, j < k → (ovAt M j).same (ovAt L j)) (hx : x.same (ovAt L k)) : ∀ j, j < k + 1 → (ovAt (M ++ [x]) j).same (ovAt L j) := by
  intro j hj
  by_cases e : j = k
  · subst e
    have : ovAt (M ++ [x]) j = x := by
      unfold ovAt
      rw [List.getD_eq_getElem?_getD, List.getElem?_append_right (by omega), hk, Nat.sub_self]
      rfl
    rw [this]
    exact hx
  · have : ovAt (M ++ [x]) j = ovAt M j := by
      unfold ovAt
      rw [List.getD_eq_getElem?_getD, List.getElem?_append_left (by omega), ← List.getD_eq_getElem?_getD]
    rw [this]
    exact h j (by omega)

end Go.Proofs.YtmmkmkaannlkhaaGreatDoor

namespace Go.Proofs.YtmmkmkaannlkhaaGreatDoor
open Go.RowKit
set_option linter.unusedVariables false

theorem same_ok {x y : Ov} (h : x.same y) : x.ok = y.ok := by
  obtain ⟨h1, h2, h3, h4, h5, h6, h7, h8, h9, h10, h11, h12⟩ := h
  unfold Ov.ok
  rw [h1, h2, h3, h4, h5, h6, h7, h8, h9, h10, h11, h12]
theorem same_refl (x : Ov) : x.same x := ⟨rfl, rfl, rfl, rfl, rfl, rfl, rfl, rfl, rfl, rfl, rfl, rfl⟩
/-- Two lists say the same. -/
inductive SmL : List Ov → List Ov → Prop where
  | nil : SmL [] []
  | cons {x y : Ov} {M L : List Ov} : x.same y → SmL M L → SmL (x :: M) (y :: L)
theorem sm_of : ∀ (M L : List Ov), SameL M L → SmL M L
  | [], [], _ => .nil
  | [], y :: L, h => by have := h.1; simp at this
  | x :: M, [], h => by have := h.1; simp at this
  | x :: M, y :: L, h => .cons (h.2 0 (by simp)) (sm_of M L ⟨by have := h.1; simpa using this, fun k hk => h.2 (k + 1) (by simpa using hk)⟩)
theorem SmL.len {M L : List Ov} (h : SmL M L) : M.length = L.length := by
  induction h with
  | nil => rfl
  | cons _ _ ih => simp [ih]
theorem SmL.at {M L : List Ov} (h : SmL M L) : ∀ k, (ovAt M k).same (ovAt L k) := by
  induction h with
  | nil => intro k; exact same_refl _
  | cons hx _ ih =>
    intro k
    cases k with
    | zero => exact hx
    | succ k => exact ih k
theorem SmL.take {M L : List Ov} (h : SmL M L) : ∀ k, SmL (M.take k) (L.take k) := by
  induction h with
  | nil => intro k; simp; exact .nil
  | cons hx _ ih =>
    intro k
    cases k with
    | zero => exact .nil
    | succ k => exact .cons hx (ih k)
theorem SmL.byA {M L : List Ov} (h : SmL M L) (a : Nat) : SmL (byA M a) (byA L a) := by
  induction h with
  | nil => exact .nil
  | cons hx _ ih =>
    unfold Go.Proofs.YtmmkmkaannlkhaaGreatDoor.byA at ih ⊢
    simp only [List.filter_cons, hx.1]
    split
    · exact .cons hx ih
    · exact ih
theorem SmL.ts {M L : List Ov} (h : SmL M L) : tsOf M = tsOf L := by
  unfold tsOf
  generalize List.replicate 101 (0 : Int) = ts
  induction h generalizing ts with
  | nil => rfl
  | cons hx _ ih =>
    obtain ⟨h1, h2, h3, h4, h5, h6, _⟩ := hx
    simp only [List.foldl_cons, h5, h6]
    exact ih _
theorem SmL.cause {M L : List Ov} (h : SmL M L) {x y : Ov} (hxy : x.same y) (a : Nat) : causeOK M x a = causeOK L y a := by
  obtain ⟨h1, h2, h3, h4, _⟩ := hxy
  have hb := h.byA a
  have ha := hb.at (y.ds.getD a 0 - 1).toNat
  unfold causeOK
  rw [h1, h3, h4, hb.len, ha.1, ha.2.2.1]
theorem SmL.causes {M L : List Ov} (h : SmL M L) {x y : Ov} (hxy : x.same y) : causesB M x = causesB L y := by
  unfold causesB
  rw [show causeOK M x = causeOK L y from funext (h.cause hxy)]
theorem SmL.step {M L : List Ov} (h : SmL M L) (i : Nat) : stepI M i = stepI L i := by
  have ha := h.at i
  have hp := h.at (i - 1)
  have ht := h.take i
  unfold stepI nextB suitB
  rw [same_ok ha, ht.ts, (ht.byA _).len, ha.1, ha.2.1, ha.2.2.2.2.1, ha.2.2.2.2.2.1, hp.1]
theorem SmL.all {M L : List Ov} (h : SmL M L) {A B : List Ov} (hA : SmL A B) : A.all (causesB M) = B.all (causesB L) := by
  induction hA with
  | nil => rfl
  | cons hx _ ih => simp only [List.all_cons, h.causes hx, ih]
theorem logI_same {M L : List Ov} (h : SameL M L) : logI M = logI L := by
  have hs := sm_of M L h
  unfold logI
  rw [hs.len, show stepI M = stepI L from funext hs.step, hs.all hs]
end Go.Proofs.YtmmkmkaannlkhaaGreatDoor
