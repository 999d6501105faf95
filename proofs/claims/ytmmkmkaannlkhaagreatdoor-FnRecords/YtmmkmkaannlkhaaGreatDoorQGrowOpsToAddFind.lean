/- slices.Grow of no operations: room for n. The ledger's all: the operations of all actors, one behind the other. What a vector counts of a valid log: plain facts. LogAdd: plain facts of a ledger's operations in their order, and of one that is put. The specification's l08Insert. LogAdd: what the specification's finding in the log and among what waits tells, as plain facts. -/
import Derived.Lib.AppendZerosOnto
import Derived.Laws.AppendOwnNone
import Derived.Test.YtmmkmkaannlkhaaGreatDoorQMarkOpsToCopyOps
import Derived.Test.YtmmkmkaannlkhaaGreatDoorQLedClosedToUndoMath
import Derived.Test.YtmmkmkaannlkhaaGreatDoorQLedgerToLogFind
import Derived.Test.YtmmkmkaannlkhaaGreatDoorQOpNumsToRdCut
namespace Go.Proofs.YtmmkmkaannlkhaaGreatDoor
open Go.RowKit
set_option linter.unusedVariables false

end Go.Proofs.YtmmkmkaannlkhaaGreatDoor

namespace Go.Proofs.YtmmkmkaannlkhaaGreatDoor
open Go.RowKit
set_option linter.unusedVariables false

/-- The operations of the actors below k, one behind the other. -/
def allK (P : List Ov) : Nat → List Ov
  | 0 => []
  | k + 1 => allK P k ++ byA P k
theorem allK_mem {P : List Ov} : ∀ {k : Nat} {x : Ov}, x ∈ allK P k → x ∈ P
  | 0, x, h => absurd h (by simp [allK])
  | k + 1, x, h => by
    rw [allK] at h
    rcases List.mem_append.1 h with h | h
    · exact allK_mem h
    · exact (List.mem_filter.1 h).1
theorem allK_len (P : List Ov) : ∀ k : Nat, (allK P k).length = (P.filter fun x => decide (0 ≤ x.a ∧ x.a < (k : Int))).length
  | 0 => by
    have : P.filter (fun x => decide (0 ≤ x.a ∧ x.a < ((0 : Nat) : Int))) = [] := by
      rw [List.filter_eq_nil_iff]
      intro x _
      simp
    rw [this]
    rfl
  | k + 1 => by
    rw [allK, List.length_append, allK_len P k]
    unfold byA
    induction P with
    | nil => rfl
    | cons x P ih =>
      simp only [List.filter_cons]
      by_cases h1 : 0 ≤ x.a ∧ x.a < (k : Int)
      · have h2 : ¬ x.a = (k : Int) := by omega
        have h3 : 0 ≤ x.a ∧ x.a < ((k + 1 : Nat) : Int) := by omega
        rw [if_pos (decide_eq_true h1), if_neg (by rw [decide_eq_false h2]; exact Bool.false_ne_true), if_pos (decide_eq_true h3), List.length_cons, List.length_cons]
        omega
      · by_cases h2 : x.a = (k : Int)
        · have h3 : 0 ≤ x.a ∧ x.a < ((k + 1 : Nat) : Int) := by omega
          rw [if_neg (by rw [decide_eq_false h1]; exact Bool.false_ne_true), if_pos (decide_eq_true h2), if_pos (decide_eq_true h3), List.length_cons, List.length_cons]
          omega
        · have h3 : ¬ (0 ≤ x.a ∧ x.a < ((k + 1 : Nat) : Int)) := by omega
          rw [if_neg (by rw [decide_eq_false h1]; exact Bool.false_ne_true), if_neg (by rw [decide_eq_false h2]; exact Bool.false_ne_true), if_neg (by rw [decide_eq_false h3]; exact Bool.false_ne_true)]
          omega
theorem allK_le (P : List Ov) (k : Nat) : (allK P k).length ≤ P.length := by rw [allK_len]; exact List.length_filter_le _ _
theorem rowCs_one {M : List Ov} (h : ∀ x ∈ M, x.dv.oneCell' = true) : ∀ u ∈ rowCs M, u.oneCell' = true := by
  intro u hu
  unfold rowCs at hu
  rw [List.mem_flatten] at hu
  obtain ⟨l, hl, hu⟩ := hu
  obtain ⟨x, hx, rfl⟩ := List.mem_map.1 hl
  exact cs_one x (h x hx) u hu

end Go.Proofs.YtmmkmkaannlkhaaGreatDoor

namespace Go.Proofs.YtmmkmkaannlkhaaGreatDoor
open Go.RowKit
set_option linter.unusedVariables false

/-- Of the actors below k the first operations, as many as the vector counts. -/
def cutK (ys : List Int) (L : List Ov) : Nat → List Ov
  | 0 => []
  | k + 1 => cutK ys L k ++ (byA L k).take (ys.getD k 0).toNat
theorem cutK_mem {ys : List Int} {L : List Ov} : ∀ {k : Nat} {x : Ov}, x ∈ cutK ys L k → x ∈ L
  | 0, x, h => absurd h (by simp [cutK])
  | k + 1, x, h => by
    rw [cutK] at h
    rcases List.mem_append.1 h with h | h
    · exact cutK_mem h
    · exact (List.mem_filter.1 (List.mem_of_mem_take h)).1
theorem cutK_len (ys : List Int) (L : List Ov) : ∀ k, (cutK ys L k).length ≤ (allK L k).length
  | 0 => Nat.le_refl _
  | k + 1 => by
    have := cutK_len ys L k
    rw [cutK, allK, List.length_append, List.length_append, List.length_take]
    omega
theorem byA_cut (ys : List Int) (L : List Ov) (a : Nat) : ∀ k, byA (cutK ys L k) a = if a < k then (byA L a).take (ys.getD a 0).toNat else []
  | 0 => by rw [if_neg (by omega)]; rfl
  | k + 1 => by
    rw [cutK, byA_app, byA_cut ys L a k]
    by_cases e : a = k
    · subst e
      rw [if_neg (by omega), if_pos (by omega), List.nil_append]
      exact byA_self (L := L) (fun x hx => byA_all (List.mem_of_mem_take hx))
    · rw [byA_other e (fun x hx => byA_all (List.mem_of_mem_take hx)), List.append_nil]
      by_cases l : a < k
      · rw [if_pos l, if_pos (by omega)]
      · rw [if_neg l, if_neg (by omega)]
theorem allK_cut (ys : List Int) (L : List Ov) : ∀ k, k ≤ 16 → allK (cutK ys L 16) k = cutK ys L k
  | 0, _ => rfl
  | k + 1, h => by
    rw [allK, allK_cut ys L k (by omega), byA_cut ys L k 16, if_pos (by omega)]
    rfl

theorem allK_filter {L : List Ov} (hs : L.Pairwise (fun x y => x.a ≤ y.a)) (ha : ∀ x ∈ L, 0 ≤ x.a) : ∀ k : Nat, allK L k = L.filter fun x => decide (x.a < (k : Int))
  | 0 => by
    symm
    rw [allK, List.filter_eq_nil_iff]
    intro x hx
    have := ha x hx
    simp
    omega
  | k + 1 => by
    rw [allK, allK_filter hs ha k]
    have h3 := split3 (k : Int) L hs
    have e : L.filter (fun x => decide (x.a < ((k + 1 : Nat) : Int))) = (L.filter (fun x => decide (x.a < (k : Int))) ++ (L.filter (fun x => decide (x.a = (k : Int))) ++ L.filter (fun x => decide ((k : Int) < x.a)))).filter (fun x => decide (x.a < ((k + 1 : Nat) : Int))) := by rw [← h3]
    rw [e, List.filter_append, List.filter_append]
    have e1 : (L.filter (fun x => decide (x.a < (k : Int)))).filter (fun x => decide (x.a < ((k + 1 : Nat) : Int))) = L.filter (fun x => decide (x.a < (k : Int))) := by
      rw [List.filter_eq_self]
      intro x hx
      have := (List.mem_filter.1 hx).2
      simp at this ⊢
      omega
    have e2 : (L.filter (fun x => decide (x.a = (k : Int)))).filter (fun x => decide (x.a < ((k + 1 : Nat) : Int))) = byA L k := by
      unfold byA
      rw [List.filter_eq_self]
      intro x hx
      have := (List.mem_filter.1 hx).2
      simp at this ⊢
      omega
    have e3 : (L.filter (fun x => decide ((k : Int) < x.a))).filter (fun x => decide (x.a < ((k + 1 : Nat) : Int))) = [] := by
      rw [List.filter_eq_nil_iff]
      intro x hx
      have := (List.mem_filter.1 hx).2
      simp at this ⊢
      omega
    rw [e1, e2, e3, List.append_nil]
theorem allK_self {L : List Ov} (h : ∀ i, i < L.length → stepN L i = true) (ha : ∀ x ∈ L, 0 ≤ x.a ∧ x.a < 16) : allK L 16 = L := by
  rw [allK_filter (sorted_of h) (fun x hx => (ha x hx).1), List.filter_eq_self]
  intro x hx
  exact decide_eq_true (ha x hx).2
theorem filter_take (n : Int) : ∀ (M : List Ov) (o : Nat), (∀ i, i < M.length → (ovAt M i).s = ((o + i : Nat) : Int) + 1) → M.filter (fun x => decide (x.s ≤ n)) = M.take (n.toNat - o)
  | [], o, _ => by simp
  | x :: M, o, h => by
    have h0 : x.s = ((o : Nat) : Int) + 1 := h 0 (by simp)
    have ih := filter_take n M (o + 1) (fun i hi => by
      have := h (i + 1) (by simpa using hi)
      rw [show o + 1 + i = o + (i + 1) by omega]
      exact this)
    rw [List.filter_cons, ih]
    by_cases c : x.s ≤ n
    · rw [if_pos (decide_eq_true c), show n.toNat - o = (n.toNat - (o + 1)) + 1 by omega, List.take_succ_cons]
    · rw [if_neg (by rw [decide_eq_false c]; exact Bool.false_ne_true), show n.toNat - o = 0 by omega, show n.toNat - (o + 1) = 0 by omega]
      rfl
/-- What a vector counts. -/
def countL (ys : List Int) (L : List Ov) : List Ov := L.filter fun x => decide (x.s ≤ ys.getD x.a.toNat 0)
theorem countL_snoc (ys : List Int) (L : List Ov) (x : Ov) : countL ys (L ++ [x]) = if x.s ≤ ys.getD x.a.toNat 0 then countL ys L ++ [x] else countL ys L := by
  unfold countL
  rw [List.filter_append]
  by_cases h : x.s ≤ ys.getD x.a.toNat 0
  · rw [if_pos h, List.filter_cons, if_pos (decide_eq_true h), List.filter_nil]
  · rw [if_neg h, List.filter_cons, if_neg (by rw [decide_eq_false h]; exact Bool.false_ne_true), List.filter_nil, List.append_nil]
theorem countL_cut {L : List Ov} (h : ∀ i, i < L.length → stepN L i = true) (ha : ∀ x ∈ L, 0 ≤ x.a ∧ x.a < 16) (ys : List Int) : countL ys L = cutK ys L 16 := by
  have key : ∀ k, (allK L k).filter (fun x => decide (x.s ≤ ys.getD x.a.toNat 0)) = cutK ys L k := by
    intro k
    induction k with
    | zero => rfl
    | succ k ih =>
      rw [allK, cutK, List.filter_append, ih]
      congr 1
      have e : (byA L k).filter (fun x => decide (x.s ≤ ys.getD x.a.toNat 0)) = (byA L k).filter (fun x => decide (x.s ≤ ys.getD k 0)) := by
        apply List.filter_congr
        intro x hx
        rw [byA_all hx, Int.toNat_natCast]
      have hs := seq_at h k L.length (Nat.le_refl _)
      rw [List.take_length] at hs
      rw [e, filter_take (ys.getD k 0) (byA L k) 0 (fun i hi => by rw [Nat.zero_add]; exact hs i hi), Nat.sub_zero]
  have := key 16
  rw [allK_self h ha] at this
  exact this
/-- A vector counts no less than another one. -/
def covB (ys ds : List Int) : Bool := (List.range 16).all fun a => decide (ds.getD a 0 ≤ ys.getD a 0)
theorem covB_iff (ys ds : List Int) : covB ys ds = true ↔ ∀ a, a < 16 → ds.getD a 0 ≤ ys.getD a 0 := by
  unfold covB
  rw [List.all_eq_true]
  exact ⟨fun h a ha => of_decide_eq_true (h a (List.mem_range.2 ha)), fun h a ha => decide_eq_true (h a (List.mem_range.1 ha))⟩
theorem cut_cause {L : List Ov} {ys : List Int} (hys : ∀ a, a < 16 → 0 ≤ ys.getD a 0 ∧ ys.getD a 0 ≤ ((byA L a).length : Int)) {x : Ov} (hx : causesB L x = true) (hd : ∀ a, a < 16 → 0 ≤ x.ds.getD a 0) : causesB (cutK ys L 16) x = covB ys x.ds := by
  unfold causesB at hx ⊢
  rw [List.all_eq_true] at hx
  unfold covB
  apply Bool.eq_iff_iff.2
  rw [List.all_eq_true, List.all_eq_true]
  have key : ∀ a, a < 16 → causeOK (cutK ys L 16) x a = decide (x.ds.getD a 0 ≤ ys.getD a 0) := by
    intro a ha
    have h1 := hx a (List.mem_range.2 ha)
    have h2 := hys a ha
    have h3 := hd a ha
    unfold causeOK at h1 ⊢
    rw [byA_cut ys L a 16, if_pos ha]
    rw [Bool.and_eq_true, Bool.or_eq_true, decide_eq_true_eq, decide_eq_true_eq] at h1
    have hl : ((byA L a).take (ys.getD a 0).toNat).length = (ys.getD a 0).toNat := by rw [List.length_take]; omega
    rw [hl, show (((ys.getD a 0).toNat : Nat) : Int) = ys.getD a 0 by omega]
    by_cases c : x.ds.getD a 0 ≤ ys.getD a 0
    · rw [decide_eq_true c, Bool.true_and]
      by_cases z : x.ds.getD a 0 ≤ 0
      · rw [decide_eq_true z, Bool.true_or]
      · rw [decide_eq_false z, Bool.false_or]
        have e : ovAt ((byA L a).take (ys.getD a 0).toNat) (x.ds.getD a 0 - 1).toNat = ovAt (byA L a) (x.ds.getD a 0 - 1).toNat := ovAt_take (by omega) (by omega)
        rw [e]
        exact h1.2.resolve_left z
    · rw [decide_eq_false c, Bool.false_and]
  exact ⟨fun h a ha => by rw [← key a (List.mem_range.1 ha)]; exact h a ha, fun h a ha => by rw [key a (List.mem_range.1 ha)]; exact h a ha⟩
theorem cut_closed {L : List Ov} {ys : List Int} (hys : ∀ a, a < 16 → 0 ≤ ys.getD a 0 ∧ ys.getD a 0 ≤ ((byA L a).length : Int)) (hx : ∀ x ∈ L, causesB L x = true) (hd : ∀ x ∈ L, ∀ a, a < 16 → 0 ≤ x.ds.getD a 0) : (cutK ys L 16).all (causesB (cutK ys L 16)) = (cutK ys L 16).all (fun x => covB ys x.ds) := by
  apply Bool.eq_iff_iff.2
  rw [List.all_eq_true, List.all_eq_true]
  exact ⟨fun h x hm => by rw [← cut_cause hys (hx x (cutK_mem hm)) (hd x (cutK_mem hm))]; exact h x hm, fun h x hm => by rw [cut_cause hys (hx x (cutK_mem hm)) (hd x (cutK_mem hm))]; exact h x hm⟩
end Go.Proofs.YtmmkmkaannlkhaaGreatDoor

namespace Go.Proofs.YtmmkmkaannlkhaaGreatDoor
open Go.RowKit
set_option linter.unusedVariables false

theorem byA_allK (P : List Ov) (a : Nat) : ∀ k, byA (allK P k) a = if a < k then byA P a else []
  | 0 => by rw [if_neg (by omega)]; rfl
  | k + 1 => by
    rw [allK, byA_app, byA_allK P a k]
    by_cases e : a = k
    · subst e
      rw [if_neg (by omega), if_pos (by omega), List.nil_append]
      exact byA_self (L := P) (fun x hx => byA_all hx)
    · rw [byA_other e (fun x hx => byA_all hx), List.append_nil]
      by_cases l : a < k
      · rw [if_pos l, if_pos (by omega)]
      · rw [if_neg l, if_neg (by omega)]
/-- One that is put stands behind all of its actor, and ahead of the later actors'. -/
theorem allK_put (P : List Ov) (x : Ov) (j : Nat) (hj : x.a = (j : Int)) : ∀ k, allK (P ++ [x]) k = if j < k then allK P (j + 1) ++ x :: (allK P k).drop (allK P (j + 1)).length else allK P k
  | 0 => by rw [if_neg (by omega)]; rfl
  | k + 1 => by
    rw [allK, allK_put P x j hj k, byA_snoc, hj]
    by_cases e : j = k
    · subst e
      rw [if_neg (by omega), if_pos rfl, if_pos (by omega), List.drop_length, allK, List.append_assoc]
    · rw [if_neg (by omega : ¬ ((j : Int) = (k : Int)))]
      by_cases l : j < k
      · rw [if_pos l, if_pos (by omega), List.append_assoc, List.cons_append]
        congr 2
        have hle : (allK P (j + 1)).length ≤ (allK P k).length := by
          have mono : ∀ a b, a ≤ b → (allK P a).length ≤ (allK P b).length := by
            intro a b hab
            induction hab with
            | refl => exact Nat.le_refl _
            | step _ ih =>
              rw [allK, List.length_append]
              omega
          exact mono _ _ (by omega)
        rw [show allK P (k + 1) = allK P k ++ byA P k from rfl, List.drop_append_of_le_length hle]
      · rw [if_neg l, if_neg (by omega)]
        rfl
theorem causes_byA {P Q : List Ov} (h : ∀ a, a < 16 → byA P a = byA Q a) (x : Ov) : causesB P x = causesB Q x := by
  unfold causesB
  rw [Bool.eq_iff_iff, List.all_eq_true, List.all_eq_true]
  refine forall_congr' fun a => forall_congr' fun ha => ?_
  unfold causeOK
  rw [h a (List.mem_range.1 ha)]
theorem causes_allK (P : List Ov) (x : Ov) : causesB (allK P 16) x = causesB P x := causes_byA (fun a ha => by rw [byA_allK, if_pos ha]) x
theorem tsOf_last {j : Nat} (hj : j < 101) (P : List Ov) : ((∀ y ∈ P, y.o.toNat ≠ j) ∧ (tsOf P).getD j 0 = 0) ∨ ∃ y ∈ P, y.o.toNat = j ∧ (tsOf P).getD j 0 = thOf y.k := by
  have key : ∀ R : List Ov, ((∀ y ∈ R.reverse, y.o.toNat ≠ j) ∧ (tsOf R.reverse).getD j 0 = 0) ∨ ∃ y ∈ R.reverse, y.o.toNat = j ∧ (tsOf R.reverse).getD j 0 = thOf y.k := by
    intro R
    induction R with
    | nil =>
      refine .inl ⟨fun y hy => absurd hy (by simp), ?_⟩
      show (List.replicate 101 (0 : Int)).getD j 0 = 0
      rw [List.getD_eq_getElem?_getD, List.getElem?_replicate, if_pos hj]
      rfl
    | cons x R ih =>
      have hl := tsOf_len R.reverse
      rw [List.reverse_cons, tsOf_snoc]
      by_cases e : x.o.toNat = j
      · refine .inr ⟨x, by simp, e, ?_⟩
        rw [List.getD_eq_getElem?_getD, e, List.getElem?_set_self (by omega)]
        rfl
      · have e2 : ((tsOf R.reverse).set x.o.toNat (thOf x.k)).getD j 0 = (tsOf R.reverse).getD j 0 := by
          rw [List.getD_eq_getElem?_getD, List.getD_eq_getElem?_getD, List.getElem?_set_ne e]
        rw [e2]
        rcases ih with ⟨h1, h2⟩ | ⟨y, h1, h2, h3⟩
        · refine .inl ⟨fun y hy => ?_, h2⟩
          rcases List.mem_append.1 hy with hy | hy
          · exact h1 y hy
          · rw [List.mem_singleton] at hy
            rw [hy]
            exact e
        · exact .inr ⟨y, List.mem_append_left _ h1, h2, h3⟩
  have := key P.reverse
  rwa [List.reverse_reverse] at this
/-- No object is of two kinds. -/
def OneKind (P : List Ov) : Prop := ∀ y ∈ P, ∀ z ∈ P, y.o = z.o → thOf y.k = thOf z.k
/-- What the specification asks of one that comes: no operation of its object is of another kind. -/
def fitsB (P : List Ov) (x : Ov) : Bool := P.all fun y => decide (y.o = x.o → spT y.k = spT x.k)
theorem spT_inj {k l : Int} (hk : k = 1 ∨ k = 2 ∨ k = 3 ∨ k = 4) (hl : l = 1 ∨ l = 2 ∨ l = 3 ∨ l = 4) : spT k = spT l ↔ thOf k = thOf l := by
  rcases hk with rfl | rfl | rfl | rfl <;> rcases hl with rfl | rfl | rfl | rfl <;> decide
theorem suit_fits {P : List Ov} {x : Ov} (h1 : OneKind P) (hk : ∀ y ∈ P, y.k = 1 ∨ y.k = 2 ∨ y.k = 3 ∨ y.k = 4) (ho : ∀ y ∈ P, 0 ≤ y.o) (xk : x.k = 1 ∨ x.k = 2 ∨ x.k = 3 ∨ x.k = 4) (xo : 0 ≤ x.o ∧ x.o < 101) : suitB P x = fitsB P x := by
  unfold suitB fitsB
  rw [Bool.eq_iff_iff, decide_eq_true_eq, List.all_eq_true]
  simp only [decide_eq_true_eq]
  rcases tsOf_last (j := x.o.toNat) (by omega) P with ⟨hn, h0⟩ | ⟨y, hy, hyo, ht⟩
  · rw [h0]
    exact ⟨fun _ y hy e => absurd (by rw [e]) (hn y hy), fun _ => .inl rfl⟩
  · rw [ht]
    have hyx : y.o = x.o := by have := ho y hy; omega
    have hne : thOf y.k ≠ 0 := by rcases thOf_in (hk y hy) with h | h | h <;> omega
    constructor
    · intro h z hz e
      rw [spT_inj (hk z hz) xk, h1 z hz y hy (e.trans hyx.symm)]
      exact h.resolve_left hne
    · intro h
      exact .inr ((spT_inj (hk y hy) xk).1 (h y hy hyx))
theorem oneKind_snoc {P : List Ov} {x : Ov} (h : OneKind P) (hf : ∀ y ∈ P, y.o = x.o → thOf y.k = thOf x.k) : OneKind (P ++ [x]) := by
  intro y hy z hz e
  rcases List.mem_append.1 hy with hy' | hy' <;> rcases List.mem_append.1 hz with hz' | hz'
  · exact h y hy' z hz' e
  · rw [List.mem_singleton] at hz'
    rw [hz'] at e ⊢
    exact hf y hy' e
  · rw [List.mem_singleton] at hy'
    rw [hy'] at e ⊢
    exact (hf z hz' e.symm).symm
  · rw [List.mem_singleton] at hy' hz'
    rw [hy', hz']
/-- A valid log has no object of two kinds. -/
theorem oneKind_steps {L : List Ov} (hk : ∀ y ∈ L, y.k = 1 ∨ y.k = 2 ∨ y.k = 3 ∨ y.k = 4) (ho : ∀ y ∈ L, 0 ≤ y.o ∧ y.o < 101) (hs : ∀ i, i < L.length → suitB (L.take i) (ovAt L i) = true) : ∀ k, k ≤ L.length → OneKind (L.take k)
  | 0, _ => fun y hy => absurd hy (by simp)
  | k + 1, h => by
    have ih := oneKind_steps hk ho hs k (by omega)
    have hm : ∀ y ∈ L.take k, y ∈ L := fun y hy => List.mem_of_mem_take hy
    have hx := ovAt_mem (L := L) (k := k) (by omega)
    have hf := hs k (by omega)
    rw [suit_fits ih (fun y hy => hk y (hm y hy)) (fun y hy => (ho y (hm y hy)).1) (hk _ hx) (ho _ hx)] at hf
    unfold fitsB at hf
    rw [List.all_eq_true] at hf
    rw [take_snoc (by omega)]
    refine oneKind_snoc ih (fun y hy e => ?_)
    have := hf y hy
    rw [decide_eq_true_eq] at this
    exact (spT_inj (hk y (hm y hy)) (hk _ hx)).1 (this e)
theorem allK_low {P : List Ov} : ∀ {k : Nat} {y : Ov}, y ∈ allK P k → ∃ a, a < k ∧ y ∈ byA P a
  | 0, y, h => absurd h (by simp [allK])
  | k + 1, y, h => by
    rw [allK] at h
    rcases List.mem_append.1 h with h | h
    · obtain ⟨a, ha, hy⟩ := allK_low h
      exact ⟨a, by omega, hy⟩
    · exact ⟨k, by omega, h⟩
theorem allK_rest (P : List Ov) (k : Nat) : ∀ m, ∃ R, allK P (k + m) = allK P k ++ R ∧ ∀ y ∈ R, (k : Int) ≤ y.a
  | 0 => ⟨[], by rw [List.append_nil]; rfl, fun y hy => absurd hy (by simp)⟩
  | m + 1 => by
    obtain ⟨R, e, h⟩ := allK_rest P k m
    refine ⟨R ++ byA P (k + m), by rw [← List.append_assoc, ← e]; rfl, fun y hy => ?_⟩
    rcases List.mem_append.1 hy with hy | hy
    · exact h y hy
    · have := byA_all hy
      omega
/-- Each actor's operations are numbered from one on. -/
def Numbered (P : List Ov) : Prop := ∀ a, a < 16 → ∀ i, i < (byA P a).length → (ovAt (byA P a) i).s = (i : Int) + 1
theorem Numbered.low {P : List Ov} (h : Numbered P) {a : Nat} (ha : a < 16) {y : Ov} (hy : y ∈ byA P a) : 1 ≤ y.s ∧ y.s ≤ ((byA P a).length : Int) := by
  obtain ⟨i, hi, rfl⟩ := List.mem_iff_getElem.1 hy
  have := h a ha i hi
  rw [show ovAt (byA P a) i = (byA P a)[i] by have := ovAt_get hi; rw [List.getElem?_eq_getElem hi] at this; exact (Option.some.inj this).symm] at this
  omega
theorem Numbered.snoc {P : List Ov} {x : Ov} (h : Numbered P) {j : Nat} (hj : x.a = (j : Int)) (hx : x.s = ((byA P j).length : Int) + 1) : Numbered (P ++ [x]) := by
  intro a ha i hi
  rw [byA_snoc] at hi ⊢
  by_cases e : x.a = (a : Int)
  · obtain rfl : j = a := by omega
    rw [if_pos e] at hi ⊢
    rw [List.length_append, List.length_singleton] at hi
    unfold ovAt
    rw [List.getD_eq_getElem?_getD]
    by_cases l : i < (byA P j).length
    · rw [List.getElem?_append_left l, ← List.getD_eq_getElem?_getD]
      exact h j ha i l
    · obtain rfl : i = (byA P j).length := by omega
      rw [List.getElem?_append_right (Nat.le_refl _), Nat.sub_self]
      exact hx
  · rw [if_neg e] at hi ⊢
    exact h a ha i hi
/-- Where the specification puts one in: behind all that come ahead of it. -/
def aheadB (x y : Ov) : Bool := decide (y.a < x.a ∨ (y.a = x.a ∧ y.s < x.s))
theorem insert_put {P : List Ov} {x : Ov} (h : Numbered P) {j : Nat} (hj16 : j < 16) (hj : x.a = (j : Int)) (hx : x.s = ((byA P j).length : Int) + 1) :
    (∀ y ∈ allK P (j + 1), aheadB x y = true) ∧ ∃ R, allK P 16 = allK P (j + 1) ++ R ∧ (∀ y ∈ R, aheadB x y = false) ∧ allK (P ++ [x]) 16 = allK P (j + 1) ++ x :: R := by
  refine ⟨fun y hy => ?_, ?_⟩
  · obtain ⟨a, ha, hy'⟩ := allK_low hy
    have e := byA_all hy'
    unfold aheadB
    rw [decide_eq_true_eq]
    by_cases l : a = j
    · subst l
      have := (h.low hj16 hy').2
      exact .inr ⟨by omega, by omega⟩
    · exact .inl (by omega)
  · obtain ⟨R, e, hR⟩ := allK_rest P (j + 1) (15 - j)
    rw [show j + 1 + (15 - j) = 16 by omega] at e
    refine ⟨R, e, fun y hy => ?_, ?_⟩
    · have := hR y hy
      unfold aheadB
      rw [decide_eq_false_iff_not]
      omega
    · rw [allK_put P x j hj 16, if_pos hj16, e, List.drop_left]
/-- What can be added now. -/
def dueB (P : List Ov) (x : Ov) : Bool := nextB P x && causesB P x
/-- The adding, each time of the first that can be: the code, what is there, what waits. -/
def addL : Nat → List Ov → List Ov → Int × List Ov × List Ov
  | 0, P, W => (0, P, W)
  | n + 1, P, W => match W.findIdx? (dueB P) with
    | none => (0, P, W)
    | some i => if suitB P (ovAt W i) = false then (8, [], []) else if 1024 ≤ P.length then (11, [], []) else addL n (P ++ [ovAt W i]) (W.eraseIdx i)
/-- Two operations that say the same. -/
def sameB (x y : Ov) : Bool := decide (x.a = y.a) && (decide (x.s = y.s) && (decide (x.t = y.t) && (decide (x.ds = y.ds) && (decide (x.k = y.k) && (decide (x.o = y.o) && (decide (x.n = y.n) && (decide (x.u = y.u) && (decide (x.pt = y.pt) && (decide (x.pa = y.pa) && (decide (x.ky = y.ky) && decide (x.tx = y.tx)))))))))))
theorem sameB_iff {x y : Ov} : sameB x y = true ↔ x.same y := by
  unfold sameB Ov.same
  simp only [Bool.and_eq_true, decide_eq_true_eq]
theorem sameB_comm (x y : Ov) : sameB x y = sameB y x := by
  rw [Bool.eq_iff_iff, sameB_iff, sameB_iff]
  constructor <;> (rintro ⟨h0, h1, h2, h3, h4, h5, h6, h7, h8, h9, h10, h11⟩; exact ⟨h0.symm, h1.symm, h2.symm, h3.symm, h4.symm, h5.symm, h6.symm, h7.symm, h8.symm, h9.symm, h10.symm, h11.symm⟩)
/-- One of the name of x. -/
def nameB (x y : Ov) : Bool := decide (y.a = x.a ∧ y.s = x.s)
/-- One more of what came: known and alike, known and unlike (a fork), or not known. -/
def unkS (L : List Ov) (o : Option (List Ov)) (x : Ov) : Option (List Ov) := o.bind fun acc => match (L ++ acc).find? (nameB x) with
  | some y => if sameB y x = true then some acc else none
  | none => some (acc ++ [x])
/-- Those of M that the log L has not, each once; none at a fork. -/
def unk (L M : List Ov) : Option (List Ov) := M.foldl (unkS L) (some [])
theorem unk_snoc (L M : List Ov) (x : Ov) : unk L (M ++ [x]) = unkS L (unk L M) x := by
  unfold unk
  rw [List.foldl_append]
  rfl
theorem unk_fork {L M : List Ov} : ∀ (R : List Ov), unk L M = none → unk L (M ++ R) = none := by
  intro R h
  unfold unk at h ⊢
  rw [List.foldl_append, h]
  clear h
  induction R with
  | nil => rfl
  | cons x R ih => exact ih
theorem unk_take {L M : List Ov} {k : Nat} (h : unk L (M.take k) = none) : unk L M = none := by
  have := unk_fork (M.drop k) h
  rwa [List.take_append_drop] at this
/-- No two of one name. -/
def Apart (X : List Ov) : Prop := X.Pairwise fun x y => ¬ (x.a = y.a ∧ x.s = y.s)
theorem unk_apart {L : List Ov} (hL : Apart L) : ∀ (R : List Ov) {acc : List Ov}, unk L R.reverse = some acc → Apart (L ++ acc) ∧ acc.length ≤ R.length ∧ ∀ x ∈ acc, x ∈ R := by
  intro R
  induction R with
  | nil =>
    intro acc h
    cases h
    exact ⟨by rw [List.append_nil]; exact hL, Nat.le_refl _, fun x hx => absurd hx (by simp)⟩
  | cons x R ih =>
    intro acc h
    rw [List.reverse_cons, unk_snoc] at h
    unfold unkS at h
    cases hu : unk L R.reverse with
    | none => rw [hu] at h; cases h
    | some a0 =>
      rw [hu, Option.bind_some] at h
      obtain ⟨h1, h2, h3⟩ := ih hu
      cases hf : (L ++ a0).find? (nameB x) with
      | some y =>
        rw [hf] at h
        simp only at h
        split at h
        · cases h
          exact ⟨h1, by rw [List.length_cons]; omega, fun z hz => List.mem_cons_of_mem _ (h3 z hz)⟩
        · cases h
      | none =>
        rw [hf] at h
        cases h
        rw [List.find?_eq_none] at hf
        refine ⟨?_, by simp only [List.length_append, List.length_cons, List.length_nil]; omega, fun z hz => ?_⟩
        · rw [← List.append_assoc]
          unfold Apart
          rw [List.pairwise_append]
          refine ⟨h1, List.pairwise_singleton _ _, fun u hu v hv e => ?_⟩
          rw [List.mem_singleton] at hv
          subst hv
          exact hf u hu (decide_eq_true e)
        · rcases List.mem_append.1 hz with hz | hz
          · exact List.mem_cons_of_mem _ (h3 z hz)
          · rw [List.mem_singleton] at hz
            rw [hz]
            exact List.mem_cons_self
theorem next_allK (P : List Ov) {x : Ov} (h : 0 ≤ x.a ∧ x.a < 16) : nextB (allK P 16) x = nextB P x := by
  unfold nextB
  rw [byA_allK, if_pos (by omega)]
theorem due_allK (P : List Ov) {x : Ov} (h : 0 ≤ x.a ∧ x.a < 16) : dueB (allK P 16) x = dueB P x := by
  unfold dueB
  rw [next_allK P h, causes_allK]
def addW (P W : List Ov) : Int × List Ov × List Ov := addL W.length P W
theorem addW_none {P W : List Ov} (h : W.findIdx? (dueB P) = none) : addW P W = (0, P, W) := by
  unfold addW
  cases W with
  | nil => rfl
  | cons x W =>
    rw [List.length_cons, addL, h]
theorem addW_some {P W : List Ov} {i : Nat} (hi : i < W.length) (h : W.findIdx? (dueB P) = some i) : addW P W = if suitB P (ovAt W i) = false then (8, [], []) else if 1024 ≤ P.length then (11, [], []) else addW (P ++ [ovAt W i]) (W.eraseIdx i) := by
  unfold addW
  obtain ⟨n, hn⟩ : ∃ n, W.length = n + 1 := ⟨W.length - 1, by omega⟩
  rw [hn, addL, h, List.length_eraseIdx_of_lt hi, hn]
  rfl
theorem findIdx_none {W : List Ov} {p : Ov → Bool} (h : ∀ q, q < W.length → p (ovAt W q) = false) : W.findIdx? p = none := by
  rw [List.findIdx?_eq_none_iff]
  intro x hx
  obtain ⟨i, hi, rfl⟩ := List.mem_iff_getElem.1 hx
  have := h i hi
  rwa [show ovAt W i = W[i] by have := ovAt_get hi; rw [List.getElem?_eq_getElem hi] at this; exact (Option.some.inj this).symm] at this
theorem findIdx_some {W : List Ov} {p : Ov → Bool} {i : Nat} (hi : i < W.length) (hp : p (ovAt W i) = true) (h : ∀ q, q < i → p (ovAt W q) = false) : W.findIdx? p = some i := by
  have e : ∀ q (hq : q < W.length), ovAt W q = W[q] := fun q hq => by have := ovAt_get hq; rw [List.getElem?_eq_getElem hq] at this; exact (Option.some.inj this).symm
  rw [List.findIdx?_eq_some_iff_getElem]
  refine ⟨hi, by rw [← e i hi]; exact hp, fun j hj => ?_⟩
  rw [← e j (by omega), h j hj]
  exact Bool.false_ne_true
end Go.Proofs.YtmmkmkaannlkhaaGreatDoor

namespace Go.Proofs.YtmmkmkaannlkhaaGreatDoor
open Go.RowKit
set_option linter.unusedVariables false

theorem owns_base {w : World} {B B' : Nat} {e : TypeId} {s n : Nat} {v : Value} {xs : List Value} (h : w.ownsRow B e s v n xs) (hb : B' ≤ B) : w.ownsRow B' e s v n xs := by
  obtain ⟨h1, h2⟩ := h
  refine ⟨h1, ?_⟩
  rcases h2 with h2 | ⟨g, cap, cur, hv, hg, hh, r⟩
  · exact .inl h2
  · exact .inr ⟨g, cap, cur, hv, by omega, hh, r⟩
theorem OpBlk.lt' {W : World} {B : Nat} {x : Ov} (h : OpBlk W B x) : B < W.heap.size := (Array.getElem?_eq_some_iff.1 h).1
theorem rowCs_idx : ∀ (L : List Ov) (k q : Nat), k < L.length → q < 12 → (rowCs L)[k * 12 + q]? = (ovAt L k).cs[q]?
  | [], k, q, h, _ => absurd h (by simp)
  | y :: L, 0, q, _, hq => by
    show (y.cs ++ rowCs L)[0 * 12 + q]? = _
    rw [Nat.zero_mul, Nat.zero_add, List.getElem?_append_left (by simpa [Ov.cs] using hq)]
    rfl
  | y :: L, k + 1, q, h, hq => by
    show (y.cs ++ rowCs L)[(k + 1) * 12 + q]? = _
    rw [List.getElem?_append_right (by simp [Ov.cs]; omega), show (k + 1) * 12 + q - y.cs.length = k * 12 + q by simp [Ov.cs]; omega]
    exact rowCs_idx L k q (by simpa using h) hq
theorem rdO_cells {w : World} {g off : Nat} {L : List Ov} (h : ∀ k, k < L.length → OpAt w g (off + k * 12) (ovAt L k)) (j : Nat) (u : Value) (hj : (rowCs L)[j]? = some u) : w.cell? ⟨g, off + j, none⟩ = some u := by
  have hl := (List.getElem?_eq_some_iff.1 hj).1
  rw [rowCs_len] at hl
  have hd : j / 12 * 12 + j % 12 = j := by omega
  have hk : j / 12 < L.length := by omega
  rw [← hd, rowCs_idx L (j / 12) (j % 12) hk (by omega)] at hj
  have := opAt_range (h (j / 12) hk) (j % 12) u hj
  rwa [show off + j / 12 * 12 + j % 12 = off + j by omega] at this
theorem rowCs_ones {L : List Ov} (h : ∀ x ∈ L, x.dv.oneCell' = true) : ∀ u ∈ rowCs L, u.oneCell' = true := by
  intro u hu
  unfold rowCs at hu
  obtain ⟨x, hx, hu⟩ := List.mem_flatMap.1 hu
  exact cs_one x (h x hx) u hu

set_option maxHeartbeats 4000000 in
set_option maxRecDepth 100000 in
theorem l08Insert_any (C : Nat) (w : World) (g off cap : Nat) (L A R : List Ov) (x : Ov) (hLA : L = A ++ R) (hA : ∀ y ∈ A, aheadB x y = true) (hR : 0 < R.length → aheadB x (ovAt R 0) = false) (hC : C ≤ w.heap.size) (hr : RdO C w (.slice (some ⟨g, off, none⟩) L.length cap) L) (hl : L.length ≤ 4096) (hdx : ∃ a n c, x.dv = .slice a n c) (hone : ∀ y ∈ L, y.dv.oneCell' = true) :
    Calls Tryz.prog 46 #[.slice (some ⟨g, off, none⟩) L.length cap, .agg x.cs.toArray] w fun e w' => ∃ r, e = .returned r ∧ w'.ownsRow w.heap.size 29 12 r (A ++ x :: R).length (rowCs (A ++ x :: R)) ∧ Below w.heap.size w w' := by
  obtain ⟨⟨ao, cap', hv, hcap, hmax, hnil, hrow⟩, -⟩ := hr
  simp only [Value.slice.injEq, true_and] at hv
  obtain ⟨hao, rfl⟩ := hv
  have hrowc : 0 < L.length → g < C ∧ ∀ k, k < L.length → OpAt w g (off + k * 12) (ovAt L k) := fun h => by
    obtain ⟨g', off', e, hg, hc⟩ := hrow h
    rw [← hao] at e
    simp only [Option.some.injEq, Addr.mk.injEq, and_true] at e
    obtain ⟨rfl, rfl⟩ := e
    exact ⟨hg, hc⟩
  have hll : A.length + R.length = L.length := by rw [hLA, List.length_append]
  have HAQ : Hid (∀ k, k < A.length → aheadB x (ovAt L k) = true) := fun k hk => by
    have e : ovAt L k ∈ A := by
      rw [hLA]
      unfold ovAt
      rw [List.getD_eq_getElem?_getD, List.getElem?_append_left hk, List.getElem?_eq_getElem hk]
      exact List.getElem_mem hk
    exact hA _ e
  have HRQ : Hid (∀ k, A.length ≤ k → k ≤ A.length → k < L.length → aheadB x (ovAt L k) = false) := fun k hk hk' hkl => by
    obtain rfl : k = A.length := by omega
    have e : ovAt L A.length = ovAt R 0 := by
      rw [hLA]
      unfold ovAt
      rw [List.getD_eq_getElem?_getD, List.getElem?_append_right (Nat.le_refl _), Nat.sub_self, List.getD_eq_getElem?_getD]
    rw [e]
    exact hR (by omega)
  obtain ⟨da, dn, dc, hdx⟩ := hdx
  obtain ⟨i0, hi, hz0, hz1, hz2⟩ := info_parts infoOp
  obtain ⟨xa, xs, xt, xdv, xk, xo, xn, xu, xpt, xpa, xky, xtx, xds⟩ := x
  obtain rfl : xdv = .slice da dn dc := hdx
  unfold Ov.cs
  have HB0 : Hid (Below w.heap.size w (w.alloc (.cells #[.int .i64 xa, .int .i64 xs, .int .i64 xt, .slice da dn dc, .int .i64 xk, .int .i64 xo, .int .i64 xn, .int .i64 xu, .int .i64 xpt, .int .i64 xpa, .string xky, .string xtx] 29))) := below_alloc w _
  have HC0 : Hid (∀ w1, Below (w.alloc (.cells #[.int .i64 xa, .int .i64 xs, .int .i64 xt, .slice da dn dc, .int .i64 xk, .int .i64 xo, .int .i64 xn, .int .i64 xu, .int .i64 xpt, .int .i64 xpa, .string xky, .string xtx] 29)).heap.size (w.alloc (.cells #[.int .i64 xa, .int .i64 xs, .int .i64 xt, .slice da dn dc, .int .i64 xk, .int .i64 xo, .int .i64 xn, .int .i64 xu, .int .i64 xpt, .int .i64 xpa, .string xky, .string xtx] 29)) w1 → w1.cell? ⟨w.heap.size, 0, none⟩ = some (.int .i64 xa) ∧ w1.cell? ⟨w.heap.size, 1, none⟩ = some (.int .i64 xs)) := fun w1 hb => ⟨(op_cells hb).1, (op_cells hb).2.1⟩
  have HP0 : Hid (∀ w1, Below (w.alloc (.cells #[.int .i64 xa, .int .i64 xs, .int .i64 xt, .slice da dn dc, .int .i64 xk, .int .i64 xo, .int .i64 xn, .int .i64 xu, .int .i64 xpt, .int .i64 xpa, .string xky, .string xtx] 29)).heap.size (w.alloc (.cells #[.int .i64 xa, .int .i64 xs, .int .i64 xt, .slice da dn dc, .int .i64 xk, .int .i64 xo, .int .i64 xn, .int .i64 xu, .int .i64 xpt, .int .i64 xpa, .string xky, .string xtx] 29)) w1 → OpBlk w1 w.heap.size (⟨xa, xs, xt, .slice da dn dc, xk, xo, xn, xu, xpt, xpa, xky, xtx, xds⟩ : Ov)) := fun w1 hb => (hb.block _ (by rw [World.size_alloc]; omega)).trans (heap_alloc_new w _)
  have hb0 := Below.refl (w.alloc (.cells #[.int .i64 xa, .int .i64 xs, .int .i64 xt, .slice da dn dc, .int .i64 xk, .int .i64 xo, .int .i64 xn, .int .i64 xu, .int .i64 xpt, .int .i64 xpa, .string xky, .string xtx] 29)).heap.size (w.alloc (.cells #[.int .i64 xa, .int .i64 xs, .int .i64 xt, .slice da dn dc, .int .i64 xk, .int .i64 xo, .int .i64 xn, .int .i64 xu, .int .i64 xpt, .int .i64 xpa, .string xky, .string xtx] 29))
  have hs0 : (w.alloc (.cells #[.int .i64 xa, .int .i64 xs, .int .i64 xt, .slice da dn dc, .int .i64 xk, .int .i64 xo, .int .i64 xn, .int .i64 xu, .int .i64 xpt, .int .i64 xpa, .string xky, .string xtx] 29)).heap.size = w.heap.size + 1 := World.size_alloc _ _
  have HS0 : Hid _ := hs0
  have HIX : Hid ((Tryz.prog.info? 29).map (·.size) = some (Ov.cs (⟨xa, xs, xt, .slice da dn dc, xk, xo, xn, xu, xpt, xpa, xky, xtx, xds⟩ : Ov)).length) := infoOpB (⟨xa, xs, xt, .slice da dn dc, xk, xo, xn, xu, xpt, xpa, xky, xtx, xds⟩ : Ov)
  have HLA : Hid (L = A ++ R) := hLA
  have HLL : Hid (A.length + R.length = L.length) := hll
  clear hs0 hA hR hnil hrow hao hLA hll
  go_enter Tryz.func46, Tryz.ntmps46
  go_wp2_with fail
  generalize (w.alloc (.cells #[.int .i64 xa, .int .i64 xs, .int .i64 xt, .slice da dn dc, .int .i64 xk, .int .i64 xo, .int .i64 xn, .int .i64 xu, .int .i64 xpt, .int .i64 xpa, .string xky, .string xtx] 29)) = w0 at hb0 HB0 HC0 HP0 HS0 ⊢
  go_loopw [5] (fun ti wr => ∃ k : Nat, k ≤ A.length ∧ ti = .int .i64 (k : Int) ∧ Below w0.heap.size w0 wr) (fun ti _ => L.length - (intOf ti).toNat)
  case atStart => exact ⟨0, Nat.zero_le _, rfl, hb0⟩
  case round =>
    clear hb0
    obtain ⟨k, hk, rfl, hb⟩ := hrel
    obtain ⟨d0, d1⟩ := HC0.out wr hb
    have hk0 : (0 : Int) ≤ (k : Int) := by omega
    by_cases hkl : k < L.length
    · have hki : (k : Int) < (L.length : Int) := by omega
      obtain ⟨hg, hcs⟩ := hrowc (by omega)
      have hx := ((hcs k hkl).below (HB0.out.mono hC) hg).below (hb.mono (by have := HB0.out.size; omega)) hg
      have c0 := hx.c0
      have c1 := hx.c1
      clear hx hcs
      by_cases hka : k < A.length
      · have hah := HAQ.out k hka
        unfold aheadB at hah
        rw [decide_eq_true_eq] at hah
        simp only at hah
        have hk2 : (k : Int) < 4096 := by omega
        have HKA : Hid (k + 1 ≤ A.length) := hka
        generalize (ovAt L k).a = ya at *
        generalize (ovAt L k).s = ys at *
        by_cases h1 : ya < xa
        · clear hah hrowc HAQ HRQ hka
          go_wp2_with fail
          go_quiet (fail)
          go_wp2_with fail
          go_roundw
          case rel => exact ⟨k + 1, HKA.out, by go_num, below_drewN hb _⟩
          case measure => simp [intOf]; omega
        · obtain ⟨rfl, h2⟩ : ya = xa ∧ ys < xs := by omega
          have h1d : decide (ya < ya) = false := by simp
          clear hah hrowc HAQ HRQ hka h1
          go_wp2_with fail
          go_quiet (fail)
          go_wp2_with fail
          go_roundw
          case rel => exact ⟨k + 1, HKA.out, by go_num, below_drewN hb _⟩
          case measure => simp [intOf]; omega
      · obtain rfl : k = A.length := by omega
        have hah := HRQ.out A.length (Nat.le_refl _) (Nat.le_refl _) hkl
        unfold aheadB at hah
        rw [decide_eq_false_iff_not] at hah
        simp only at hah
        generalize (ovAt L A.length).a = ya at *
        generalize (ovAt L A.length).s = ys at *
        have hncap : ¬ cap = A.length := by omega
        have hll2 : True := trivial
        by_cases h1 : ya = xa
        · have h2 : decide (ys < xs) = false := by simp; omega
          have h3 : decide (ya < xa) = false := by simp; omega
          have h4 : (ya == xa) = true := by simpa using h1
          clear h1
          clear hah HAQ HRQ
          go_wp2_with fail
          go_quiet (fail)
          have hbq := below_drewN hb nq
          generalize wr.drewN nq = wq at hbq ⊢
          obtain ⟨hbw, hsq⟩ : Below w.heap.size w wq ∧ w.heap.size < wq.heap.size := ⟨below_seq HB0.out hbq, by have := hbq.size; have := HS0.out; omega⟩
          have HPQ : Hid (OpBlk wq w.heap.size (⟨xa, xs, xt, .slice da dn dc, xk, xo, xn, xu, xpt, xpa, xky, xtx, xds⟩ : Ov)) := HP0.out wq hbq
          have HT : Hid (rowCs (A ++ ((⟨xa, xs, xt, .slice da dn dc, xk, xo, xn, xu, xpt, xpa, xky, xtx, xds⟩ : Ov) :: R)) = (rowCs A ++ Ov.cs (⟨xa, xs, xt, .slice da dn dc, xk, xo, xn, xu, xpt, xpa, xky, xtx, xds⟩ : Ov)) ++ rowCs R) := by unfold Hid; rw [rowCs_app, show (⟨xa, xs, xt, .slice da dn dc, xk, xo, xn, xu, xpt, xpa, xky, xtx, xds⟩ : Ov) :: R = [(⟨xa, xs, xt, .slice da dn dc, xk, xo, xn, xu, xpt, xpa, xky, xtx, xds⟩ : Ov)] ++ R from rfl, rowCs_app, ← List.append_assoc]; simp [rowCs]
          have HTL : Hid ((A ++ ((⟨xa, xs, xt, .slice da dn dc, xk, xo, xn, xu, xpt, xpa, xky, xtx, xds⟩ : Ov) :: R)).length = 0 + A.length + 1 + R.length) := by unfold Hid; rw [List.length_append, List.length_cons]; omega
          have HCL : Hid (∀ w9, Below w.heap.size w w9 → (∀ j u, (rowCs A)[j]? = some u → w9.cell? ((⟨g, off, none⟩ : Addr).add j) = some u) ∧ (∀ j u, (rowCs R)[j]? = some u → w9.cell? ((⟨g, off + A.length * 12, none⟩ : Addr).add j) = some u)) := fun w9 hb9 => by
            have hLL := HLL.out
            refine ⟨fun j u hj => ?_, fun j u hj => ?_⟩
            · rw [Addr.add_mid]
              have hjl := (List.getElem?_eq_some_iff.1 hj).1
              rw [rowCs_len] at hjl
              obtain ⟨hg, hcs⟩ := hrowc (by omega)
              exact rdO_cells (fun k hk => (hcs k hk).below (hb9.mono hC) hg) j u (by rw [HLA.out, rowCs_app, List.getElem?_append_left (by rw [rowCs_len]; exact hjl)]; exact hj)
            · have hjl := (List.getElem?_eq_some_iff.1 hj).1
              rw [rowCs_len] at hjl
              rw [Addr.add_mid]
              obtain ⟨hg, hcs⟩ := hrowc (by omega)
              have := rdO_cells (fun k hk => (hcs k hk).below (hb9.mono hC) hg) (A.length * 12 + j) u (by rw [HLA.out, rowCs_app, List.getElem?_append_right (by rw [rowCs_len]; omega), rowCs_len, show A.length * 12 + j - A.length * 12 = j by omega]; exact hj)
              rwa [← Nat.add_assoc] at this
          have honeA : ∀ u ∈ rowCs A, u.oneCell' = true := rowCs_ones (fun y hy => hone y (by rw [HLA.out]; exact List.mem_append_left _ hy))
          have honeR : ∀ u ∈ rowCs R, u.oneCell' = true := rowCs_ones (fun y hy => hone y (by rw [HLA.out]; exact List.mem_append_right _ hy))
          have hone1 : ∀ u ∈ Ov.cs (⟨xa, xs, xt, .slice da dn dc, xk, xo, xn, xu, xpt, xpa, xky, xtx, xds⟩ : Ov), u.oneCell' = true := cs_one (⟨xa, xs, xt, .slice da dn dc, xk, xo, xn, xu, xpt, xpa, xky, xtx, xds⟩ : Ov) rfl
          have hLL := HLL.out
          have hl1 := rowCs_len A
          have hl3 := rowCs_len R
          have HLLB : Hid (R.length = L.length - A.length) := by unfold Hid; omega
          clear hrowc HC0 HP0 hll2
          go_upto_region 5 with (at_make; refine wpList_make_own _ rfl _ _ 33 rfl (w.heap.size + 1) 29 i0 (.agg #[.int .i64 0, .int .i64 0, .int .i64 0, .slice none 0 0, .int .i64 0, .int .i64 0, .int .i64 0, .int .i64 0, .int .i64 0, .int .i64 0, .string ByteArray.empty, .string ByteArray.empty]) 12 Tryz.underlying33 hi hz0 hz1 _ _ _ (L.length + 1) rfl rfl (by omega) (by rw [hz2]; omega) (by unfold maxLen; omega) (by omega) ?_)
          intro w2 ho2 hg2
          have hb2 : Below w.heap.size w w2 := hbw.grown hg2 (by omega) (fun k e => by cases e)
          have hs2 := hg2.size
          have hnA := (HCL.out w2 hb2).1
          have hP2 : OpBlk w2 w.heap.size (⟨xa, xs, xt, .slice da dn dc, xk, xo, xn, xu, xpt, xpa, xky, xtx, xds⟩ : Ov) := (hg2.block _ (OpBlk.lt' HPQ.out) (by simp)).trans HPQ.out
          go_upto_region 6 with (at_builtin; refine wpList_append_own _ rfl _ _ 33 rfl (w.heap.size + 1) 29 i0 (.agg #[.int .i64 0, .int .i64 0, .int .i64 0, .slice none 0 0, .int .i64 0, .int .i64 0, .int .i64 0, .int .i64 0, .int .i64 0, .int .i64 0, .string ByteArray.empty, .string ByteArray.empty]) 12 128 Tryz.underlying33 hi hz0 hz1 hz2 rfl (by decide) _ 0 [] rfl ho2 ⟨g, off, none⟩ A.length _ (rowCs A) rfl hl1 hnA honeA (by unfold maxLen; omega) (by omega) (by omega) ?_)
          intro v3 w3 ho3 hg3 _
          have hs3 := hg3.size
          have hb3 : Below w.heap.size w w3 := hb2.grown hg3 (by omega) (fun k e => by simp only [Value.ownBlock, Option.some.injEq] at e; omega)
          have hP3 : OpBlk w3 w.heap.size (⟨xa, xs, xt, .slice da dn dc, xk, xo, xn, xu, xpt, xpa, xky, xtx, xds⟩ : Ov) := (hg3.block _ (OpBlk.lt' hP2) (fun e => by simp only [Value.ownBlock, Option.some.injEq] at e; omega)).trans hP2
          obtain ⟨va3, vc3, e3⟩ : ∃ ao c, v3 = .slice ao A.length c := by rcases ho3.2 with ⟨h, h'⟩ | ⟨g', c', cur, h, _⟩; exact ⟨_, _, by rw [h, h']⟩; exact ⟨_, _, h⟩
          subst e3
          have hrgX : w3.rangeAt w.heap.size 0 [.int .i64 xa, .int .i64 xs, .int .i64 xt, .slice da dn dc, .int .i64 xk, .int .i64 xo, .int .i64 xn, .int .i64 xu, .int .i64 xpt, .int .i64 xpa, .string xky, .string xtx] := opBlk_range hP3
          have hcn := opNew w3 (⟨xa, xs, xt, .slice da dn dc, xk, xo, xn, xu, xpt, xpa, xky, xtx, xds⟩ : Ov)
          have hlt3 := fun k hk => (World.ownsRow.lt ho3 k hk).1
          clear hg3 hg2 ho2 hP2 hnA HPQ
          go_upto_region 7 with (first | (refine wpList_load_mid rfl 29 _ rfl w.heap.size 0 rfl [.int .i64 xa, .int .i64 xs, .int .i64 xt, .slice da dn dc, .int .i64 xk, .int .i64 xo, .int .i64 xn, .int .i64 xu, .int .i64 xpt, .int .i64 xpa, .string xky, .string xtx] _ hrgX Tryz.underlying29 rfl HIX.out ?_) | (at_builtin; refine wpList_append_own _ rfl _ _ 33 rfl (w.heap.size + 1) 29 i0 (.agg #[.int .i64 0, .int .i64 0, .int .i64 0, .slice none 0 0, .int .i64 0, .int .i64 0, .int .i64 0, .int .i64 0, .int .i64 0, .int .i64 0, .string ByteArray.empty, .string ByteArray.empty]) 12 128 Tryz.underlying33 hi hz0 hz1 hz2 rfl (by decide) _ A.length _ rfl (World.ownsRow.alloc ho3 _) ⟨w3.heap.size, 0, none⟩ 1 1 (Ov.cs (⟨xa, xs, xt, .slice da dn dc, xk, xo, xn, xu, xpt, xpa, xky, xtx, xds⟩ : Ov)) rfl rfl hcn hone1 (by unfold maxLen; omega) (by omega) (by rw [World.size_alloc]; omega) ?_))
          intro v4 w4 ho4 hg4 _
          have hs4 := hg4.size
          rw [World.size_alloc] at hs4
          have hb4 : Below w.heap.size w w4 := (hb3.alloc (by omega) _).grown hg4 (by rw [World.size_alloc]; omega) (fun k e => by have := hlt3 k e; omega)
          obtain ⟨va4, vc4, e4⟩ : ∃ ao c, v4 = .slice ao (A.length + 1) c := by rcases ho4.2 with ⟨h, h'⟩ | ⟨g', c', cur, h, _⟩; omega; exact ⟨_, _, h⟩
          subst e4
          have hnR := (HCL.out w4 hb4).2
          have hlt4 := fun k hk => (World.ownsRow.lt ho4 k hk).1
          have hl3' : (rowCs R).length = (L.length - A.length) * 12 := by rw [hl3, HLLB.out]
          clear hg4 ho3 hcn hrgX hP3 hl3 hl1 HCL
          go_wp2_with (at_builtin; refine wpList_append_own _ rfl _ _ 33 rfl (w.heap.size + 1) 29 i0 (.agg #[.int .i64 0, .int .i64 0, .int .i64 0, .slice none 0 0, .int .i64 0, .int .i64 0, .int .i64 0, .int .i64 0, .int .i64 0, .int .i64 0, .string ByteArray.empty, .string ByteArray.empty]) 12 128 Tryz.underlying33 hi hz0 hz1 hz2 rfl (by decide) _ (A.length + 1) _ rfl ho4 ⟨g, off + A.length * 12, none⟩ (L.length - A.length) _ (rowCs R) rfl hl3' hnR honeR (by unfold maxLen; omega) (by omega) (by omega) ?_)
          intro v5 w5 ho5 hg5 _
          have hb5 : Below w.heap.size w w5 := hb4.grown hg5 (by omega) (fun k e => by have := hlt4 k e; omega)
          go_wp2_with fail
          go_ret
          refine ⟨_, rfl, ?_, hb5⟩
          rw [HT.out, List.append_assoc, show (A ++ ((⟨xa, xs, xt, .slice da dn dc, xk, xo, xn, xu, xpt, xpa, xky, xtx, xds⟩ : Ov) :: R)).length = A.length + 1 + (L.length - A.length) by rw [HTL.out]; have := HLLB.out; omega]
          exact owns_base (B := w.heap.size + 1) ho5 (by omega)
        · have h3 : decide (ya < xa) = false := by simp; omega
          have h4 : (ya == xa) = false := by simpa using h1
          clear h1
          clear hah HAQ HRQ
          go_wp2_with fail
          go_quiet (fail)
          have hbq := below_drewN hb nq
          generalize wr.drewN nq = wq at hbq ⊢
          obtain ⟨hbw, hsq⟩ : Below w.heap.size w wq ∧ w.heap.size < wq.heap.size := ⟨below_seq HB0.out hbq, by have := hbq.size; have := HS0.out; omega⟩
          have HPQ : Hid (OpBlk wq w.heap.size (⟨xa, xs, xt, .slice da dn dc, xk, xo, xn, xu, xpt, xpa, xky, xtx, xds⟩ : Ov)) := HP0.out wq hbq
          have HT : Hid (rowCs (A ++ ((⟨xa, xs, xt, .slice da dn dc, xk, xo, xn, xu, xpt, xpa, xky, xtx, xds⟩ : Ov) :: R)) = (rowCs A ++ Ov.cs (⟨xa, xs, xt, .slice da dn dc, xk, xo, xn, xu, xpt, xpa, xky, xtx, xds⟩ : Ov)) ++ rowCs R) := by unfold Hid; rw [rowCs_app, show (⟨xa, xs, xt, .slice da dn dc, xk, xo, xn, xu, xpt, xpa, xky, xtx, xds⟩ : Ov) :: R = [(⟨xa, xs, xt, .slice da dn dc, xk, xo, xn, xu, xpt, xpa, xky, xtx, xds⟩ : Ov)] ++ R from rfl, rowCs_app, ← List.append_assoc]; simp [rowCs]
          have HTL : Hid ((A ++ ((⟨xa, xs, xt, .slice da dn dc, xk, xo, xn, xu, xpt, xpa, xky, xtx, xds⟩ : Ov) :: R)).length = 0 + A.length + 1 + R.length) := by unfold Hid; rw [List.length_append, List.length_cons]; omega
          have HCL : Hid (∀ w9, Below w.heap.size w w9 → (∀ j u, (rowCs A)[j]? = some u → w9.cell? ((⟨g, off, none⟩ : Addr).add j) = some u) ∧ (∀ j u, (rowCs R)[j]? = some u → w9.cell? ((⟨g, off + A.length * 12, none⟩ : Addr).add j) = some u)) := fun w9 hb9 => by
            have hLL := HLL.out
            refine ⟨fun j u hj => ?_, fun j u hj => ?_⟩
            · rw [Addr.add_mid]
              have hjl := (List.getElem?_eq_some_iff.1 hj).1
              rw [rowCs_len] at hjl
              obtain ⟨hg, hcs⟩ := hrowc (by omega)
              exact rdO_cells (fun k hk => (hcs k hk).below (hb9.mono hC) hg) j u (by rw [HLA.out, rowCs_app, List.getElem?_append_left (by rw [rowCs_len]; exact hjl)]; exact hj)
            · have hjl := (List.getElem?_eq_some_iff.1 hj).1
              rw [rowCs_len] at hjl
              rw [Addr.add_mid]
              obtain ⟨hg, hcs⟩ := hrowc (by omega)
              have := rdO_cells (fun k hk => (hcs k hk).below (hb9.mono hC) hg) (A.length * 12 + j) u (by rw [HLA.out, rowCs_app, List.getElem?_append_right (by rw [rowCs_len]; omega), rowCs_len, show A.length * 12 + j - A.length * 12 = j by omega]; exact hj)
              rwa [← Nat.add_assoc] at this
          have honeA : ∀ u ∈ rowCs A, u.oneCell' = true := rowCs_ones (fun y hy => hone y (by rw [HLA.out]; exact List.mem_append_left _ hy))
          have honeR : ∀ u ∈ rowCs R, u.oneCell' = true := rowCs_ones (fun y hy => hone y (by rw [HLA.out]; exact List.mem_append_right _ hy))
          have hone1 : ∀ u ∈ Ov.cs (⟨xa, xs, xt, .slice da dn dc, xk, xo, xn, xu, xpt, xpa, xky, xtx, xds⟩ : Ov), u.oneCell' = true := cs_one (⟨xa, xs, xt, .slice da dn dc, xk, xo, xn, xu, xpt, xpa, xky, xtx, xds⟩ : Ov) rfl
          have hLL := HLL.out
          have hl1 := rowCs_len A
          have hl3 := rowCs_len R
          have HLLB : Hid (R.length = L.length - A.length) := by unfold Hid; omega
          clear hrowc HC0 HP0 hll2
          go_upto_region 5 with (at_make; refine wpList_make_own _ rfl _ _ 33 rfl (w.heap.size + 1) 29 i0 (.agg #[.int .i64 0, .int .i64 0, .int .i64 0, .slice none 0 0, .int .i64 0, .int .i64 0, .int .i64 0, .int .i64 0, .int .i64 0, .int .i64 0, .string ByteArray.empty, .string ByteArray.empty]) 12 Tryz.underlying33 hi hz0 hz1 _ _ _ (L.length + 1) rfl rfl (by omega) (by rw [hz2]; omega) (by unfold maxLen; omega) (by omega) ?_)
          intro w2 ho2 hg2
          have hb2 : Below w.heap.size w w2 := hbw.grown hg2 (by omega) (fun k e => by cases e)
          have hs2 := hg2.size
          have hnA := (HCL.out w2 hb2).1
          have hP2 : OpBlk w2 w.heap.size (⟨xa, xs, xt, .slice da dn dc, xk, xo, xn, xu, xpt, xpa, xky, xtx, xds⟩ : Ov) := (hg2.block _ (OpBlk.lt' HPQ.out) (by simp)).trans HPQ.out
          go_upto_region 6 with (at_builtin; refine wpList_append_own _ rfl _ _ 33 rfl (w.heap.size + 1) 29 i0 (.agg #[.int .i64 0, .int .i64 0, .int .i64 0, .slice none 0 0, .int .i64 0, .int .i64 0, .int .i64 0, .int .i64 0, .int .i64 0, .int .i64 0, .string ByteArray.empty, .string ByteArray.empty]) 12 128 Tryz.underlying33 hi hz0 hz1 hz2 rfl (by decide) _ 0 [] rfl ho2 ⟨g, off, none⟩ A.length _ (rowCs A) rfl hl1 hnA honeA (by unfold maxLen; omega) (by omega) (by omega) ?_)
          intro v3 w3 ho3 hg3 _
          have hs3 := hg3.size
          have hb3 : Below w.heap.size w w3 := hb2.grown hg3 (by omega) (fun k e => by simp only [Value.ownBlock, Option.some.injEq] at e; omega)
          have hP3 : OpBlk w3 w.heap.size (⟨xa, xs, xt, .slice da dn dc, xk, xo, xn, xu, xpt, xpa, xky, xtx, xds⟩ : Ov) := (hg3.block _ (OpBlk.lt' hP2) (fun e => by simp only [Value.ownBlock, Option.some.injEq] at e; omega)).trans hP2
          obtain ⟨va3, vc3, e3⟩ : ∃ ao c, v3 = .slice ao A.length c := by rcases ho3.2 with ⟨h, h'⟩ | ⟨g', c', cur, h, _⟩; exact ⟨_, _, by rw [h, h']⟩; exact ⟨_, _, h⟩
          subst e3
          have hrgX : w3.rangeAt w.heap.size 0 [.int .i64 xa, .int .i64 xs, .int .i64 xt, .slice da dn dc, .int .i64 xk, .int .i64 xo, .int .i64 xn, .int .i64 xu, .int .i64 xpt, .int .i64 xpa, .string xky, .string xtx] := opBlk_range hP3
          have hcn := opNew w3 (⟨xa, xs, xt, .slice da dn dc, xk, xo, xn, xu, xpt, xpa, xky, xtx, xds⟩ : Ov)
          have hlt3 := fun k hk => (World.ownsRow.lt ho3 k hk).1
          clear hg3 hg2 ho2 hP2 hnA HPQ
          go_upto_region 7 with (first | (refine wpList_load_mid rfl 29 _ rfl w.heap.size 0 rfl [.int .i64 xa, .int .i64 xs, .int .i64 xt, .slice da dn dc, .int .i64 xk, .int .i64 xo, .int .i64 xn, .int .i64 xu, .int .i64 xpt, .int .i64 xpa, .string xky, .string xtx] _ hrgX Tryz.underlying29 rfl HIX.out ?_) | (at_builtin; refine wpList_append_own _ rfl _ _ 33 rfl (w.heap.size + 1) 29 i0 (.agg #[.int .i64 0, .int .i64 0, .int .i64 0, .slice none 0 0, .int .i64 0, .int .i64 0, .int .i64 0, .int .i64 0, .int .i64 0, .int .i64 0, .string ByteArray.empty, .string ByteArray.empty]) 12 128 Tryz.underlying33 hi hz0 hz1 hz2 rfl (by decide) _ A.length _ rfl (World.ownsRow.alloc ho3 _) ⟨w3.heap.size, 0, none⟩ 1 1 (Ov.cs (⟨xa, xs, xt, .slice da dn dc, xk, xo, xn, xu, xpt, xpa, xky, xtx, xds⟩ : Ov)) rfl rfl hcn hone1 (by unfold maxLen; omega) (by omega) (by rw [World.size_alloc]; omega) ?_))
          intro v4 w4 ho4 hg4 _
          have hs4 := hg4.size
          rw [World.size_alloc] at hs4
          have hb4 : Below w.heap.size w w4 := (hb3.alloc (by omega) _).grown hg4 (by rw [World.size_alloc]; omega) (fun k e => by have := hlt3 k e; omega)
          obtain ⟨va4, vc4, e4⟩ : ∃ ao c, v4 = .slice ao (A.length + 1) c := by rcases ho4.2 with ⟨h, h'⟩ | ⟨g', c', cur, h, _⟩; omega; exact ⟨_, _, h⟩
          subst e4
          have hnR := (HCL.out w4 hb4).2
          have hlt4 := fun k hk => (World.ownsRow.lt ho4 k hk).1
          have hl3' : (rowCs R).length = (L.length - A.length) * 12 := by rw [hl3, HLLB.out]
          clear hg4 ho3 hcn hrgX hP3 hl3 hl1 HCL
          go_wp2_with (at_builtin; refine wpList_append_own _ rfl _ _ 33 rfl (w.heap.size + 1) 29 i0 (.agg #[.int .i64 0, .int .i64 0, .int .i64 0, .slice none 0 0, .int .i64 0, .int .i64 0, .int .i64 0, .int .i64 0, .int .i64 0, .int .i64 0, .string ByteArray.empty, .string ByteArray.empty]) 12 128 Tryz.underlying33 hi hz0 hz1 hz2 rfl (by decide) _ (A.length + 1) _ rfl ho4 ⟨g, off + A.length * 12, none⟩ (L.length - A.length) _ (rowCs R) rfl hl3' hnR honeR (by unfold maxLen; omega) (by omega) (by omega) ?_)
          intro v5 w5 ho5 hg5 _
          have hb5 : Below w.heap.size w w5 := hb4.grown hg5 (by omega) (fun k e => by have := hlt4 k e; omega)
          go_wp2_with fail
          go_ret
          refine ⟨_, rfl, ?_, hb5⟩
          rw [HT.out, List.append_assoc, show (A ++ ((⟨xa, xs, xt, .slice da dn dc, xk, xo, xn, xu, xpt, xpa, xky, xtx, xds⟩ : Ov) :: R)).length = A.length + 1 + (L.length - A.length) by rw [HTL.out]; have := HLLB.out; omega]
          exact owns_base (B := w.heap.size + 1) ho5 (by omega)
    · have hLLe := HLL.out
      obtain rfl : k = A.length := by omega
      have i1 : ¬ ((A.length : Nat) : Int) < (L.length : Int) := by omega
      have hdk : decide (((A.length : Nat) : Int) < (L.length : Int)) = false := by simp; omega
      have hll2 : True := trivial
      clear HAQ HRQ hLLe
      by_cases hncap : cap = A.length
      · subst hncap
        go_wp2_with fail
        go_quiet (fail)
        have hbq := below_drewN hb nq
        generalize wr.drewN nq = wq at hbq ⊢
        obtain ⟨hbw, hsq⟩ : Below w.heap.size w wq ∧ w.heap.size < wq.heap.size := ⟨below_seq HB0.out hbq, by have := hbq.size; have := HS0.out; omega⟩
        have HPQ : Hid (OpBlk wq w.heap.size (⟨xa, xs, xt, .slice da dn dc, xk, xo, xn, xu, xpt, xpa, xky, xtx, xds⟩ : Ov)) := HP0.out wq hbq
        have HT : Hid (rowCs (A ++ ((⟨xa, xs, xt, .slice da dn dc, xk, xo, xn, xu, xpt, xpa, xky, xtx, xds⟩ : Ov) :: R)) = (rowCs A ++ Ov.cs (⟨xa, xs, xt, .slice da dn dc, xk, xo, xn, xu, xpt, xpa, xky, xtx, xds⟩ : Ov)) ++ rowCs R) := by unfold Hid; rw [rowCs_app, show (⟨xa, xs, xt, .slice da dn dc, xk, xo, xn, xu, xpt, xpa, xky, xtx, xds⟩ : Ov) :: R = [(⟨xa, xs, xt, .slice da dn dc, xk, xo, xn, xu, xpt, xpa, xky, xtx, xds⟩ : Ov)] ++ R from rfl, rowCs_app, ← List.append_assoc]; simp [rowCs]
        have HTL : Hid ((A ++ ((⟨xa, xs, xt, .slice da dn dc, xk, xo, xn, xu, xpt, xpa, xky, xtx, xds⟩ : Ov) :: R)).length = 0 + A.length + 1 + R.length) := by unfold Hid; rw [List.length_append, List.length_cons]; omega
        have HCL : Hid (∀ w9, Below w.heap.size w w9 → (∀ j u, (rowCs A)[j]? = some u → w9.cell? ((⟨g, off, none⟩ : Addr).add j) = some u) ∧ (∀ j u, (rowCs R)[j]? = some u → w9.cell? ((⟨g, off, none⟩ : Addr).add j) = some u)) := fun w9 hb9 => by
          have hLL := HLL.out
          refine ⟨fun j u hj => ?_, fun j u hj => ?_⟩
          · rw [Addr.add_mid]
            have hjl := (List.getElem?_eq_some_iff.1 hj).1
            rw [rowCs_len] at hjl
            obtain ⟨hg, hcs⟩ := hrowc (by omega)
            exact rdO_cells (fun k hk => (hcs k hk).below (hb9.mono hC) hg) j u (by rw [HLA.out, rowCs_app, List.getElem?_append_left (by rw [rowCs_len]; exact hjl)]; exact hj)
          · have hjl := (List.getElem?_eq_some_iff.1 hj).1
            rw [rowCs_len] at hjl
            omega
        have honeA : ∀ u ∈ rowCs A, u.oneCell' = true := rowCs_ones (fun y hy => hone y (by rw [HLA.out]; exact List.mem_append_left _ hy))
        have honeR : ∀ u ∈ rowCs R, u.oneCell' = true := rowCs_ones (fun y hy => hone y (by rw [HLA.out]; exact List.mem_append_right _ hy))
        have hone1 : ∀ u ∈ Ov.cs (⟨xa, xs, xt, .slice da dn dc, xk, xo, xn, xu, xpt, xpa, xky, xtx, xds⟩ : Ov), u.oneCell' = true := cs_one (⟨xa, xs, xt, .slice da dn dc, xk, xo, xn, xu, xpt, xpa, xky, xtx, xds⟩ : Ov) rfl
        have hLL := HLL.out
        have hl1 := rowCs_len A
        have hl3 := rowCs_len R
        have HLLB : Hid (R.length = L.length - A.length) := by unfold Hid; omega
        clear hrowc HC0 HP0 hll2
        go_upto_region 5 with (at_make; refine wpList_make_own _ rfl _ _ 33 rfl (w.heap.size + 1) 29 i0 (.agg #[.int .i64 0, .int .i64 0, .int .i64 0, .slice none 0 0, .int .i64 0, .int .i64 0, .int .i64 0, .int .i64 0, .int .i64 0, .int .i64 0, .string ByteArray.empty, .string ByteArray.empty]) 12 Tryz.underlying33 hi hz0 hz1 _ _ _ (L.length + 1) rfl rfl (by omega) (by rw [hz2]; omega) (by unfold maxLen; omega) (by omega) ?_)
        intro w2 ho2 hg2
        have hb2 : Below w.heap.size w w2 := hbw.grown hg2 (by omega) (fun k e => by cases e)
        have hs2 := hg2.size
        have hnA := (HCL.out w2 hb2).1
        have hP2 : OpBlk w2 w.heap.size (⟨xa, xs, xt, .slice da dn dc, xk, xo, xn, xu, xpt, xpa, xky, xtx, xds⟩ : Ov) := (hg2.block _ (OpBlk.lt' HPQ.out) (by simp)).trans HPQ.out
        go_upto_region 6 with (at_builtin; refine wpList_append_own _ rfl _ _ 33 rfl (w.heap.size + 1) 29 i0 (.agg #[.int .i64 0, .int .i64 0, .int .i64 0, .slice none 0 0, .int .i64 0, .int .i64 0, .int .i64 0, .int .i64 0, .int .i64 0, .int .i64 0, .string ByteArray.empty, .string ByteArray.empty]) 12 128 Tryz.underlying33 hi hz0 hz1 hz2 rfl (by decide) _ 0 [] rfl ho2 ⟨g, off, none⟩ A.length _ (rowCs A) rfl hl1 hnA honeA (by unfold maxLen; omega) (by omega) (by omega) ?_)
        intro v3 w3 ho3 hg3 _
        have hs3 := hg3.size
        have hb3 : Below w.heap.size w w3 := hb2.grown hg3 (by omega) (fun k e => by simp only [Value.ownBlock, Option.some.injEq] at e; omega)
        have hP3 : OpBlk w3 w.heap.size (⟨xa, xs, xt, .slice da dn dc, xk, xo, xn, xu, xpt, xpa, xky, xtx, xds⟩ : Ov) := (hg3.block _ (OpBlk.lt' hP2) (fun e => by simp only [Value.ownBlock, Option.some.injEq] at e; omega)).trans hP2
        obtain ⟨va3, vc3, e3⟩ : ∃ ao c, v3 = .slice ao A.length c := by rcases ho3.2 with ⟨h, h'⟩ | ⟨g', c', cur, h, _⟩; exact ⟨_, _, by rw [h, h']⟩; exact ⟨_, _, h⟩
        subst e3
        have hrgX : w3.rangeAt w.heap.size 0 [.int .i64 xa, .int .i64 xs, .int .i64 xt, .slice da dn dc, .int .i64 xk, .int .i64 xo, .int .i64 xn, .int .i64 xu, .int .i64 xpt, .int .i64 xpa, .string xky, .string xtx] := opBlk_range hP3
        have hcn := opNew w3 (⟨xa, xs, xt, .slice da dn dc, xk, xo, xn, xu, xpt, xpa, xky, xtx, xds⟩ : Ov)
        have hlt3 := fun k hk => (World.ownsRow.lt ho3 k hk).1
        clear hg3 hg2 ho2 hP2 hnA HPQ
        go_upto_region 7 with (first | (refine wpList_load_mid rfl 29 _ rfl w.heap.size 0 rfl [.int .i64 xa, .int .i64 xs, .int .i64 xt, .slice da dn dc, .int .i64 xk, .int .i64 xo, .int .i64 xn, .int .i64 xu, .int .i64 xpt, .int .i64 xpa, .string xky, .string xtx] _ hrgX Tryz.underlying29 rfl HIX.out ?_) | (at_builtin; refine wpList_append_own _ rfl _ _ 33 rfl (w.heap.size + 1) 29 i0 (.agg #[.int .i64 0, .int .i64 0, .int .i64 0, .slice none 0 0, .int .i64 0, .int .i64 0, .int .i64 0, .int .i64 0, .int .i64 0, .int .i64 0, .string ByteArray.empty, .string ByteArray.empty]) 12 128 Tryz.underlying33 hi hz0 hz1 hz2 rfl (by decide) _ A.length _ rfl (World.ownsRow.alloc ho3 _) ⟨w3.heap.size, 0, none⟩ 1 1 (Ov.cs (⟨xa, xs, xt, .slice da dn dc, xk, xo, xn, xu, xpt, xpa, xky, xtx, xds⟩ : Ov)) rfl rfl hcn hone1 (by unfold maxLen; omega) (by omega) (by rw [World.size_alloc]; omega) ?_))
        intro v4 w4 ho4 hg4 _
        have hs4 := hg4.size
        rw [World.size_alloc] at hs4
        have hb4 : Below w.heap.size w w4 := (hb3.alloc (by omega) _).grown hg4 (by rw [World.size_alloc]; omega) (fun k e => by have := hlt3 k e; omega)
        obtain ⟨va4, vc4, e4⟩ : ∃ ao c, v4 = .slice ao (A.length + 1) c := by rcases ho4.2 with ⟨h, h'⟩ | ⟨g', c', cur, h, _⟩; omega; exact ⟨_, _, h⟩
        subst e4
        have hnR := (HCL.out w4 hb4).2
        have hlt4 := fun k hk => (World.ownsRow.lt ho4 k hk).1
        have hl3' : (rowCs R).length = (L.length - A.length) * 12 := by rw [hl3, HLLB.out]
        clear hg4 ho3 hcn hrgX hP3 hl3 hl1 HCL
        go_wp2_with (at_builtin; refine wpList_append_own _ rfl _ _ 33 rfl (w.heap.size + 1) 29 i0 (.agg #[.int .i64 0, .int .i64 0, .int .i64 0, .slice none 0 0, .int .i64 0, .int .i64 0, .int .i64 0, .int .i64 0, .int .i64 0, .int .i64 0, .string ByteArray.empty, .string ByteArray.empty]) 12 128 Tryz.underlying33 hi hz0 hz1 hz2 rfl (by decide) _ (A.length + 1) _ rfl ho4 ⟨g, off, none⟩ 0 _ (rowCs R) rfl (by rw [hl3']; omega) hnR honeR (by unfold maxLen; omega) (by omega) (by omega) ?_)
        intro v5 w5 ho5 hg5 _
        have hb5 : Below w.heap.size w w5 := hb4.grown hg5 (by omega) (fun k e => by have := hlt4 k e; omega)
        go_wp2_with fail
        go_ret
        refine ⟨_, rfl, ?_, hb5⟩
        rw [HT.out, List.append_assoc, show (A ++ ((⟨xa, xs, xt, .slice da dn dc, xk, xo, xn, xu, xpt, xpa, xky, xtx, xds⟩ : Ov) :: R)).length = A.length + 1 by rw [HTL.out]; have := HLLB.out; omega]
        exact owns_base (B := w.heap.size + 1) ho5 (by omega)
      · go_wp2_with fail
        go_quiet (fail)
        have hbq := below_drewN hb nq
        generalize wr.drewN nq = wq at hbq ⊢
        obtain ⟨hbw, hsq⟩ : Below w.heap.size w wq ∧ w.heap.size < wq.heap.size := ⟨below_seq HB0.out hbq, by have := hbq.size; have := HS0.out; omega⟩
        have HPQ : Hid (OpBlk wq w.heap.size (⟨xa, xs, xt, .slice da dn dc, xk, xo, xn, xu, xpt, xpa, xky, xtx, xds⟩ : Ov)) := HP0.out wq hbq
        have HT : Hid (rowCs (A ++ ((⟨xa, xs, xt, .slice da dn dc, xk, xo, xn, xu, xpt, xpa, xky, xtx, xds⟩ : Ov) :: R)) = (rowCs A ++ Ov.cs (⟨xa, xs, xt, .slice da dn dc, xk, xo, xn, xu, xpt, xpa, xky, xtx, xds⟩ : Ov)) ++ rowCs R) := by unfold Hid; rw [rowCs_app, show (⟨xa, xs, xt, .slice da dn dc, xk, xo, xn, xu, xpt, xpa, xky, xtx, xds⟩ : Ov) :: R = [(⟨xa, xs, xt, .slice da dn dc, xk, xo, xn, xu, xpt, xpa, xky, xtx, xds⟩ : Ov)] ++ R from rfl, rowCs_app, ← List.append_assoc]; simp [rowCs]
        have HTL : Hid ((A ++ ((⟨xa, xs, xt, .slice da dn dc, xk, xo, xn, xu, xpt, xpa, xky, xtx, xds⟩ : Ov) :: R)).length = 0 + A.length + 1 + R.length) := by unfold Hid; rw [List.length_append, List.length_cons]; omega
        have HCL : Hid (∀ w9, Below w.heap.size w w9 → (∀ j u, (rowCs A)[j]? = some u → w9.cell? ((⟨g, off, none⟩ : Addr).add j) = some u) ∧ (∀ j u, (rowCs R)[j]? = some u → w9.cell? ((⟨g, off + A.length * 12, none⟩ : Addr).add j) = some u)) := fun w9 hb9 => by
          have hLL := HLL.out
          refine ⟨fun j u hj => ?_, fun j u hj => ?_⟩
          · rw [Addr.add_mid]
            have hjl := (List.getElem?_eq_some_iff.1 hj).1
            rw [rowCs_len] at hjl
            obtain ⟨hg, hcs⟩ := hrowc (by omega)
            exact rdO_cells (fun k hk => (hcs k hk).below (hb9.mono hC) hg) j u (by rw [HLA.out, rowCs_app, List.getElem?_append_left (by rw [rowCs_len]; exact hjl)]; exact hj)
          · have hjl := (List.getElem?_eq_some_iff.1 hj).1
            rw [rowCs_len] at hjl
            rw [Addr.add_mid]
            obtain ⟨hg, hcs⟩ := hrowc (by omega)
            have := rdO_cells (fun k hk => (hcs k hk).below (hb9.mono hC) hg) (A.length * 12 + j) u (by rw [HLA.out, rowCs_app, List.getElem?_append_right (by rw [rowCs_len]; omega), rowCs_len, show A.length * 12 + j - A.length * 12 = j by omega]; exact hj)
            rwa [← Nat.add_assoc] at this
        have honeA : ∀ u ∈ rowCs A, u.oneCell' = true := rowCs_ones (fun y hy => hone y (by rw [HLA.out]; exact List.mem_append_left _ hy))
        have honeR : ∀ u ∈ rowCs R, u.oneCell' = true := rowCs_ones (fun y hy => hone y (by rw [HLA.out]; exact List.mem_append_right _ hy))
        have hone1 : ∀ u ∈ Ov.cs (⟨xa, xs, xt, .slice da dn dc, xk, xo, xn, xu, xpt, xpa, xky, xtx, xds⟩ : Ov), u.oneCell' = true := cs_one (⟨xa, xs, xt, .slice da dn dc, xk, xo, xn, xu, xpt, xpa, xky, xtx, xds⟩ : Ov) rfl
        have hLL := HLL.out
        have hl1 := rowCs_len A
        have hl3 := rowCs_len R
        have HLLB : Hid (R.length = L.length - A.length) := by unfold Hid; omega
        clear hrowc HC0 HP0 hll2
        go_upto_region 5 with (at_make; refine wpList_make_own _ rfl _ _ 33 rfl (w.heap.size + 1) 29 i0 (.agg #[.int .i64 0, .int .i64 0, .int .i64 0, .slice none 0 0, .int .i64 0, .int .i64 0, .int .i64 0, .int .i64 0, .int .i64 0, .int .i64 0, .string ByteArray.empty, .string ByteArray.empty]) 12 Tryz.underlying33 hi hz0 hz1 _ _ _ (L.length + 1) rfl rfl (by omega) (by rw [hz2]; omega) (by unfold maxLen; omega) (by omega) ?_)
        intro w2 ho2 hg2
        have hb2 : Below w.heap.size w w2 := hbw.grown hg2 (by omega) (fun k e => by cases e)
        have hs2 := hg2.size
        have hnA := (HCL.out w2 hb2).1
        have hP2 : OpBlk w2 w.heap.size (⟨xa, xs, xt, .slice da dn dc, xk, xo, xn, xu, xpt, xpa, xky, xtx, xds⟩ : Ov) := (hg2.block _ (OpBlk.lt' HPQ.out) (by simp)).trans HPQ.out
        go_upto_region 6 with (at_builtin; refine wpList_append_own _ rfl _ _ 33 rfl (w.heap.size + 1) 29 i0 (.agg #[.int .i64 0, .int .i64 0, .int .i64 0, .slice none 0 0, .int .i64 0, .int .i64 0, .int .i64 0, .int .i64 0, .int .i64 0, .int .i64 0, .string ByteArray.empty, .string ByteArray.empty]) 12 128 Tryz.underlying33 hi hz0 hz1 hz2 rfl (by decide) _ 0 [] rfl ho2 ⟨g, off, none⟩ A.length _ (rowCs A) rfl hl1 hnA honeA (by unfold maxLen; omega) (by omega) (by omega) ?_)
        intro v3 w3 ho3 hg3 _
        have hs3 := hg3.size
        have hb3 : Below w.heap.size w w3 := hb2.grown hg3 (by omega) (fun k e => by simp only [Value.ownBlock, Option.some.injEq] at e; omega)
        have hP3 : OpBlk w3 w.heap.size (⟨xa, xs, xt, .slice da dn dc, xk, xo, xn, xu, xpt, xpa, xky, xtx, xds⟩ : Ov) := (hg3.block _ (OpBlk.lt' hP2) (fun e => by simp only [Value.ownBlock, Option.some.injEq] at e; omega)).trans hP2
        obtain ⟨va3, vc3, e3⟩ : ∃ ao c, v3 = .slice ao A.length c := by rcases ho3.2 with ⟨h, h'⟩ | ⟨g', c', cur, h, _⟩; exact ⟨_, _, by rw [h, h']⟩; exact ⟨_, _, h⟩
        subst e3
        have hrgX : w3.rangeAt w.heap.size 0 [.int .i64 xa, .int .i64 xs, .int .i64 xt, .slice da dn dc, .int .i64 xk, .int .i64 xo, .int .i64 xn, .int .i64 xu, .int .i64 xpt, .int .i64 xpa, .string xky, .string xtx] := opBlk_range hP3
        have hcn := opNew w3 (⟨xa, xs, xt, .slice da dn dc, xk, xo, xn, xu, xpt, xpa, xky, xtx, xds⟩ : Ov)
        have hlt3 := fun k hk => (World.ownsRow.lt ho3 k hk).1
        clear hg3 hg2 ho2 hP2 hnA HPQ
        go_upto_region 7 with (first | (refine wpList_load_mid rfl 29 _ rfl w.heap.size 0 rfl [.int .i64 xa, .int .i64 xs, .int .i64 xt, .slice da dn dc, .int .i64 xk, .int .i64 xo, .int .i64 xn, .int .i64 xu, .int .i64 xpt, .int .i64 xpa, .string xky, .string xtx] _ hrgX Tryz.underlying29 rfl HIX.out ?_) | (at_builtin; refine wpList_append_own _ rfl _ _ 33 rfl (w.heap.size + 1) 29 i0 (.agg #[.int .i64 0, .int .i64 0, .int .i64 0, .slice none 0 0, .int .i64 0, .int .i64 0, .int .i64 0, .int .i64 0, .int .i64 0, .int .i64 0, .string ByteArray.empty, .string ByteArray.empty]) 12 128 Tryz.underlying33 hi hz0 hz1 hz2 rfl (by decide) _ A.length _ rfl (World.ownsRow.alloc ho3 _) ⟨w3.heap.size, 0, none⟩ 1 1 (Ov.cs (⟨xa, xs, xt, .slice da dn dc, xk, xo, xn, xu, xpt, xpa, xky, xtx, xds⟩ : Ov)) rfl rfl hcn hone1 (by unfold maxLen; omega) (by omega) (by rw [World.size_alloc]; omega) ?_))
        intro v4 w4 ho4 hg4 _
        have hs4 := hg4.size
        rw [World.size_alloc] at hs4
        have hb4 : Below w.heap.size w w4 := (hb3.alloc (by omega) _).grown hg4 (by rw [World.size_alloc]; omega) (fun k e => by have := hlt3 k e; omega)
        obtain ⟨va4, vc4, e4⟩ : ∃ ao c, v4 = .slice ao (A.length + 1) c := by rcases ho4.2 with ⟨h, h'⟩ | ⟨g', c', cur, h, _⟩; omega; exact ⟨_, _, h⟩
        subst e4
        have hnR := (HCL.out w4 hb4).2
        have hlt4 := fun k hk => (World.ownsRow.lt ho4 k hk).1
        have hl3' : (rowCs R).length = (L.length - A.length) * 12 := by rw [hl3, HLLB.out]
        clear hg4 ho3 hcn hrgX hP3 hl3 hl1 HCL
        go_wp2_with (at_builtin; refine wpList_append_own _ rfl _ _ 33 rfl (w.heap.size + 1) 29 i0 (.agg #[.int .i64 0, .int .i64 0, .int .i64 0, .slice none 0 0, .int .i64 0, .int .i64 0, .int .i64 0, .int .i64 0, .int .i64 0, .int .i64 0, .string ByteArray.empty, .string ByteArray.empty]) 12 128 Tryz.underlying33 hi hz0 hz1 hz2 rfl (by decide) _ (A.length + 1) _ rfl ho4 ⟨g, off + A.length * 12, none⟩ (L.length - A.length) _ (rowCs R) rfl hl3' hnR honeR (by unfold maxLen; omega) (by omega) (by omega) ?_)
        intro v5 w5 ho5 hg5 _
        have hb5 : Below w.heap.size w w5 := hb4.grown hg5 (by omega) (fun k e => by have := hlt4 k e; omega)
        go_wp2_with fail
        go_ret
        refine ⟨_, rfl, ?_, hb5⟩
        rw [HT.out, List.append_assoc, show (A ++ ((⟨xa, xs, xt, .slice da dn dc, xk, xo, xn, xu, xpt, xpa, xky, xtx, xds⟩ : Ov) :: R)).length = A.length + 1 + (L.length - A.length) by rw [HTL.out]; have := HLLB.out; omega]
        exact owns_base (B := w.heap.size + 1) ho5 (by omega)
end Go.Proofs.YtmmkmkaannlkhaaGreatDoor

namespace Go.Proofs.YtmmkmkaannlkhaaGreatDoor
open Go.RowKit
set_option linter.unusedVariables false

theorem ovAt_getElem {L : List Ov} {k : Nat} (h : k < L.length) : L[k] = ovAt L k := by
  have := ovAt_get h
  rw [List.getElem?_eq_getElem h] at this
  exact Option.some.inj this
theorem numbered_of {L : List Ov} (h : ∀ i, i < L.length → stepN L i = true) (a i : Nat) (hi : i < (byA L a).length) : (ovAt (byA L a) i).s = (i : Int) + 1 := by
  have := seq_at h a L.length (Nat.le_refl _) i
  rw [List.take_length] at this
  exact this hi
/-- The first of a list that has the name of x. -/
theorem find_first {W : List Ov} {x : Ov} {p : Nat} (hp : p < W.length) (hn : nameB x (ovAt W p) = true) (h : ∀ q, q < p → nameB x (ovAt W q) = false) : W.find? (nameB x) = some (ovAt W p) := by
  rw [List.find?_eq_some_iff_getElem]
  refine ⟨hn, p, hp, ovAt_getElem hp, fun j hj => ?_⟩
  rw [ovAt_getElem (by omega), h j hj]
  rfl
theorem find_not {W : List Ov} {x : Ov} (h : ∀ q, q < W.length → nameB x (ovAt W q) = false) : W.find? (nameB x) = none := by
  rw [List.find?_eq_none]
  intro y hy
  obtain ⟨q, hq, rfl⟩ := List.mem_iff_getElem.1 hy
  rw [ovAt_getElem hq, h q hq]
  exact Bool.false_ne_true
theorem find_log {L : List Ov} (h : ∀ i, i < L.length → stepN L i = true) {x : Ov} {a m : Nat} (ha : x.a = (a : Int)) (hs : x.s = ((m + 1 : Nat) : Int)) {i : Nat} (hS : Stand L a i) (hm : m < (byA L a).length) :
    i + m < L.length ∧ L.find? (nameB x) = some (ovAt L (i + m)) ∧ (ovAt L (i + m)).a = x.a ∧ (ovAt L (i + m)).s = x.s := by
  have hf := hS.fit
  have hsq : ∀ q, q < (byA L a).length → (ovAt L (i + q)).s = (q : Int) + 1 := fun q hq => by rw [(hS.yes q hq).1]; exact numbered_of h a q hq
  have h1 : (ovAt L (i + m)).a = x.a := by rw [ha]; exact (hS.yes m hm).2
  have h2 : (ovAt L (i + m)).s = x.s := by rw [hs, hsq m hm]; omega
  refine ⟨by omega, find_first (by omega) (by unfold nameB; simp [h1, h2]) (fun q hq => ?_), h1, h2⟩
  unfold nameB
  rw [decide_eq_false_iff_not]
  rintro ⟨e1, e2⟩
  by_cases l : q < i
  · exact hS.no q l (e1.trans ha)
  · obtain ⟨r, rfl⟩ : ∃ r, q = i + r := ⟨q - i, by omega⟩
    rw [hsq r (by omega), hs] at e2
    omega
theorem find_log_none {L : List Ov} (h : ∀ i, i < L.length → stepN L i = true) {x : Ov} {a m : Nat} (ha : x.a = (a : Int)) (hs : x.s = ((m + 1 : Nat) : Int)) (hm : (byA L a).length ≤ m) : L.find? (nameB x) = none := by
  rw [List.find?_eq_none]
  intro y hy hc
  unfold nameB at hc
  rw [decide_eq_true_eq] at hc
  have hmem : y ∈ byA L a := List.mem_filter.2 ⟨hy, by simpa using hc.1.trans ha⟩
  obtain ⟨q, hq, e⟩ := List.mem_iff_getElem.1 hmem
  rw [ovAt_getElem hq] at e
  have := numbered_of h a q hq
  rw [e, hc.2, hs] at this
  omega
theorem ok_seq {x : Ov} (h : x.ok = true) : 1 ≤ x.s ∧ x.s ≤ 1000000000000 := by
  unfold Ov.ok opB comesOK at h
  simp only [Bool.and_eq_true, decide_eq_true_eq] at h
  omega
/-- The three ways of one more. -/
theorem unkS_log {L acc : List Ov} {x y : Ov} (h : L.find? (nameB x) = some y) : unkS L (some acc) x = if sameB y x = true then some acc else none := by
  unfold unkS
  simp [List.find?_append, h]
theorem unkS_wait {L acc : List Ov} {x y : Ov} (h : L.find? (nameB x) = none) (h2 : acc.find? (nameB x) = some y) : unkS L (some acc) x = if sameB y x = true then some acc else none := by
  unfold unkS
  simp [List.find?_append, h, h2]
theorem unkS_new {L acc : List Ov} {x : Ov} (h : L.find? (nameB x) = none) (h2 : acc.find? (nameB x) = none) : unkS L (some acc) x = some (acc ++ [x]) := by
  unfold unkS
  simp [List.find?_append, h, h2]
/-- At a fork there is a first one that forks. -/
theorem first_fork {L M : List Ov} (h : unk L M = none) : ∃ p acc, p < M.length ∧ unk L (M.take p) = some acc ∧ unkS L (some acc) (ovAt M p) = none := by
  have key : ∀ k, k ≤ M.length → unk L (M.take k) = none → ∃ p acc, p < M.length ∧ unk L (M.take p) = some acc ∧ unkS L (some acc) (ovAt M p) = none := by
    intro k
    induction k with
    | zero => intro _ h0; exact absurd h0 (by simp [unk])
    | succ k ih =>
      intro hk hn
      cases hu : unk L (M.take k) with
      | none => exact ih (by omega) hu
      | some acc =>
        refine ⟨k, acc, by omega, hu, ?_⟩
        rw [take_snoc (by omega), unk_snoc, hu] at hn
        exact hn
  exact key M.length (Nat.le_refl _) (by rw [List.take_length]; exact h)
end Go.Proofs.YtmmkmkaannlkhaaGreatDoor
