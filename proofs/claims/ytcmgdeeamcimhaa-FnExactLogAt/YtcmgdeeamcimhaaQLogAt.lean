/- FnExactLogAt answers true at every list of operations and every vector, and leaves all old memory as it was: the code's LogAt answers as the specification's, its answer owns its memory. No condition. -/
import Derived.Test.YtcmgdeeamcimhaaRows
import Derived.Test.YtcmgdeeamcimhaaQAtWalk
import Derived.Test.YtcmgdeeamcimhaaQAtSpec
import Derived.Test.YtcmgdeeamcimhaaQOpToToLawKit
import Derived.Test.YtcmgdeeamcimhaaQFrameVec
import Derived.Test.YtcmgdeeamcimhaaQFrameOp
namespace Go.Proofs.Ytcmgdeeamcimhaa
open Go.ChangeShapes Go.WideShapes Go.ChangeAt Go.RowKit
set_option linter.unusedVariables false

theorem ansAt_len (L : List Ov) (ys : List Int) : (ansAt L ys).length ≤ L.length := by
  unfold ansAt
  split
  · exact countL_len ys L
  · simp
theorem ansAt_ds (L : List Ov) (ys : List Int) : ∀ x ∈ ansAt L ys, x.ds.length ≤ 1048576 := by
  intro x hx
  unfold ansAt at hx
  split at hx
  · rename_i h
    rw [Bool.and_eq_true, Bool.and_eq_true] at h
    have := vec_16 (ok_parts ((valid_parts h.1.1).2.1 x (countL_mem hx))).2.2
    omega
  · exact absurd hx (by simp)
theorem cnts_sameA {M L : List Ov} (h : SameL M L) : cnts M = cnts L := by
  have key : ∀ (M L : List Ov) (a : Nat), SameL M L → (byA M a).length = (byA L a).length := by
    intro M
    induction M with
    | nil =>
      intro L a h
      have : L = [] := List.eq_nil_of_length_eq_zero (by rw [← h.1]; rfl)
      rw [this]
    | cons x M ih =>
      intro L a h
      cases L with
      | nil => have := h.1; simp at this
      | cons y L =>
        have e : x.a = y.a := (h.2 0 (by simp)).1
        have hi := ih L a ⟨by have := h.1; simpa using this, fun k hk => h.2 (k + 1) (by simpa using hk)⟩
        unfold byA at hi ⊢
        rw [List.filter_cons, List.filter_cons, e]
        by_cases ha : y.a = (a : Int)
        · simp [ha, hi]
        · simp [ha, hi]
  unfold cnts
  apply List.map_congr_left
  intro a _
  rw [key M L a h]
theorem count_same : ∀ (M L : List Ov) (ys : List Int), SameL M L → SameL (countL ys M) (countL ys L) ∧ (countL ys M).all (fun x => covB ys x.ds) = (countL ys L).all (fun x => covB ys x.ds) := by
  intro M
  induction M with
  | nil =>
    intro L ys h
    have : L = [] := List.eq_nil_of_length_eq_zero (by rw [← h.1]; rfl)
    rw [this]
    exact ⟨⟨rfl, fun k hk => absurd hk (by simp [countL])⟩, rfl⟩
  | cons x M ih =>
    intro L ys h
    cases L with
    | nil => have := h.1; simp at this
    | cons y L =>
      have h0 : x.same y := h.2 0 (by simp)
      obtain ⟨hi, hj⟩ := ih L ys ⟨by have := h.1; simpa using this, fun k hk => h.2 (k + 1) (by simpa using hk)⟩
      have ea : x.a = y.a := h0.1
      have es : x.s = y.s := h0.2.1
      have ed : x.ds = y.ds := h0.2.2.2.1
      unfold countL at hi hj ⊢
      rw [List.filter_cons, List.filter_cons, ea, es]
      by_cases c : y.s ≤ ys.getD y.a.toNat 0
      · rw [if_pos (decide_eq_true c), if_pos (decide_eq_true c)]
        refine ⟨⟨by rw [List.length_cons, List.length_cons, hi.1], fun k hk => ?_⟩, by rw [List.all_cons, List.all_cons, hj, ed]⟩
        cases k with
        | zero => exact h0
        | succ k => exact hi.2 k (by simpa using hk)
      · rw [if_neg (by rw [decide_eq_false c]; exact Bool.false_ne_true), if_neg (by rw [decide_eq_false c]; exact Bool.false_ne_true)]
        exact ⟨hi, hj⟩
theorem canCut_same {M L : List Ov} {ys : List Int} (h : SameL M L) : canCut M ys = canCut L ys := by
  unfold canCut
  rw [cnts_sameA h, (count_same M L ys h).2]
theorem at_same {M L : List Ov} {ys : List Int} (h : SameL M L) : SameL (ansAt M ys) (ansAt L ys) ∧ codAt M ys = codAt L ys := by
  unfold ansAt codAt
  rw [logI_same h, canCut_same h]
  refine ⟨?_, rfl⟩
  split
  · exact (count_same M L ys h).1
  · exact ⟨rfl, fun k hk => absurd hk (by simp)⟩
theorem specAt_any (C : Nat) (w : World) (v vv : Value) (L : List Ov) (ys : List Int) (hC : C ≤ w.heap.size) (hr : RdO C w v L) (hv : Rd C w vv (ys.map (Value.int .i64))) :
    Calls Try.prog 6 #[v, .agg #[vv]] w fun e w' => ∃ r M, e = .returned (.tuple #[r, .int .i64 (codAt L ys)]) ∧ SameL M (ansAt L ys) ∧ RdO w'.heap.size w' r M ∧ Below w.heap.size w w' := by
  unfold ansAt codAt
  cases h : (logI L && vecOK ys) with
  | true =>
    have h' := h
    rw [Bool.and_eq_true] at h'
    rw [Bool.true_and]
    refine (specLogAt_yes C w v vv L ys hC hr hv h'.1 h'.2).mono ?_
    rintro e w' ⟨r, M, ⟨hc, rfl, hs⟩ | ⟨hc, rfl, rfl⟩, hR, hb⟩
    · exact ⟨r, M, by rw [hc, if_pos rfl, if_pos rfl], by rw [hc, if_pos rfl]; exact hs, hR, hb⟩
    · exact ⟨r, [], by rw [hc, if_pos rfl, if_neg Bool.false_ne_true], by rw [hc, if_neg Bool.false_ne_true]; exact ⟨rfl, fun k hk => absurd hk (by simp)⟩, hR, hb⟩
  | false =>
    rw [Bool.false_and, if_neg Bool.false_ne_true, if_neg Bool.false_ne_true]
    refine (specLogAt_no C w v vv L ys hC hr hv h).mono ?_
    rintro e w' ⟨r, rfl, hR, hb⟩
    exact ⟨r, [], rfl, ⟨rfl, fun k hk => absurd hk (by simp)⟩, hR, hb⟩

set_option maxRecDepth 100000 in
theorem fnExactLogAt_lifted (os : Os) (started : os.Started) (H : Type) (enc : TypeId × Value → H) :
    ReturnsInHanded {} Try.checked os 3 .any (Rows.fnExactLogAtSpec.pre6 enc Try.prog Try.f3 Rows.fnExactLogAtRow.domain false) (Rows.fnExactLogAtSpec.post enc Try.prog Try.f3 false true false false) := by
  refine returnsInHanded_of_change (C := Try.checked) own_knob started (by kernel_rfl) Try.func3
    (ChangeSpec.witness6 (enc := enc) (C := Try.checked) false ⟨#[], #[.slice none 0 0, .agg #[.slice none 0 0]], []⟩ 8 (by kernel_rfl) (by kernel_rfl) (by kernel_rfl) (by kernel_rfl)) ?_
  intro W base args ds gs before hval0 hW hcnd _
  have hval : ∀ (j : Nat) t v, Try.f3.params[j]? = some t → args[j]? = some v → Value.okWide Try.prog W .any base t v := hval0
  have hW' := hW
  obtain ⟨p, q, hA0, hV, rfl, hfz, hnd⟩ := hW
  have hA : DataW.TrodAll enc Try.prog W 0 (fun _ => true) true Try.f3.params.toList args.toList ds p := hA0
  rw [Try.params3] at hA hval
  obtain ⟨v0, vs0, d0, ds0, p0, q0, hargs, rfl, rfl, h0, r0⟩ := trodAll_cons hA
  obtain ⟨v1, vs1, d1, ds1, p1, q1, rfl, rfl, rfl, h1, r1⟩ := trodAll_cons r0
  obtain ⟨rfl, rfl, rfl⟩ := trodAll_nil r1
  obtain rfl : args = #[v0, v1] := by cases args; simp_all
  obtain ⟨rfl, rfl⟩ := trodVars_none hV
  have k0 := h0
  have lt0 : ∀ x ∈ p0, x.block < W.heap.size := by obtain ⟨m, hm⟩ := k0; exact DataW.trod_lt m _ _ _ hm
  have k1 := h1
  have lt1 : ∀ x ∈ p1, x.block < W.heap.size := by obtain ⟨m, hm⟩ := k1; exact DataW.trod_lt m _ _ _ hm
  obtain ⟨a0, len0, cap0, rfl⟩ := okWide_slice Try.underlying22 (hval 0 22 v0 rfl rfl)
  obtain ⟨va, la, ca, za, rfl, hra⟩ := open_vector (hval 1 25 v1 rfl rfl) h1
  obtain ⟨fuel, hf⟩ := h0
  obtain ⟨L, hL, ht⟩ := open_ops (c := .slice a0 len0 cap0) hf
  obtain ⟨hv, hla⟩ := hra.rd
  have hma : la ≤ maxLen := by
    obtain ⟨_, cap', e, h1, h2, _⟩ := hv
    simp only [Value.slice.injEq, List.length_map, hla] at e h1
    omega
  generalize za.take la = ys at hv hla
  subst hla
  clear hA0 hval0
  refine (lawLogAt_walk ansAt codAt ansAt_len (fun M L ys h => at_same h) ansAt_ds specAt_any implAt_any W _ L va ca ys hL ht hv hma).mono fun e W' ⟨he, bel⟩ => ?_
  subst he
  exact ⟨_, rfl, _, _, _, [], _, [], hW', trodAll_mk1 (shut_bool Try.underlying4 _), (trodAll_cons_mk (Below.trod laid_out (by kernel_rfl) (of_decide_eq_true (by kernel_rfl)) k0 bel lt0) (trodAll_cons_mk (Below.trod laid_out (by kernel_rfl) (of_decide_eq_true (by kernel_rfl)) k1 bel lt1) trodAll_mk0)), rfl, bel.frame _, fun h => by cases h⟩

theorem fnExactLogAt_over : Rows.fnExactLogAtRow.holds Try.pinned (OpenSpec.ofChange Rows.fnExactLogAtSpec) :=
  OpenClaim.holds_of_wide 3 Try.f3 rfl rfl rfl rfl rfl rfl rfl ⟨rfl, rfl, rfl, rfl, rfl⟩ rfl rfl rfl rfl rfl (by kernel_rfl) Try.func3 (by kernel_rfl)
    (of_decide_eq_true (by kernel_rfl)) (by unfold Func.isWrapper; first | (rw [if_pos (by decide +kernel)]; kernel_rfl) | (rw [if_neg (by decide +kernel)]; exact ⟨rfl, rfl⟩))
    (fun os started H enc _ => fnExactLogAt_lifted os started H enc)

theorem fnExactLogAt_holds : Rows.FnExactLogAtSaid := fnExactLogAt_over
#print axioms fnExactLogAt_holds
end Go.Proofs.Ytcmgdeeamcimhaa
