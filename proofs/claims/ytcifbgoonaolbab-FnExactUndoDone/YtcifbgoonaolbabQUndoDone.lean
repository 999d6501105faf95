/- FnExactUndoDone answers true at every list of operations and every number, and leaves all old memory as it was: the code's UndoDone answers as the specification's, its answer owns its memory. No condition. -/
import Derived.Test.YtcifbgoonaolbabRows
import Derived.Test.YtcifbgoonaolbabQOpEqToUndoWalk
import Derived.Test.YtcifbgoonaolbabQUndoImplToUndoSpec2
import Derived.Test.YtcifbgoonaolbabQOpToToLawKit
import Derived.Test.YtcifbgoonaolbabQFrameOp
namespace Go.Proofs.Ytcifbgoonaolbab
open Go.ChangeShapes Go.WideShapes Go.ChangeAt Go.RowKit
set_option linter.unusedVariables false

theorem sameL_tail {x y : Ov} {M L : List Ov} (h : SameL (x :: M) (y :: L)) : SameL M L := ⟨by have := h.1; simpa using this, fun k hk => h.2 (k + 1) (by simpa using hk)⟩
theorem any_same {xa xs : Int} : ∀ (M L : List Ov) (U : List Bool), SameL M L → (M.zip U).any (fun p => decide (p.1.a = xa) && (decide (p.1.u = xs) && !p.2)) = (L.zip U).any (fun p => decide (p.1.a = xa) && (decide (p.1.u = xs) && !p.2))
  | [], L, U, h => by
    have : L = [] := List.eq_nil_of_length_eq_zero (by rw [← h.1]; rfl)
    rw [this]
  | x :: M, [], U, h => by have := h.1; simp at this
  | x :: M, y :: L, [], h => rfl
  | x :: M, y :: L, b :: U, h => by
    obtain ⟨e1, _, _, _, _, _, _, e2, _⟩ := h.2 0 (by simp)
    have e1' : x.a = y.a := e1
    have e2' : x.u = y.u := e2
    rw [List.zip_cons_cons, List.zip_cons_cons, List.any_cons, List.any_cons, any_same M L U (sameL_tail h), e1', e2']
theorem udB_same : ∀ (M L : List Ov), SameL M L → udB M = udB L
  | [], L, h => by
    have : L = [] := List.eq_nil_of_length_eq_zero (by rw [← h.1]; rfl)
    rw [this]
  | x :: M, [], h => by have := h.1; simp at this
  | x :: M, y :: L, h => by
    obtain ⟨e1, e2, _⟩ := h.2 0 (by simp)
    have e1' : x.a = y.a := e1
    have e2' : x.s = y.s := e2
    rw [udB, udB, udB_same M L (sameL_tail h), e1', e2', any_same M L _ (sameL_tail h)]
theorem sqT_same {M L : List Ov} (h : SameL M L) (act : Int) : ∀ i, i ≤ M.length → sqT M act i = sqT L act i
  | 0, _ => rfl
  | i + 1, hi => by
    obtain ⟨e1, e2, _⟩ := h.2 i (by have := h.1; omega)
    have hu : uAt M i = uAt L i := by unfold uAt; rw [udB_same M L h]
    rw [sqT, sqT, sqT_same h act i (by omega), e1, e2, hu]
theorem undo_same (act : Int) {M L : List Ov} (h : SameL M L) : ansUD act M = ansUD act L ∧ codUD act M = codUD act L := by
  unfold ansUD codUD
  rw [logI_same h, sqT_same h act _ (Nat.le_refl _), h.1]
  exact ⟨rfl, rfl⟩

set_option maxRecDepth 100000 in
theorem fnExactUndoDone_lifted (os : Os) (started : os.Started) (H : Type) (enc : TypeId × Value → H) :
    ReturnsInHanded {} Try.checked os 3 .any (Rows.fnExactUndoDoneSpec.pre6 enc Try.prog Try.f3 Rows.fnExactUndoDoneRow.domain false) (Rows.fnExactUndoDoneSpec.post enc Try.prog Try.f3 false true false false) := by
  refine returnsInHanded_of_change (C := Try.checked) own_knob started (by kernel_rfl) Try.func3
    (ChangeSpec.witness6 (enc := enc) (C := Try.checked) false ⟨#[], #[.slice none 0 0, .int .i64 0], []⟩ 8 (by kernel_rfl) (by kernel_rfl) (by kernel_rfl) (by kernel_rfl)) ?_
  intro W base args ds gs before hval0 hW hcnd _
  have hval : ∀ (j : Nat) t v, Try.f3.params[j]? = some t → args[j]? = some v → Value.okWide Try.prog W .any base t v := hval0
  have hW' := hW
  obtain ⟨p, q, hA0, hV, rfl, hfz, hnd⟩ := hW
  have hA : DataW.TrodAll enc Try.prog W 0 (fun _ => true) true Try.f3.params.toList args.toList ds p := hA0
  rw [Try.params3] at hA hval
  obtain ⟨v0, vs0, d0, ds0, p0, q0, hargs, rfl, rfl, h0, r0⟩ := trodAll_cons hA
  obtain ⟨v1, vs1, d1, ds1, p1, q1, rfl, rfl, rfl, h1, r1⟩ := trodAll_cons r0
  obtain ⟨rfl, rfl, rfl⟩ := trodAll_nil r1
  obtain rfl : args = #[v0, v1] := by cases args; simp_all
  obtain ⟨rfl, rfl⟩ := trodVars_none hV
  have k0 := h0
  have lt0 : ∀ x ∈ p0, x.block < W.heap.size := by obtain ⟨m, hm⟩ := k0; exact DataW.trod_lt m _ _ _ hm
  obtain ⟨a0, len0, cap0, rfl⟩ := okWide_slice Try.underlying22 (hval 0 22 v0 rfl rfl)
  obtain ⟨n1, rfl, rfl, rfl, w1⟩ := open_int Try.underlying3 (hval 1 3 v1 rfl rfl) h1
  obtain ⟨fuel, hf⟩ := h0
  obtain ⟨L, hL, ht⟩ := open_ops (c := .slice a0 len0 cap0) hf
  clear hA0 hval0
  refine (lawUndoDone_walk (ansUD n1) (codUD n1) n1 (ansUD_len n1) (fun M L h => undo_same n1 h) (specUndoDone_any n1) (implUndoDone_any n1) W _ L hL ht).mono fun e W' ⟨he, bel⟩ => ?_
  subst he
  exact ⟨_, rfl, _, _, _, [], _, [], hW', trodAll_mk1 (shut_bool Try.underlying4 _), (trodAll_cons_mk (Below.trod laid_out (by kernel_rfl) (of_decide_eq_true (by kernel_rfl)) k0 bel lt0) (trodAll_cons_mk (shut_int Try.underlying3 w1) trodAll_mk0)), rfl, bel.frame _, fun h => by cases h⟩

theorem fnExactUndoDone_over : Rows.fnExactUndoDoneRow.holds Try.pinned (OpenSpec.ofChange Rows.fnExactUndoDoneSpec) :=
  OpenClaim.holds_of_wide 3 Try.f3 rfl rfl rfl rfl rfl rfl rfl ⟨rfl, rfl, rfl, rfl, rfl⟩ rfl rfl rfl rfl rfl (by kernel_rfl) Try.func3 (by kernel_rfl)
    (of_decide_eq_true (by kernel_rfl)) (by unfold Func.isWrapper; first | (rw [if_pos (by decide +kernel)]; kernel_rfl) | (rw [if_neg (by decide +kernel)]; exact ⟨rfl, rfl⟩))
    (fun os started H enc _ => fnExactUndoDone_lifted os started H enc)

theorem fnExactUndoDone_holds : Rows.FnExactUndoDoneSaid := fnExactUndoDone_over
#print axioms fnExactUndoDone_holds
end Go.Proofs.Ytcifbgoonaolbab
