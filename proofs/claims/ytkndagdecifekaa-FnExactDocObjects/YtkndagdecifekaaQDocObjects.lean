/- FnExactDocObjects answers true at every list of operations, and leaves all old memory as it was: the code's DocObjects answers as the specification's, its answer owns its memory. No condition. -/
import Derived.Test.YtkndagdecifekaaRows
import Derived.Test.YtkndagdecifekaaQDocObjsWalk
import Derived.Test.YtkndagdecifekaaQDocObjsImplToDocObjsSpec
import Derived.Test.YtkndagdecifekaaQFrameOp
namespace Go.Proofs.Ytkndagdecifekaa
open Go.ChangeShapes Go.WideShapes Go.ChangeAt Go.RowKit
set_option linter.unusedVariables false

theorem tsOf_same {M L : List Ov} (h : SameL M L) : tsOf M = tsOf L := by
  have key : ∀ (M L : List Ov) (ts : List Int), SameL M L → M.foldl (fun ts x => ts.set x.o.toNat (thOf x.k)) ts = L.foldl (fun ts x => ts.set x.o.toNat (thOf x.k)) ts := by
    intro M
    induction M with
    | nil =>
      intro L ts h
      have : L = [] := List.eq_nil_of_length_eq_zero (by rw [← h.1]; rfl)
      rw [this]
    | cons x M ih =>
      intro L ts h
      cases L with
      | nil => have := h.1; simp at this
      | cons y L =>
        have h0 := h.2 0 (by simp)
        obtain ⟨_, _, _, _, e1, e2, _⟩ := h0
        have e1' : x.k = y.k := e1
        have e2' : x.o = y.o := e2
        rw [List.foldl_cons, List.foldl_cons, e1', e2']
        exact ih L _ ⟨by have := h.1; simpa using this, fun k hk => h.2 (k + 1) (by simpa using hk)⟩
  exact key M L _ h
theorem docObj_same {M L : List Ov} (h : SameL M L) : ansObj M = ansObj L ∧ codObj M = codObj L := by
  unfold ansObj codObj
  rw [logI_same h, tsOf_same h]
  exact ⟨rfl, rfl⟩

set_option maxRecDepth 100000 in
theorem fnExactDocObjects_lifted (os : Os) (started : os.Started) (H : Type) (enc : TypeId × Value → H) :
    ReturnsInHanded {} Try.checked os 4 .any (Rows.fnExactDocObjectsSpec.pre6 enc Try.prog Try.f4 Rows.fnExactDocObjectsRow.domain false) (Rows.fnExactDocObjectsSpec.post enc Try.prog Try.f4 false true false false) := by
  refine returnsInHanded_of_change (C := Try.checked) own_knob started (by kernel_rfl) Try.func4
    (ChangeSpec.witness6 (enc := enc) (C := Try.checked) false ⟨#[], #[.slice none 0 0], []⟩ 8 (by kernel_rfl) (by kernel_rfl) (by kernel_rfl) (by kernel_rfl)) ?_
  intro W base args ds gs before hval0 hW hcnd _
  have hval : ∀ (j : Nat) t v, Try.f4.params[j]? = some t → args[j]? = some v → Value.okWide Try.prog W .any base t v := hval0
  have hW' := hW
  obtain ⟨p, q, hA0, hV, rfl, hfz, hnd⟩ := hW
  have hA : DataW.TrodAll enc Try.prog W 0 (fun _ => true) true Try.f4.params.toList args.toList ds p := hA0
  rw [Try.params4] at hA hval
  obtain ⟨v0, vs0, d0, ds0, p0, q0, hargs, rfl, rfl, h0, r0⟩ := trodAll_cons hA
  obtain ⟨rfl, rfl, rfl⟩ := trodAll_nil r0
  obtain rfl : args = #[v0] := by cases args; simp_all
  obtain ⟨rfl, rfl⟩ := trodVars_none hV
  have k0 := h0
  have lt0 : ∀ x ∈ p0, x.block < W.heap.size := by obtain ⟨m, hm⟩ := k0; exact DataW.trod_lt m _ _ _ hm
  obtain ⟨a0, len0, cap0, rfl⟩ := okWide_slice Try.underlying22 (hval 0 22 v0 rfl rfl)
  obtain ⟨fuel, hf⟩ := h0
  obtain ⟨L, hL, ht⟩ := open_ops (c := .slice a0 len0 cap0) hf
  clear hA0 hval0
  refine (lawDocObjects_walk ansObj codObj ansObj_len (fun M L h => docObj_same h) specDocObjects_any implDocObjects_any W _ L hL ht).mono fun e W' ⟨he, bel⟩ => ?_
  subst he
  exact ⟨_, rfl, _, _, _, [], _, [], hW', trodAll_mk1 (shut_bool Try.underlying4 _), (trodAll_cons_mk (Below.trod laid_out (by kernel_rfl) (of_decide_eq_true (by kernel_rfl)) k0 bel lt0) trodAll_mk0), rfl, bel.frame _, fun h => by cases h⟩

theorem fnExactDocObjects_over : Rows.fnExactDocObjectsRow.holds Try.pinned (OpenSpec.ofChange Rows.fnExactDocObjectsSpec) :=
  OpenClaim.holds_of_wide 4 Try.f4 rfl rfl rfl rfl rfl rfl rfl ⟨rfl, rfl, rfl, rfl, rfl⟩ rfl rfl rfl rfl rfl (by kernel_rfl) Try.func4 (by kernel_rfl)
    (of_decide_eq_true (by kernel_rfl)) (by unfold Func.isWrapper; first | (rw [if_pos (by decide +kernel)]; kernel_rfl) | (rw [if_neg (by decide +kernel)]; exact ⟨rfl, rfl⟩))
    (fun os started H enc _ => fnExactDocObjects_lifted os started H enc)

theorem fnExactDocObjects_holds : Rows.FnExactDocObjectsSaid := fnExactDocObjects_over
#print axioms fnExactDocObjects_holds
end Go.Proofs.Ytkndagdecifekaa
