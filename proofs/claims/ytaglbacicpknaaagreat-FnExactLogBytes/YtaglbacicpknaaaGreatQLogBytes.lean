/- FnExactLogBytes answers true at every list of operations, and leaves all old memory as it was: the code's LogBytes answers as the specification's, its answer owns its memory. No condition. -/
import Derived.Test.YtaglbacicpknaaaGreatRows
import Derived.Test.YtaglbacicpknaaaGreatQOpEqToMarkAr
import Derived.Test.YtaglbacicpknaaaGreatQLogBytesSpecToLogBytesImpl
import Derived.Test.YtaglbacicpknaaaGreatQOpToToLawKit
import Derived.Test.YtaglbacicpknaaaGreatQFrameOp
namespace Go.Proofs.YtaglbacicpknaaaGreat
open Go.ChangeShapes Go.WideShapes Go.ChangeAt Go.RowKit
set_option linter.unusedVariables false

theorem sameL_map {M L : List Ov} (h : SameL M L) {α : Type} (f : Ov → α) (hf : ∀ x y : Ov, x.same y → f x = f y) : M.map f = L.map f := by
  apply List.ext_getElem?
  intro k
  rw [List.getElem?_map, List.getElem?_map]
  by_cases hk : k < L.length
  · rw [ovAt_get (show k < M.length by rw [h.1]; exact hk), ovAt_get hk]
    exact congrArg some (hf _ _ (h.2 k hk))
  · have h1 := h.1
    rw [List.getElem?_eq_none (show M.length ≤ k by omega), List.getElem?_eq_none (show L.length ≤ k by omega)]
theorem colN_same {M L : List Ov} (h : SameL M L) (c : Nat) : colN M c = colN L c := sameL_map h (numAt c) (fun x y e => by
  obtain ⟨e1, e2, e3, e4, e5, e6, e7, e8, e9, e10, e11, e12⟩ := e
  unfold numAt
  rw [e1, e2, e3, e4, e5, e6, e7, e8, e9, e10])
theorem colsB_same {M L : List Ov} (h : SameL M L) : ∀ c, colsB M c = colsB L c
  | 0 => rfl
  | c + 1 => by rw [colsB, colsB, colsB_same h c, colN_same h c]
theorem logBytes_same {M L : List Ov} (h : SameL M L) : logByB M = logByB L ∧ logByC M = logByC L := by
  have e1 : kyL M = kyL L := sameL_map h _ (fun x y e => e.2.2.2.2.2.2.2.2.2.2.1)
  have e2 : txL M = txL L := sameL_map h _ (fun x y e => e.2.2.2.2.2.2.2.2.2.2.2)
  unfold logByB logByC logBy logCols
  rw [logI_same h, colsB_same h, e1, e2, h.1]
  exact ⟨rfl, rfl⟩
theorem logByB_small (L : List Ov) : (logByB L).length ≤ 1048576 := Nat.le_trans (logByB_len L) (by omega)

set_option maxRecDepth 100000 in
theorem fnExactLogBytes_lifted (os : Os) (started : os.Started) (H : Type) (enc : TypeId × Value → H) :
    ReturnsInHanded {} Tryz.checked os 3 .any (Rows.fnExactLogBytesSpec.pre6 enc Tryz.prog Tryz.f3 Rows.fnExactLogBytesRow.domain false) (Rows.fnExactLogBytesSpec.post enc Tryz.prog Tryz.f3 false true false false) := by
  refine returnsInHanded_of_change (C := Tryz.checked) own_knob started (by kernel_rfl) Tryz.func3
    (ChangeSpec.witness6 (enc := enc) (C := Tryz.checked) false ⟨#[], #[.slice none 0 0], []⟩ 8 (by kernel_rfl) (by kernel_rfl) (by kernel_rfl) (by kernel_rfl)) ?_
  intro W base args ds gs before hval0 hW hcnd _
  have hval : ∀ (j : Nat) t v, Tryz.f3.params[j]? = some t → args[j]? = some v → Value.okWide Tryz.prog W .any base t v := hval0
  have hW' := hW
  obtain ⟨p, q, hA0, hV, rfl, hfz, hnd⟩ := hW
  have hA : DataW.TrodAll enc Tryz.prog W 0 (fun _ => true) true Tryz.f3.params.toList args.toList ds p := hA0
  rw [Tryz.params3] at hA hval
  obtain ⟨v0, vs0, d0, ds0, p0, q0, hargs, rfl, rfl, h0, r0⟩ := trodAll_cons hA
  obtain ⟨rfl, rfl, rfl⟩ := trodAll_nil r0
  obtain rfl : args = #[v0] := by cases args; simp_all
  obtain ⟨rfl, rfl⟩ := trodVars_none hV
  have k0 := h0
  have lt0 : ∀ x ∈ p0, x.block < W.heap.size := by obtain ⟨m, hm⟩ := k0; exact DataW.trod_lt m _ _ _ hm
  obtain ⟨a0, len0, cap0, rfl⟩ := okWide_slice Tryz.underlying22 (hval 0 22 v0 rfl rfl)
  obtain ⟨fuel, hf⟩ := h0
  obtain ⟨L, hL, ht⟩ := open_ops (c := .slice a0 len0 cap0) hf
  clear hA0 hval0
  refine (lawLogBytes_walk logByB logByC logByB_small (fun M L h => logBytes_same h) specLogBytes_any implLogBytes_any W _ L hL ht).mono fun e W' ⟨he, bel⟩ => ?_
  subst he
  exact ⟨_, rfl, _, _, _, [], _, [], hW', trodAll_mk1 (shut_bool Tryz.underlying4 _), (trodAll_cons_mk (Below.trod laid_out (by kernel_rfl) (of_decide_eq_true (by kernel_rfl)) k0 bel lt0) trodAll_mk0), rfl, bel.frame _, fun h => by cases h⟩

theorem fnExactLogBytes_over : Rows.fnExactLogBytesRow.holds Tryz.pinned (OpenSpec.ofChange Rows.fnExactLogBytesSpec) :=
  OpenClaim.holds_of_wide 3 Tryz.f3 rfl rfl rfl rfl rfl rfl rfl ⟨rfl, rfl, rfl, rfl, rfl⟩ rfl rfl rfl rfl rfl (by kernel_rfl) Tryz.func3 (by kernel_rfl)
    (of_decide_eq_true (by kernel_rfl)) (by unfold Func.isWrapper; first | (rw [if_pos (by decide +kernel)]; kernel_rfl) | (rw [if_neg (by decide +kernel)]; exact ⟨rfl, rfl⟩))
    (fun os started H enc _ => fnExactLogBytes_lifted os started H enc)

theorem fnExactLogBytes_holds : Rows.FnExactLogBytesSaid := fnExactLogBytes_over
#print axioms fnExactLogBytes_holds
end Go.Proofs.YtaglbacicpknaaaGreat
