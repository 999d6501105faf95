/- FnExactOpBytes answers true at every operation, and leaves all old memory as it was: the code's OpBytes answers as the specification's, its answer owns its memory. No condition. -/
import Derived.Test.YtaglbacicpknaaaRows
import Derived.Test.YtaglbacicpknaaaOpBytesWalk
import Derived.Test.YtaglbacicpknaaaFrameOp
namespace Go.Proofs.Ytaglbacicpknaaa
open Go.ChangeShapes Go.WideShapes Go.ChangeAt Go.RowKit
set_option linter.unusedVariables false

set_option maxRecDepth 100000 in
theorem open_opV {W : World} {H : Type} {enc : TypeId × Value → H} {base : Nat} {r : Reach} {v : Value} {d : DataW H} {p : List MemPlace} (hok : Value.okWide Try.prog W r base 28 v)
    (h : DataW.Trod enc Try.prog W 0 (fun _ => true) true 28 v d p) : ∃ y : Ov, v = .agg y.cs.toArray ∧ Rd W.heap.size W y.dv (y.ds.map (Value.int .i64)) ∧ y.ky.size ≤ maxLen ∧ y.tx.size ≤ maxLen := by
  obtain ⟨cs, rfl, hsz⟩ := okWide_struct Try.underlying28 hok
  rw [cellsO_op] at hsz
  obtain ⟨l⟩ := cs
  match l, hsz with
  | [c0, c1, c2, c3, c4, c5, c6, c7, c8, c9, c10, c11], _ =>
  obtain ⟨fuel, hf⟩ := h
  obtain ⟨y, hy, h1, h2, h3⟩ := open_op hf
  exact ⟨y, by rw [← hy], h1, h2, h3⟩

set_option maxRecDepth 100000 in
theorem fnExactOpBytes_lifted (os : Os) (started : os.Started) (H : Type) (enc : TypeId × Value → H) :
    ReturnsInHanded {} Try.checked os 3 .any (Rows.fnExactOpBytesSpec.pre6 enc Try.prog Try.f3 Rows.fnExactOpBytesRow.domain false) (Rows.fnExactOpBytesSpec.post enc Try.prog Try.f3 false true false false) := by
  refine returnsInHanded_of_change (C := Try.checked) own_knob started (by kernel_rfl) Try.func3
    (ChangeSpec.witness6 (enc := enc) (C := Try.checked) false ⟨#[], #[.agg #[.int .i64 0, .int .i64 0, .int .i64 0, .slice none 0 0, .int .i64 0, .int .i64 0, .int .i64 0, .int .i64 0, .int .i64 0, .int .i64 0, .string ByteArray.empty, .string ByteArray.empty]], []⟩ 8 (by kernel_rfl) (by kernel_rfl) (by kernel_rfl) (by kernel_rfl)) ?_
  intro W base args ds gs before hval0 hW hcnd _
  have hval : ∀ (j : Nat) t v, Try.f3.params[j]? = some t → args[j]? = some v → Value.okWide Try.prog W .any base t v := hval0
  have hW' := hW
  obtain ⟨p, q, hA0, hV, rfl, hfz, hnd⟩ := hW
  have hA : DataW.TrodAll enc Try.prog W 0 (fun _ => true) true Try.f3.params.toList args.toList ds p := hA0
  rw [Try.params3] at hA hval
  obtain ⟨v0, vs0, d0, ds0, p0, q0, hargs, rfl, rfl, h0, r0⟩ := trodAll_cons hA
  obtain ⟨rfl, rfl, rfl⟩ := trodAll_nil r0
  obtain rfl : args = #[v0] := by cases args; simp_all
  obtain ⟨rfl, rfl⟩ := trodVars_none hV
  have k0 := h0
  have lt0 : ∀ x ∈ p0, x.block < W.heap.size := by obtain ⟨m, hm⟩ := k0; exact DataW.trod_lt m _ _ _ hm
  obtain ⟨y0, rfl, hd0, hk0, ht0⟩ := open_opV (hval 0 28 v0 rfl rfl) h0
  clear hA0 hval0
  obtain ⟨ya, ys, yt, ydv, yk, yo, yn, yu, ypt, ypa, yky, ytx, yds⟩ := y0
  obtain ⟨da, dc, hdv⟩ : ∃ da dc, ydv = .slice da yds.length dc := by
    obtain ⟨ao, cap, e, _⟩ := hd0
    exact ⟨ao, cap, by rw [show ydv = _ from e, List.length_map]⟩
  subst hdv
  refine (lawOpBytes_walk ya ys yt yk yo yn yu ypt ypa da dc yky ytx yds W hd0 hk0 ht0).mono fun e W' ⟨he, bel⟩ => ?_
  subst he
  exact ⟨_, rfl, _, _, _, [], _, [], hW', trodAll_mk1 (shut_bool Try.underlying4 _), (trodAll_cons_mk (Below.trod laid_out (by kernel_rfl) (of_decide_eq_true (by kernel_rfl)) k0 bel lt0) trodAll_mk0), rfl, bel.frame _, fun h => by cases h⟩

theorem fnExactOpBytes_over : Rows.fnExactOpBytesRow.holds Try.pinned (OpenSpec.ofChange Rows.fnExactOpBytesSpec) :=
  OpenClaim.holds_of_wide 3 Try.f3 rfl rfl rfl rfl rfl rfl rfl ⟨rfl, rfl, rfl, rfl, rfl⟩ rfl rfl rfl rfl rfl (by kernel_rfl) Try.func3 (by kernel_rfl)
    (of_decide_eq_true (by kernel_rfl)) (by unfold Func.isWrapper; first | (rw [if_pos (by decide +kernel)]; kernel_rfl) | (rw [if_neg (by decide +kernel)]; exact ⟨rfl, rfl⟩))
    (fun os started H enc _ => fnExactOpBytes_lifted os started H enc)

theorem fnExactOpBytes_holds : Rows.FnExactOpBytesSaid := fnExactOpBytes_over
#print axioms fnExactOpBytes_holds
end Go.Proofs.Ytaglbacicpknaaa
