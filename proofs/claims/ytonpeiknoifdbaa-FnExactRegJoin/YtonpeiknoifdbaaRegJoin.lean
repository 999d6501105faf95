/- FnExactRegJoin answers true at every two registers, and leaves all old memory as it was: the code's RegJoin answers as the specification's. No condition. -/
import Derived.Test.YtonpeiknoifdbaaRows
import Derived.Test.YtonpeiknoifdbaaRegJoinWalk
import Derived.ProofKit
import Derived.OpenShut
import Derived.ShutString
import Derived.ChangeOld
import Derived.ChangeSame
import Derived.Below
namespace Go.Proofs.Ytonpeiknoifdbaa
open Go.ChangeShapes Go.WideShapes Go.ChangeAt Go.RowKit
set_option linter.unusedVariables false

theorem own_knob : ownKnob Try.prog.godebug = none := by kernel_rfl
theorem laid_out : laidOutB Try.prog = true := by kernel_rfl
theorem cells_int : Try.prog.cellsOf 3 = 1 := by kernel_rfl
theorem cells_text : Try.prog.cellsOf 9 = 1 := by kernel_rfl
theorem cells_stamp : Try.prog.cellsOf 37 = 2 := by kernel_rfl
theorem cells_reg : Try.prog.cellsOf 39 = 3 := by kernel_rfl

set_option maxRecDepth 100000 in
theorem open_reg {W : World} {H : Type} {enc : TypeId × Value → H} {base : Nat} {r : Reach} {v : Value} {d : DataW H} {p : List MemPlace} {sp : Nat → Bool} (hok : Value.okWide Try.prog W r base 39 v)
    (h : DataW.Trod enc Try.prog W 0 sp true 39 v d p) : ∃ t a s, v = .agg #[.int .i64 t, .int .i64 a, .string s] ∧ s.size ≤ maxLen := by
  obtain ⟨cs, rfl, hsz⟩ := okWide_struct Try.underlying39 hok
  rw [cells_reg] at hsz
  obtain ⟨l⟩ := cs
  match l, hsz with
  | [c0, c1, c2], _ =>
  obtain ⟨fuel, hf⟩ := h
  obtain ⟨y0, y1, m, hx, _, hy0, hy1⟩ := trod_struct2 Try.underlying39 hf
  obtain ⟨z0, z1, m', hx', _, hz0, hz1⟩ := trod_struct2 Try.underlying37 hy0
  obtain ⟨a, e0, _, _⟩ := DataW.trod_int Try.underlying3 hz0
  obtain ⟨b, e1, _, _⟩ := DataW.trod_int Try.underlying3 hz1
  obtain ⟨s, e2, _, hs⟩ := DataW.trod_string Try.underlying9 hy1
  simp [Value.cells, cells_int, cells_stamp, cells_text] at e0 e1 e2
  subst e0 e1 e2
  exact ⟨_, _, _, rfl, hs⟩

set_option maxRecDepth 100000 in
theorem fnExactRegJoin_lifted (os : Os) (started : os.Started) (H : Type) (enc : TypeId × Value → H) :
    ReturnsInHanded {} Try.checked os 4 .any (Rows.fnExactRegJoinSpec.pre6 enc Try.prog Try.f4 Rows.fnExactRegJoinRow.domain false) (Rows.fnExactRegJoinSpec.post enc Try.prog Try.f4 false true false false) := by
  refine returnsInHanded_of_change (C := Try.checked) own_knob started (by kernel_rfl) Try.func4
    (ChangeSpec.witness6 (enc := enc) (C := Try.checked) false ⟨#[], #[.agg #[.int .i64 0, .int .i64 0, .string ⟨#[]⟩], .agg #[.int .i64 0, .int .i64 0, .string ⟨#[]⟩]], []⟩ 8 (by kernel_rfl) (by kernel_rfl) (by kernel_rfl) (by kernel_rfl)) ?_
  intro W base args ds gs before hval0 hW hcnd _
  have hval : ∀ (j : Nat) t v, Try.f4.params[j]? = some t → args[j]? = some v → Value.okWide Try.prog W .any base t v := hval0
  have hW' := hW
  obtain ⟨p, q, hA0, hV, rfl, hfz, hnd⟩ := hW
  have hA : DataW.TrodAll enc Try.prog W 0 (fun _ => true) true Try.f4.params.toList args.toList ds p := hA0
  rw [Try.params4] at hA hval
  obtain ⟨v0, vs0, d0, ds0, p0, q0, hargs, rfl, rfl, h0, r0⟩ := trodAll_cons hA
  obtain ⟨v1, vs1, d1, ds1, p1, q1, rfl, rfl, rfl, h1, r1⟩ := trodAll_cons r0
  obtain ⟨rfl, rfl, rfl⟩ := trodAll_nil r1
  obtain rfl : args = #[v0, v1] := by cases args; simp_all
  obtain ⟨rfl, rfl⟩ := trodVars_none hV
  have k0 := h0
  have lt0 : ∀ x ∈ p0, x.block < W.heap.size := by obtain ⟨m, hm⟩ := k0; exact DataW.trod_lt m _ _ _ hm
  have k1 := h1
  have lt1 : ∀ x ∈ p1, x.block < W.heap.size := by obtain ⟨m, hm⟩ := k1; exact DataW.trod_lt m _ _ _ hm
  obtain ⟨t0, a0, s0, rfl, hs0⟩ := open_reg (hval 0 39 v0 rfl rfl) h0
  obtain ⟨t1, a1, s1, rfl, hs1⟩ := open_reg (hval 1 39 v1 rfl rfl) h1
  clear hA0 hval0
  refine (lawRegJoin_walk t0 a0 s0 t1 a1 s1 hs0 hs1 W).mono fun e W' ⟨he, bel⟩ => ?_
  subst he
  exact ⟨_, rfl, _, _, _, [], _, [], hW', trodAll_mk1 (shut_bool Try.underlying4 _), (trodAll_cons_mk (Below.trod laid_out (by kernel_rfl) (of_decide_eq_true (by kernel_rfl)) k0 bel lt0) (trodAll_cons_mk (Below.trod laid_out (by kernel_rfl) (of_decide_eq_true (by kernel_rfl)) k1 bel lt1) trodAll_mk0)), rfl, bel.frame _, fun h => by cases h⟩

theorem fnExactRegJoin_over : Rows.fnExactRegJoinRow.holds Try.pinned (OpenSpec.ofChange Rows.fnExactRegJoinSpec) :=
  OpenClaim.holds_of_wide 4 Try.f4 rfl rfl rfl rfl rfl rfl rfl ⟨rfl, rfl, rfl, rfl, rfl⟩ rfl rfl rfl rfl rfl (by kernel_rfl) Try.func4 (by kernel_rfl)
    (of_decide_eq_true (by kernel_rfl)) (by unfold Func.isWrapper; first | (rw [if_pos (by decide +kernel)]; kernel_rfl) | (rw [if_neg (by decide +kernel)]; exact ⟨rfl, rfl⟩))
    (fun os started H enc _ => fnExactRegJoin_lifted os started H enc)

theorem fnExactRegJoin_holds : Rows.FnExactRegJoinSaid := fnExactRegJoin_over
#print axioms fnExactRegJoin_holds
end Go.Proofs.Ytonpeiknoifdbaa
