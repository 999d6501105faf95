/- FnExactSetAdd answers true at every argument, and leaves all old memory as it was: the code's SetAdd answers as the specification's, it writes into no argument, its answer owns its memory. No condition. -/
import Derived.Test.YtdkfeabpnikedaaRows
import Derived.Test.YtdkfeabpnikedaaQSetAddWalk
import Derived.Test.YtdkfeabpnikedaaQFrameSet
namespace Go.Proofs.Ytdkfeabpnikedaa
open Go.ChangeShapes Go.WideShapes Go.ChangeAt Go.RowKit
open Go.ChangeMaps (open_string shut_string)
set_option linter.unusedVariables false

theorem lensSetAdd (xs : List Int) (ls : List En) (c : Int) (s : ByteArray) (_ : ls.length ≤ 9223372036854775807) : (adV xs ls c s).length ≤ 1048576 ∧ (adE xs ls c s).length ≤ 1048576 := by
  unfold adV adE
  by_cases h : adC xs ls c s = 0
  · rw [if_pos h, if_pos h]
    have hok : okJ xs ls = true := by
      cases hk : okJ xs ls with
      | true => rfl
      | false => rw [(ad_bad c s hk).1] at h; exact absurd h (by decide)
    have h1 := (vecOK_get (vecOK_ofS hok).1).1
    have h2 := (vecOK_ofS hok).2
    have h3 := without_len ls s
    rw [List.length_set, insE_len]
    exact ⟨by omega, by omega⟩
  · rw [if_neg h, if_neg h]
    simp

set_option maxRecDepth 100000 in
theorem fnExactSetAdd_lifted (os : Os) (started : os.Started) (H : Type) (enc : TypeId × Value → H) :
    ReturnsInHanded {} Try.checked os 5 .any (Rows.fnExactSetAddSpec.pre6 enc Try.prog Try.f5 Rows.fnExactSetAddRow.domain false) (Rows.fnExactSetAddSpec.post enc Try.prog Try.f5 false true false false) := by
  refine returnsInHanded_of_change (C := Try.checked) own_knob started (by kernel_rfl) Try.func5
    (ChangeSpec.witness6 (enc := enc) (C := Try.checked) false ⟨#[], #[.agg #[.slice none 0 0, .slice none 0 0], .int .i64 0, .string ⟨#[]⟩], []⟩ 8 (by kernel_rfl) (by kernel_rfl) (by kernel_rfl) (by kernel_rfl)) ?_
  intro W base args ds gs before hval0 hW hcnd _
  have hval : ∀ (j : Nat) t v, Try.f5.params[j]? = some t → args[j]? = some v → Value.okWide Try.prog W .any base t v := hval0
  have hW' := hW
  obtain ⟨p, q, hA0, hV, rfl, hfz, hnd⟩ := hW
  have hA : DataW.TrodAll enc Try.prog W 0 (fun _ => true) true Try.f5.params.toList args.toList ds p := hA0
  rw [Try.params5] at hA hval
  obtain ⟨v0, vs0, d0, ds0, p0, q0, hargs, rfl, rfl, h0, r0⟩ := trodAll_cons hA
  obtain ⟨v1, vs1, d1, ds1, p1, q1, rfl, rfl, rfl, h1, r1⟩ := trodAll_cons r0
  obtain ⟨v2, vs2, d2, ds2, p2, q2, rfl, rfl, rfl, h2, r2⟩ := trodAll_cons r1
  obtain ⟨rfl, rfl, rfl⟩ := trodAll_nil r2
  obtain rfl : args = #[v0, v1, v2] := by cases args; simp_all
  obtain ⟨rfl, rfl⟩ := trodVars_none hV
  have k0 := h0
  have lt0 : ∀ x ∈ p0, x.block < W.heap.size := by obtain ⟨m, hm⟩ := k0; exact DataW.trod_lt m _ _ _ hm
  obtain ⟨a, la, ca, za, ve, ls, rfl, ha, hE, hl, hs⟩ := open_set (hval 0 41 v0 rfl rfl) h0
  obtain ⟨n1, rfl, rfl, rfl, e1⟩ := open_int Try.underlying3 (hval 1 3 v1 rfl rfl) h1
  obtain ⟨s2, rfl, rfl, rfl, e2⟩ := open_string Try.underlying9 (hval 2 9 v2 rfl rfl) h2
  clear hA0 hval0
  refine (lawSetAdd_walk a la ca za ve ls n1 s2 W ha hE (by unfold maxLen at hl; omega) (fun k => by have := hs k; unfold maxLen at this; omega) (by have := e2; unfold maxLen at this; omega) (lensSetAdd _ _ n1 s2 (by unfold maxLen at hl; omega))).mono fun e W' ⟨he, bel⟩ => ?_
  subst he
  exact ⟨_, rfl, _, _, _, [], _, [], hW', trodAll_mk1 (shut_bool Try.underlying4 _), (trodAll_cons_mk (Below.trod laid_out (by kernel_rfl) (of_decide_eq_true (by kernel_rfl)) k0 bel lt0) (trodAll_cons_mk (shut_int Try.underlying3 e1) (trodAll_cons_mk (shut_string Try.underlying9 e2) trodAll_mk0))), rfl, bel.frame _, fun h => by cases h⟩

theorem fnExactSetAdd_over : Rows.fnExactSetAddRow.holds Try.pinned (OpenSpec.ofChange Rows.fnExactSetAddSpec) :=
  OpenClaim.holds_of_wide 5 Try.f5 rfl rfl rfl rfl rfl rfl rfl ⟨rfl, rfl, rfl, rfl, rfl⟩ rfl rfl rfl rfl rfl (by kernel_rfl) Try.func5 (by kernel_rfl)
    (of_decide_eq_true (by kernel_rfl)) (by unfold Func.isWrapper; first | (rw [if_pos (by decide +kernel)]; kernel_rfl) | (rw [if_neg (by decide +kernel)]; exact ⟨rfl, rfl⟩))
    (fun os started H enc _ => fnExactSetAdd_lifted os started H enc)

theorem fnExactSetAdd_holds : Rows.FnExactSetAddSaid := fnExactSetAdd_over
#print axioms fnExactSetAdd_holds
end Go.Proofs.Ytdkfeabpnikedaa
