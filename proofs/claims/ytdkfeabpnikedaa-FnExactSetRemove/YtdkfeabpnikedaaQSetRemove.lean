/- FnExactSetRemove answers true at every argument, and leaves all old memory as it was: the code's SetRemove answers as the specification's, it writes into no argument, its answer owns its memory. No condition. -/
import Derived.Test.YtdkfeabpnikedaaRows
import Derived.Test.YtdkfeabpnikedaaQSetRemoveWalk
import Derived.Test.YtdkfeabpnikedaaQFrameSet
namespace Go.Proofs.Ytdkfeabpnikedaa
open Go.ChangeShapes Go.WideShapes Go.ChangeAt Go.RowKit
open Go.ChangeMaps (open_string shut_string)
set_option linter.unusedVariables false

theorem lensSetRemove (xs : List Int) (ls : List En) (s : ByteArray) (_ : ls.length ≤ 9223372036854775807) : (remV xs ls s).length ≤ 1048576 ∧ (remE xs ls s).length ≤ 1048576 := by
  unfold remV remE
  cases hok : okJ xs ls with
  | false => simp
  | true =>
    have h1 := (vecOK_get (vecOK_ofS hok).1).1
    have h2 := (vecOK_ofS hok).2
    have h3 := without_len ls s
    rw [if_pos rfl, if_pos rfl]
    split
    · exact ⟨by omega, by omega⟩
    · simp

set_option maxRecDepth 100000 in
theorem fnExactSetRemove_lifted (os : Os) (started : os.Started) (H : Type) (enc : TypeId × Value → H) :
    ReturnsInHanded {} Try.checked os 6 .any (Rows.fnExactSetRemoveSpec.pre6 enc Try.prog Try.f6 Rows.fnExactSetRemoveRow.domain false) (Rows.fnExactSetRemoveSpec.post enc Try.prog Try.f6 false true false false) := by
  refine returnsInHanded_of_change (C := Try.checked) own_knob started (by kernel_rfl) Try.func6
    (ChangeSpec.witness6 (enc := enc) (C := Try.checked) false ⟨#[], #[.agg #[.slice none 0 0, .slice none 0 0], .string ⟨#[]⟩], []⟩ 8 (by kernel_rfl) (by kernel_rfl) (by kernel_rfl) (by kernel_rfl)) ?_
  intro W base args ds gs before hval0 hW hcnd _
  have hval : ∀ (j : Nat) t v, Try.f6.params[j]? = some t → args[j]? = some v → Value.okWide Try.prog W .any base t v := hval0
  have hW' := hW
  obtain ⟨p, q, hA0, hV, rfl, hfz, hnd⟩ := hW
  have hA : DataW.TrodAll enc Try.prog W 0 (fun _ => true) true Try.f6.params.toList args.toList ds p := hA0
  rw [Try.params6] at hA hval
  obtain ⟨v0, vs0, d0, ds0, p0, q0, hargs, rfl, rfl, h0, r0⟩ := trodAll_cons hA
  obtain ⟨v1, vs1, d1, ds1, p1, q1, rfl, rfl, rfl, h1, r1⟩ := trodAll_cons r0
  obtain ⟨rfl, rfl, rfl⟩ := trodAll_nil r1
  obtain rfl : args = #[v0, v1] := by cases args; simp_all
  obtain ⟨rfl, rfl⟩ := trodVars_none hV
  have k0 := h0
  have lt0 : ∀ x ∈ p0, x.block < W.heap.size := by obtain ⟨m, hm⟩ := k0; exact DataW.trod_lt m _ _ _ hm
  obtain ⟨a, la, ca, za, ve, ls, rfl, ha, hE, hl, hs⟩ := open_set (hval 0 41 v0 rfl rfl) h0
  obtain ⟨s1, rfl, rfl, rfl, e1⟩ := open_string Try.underlying9 (hval 1 9 v1 rfl rfl) h1
  clear hA0 hval0
  refine (lawSetRemove_walk a la ca za ve ls s1 W ha hE (by unfold maxLen at hl; omega) (fun k => by have := hs k; unfold maxLen at this; omega) (by have := e1; unfold maxLen at this; omega) (lensSetRemove _ _ s1 (by unfold maxLen at hl; omega))).mono fun e W' ⟨he, bel⟩ => ?_
  subst he
  exact ⟨_, rfl, _, _, _, [], _, [], hW', trodAll_mk1 (shut_bool Try.underlying4 _), (trodAll_cons_mk (Below.trod laid_out (by kernel_rfl) (of_decide_eq_true (by kernel_rfl)) k0 bel lt0) (trodAll_cons_mk (shut_string Try.underlying9 e1) trodAll_mk0)), rfl, bel.frame _, fun h => by cases h⟩

theorem fnExactSetRemove_over : Rows.fnExactSetRemoveRow.holds Try.pinned (OpenSpec.ofChange Rows.fnExactSetRemoveSpec) :=
  OpenClaim.holds_of_wide 6 Try.f6 rfl rfl rfl rfl rfl rfl rfl ⟨rfl, rfl, rfl, rfl, rfl⟩ rfl rfl rfl rfl rfl (by kernel_rfl) Try.func6 (by kernel_rfl)
    (of_decide_eq_true (by kernel_rfl)) (by unfold Func.isWrapper; first | (rw [if_pos (by decide +kernel)]; kernel_rfl) | (rw [if_neg (by decide +kernel)]; exact ⟨rfl, rfl⟩))
    (fun os started H enc _ => fnExactSetRemove_lifted os started H enc)

theorem fnExactSetRemove_holds : Rows.FnExactSetRemoveSaid := fnExactSetRemove_over
#print axioms fnExactSetRemove_holds
end Go.Proofs.Ytdkfeabpnikedaa
