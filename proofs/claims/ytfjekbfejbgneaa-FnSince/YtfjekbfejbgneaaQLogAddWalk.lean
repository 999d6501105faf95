/- The law on LogAdd, walked. -/
import Derived.Test.YtfjekbfejbgneaaQSpecAdd
import Derived.Test.YtfjekbfejbgneaaQGrowOpsToFindOps
import Derived.Test.YtfjekbfejbgneaaQAddImpl
import Derived.Test.YtfjekbfejbgneaaQMarkOpsToOpEq
import Derived.Test.YtfjekbfejbgneaaQOpToToLawKit
namespace Go.Proofs.Ytfjekbfejbgneaa
open Go.RowKit
set_option linter.unusedVariables false

/-- What the specification's LogAdd answers. -/
theorem specAdd_any (C : Nat) (w : World) (v vm : Value) (L M : List Ov) (hC : C ≤ w.heap.size) (hr : RdO C w v L) (hrm : RdO C w vm M) :
    Calls Try.prog 43 #[v, vm] w fun e w' => ∃ r0 r1 S0 S1, e = .returned (.tuple #[r0, r1, .int .i64 (resAdd L M).1]) ∧ SameL S0 (resAdd L M).2.1 ∧ SameL S1 (resAdd L M).2.2 ∧ RdO w'.heap.size w' r0 S0 ∧ RdO w'.heap.size w' r1 S1 ∧ Below w.heap.size w w' := by
  have hn : SameL [] [] := ⟨rfl, fun k hk => absurd hk (by simp)⟩
  by_cases hlong : 1024 < M.length
  · have e : resAdd L M = (2, [], []) := by unfold resAdd; rw [if_pos hlong]
    rw [e]
    refine (specAdd_long C w v vm L M hC hr hrm hlong).mono ?_
    rintro e w' ⟨r, rfl, hR, hb⟩
    exact ⟨r, r, [], [], rfl, hn, hn, hR, hR, hb⟩
  · cases hlog : logI L with
    | false =>
      have e : resAdd L M = (1, [], []) := by unfold resAdd; rw [if_neg hlong, if_pos (.inl hlog)]
      rw [e]
      refine (specAdd_log C w v vm L M hC hr hrm hlong hlog).mono ?_
      rintro e w' ⟨r, rfl, hR, hb⟩
      exact ⟨r, r, [], [], rfl, hn, hn, hR, hR, hb⟩
    | true =>
      rcases first_bad (fun q => (ovAt M q).ok) M.length with h | ⟨f, hf, hg, hb⟩
      · exact specAdd_good C w v vm L M _ rfl hC hr hrm hlong hlog h
      · have e : resAdd L M = (1, [], []) := by
          unfold resAdd
          rw [if_neg hlong, if_pos (.inr (List.any_eq_true.2 ⟨ovAt M f, ovAt_mem hf, by unfold wrongB; rw [hb]; rfl⟩))]
        rw [e]
        refine (specAdd_op C w v vm L M hC hr hrm hlong hlog f hf hb hg).mono ?_
        rintro e w' ⟨r, rfl, hR, hb⟩
        exact ⟨r, r, [], [], rfl, hn, hn, hR, hR, hb⟩
theorem RowO.rdS {w : World} {B g : Nat} {M L : List Ov} (h : RowO w B g L.length M) (hs : SameL M L) (hm : L.length ≤ maxLen) : RdO w.heap.size w (.slice (some ⟨g, 0, none⟩) L.length L.length) M := by
  have e := hs.1
  rw [← e] at h hm ⊢
  exact h.rd hm
/-- What the law holds while it walks: the specification's two answers, the code's two answers. -/
structure Ka (w wX : World) (C B D E : Nat) (r0 r1 : Value) (S0 S1 : List Ov) (g0 g1 : Value) (A0 A1 : List Ov) : Prop where
  bel : Below w.heap.size w wX
  wcs : C ≤ wX.heap.size
  rd0 : RdO C wX r0 S0
  rd1 : RdO C wX r1 S1
  a0 : AnsD wX B D g0 A0
  a1 : AnsD wX D E g1 A1
theorem Ka.below {w wX w' : World} {C B D E : Nat} {r0 r1 : Value} {S0 S1 : List Ov} {g0 g1 : Value} {A0 A1 : List Ov} (h : Ka w wX C B D E r0 r1 S0 S1 g0 g1 A0 A1) (hb : Below wX.heap.size wX w') : Ka w w' C B D E r0 r1 S0 S1 g0 g1 A0 A1 :=
  ⟨below_seq h.bel hb, by have := hb.size; have := h.wcs; omega, h.rd0.below (hb.mono h.wcs), h.rd1.below (hb.mono h.wcs), h.a0.below hb, h.a1.below hb⟩
/-- What came in for the code was written over. -/
theorem Ka.over {w wX w' : World} {C B D E : Nat} {r0 r1 : Value} {S0 S1 : List Ov} {g0 g1 : Value} {A0 A1 : List Ov} (h : Ka w wX C B D E r0 r1 S0 S1 g0 g1 A0 A1) (hw : w.heap.size ≤ C) (hBD : B ≤ D) (hb : Below C wX w') (hf : ∀ b, B ≤ b → b < wX.heap.size → w'.heap[b]? = wX.heap[b]?) : Ka w w' C B D E r0 r1 S0 S1 g0 g1 A0 A1 :=
  ⟨h.bel.trans (hb.mono hw), by have := hb.size; have := h.wcs; omega, h.rd0.below hb, h.rd1.below hb, h.a0.on hb.size (fun b h1 _ h3 => hf b h1 h3), h.a1.on hb.size (fun b h1 _ h3 => hf b (by omega) h3)⟩
/-- The same, where the code's answers are written over. -/
structure Kq (w wX : World) (C B D E : Nat) (r0 r1 : Value) (S0 S1 : List Ov) (g0 g1 : Value) (q1 n0 n1 : Nat) : Prop where
  bel : Below w.heap.size w wX
  wcs : C ≤ wX.heap.size
  rd0 : RdO C wX r0 S0
  rd1 : RdO C wX r1 S1
  a0 : AnsQ wX B D g0 1 n0
  a1 : AnsQ wX D E g1 q1 n1
theorem Kq.below {w wX w' : World} {C B D E : Nat} {r0 r1 : Value} {S0 S1 : List Ov} {g0 g1 : Value} {q1 n0 n1 : Nat} (h : Kq w wX C B D E r0 r1 S0 S1 g0 g1 q1 n0 n1) (hb : Below wX.heap.size wX w') : Kq w w' C B D E r0 r1 S0 S1 g0 g1 q1 n0 n1 :=
  ⟨below_seq h.bel hb, by have := hb.size; have := h.wcs; omega, h.rd0.below (hb.mono h.wcs), h.rd1.below (hb.mono h.wcs), h.a0.below hb, h.a1.below hb⟩

end Go.Proofs.Ytfjekbfejbgneaa
