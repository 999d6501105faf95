/- What the code's LensJoin and the specification's answer. -/
import Derived.Test.YtagnpahkhaighaaLensSpecOK
import Derived.Test.YtagnpahkhaighaaStepConcat
namespace Go.Proofs.Ytagnpahkhaighaa
open Go.RowKit
set_option linter.unusedVariables false

def joinC (a b : List St) : Int := if okLens a && okLens b then (if 32 < a.length + b.length then 11 else 0) else 1
def joinL (a b : List St) : List St := if okLens a && okLens b then (if 32 < a.length + b.length then [] else a ++ b) else []
theorem okLens_len {a : List St} (h : okLens a = true) : a.length ≤ 32 := by
  unfold okLens at h
  rw [Bool.and_eq_true] at h
  exact of_decide_eq_true h.1

theorem joinL_len (a b : List St) : (joinL a b).length ≤ 1048576 := by
  unfold joinL
  split
  · split
    · simp
    · rw [List.length_append]; omega
  · simp

theorem two_at {w : World} {x y : Value} {T : TypeId} (p : Nat) (q : Value × List St) (X Y : List St) (h : [(x, X), (y, Y)][p]? = some q) : (w.alloc (.cells #[x, y] T)).cell? ⟨w.heap.size, p, none⟩ = some q.1 := by
  match p, h with
  | 0, h => cases h; exact cell_made (Below.refl _ _) (k := 0) rfl
  | 1, h => cases h; exact cell_made (Below.refl _ _) (k := 1) rfl

set_option maxHeartbeats 2000000 in
set_option maxRecDepth 100000 in
theorem implJoin_any (C : Nat) (w : World) (va vb : Value) (a b : List St) (hla : a.length ≤ 1048576) (hlb : b.length ≤ 1048576) (hC : C ≤ w.heap.size) (ha : RdM 4 C w va a.length (stCs a)) (hb : RdM 4 C w vb b.length (stCs b)) :
    Calls Try.prog 23 #[va, vb] w fun e w' => ∃ r, e = .returned (.tuple #[r, .int .i64 (joinC a b)]) ∧ OwnSt w' w.heap.size r (joinL a b) ∧ Below w.heap.size w w' := by
  obtain ⟨ao, ca, ea⟩ : ∃ ao ca, va = .slice ao a.length ca := by obtain ⟨_, ao, ca, e, _⟩ := ha; exact ⟨ao, ca, e⟩
  obtain ⟨bo, cb, eb⟩ : ∃ bo cb, vb = .slice bo b.length cb := by obtain ⟨_, bo, cb, e, _⟩ := hb; exact ⟨bo, cb, e⟩
  subst ea eb
  have hA := fun w' (hw : Below w.heap.size w w') => lensStepsOf_any C w' _ a hla (Nat.le_trans hC hw.size) (ha.on hC hw).st
  have hB := fun w' (hw : Below w.heap.size w w') => lensStepsOf_any C w' _ b hlb (Nat.le_trans hC hw.size) (hb.on hC hw).st
  have HA : Hid (∀ w', Below w.heap.size w w' → RdM 4 C w' (.slice ao a.length ca) a.length (stCs a)) := fun w' hw => ha.on hC hw
  have HB : Hid (∀ w', Below w.heap.size w w' → RdM 4 C w' (.slice bo b.length cb) b.length (stCs b)) := fun w' hw => hb.on hC hw
  have HJ : Hid (joinC a b = if okLens a && okLens b then (if 32 < a.length + b.length then 11 else 0) else 1) := rfl
  have HK : Hid (joinL a b = if okLens a && okLens b then (if 32 < a.length + b.length then [] else a ++ b) else []) := rfl
  have HL : Hid (okLens a = true → a.length ≤ 32) := okLens_len
  have HM : Hid (okLens b = true → b.length ≤ 32) := okLens_len
  clear ha hb
  generalize joinC a b = jc at *
  generalize joinL a b = jl at *
  generalize okLens a = oa at *
  generalize okLens b = ob at *
  have hA0 := hA w (Below.refl _ _)
  clear hA
  go_enter Try.func23, Try.ntmps23
  go_wp2_with fail
  refine hA0.mono ?_
  rintro e w1 ⟨u1, rfl, _, hb1⟩
  have hB0 := hB w1 hb1
  clear hB hA0
  go_wp2_with fail
  refine hB0.mono ?_
  rintro e w2 ⟨u2, rfl, _, hb2⟩
  have hbw := below_seq hb1 hb2
  clear hB0 hb1 hb2
  have hempty : OwnSt w2 w.heap.size (.slice none 0 0) [] := ownM_nil _ _ _ _
  cases oa with
  | false =>
    have HE1 : Hid (jc = 1) := by unfold Hid; rw [HJ.out]; rfl
    have HE2 : Hid (jl = []) := by unfold Hid; rw [HK.out]; rfl
    go_wp2_with fail
    go_ret2
    exact ⟨_, by rw [HE1.out]; rfl, by rw [HE2.out]; exact hempty, hbw⟩
  | true =>
    cases ob with
    | false =>
      have HE1 : Hid (jc = 1) := by unfold Hid; rw [HJ.out]; rfl
      have HE2 : Hid (jl = []) := by unfold Hid; rw [HK.out]; rfl
      go_wp2_with fail
      go_ret2
      exact ⟨_, by rw [HE1.out]; rfl, by rw [HE2.out]; exact hempty, hbw⟩
    | true =>
      have l1 := HL.out rfl
      have l2 := HM.out rfl
      have j2 : (a.length : Int) + (b.length : Int) < 9223372036854775808 := by omega
      by_cases h32 : 32 < a.length + b.length
      · have HE1 : Hid (jc = 11) := by unfold Hid; rw [HJ.out]; simp [h32]
        have HE2 : Hid (jl = []) := by unfold Hid; rw [HK.out]; simp [h32]
        have j1 : (32 : Int) < (a.length : Int) + (b.length : Int) := by omega
        go_wp2_with fail
        go_ret2
        exact ⟨_, by rw [HE1.out]; rfl, by rw [HE2.out]; exact hempty, hbw⟩
      · have HE1 : Hid (jc = 0) := by unfold Hid; rw [HJ.out]; simp [h32]
        have HE2 : Hid (jl = a ++ b) := by unfold Hid; rw [HK.out]; simp [h32]
        have j1 : decide ((32 : Int) < (a.length : Int) + (b.length : Int)) = false := by simp; omega
        have hbq : Below w.heap.size w (w2.alloc (.cells #[.slice ao a.length ca, .slice bo b.length cb] 29)) := below_then hbw _
        have hsz := hbw.size
        have hcc := concatSteps_any (w2.alloc (.cells #[.slice ao a.length ca, .slice bo b.length cb] 29)) w2.heap.size C 2 [(.slice ao a.length ca, a), (.slice bo b.length cb, b)] rfl (by decide) (fun k p h => two_at k p a b h) (by simp) (by simp; omega) (fun p hp => by
          simp only [List.mem_cons, List.not_mem_nil, or_false] at hp
          rcases hp with rfl | rfl
          · exact HA.out _ hbq
          · exact HB.out _ hbq) (by
          show (([] ++ a) ++ b).length ≤ 1024
          simp
          omega)
        have HS : Hid (w.heap.size ≤ (w2.alloc (.cells #[.slice ao a.length ca, .slice bo b.length cb] 29)).heap.size) := hbq.size
        clear HA HB HJ HK HL HM
        clear h32 hla hlb l1 l2 hC
        go_wp2_with fail
        refine hcc.mono ?_
        rintro e w3 ⟨r, rfl, ho3, hb3⟩
        have ho4 : OwnSt w3 w.heap.size r jl := by
          rw [HE2.out]
          exact ownM_mono ho3 HS.out
        have hb4 : Below w.heap.size w w3 := below_seq hbq hb3
        clear ho3 hb3 hcc
        go_wp2_with fail
        go_ret2
        exact ⟨_, by rw [HE1.out]; rfl, ho4, hb4⟩
end Go.Proofs.Ytagnpahkhaighaa
