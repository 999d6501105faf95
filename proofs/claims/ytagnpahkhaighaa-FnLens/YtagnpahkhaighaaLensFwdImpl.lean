/- What the code's LensForward answers. -/
import Derived.Test.YtagnpahkhaighaaLensThrough
import Derived.Test.YtagnpahkhaighaaLensForm
namespace Go.Proofs.Ytagnpahkhaighaa
open Go.RowKit
set_option linter.unusedVariables false

def fwdC (ss : List St) (ls : List Pr) : Int := if okLens ss && okForm ls then (fwdP ss ls).1 else 1
def fwdL (ss : List St) (ls : List Pr) : List Pr := if okLens ss && okForm ls then (fwdP ss ls).2 else []
theorem okLens_mem {a : List St} (h : okLens a = true) : ∀ e ∈ a, okSt e = true := by
  unfold okLens at h
  rw [Bool.and_eq_true] at h
  exact List.all_eq_true.1 h.2
theorem okLens_le {a : List St} (h : okLens a = true) : a.length ≤ 32 := by
  unfold okLens at h
  rw [Bool.and_eq_true] at h
  exact of_decide_eq_true h.1
theorem fwdP_len : ∀ (ss : List St) (ls : List Pr), Rises ls → ls.length ≤ 64 → (∀ e ∈ ss, okSt e = true) → (fwdP ss ls).2.length ≤ 64
  | [], ls, _, hl, _ => hl
  | e :: r, ls, hR, hl, hok => by
    rw [fwdP]
    split
    · rename_i h
      have := doP_rises hR hl (hok e (by simp)) h
      exact fwdP_len r _ this.1 this.2 (fun x hx => hok x (by simp [hx]))
    · simp
theorem fwdL_len (ss : List St) (ls : List Pr) : (fwdL ss ls).length ≤ 1048576 := by
  unfold fwdL
  split
  · rename_i h
    rw [Bool.and_eq_true] at h
    have := fwdP_len ss ls (okForm_rises h.2) (okForm_len h.2) (okLens_mem h.1)
    omega
  · simp

set_option maxHeartbeats 2000000 in
set_option maxRecDepth 100000 in
theorem implFwd_any (C : Nat) (w : World) (va vb : Value) (a : List St) (b : List Pr) (hla : a.length ≤ 1048576) (hlb : b.length ≤ 1048576) (hC : C ≤ w.heap.size) (ha : RdM 4 C w va a.length (stCs a)) (hb : RdM 2 C w vb b.length (prCs b)) :
    Calls Try.prog 11 #[va, vb] w fun e w' => ∃ r, e = .returned (.tuple #[r, .int .i64 (fwdC a b)]) ∧ OwnPr w' w.heap.size r (fwdL a b) ∧ Below w.heap.size w w' := by
  obtain ⟨ao, ca, ea⟩ : ∃ ao ca, va = .slice ao a.length ca := by obtain ⟨_, ao, ca, e, _⟩ := ha; exact ⟨ao, ca, e⟩
  obtain ⟨bo, cb, eb⟩ : ∃ bo cb, vb = .slice bo b.length cb := by obtain ⟨_, bo, cb, e, _⟩ := hb; exact ⟨bo, cb, e⟩
  subst ea eb
  have hA := lensStepsOf_any C w _ a hla hC ha.st
  have hB := fun w' (hw : Below w.heap.size w w') => pairsOf_any C w' _ b hlb (Nat.le_trans hC hw.size) (hb.on hC hw).pr
  have HB : Hid (∀ w', Below w.heap.size w w' → RdM 2 C w' (.slice bo b.length cb) b.length (prCs b)) := fun w' hw => hb.on hC hw
  have HJ : Hid (fwdC a b = if okLens a && okForm b then (fwdP a b).1 else 1) := rfl
  have HK : Hid (fwdL a b = if okLens a && okForm b then (fwdP a b).2 else []) := rfl
  have HT : Hid (okLens a = true → okForm b = true → ∀ (D : Nat) (w : World) (sv : Value), C ≤ w.heap.size → D ≤ w.heap.size → RdM 2 C w (.slice bo b.length cb) b.length (prCs b) → Rd D w sv (a.map stepV) → Calls Try.prog 35 #[.slice bo b.length cb, sv] w fun e w' => ∃ r, e = .returned (.tuple #[r, .int .i64 (fwdP a b).1]) ∧ OwnPr w' w.heap.size r (fwdP a b).2 ∧ Below w.heap.size w w') := fun h1 h2 D w sv h3 h4 h5 h6 => through_any C D w _ sv b a (okForm_len h2) (okForm_rises h2) (okLens_mem h1) (okLens_le h1) h3 h4 h5 h6
  clear ha hb
  generalize fwdC a b = jc at *
  generalize fwdL a b = jl at *
  generalize fwdP a b = fp at *
  obtain ⟨f1, f2⟩ := fp
  generalize okLens a = oa at *
  generalize okForm b = ob at *
  go_enter Try.func11, Try.ntmps11
  go_wp2_with fail
  refine hA.mono ?_
  rintro e w1 ⟨u1, rfl, hown, hb1⟩
  have hB0 := hB w1 hb1
  clear hB hA
  go_wp2_with fail
  refine hB0.mono ?_
  rintro e w2 ⟨u2, rfl, hu2, hsl2, hb2⟩
  have hbw := below_seq hb1 hb2
  clear hB0
  have hempty : OwnPr w2 w.heap.size (.slice none 0 0) [] := ownM_nil _ _ _ _
  cases oa with
  | false =>
    have HE1 : Hid (jc = 1) := by unfold Hid; rw [HJ.out]; rfl
    have HE2 : Hid (jl = []) := by unfold Hid; rw [HK.out]; rfl
    clear hown hu2
    go_wp2_with fail
    go_ret2
    exact ⟨_, by rw [HE1.out]; rfl, by rw [HE2.out]; exact hempty, hbw⟩
  | true =>
    cases ob with
    | false =>
      have HE1 : Hid (jc = 1) := by unfold Hid; rw [HJ.out]; rfl
      have HE2 : Hid (jl = []) := by unfold Hid; rw [HK.out]; rfl
      clear hown hu2
      go_wp2_with fail
      go_ret2
      exact ⟨_, by rw [HE1.out]; rfl, by rw [HE2.out]; exact hempty, hbw⟩
    | true =>
      have hu := hu2 (by first | rfl | trivial)
      subst hu
      have ho1 := hown (by first | rfl | trivial)
      have ho2 : Own 75 w2 w.heap.size u1 (a.map stepV) := ho1.below hb2 (Nat.le_refl _)
      have hTT := HT.out (by first | rfl | trivial) (by first | rfl | trivial) w2.heap.size w2 u1 (Nat.le_trans hC hbw.size) (Nat.le_refl _) (HB.out _ hbw) ho2.rd
      obtain ⟨sa, sn, sc, hsv⟩ : ∃ sa sn sc, u1 = .slice sa sn sc := by obtain ⟨sa, sc, e, _⟩ := ho2.slice; exact ⟨sa, _, sc, e⟩
      subst hsv
      have HE1 : Hid (jc = f1) := by unfold Hid; rw [HJ.out]; rfl
      have HE2 : Hid (jl = f2) := by unfold Hid; rw [HK.out]; rfl
      have hs := hbw.size
      clear hown hu2 ho1 ho2 HT HB
      go_wp2_with fail
      refine hTT.mono ?_
      rintro e w3 ⟨r, rfl, ho3, hb3⟩
      obtain ⟨ra, rn, rc, hre⟩ := own_sliceP ho3
      subst hre
      have ho4 : OwnPr w3 w.heap.size (.slice ra rn rc) jl := by rw [HE2.out]; exact ownM_mono ho3 hs
      have hb4 := below_seq hbw hb3
      clear hTT ho3 hb3
      go_wp2_with fail
      go_ret2
      exact ⟨_, by rw [HE1.out]; rfl, ho4, hb4⟩
end Go.Proofs.Ytagnpahkhaighaa
