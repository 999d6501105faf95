/- What the code's LensBack and the specification's answer. -/
import Derived.Test.YtagnpahkhaighaaLensFwdSpec
import Derived.Test.YtagnpahkhaighaaLensFlipSpec
namespace Go.Proofs.Ytagnpahkhaighaa
open Go.RowKit
set_option linter.unusedVariables false

def backC (a : List St) (b : List Pr) : Int := if okLens a then fwdC (flipL a) b else 1
def backL (a : List St) (b : List Pr) : List Pr := if okLens a then fwdL (flipL a) b else []
theorem backL_len (a : List St) (b : List Pr) : (backL a b).length ≤ 1048576 := by
  unfold backL
  split
  · exact fwdL_len _ _
  · simp

set_option maxHeartbeats 2000000 in
set_option maxRecDepth 100000 in
theorem implBack_any (C : Nat) (w : World) (va vb : Value) (a : List St) (b : List Pr) (hla : a.length ≤ 1048576) (hlb : b.length ≤ 1048576) (hC : C ≤ w.heap.size) (ha : RdM 4 C w va a.length (stCs a)) (hb : RdM 2 C w vb b.length (prCs b)) :
    Calls Try.prog 18 #[va, vb] w fun e w' => ∃ r, e = .returned (.tuple #[r, .int .i64 (backC a b)]) ∧ OwnPr w' w.heap.size r (backL a b) ∧ Below w.heap.size w w' := by
  obtain ⟨ao, ca, ea⟩ : ∃ ao ca, va = .slice ao a.length ca := by obtain ⟨_, ao, ca, e, _⟩ := ha; exact ⟨ao, ca, e⟩
  obtain ⟨bo, cb, eb⟩ : ∃ bo cb, vb = .slice bo b.length cb := by obtain ⟨_, bo, cb, e, _⟩ := hb; exact ⟨bo, cb, e⟩
  subst ea eb
  have hA := implFlip_any C w _ a hla hC ha
  have HF : Hid (∀ (w' : World) (v : Value), Below w.heap.size w w' → RdM 4 w'.heap.size w' v (flipL a).length (stCs (flipL a)) → Calls Try.prog 11 #[v, .slice bo b.length cb] w' fun e w2 => ∃ r, e = .returned (.tuple #[r, .int .i64 (fwdC (flipL a) b)]) ∧ OwnPr w2 w'.heap.size r (fwdL (flipL a) b) ∧ Below w'.heap.size w' w2) :=
    fun w' v hw hv => implFwd_any w'.heap.size w' v _ (flipL a) b (flipL_len a) hlb (Nat.le_refl _) hv ((hb.on hC hw).mono (Nat.le_trans hC hw.size))
  have HJ : Hid (backC a b = if okLens a then fwdC (flipL a) b else 1) := rfl
  have HK : Hid (backL a b = if okLens a then fwdL (flipL a) b else []) := rfl
  have HC : Hid (flipC a = if okLens a then 0 else 1) := rfl
  clear ha hb
  generalize backC a b = jc at *
  generalize backL a b = jl at *
  generalize fwdC (flipL a) b = fc at *
  generalize fwdL (flipL a) b = fl at *
  generalize flipC a = pc at *
  generalize flipL a = pl at *
  go_enter Try.func18, Try.ntmps18
  cases hok : okLens a with
  | false =>
    rw [hok] at HJ HK HC
    have HE1 : Hid (jc = 1) := by unfold Hid; rw [HJ.out]; rfl
    have HE2 : Hid (jl = []) := by unfold Hid; rw [HK.out]; rfl
    obtain rfl : pc = 1 := by rw [HC.out]; rfl
    clear hok HF HC HJ HK
    go_wp2_with fail
    refine hA.mono ?_
    rintro e w1 ⟨u1, rfl, hown, hb1⟩
    have hempty : OwnPr w1 w.heap.size (.slice none 0 0) [] := ownM_nil _ _ _ _
    obtain ⟨ra, rc, e1⟩ := own_sliceM hown
    subst e1
    clear hown hA
    go_wp2_with fail
    go_ret2
    exact ⟨_, by rw [HE1.out]; rfl, by rw [HE2.out]; exact hempty, hb1⟩
  | true =>
    rw [hok] at HJ HK HC
    have HE1 : Hid (jc = fc) := by unfold Hid; rw [HJ.out]; rfl
    have HE2 : Hid (jl = fl) := by unfold Hid; rw [HK.out]; rfl
    obtain rfl : pc = 0 := by rw [HC.out]; rfl
    clear hok HC HJ HK
    go_wp2_with fail
    refine hA.mono ?_
    rintro e w1 ⟨u1, rfl, hown, hb1⟩
    have hF1 := HF.out w1 u1 hb1 (ownM_rd hown)
    obtain ⟨ra, rc, e1⟩ := own_sliceM hown
    subst e1
    have hs := hb1.size
    clear hown hA HF
    go_wp2_with fail
    refine hF1.mono ?_
    rintro e w3 ⟨r, rfl, ho3, hb3⟩
    obtain ⟨ra3, rn3, rc3, hre⟩ := own_sliceP ho3
    subst hre
    have ho4 : OwnPr w3 w.heap.size (.slice ra3 rn3 rc3) jl := by rw [HE2.out]; exact ownM_mono ho3 hs
    have hb4 := below_seq hb1 hb3
    clear hF1 ho3 hb3
    go_wp2_with fail
    go_ret2
    exact ⟨_, by rw [HE1.out]; rfl, ho4, hb4⟩

set_option maxHeartbeats 2000000 in
set_option maxRecDepth 100000 in
theorem specBack_any (C : Nat) (w : World) (va vb : Value) (a : List St) (b : List Pr) (hla : a.length ≤ 1048576) (hlb : b.length ≤ 1048576) (hC : C ≤ w.heap.size) (ha : RdM 4 C w va a.length (stCs a)) (hb : RdM 2 C w vb b.length (prCs b)) :
    Calls Try.prog 17 #[va, vb] w fun e w' => ∃ r, e = .returned (.tuple #[r, .int .i64 (backC a b)]) ∧ OwnPr w' w.heap.size r (backL a b) ∧ Below w.heap.size w w' := by
  obtain ⟨i0, hi, hz0, hz1, hz2⟩ := info_parts infoPair
  obtain ⟨ao, ca, ea⟩ : ∃ ao ca, va = .slice ao a.length ca := by obtain ⟨_, ao, ca, e, _⟩ := ha; exact ⟨ao, ca, e⟩
  obtain ⟨bo, cb, eb⟩ : ∃ bo cb, vb = .slice bo b.length cb := by obtain ⟨_, bo, cb, e, _⟩ := hb; exact ⟨bo, cb, e⟩
  subst ea eb
  have hA := l14LensOK_any C w _ a hla hC ha.st
  have HL : Hid (∀ w', Below w.heap.size w w' → okLens a = true → Calls Try.prog 39 #[.slice ao a.length ca] w' fun e w'' => ∃ r, e = .returned r ∧ OwnSt w'' w'.heap.size r (flipL a) ∧ Below w'.heap.size w' w'') := fun w' hw h => l14Flip_any C w' _ a h (Nat.le_trans hC hw.size) (ha.on hC hw).st
  have HF : Hid (∀ (w' : World) (v : Value), Below w.heap.size w w' → RdM 4 w'.heap.size w' v (flipL a).length (stCs (flipL a)) → Calls Try.prog 8 #[v, .slice bo b.length cb] w' fun e w2 => ∃ r, e = .returned (.tuple #[r, .int .i64 (fwdC (flipL a) b)]) ∧ OwnPr w2 w'.heap.size r (fwdL (flipL a) b) ∧ Below w'.heap.size w' w2) :=
    fun w' v hw hv => specFwd_any w'.heap.size w' v _ (flipL a) b (flipL_len a) hlb (Nat.le_refl _) hv ((hb.on hC hw).mono (Nat.le_trans hC hw.size))
  have HJ : Hid (backC a b = if okLens a then fwdC (flipL a) b else 1) := rfl
  have HK : Hid (backL a b = if okLens a then fwdL (flipL a) b else []) := rfl
  clear ha hb
  generalize backC a b = jc at *
  generalize backL a b = jl at *
  generalize fwdC (flipL a) b = fc at *
  generalize fwdL (flipL a) b = fl at *
  generalize flipL a = pl at *
  go_enter Try.func17, Try.ntmps17
  cases hok : okLens a with
  | false =>
    rw [hok] at HJ HK hA
    have HE1 : Hid (jc = 1) := by unfold Hid; rw [HJ.out]; rfl
    have HE2 : Hid (jl = []) := by unfold Hid; rw [HK.out]; rfl
    clear hok HF HJ HK HL
    go_wp2_with fail
    refine hA.mono ?_
    rintro e w1 ⟨rfl, hb1⟩
    go_wp2_with fail
    go_ret2
    exact ⟨_, by rw [HE1.out]; rfl, by rw [HE2.out]; exact own_lit0 w1 w hb1.size, below_then hb1 _⟩
  | true =>
    rw [hok] at HJ HK hA
    have HE1 : Hid (jc = fc) := by unfold Hid; rw [HJ.out]; rfl
    have HE2 : Hid (jl = fl) := by unfold Hid; rw [HK.out]; rfl
    have HL2 := fun w' hw => HL.out w' hw hok
    clear hok HJ HK HL
    go_wp2_with fail
    refine hA.mono ?_
    rintro e w1 ⟨rfl, hb1⟩
    have h1 := HL2 w1 hb1
    clear HL2 hA
    go_wp2_with fail
    refine h1.mono ?_
    rintro e w2 ⟨u2, rfl, hown, hb2⟩
    have hb12 := below_seq hb1 hb2
    have hF1 := HF.out w2 u2 hb12 (ownM_rd hown)
    obtain ⟨ra, rc, e1⟩ := own_sliceM hown
    subst e1
    have hs := hb12.size
    clear hown h1 HF
    go_wp2_with fail
    refine hF1.mono ?_
    rintro e w3 ⟨r, rfl, ho3, hb3⟩
    obtain ⟨ra3, rn3, rc3, hre⟩ := own_sliceP ho3
    subst hre
    have ho4 : OwnPr w3 w.heap.size (.slice ra3 rn3 rc3) jl := by rw [HE2.out]; exact ownM_mono ho3 hs
    have hb4 := below_seq hb12 hb3
    clear hF1 ho3 hb3
    go_wp2_with fail
    go_ret2
    exact ⟨_, by rw [HE1.out]; rfl, ho4, hb4⟩
end Go.Proofs.Ytagnpahkhaighaa
