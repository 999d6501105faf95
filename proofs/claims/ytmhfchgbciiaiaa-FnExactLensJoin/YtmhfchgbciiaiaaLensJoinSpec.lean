/- What the specification's LensJoin answers. -/
import Derived.Test.YtmhfchgbciiaiaaLensJoinImpl
namespace Go.Proofs.Ytmhfchgbciiaiaa
open Go.RowKit
set_option linter.unusedVariables false

set_option maxHeartbeats 2000000 in
set_option maxRecDepth 100000 in
theorem specJoin_any (C : Nat) (w : World) (va vb : Value) (a b : List St) (hla : a.length ≤ 1048576) (hlb : b.length ≤ 1048576) (hC : C ≤ w.heap.size) (ha : RdM 4 C w va a.length (stCs a)) (hb : RdM 4 C w vb b.length (stCs b)) :
    Calls Try.prog 23 #[va, vb] w fun e w' => ∃ r, e = .returned (.tuple #[r, .int .i64 (joinC a b)]) ∧ OwnSt w' w.heap.size r (joinL a b) ∧ Below w.heap.size w w' := by
  obtain ⟨i0, hi, hz0, hz1, hz2⟩ := info_parts infoStep
  obtain ⟨ao, ca, ea⟩ : ∃ ao ca, va = .slice ao a.length ca := by obtain ⟨_, ao, ca, e, _⟩ := ha; exact ⟨ao, ca, e⟩
  obtain ⟨bo, cb, eb⟩ : ∃ bo cb, vb = .slice bo b.length cb := by obtain ⟨_, bo, cb, e, _⟩ := hb; exact ⟨bo, cb, e⟩
  subst ea eb
  have hA := l14LensOK_any C w _ a hla hC ha.st
  have hB := fun w' (hw : Below w.heap.size w w') => l14LensOK_any C w' _ b hlb (Nat.le_trans hC hw.size) (hb.on hC hw).st
  have HA : Hid (∀ w', Below w.heap.size w w' → RdM 4 C w' (.slice ao a.length ca) a.length (stCs a)) := fun w' hw => ha.on hC hw
  have HB : Hid (∀ w', Below w.heap.size w w' → RdM 4 C w' (.slice bo b.length cb) b.length (stCs b)) := fun w' hw => hb.on hC hw
  have HJ : Hid (joinC a b = if okLens a && okLens b then (if 32 < a.length + b.length then 11 else 0) else 1) := rfl
  have HK : Hid (joinL a b = if okLens a && okLens b then (if 32 < a.length + b.length then [] else a ++ b) else []) := rfl
  have HL : Hid (okLens a = true → a.length ≤ 32) := okLens_len
  have HM : Hid (okLens b = true → b.length ≤ 32) := okLens_len
  clear ha hb
  generalize joinC a b = jc at *
  generalize joinL a b = jl at *
  generalize okLens a = oa at *
  generalize okLens b = ob at *
  have hempty : ∀ w1 : World, w.heap.size ≤ w1.heap.size → OwnSt (w1.alloc (.cells #[] 50)) w.heap.size (.slice (some ⟨w1.heap.size, 0, none⟩) 0 0) [] := fun w1 h => ownM_mono (World.ownsRow_lit w1 #[] 0 (Nat.le_refl _) (by decide) (by simp)) h
  have HEM : Hid _ := hempty
  clear hempty
  go_enter Try.func23, Try.ntmps23
  cases oa with
  | false =>
    have HE1 : Hid (jc = 1) := by unfold Hid; rw [HJ.out]; rfl
    have HE2 : Hid (jl = []) := by unfold Hid; rw [HK.out]; rfl
    go_wp2_with fail
    refine hA.mono ?_
    rintro e w1 ⟨rfl, hb1⟩
    go_wp2_with fail
    go_ret2
    exact ⟨_, by rw [HE1.out]; rfl, by rw [HE2.out]; exact HEM.out w1 hb1.size, below_then hb1 _⟩
  | true =>
    go_wp2_with fail
    refine hA.mono ?_
    rintro e w1 ⟨rfl, hb1⟩
    have hB1 := hB w1 hb1
    clear hA hB
    go_wp2_with fail
    refine hB1.mono ?_
    rintro e w2 ⟨rfl, hb2⟩
    have hbw := below_seq hb1 hb2
    clear hb1 hb2 hB1
    cases ob with
    | false =>
      have HE1 : Hid (jc = 1) := by unfold Hid; rw [HJ.out]; rfl
      have HE2 : Hid (jl = []) := by unfold Hid; rw [HK.out]; rfl
      go_wp2_with fail
      go_ret2
      exact ⟨_, by rw [HE1.out]; rfl, by rw [HE2.out]; exact HEM.out w2 hbw.size, below_then hbw _⟩
    | true =>
      have l1 : a.length ≤ 32 := HL.out (by first | rfl | trivial)
      have l2 : b.length ≤ 32 := HM.out (by first | rfl | trivial)
      have j2 : (a.length : Int) + (b.length : Int) < 9223372036854775808 := by omega
      by_cases h32 : 32 < a.length + b.length
      · have HE1 : Hid (jc = 11) := by unfold Hid; rw [HJ.out]; simp [h32]
        have HE2 : Hid (jl = []) := by unfold Hid; rw [HK.out]; simp [h32]
        have j1 : (32 : Int) < (a.length : Int) + (b.length : Int) := by omega
        go_wp2_with fail
        go_ret2
        exact ⟨_, by rw [HE1.out]; rfl, by rw [HE2.out]; exact HEM.out w2 hbw.size, below_then hbw _⟩
      · have HE1 : Hid (jc = 0) := by unfold Hid; rw [HJ.out]; simp [h32]
        have HE2 : Hid (jl = a ++ b) := by unfold Hid; rw [HK.out]; simp [h32]
        have j1 : decide ((32 : Int) < (a.length : Int) + (b.length : Int)) = false := by simp; omega
        have hsz := hbw.size
        have ho : (w2.alloc (.cells #[] 50)).ownsRow w.heap.size 50 4 (.slice (some ⟨w2.heap.size, 0, none⟩) 0 0) 0 [] := HEM.out w2 hsz
        have hbq : Below w.heap.size w (w2.alloc (.cells #[] 50)) := below_then hbw _
        have hRa := HA.out _ hbq
        have hs9 : w.heap.size ≤ (w2.alloc (.cells #[] 50)).heap.size := hbq.size
        clear HJ HK HL HM hla hlb hbw HEM hsz
        go_wp2_with (first | (at_builtin; refine wpList_append_rdM rfl _ _ 29 rfl w.heap.size 50 i0 (.agg #[.int .i64 0, .string ByteArray.empty, .string ByteArray.empty, .string ByteArray.empty]) 4 56 Try.underlying29 hi hz0 hz1 hz2 rfl (by decide) _ _ _ rfl ho C _ _ _ rfl hRa (stCs_one a) (by unfold maxLen; omega) (by omega) hs9 ?_))
        intro v6 w6 ho6 hg6
        have hb6 : Below w.heap.size w w6 := hbq.grown hg6 hs9 (fun q hq => (World.ownsRow.lt ho q hq).1)
        have hRb := HB.out _ hb6
        have hs6 := hb6.size
        clear hg6 ho hRa hbq hs9 HA HB
        go_wp2_with (first | (at_builtin; refine wpList_append_rdM rfl _ _ 29 rfl w.heap.size 50 i0 (.agg #[.int .i64 0, .string ByteArray.empty, .string ByteArray.empty, .string ByteArray.empty]) 4 56 Try.underlying29 hi hz0 hz1 hz2 rfl (by decide) _ _ _ rfl ho6 C _ _ _ rfl hRb (stCs_one b) (by unfold maxLen; omega) (by omega) hs6 ?_))
        intro v7 w7 ho7 hg7
        have hb7 : Below w.heap.size w w7 := hb6.grown hg7 hs6 (fun q hq => (World.ownsRow.lt ho6 q hq).1)
        have ho8 : OwnSt w7 w.heap.size v7 jl := by
          rw [HE2.out]
          unfold OwnSt
          rw [stCs_app, List.length_append]
          simpa using ho7
        clear ho6 ho7 hg7 hRb
        go_wp2_with fail
        go_ret2
        exact ⟨_, by rw [HE1.out]; rfl, ho8, hb7⟩
end Go.Proofs.Ytmhfchgbciiaiaa
