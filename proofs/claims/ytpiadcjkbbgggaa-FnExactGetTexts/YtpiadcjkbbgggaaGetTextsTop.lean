/- What the specification's GetTexts does. -/
import Derived.Test.YtpiadcjkbbgggaaGetTextsSpec
import Derived.Test.YtpiadcjkbbgggaaTextsDef
namespace Go.Proofs.Ytpiadcjkbbgggaa
open Go.RowKit Go.Lib
set_option linter.unusedVariables false

set_option maxHeartbeats 1000000 in
set_option maxRecDepth 100000 in
theorem specGetTexts_any (C : Nat) (w : World) (v : Value) (xs : List Int) (hx : Bytes xs) (hl : xs.length ≤ 1048576) (hC : C ≤ w.heap.size) (hr : Rd C w v (xs.map (Value.int .u8))) :
    Calls Try.prog 7 #[v] w fun e w' => ∃ r, e = .returned (.tuple #[r, .int .i64 (getTextsC xs)]) ∧ Own 9 w' w.heap.size r ((getTextsB xs).map Value.string) ∧ (getTextsB xs).length ≤ 4096 ∧ Below w.heap.size w w' := by
  have hr0 := hr
  obtain ⟨ao, cap, rfl, hcap, hmax, hnil, hr⟩ := hr
  rw [List.length_map] at hr hr0 ⊢
  clear hr
  have hR0 : RdrS (w.alloc (.cells #[.slice ao xs.length cap, .int .i64 0, .bool false] 57)) w.heap.size (.slice ao xs.length cap) 0 false := heap_alloc_new w _
  go_enter Try.func7, Try.ntmps7
  go_wp2_with fail
  refine (textsS_any C w.heap.size _ _ xs hx hl hC (by simp) (hr0.grown (World.grownBy_alloc w _ none) (fun k hk => by cases hk)) hR0).mono ?_
  rintro e w1 ⟨hn, hg⟩
  have hb1 : Below w.heap.size w w1 := ((Below.refl _ _).alloc (Nat.le_refl _) _).grown hg (by simp) (fun k hk => by cases hk; exact Nat.le_refl _)
  unfold textsS at hn
  cases hT : textsL xs with
  | none =>
    rw [hT] at hn
    obtain ⟨r, q, rfl, hR1⟩ := hn
    obtain ⟨e1, e2⟩ := getTexts_no (xs := xs) (by unfold getTexts; rw [hT])
    have E1 : Hid _ := e1
    have E2 : Hid _ := e2
    clear e1 e2 hT hr0 hR0
    have r2 := hR1.c2
    go_wp2_with fail
    go_ret2
    exact ⟨_, by rw [E2.out]; rfl, by rw [E1.out]; exact (own_lit w1 9 [] 0 rfl (by decide)).mono hb1.size, by rw [E1.out]; simp, hb1.alloc hb1.size _⟩
  | some z =>
    obtain ⟨out, q⟩ := z
    rw [hT] at hn
    obtain ⟨r, rfl, ho, hR1, hlen⟩ := hn
    have ho1 : Own 9 w1 w.heap.size r _ := ho.mono (by simp)
    by_cases hq : q = xs.length
    · obtain ⟨e1, e2⟩ := getTexts_yes (xs := xs) (out := out) (by unfold getTexts; rw [hT]; simp [hq])
      have E1 : Hid _ := e1
      have E2 : Hid _ := e2
      clear e1 e2 hT hr0 hR0 ho
      have r2 := hR1.c2
      have r1 := hR1.c1
      have hqi : ((q : Int) != (xs.length : Int)) = false := by simp [hq]
      have HQ : Hid _ := hq
      clear hq
      go_wp2_with fail
      go_ret2
      exact ⟨_, by rw [E2.out]; rfl, by rw [E1.out]; exact ho1, by rw [E1.out]; exact hlen, hb1⟩
    · obtain ⟨e1, e2⟩ := getTexts_no (xs := xs) (by unfold getTexts; rw [hT]; simp [hq])
      have E1 : Hid _ := e1
      have E2 : Hid _ := e2
      clear e1 e2 hT hr0 hR0 ho
      have r2 := hR1.c2
      have r1 := hR1.c1
      have hqi : ((q : Int) != (xs.length : Int)) = true := by simp; omega
      go_wp2_with fail
      go_ret2
      exact ⟨_, by rw [E2.out]; rfl, by rw [E1.out]; exact (own_lit w1 9 [] 0 rfl (by decide)).mono hb1.size, by rw [E1.out]; simp, hb1.alloc hb1.size _⟩
end Go.Proofs.Ytpiadcjkbbgggaa
