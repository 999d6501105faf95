/- What the specification's GetRuns does. -/
import Derived.Test.YtpiadcjkbbgggaaGetRunsSpec
import Derived.Test.YtpiadcjkbbgggaaPutRunsSpec
import Derived.Test.YtpiadcjkbbgggaaRunsDef
import Derived.Deep.RegionWith
namespace Go.Proofs.Ytpiadcjkbbgggaa
open Go.RowKit Go.Lib
set_option linter.unusedVariables false

theorem toList_loop (s : ByteArray) : ∀ n i r, s.size - i = n → ByteArray.toList.loop s i r = r.reverse ++ s.data.toList.drop i := by
  have hs : s.data.toList.length = s.size := by rw [Array.length_toList]; rfl
  intro n
  induction n with
  | zero =>
    intro i r h
    rw [ByteArray.toList.loop, if_neg (by omega), List.drop_of_length_le (by omega)]
    simp
  | succ n ih =>
    intro i r h
    have hi : i < s.data.toList.length := by omega
    rw [ByteArray.toList.loop, if_pos (by omega), ih (i + 1) _ (by omega), List.drop_eq_getElem_cons hi]
    have : s.get! i = s.data.toList[i] := by
      show s.data[i]! = _
      rw [getElem!_pos s.data i (by rw [← Array.length_toList]; exact hi)]
      simp
    rw [this]
    simp
theorem toList_same (s : ByteArray) : s.toList = s.data.toList := by
  have := toList_loop s s.size 0 [] (by omega)
  simpa [ByteArray.toList] using this
theorem toList_inj {a b : ByteArray} (h : a.toList = b.toList) : a = b := by
  rw [toList_same, toList_same] at h
  cases a with | mk x => cases b with | mk y => 
    simp only [ByteArray.mk.injEq]
    exact Array.toList_inj.1 h

set_option maxHeartbeats 1000000 in
set_option maxRecDepth 100000 in
theorem specGetRuns_any (C : Nat) (w : World) (v : Value) (xs : List Int) (hx : Bytes xs) (hl : xs.length ≤ 1048576) (hC : C ≤ w.heap.size) (hr : Rd C w v (xs.map (Value.int .u8))) :
    Calls Try.prog 15 #[v] w fun e w' => ∃ r, e = .returned (.tuple #[r, .int .i64 (getRunsC xs)]) ∧ Own 3 w' w.heap.size r ((getRunsB xs).map (Value.int .i64)) ∧ (getRunsB xs).length ≤ 4096 ∧ Below w.heap.size w w' := by
  have hr0 := hr
  obtain ⟨ao, cap, rfl, hcap, hmax, hnil, hr⟩ := hr
  rw [List.length_map] at hr hr0 ⊢
  clear hr
  have hR0 : RdrS (w.alloc (.cells #[.slice ao xs.length cap, .int .i64 0, .bool false] 57)) w.heap.size (.slice ao xs.length cap) 0 false := heap_alloc_new w _
  go_enter Try.func15, Try.ntmps15
  go_wp2_with fail
  refine (runsS_any C w.heap.size _ _ xs hx hl hC (by simp) (hr0.grown (World.grownBy_alloc w _ none) (fun k hk => by cases hk)) hR0).mono ?_
  rintro e w1 ⟨hn, hg⟩
  have hb1 : Below w.heap.size w w1 := ((Below.refl _ _).alloc (Nat.le_refl _) _).grown hg (by simp) (fun k hk => by cases hk; exact Nat.le_refl _)
  have hr1 : Rd C w1 (.slice ao xs.length cap) (xs.map (Value.int .u8)) := hr0.below (hb1.mono hC)
  have hlt : w.heap.size < w1.heap.size := by have := hg.size; rw [World.size_alloc] at this; omega
  unfold runsS at hn
  cases hT : runsL xs with
  | none =>
    rw [hT] at hn
    obtain ⟨r, q, rfl, hR1⟩ := hn
    obtain ⟨e1, e2⟩ := getRuns_no (xs := xs) (by unfold getRuns; rw [hT])
    have E1 : Hid _ := e1
    have E2 : Hid _ := e2
    clear e1 e2 hT hr0 hR0
    have r2 := hR1.c2
    have r1 := hR1.c1
    go_wp2_with fail
    go_quiet (fail)
    go_wp2_with fail
    go_ret2
    exact ⟨_, by rw [E2.out]; rfl, by rw [E1.out]; exact (own_lit (w1.drewN nq) 3 [] 0 rfl (by decide)).mono hb1.size, by rw [E1.out]; simp, (below_drewN hb1 nq).alloc hb1.size _⟩
  | some z =>
    obtain ⟨T, q⟩ := z
    have hok := runsL_ok hx hT
    rw [hT] at hn
    obtain ⟨r, rfl, ho, hR1⟩ := hn
    have ho1 : Own 3 w1 w.heap.size r _ := ho.mono (by simp)
    by_cases hq : q = xs.length
    · by_cases hp : putR T = xs
      · obtain ⟨e1, e2⟩ := getRuns_yes (xs := xs) (out := T) (by unfold getRuns; rw [hT]; simp [hq, hp])
        have E1 : Hid _ := e1
        have E2 : Hid _ := e2
        clear e1 e2 hT hr0 hR0 ho
        have r2 := hR1.c2
        have r1 := hR1.c1
        have hqi : ((q : Int) != (xs.length : Int)) = false := by simp [hq]
        have HQ : Hid _ := hq
        have hcmp : ((ofInts (putR T)).toList == (ofInts xs).toList) = true := by rw [hp]; exact beq_self_eq_true _
        have HP : Hid _ := hp
        clear hq hp
        go_wp2_with fail
        have hst0 : (convert 22 9 (.slice ao xs.length cap)).run Try.prog w1.drew = .ok (.string (ofInts xs)) w1.drew := run_string_of (hr1.drewN 1)
        go_region_with (first | (go_at_call 45; refine (l01PutRuns_any w1.heap.size w1.drew _ T hok.1 hok.2 (Nat.le_refl _) (show Rd w1.heap.size w1.drew r _ from ho1.rd)).mono ?_; rintro e w2 ⟨r2', rfl, hop, hbp⟩; have hst := run_string_of hop.rd; have hst2 := run_string_of (Rd.below (show Rd C w1.drew _ _ from hr1) (hbp.mono (Nat.le_trans hC hb1.size)))))
        all_goals
          have ho2 : Own 3 w2 w.heap.size r (T.map (Value.int .i64)) := (show Own 3 w1.drew w.heap.size r _ from ho1).below hbp (Nat.le_refl _)
          have hb2 : Below w.heap.size w w2 := hb1.drew.trans (hbp.mono hb1.size)
          clear hst hst2 hop hbp
          go_wp2_with fail
          go_ret2
          exact ⟨_, by rw [E2.out]; rfl, by rw [E1.out]; exact ho2, by rw [E1.out]; exact hok.1, hb2⟩
      · obtain ⟨e1, e2⟩ := getRuns_no (xs := xs) (by unfold getRuns; rw [hT]; simp [hp])
        have E1 : Hid _ := e1
        have E2 : Hid _ := e2
        clear e1 e2 hT hr0 hR0 ho
        have r2 := hR1.c2
        have r1 := hR1.c1
        have hqi : ((q : Int) != (xs.length : Int)) = false := by simp [hq]
        have HQ : Hid _ := hq
        have hcmp : ((ofInts (putR T)).toList == (ofInts xs).toList) = false := by
          rw [beq_eq_false_iff_ne]
          exact fun h => hp (ofInts_inj (putR_bytes T) hx (toList_inj h))
        have HP : Hid _ := hp
        clear hq hp
        go_wp2_with fail
        have hst0 : (convert 22 9 (.slice ao xs.length cap)).run Try.prog w1.drew = .ok (.string (ofInts xs)) w1.drew := run_string_of (hr1.drewN 1)
        go_region_with (first | (go_at_call 45; refine (l01PutRuns_any w1.heap.size w1.drew _ T hok.1 hok.2 (Nat.le_refl _) (show Rd w1.heap.size w1.drew r _ from ho1.rd)).mono ?_; rintro e w2 ⟨r2', rfl, hop, hbp⟩; have hst := run_string_of hop.rd; have hst2 := run_string_of (Rd.below (show Rd C w1.drew _ _ from hr1) (hbp.mono (Nat.le_trans hC hb1.size)))))
        all_goals
          have hb2 : Below w.heap.size w w2 := hb1.drew.trans (hbp.mono hb1.size)
          clear hst hst2 hop hbp
          go_wp2_with fail
          go_ret2
          exact ⟨_, by rw [E2.out]; rfl, by rw [E1.out]; exact (own_lit w2 3 [] 0 rfl (by decide)).mono hb2.size, by rw [E1.out]; simp, hb2.alloc hb2.size _⟩
    · obtain ⟨e1, e2⟩ := getRuns_no (xs := xs) (by unfold getRuns; rw [hT]; simp [hq])
      have E1 : Hid _ := e1
      have E2 : Hid _ := e2
      clear e1 e2 hT hr0 hR0 ho
      have r2 := hR1.c2
      have r1 := hR1.c1
      have hqi : ((q : Int) != (xs.length : Int)) = true := by simp; omega
      go_wp2_with fail
      go_quiet (fail)
      go_wp2_with fail
      go_ret2
      exact ⟨_, by rw [E2.out]; rfl, by rw [E1.out]; exact (own_lit (w1.drewN nq) 3 [] 0 rfl (by decide)).mono hb1.size, by rw [E1.out]; simp, (below_drewN hb1 nq).alloc hb1.size _⟩
end Go.Proofs.Ytpiadcjkbbgggaa
