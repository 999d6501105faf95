/- What the specification's runs does. -/
import Derived.Test.YtpiadcjkbbgggaaTextsRead
import Derived.Test.YtpiadcjkbbgggaaRunsDef
import Derived.Test.YtpiadcjkbbgggaaIntCells
namespace Go.Proofs.Ytpiadcjkbbgggaa
open Go.RowKit Go.Lib
set_option linter.unusedVariables false

theorem addTo_end {xs : List Int} {out : List Int} {f p : Nat} : addTo out (parseS xs f 0 p) = some (out, p) := by
  cases f <;> simp [parseS, addTo]
theorem addTo_none {xs : List Int} {out : List Int} {f left p : Nat} (h0 : 0 < left) (h : oneRun xs p left = none) : addTo out (parseS xs f left p) = none := by
  cases f with
  | zero => simp only [parseS]; rw [if_neg (by omega)]; rfl
  | succ f => simp only [parseS]; rw [if_neg (by omega), h]; rfl
theorem addTo_some {xs : List Int} {out : List Int} {f left p k q : Nat} {v d : Int} (h0 : 0 < left) (hf : left ≤ f) (hk : 1 ≤ k) (h : oneRun xs p left = some (v, k, d, q)) :
    ∃ f', left - k ≤ f' ∧ addTo out (parseS xs f left p) = addTo (out ++ valsF k v d) (parseS xs f' (left - k) q) := by
  obtain ⟨f, rfl⟩ : ∃ f', f = f' + 1 := ⟨f - 1, by omega⟩
  refine ⟨f, by omega, ?_⟩
  simp only [parseS]
  rw [if_neg (by omega), h]
  simp only
  cases parseS xs f (left - k) q with
  | none => rfl
  | some z => simp [addTo]

/-- What runs answers. -/
def runsS (xs : List Int) (N b : Nat) (va : Value) (e : Ending) (w' : World) : Prop := match runsL xs with
  | some (T, q) => ∃ r, e = .returned r ∧ Own 3 w' N r (T.map (Value.int .i64)) ∧ RdrS w' b va q false
  | none => ∃ r q, e = .returned r ∧ RdrS w' b va q true

theorem runsS_none {xs : List Int} {N b q : Nat} {va r : Value} {w' : World} (h : runsL xs = none) (hR : RdrS w' b va q true) : runsS xs N b va (.returned r) w' := by
  unfold runsS
  rw [h]
  exact ⟨r, q, rfl, hR⟩

/-- Where the reading stands: it goes on well, or it has gone wrong. -/
def runsAt (xs : List Int) (N b n : Nat) (va to : Value) (wr : World) : Prop :=
  ∃ (p : Nat) (out : List Int) (bad : Bool), RdrS wr b va p bad ∧ p ≤ xs.length ∧ Own 3 wr N to (out.map (Value.int .i64)) ∧ out.length ≤ n ∧
    ((bad = false ∧ Hid (∃ f, n - out.length ≤ f ∧ runsL xs = addTo out (parseS xs f (n - out.length) p))) ∨ (bad = true ∧ Hid (runsL xs = none)))

/-- What the three numbers of a run come to. -/
theorem run_head {xs : List Int} {p p1 p2 v k left : Nat} {bad1 bad2 : Bool}
    (h1 : (false = false ∧ getL xs p = some ((v : Int), p1) ∧ bad1 = false) ∨ (bad1 = true ∧ v = 0 ∧ (false = true ∨ getL xs p = none)))
    (h2 : (bad1 = false ∧ getL xs p1 = some ((k : Int), p2) ∧ bad2 = false) ∨ (bad2 = true ∧ k = 0 ∧ (bad1 = true ∨ getL xs p1 = none))) :
    (bad2 = true ∨ k < 1 ∨ left < k ∨ 1152921504606846975 < v → oneRun xs p left = none) ∧ (bad2 = false → getL xs p = some ((v : Int), p1) ∧ getL xs p1 = some ((k : Int), p2)) := by
  constructor
  · intro h
    unfold oneRun
    rcases h1 with ⟨_, e1, rfl⟩ | ⟨rfl, _, e1⟩
    · rw [e1]
      simp only
      rcases h2 with ⟨_, e2, rfl⟩ | ⟨rfl, _, e2⟩
      · rw [e2]
        simp only
        rw [if_pos (by simp only [Int.toNat_natCast]; rcases h with h | h <;> first | (cases h; done) | omega)]
      · rcases e2 with e2 | e2
        · cases e2
        · rw [e2]
    · rcases e1 with e1 | e1
      · cases e1
      · rw [e1]
  · rintro rfl
    rcases h2 with ⟨rfl, e2, _⟩ | ⟨h, _⟩
    · rcases h1 with ⟨_, e1, _⟩ | ⟨h, _⟩
      · exact ⟨e1, e2⟩
      · cases h
    · cases h
theorem run_one {xs : List Int} {p p1 p2 v left : Nat} (e1 : getL xs p = some ((v : Int), p1)) (e2 : getL xs p1 = some (((1 : Nat) : Int), p2)) (hl : 1 ≤ left) (hv : v ≤ 1152921504606846975) : oneRun xs p left = some ((v : Int), 1, 0, p2) := by
  unfold oneRun
  rw [e1]
  simp only
  rw [e2]
  simp only
  rw [if_neg (by simp only [Int.toNat_natCast]; omega), if_pos (show ((1 : Nat) : Int).toNat = 1 from rfl)]
theorem run_more {xs : List Int} {p p1 p2 p3 v k x left : Nat} {bad3 : Bool} (e1 : getL xs p = some ((v : Int), p1)) (e2 : getL xs p1 = some ((k : Int), p2)) (hk : 1 < k) (hl : k ≤ left) (hv : v ≤ 1152921504606846975)
    (h3 : (false = false ∧ getL xs p2 = some ((x : Int), p3) ∧ bad3 = false) ∨ (bad3 = true ∧ x = 0 ∧ (false = true ∨ getL xs p2 = none))) :
    (bad3 = true ∨ okV k v (unf x) = false → oneRun xs p left = none) ∧ (bad3 = false → okV k v (unf x) = true → oneRun xs p left = some ((v : Int), k, unf x, p3)) := by
  unfold oneRun
  rw [e1]
  simp only
  rw [e2]
  simp only
  rw [if_neg (by simp only [Int.toNat_natCast]; omega), if_neg (by simp only [Int.toNat_natCast]; omega)]
  rcases h3 with ⟨_, e3, rfl⟩ | ⟨rfl, _, e3⟩
  · rw [e3]
    simp only [Int.toNat_natCast]
    refine ⟨fun h => ?_, fun _ h => by rw [if_pos h]⟩
    rcases h with h | h
    · cases h
    · rw [if_neg (by rw [h]; decide)]
  · rcases e3 with e3 | e3
    · cases e3
    · rw [e3]
      exact ⟨fun _ => rfl, fun h => by cases h⟩

/-- What a run that was read says. -/
def RunN (xs : List Int) (p k q left : Nat) (v d : Int) (bad : Bool) : Prop :=
  (bad = true ∨ okV k v d = false → oneRun xs p left = none) ∧ (bad = false → okV k v d = true → oneRun xs p left = some (v, k, d, q))
theorem runs_next {xs : List Int} {p k q n : Nat} {v d : Int} {bad : Bool} {out : List Int} (h0 : 0 < n - out.length) (hk1 : 1 ≤ k) (hk2 : k ≤ n - out.length)
    (HT : ∃ f, n - out.length ≤ f ∧ runsL xs = addTo out (parseS xs f (n - out.length) p)) (HO : RunN xs p k q (n - out.length) v d bad) (hok : okV k v d = true) :
    (bad = false ∧ Hid (∃ f, n - (out ++ valsF k v d).length ≤ f ∧ runsL xs = addTo (out ++ valsF k v d) (parseS xs f (n - (out ++ valsF k v d).length) q))) ∨ (bad = true ∧ Hid (runsL xs = none)) := by
  obtain ⟨f, hf, hT⟩ := HT
  have e : n - (out ++ valsF k v d).length = n - out.length - k := by rw [List.length_append, valsF_len]; omega
  cases bad with
  | true => exact .inr ⟨rfl, by unfold Hid; rw [hT, addTo_none h0 (HO.1 (.inl rfl))]⟩
  | false =>
    refine .inl ⟨rfl, ?_⟩
    obtain ⟨f', hf', h⟩ := addTo_some (out := out) h0 hf hk1 (HO.2 rfl hok)
    exact ⟨f', by omega, by rw [hT, h, e]⟩
theorem okV_stop {k j : Nat} {v cur d : Int} (h : okV k v d = okV j cur d) (hj : 1 < j) (hc : ¬ (0 ≤ cur + d ∧ cur + d ≤ 1152921504606846975)) : okV k v d = false := by
  obtain ⟨j, rfl⟩ : ∃ j', j = j' + 2 := ⟨j - 2, by omega⟩
  rw [h]
  simp only [okV]
  rw [decide_eq_false hc]
  simp
theorem okV_step {k j : Nat} {v cur d : Int} (h : okV k v d = okV j cur d) (hj : 0 < j) (h1 : 0 ≤ cur) (h2 : cur ≤ 1152921504606846975) : okV k v d = okV (j - 1) (cur + d) d := by
  obtain ⟨j, rfl⟩ : ∃ j', j = j' + 1 := ⟨j - 1, by omega⟩
  rw [h]
  simp only [okV, Nat.add_sub_cancel]
  rw [decide_eq_true ⟨h1, h2⟩]
  simp
theorem valsF_step {j : Nat} {cur d : Int} {acc X : List Int} (h : acc ++ valsF j cur d = X) (hj : 0 < j) : (acc ++ [cur]) ++ valsF (j - 1) (cur + d) d = X := by
  obtain ⟨j, rfl⟩ : ∃ j', j = j' + 1 := ⟨j - 1, by omega⟩
  rw [← h]
  simp [valsF]

set_option maxHeartbeats 4000000 in
set_option maxRecDepth 100000 in
theorem runsS_any (C b : Nat) (w : World) (va : Value) (xs : List Int) (hx : Bytes xs) (hl : xs.length ≤ 1048576) (hC : C ≤ b) (hb : b < w.heap.size) (hr : Rd C w va (xs.map (Value.int .u8))) (hR : RdrS w b va 0 false) :
    Calls Try.prog 44 #[.pointer (some ⟨b, 0, none⟩)] w fun e w' => runsS xs w.heap.size b va e w' ∧ w.grownBy w' (some b) := by
  obtain ⟨i0, hi, hz0, hz1, hz2⟩ := info_parts info3
  have hR0 : RdrS (w.alloc (.cells #[] 3)) b va 0 false := hR.grown (World.grownBy_alloc w _ none) (fun k hk => by cases hk)
  have hr0 : Rd C (w.alloc (.cells #[] 3)) va _ := hr.grown (World.grownBy_alloc w _ none) (fun k hk => by cases hk)
  have ho0 : Own 3 (w.alloc (.cells #[] 3)) w.heap.size (.slice (some ⟨w.heap.size, 0, none⟩) 0 0) [] := own_lit w 3 [] 0 rfl (by decide)
  have hg0 : w.grownBy (w.alloc (.cells #[] 3)) (some b) := World.grownBy_alloc w _ _
  go_enter Try.func44, Try.ntmps44
  go_wp2_with fail
  refine (count_any C b _ va xs hx hl hr0 hR0).mono ?_
  rintro e w1 ⟨hcn, hg1⟩
  have hgw1 : w.grownBy w1 (some b) := grownBy_trans hg0 hg1
  have ho1 : Own 3 w1 w.heap.size (.slice (some ⟨w.heap.size, 0, none⟩) 0 0) [] := ho0.apart hg1 (fun k hk => by cases hk; exact hb)
  obtain ⟨n, hn4, rfl, hst⟩ : ∃ n : Nat, n ≤ 4096 ∧ e = .returned (.int .i64 (n : Int)) ∧ runsAt xs w.heap.size b n va (.slice (some ⟨w.heap.size, 0, none⟩) 0 0) w1 := by
    unfold countS at hcn
    cases hG : getL xs 0 with
    | none =>
      rw [hG] at hcn
      obtain ⟨rfl, hR1⟩ := hcn
      exact ⟨0, by omega, rfl, 0, [], true, hR1, by omega, ho1, by simp, .inr ⟨rfl, by unfold Hid runsL; rw [hG]⟩⟩
    | some z =>
      obtain ⟨a, q⟩ := z
      rw [hG] at hcn
      simp only at hcn
      have hok := getL_ok hx hG
      split at hcn
      · rename_i h4
        obtain ⟨rfl, hR1⟩ := hcn
        exact ⟨0, by omega, rfl, q, [], true, hR1, hok.2.2.2, ho1, by simp, .inr ⟨rfl, by unfold Hid runsL; rw [hG]; simp only; rw [if_pos h4]⟩⟩
      · rename_i h4
        obtain ⟨rfl, hR1⟩ := hcn
        obtain ⟨n, rfl⟩ := Int.eq_ofNat_of_zero_le hok.1
        refine ⟨n, by omega, rfl, q, [], false, hR1, hok.2.2.2, ho1, by simp, .inl ⟨rfl, n, by simp, ?_⟩⟩
        unfold runsL
        rw [hG]
        simp only
        rw [if_neg h4, Int.toNat_natCast]
        simp only [List.length_nil, Nat.sub_zero]
        cases parseS xs n n q with
        | none => rfl
        | some z => rfl
  clear hcn ho0 hR0 hr0 hg0 hg1 ho1 hR
  go_wp2_with fail
  go_loopw [3] (fun to wr => runsAt xs w.heap.size b n va to wr ∧ w.grownBy wr (some b)) (fun to _ => n - lenOf to)
  case atStart => exact ⟨hst, hgw1⟩
  case round =>
    clear hst hgw1
    obtain ⟨⟨p, out, bad, hRr, hp, how, hon, hst⟩, hgw⟩ := hrel
    have hszw := hgw.size
    obtain ⟨ao, cap, rfl, hsh⟩ := how.slice
    rw [List.length_map] at how hsh ⊢
    clear hsh
    by_cases hj0 : out.length = n
    · have hjb : ¬ (out.length : Int) < (n : Int) := by omega
      have hjd : decide ((out.length : Int) < (n : Int)) = false := by simpa using hjb
      have hres : Hid (runsS xs w.heap.size b va (.returned (.slice ao out.length cap)) wr) := by
        unfold Hid
        rcases hst with ⟨rfl, HT⟩ | ⟨rfl, HT⟩
        · obtain ⟨f, _, hT⟩ := HT.out
          rw [hj0, Nat.sub_self, addTo_end] at hT
          unfold runsS
          rw [hT]
          exact ⟨_, rfl, how, hRr⟩
        · exact runsS_none HT.out hRr
      clear hst how hj0
      go_wp2_with fail
      go_ret
      exact ⟨hres.out, hgw⟩
    · have hjb : (out.length : Int) < (n : Int) := by omega
      rcases hst with ⟨rfl, HT⟩ | ⟨rfl, HT⟩
      · have r2 := hRr.c2
        have hrr : Rd C wr va (xs.map (Value.int .u8)) := hr.grown hgw (fun k hk => by cases hk; exact hC)
        go_wp2_with fail
        refine (num_any C b p false wr va xs hx hl hp hrr hRr).mono ?_
        rintro e w2 ⟨v, p1, bad1, rfl, hR2, hp1, hv, h1, hg2⟩
        have how2 := how.apart hg2 (fun k hk => by cases hk; exact hb)
        have hgw2 := grownBy_trans hgw hg2
        have hr2 := hr.grown hgw2 (fun k hk => by cases hk; exact hC)
        clear r2 hRr how hrr hg2
        go_wp2_with fail
        refine (num_any C b p1 bad1 w2 va xs hx hl hp1 hr2 hR2).mono ?_
        rintro e w3 ⟨k, p2, bad2, rfl, hR3, hp2, hk, h2, hg3⟩
        have how3 := how2.apart hg3 (fun k hk => by cases hk; exact hb)
        have hgw3 := grownBy_trans hgw2 hg3
        have hr3 := hr.grown hgw3 (fun k hk => by cases hk; exact hC)
        have hhead := run_head (left := n - out.length) (by simpa using h1) h2
        clear h1 h2 hR2 how2 hr2 hg3 hgw2 hgw
        have r2 := hR3.c2
        have f2 := hR3.f 2
        have hsub : (n : Int) - (out.length : Int) = ((n - out.length : Nat) : Int) := by omega
        by_cases hbd : bad2 = true ∨ k < 1 ∨ n - out.length < k ∨ 1152921504606846975 < v
        · have hres : Hid (runsS xs w.heap.size b va (.returned (.slice ao out.length cap)) (w3.setCell ⟨b, 2, none⟩ (.bool true))) := by
            obtain ⟨f, hf, hT⟩ := HT.out
            exact runsS_none (by rw [hT, addTo_none (by omega) (hhead.1 hbd)]) (hR3.set2 true)
          have hgf := grownBy_trans hgw3 (grownBy_set w3 b 2 (.bool true))
          clear hhead HT
          cases bad2 with
          | true =>
            clear hbd
            go_wp2_with fail
            go_ret
            exact ⟨hres.out, hgf⟩
          | false =>
            have hbd' : k < 1 ∨ n - out.length < k ∨ 1152921504606846975 < v := by simpa using hbd
            clear hbd
            by_cases hk1 : (k : Int) < 1
            · go_wp2_with fail
              go_ret
              exact ⟨hres.out, hgf⟩
            · by_cases hk2 : (n : Int) - (out.length : Int) < (k : Int)
              · go_wp2_with fail
                go_ret
                exact ⟨hres.out, hgf⟩
              · have hk3 : 1152921504606846975 < (v : Int) := by omega
                go_wp2_with fail
                go_ret
                exact ⟨hres.out, hgf⟩
        · obtain rfl : bad2 = false := by cases bad2 <;> simp_all
          obtain ⟨e1, e2⟩ := hhead.2 rfl
          have hk1 : 1 ≤ k := by omega
          have hk2 : k ≤ n - out.length := by omega
          have hv3 : v ≤ 1152921504606846975 := by omega
          have hi1 : ¬ (k : Int) < 1 := by omega
          have hi2 : ¬ (n : Int) - (out.length : Int) < (k : Int) := by omega
          have hi3 : ¬ 1152921504606846975 < (v : Int) := by omega
          clear hhead hbd
          by_cases hk : k = 1
          case' pos =>
            obtain ⟨d, hd⟩ : ∃ d : Int, 0 = d := ⟨0, rfl⟩
            have HO : Hid (RunN xs p k p2 (n - out.length) v d false) := by
              subst hk hd
              have h1 := run_one e1 e2 (show 1 ≤ n - out.length by omega) hv3
              refine ⟨fun h => ?_, fun _ _ => h1⟩
              rcases h with h | h
              · cases h
              · simp [okV] at h; omega
            have hki : ¬ 1 < (k : Int) := by omega
            have hd1 : -2305843009213693952 ≤ d := by omega
            have hd2 : d ≤ 2305843009213693952 := by omega
            have HD : Hid _ := hd
            have HKK : Hid _ := hk
            clear e1 e2 hk hd
            obtain ⟨bad3, hb3⟩ : ∃ b3 : Bool, b3 = false := ⟨false, rfl⟩
            rw [← hb3] at HO
            rw [← hb3] at hR3
            have hR4 := hR3
            have hgw4 := hgw3
            have how4 := how3
            have hp4 := hp2
            clear hR3 hgw3 how3 hp2 hb3
            go_wp2_with fail
            clear r2 f2
            conv => arg 4; rw [show Value.int .i64 0 = Value.int .i64 d from congrArg _ HD.out]
          case' neg =>
            have hki : 1 < (k : Int) := by omega
            have E1 : Hid _ := e1
            have E2 : Hid _ := e2
            clear e1 e2
            go_wp2_with fail
            refine (num_any C b p2 false w3 va xs hx hl hp2 hr3 hR3).mono ?_
            rintro e w4 ⟨x, p3, bad3, rfl, hR4, hp4, hxx, h3, hg4⟩
            obtain ⟨d, hd⟩ : ∃ d : Int, unf x = d := ⟨_, rfl⟩
            have hbd := unf_bd (x := (x : Int)) (by omega) (by omega)
            have hd1 : -2305843009213693952 ≤ d := by omega
            have hd2 : d ≤ 2305843009213693952 := by omega
            have HO : Hid (RunN xs p k p3 (n - out.length) v d bad3) := by
              have := run_more E1.out E2.out (show 1 < k by omega) hk2 hv3 (by simpa using h3)
              rw [hd] at this
              exact this
            have hgw4 := grownBy_trans hgw3 hg4
            have how4 := how3.apart hg4 (fun k hk => by cases hk; exact hb)
            have HKK : Hid _ := hk
            clear h3 hbd hR3 hgw3 how3 hp2 r2 f2 hg4 E1 E2 hk
            by_cases hodd : x % 2 = 1
            case' pos =>
              have hod : ((x : Int) % 2 == 1) = true := by simp; omega
              have HD : Hid (wrap64 (-((x : Int) + 1).tdiv 2) = d) := by
                unfold Hid
                rw [← hd]
                unfold unf
                rw [if_pos (by omega), Int.tdiv_eq_ediv_of_nonneg (by omega)]
                exact IntWalk.wrap64_in _ ⟨by omega, by omega⟩
              clear hd
              go_wp2_with fail
              rw [HD.out]
            case' neg =>
              have hod : ((x : Int) % 2 == 1) = false := by simp; omega
              have HD : Hid ((x : Int) / 2 = d) := by
                unfold Hid
                rw [← hd]
                unfold unf
                rw [if_neg (by omega)]
              clear hd
              go_wp2_with fail
              rw [HD.out]
          all_goals
            go_loopw [3, 5, 6] (fun to tv tk wi => ∃ (j : Nat) (cur : Int) (acc : List Int), tv = .int .i64 cur ∧ tk = .int .i64 (j : Int) ∧ j ≤ k ∧ RdrS wi b va _ bad3 ∧ Own 3 wi w.heap.size to (acc.map (Value.int .i64)) ∧ acc.length + j = out.length + k ∧ (0 < j → 0 ≤ cur ∧ cur ≤ 1152921504606846975) ∧ Hid (acc ++ valsF j cur d = out ++ valsF k v d) ∧ Hid (okV k v d = okV j cur d) ∧ w.grownBy wi (some b)) (fun _ _ tk _ => (intOf tk).toNat)
            case atStart => exact ⟨k, v, out, rfl, rfl, Nat.le_refl _, hR4, how4, rfl, fun _ => ⟨by omega, by omega⟩, rfl, rfl, hgw4⟩
            case round =>
              clear hR4 how4 hgw4
              obtain ⟨j, cur, acc, rfl, rfl, hj, hRj, howj, hlen, hcur, HV, HK, hgwj⟩ := hrel
              by_cases hj0 : j = 0
              · have hjb' : ¬ (0 : Int) < (j : Int) := by omega
                have hjd' : decide ((0 : Int) < (j : Int)) = false := by simpa using hjb'
                obtain ⟨acc2, hacc, HN, hlen2⟩ : ∃ acc2, acc = acc2 ∧ ((bad3 = false ∧ Hid (∃ f, n - acc2.length ≤ f ∧ runsL xs = addTo acc2 (parseS xs f (n - acc2.length) _))) ∨ (bad3 = true ∧ Hid (runsL xs = none))) ∧ acc2.length = out.length + k := by
                  have hv : acc = out ++ valsF k v d := by have := HV.out; rw [hj0] at this; simpa [valsF] using this
                  refine ⟨_, hv, runs_next (show 0 < n - out.length by omega) hk1 hk2 HT.out HO.out (by rw [HK.out, hj0]; rfl), ?_⟩
                  rw [List.length_append, valsF_len]
                subst hacc
                clear HK HV hcur HO HT HKK hlen
                go_wp2_with fail
                go_roundw
                case rel => exact ⟨⟨_, _, bad3, hRj, hp4, howj, by omega, HN⟩, hgwj⟩
                case measure =>
                  obtain ⟨ao2, cap2, e2, _⟩ := howj.slice
                  rw [List.length_map] at e2
                  simp [lenOf, e2]
                  omega
              · have hjb' : (0 : Int) < (j : Int) := by omega
                have hc1 := (hcur (by omega)).1
                have hc2 := (hcur (by omega)).2
                clear hcur
                have hbj : ∀ g, u3.ownBlock = some g → w.heap.size ≤ g := howj.lt
                have hszj := hgwj.size
                have hcn : ∀ (j : Nat) (u : Value), [Value.int .i64 cur][j]? = some u → (wr.alloc (.cells #[.int .i64 cur] 3)).cell? ((⟨wr.heap.size, 0, none⟩ : Addr).add j) = some u := cell_one_new _ _ _
                have hal : acc.length ≤ 4096 := by omega
                have HO2 : Hid _ := HO.out
                have hcase : ((¬ 1 < (j : Int)) ∨ (1 < (j : Int) ∧ ¬ cur + d < 0 ∧ ¬ 1152921504606846975 < cur + d)) ∨ (Hid (runsL xs = none) ∧ ((1 < (j : Int) ∧ cur + d < 0) ∨ (1 < (j : Int) ∧ ¬ cur + d < 0 ∧ 1152921504606846975 < cur + d))) := by
                  by_cases h1 : 1 < j
                  · by_cases h2 : 0 ≤ cur + d ∧ cur + d ≤ 1152921504606846975
                    · exact .inl (.inr (by omega))
                    · refine .inr ⟨?_, by omega⟩
                      obtain ⟨f, hf, hT⟩ := HT.out
                      unfold Hid
                      rw [hT, addTo_none (by omega) (HO.out.1 (.inr (okV_stop HK.out h1 h2)))]
                  · exact .inl (.inl (by omega))
                have HR : Hid (((acc ++ [cur]) ++ valsF (j - 1) (cur + d) d = out ++ valsF k v d) ∧ okV k v d = okV (j - 1) (cur + d) d) := ⟨valsF_step HV.out (by omega), okV_step HK.out (by omega) hc1 hc2⟩
                clear HK HV HO
                rcases hcase with hcase | ⟨HT', hcase⟩
                · rcases hcase with h1 | ⟨h1, h2, h3⟩
                  all_goals
                    first
                    | (exfalso; omega)
                    | (go_wp2_with (at_builtin; refine wpList_append_own _ rfl _ _ 32 rfl w.heap.size 3 i0 (.int .i64 0) 1 8 Try.underlying32 hi hz0 hz1 hz2 rfl (by decide) _ _ _ rfl (World.ownsRow.alloc howj _) ⟨wr.heap.size, 0, none⟩ 1 1 [.int .i64 cur] rfl rfl hcn (by simp [Value.oneCell']) (by simp [maxLen]; omega) (by simp; omega) (by simp; omega) ?_)
                       intro v6 w6 ho6 hg6 _
                       have hR6 := (hRj.grown (World.grownBy_alloc wr (.cells #[.int .i64 cur] 3) none) (fun k hk => by cases hk)).grown hg6 (fun k hk => by have := hbj k hk; omega)
                       have hg7 := grownBy_own (grownBy_trans hgwj (World.grownBy_alloc _ _ _)) hg6 hbj
                       have ho7 : Own 3 w6 w.heap.size v6 ((acc ++ [cur]).map (Value.int .i64)) := by simpa using own_of ho6
                       clear ho6 hg6 howj hRj hgwj hcn
                       go_wp2_with fail
                       go_roundw
                       case rel => first | exact ⟨j - 1, cur + d, acc ++ [cur], rfl, by congr 1; omega, by omega, hR6, ho7, by simp; omega, fun h => by omega, HR.out.1, HR.out.2, hg7⟩ | exact ⟨_, _, _, _, ⟨j - 1, cur + d, rfl, by congr 1; omega, by omega, acc ++ [cur], ho7, by simp; omega, fun h => by omega, HR.out.1, HR.out.2⟩, rfl, rfl, rfl, rfl⟩
                       case measure => simp [intOf]; omega)
                · rcases hcase with ⟨h1, h2⟩ | ⟨h1, h2, h3⟩
                  all_goals
                    first
                    | (exfalso; omega)
                    | (go_wp2_with (at_builtin; refine wpList_append_own _ rfl _ _ 32 rfl w.heap.size 3 i0 (.int .i64 0) 1 8 Try.underlying32 hi hz0 hz1 hz2 rfl (by decide) _ _ _ rfl (World.ownsRow.alloc howj _) ⟨wr.heap.size, 0, none⟩ 1 1 [.int .i64 cur] rfl rfl hcn (by simp [Value.oneCell']) (by simp [maxLen]; omega) (by simp; omega) (by simp; omega) ?_)
                       intro v6 w6 ho6 hg6 _
                       have hR6 := (hRj.grown (World.grownBy_alloc wr (.cells #[.int .i64 cur] 3) none) (fun k hk => by cases hk)).grown hg6 (fun k hk => by have := hbj k hk; omega)
                       have hg7 := grownBy_own (grownBy_trans hgwj (World.grownBy_alloc _ _ _)) hg6 hbj
                       have r6 := hR6.c2
                       have f6 := hR6.f 2
                       have hres : Hid (∀ r, runsS xs w.heap.size b va (.returned r) (w6.setCell ⟨b, 2, none⟩ (.bool true))) := fun r => runsS_none HT'.out (hR6.set2 true)
                       have hg8 := grownBy_trans hg7 (grownBy_set w6 b 2 (.bool true))
                       clear ho6 hg6 howj hRj hgwj hcn hR6 hg7 HT'
                       go_wp2_with fail
                       go_ret
                       exact ⟨hres.out _, hg8⟩)
      · have r2 := hRr.c2
        have hres : Hid (runsS xs w.heap.size b va (.returned (.slice ao out.length cap)) wr) := runsS_none HT.out hRr
        go_wp2_with fail
        go_ret
        exact ⟨hres.out, hgw⟩
end Go.Proofs.Ytpiadcjkbbgggaa
