/- What the specification's runs and texts do, from any place on. -/
import Derived.Test.YtcjlihfkibpgoaaGreatDoorQTextsCellsToGetTextsSpec
import Derived.Test.YtcjlihfkibpgoaaGreatDoorQTextsToPutTextsSpec
namespace Go.Proofs.YtcjlihfkibpgoaaGreatDoor
open Go.RowKit Go.Lib
set_option linter.unusedVariables false

/-- What count answers. -/
def countSP (xs : List Int) (p0 : Nat) (b : Nat) (va : Value) (e : Ending) (w' : World) : Prop := match getL xs p0 with
  | some (a, q) => if 4096 < a then e = .returned (.int .i64 0) ∧ RdrS w' b va q true else e = .returned (.int .i64 a) ∧ RdrS w' b va q false
  | none => e = .returned (.int .i64 0) ∧ RdrS w' b va p0 true
set_option maxHeartbeats 400000 in
theorem countP_any (C b : Nat) (w : World) (va : Value) (xs : List Int) (p0 : Nat) (hx : Bytes xs) (hl : xs.length ≤ 1048576) (hp0 : p0 ≤ xs.length) (hr : Rd C w va (xs.map (Value.int .u8))) (hR : RdrS w b va p0 false) :
    Calls Tryz.prog 35 #[.pointer (some ⟨b, 0, none⟩)] w fun e w' => countSP xs p0 b va e w' ∧ w.grownBy w' (some b) := by
  go_enter Tryz.func35, Tryz.ntmps35
  go_wp2_with fail
  refine (num_good C b p0 w va xs hx hl hp0 hr hR).mono ?_
  rintro e w1 ⟨hn, hg⟩
  unfold numS at hn
  cases hG : getL xs p0 with
  | none =>
    rw [hG] at hn
    obtain ⟨rfl, hR1⟩ := hn
    have HG : Hid _ := hG
    clear hG
    go_wp2_with fail
    go_ret
    exact ⟨by rw [countSP, HG.out]; exact ⟨rfl, hR1⟩, hg⟩
  | some z =>
    obtain ⟨a, q⟩ := z
    rw [hG] at hn
    obtain ⟨rfl, hR1⟩ := hn
    have HG : Hid _ := hG
    clear hG
    by_cases h4 : 4096 < a
    · have r2 := hR1.c2
      have f2 := hR1.f 2
      have HC : Hid (countSP xs p0 b va (.returned (.int .i64 0)) (w1.setCell ⟨b, 2, none⟩ (.bool true))) := by
        unfold Hid countSP
        rw [HG.out]
        simp only
        rw [if_pos h4]
        exact ⟨by trivial, hR1.set2 true⟩
      go_wp2_with fail
      go_ret
      exact ⟨HC.out, grownBy_trans hg (grownBy_set w1 b 2 _)⟩
    · have HC : Hid (countSP xs p0 b va (.returned (.int .i64 a)) w1) := by
        unfold Hid countSP
        rw [HG.out]
        simp only
        rw [if_neg h4]
        exact ⟨by trivial, hR1⟩
      go_wp2_with fail
      go_ret
      exact ⟨HC.out, hg⟩
/-- What runs answers. -/
def runsSP (xs : List Int) (p0 : Nat) (N b : Nat) (va : Value) (e : Ending) (w' : World) : Prop := match runsLP xs p0 with
  | some (T, q) => ∃ r, e = .returned r ∧ Own 3 w' N r (T.map (Value.int .i64)) ∧ RdrS w' b va q false
  | none => ∃ r q, e = .returned r ∧ RdrS w' b va q true
theorem runsS_noneP {xs : List Int} {p0 : Nat} {N b q : Nat} {va r : Value} {w' : World} (h : runsLP xs p0 = none) (hR : RdrS w' b va q true) : runsSP xs p0 N b va (.returned r) w' := by
  unfold runsSP
  rw [h]
  exact ⟨r, q, rfl, hR⟩
/-- Where the reading stands: it goes on well, or it has gone wrong. -/
def runsAtP (xs : List Int) (p0 : Nat) (N b n : Nat) (va to : Value) (wr : World) : Prop :=
  ∃ (p : Nat) (out : List Int) (bad : Bool), RdrS wr b va p bad ∧ p ≤ xs.length ∧ Own 3 wr N to (out.map (Value.int .i64)) ∧ out.length ≤ n ∧
    ((bad = false ∧ Hid (∃ f, n - out.length ≤ f ∧ runsLP xs p0 = addTo out (parseS xs f (n - out.length) p))) ∨ (bad = true ∧ Hid (runsLP xs p0 = none)))
theorem runs_nextP {xs : List Int} {p0 : Nat} {p k q n : Nat} {v d : Int} {bad : Bool} {out : List Int} (h0 : 0 < n - out.length) (hk1 : 1 ≤ k) (hk2 : k ≤ n - out.length)
    (HT : ∃ f, n - out.length ≤ f ∧ runsLP xs p0 = addTo out (parseS xs f (n - out.length) p)) (HO : RunN xs p k q (n - out.length) v d bad) (hok : okV k v d = true) :
    (bad = false ∧ Hid (∃ f, n - (out ++ valsF k v d).length ≤ f ∧ runsLP xs p0 = addTo (out ++ valsF k v d) (parseS xs f (n - (out ++ valsF k v d).length) q))) ∨ (bad = true ∧ Hid (runsLP xs p0 = none)) := by
  obtain ⟨f, hf, hT⟩ := HT
  have e : n - (out ++ valsF k v d).length = n - out.length - k := by rw [List.length_append, valsF_len]; omega
  cases bad with
  | true => exact .inr ⟨rfl, by unfold Hid; rw [hT, addTo_none h0 (HO.1 (.inl rfl))]⟩
  | false =>
    refine .inl ⟨rfl, ?_⟩
    obtain ⟨f', hf', h⟩ := addTo_some (out := out) h0 hf hk1 (HO.2 rfl hok)
    exact ⟨f', by omega, by rw [hT, h, e]⟩
set_option maxHeartbeats 4000000 in
set_option maxRecDepth 100000 in
theorem runsSP_any (C b : Nat) (w : World) (va : Value) (xs : List Int) (p0 : Nat) (hx : Bytes xs) (hl : xs.length ≤ 1048576) (hp0 : p0 ≤ xs.length) (hC : C ≤ b) (hb : b < w.heap.size) (hr : Rd C w va (xs.map (Value.int .u8))) (hR : RdrS w b va p0 false) :
    Calls Tryz.prog 26 #[.pointer (some ⟨b, 0, none⟩)] w fun e w' => runsSP xs p0 w.heap.size b va e w' ∧ w.grownBy w' (some b) := by
  obtain ⟨i0, hi, hz0, hz1, hz2⟩ := info_parts info3
  have hR0 : RdrS (w.alloc (.cells #[] 3)) b va p0 false := hR.grown (World.grownBy_alloc w _ none) (fun k hk => by cases hk)
  have hr0 : Rd C (w.alloc (.cells #[] 3)) va _ := hr.grown (World.grownBy_alloc w _ none) (fun k hk => by cases hk)
  have ho0 : Own 3 (w.alloc (.cells #[] 3)) w.heap.size (.slice (some ⟨w.heap.size, 0, none⟩) 0 0) [] := own_lit w 3 [] 0 rfl (by decide)
  have hg0 : w.grownBy (w.alloc (.cells #[] 3)) (some b) := World.grownBy_alloc w _ _
  go_enter Tryz.func26, Tryz.ntmps26
  go_wp2_with fail
  refine (countP_any C b _ va xs p0 hx hl hp0 hr0 hR0).mono ?_
  rintro e w1 ⟨hcn, hg1⟩
  have hgw1 : w.grownBy w1 (some b) := grownBy_trans hg0 hg1
  have ho1 : Own 3 w1 w.heap.size (.slice (some ⟨w.heap.size, 0, none⟩) 0 0) [] := ho0.apart hg1 (fun k hk => by cases hk; exact hb)
  obtain ⟨n, hn4, rfl, hst⟩ : ∃ n : Nat, n ≤ 4096 ∧ e = .returned (.int .i64 (n : Int)) ∧ runsAtP xs p0 w.heap.size b n va (.slice (some ⟨w.heap.size, 0, none⟩) 0 0) w1 := by
    unfold countSP at hcn
    cases hG : getL xs p0 with
    | none =>
      rw [hG] at hcn
      obtain ⟨rfl, hR1⟩ := hcn
      exact ⟨0, by omega, rfl, p0, [], true, hR1, by omega, ho1, by simp, .inr ⟨rfl, by unfold Hid runsLP; rw [hG]⟩⟩
    | some z =>
      obtain ⟨a, q⟩ := z
      rw [hG] at hcn
      simp only at hcn
      have hok := getL_ok hx hG
      split at hcn
      · rename_i h4
        obtain ⟨rfl, hR1⟩ := hcn
        exact ⟨0, by omega, rfl, q, [], true, hR1, hok.2.2.2, ho1, by simp, .inr ⟨rfl, by unfold Hid runsLP; rw [hG]; simp only; rw [if_pos h4]⟩⟩
      · rename_i h4
        obtain ⟨rfl, hR1⟩ := hcn
        obtain ⟨n, rfl⟩ := Int.eq_ofNat_of_zero_le hok.1
        refine ⟨n, by omega, rfl, q, [], false, hR1, hok.2.2.2, ho1, by simp, .inl ⟨rfl, n, by simp, ?_⟩⟩
        unfold runsLP
        rw [hG]
        simp only
        rw [if_neg h4, Int.toNat_natCast]
        simp only [List.length_nil, Nat.sub_zero]
        cases parseS xs n n q with
        | none => rfl
        | some z => rfl
  clear hcn ho0 hR0 hr0 hg0 hg1 ho1 hR
  go_wp2_with fail
  go_loopw [3] (fun to wr => runsAtP xs p0 w.heap.size b n va to wr ∧ w.grownBy wr (some b)) (fun to _ => n - lenOf to)
  case atStart => exact ⟨hst, hgw1⟩
  case round =>
    clear hst hgw1
    obtain ⟨⟨p, out, bad, hRr, hp, how, hon, hst⟩, hgw⟩ := hrel
    have hszw := hgw.size
    obtain ⟨ao, cap, rfl, hsh⟩ := how.slice
    rw [List.length_map] at how hsh ⊢
    clear hsh
    by_cases hj0 : out.length = n
    · have hjb : ¬ (out.length : Int) < (n : Int) := by omega
      have hjd : decide ((out.length : Int) < (n : Int)) = false := by simpa using hjb
      have hres : Hid (runsSP xs p0 w.heap.size b va (.returned (.slice ao out.length cap)) wr) := by
        unfold Hid
        rcases hst with ⟨rfl, HT⟩ | ⟨rfl, HT⟩
        · obtain ⟨f, _, hT⟩ := HT.out
          rw [hj0, Nat.sub_self, addTo_end] at hT
          unfold runsSP
          rw [hT]
          exact ⟨_, rfl, how, hRr⟩
        · exact runsS_noneP HT.out hRr
      clear hst how hj0
      go_wp2_with fail
      go_ret
      exact ⟨hres.out, hgw⟩
    · have hjb : (out.length : Int) < (n : Int) := by omega
      rcases hst with ⟨rfl, HT⟩ | ⟨rfl, HT⟩
      · have r2 := hRr.c2
        have hrr : Rd C wr va (xs.map (Value.int .u8)) := hr.grown hgw (fun k hk => by cases hk; exact hC)
        go_wp2_with fail
        refine (num_any C b p false wr va xs hx hl hp hrr hRr).mono ?_
        rintro e w2 ⟨v, p1, bad1, rfl, hR2, hp1, hv, h1, hg2⟩
        have how2 := how.apart hg2 (fun k hk => by cases hk; exact hb)
        have hgw2 := grownBy_trans hgw hg2
        have hr2 := hr.grown hgw2 (fun k hk => by cases hk; exact hC)
        clear r2 hRr how hrr hg2
        go_wp2_with fail
        refine (num_any C b p1 bad1 w2 va xs hx hl hp1 hr2 hR2).mono ?_
        rintro e w3 ⟨k, p2, bad2, rfl, hR3, hp2, hk, h2, hg3⟩
        have how3 := how2.apart hg3 (fun k hk => by cases hk; exact hb)
        have hgw3 := grownBy_trans hgw2 hg3
        have hr3 := hr.grown hgw3 (fun k hk => by cases hk; exact hC)
        have hhead := run_head (left := n - out.length) (by simpa using h1) h2
        clear h1 h2 hR2 how2 hr2 hg3 hgw2 hgw
        have r2 := hR3.c2
        have f2 := hR3.f 2
        have hsub : (n : Int) - (out.length : Int) = ((n - out.length : Nat) : Int) := by omega
        by_cases hbd : bad2 = true ∨ k < 1 ∨ n - out.length < k ∨ 1152921504606846975 < v
        · have hres : Hid (runsSP xs p0 w.heap.size b va (.returned (.slice ao out.length cap)) (w3.setCell ⟨b, 2, none⟩ (.bool true))) := by
            obtain ⟨f, hf, hT⟩ := HT.out
            exact runsS_noneP (by rw [hT, addTo_none (by omega) (hhead.1 hbd)]) (hR3.set2 true)
          have hgf := grownBy_trans hgw3 (grownBy_set w3 b 2 (.bool true))
          clear hhead HT
          cases bad2 with
          | true =>
            clear hbd
            go_wp2_with fail
            go_ret
            exact ⟨hres.out, hgf⟩
          | false =>
            have hbd' : k < 1 ∨ n - out.length < k ∨ 1152921504606846975 < v := by simpa using hbd
            clear hbd
            by_cases hk1 : (k : Int) < 1
            · go_wp2_with fail
              go_ret
              exact ⟨hres.out, hgf⟩
            · by_cases hk2 : (n : Int) - (out.length : Int) < (k : Int)
              · go_wp2_with fail
                go_ret
                exact ⟨hres.out, hgf⟩
              · have hk3 : 1152921504606846975 < (v : Int) := by omega
                go_wp2_with fail
                go_ret
                exact ⟨hres.out, hgf⟩
        · obtain rfl : bad2 = false := by cases bad2 <;> simp_all
          obtain ⟨e1, e2⟩ := hhead.2 rfl
          have hk1 : 1 ≤ k := by omega
          have hk2 : k ≤ n - out.length := by omega
          have hv3 : v ≤ 1152921504606846975 := by omega
          have hi1 : ¬ (k : Int) < 1 := by omega
          have hi2 : ¬ (n : Int) - (out.length : Int) < (k : Int) := by omega
          have hi3 : ¬ 1152921504606846975 < (v : Int) := by omega
          clear hhead hbd
          by_cases hk : k = 1
          case' pos =>
            obtain ⟨d, hd⟩ : ∃ d : Int, 0 = d := ⟨0, rfl⟩
            have HO : Hid (RunN xs p k p2 (n - out.length) v d false) := by
              subst hk hd
              have h1 := run_one e1 e2 (show 1 ≤ n - out.length by omega) hv3
              refine ⟨fun h => ?_, fun _ _ => h1⟩
              rcases h with h | h
              · cases h
              · simp [okV] at h; omega
            have hki : ¬ 1 < (k : Int) := by omega
            have hd1 : -2305843009213693952 ≤ d := by omega
            have hd2 : d ≤ 2305843009213693952 := by omega
            have HD : Hid _ := hd
            have HKK : Hid _ := hk
            clear e1 e2 hk hd
            obtain ⟨bad3, hb3⟩ : ∃ b3 : Bool, b3 = false := ⟨false, rfl⟩
            rw [← hb3] at HO
            rw [← hb3] at hR3
            have hR4 := hR3
            have hgw4 := hgw3
            have how4 := how3
            have hp4 := hp2
            clear hR3 hgw3 how3 hp2 hb3
            go_wp2_with fail
            clear r2 f2
            conv => arg 4; rw [show Value.int .i64 0 = Value.int .i64 d from congrArg _ HD.out]
          case' neg =>
            have hki : 1 < (k : Int) := by omega
            have E1 : Hid _ := e1
            have E2 : Hid _ := e2
            clear e1 e2
            go_wp2_with fail
            refine (num_any C b p2 false w3 va xs hx hl hp2 hr3 hR3).mono ?_
            rintro e w4 ⟨x, p3, bad3, rfl, hR4, hp4, hxx, h3, hg4⟩
            obtain ⟨d, hd⟩ : ∃ d : Int, unf x = d := ⟨_, rfl⟩
            have hbd := unf_bd (x := (x : Int)) (by omega) (by omega)
            have hd1 : -2305843009213693952 ≤ d := by omega
            have hd2 : d ≤ 2305843009213693952 := by omega
            have HO : Hid (RunN xs p k p3 (n - out.length) v d bad3) := by
              have := run_more E1.out E2.out (show 1 < k by omega) hk2 hv3 (by simpa using h3)
              rw [hd] at this
              exact this
            have hgw4 := grownBy_trans hgw3 hg4
            have how4 := how3.apart hg4 (fun k hk => by cases hk; exact hb)
            have HKK : Hid _ := hk
            clear h3 hbd hR3 hgw3 how3 hp2 r2 f2 hg4 E1 E2 hk
            by_cases hodd : x % 2 = 1
            case' pos =>
              have hod : ((x : Int) % 2 == 1) = true := by simp; omega
              have HD : Hid (wrap64 (-((x : Int) + 1).tdiv 2) = d) := by
                unfold Hid
                rw [← hd]
                unfold unf
                rw [if_pos (by omega), Int.tdiv_eq_ediv_of_nonneg (by omega)]
                exact IntWalk.wrap64_in _ ⟨by omega, by omega⟩
              clear hd
              go_wp2_with fail
              rw [HD.out]
            case' neg =>
              have hod : ((x : Int) % 2 == 1) = false := by simp; omega
              have HD : Hid ((x : Int) / 2 = d) := by
                unfold Hid
                rw [← hd]
                unfold unf
                rw [if_neg (by omega)]
              clear hd
              go_wp2_with fail
              rw [HD.out]
          all_goals
            go_loopw [3, 5, 6] (fun to tv tk wi => ∃ (j : Nat) (cur : Int) (acc : List Int), tv = .int .i64 cur ∧ tk = .int .i64 (j : Int) ∧ j ≤ k ∧ RdrS wi b va _ bad3 ∧ Own 3 wi w.heap.size to (acc.map (Value.int .i64)) ∧ acc.length + j = out.length + k ∧ (0 < j → 0 ≤ cur ∧ cur ≤ 1152921504606846975) ∧ Hid (acc ++ valsF j cur d = out ++ valsF k v d) ∧ Hid (okV k v d = okV j cur d) ∧ w.grownBy wi (some b)) (fun _ _ tk _ => (intOf tk).toNat)
            case atStart => exact ⟨k, v, out, rfl, rfl, Nat.le_refl _, hR4, how4, rfl, fun _ => ⟨by omega, by omega⟩, rfl, rfl, hgw4⟩
            case round =>
              clear hR4 how4 hgw4
              obtain ⟨j, cur, acc, rfl, rfl, hj, hRj, howj, hlen, hcur, HV, HK, hgwj⟩ := hrel
              by_cases hj0 : j = 0
              · have hjb' : ¬ (0 : Int) < (j : Int) := by omega
                have hjd' : decide ((0 : Int) < (j : Int)) = false := by simpa using hjb'
                obtain ⟨acc2, hacc, HN, hlen2⟩ : ∃ acc2, acc = acc2 ∧ ((bad3 = false ∧ Hid (∃ f, n - acc2.length ≤ f ∧ runsLP xs p0 = addTo acc2 (parseS xs f (n - acc2.length) _))) ∨ (bad3 = true ∧ Hid (runsLP xs p0 = none))) ∧ acc2.length = out.length + k := by
                  have hv : acc = out ++ valsF k v d := by have := HV.out; rw [hj0] at this; simpa [valsF] using this
                  refine ⟨_, hv, runs_nextP (show 0 < n - out.length by omega) hk1 hk2 HT.out HO.out (by rw [HK.out, hj0]; rfl), ?_⟩
                  rw [List.length_append, valsF_len]
                subst hacc
                clear HK HV hcur HO HT HKK hlen
                go_wp2_with fail
                go_roundw
                case rel => exact ⟨⟨_, _, bad3, hRj, hp4, howj, by omega, HN⟩, hgwj⟩
                case measure =>
                  obtain ⟨ao2, cap2, e2, _⟩ := howj.slice
                  rw [List.length_map] at e2
                  simp [lenOf, e2]
                  omega
              · have hjb' : (0 : Int) < (j : Int) := by omega
                have hc1 := (hcur (by omega)).1
                have hc2 := (hcur (by omega)).2
                clear hcur
                have hbj : ∀ g, u3.ownBlock = some g → w.heap.size ≤ g := howj.lt
                have hszj := hgwj.size
                have hcn : ∀ (j : Nat) (u : Value), [Value.int .i64 cur][j]? = some u → (wr.alloc (.cells #[.int .i64 cur] 3)).cell? ((⟨wr.heap.size, 0, none⟩ : Addr).add j) = some u := cell_one_new _ _ _
                have hal : acc.length ≤ 4096 := by omega
                have HO2 : Hid _ := HO.out
                have hcase : ((¬ 1 < (j : Int)) ∨ (1 < (j : Int) ∧ ¬ cur + d < 0 ∧ ¬ 1152921504606846975 < cur + d)) ∨ (Hid (runsLP xs p0 = none) ∧ ((1 < (j : Int) ∧ cur + d < 0) ∨ (1 < (j : Int) ∧ ¬ cur + d < 0 ∧ 1152921504606846975 < cur + d))) := by
                  by_cases h1 : 1 < j
                  · by_cases h2 : 0 ≤ cur + d ∧ cur + d ≤ 1152921504606846975
                    · exact .inl (.inr (by omega))
                    · refine .inr ⟨?_, by omega⟩
                      obtain ⟨f, hf, hT⟩ := HT.out
                      unfold Hid
                      rw [hT, addTo_none (by omega) (HO.out.1 (.inr (okV_stop HK.out h1 h2)))]
                  · exact .inl (.inl (by omega))
                have HR : Hid (((acc ++ [cur]) ++ valsF (j - 1) (cur + d) d = out ++ valsF k v d) ∧ okV k v d = okV (j - 1) (cur + d) d) := ⟨valsF_step HV.out (by omega), okV_step HK.out (by omega) hc1 hc2⟩
                clear HK HV HO
                rcases hcase with hcase | ⟨HT', hcase⟩
                · rcases hcase with h1 | ⟨h1, h2, h3⟩
                  all_goals
                    first
                    | (exfalso; omega)
                    | (go_wp2_with (at_builtin; refine wpList_append_own _ rfl _ _ 35 rfl w.heap.size 3 i0 (.int .i64 0) 1 8 Tryz.underlying35 hi hz0 hz1 hz2 rfl (by decide) _ _ _ rfl (World.ownsRow.alloc howj _) ⟨wr.heap.size, 0, none⟩ 1 1 [.int .i64 cur] rfl rfl hcn (by simp [Value.oneCell']) (by simp [maxLen]; omega) (by simp; omega) (by simp; omega) ?_)
                       intro v6 w6 ho6 hg6 _
                       have hR6 := (hRj.grown (World.grownBy_alloc wr (.cells #[.int .i64 cur] 3) none) (fun k hk => by cases hk)).grown hg6 (fun k hk => by have := hbj k hk; omega)
                       have hg7 := grownBy_own (grownBy_trans hgwj (World.grownBy_alloc _ _ _)) hg6 hbj
                       have ho7 : Own 3 w6 w.heap.size v6 ((acc ++ [cur]).map (Value.int .i64)) := by simpa using own_of ho6
                       clear ho6 hg6 howj hRj hgwj hcn
                       go_wp2_with fail
                       go_roundw
                       case rel => first | exact ⟨j - 1, cur + d, acc ++ [cur], rfl, by congr 1; omega, by omega, hR6, ho7, by simp; omega, fun h => by omega, HR.out.1, HR.out.2, hg7⟩ | exact ⟨_, _, _, _, ⟨j - 1, cur + d, rfl, by congr 1; omega, by omega, acc ++ [cur], ho7, by simp; omega, fun h => by omega, HR.out.1, HR.out.2⟩, rfl, rfl, rfl, rfl⟩
                       case measure => simp [intOf]; omega)
                · rcases hcase with ⟨h1, h2⟩ | ⟨h1, h2, h3⟩
                  all_goals
                    first
                    | (exfalso; omega)
                    | (go_wp2_with (at_builtin; refine wpList_append_own _ rfl _ _ 35 rfl w.heap.size 3 i0 (.int .i64 0) 1 8 Tryz.underlying35 hi hz0 hz1 hz2 rfl (by decide) _ _ _ rfl (World.ownsRow.alloc howj _) ⟨wr.heap.size, 0, none⟩ 1 1 [.int .i64 cur] rfl rfl hcn (by simp [Value.oneCell']) (by simp [maxLen]; omega) (by simp; omega) (by simp; omega) ?_)
                       intro v6 w6 ho6 hg6 _
                       have hR6 := (hRj.grown (World.grownBy_alloc wr (.cells #[.int .i64 cur] 3) none) (fun k hk => by cases hk)).grown hg6 (fun k hk => by have := hbj k hk; omega)
                       have hg7 := grownBy_own (grownBy_trans hgwj (World.grownBy_alloc _ _ _)) hg6 hbj
                       have r6 := hR6.c2
                       have f6 := hR6.f 2
                       have hres : Hid (∀ r, runsSP xs p0 w.heap.size b va (.returned r) (w6.setCell ⟨b, 2, none⟩ (.bool true))) := fun r => runsS_noneP HT'.out (hR6.set2 true)
                       have hg8 := grownBy_trans hg7 (grownBy_set w6 b 2 (.bool true))
                       clear ho6 hg6 howj hRj hgwj hcn hR6 hg7 HT'
                       go_wp2_with fail
                       go_ret
                       exact ⟨hres.out _, hg8⟩)
      · have r2 := hRr.c2
        have hres : Hid (runsSP xs p0 w.heap.size b va (.returned (.slice ao out.length cap)) wr) := runsS_noneP HT.out hRr
        go_wp2_with fail
        go_ret
        exact ⟨hres.out, hgw⟩
/-- What texts answers. -/
def textsSP (xs : List Int) (p0 : Nat) (N b : Nat) (va : Value) (e : Ending) (w' : World) : Prop := match textsLP xs p0 with
  | some (out, q) => ∃ r, e = .returned r ∧ Own 9 w' N r (out.map Value.string) ∧ RdrS w' b va q false ∧ out.length ≤ 4096
  | none => ∃ r q, e = .returned r ∧ RdrS w' b va q true
/-- Where the reading stands: it goes on well, or it has gone wrong. -/
def textsAtP (xs : List Int) (p0 : Nat) (N b : Nat) (va to tl ta tn : Value) (wr : World) : Prop :=
  ∃ (j p all : Nat) (last : ByteArray) (bad : Bool), tn = .int .i64 (j : Int) ∧ tl = .string last ∧ ta = .int .i64 (all : Int) ∧ RdrS wr b va p bad ∧ p ≤ xs.length ∧ j ≤ 4096 ∧ all ≤ 9000000 ∧ last.size ≤ 9000000 ∧
    ((bad = false ∧ ∃ out : List ByteArray, Own 9 wr N to (out.map Value.string) ∧ j + out.length ≤ 4096 ∧ all ≤ 1048576 ∧ last.size ≤ 1048576 ∧ Hid (textsLP xs p0 = textsF xs j p last all out)) ∨ (bad = true ∧ Hid (textsLP xs p0 = none)))
theorem texts_nextP {xs : List Int} {p0 : Nat} {j p p3 k al all : Nat} {last t : ByteArray} {out : List ByteArray} {bad3 : Bool} (hj : ¬ j = 0) (HT : textsLP xs p0 = textsF xs j p last all out)
    (HO : (bad3 = true → oneText xs p last all = none) ∧ (bad3 = false → oneText xs p last all = if k ≠ al ∨ 1048576 < all + t.size then none else some (t, p3))) :
    (bad3 = false → k = al → all + t.size ≤ 1048576 → textsLP xs p0 = textsF xs (j - 1) p3 t (all + t.size) (out ++ [t])) ∧ (bad3 = true ∨ k ≠ al ∨ 1048576 < all + t.size → textsLP xs p0 = none) := by
  obtain ⟨j, rfl⟩ : ∃ j', j = j' + 1 := ⟨j - 1, by omega⟩
  rw [Nat.add_sub_cancel]
  constructor
  · intro hb hk ha
    have := HO.2 hb
    rw [if_neg (by omega)] at this
    rw [HT, textsF_some this]
  · intro h
    rw [HT]
    apply textsF_none
    cases bad3 with
    | true => exact HO.1 rfl
    | false =>
      rcases h with h | h
      · cases h
      · rw [HO.2 rfl, if_pos h]
/-- What a round leaves: it goes on well, or has gone wrong. -/
def NextTP (xs : List Int) (p0 : Nat) (j p3 all : Nat) (t : ByteArray) (out : List ByteArray) (bad : Bool) : Prop :=
  (bad = false ∧ all + t.size ≤ 1048576 ∧ textsLP xs p0 = textsF xs (j - 1) p3 t (all + t.size) (out ++ [t])) ∨ (bad = true ∧ textsLP xs p0 = none)
set_option maxHeartbeats 4000000 in
set_option maxRecDepth 100000 in
theorem textsSP_any (C b : Nat) (w : World) (va : Value) (xs : List Int) (p0 : Nat) (hx : Bytes xs) (hl : xs.length ≤ 1048576) (hp0 : p0 ≤ xs.length) (hC : C ≤ b) (hb : b < w.heap.size) (hr : Rd C w va (xs.map (Value.int .u8))) (hR : RdrS w b va p0 false) :
    Calls Tryz.prog 27 #[.pointer (some ⟨b, 0, none⟩)] w fun e w' => textsSP xs p0 w.heap.size b va e w' ∧ w.grownBy w' (some b) := by
  obtain ⟨i0, hi, hz0, hz1, hz2⟩ := info_parts info9
  have hR0 : RdrS (w.alloc (.cells #[] 9)) b va p0 false := hR.grown (World.grownBy_alloc w _ none) (fun k hk => by cases hk)
  have hr0 : Rd C (w.alloc (.cells #[] 9)) va _ := hr.grown (World.grownBy_alloc w _ none) (fun k hk => by cases hk)
  have ho0 : Own 9 (w.alloc (.cells #[] 9)) w.heap.size (.slice (some ⟨w.heap.size, 0, none⟩) 0 0) [] := own_lit w 9 [] 0 rfl (by decide)
  have hg0 : w.grownBy (w.alloc (.cells #[] 9)) (some b) := World.grownBy_alloc w _ _
  go_enter Tryz.func27, Tryz.ntmps27
  go_wp2_with fail
  refine (countP_any C b _ va xs p0 hx hl hp0 hr0 hR0).mono ?_
  rintro e w1 ⟨hcn, hg1⟩
  have hgw1 : w.grownBy w1 (some b) := grownBy_trans hg0 hg1
  have ho1 : Own 9 w1 w.heap.size (.slice (some ⟨w.heap.size, 0, none⟩) 0 0) [] := ho0.apart hg1 (fun k hk => by cases hk; exact hb)
  obtain ⟨n, rfl, hst⟩ : ∃ n : Nat, e = .returned (.int .i64 (n : Int)) ∧ textsAtP xs p0 w.heap.size b va (.slice (some ⟨w.heap.size, 0, none⟩) 0 0) (.string ByteArray.empty) (.int .i64 0) (.int .i64 (n : Int)) w1 := by
    unfold countSP at hcn
    cases hG : getL xs p0 with
    | none =>
      rw [hG] at hcn
      obtain ⟨rfl, hR1⟩ := hcn
      exact ⟨0, rfl, 0, p0, 0, ByteArray.empty, true, rfl, rfl, rfl, hR1, by omega, by omega, by omega, by simp, .inr ⟨rfl, by unfold Hid textsLP; rw [hG]⟩⟩
    | some z =>
      obtain ⟨a, q⟩ := z
      rw [hG] at hcn
      simp only at hcn
      have hok := getL_ok hx hG
      split at hcn
      · rename_i h4
        obtain ⟨rfl, hR1⟩ := hcn
        exact ⟨0, rfl, 0, q, 0, ByteArray.empty, true, rfl, rfl, rfl, hR1, hok.2.2.2, by omega, by omega, by simp, .inr ⟨rfl, by unfold Hid textsLP; rw [hG]; simp only; rw [if_pos h4]⟩⟩
      · rename_i h4
        obtain ⟨rfl, hR1⟩ := hcn
        obtain ⟨n, rfl⟩ := Int.eq_ofNat_of_zero_le hok.1
        exact ⟨n, rfl, n, q, 0, ByteArray.empty, false, rfl, rfl, rfl, hR1, hok.2.2.2, by omega, by omega, by simp, .inl ⟨rfl, [], ho1, by simp; omega, by omega, by simp, by unfold Hid textsLP; rw [hG]; simp only; rw [if_neg h4, Int.toNat_natCast]⟩⟩
  clear hcn ho0 hR0 hr0 hg0 hg1 ho1 hR
  go_wp2_with fail
  go_loopw [3, 4, 5, 6] (fun to tl ta tn wr => textsAtP xs p0 w.heap.size b va to tl ta tn wr ∧ w.grownBy wr (some b)) (fun _ _ _ tn _ => (intOf tn).toNat)
  case atStart => exact ⟨hst, hgw1⟩
  case round =>
    clear hst hgw1
    obtain ⟨⟨j, p, all, last, bad, rfl, rfl, rfl, hRr, hp, hj, hall, hlast, hst⟩, hgw⟩ := hrel
    have hszw := hgw.size
    by_cases hj0 : j = 0
    · have hjb : ¬ (0 : Int) < (j : Int) := by omega
      have hjd : decide ((0 : Int) < (j : Int)) = false := by simpa using hjb
      have hres : ∃ v', Hid (textsSP xs p0 w.heap.size b va (.returned u3) wr) ∨ v' = u3 ∧ False := by
        refine ⟨u3, .inl ?_⟩
        unfold Hid textsSP
        rcases hst with ⟨rfl, out, how, hjo, _, _, HT⟩ | ⟨rfl, HT⟩
        · rw [HT.out, hj0]
          exact ⟨_, rfl, how, hRr, by omega⟩
        · rw [HT.out]
          exact ⟨_, p, rfl, hRr⟩
      obtain ⟨_, hres | ⟨_, hF⟩⟩ := hres
      · clear hst
        go_wp2_with fail
        go_ret
        exact ⟨hres.out, hgw⟩
      · cases hF
    · rcases hst with ⟨rfl, out, how, hjo, hall', hlast', HT⟩ | ⟨rfl, HT⟩
      · have r2 := hRr.c2
        have f2 := hRr.f 2
        have hjb : (0 : Int) < (j : Int) := by omega
        have hrr : Rd C wr va (xs.map (Value.int .u8)) := hr.grown hgw (fun k hk => by cases hk; exact hC)
        have hbr : b < wr.heap.size := by omega
        go_wp2_with fail
        refine (num_any C b p false wr va xs hx hl hp hrr hRr).mono ?_
        rintro e w2 ⟨k, p1, bad1, rfl, hR2, hp1, hk, h1, hg2⟩
        have how2 := how.apart hg2 (fun k hk => by cases hk; exact hb)
        have hgw2 := grownBy_trans hgw hg2
        have hr2 := hr.grown hgw2 (fun k hk => by cases hk; exact hC)
        clear r2 f2 hRr how hrr hg2
        have r2 := hR2.c2
        have f2 := hR2.f 2
        by_cases hkl : last.size < k
        · have hres : Hid (textsSP xs p0 w.heap.size b va (.returned u3) (w2.setCell ⟨b, 2, none⟩ (.bool true))) := by
            have hno : textsLP xs p0 = none := by
              rw [HT.out]
              obtain ⟨j, rfl⟩ : ∃ j', j = j' + 1 := ⟨j - 1, by omega⟩
              apply textsF_none
              rcases h1 with ⟨_, hG, _⟩ | ⟨_, hk0, _⟩
              · exact one_none2 hG (by simpa using hkl)
              · omega
            unfold Hid textsSP
            rw [hno]
            exact ⟨_, p1, rfl, hR2.set2 true⟩
          have hgf := grownBy_trans hgw2 (grownBy_set w2 b 2 (.bool true))
          clear h1
          go_wp2_with fail
          go_ret
          exact ⟨hres.out, hgf⟩
        · have hH1 : Hid _ := h1
          clear h1
          have hkI0 : (0 : Int) ≤ (k : Int) := by omega
          have hkI : (k : Int) ≤ (last.size : Int) := by omega
          go_wp2_with fail
          go_region_held2 (fun _ => True) (trivial) (first | (go_at_call 36; refine (num_any C b p1 bad1 w2.drew va xs hx hl hp1 (show Rd C w2.drew va _ from hr2) (show RdrS w2.drew b va p1 bad1 from hR2)).mono ?_; rintro e w3 ⟨m, p2, bad2, rfl, hR3, hp2, hm, h2, hg3⟩) | (go_at_call 37; refine (takeS_any C b p2 m bad2 w3 va xs hl hp2 hm hC ((show Rd C w2.drew va _ from hr2).grown hg3 (fun k hk => by cases hk; exact hC)) hR3).mono ?_; rintro e w4 ⟨s, p3, bad3, rfl, hR4, hp3, hs, h3, hg4⟩; have hcat : ¬ 9223372036854775807 < min k last.size + s.size := by omega))
          have HO : Hid _ := texts_round (all := all) (last := last) (by simpa using hH1.out) h2 h3 (by omega)
          have hgw4 := grownBy_trans (grownBy_trans hgw2 (grownBy_trans (grownBy_drewN w2 1 _) hg3)) hg4
          have how4 := (how2.apart (grownBy_trans (grownBy_drewN w2 1 _) hg3) (fun k hk => by cases hk; exact hb)).apart hg4 (fun k hk => by cases hk; exact hb)
          have hts : (last.extract 0 k ++ s).size ≤ 2097152 := by rw [ByteArray.size_append, ByteArray.size_extract]; omega
          clear h2 h3 hg3 hg4 hR3 hR2 how2 hgw2 hr2 r2 f2 hcat hH1 hkI hkI0 hgw
          generalize last.extract 0 k ++ s = t at HO hts ⊢
          clear hs
          go_wp2_with fail
          refine (l01Alike_any last t _ (by omega) (by omega)).mono ?_
          rintro e w5 ⟨rfl, n5, rfl⟩
          have hal := alike_le last t
          generalize alike last t = al at hal HO ⊢
          have HX : Hid _ := texts_nextP hj0 HT.out HO.out
          clear HO HT
          have r2 := hR4.c2
          have f2 := hR4.f 2
          have hR0 : RdrS (w4.drewN n5) b va p3 bad3 := hR4
          have hg0 : w.grownBy (w4.drewN n5) (some b) := grownBy_trans hgw4 (grownBy_drewN _ _ _)
          have ho0 : Own 9 (w4.drewN n5) w.heap.size u3 (out.map Value.string) := how4
          clear hR4 hgw4 how4
          have hR1 : RdrS ((w4.drewN n5).setCell ⟨b, 2, none⟩ (.bool true)) b va p3 true := hR0.set2 true
          have hg1 := grownBy_trans hg0 (grownBy_set (w4.drewN n5) b 2 (.bool true))
          have ho1 := ho0.apart (grownBy_set (w4.drewN n5) b 2 (.bool true)) (fun k hk => by cases hk; exact hb)
          obtain ⟨bad5, W5, hW5, how5, hR5, hgw5, HN, hcase⟩ : ∃ bad5 W5, W5.heap.size = w4.heap.size ∧ Own 9 W5 w.heap.size u3 (out.map Value.string) ∧ RdrS W5 b va p3 bad5 ∧ w.grownBy W5 (some b) ∧ Hid (NextTP xs p0 j p3 all t out bad5) ∧
              ((((k : Int) != (al : Int)) = false ∧ ¬ 1048576 < (all : Int) + (t.size : Int) ∧ W5 = w4.drewN n5) ∨
               (((k : Int) != (al : Int)) = true ∧ ¬ 1048576 < (all : Int) + (t.size : Int) ∧ W5 = (w4.drewN n5).setCell ⟨b, 2, none⟩ (.bool true)) ∨
               (((k : Int) != (al : Int)) = false ∧ 1048576 < (all : Int) + (t.size : Int) ∧ W5 = (w4.drewN n5).setCell ⟨b, 2, none⟩ (.bool true)) ∨
               (((k : Int) != (al : Int)) = true ∧ 1048576 < (all : Int) + (t.size : Int) ∧ W5 = ((w4.drewN n5).setCell ⟨b, 2, none⟩ (.bool true)).setCell ⟨b, 2, none⟩ (.bool true))) := by
            by_cases hka : k = al
            · have e1 : ((k : Int) != (al : Int)) = false := by simp [hka]
              by_cases hbig : 1048576 < all + t.size
              · exact ⟨true, _, by simp, ho1, hR1, hg1, .inr ⟨rfl, HX.out.2 (.inr (.inr hbig))⟩, .inr (.inr (.inl ⟨e1, by omega, rfl⟩))⟩
              · refine ⟨bad3, w4.drewN n5, rfl, ho0, hR0, hg0, ?_, .inl ⟨e1, by omega, rfl⟩⟩
                cases bad3 with
                | true => exact .inr ⟨rfl, HX.out.2 (.inl rfl)⟩
                | false => exact .inl ⟨rfl, by omega, HX.out.1 rfl hka (by omega)⟩
            · have e1 : ((k : Int) != (al : Int)) = true := by simp; omega
              by_cases hbig : 1048576 < all + t.size
              · exact ⟨true, _, by simp, ho1.apart (grownBy_set _ b 2 (.bool true)) (fun k hk => by cases hk; exact hb), hR1.set2 true, grownBy_trans hg1 (grownBy_set _ b 2 (.bool true)), .inr ⟨rfl, HX.out.2 (.inr (.inr hbig))⟩, .inr (.inr (.inr ⟨e1, by omega, rfl⟩))⟩
              · exact ⟨true, _, by simp, ho1, hR1, hg1, .inr ⟨rfl, HX.out.2 (.inr (.inl hka))⟩, .inr (.inl ⟨e1, by omega, rfl⟩)⟩
          clear hR0 hg0 ho0 hR1 hg1 ho1 HX
          have hsz5 := hgw5.size
          rw [hW5] at hsz5
          have hb5 : ∀ g, u3.ownBlock = some g → w.heap.size ≤ g := how5.lt
          have hcn : ∀ (j : Nat) (u : Value), [Value.string t][j]? = some u → (W5.alloc (.cells #[.string t] 9)).cell? ((⟨w4.heap.size, 0, none⟩ : Addr).add j) = some u := by rw [← hW5]; exact cell_one_new _ _ _
          clear hW5
          rcases hcase with ⟨e1, e2, rfl⟩ | ⟨e1, e2, rfl⟩ | ⟨e1, e2, rfl⟩ | ⟨e1, e2, rfl⟩
          all_goals
            go_wp2_with (at_builtin; refine wpList_append_own _ rfl _ _ 61 rfl w.heap.size 9 i0 (.string ByteArray.empty) 1 16 Tryz.underlying61 hi hz0 hz1 hz2 rfl (by decide) _ _ _ rfl (World.ownsRow.alloc how5 _) ⟨w4.heap.size, 0, none⟩ 1 1 [.string t] rfl rfl hcn (by simp [Value.oneCell']) (by simp [maxLen]; omega) (by simp; omega) (by simp; omega) ?_)
            intro v6 w6 ho6 hg6 _
            have hfin : textsAtP xs p0 w.heap.size b va v6 (.string t) (.int .i64 ((all : Int) + (t.size : Int))) (.int .i64 ((j : Int) - 1)) w6 ∧ w.grownBy w6 (some b) := by
              have hR6 : RdrS w6 b va p3 bad5 := (hR5.grown (World.grownBy_alloc _ _ none) (fun k hk => by cases hk)).grown hg6 (fun k hk => by have := hb5 k hk; omega)
              refine ⟨⟨j - 1, p3, all + t.size, t, bad5, ?_, rfl, ?_, hR6, hp3, by omega, by omega, by omega, ?_⟩, grownBy_own (grownBy_trans hgw5 (World.grownBy_alloc _ _ _)) hg6 hb5⟩
              · congr 1; omega
              · congr 1
              · rcases HN.out with ⟨h1, h2, h3⟩ | ⟨h1, h2⟩
                · exact .inl ⟨h1, out ++ [t], by simpa using own_of ho6, by simp; omega, h2, by omega, h3⟩
                · exact .inr ⟨h1, h2⟩
            clear ho6 hg6 how5 hR5 hgw5 hcn HN
            go_wp2_with fail
            go_roundw
            case rel => exact hfin
            case measure => simp [intOf]; omega
      · have r2 := hRr.c2
        have hjb : (0 : Int) < (j : Int) := by omega
        have hres : Hid (textsSP xs p0 w.heap.size b va (.returned u3) wr) := by
          unfold Hid textsSP
          rw [HT.out]
          exact ⟨_, p, rfl, hRr⟩
        go_wp2_with fail
        go_ret
        exact ⟨hres.out, hgw⟩
end Go.Proofs.YtcjlihfkibpgoaaGreatDoor
