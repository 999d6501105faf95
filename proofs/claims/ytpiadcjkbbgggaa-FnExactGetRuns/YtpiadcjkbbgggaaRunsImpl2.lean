/- What the code's runs does. -/
import Derived.Test.YtpiadcjkbbgggaaRunsImpl
import Derived.Test.YtpiadcjkbbgggaaRunsDef
namespace Go.Proofs.Ytpiadcjkbbgggaa
open Go.RowKit Go.Lib
set_option linter.unusedVariables false

/-- The numbers, with the code's own tests; and the place behind them. -/
def runsIL (xs : List Int) : Option (List Int × Nat) := match getL xs 0 with
  | none => none
  | some (n, p) => if 4096 < n then none else parseI xs n.toNat n.toNat p none
theorem getRunsI_of {xs T : List Int} {q : Nat} (h : runsIL xs = some (T, q)) : getRunsI xs = if q = xs.length then some T else none := by
  unfold runsIL at h
  unfold getRunsI
  cases hG : getL xs 0 with
  | none => rw [hG] at h; simp at h
  | some z =>
    obtain ⟨n, p⟩ := z
    rw [hG] at h
    simp only at h ⊢
    split at h
    · simp at h
    · rename_i h4
      rw [if_neg h4, h]
theorem getRunsI_none {xs : List Int} (h : runsIL xs = none) : getRunsI xs = none := by
  unfold runsIL at h
  unfold getRunsI
  cases hG : getL xs 0 with
  | none => rfl
  | some z =>
    obtain ⟨n, p⟩ := z
    rw [hG] at h
    simp only at h ⊢
    split at h
    · rename_i h4; rw [if_pos h4]
    · rename_i h4; rw [if_neg h4, h]
theorem addI_end {xs out : List Int} {f p : Nat} {prev : Option Int} : addTo out (parseI xs f 0 p prev) = some (out, p) := by
  cases f <;> simp [parseI, addTo]
theorem addI_none {xs out : List Int} {f left p : Nat} {prev : Option Int} (h0 : 0 < left) (h : oneRunI xs p left prev = none) : addTo out (parseI xs f left p prev) = none := by
  cases f with
  | zero => simp only [parseI]; rw [if_neg (by omega)]; rfl
  | succ f => simp only [parseI]; rw [if_neg (by omega), h]; rfl
theorem addI_some {xs out : List Int} {f left p k q : Nat} {v d : Int} {prev : Option Int} (h0 : 0 < left) (hf : left ≤ f) (hk : 1 ≤ k) (h : oneRunI xs p left prev = some (v, k, d, q)) :
    ∃ f', left - k ≤ f' ∧ addTo out (parseI xs f left p prev) = addTo (out ++ valsF k v d) (parseI xs f' (left - k) q (some (v + (k : Int) * d))) := by
  obtain ⟨f, rfl⟩ : ∃ f', f = f' + 1 := ⟨f - 1, by omega⟩
  refine ⟨f, by omega, ?_⟩
  simp only [parseI]
  rw [if_neg (by omega), h]
  simp only
  cases parseI xs f (left - k) q (some (v + (k : Int) * d)) with
  | none => rfl
  | some z => simp [addTo]
theorem oneRunI_is {xs : List Int} {p left k q : Nat} {v d : Int} {prev : Option Int} (h : oneRunI xs p left prev = some (v, k, d, q)) : oneRun xs p left = some (v, k, d, q) ∧ ¬ (k = 1 ∧ left ≠ 1) := by
  unfold oneRunI at h
  cases ho : oneRun xs p left with
  | none => rw [ho] at h; simp at h
  | some z =>
    obtain ⟨v', k', d', q'⟩ := z
    rw [ho] at h
    simp only at h
    split at h
    · simp at h
    · rename_i hb
      simp only [Option.some.injEq, Prod.mk.injEq] at h
      obtain ⟨rfl, rfl, rfl, rfl⟩ := h
      exact ⟨rfl, fun h => hb (.inl h)⟩
theorem prev_next {out : List Int} {k : Nat} {v d : Int} (hk : 1 ≤ k) : PrevOf (out ++ valsF k v d) d (some (v + (k : Int) * d)) := by
  have hl : (out ++ valsF k v d).length = out.length + k := by rw [List.length_append, valsF_len]
  refine .inr ⟨by omega, ?_⟩
  rw [hl, show out.length + k - 1 = out.length + (k - 1) by omega, nth_app, ← List.append_nil (valsF k v d), valsF_nth k v d [] (k - 1) (by omega)]
  congr 1
  have : ((k - 1 : Nat) : Int) = (k : Int) - 1 := by omega
  rw [this, Int.sub_mul, Int.one_mul]
  omega

/-- What runs answers, and where the reader stands behind it. -/
def runsR (xs : List Int) (b : Nat) (va : Value) (N : Nat) (e : Ending) (w' : World) : Prop := match runsIL xs with
  | some (out, p) => ∃ r, e = .returned r ∧ Own 3 w' N r (out.map (Value.int .i64)) ∧ out.length ≤ 4096 ∧ p ≤ xs.length ∧ Rdr w' b va p
  | none => Bad e
theorem runsR_bad {xs : List Int} {b : Nat} {va : Value} {N : Nat} {e : Ending} {w' : World} (h : runsIL xs = none) (he : Bad e) : runsR xs b va N e w' := by
  unfold runsR
  rw [h]
  exact he

set_option maxHeartbeats 4000000 in
set_option maxRecDepth 100000 in
theorem runs_any (C b : Nat) (w : World) (va : Value) (xs : List Int) (hx : Bytes xs) (hl : xs.length ≤ 1048576) (hC : C ≤ b) (hb : b < w.heap.size) (hr : Rd C w va (xs.map (Value.int .u8))) (hR : Rdr w b va 0) :
    Calls Try.prog 47 #[.pointer (some ⟨b, 0, none⟩)] w fun e w' => runsR xs b va w.heap.size e w' ∧ w.grownBy w' (some b) := by
  obtain ⟨i0, hi, hz0, hz1, hz2⟩ := info_parts info3
  go_enter Try.func47, Try.ntmps47
  go_wp2_with fail
  refine (number_any C b 0 w va xs hx hl (Nat.zero_le _) hC hr hR).mono ?_
  rintro e w1 ⟨hn, hg1⟩
  unfold numR at hn
  cases hG : getL xs 0 with
  | none =>
    rw [hG] at hn
    obtain ⟨hbad, q, hq, hR1⟩ := hn
    have HN : Hid (runsR xs b va w.heap.size e w1) := runsR_bad (by unfold runsIL; rw [hG]) hbad
    unfold Bad at hbad
    subst hbad
    exact ⟨rfl, HN.out, hg1⟩
  | some z =>
    obtain ⟨n, p⟩ := z
    rw [hG] at hn
    obtain ⟨rfl, hR1⟩ := hn
    have hok := getL_ok hx hG
    obtain ⟨n, rfl⟩ := Int.eq_ofNat_of_zero_le hok.1
    by_cases h4 : 4096 < n
    · have HN : Hid (runsR xs b va w.heap.size (.panicked [{ v := .iface 108 (.int .i64 3), recovered := false }]) w1) := runsR_bad (by unfold runsIL; rw [hG]; simp only; rw [if_pos (by omega)]) rfl
      clear hG
      go_wp2_with (first | (go_at_call 79; refine (require_n _ _ _ (by first | rfl | (simp; done) | (simp; omega))).mono ?_; rintro e w' ⟨rfl, hw⟩; obtain rfl := hw.symm))
      exact ⟨rfl, HN.out, hg1⟩
    · have HT : Hid (∃ f, n - ([] : List Int).length ≤ f ∧ runsIL xs = addTo [] (parseI xs f (n - ([] : List Int).length) p none)) := by
        refine ⟨n, by simp, ?_⟩
        unfold runsIL
        rw [hG]
        simp only
        rw [if_neg (by omega), Int.toNat_natCast]
        simp only [List.length_nil, Nat.sub_zero]
        cases parseI xs n n p none with
        | none => rfl
        | some z => rfl
      clear hG
      have hsz1 := hg1.size
      go_wp2_with (first | (go_at_call 79; refine (require_y _ _ _ (by first | rfl | (simp; done) | (simp; omega))).mono ?_; rintro e w' ⟨rfl, hw⟩; obtain rfl := hw.symm) | (at_make; refine wpList_make_own _ rfl _ _ 32 rfl w.heap.size 3 i0 (.int .i64 0) 1 Try.underlying32 hi hz0 hz1 _ _ _ n rfl rfl rfl (by rw [hz2]; omega) (by unfold maxLen; omega) (by omega) ?_))
      intro w2 ho2 hg2
      have how2 : Own 3 w2 w.heap.size (.slice (some ⟨w1.heap.size, 0, none⟩) 0 n) [] := ho2
      have hR2 : Rdr w2 b va p := by
        unfold Rdr at hR1 ⊢
        rw [hg2.block b (Array.getElem?_eq_some_iff.1 hR1).1 (by simp), hR1]
      have hgw2 : w.grownBy w2 (some b) := grownBy_own hg1 hg2 (fun k hk => by cases hk)
      clear ho2 hg2 hR1 hg1
      go_wp2_with fail
      go_loopw [4, 5] (fun tl ts wr => ∃ (p : Nat) (step : Int) (out : List Int) (prev : Option Int), ts = .int .i64 step ∧ -2305843009213693952 ≤ step ∧ step ≤ 2305843009213693952 ∧ Rdr wr b va p ∧ p ≤ xs.length ∧ Own 3 wr w.heap.size tl (out.map (Value.int .i64)) ∧ out.length ≤ n ∧ runsOK out = true ∧ (PrevOf out step prev ∨ n - out.length = 0) ∧ Hid (∃ f, n - out.length ≤ f ∧ runsIL xs = addTo out (parseI xs f (n - out.length) p prev)) ∧ w.grownBy wr (some b)) (fun tl _ _ => n - lenOf tl)
      case atStart => exact ⟨p, 0, [], none, rfl, by omega, by omega, hR2, hok.2.2.2, how2, Nat.zero_le _, rfl, .inl (.inl ⟨rfl, rfl⟩), HT, hgw2⟩
      case round =>
        clear hR2 how2 HT hgw2 hR
        obtain ⟨p, step, out, prev, rfl, hs1, hs2, hR, hp, how, hol, hook, hprev, HT, hgw⟩ := hrel
        have hszw := hgw.size
        obtain ⟨ao, cap, rfl, _⟩ := how.slice
        rw [List.length_map] at how ⊢
        by_cases hkn : out.length = n
        · have hki : ¬ (out.length : Int) < (n : Int) := by omega
          have hkd : decide ((out.length : Int) < (n : Int)) = false := by simpa using hki
          have HT2 : Hid (runsIL xs = some (out, p)) := by
            obtain ⟨f, _, h⟩ := HT.out
            unfold Hid
            rw [h, hkn, Nat.sub_self, addI_end]
          have HN : Hid (runsR xs b va w.heap.size (.returned (.slice ao out.length cap)) wr) := by
            unfold Hid runsR
            rw [HT2.out]
            exact ⟨_, rfl, how, by omega, hp, hR⟩
          clear HT hkn hprev
          go_wp2_with fail
          go_ret
          exact ⟨HN.out, hgw⟩
        · have hki : (out.length : Int) < (n : Int) := by omega
          have hrr : Rd C wr va _ := hr.grown hgw (fun k hk => by cases hk; exact hC)
          have hsub : (n : Int) - (out.length : Int) = ((n - out.length : Nat) : Int) := by omega
          have hpo : PrevOf out step prev := by
            rcases hprev with h | h
            · exact h
            · omega
          clear hprev
          have hrun := run_any C b p (n - out.length) w.heap.size wr va (.slice ao out.length cap) xs out step prev hx hl hp hC hb hszw (by omega) hrr hR how hook hs1 hs2 hpo
          clear hrr hR how hpo
          go_wp2_with fail
          refine hrun.mono ?_
          rintro e w3 ⟨hn, hg3⟩
          have hgw3 := GrN.out hgw hg3
          unfold runR at hn
          clear hgw hg3 hrun
          cases hO : oneRunI xs p (n - out.length) prev with
          | none =>
            rw [hO] at hn
            have HN : Hid (runsR xs b va w.heap.size e w3) := runsR_bad (by obtain ⟨f, _, h⟩ := HT.out; rw [h, addI_none (by omega) hO]) hn
            unfold Bad at hn
            subst hn
            exact ⟨rfl, HN.out, hgw3⟩
          | some z =>
            obtain ⟨v, k, d, q⟩ := z
            rw [hO] at hn
            obtain ⟨r, d', rfl, ho3, hR3, hdd, hd1, hd2⟩ := hn
            obtain ⟨hone, hk1⟩ := oneRunI_is hO
            have hoo := oneRun_ok hx hone
            have hlen3 : (out ++ valsF k v d).length = out.length + k := by rw [List.length_append, valsF_len]
            have hprev3 : PrevOf (out ++ valsF k v d) d' (some (v + (k : Int) * d)) ∨ n - (out ++ valsF k v d).length = 0 := by
              by_cases h1 : 1 < k
              · rw [hdd h1]
                exact .inl (prev_next hoo.1)
              · right
                have := hoo.1
                have := hoo.2.1
                omega
            have hrok : runsOK (out ++ valsF k v d) = true := runsOK_app hook (okV_all _ _ _ hoo.2.2.2.1)
            have HT3 : Hid (∃ f, n - (out ++ valsF k v d).length ≤ f ∧ runsIL xs = addTo (out ++ valsF k v d) (parseI xs f (n - (out ++ valsF k v d).length) q (some (v + (k : Int) * d)))) := by
              obtain ⟨f, hf, h⟩ := HT.out
              obtain ⟨f', hf', h'⟩ := addI_some (out := out) (by omega) hf hoo.1 hO
              refine ⟨f', by omega, ?_⟩
              rw [h, h', hlen3, Nat.sub_add_eq]
            have hq := hoo.2.2.1
            have hkl := hoo.2.1
            have hkp := hoo.1
            clear hO HT hone hoo hdd hk1 hook
            generalize out ++ valsF k v d = out3 at *
            obtain ⟨ao3, cap3, rfl, _⟩ := ho3.slice
            rw [List.length_map] at ho3 ⊢
            have hle3 : out3.length ≤ n := by omega
            have HM : Hid (n - out3.length < n - out.length) := by unfold Hid; omega
            clear hlen3
            go_wp2_with fail
            go_roundw
            case rel => exact ⟨q, d', out3, _, rfl, hd1, hd2, hR3, hq, ho3, hle3, hrok, hprev3, HT3, hgw3⟩
            case measure => simpa [lenOf] using HM.out
end Go.Proofs.Ytpiadcjkbbgggaa
