/- What the code's unfoldSign and run do. -/
import Derived.Test.YtpiadcjkbbgggaaTextsImpl2
import Derived.Test.YtpiadcjkbbgggaaRunsGet
import Derived.Test.YtpiadcjkbbgggaaIntCells
import Derived.Test.YtpiadcjkbbgggaaPutRunsImpl
namespace Go.Proofs.Ytpiadcjkbbgggaa
open Go.RowKit Go.Lib
set_option linter.unusedVariables false

set_option maxHeartbeats 400000 in
theorem unfoldSign_any (x : Nat) (hx : x ≤ 4611686018427387903) (w : World) : Calls Try.prog 99 #[.int .i64 (x : Int)] w fun e w' => e = .returned (.int .i64 (unf x)) ∧ w' = w := by
  by_cases hodd : x % 2 = 1
  · have hod : ((x : Int) % 2 == 1) = true := by simp; omega
    have HD : Hid (wrap64 (-((x : Int) + 1).tdiv 2) = unf x) := by
      unfold Hid unf
      rw [if_pos (by omega), Int.tdiv_eq_ediv_of_nonneg (by omega)]
      exact IntWalk.wrap64_in _ ⟨by omega, by omega⟩
    go_enter Try.func99, Try.ntmps99
    go_wp2_with fail
    go_ret
    exact ⟨by rw [← HD.out]; rfl, rfl⟩
  · have hod : ((x : Int) % 2 == 1) = false := by simp; omega
    have HD : Hid ((x : Int) / 2 = unf x) := by
      unfold Hid unf
      rw [if_neg (by omega)]
    go_enter Try.func99, Try.ntmps99
    go_wp2_with fail
    go_ret
    exact ⟨by rw [← HD.out]; rfl, rfl⟩

theorem oneRun_head {xs : List Int} {p left k k' p1 p2 q : Nat} {v : Nat} {v' d : Int} (e1 : getL xs p = some ((v : Int), p1)) (e2 : getL xs p1 = some ((k : Int), p2)) (h : oneRun xs p left = some (v', k', d, q)) : v' = (v : Int) ∧ k' = k := by
  unfold oneRun at h
  rw [e1] at h
  simp only at h
  rw [e2] at h
  simp only [Int.toNat_natCast] at h
  split at h
  · simp at h
  · split at h
    · rename_i hk
      simp only [Option.some.injEq, Prod.mk.injEq] at h
      exact ⟨h.1.symm, by omega⟩
    · split at h
      · simp at h
      · split at h
        · simp only [Option.some.injEq, Prod.mk.injEq] at h
          exact ⟨h.1.symm, h.2.1.symm⟩
        · simp at h
theorem oneRunI_none {xs : List Int} {p left : Nat} {prev : Option Int} (h : oneRun xs p left = none) : oneRunI xs p left prev = none := by unfold oneRunI; rw [h]
theorem oneRunI_bad {xs : List Int} {p left k p1 p2 : Nat} {v : Nat} {prev : Option Int} (e1 : getL xs p = some ((v : Int), p1)) (e2 : getL xs p1 = some ((k : Int), p2)) (h : (k = 1 ∧ left ≠ 1) ∨ prev = some (v : Int)) : oneRunI xs p left prev = none := by
  unfold oneRunI
  cases ho : oneRun xs p left with
  | none => rfl
  | some z =>
    obtain ⟨v', k', d, q⟩ := z
    obtain ⟨rfl, rfl⟩ := oneRun_head e1 e2 ho
    simp only
    rw [if_pos h]
theorem oneRunI_good {xs : List Int} {p left k q : Nat} {v d : Int} {prev : Option Int} (h : oneRun xs p left = some (v, k, d, q)) (hb : ¬ ((k = 1 ∧ left ≠ 1) ∨ prev = some v)) : oneRunI xs p left prev = some (v, k, d, q) := by
  unfold oneRunI
  rw [h]
  simp only
  rw [if_neg hb]
theorem oneRun_n1 {xs : List Int} {p left : Nat} (h : getL xs p = none) : oneRun xs p left = none := by unfold oneRun; rw [h]
theorem oneRun_n2 {xs : List Int} {p left p1 : Nat} {v : Int} (e1 : getL xs p = some (v, p1)) (h : getL xs p1 = none) : oneRun xs p left = none := by unfold oneRun; rw [e1]; simp only; rw [h]
theorem oneRun_n3 {xs : List Int} {p left k p1 p2 v : Nat} (e1 : getL xs p = some ((v : Int), p1)) (e2 : getL xs p1 = some ((k : Int), p2)) (h : k < 1 ∨ left < k ∨ 1152921504606846975 < v) : oneRun xs p left = none := by
  unfold oneRun; rw [e1]; simp only; rw [e2]; simp only [Int.toNat_natCast]; rw [if_pos (by omega)]
theorem oneRun_n4 {xs : List Int} {p left k p1 p2 v : Nat} (e1 : getL xs p = some ((v : Int), p1)) (e2 : getL xs p1 = some ((k : Int), p2)) (hk : 1 < k) (h : getL xs p2 = none) : oneRun xs p left = none := by
  unfold oneRun; rw [e1]; simp only; rw [e2]; simp only [Int.toNat_natCast]
  split
  · rfl
  · rw [if_neg (by omega), h]
theorem oneRun_y1 {xs : List Int} {p left p1 p2 v : Nat} (e1 : getL xs p = some ((v : Int), p1)) (e2 : getL xs p1 = some (((1 : Nat) : Int), p2)) (hl : 1 ≤ left) (h : v ≤ 1152921504606846975) : oneRun xs p left = some ((v : Int), 1, 0, p2) := by
  unfold oneRun; rw [e1]; simp only; rw [e2]; simp only [Int.toNat_natCast]; rw [if_neg (by omega), if_pos trivial]
theorem oneRun_y2 {xs : List Int} {p left k p1 p2 p3 v x : Nat} (e1 : getL xs p = some ((v : Int), p1)) (e2 : getL xs p1 = some ((k : Int), p2)) (hk : 1 < k) (hl : k ≤ left) (h : v ≤ 1152921504606846975) (e3 : getL xs p2 = some ((x : Int), p3)) :
    oneRun xs p left = if okV k v (unf x) = true then some ((v : Int), k, unf x, p3) else none := by
  unfold oneRun; rw [e1]; simp only; rw [e2]; simp only [Int.toNat_natCast]; rw [if_neg (by omega), if_neg (by omega), e3]

/-- What run answers. -/
def runR (xs : List Int) (p left N b : Nat) (prev : Option Int) (va : Value) (out : List Int) (e : Ending) (w' : World) : Prop := match oneRunI xs p left prev with
  | some (v, k, d, q) => ∃ r d', e = .returned (.tuple #[r, .int .i64 d']) ∧ Own 3 w' N r ((out ++ valsF k v d).map (Value.int .i64)) ∧ Rdr w' b va q ∧ (1 < k → d' = d) ∧ -2305843009213693952 ≤ d' ∧ d' ≤ 2305843009213693952
  | none => Bad e
theorem runR_bad {xs : List Int} {p left N b : Nat} {prev : Option Int} {va : Value} {out : List Int} {e : Ending} {w' : World} (h : oneRunI xs p left prev = none) (he : Bad e) : runR xs p left N b prev va out e w' := by
  unfold runR
  rw [h]
  exact he
theorem Rdr.grownN {w w' : World} {b p : Nat} {va : Value} {row : Option Nat} (h : Rdr w b va p) (hg : w.grownBy w' row) (hr : ∀ k, row = some k → b ≠ k) : Rdr w' b va p := by
  unfold Rdr at h ⊢
  rw [hg.block b (Array.getElem?_eq_some_iff.1 h).1 (fun e => hr b e.symm rfl), h]

/-- How the number that would go on with the row is told. -/
def PrevOf (out : List Int) (d0 : Int) (prev : Option Int) : Prop := (out = [] ∧ prev = none) ∨ (0 < out.length ∧ prev = some (nth out (out.length - 1) + d0))

theorem okV_next {k j : Nat} {v cur d : Int} (h : okV k v d = okV j cur d) (hj : 0 < j) (h1 : 0 ≤ cur) (h2 : cur ≤ 1152921504606846975) : okV k v d = okV (j - 1) (cur + d) d := by
  obtain ⟨j, rfl⟩ : ∃ j', j = j' + 1 := ⟨j - 1, by omega⟩
  rw [h]
  simp only [okV, Nat.add_sub_cancel]
  rw [decide_eq_true ⟨h1, h2⟩]
  simp
theorem valsF_next {j : Nat} {cur d : Int} {acc X : List Int} (h : acc ++ valsF j cur d = X) (hj : 0 < j) : (acc ++ [cur]) ++ valsF (j - 1) (cur + d) d = X := by
  obtain ⟨j, rfl⟩ : ∃ j', j = j' + 1 := ⟨j - 1, by omega⟩
  rw [← h]
  simp [valsF]

/-- All but block b, below block N, is as it was. -/
structure GrN (N b : Nat) (w w' : World) : Prop where
  os : w'.os = w.os
  tape : w'.tape = w.tape
  output : w'.output = w.output
  size : w.heap.size ≤ w'.heap.size
  block : ∀ i, i < N → i ≠ b → w'.heap[i]? = w.heap[i]?
theorem grN_of {N b : Nat} {w w' : World} (h : w.grownBy w' (some b)) (hN : N ≤ w.heap.size) : GrN N b w w' := ⟨h.os, h.tape, h.output, h.size, fun i hi hb => h.block i (by omega) (fun e => hb (by cases e; rfl))⟩
theorem GrN.row {N b : Nat} {w w1 w2 : World} {row : Option Nat} (h : GrN N b w w1) (k : w1.grownBy w2 row) (hN : N ≤ w.heap.size) (hr : ∀ g, row = some g → N ≤ g) : GrN N b w w2 :=
  ⟨k.os.trans h.os, k.tape.trans h.tape, k.output.trans h.output, Nat.le_trans h.size k.size, fun i hi hb => (k.block i (by have := h.size; omega) (fun e => by have := hr i e.symm; omega)).trans (h.block i hi hb)⟩
theorem GrN.out {b : Nat} {w w1 w2 : World} (h : w.grownBy w1 (some b)) (k : GrN w.heap.size b w1 w2) : w.grownBy w2 (some b) :=
  ⟨k.os.trans h.os, k.tape.trans h.tape, k.output.trans h.output, Nat.le_trans h.size k.size, fun i hi hb => (k.block i hi (fun e => hb (by rw [e]))).trans (h.block i hi hb)⟩

/-- What a run comes to, its amount known. -/
def RunF (xs : List Int) (p left k q : Nat) (prev : Option Int) (v dd : Int) : Prop :=
  (okV k v dd = false → oneRunI xs p left prev = none) ∧ (okV k v dd = true → ∃ d, oneRunI xs p left prev = some (v, k, d, q) ∧ valsF k v dd = valsF k v d ∧ (1 < k → dd = d))
theorem runF_one {xs : List Int} {p left k p1 p2 v : Nat} {prev : Option Int} {d0 : Int} (e1 : getL xs p = some ((v : Int), p1)) (e2 : getL xs p1 = some ((k : Int), p2)) (hk : k = 1) (hl : k ≤ left) (h1 : ¬ (k = 1 ∧ left ≠ 1)) (h2 : ¬ prev = some (v : Int)) : RunF xs p left k p2 prev v d0 := by
  subst hk
  by_cases hv : v ≤ 1152921504606846975
  · have ho := oneRun_y1 e1 e2 hl hv
    refine ⟨fun h => ?_, fun _ => ⟨0, oneRunI_good ho (by rintro (h | h); exact h1 h; exact h2 h), by simp [valsF], fun h => absurd h (by omega)⟩⟩
    simp only [okV, Bool.and_true, decide_eq_false_iff_not] at h
    omega
  · refine ⟨fun _ => oneRunI_none (oneRun_n3 e1 e2 (.inr (.inr (by omega)))), fun h => ?_⟩
    simp only [okV, Bool.and_true, decide_eq_true_eq] at h
    omega
theorem runF_more {xs : List Int} {p left k p1 p2 p3 v x : Nat} {prev : Option Int} (e1 : getL xs p = some ((v : Int), p1)) (e2 : getL xs p1 = some ((k : Int), p2)) (e3 : getL xs p2 = some ((x : Int), p3)) (hk : 1 < k) (hl : k ≤ left) (h2 : ¬ prev = some (v : Int)) : RunF xs p left k p3 prev v (unf x) := by
  by_cases hv : v ≤ 1152921504606846975
  · have ho := oneRun_y2 e1 e2 hk hl hv e3
    refine ⟨fun h => oneRunI_none (by rw [ho, if_neg (by rw [h]; decide)]), fun h => ⟨unf x, oneRunI_good (by rw [ho, if_pos h]) (by rintro (h | h); omega; exact h2 h), rfl, fun _ => rfl⟩⟩
  · refine ⟨fun _ => oneRunI_none (oneRun_n3 e1 e2 (.inr (.inr (by omega)))), fun h => ?_⟩
    obtain ⟨k, rfl⟩ : ∃ k', k = k' + 1 := ⟨k - 1, by omega⟩
    simp only [okV, Bool.and_eq_true, decide_eq_true_eq] at h
    omega

set_option maxHeartbeats 4000000 in
set_option maxRecDepth 100000 in
theorem run_any (C b p left N : Nat) (w : World) (va tl : Value) (xs out : List Int) (d0 : Int) (prev : Option Int) (hx : Bytes xs) (hl : xs.length ≤ 1048576) (hp : p ≤ xs.length) (hC : C ≤ b) (hb : b < N) (hN : N ≤ w.heap.size) (hle : out.length + left ≤ 4096)
    (hr : Rd C w va (xs.map (Value.int .u8))) (hR : Rdr w b va p) (ho : Own 3 w N tl (out.map (Value.int .i64))) (hok : runsOK out = true) (hd1 : -2305843009213693952 ≤ d0) (hd2 : d0 ≤ 2305843009213693952) (hprev : PrevOf out d0 prev) :
    Calls Try.prog 85 #[.pointer (some ⟨b, 0, none⟩), tl, .int .i64 d0, .int .i64 (left : Int)] w fun e w' => runR xs p left N b prev va out e w' ∧ GrN N b w w' := by
  obtain ⟨i0, hi, hz0, hz1, hz2⟩ := info_parts info3
  go_enter Try.func85, Try.ntmps85
  go_wp2_with fail
  refine (number_any C b p w va xs hx hl hp hC hr hR).mono ?_
  rintro e w1 ⟨hn, hg1⟩
  unfold numR at hn
  have hr1 := hr.grown hg1 (fun k hk => by cases hk; exact hC)
  have ho1 := ho.apart hg1 (fun k hk => by cases hk; exact hb)
  clear hR ho hr
  cases hG : getL xs p with
  | none =>
    rw [hG] at hn
    obtain ⟨hbad, q, hq, hR1⟩ := hn
    have HN : Hid (runR xs p left N b prev va out e w1) := runR_bad (oneRunI_none (oneRun_n1 hG)) hbad
    unfold Bad at hbad
    subst hbad
    exact ⟨rfl, HN.out, grN_of hg1 hN⟩
  | some z =>
    obtain ⟨v, p1⟩ := z
    rw [hG] at hn
    obtain ⟨rfl, hR1⟩ := hn
    have hok1 := getL_ok hx hG
    obtain ⟨v, rfl⟩ := Int.eq_ofNat_of_zero_le hok1.1
    have HG : Hid _ := hG
    clear hG
    go_wp2_with fail
    refine (number_any C b p1 w1 va xs hx hl hok1.2.2.2 hC hr1 hR1).mono ?_
    rintro e w2 ⟨hn, hg2⟩
    unfold numR at hn
    have hr2 := hr1.grown hg2 (fun k hk => by cases hk; exact hC)
    have ho2 := ho1.apart hg2 (fun k hk => by cases hk; exact hb)
    have hgw2 := grownBy_trans hg1 hg2
    clear hR1 ho1 hr1 hg1 hg2
    cases hG2 : getL xs p1 with
    | none =>
      rw [hG2] at hn
      obtain ⟨hbad, q, hq, hR2⟩ := hn
      have HN : Hid (runR xs p left N b prev va out e w2) := runR_bad (oneRunI_none (oneRun_n2 HG.out hG2)) hbad
      unfold Bad at hbad
      subst hbad
      exact ⟨rfl, HN.out, grN_of hgw2 hN⟩
    | some z =>
      obtain ⟨k, p2⟩ := z
      rw [hG2] at hn
      obtain ⟨rfl, hR2⟩ := hn
      have hok2 := getL_ok hx hG2
      obtain ⟨k, rfl⟩ := Int.eq_ofNat_of_zero_le hok2.1
      have HG2 : Hid _ := hG2
      clear hG2
      have hszw := hgw2.size
      by_cases hk1 : k < 1
      · have hki : ¬ 1 ≤ (k : Int) := by omega
        have HN : Hid (runR xs p left N b prev va out (.panicked [{ v := .iface 108 (.int .i64 3), recovered := false }]) w2) := runR_bad (oneRunI_none (oneRun_n3 HG.out HG2.out (.inl hk1))) rfl
        go_wp2_with (first | (go_at_call 79; refine (require_n _ _ _ (by first | rfl | (simp; done) | (simp; omega))).mono ?_; rintro e w' ⟨rfl, hw⟩; obtain rfl := hw.symm))
        exact ⟨rfl, HN.out, grN_of hgw2 hN⟩
      · have hki : 1 ≤ (k : Int) := by omega
        by_cases hkl : left < k
        · have hkli : ¬ (k : Int) ≤ (left : Int) := by omega
          have HN : Hid (runR xs p left N b prev va out (.panicked [{ v := .iface 108 (.int .i64 3), recovered := false }]) w2) := runR_bad (oneRunI_none (oneRun_n3 HG.out HG2.out (.inr (.inl hkl)))) rfl
          go_wp2_with (first | (go_at_call 79; refine (require_n _ _ _ (by first | rfl | (simp; done) | (simp; omega))).mono ?_; rintro e w' ⟨rfl, hw⟩; obtain rfl := hw.symm))
          exact ⟨rfl, HN.out, grN_of hgw2 hN⟩
        · have hkli : (k : Int) ≤ (left : Int) := by omega
          by_cases hk1l : k = 1 ∧ left ≠ 1
          · have hk1i : ¬ 1 < (k : Int) := by omega
            have hli : ((left : Int) == 1) = false := by simp; omega
            have HN : Hid (runR xs p left N b prev va out (.panicked [{ v := .iface 108 (.int .i64 3), recovered := false }]) w2) := runR_bad (oneRunI_bad HG.out HG2.out (.inl hk1l)) rfl
            clear hk1l
            go_wp2_with (first | (go_at_call 79; refine (require_y _ _ _ (by first | rfl | (simp; done) | (simp; omega))).mono ?_; rintro e w' ⟨rfl, hw⟩; obtain rfl := hw.symm) | (go_at_call 79; refine (require_n _ _ _ (by first | rfl | (simp; done) | (simp; omega))).mono ?_; rintro e w' ⟨rfl, hw⟩; obtain rfl := hw.symm))
            exact ⟨rfl, HN.out, grN_of hgw2 hN⟩
          · have hkor : (decide (1 < (k : Int)) || ((left : Int) == 1)) = true := by
              by_cases h : k = 1
              · have : left = 1 := by omega
                simp [this]
              · simp; omega
            have HKL : Hid _ := hk1l
            clear hk1l
            refine if hlast : out.length = 0 then ?lone else ?lmore
            case' lone =>
              have HPR : Hid (prev = none) := by
                rcases hprev with ⟨_, h⟩ | ⟨h, _⟩
                · exact h
                · omega
              have HPN : Hid (¬ prev = some (v : Int)) := by unfold Hid; rw [HPR.out]; simp
              clear HPR hprev
              obtain ⟨ao, cap, rfl, _⟩ := ho2.slice
              rw [List.length_map] at ho2 ⊢
              have hl0 : ¬ 0 < (out.length : Int) := by omega
              have HL : Hid _ := hlast
              clear hlast
              refine if hkk : k = 1 then ?ka else ?kb
              case' ka =>
                have hk1i : ¬ 1 < (k : Int) := by omega
                have HKK : Hid _ := hkk
                clear hkk
                go_wp2_with (first | (go_at_call 79; refine (require_y _ _ _ (by first | rfl | (simp; done) | (simp; omega))).mono ?_; rintro e w' ⟨rfl, hw⟩; obtain rfl := hw.symm))
              case' kb =>
                have hk1i : 1 < (k : Int) := by omega
                have HKK : Hid _ := hkk
                clear hkk
                go_wp2_with (first | (go_at_call 79; refine (require_y _ _ _ (by first | rfl | (simp; done) | (simp; omega))).mono ?_; rintro e w' ⟨rfl, hw⟩; obtain rfl := hw.symm))
            case' lmore =>
              obtain ⟨m, hm⟩ : ∃ m, out.length = m + 1 := ⟨out.length - 1, by omega⟩
              have hz := runsOK_nth hok m
              have HPR : Hid (prev = some (nth out m + d0)) := by
                rcases hprev with ⟨h, _⟩ | ⟨_, h⟩
                · rw [h] at hm; simp at hm
                · rw [h, hm]; rfl
              obtain ⟨g, cap, rfl, hg, hglt, hcs⟩ := ho2.some (by simp; omega)
              have c1 := hcs m (.int .i64 (nth out m)) (by simp [nth, hm])
              rw [Addr.add_lit, Nat.zero_add] at c1
              rw [List.length_map] at ho2 ⊢
              clear hcs hprev
              have hl0 : 0 < (out.length : Int) := by omega
              have hix : (out.length : Int) - 1 = (m : Int) := by omega
              have hi0 : (0 : Int) ≤ (m : Int) := by omega
              have hi1 : (m : Int) < (out.length : Int) := by omega
              have HM : Hid _ := hm
              clear hm hlast
              generalize nth out m = z at hz HPR c1
              refine if hvz : (v : Int) = z + d0 then ?vsame else ?vother
              case' vsame =>
                have hne : ((v : Int) != z + d0) = false := by simp [hvz]
                have HN : Hid (runR xs p left N b prev va out (.panicked [{ v := .iface 108 (.int .i64 3), recovered := false }]) w2) := runR_bad (oneRunI_bad HG.out HG2.out (.inr (by rw [HPR.out, hvz]))) rfl
                clear hvz
                go_wp2_with (first | (go_at_call 79; refine (require_y _ _ _ (by first | rfl | (simp; done) | (simp; omega))).mono ?_; rintro e w' ⟨rfl, hw⟩; obtain rfl := hw.symm) | (go_at_call 79; refine (require_n _ _ _ (by first | rfl | (simp; done) | (simp; omega))).mono ?_; rintro e w' ⟨rfl, hw⟩; obtain rfl := hw.symm))
                all_goals exact ⟨rfl, HN.out, grN_of hgw2 hN⟩
              case' vother =>
                have hne : ((v : Int) != z + d0) = true := by simp [hvz]
                have HPN : Hid (¬ prev = some (v : Int)) := by unfold Hid; rw [HPR.out]; simp; omega
                clear hvz
                refine if hkk : k = 1 then ?kc else ?kd
                case' kc =>
                  have hk1i : ¬ 1 < (k : Int) := by omega
                  have HKK : Hid _ := hkk
                  clear hkk
                  go_wp2_with (first | (go_at_call 79; refine (require_y _ _ _ (by first | rfl | (simp; done) | (simp; omega))).mono ?_; rintro e w' ⟨rfl, hw⟩; obtain rfl := hw.symm))
                case' kd =>
                  have hk1i : 1 < (k : Int) := by omega
                  have HKK : Hid _ := hkk
                  clear hkk
                  go_wp2_with (first | (go_at_call 79; refine (require_y _ _ _ (by first | rfl | (simp; done) | (simp; omega))).mono ?_; rintro e w' ⟨rfl, hw⟩; obtain rfl := hw.symm))
            case' ka =>
              have RF : Hid (RunF xs p left k p2 prev v d0) := runF_one HG.out HG2.out HKK.out (by omega) HKL.out HPN.out
              obtain ⟨dd, hdd⟩ : ∃ dd, dd = d0 := ⟨_, rfl⟩
              subst hdd
              obtain ⟨q, hdd⟩ : ∃ q, q = p2 := ⟨_, rfl⟩
              subst hdd
              obtain ⟨wL, hdd⟩ : ∃ wL, wL = w2 := ⟨_, rfl⟩
              subst hdd
            case' kc =>
              have RF : Hid (RunF xs p left k p2 prev v d0) := runF_one HG.out HG2.out HKK.out (by omega) HKL.out HPN.out
              obtain ⟨dd, hdd⟩ : ∃ dd, dd = d0 := ⟨_, rfl⟩
              subst hdd
              obtain ⟨q, hdd⟩ : ∃ q, q = p2 := ⟨_, rfl⟩
              subst hdd
              obtain ⟨wL, hdd⟩ : ∃ wL, wL = w2 := ⟨_, rfl⟩
              subst hdd
            case' kb =>
              refine (number_any C b p2 w2 va xs hx hl hok2.2.2.2 hC hr2 hR2).mono ?_
              rintro e wL ⟨hn, hg4⟩
              unfold numR at hn
              replace ho2 := ho2.apart hg4 (fun k hk => by cases hk; exact hb)
              replace hgw2 := grownBy_trans hgw2 hg4
              replace hszw := hgw2.size
              clear hR2 hr2 hg4
              rcases hG3 : getL xs p2 with _ | ⟨x, q⟩
              · rw [hG3] at hn
                obtain ⟨hbad, q, hq, hR3⟩ := hn
                have HN : Hid (runR xs p left N b prev va out e wL) := runR_bad (oneRunI_none (oneRun_n4 HG.out HG2.out (by omega) hG3)) hbad
                unfold Bad at hbad
                subst hbad
                exact ⟨rfl, HN.out, grN_of hgw2 hN⟩
              rw [hG3] at hn
              obtain ⟨rfl, hR2⟩ := hn
              have hok3 := getL_ok hx hG3
              obtain ⟨x, rfl⟩ := Int.eq_ofNat_of_zero_le hok3.1
              have RF : Hid (RunF xs p left k q prev v (unf x)) := runF_more HG.out HG2.out hG3 (by omega) (by omega) HPN.out
              have hub := unf_bd (x := (x : Int)) (by omega) (by omega)
              have hus := fun w => unfoldSign_any x (by omega) w
              clear hd1 hd2 hG3
              generalize unf (x : Int) = dd at RF hub hus
              have hd1 := hub.1
              have hd2 := hub.2
              clear hub
              go_wp2_with ((go_at_call 99; refine (hus _).mono ?_; rintro e w' ⟨rfl, hw⟩; obtain rfl := hw.symm))
              clear hus
            case' kd =>
              refine (number_any C b p2 w2 va xs hx hl hok2.2.2.2 hC hr2 hR2).mono ?_
              rintro e wL ⟨hn, hg4⟩
              unfold numR at hn
              replace ho2 := ho2.apart hg4 (fun k hk => by cases hk; exact hb)
              replace hgw2 := grownBy_trans hgw2 hg4
              replace hszw := hgw2.size
              clear hR2 hr2 hg4
              rcases hG3 : getL xs p2 with _ | ⟨x, q⟩
              · rw [hG3] at hn
                obtain ⟨hbad, q, hq, hR3⟩ := hn
                have HN : Hid (runR xs p left N b prev va out e wL) := runR_bad (oneRunI_none (oneRun_n4 HG.out HG2.out (by omega) hG3)) hbad
                unfold Bad at hbad
                subst hbad
                exact ⟨rfl, HN.out, grN_of hgw2 hN⟩
              rw [hG3] at hn
              obtain ⟨rfl, hR2⟩ := hn
              have hok3 := getL_ok hx hG3
              obtain ⟨x, rfl⟩ := Int.eq_ofNat_of_zero_le hok3.1
              have RF : Hid (RunF xs p left k q prev v (unf x)) := runF_more HG.out HG2.out hG3 (by omega) (by omega) HPN.out
              have hub := unf_bd (x := (x : Int)) (by omega) (by omega)
              have hus := fun w => unfoldSign_any x (by omega) w
              clear hd1 hd2 hG3
              generalize unf (x : Int) = dd at RF hub hus
              have hd1 := hub.1
              have hd2 := hub.2
              clear hub
              go_wp2_with ((go_at_call 99; refine (hus _).mono ?_; rintro e w' ⟨rfl, hw⟩; obtain rfl := hw.symm))
              clear hus
            all_goals
              clear HG HG2 HKK HKL HPN hkor
              repeat (rename ¬ 0 < out.length => hT; clear hT)
              repeat (rename 0 < out.length => hT; clear hT)
              repeat (rename (k : Int) ≤ 1 => hT; clear hT)
              clear hl0
              try clear hk1i
              go_loopw [1, 10, 54] (fun to tv ti wr => ∃ (i : Nat) (cur : Int) (acc : List Int), tv = .int .i64 cur ∧ ti = .int .i64 (i : Int) ∧ i ≤ k ∧ Rdr wr b va q ∧ Own 3 wr N to (acc.map (Value.int .i64)) ∧ acc.length = out.length + i ∧ Hid (acc ++ valsF (k - i) cur dd = out ++ valsF k v dd) ∧ Hid (okV k v dd = okV (k - i) cur dd) ∧ GrN N b w wr) (fun _ _ ti _ => k - (intOf ti).toNat)
              case atStart => exact ⟨0, v, out, rfl, rfl, Nat.zero_le _, hR2, ho2, rfl, rfl, rfl, grN_of hgw2 hN⟩
              case round =>
                clear hR2 ho2 hgw2
                obtain ⟨i, cur, acc, rfl, rfl, hile, hRj, howj, hlen, HV, HK, hgwj⟩ := hrel
                have hszj := hgwj.size
                by_cases hik : i = k
                · have hib : ¬ (i : Int) < (k : Int) := by omega
                  have HN : Hid (runR xs p left N b prev va out (.returned (.tuple #[u1, .int .i64 dd])) wr) := by
                    have h1 : acc = out ++ valsF k v dd := by have := HV.out; rw [hik, Nat.sub_self] at this; simpa [valsF] using this
                    have h2 : okV k v dd = true := by rw [HK.out, hik, Nat.sub_self]; rfl
                    obtain ⟨d, h3, h4, h5⟩ := RF.out.2 h2
                    unfold Hid runR
                    rw [h3]
                    exact ⟨u1, dd, rfl, by rw [← h4, ← h1]; exact howj, hRj, h5, hd1, hd2⟩
                  clear HV HK RF howj hRj
                  go_wp2_with fail
                  go_ret2
                  exact ⟨HN.out, hgwj⟩
                · have hib : (i : Int) < (k : Int) := by omega
                  by_cases hin : 0 ≤ cur ∧ cur ≤ 1152921504606846975
                  · have hc1 := hin.1
                    have hc2 := hin.2
                    have HR : Hid (((acc ++ [cur]) ++ valsF (k - (i + 1)) (cur + dd) dd = out ++ valsF k v dd) ∧ okV k v dd = okV (k - (i + 1)) (cur + dd) dd) := by
                      rw [show k - (i + 1) = k - i - 1 by omega]
                      exact ⟨valsF_next HV.out (by omega), okV_next HK.out (by omega) hc1 hc2⟩
                    have hbj : ∀ g, u1.ownBlock = some g → N ≤ g := howj.lt
                    have hcn : ∀ (j : Nat) (u : Value), [Value.int .i64 cur][j]? = some u → (wr.alloc (.cells #[.int .i64 cur] 3)).cell? ((⟨wr.heap.size, 0, none⟩ : Addr).add j) = some u := cell_one_new _ _ _
                    have hal : acc.length ≤ 4096 := by omega
                    clear HV HK hin
                    go_wp2_with (first | (go_at_call 66; refine (inRun_yes cur _ hc1 hc2).mono ?_; rintro e w' ⟨rfl, hw⟩; obtain rfl := hw.symm) | (go_at_call 79; refine (require_y _ _ _ (by first | rfl | (simp; done) | (simp; omega))).mono ?_; rintro e w' ⟨rfl, hw⟩; obtain rfl := hw.symm) | (at_builtin; refine wpList_append_own _ rfl _ _ 32 rfl N 3 i0 (.int .i64 0) 1 8 Try.underlying32 hi hz0 hz1 hz2 rfl (by decide) _ _ _ rfl (World.ownsRow.alloc howj _) ⟨wr.heap.size, 0, none⟩ 1 1 [.int .i64 cur] rfl rfl hcn (by simp [Value.oneCell']) (by simp [maxLen]; omega) (by simp; omega) (by simp; omega) ?_))
                    intro v6 w6 ho6 hg6 _
                    have hR6 := (hRj.grownN (World.grownBy_alloc wr (.cells #[.int .i64 cur] 3) none) (fun k hk => by cases hk)).grownN hg6 (fun k hk => by have := hbj k hk; omega)
                    have hg7 : GrN N b w w6 := (hgwj.row (World.grownBy_alloc wr (.cells #[.int .i64 cur] 3) none) hN (fun k hk => by cases hk)).row hg6 hN hbj
                    have ho7 : Own 3 w6 N v6 ((acc ++ [cur]).map (Value.int .i64)) := by simpa using own_of ho6
                    clear ho6 hg6 howj hRj hgwj hcn
                    go_wp2_with fail
                    go_roundw
                    case rel => exact ⟨i + 1, cur + dd, acc ++ [cur], rfl, by go_num, by omega, hR6, ho7, by simp; omega, HR.out.1, HR.out.2, hg7⟩
                    case measure => simp [intOf]; omega
                  · have HN : Hid (runR xs p left N b prev va out (.panicked [{ v := .iface 108 (.int .i64 3), recovered := false }]) wr) := by
                      refine runR_bad (RF.out.1 ?_) rfl
                      rw [HK.out]
                      obtain ⟨j, hj⟩ : ∃ j, k - i = j + 1 := ⟨k - i - 1, by omega⟩
                      rw [hj]
                      simp only [okV]
                      rw [decide_eq_false hin]
                      rfl
                    clear HV HK RF howj
                    go_wp2_with (first | (go_at_call 66; refine (inRun_no cur _ hin).mono ?_; rintro e w' ⟨rfl, hw⟩; obtain rfl := hw.symm) | (go_at_call 79; refine (require_n _ _ _ (by first | rfl | (simp; done) | (simp; omega))).mono ?_; rintro e w' ⟨rfl, hw⟩; obtain rfl := hw.symm))
                    exact ⟨rfl, HN.out, hgwj⟩
end Go.Proofs.Ytpiadcjkbbgggaa
