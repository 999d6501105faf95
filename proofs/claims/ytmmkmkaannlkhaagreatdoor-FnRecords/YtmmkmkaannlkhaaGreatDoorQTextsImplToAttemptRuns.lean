/- What the code's end, text and texts do. What the code's texts does. What the code's unfoldSign and run do. What the code's runs does. What the code's runs and texts do, from any place on. What attempt does with runs; and the code's GetRuns. -/
import Derived.Test.YtmmkmkaannlkhaaGreatDoorQReaderToAttempt
import Derived.Test.YtmmkmkaannlkhaaGreatDoorQTextsToBackRuns
import Derived.Test.YtmmkmkaannlkhaaGreatDoorQInfoToLawAt
import Derived.Test.YtmmkmkaannlkhaaGreatDoorQStampLessWalkToStampNextMax
namespace Go.Proofs.YtmmkmkaannlkhaaGreatDoor
open Go.RowKit Go.Lib
set_option linter.unusedVariables false

/-- What text answers, and where the reader stands behind it. -/
def textR (xs : List Int) (b : Nat) (va : Value) (p : Nat) (last : ByteArray) (all : Nat) (e : Ending) (w' : World) : Prop := match oneText xs p last all with
  | some (t, q) => e = .returned (.string t) ∧ Rdr w' b va q ∧ q ≤ xs.length ∧ all + t.size ≤ 1048576
  | none => Bad e ∧ ∃ q, q ≤ xs.length ∧ Rdr w' b va q

theorem textR_bad {xs : List Int} {b : Nat} {va : Value} {p q : Nat} {last : ByteArray} {all : Nat} {e : Ending} {w' : World} (h : oneText xs p last all = none) (he : Bad e) (hq : q ≤ xs.length) (hR : Rdr w' b va q) : textR xs b va p last all e w' := by
  unfold textR
  rw [h]
  exact ⟨he, q, hq, hR⟩

set_option maxHeartbeats 2000000 in
set_option maxRecDepth 100000 in
theorem text_any (C b p : Nat) (w : World) (va : Value) (xs : List Int) (last : ByteArray) (all : Nat) (hx : Bytes xs) (hl : xs.length ≤ 1048576) (hp : p ≤ xs.length) (hla : last.size ≤ 1048576) (hall : all ≤ 1048576) (hC : C ≤ b) (hr : Rd C w va (xs.map (Value.int .u8))) (hR : Rdr w b va p) :
    Calls Tryz.prog 121 #[.pointer (some ⟨b, 0, none⟩), .string last, .int .i64 (1048576 - (all : Int))] w fun e w' => textR xs b va p last all e w' ∧ w.grownBy w' (some b) := by
  go_enter Tryz.func121, Tryz.ntmps121
  go_wp2_with fail
  refine (number_any C b p w va xs hx hl hp hC hr hR).mono ?_
  rintro e w1 ⟨hn, hg1⟩
  unfold numR at hn
  cases hG : getL xs p with
  | none =>
    rw [hG] at hn
    obtain ⟨hbad, q, hq, hR1⟩ := hn
    have HN : Hid (textR xs b va p last all e w1) := textR_bad (one_none1 hG) hbad hq hR1
    unfold Bad at hbad
    subst hbad
    exact ⟨rfl, HN.out, hg1⟩
  | some z =>
    obtain ⟨k, p1⟩ := z
    rw [hG] at hn
    obtain ⟨rfl, hR1⟩ := hn
    have hok := getL_ok hx hG
    obtain ⟨k, rfl⟩ := Int.eq_ofNat_of_zero_le hok.1
    have HG : Hid _ := hG
    clear hG hR
    have hr1 : Rd C w1 va _ := hr.grown hg1 (fun k hk => by cases hk; exact hC)
    by_cases hk : last.size < k
    · have HN : Hid (textR xs b va p last all (.panicked [{ v := .iface 137 (.int .i64 3), recovered := false }]) w1) := textR_bad (one_none2 HG.out (by simpa using hk)) rfl hok.2.2.2 hR1
      go_wp2_with (first | (go_at_call 101; refine (require_n _ _ _ (by first | rfl | (simp; done) | (simp; omega))).mono ?_; rintro e w' ⟨rfl, hw⟩; obtain rfl := hw.symm))
      exact ⟨rfl, HN.out, hg1⟩
    · go_wp2_with (first | (go_at_call 101; refine (require_y _ _ _ (by first | rfl | (simp; done) | (simp; omega))).mono ?_; rintro e w' ⟨rfl, hw⟩; obtain rfl := hw.symm))
      refine (number_any C b p1 w1 va xs hx hl hok.2.2.2 hC hr1 hR1).mono ?_
      rintro e w2 ⟨hn, hg2⟩
      unfold numR at hn
      have hgw2 := grownBy_trans hg1 hg2
      have hr2 : Rd C w2 va _ := hr1.grown hg2 (fun k hk => by cases hk; exact hC)
      clear hg1 hr1 hR1 hr hg2
      cases hG2 : getL xs p1 with
      | none =>
        rw [hG2] at hn
        obtain ⟨hbad, q, hq, hR2⟩ := hn
        have HN : Hid (textR xs b va p last all e w2) := textR_bad (one_none3 HG.out hG2) hbad hq hR2
        unfold Bad at hbad
        subst hbad
        exact ⟨rfl, HN.out, hgw2⟩
      | some z =>
        obtain ⟨m, p2⟩ := z
        rw [hG2] at hn
        obtain ⟨rfl, hR2⟩ := hn
        have hok2 := getL_ok hx hG2
        obtain ⟨m, rfl⟩ := Int.eq_ofNat_of_zero_le hok2.1
        have HG2 : Hid _ := hG2
        clear hG2
        by_cases hbig : 1048576 < all + (k + m)
        · have HN : Hid (textR xs b va p last all (.panicked [{ v := .iface 137 (.int .i64 3), recovered := false }]) w2) := textR_bad (one_none5 HG.out HG2.out (.inr (by simpa using hbig))) rfl hok2.2.2.2 hR2
          go_wp2_with (first | (go_at_call 101; refine (require_n _ _ _ (by first | rfl | (simp; done) | (simp; omega))).mono ?_; rintro e w' ⟨rfl, hw⟩; obtain rfl := hw.symm))
          exact ⟨rfl, HN.out, hgw2⟩
        · go_wp2_with (first | (go_at_call 101; refine (require_y _ _ _ (by first | rfl | (simp; done) | (simp; omega))).mono ?_; rintro e w' ⟨rfl, hw⟩; obtain rfl := hw.symm))
          by_cases hlen : xs.length - p2 < m
          · have HN : Hid (oneText xs p last all = none) := one_none4 HG.out HG2.out (by simpa using hlen)
            obtain ⟨ao, cap, rfl, _⟩ := hr2
            refine (take_no b p2 m w2 ao _ cap (by simpa using hl) (by simpa using hok2.2.2.2) (by simp; omega) hR2).mono ?_
            rintro e w3 ⟨hbad, n3, rfl⟩
            have HN2 : Hid (textR xs b _ p last all e (w2.drewN n3)) := textR_bad HN.out hbad hok2.2.2.2 (show Rdr (w2.drewN n3) b _ p2 from hR2)
            unfold Bad at hbad
            subst hbad
            exact ⟨rfl, HN2.out, grownBy_trans hgw2 (grownBy_drewN _ _ _)⟩
          · refine (take_ok C b p2 m w2 va (xs.map (Value.int .u8)) (by simpa using hl) (by simpa using hok2.2.2.2) (by simp; omega) hC hr2 hR2).mono ?_
            rintro e w3 ⟨r, rfl, hrr, hR3, hg3⟩
            have hgw3 := grownBy_trans hgw2 hg3
            clear hg3 hgw2 hR2 hr2
            rw [← List.map_drop, ← List.map_take] at hrr
            have hst : ∀ nq, (convert 22 9 r).run Tryz.prog (w3.drewN nq) = .ok (.string (bytesAt xs p2 m)) (w3.drewN nq) := fun nq => run_string_of (hrr.drewN nq)
            have hst0 := hst 0
            have hms := bytesAt_size (bs := xs) (p := p2) (m := m) (by omega)
            have hmk : (last.extract 0 k ++ bytesAt xs p2 m).size = k + m := mkText_size (by omega) (by omega)
            obtain ⟨ao, cap, rfl, _, _, _, hrc⟩ := hrr
            have hrl : (((xs.drop p2).take m).map (Value.int .u8)).length = m := by simp; omega
            rw [hrl] at hst hst0 hrc ⊢
            by_cases hin : k < last.size ∧ 0 < m
            · have hpx : p2 < xs.length := by omega
              obtain ⟨g, off, rfl, _, hc⟩ := hrc hin.2
              have c1 := hc 0 (.int .u8 xs[p2]) (by rw [List.getElem?_map, List.getElem?_take, if_pos hin.2, List.getElem?_drop, Nat.add_zero, List.getElem?_eq_getElem hpx]; rfl)
              rw [Nat.add_zero] at c1
              have ha := alike_mk_in (bs := xs) (last := last) (k := k) (p := p2) (m := m) hin.1 hin.2 hpx
              have hxb := hx xs[p2] (List.getElem_mem hpx)
              clear hc hrc
              have hsz : (0 : Int) ≤ (k : Int) := by omega
              have hki : (k : Int) < (last.size : Int) := by omega
              have hmi : (0 : Int) < (m : Int) := by omega
              by_cases heq : last[k] = UInt8.ofNat (xs[p2]).toNat
              · have hno : ((last[k].toNat : Int) != xs[p2]) = false := by
                  rw [heq]
                  simp
                  omega
                have HN : Hid (oneText xs p last all = none) := one_none5 HG.out HG2.out (.inl (by simpa using fun h => ha.1 h.symm heq))
                clear heq ha
                go_wp2_with fail
                go_region_held2 (fun w' => w'.cell? ⟨g, off, none⟩ = some (.int .u8 xs[p2])) (go_keep) (first | (go_at_call 101; refine (require_none _ _).mono ?_; rintro e w' (⟨rfl, rfl, hF⟩ | ⟨rfl, rfl⟩); rotate_left; exact ⟨rfl, textR_bad HN.out rfl (by omega) (show Rdr w3.drew b va (p2 + m) from hR3), grownBy_trans hgw3 (grownBy_drewN w3 1 _)⟩))
                all_goals exact (hF.out).elim
              · have hno : ((last[k].toNat : Int) != xs[p2]) = true := by
                  simp
                  intro h
                  exact heq (by rw [← h]; simp)
                have HN : Hid (∀ w', Rdr w' b va (p2 + m) → textR xs b va p last all (.returned (.string (last.extract 0 k ++ bytesAt xs p2 m))) w') := by
                  intro w' hR3
                  unfold textR
                  rw [one_some HG.out (by simpa using hk) HG2.out (by simpa using hlen) (by have := ha.2 heq; simp [this]; omega)]
                  exact ⟨rfl, hR3, by simp; omega, by simp only [mkText, Int.toNat_natCast]; omega⟩
                clear heq ha
                have hcat : ¬ 9223372036854775807 < min k last.size + (bytesAt xs p2 m).size := by rw [hms]; omega
                go_wp2_with fail
                go_quiet ((go_at_call 101; exact Calls.quiet_of_same (require_yes _ _)))
                clear c1
                go_wp2_with fail
                have hst' : ∀ nq', (convert 22 9 (.slice (some ⟨g, off, none⟩) m cap)).run Tryz.prog ((w3.drewN nq).drewN nq') = .ok (.string (bytesAt xs p2 m)) ((w3.drewN nq).drewN nq') := fun nq' => by rw [World.drewN_drewN]; exact hst (nq + nq')
                have hR4 : Rdr (w3.drewN nq) b va (p2 + m) := hR3
                have hgw4 := grownBy_trans hgw3 (grownBy_drewN w3 nq _)
                generalize w3.drewN nq = w4 at hst' hR4 hgw4 ⊢
                clear hst hst0 hR3 hgw3
                go_quiet (fail)
                go_wp2_with fail
                go_ret
                exact ⟨HN.out _ (show Rdr (w4.drewN _) b va (p2 + m) from hR4), grownBy_trans hgw4 (grownBy_drewN w4 _ _)⟩
            · have ha : alike last (mkText xs last k p2 m) = k := by
                by_cases hk2 : k < last.size
                · obtain rfl : m = 0 := by omega
                  exact alike_mk_zero (by omega)
                · exact alike_mk_end (by omega)
              have HN : Hid (∀ w', Rdr w' b va (p2 + m) → textR xs b va p last all (.returned (.string (last.extract 0 k ++ bytesAt xs p2 m))) w') := by
                intro w' hR3
                unfold textR
                rw [one_some HG.out (by simpa using hk) HG2.out (by simpa using hlen) (by simp [ha]; omega)]
                exact ⟨rfl, hR3, by simp; omega, by simp only [mkText, Int.toNat_natCast]; omega⟩
              have hcat : ¬ 9223372036854775807 < min k last.size + (bytesAt xs p2 m).size := by rw [hms]; omega
              clear hrc ha
              by_cases hk2 : k < last.size
              · obtain rfl : m = 0 := by omega
                go_wp2_with fail
                go_quiet (fail)
                go_wp2_with fail
                go_ret
                exact ⟨HN.out _ (show Rdr (w3.drewN _) b va _ from hR3), grownBy_trans hgw3 (grownBy_drewN w3 _ _)⟩
              · go_wp2_with fail
                go_quiet (fail)
                go_wp2_with fail
                go_ret
                exact ⟨HN.out _ (show Rdr (w3.drewN _) b va _ from hR3), grownBy_trans hgw3 (grownBy_drewN w3 _ _)⟩
end Go.Proofs.YtmmkmkaannlkhaaGreatDoor

namespace Go.Proofs.YtmmkmkaannlkhaaGreatDoor
open Go.RowKit Go.Lib
set_option linter.unusedVariables false

/-- What texts answers, and where the reader stands behind it. -/
def textsR (xs : List Int) (b : Nat) (va : Value) (N : Nat) (e : Ending) (w' : World) : Prop := match textsL xs with
  | some (out, p) => ∃ r, e = .returned r ∧ Own 9 w' N r (out.map Value.string) ∧ out.length ≤ 4096 ∧ p ≤ xs.length ∧ Rdr w' b va p
  | none => Bad e

theorem textsR_bad {xs : List Int} {b : Nat} {va : Value} {N : Nat} {e : Ending} {w' : World} (h : textsL xs = none) (he : Bad e) : textsR xs b va N e w' := by
  unfold textsR
  rw [h]
  exact he

set_option maxHeartbeats 4000000 in
set_option maxRecDepth 100000 in
theorem texts_any (C b : Nat) (w : World) (va : Value) (xs : List Int) (hx : Bytes xs) (hl : xs.length ≤ 1048576) (hC : C ≤ b) (hb : b < w.heap.size) (hr : Rd C w va (xs.map (Value.int .u8))) (hR : Rdr w b va 0) :
    Calls Tryz.prog 116 #[.pointer (some ⟨b, 0, none⟩)] w fun e w' => textsR xs b va w.heap.size e w' ∧ w.grownBy w' (some b) := by
  obtain ⟨i0, hi, hz0, hz1, hz2⟩ := info_parts info9
  go_enter Tryz.func116, Tryz.ntmps116
  go_wp2_with fail
  refine (number_any C b 0 w va xs hx hl (Nat.zero_le _) hC hr hR).mono ?_
  rintro e w1 ⟨hn, hg1⟩
  unfold numR at hn
  cases hG : getL xs 0 with
  | none =>
    rw [hG] at hn
    obtain ⟨hbad, q, hq, hR1⟩ := hn
    have HN : Hid (textsR xs b va w.heap.size e w1) := textsR_bad (by unfold textsL; rw [hG]) hbad
    unfold Bad at hbad
    subst hbad
    exact ⟨rfl, HN.out, hg1⟩
  | some z =>
    obtain ⟨n, p⟩ := z
    rw [hG] at hn
    obtain ⟨rfl, hR1⟩ := hn
    have hok := getL_ok hx hG
    obtain ⟨n, rfl⟩ := Int.eq_ofNat_of_zero_le hok.1
    by_cases h4 : 4096 < n
    · have HN : Hid (textsR xs b va w.heap.size (.panicked [{ v := .iface 137 (.int .i64 3), recovered := false }]) w1) := textsR_bad (by unfold textsL; rw [hG]; simp only; rw [if_pos (by omega)]) rfl
      clear hG
      go_wp2_with (first | (go_at_call 101; refine (require_n _ _ _ (by first | rfl | (simp; done) | (simp; omega))).mono ?_; rintro e w' ⟨rfl, hw⟩; obtain rfl := hw.symm))
      exact ⟨rfl, HN.out, hg1⟩
    · have HT : Hid (textsL xs = textsF xs n p ByteArray.empty 0 []) := by
        unfold Hid textsL
        rw [hG]
        simp only
        rw [if_neg (by omega), Int.toNat_natCast]
      clear hG
      have hsz1 := hg1.size
      go_wp2_with (first | (go_at_call 101; refine (require_y _ _ _ (by first | rfl | (simp; done) | (simp; omega))).mono ?_; rintro e w' ⟨rfl, hw⟩; obtain rfl := hw.symm) | (at_make; refine wpList_make_own _ rfl _ _ 84 rfl w.heap.size 9 i0 (.string ByteArray.empty) 1 Tryz.underlying84 hi hz0 hz1 _ _ _ n rfl rfl rfl (by rw [hz2]; omega) (by unfold maxLen; omega) (by omega) ?_))
      intro w2 ho2 hg2
      have how2 : Own 9 w2 w.heap.size (.slice (some ⟨w1.heap.size, 0, none⟩) 0 n) [] := ho2
      have hR2 : Rdr w2 b va p := by
        unfold Rdr at hR1 ⊢
        rw [hg2.block b (Array.getElem?_eq_some_iff.1 hR1).1 (by simp), hR1]
      have hgw2 : w.grownBy w2 (some b) := grownBy_own hg1 hg2 (fun k hk => by cases hk)
      clear ho2 hg2 hR1 hg1
      go_wp2_with fail
      go_loopw [4, 5, 6, 16] (fun tl ta tr tk wr => ∃ (k p all : Nat) (last : ByteArray) (out : List ByteArray), tk = .int .i64 (k : Int) ∧ k ≤ n ∧ ta = .string last ∧ tr = .int .i64 (1048576 - (all : Int)) ∧ Rdr wr b va p ∧ p ≤ xs.length ∧ all ≤ 1048576 ∧ last.size ≤ 1048576 ∧ Own 9 wr w.heap.size tl (out.map Value.string) ∧ out.length = k ∧ Hid (textsL xs = textsF xs (n - k) p last all out) ∧ w.grownBy wr (some b)) (fun _ _ _ tk _ => n - (intOf tk).toNat)
      case atStart => exact ⟨0, p, 0, ByteArray.empty, [], rfl, Nat.zero_le _, rfl, rfl, hR2, hok.2.2.2, by omega, by simp, how2, rfl, HT, hgw2⟩
      case round =>
        clear hR2 how2 HT hgw2 hR
        obtain ⟨k, p, all, last, out, rfl, hk, rfl, rfl, hR, hp, hall, hla, how, hol, HT, hgw⟩ := hrel
        have hszw := hgw.size
        by_cases hkn : k = n
        · have HT2 : Hid (textsL xs = some (out, p)) := by
            unfold Hid
            rw [HT.out, hkn, Nat.sub_self]
            rfl
          clear HT
          have HN : Hid (textsR xs b va w.heap.size (.returned u4) wr) := by
            unfold Hid textsR
            rw [HT2.out]
            exact ⟨_, rfl, how, by omega, hp, hR⟩
          go_wp2_with fail
          go_ret
          exact ⟨HN.out, hgw⟩
        · have hki : (k : Int) < (n : Int) := by omega
          have hrr : Rd C wr va _ := hr.grown hgw (fun k hk => by cases hk; exact hC)
          obtain ⟨j, hj⟩ : ∃ j, n - k = j + 1 := ⟨n - k - 1, by omega⟩
          rw [hj] at HT
          have hjk : n - (k + 1) = j := by omega
          clear hj
          go_wp2_with fail
          refine (text_any C b p wr va xs last all hx hl hp hla hall hC hrr hR).mono ?_
          rintro e w3 ⟨hn, hg3⟩
          unfold textR at hn
          have hgw3 := grownBy_trans hgw hg3
          have how3 := how.apart hg3 (fun k hk => by cases hk; exact hb)
          have hsz3 := hgw3.size
          clear hgw how hg3 hR hrr
          cases hO : oneText xs p last all with
          | none =>
            rw [hO] at hn
            obtain ⟨hbad, q, hq, hR3⟩ := hn
            have HN : Hid (textsR xs b va w.heap.size e w3) := textsR_bad (by rw [HT.out, textsF_none hO]) hbad
            unfold Bad at hbad
            subst hbad
            exact ⟨rfl, HN.out, hgw3⟩
          | some z =>
            obtain ⟨t, q⟩ := z
            rw [hO] at hn
            obtain ⟨rfl, hR3, hq, hts⟩ := hn
            have HT3 : Hid (textsL xs = textsF xs (n - (k + 1)) q t (all + t.size) (out ++ [t])) := by
              unfold Hid
              rw [HT.out, textsF_some hO, hjk]
            clear hO HT hjk
            go_wp2_with (at_builtin; refine wpList_append_own _ rfl _ _ 84 rfl w.heap.size 9 i0 (.string ByteArray.empty) 1 16 Tryz.underlying84 hi hz0 hz1 hz2 rfl (by decide) _ _ _ rfl (World.ownsRow.alloc how3 _) ⟨w3.heap.size, 0, none⟩ 1 1 [.string t] rfl rfl (cell_one_new _ _ _) (by simp [Value.oneCell']) (by simp [maxLen]; omega) (by simp; omega) (by simp; omega) ?_)
            intro v6 w6 ho6 hg6 _
            have hb5 := how3.lt
            have how6 : Own 9 w6 w.heap.size v6 ((out ++ [t]).map Value.string) := by simpa using own_of ho6
            have hR6 : Rdr w6 b va q := by
              unfold Rdr at hR3 ⊢
              rw [hg6.block b (by simp; omega) (fun e => by have := hb5 b e.symm; omega), Below.heap_alloc w3 _ b (by omega), hR3]
            have hgw6 : w.grownBy w6 (some b) := grownBy_own (grownBy_trans hgw3 (World.grownBy_alloc _ _ _)) hg6 hb5
            clear ho6 hg6 how3 hR3 hgw3 hb5
            go_wp2_with fail
            go_roundw
            case rel => exact ⟨k + 1, q, all + t.size, t, out ++ [t], by go_num, by omega, rfl, by congr 1; omega, hR6, hq, hts, by omega, how6, by simp [hol], HT3, hgw6⟩
            case measure => simp [intOf]; omega
end Go.Proofs.YtmmkmkaannlkhaaGreatDoor

namespace Go.Proofs.YtmmkmkaannlkhaaGreatDoor
open Go.RowKit Go.Lib
set_option linter.unusedVariables false

set_option maxHeartbeats 400000 in
theorem unfoldSign_any (x : Nat) (hx : x ≤ 4611686018427387903) (w : World) : Calls Tryz.prog 117 #[.int .i64 (x : Int)] w fun e w' => e = .returned (.int .i64 (unf x)) ∧ w' = w := by
  by_cases hodd : x % 2 = 1
  · have hod : ((x : Int) % 2 == 1) = true := by simp; omega
    have HD : Hid (wrap64 (-((x : Int) + 1).tdiv 2) = unf x) := by
      unfold Hid unf
      rw [if_pos (by omega), Int.tdiv_eq_ediv_of_nonneg (by omega)]
      exact IntWalk.wrap64_in _ ⟨by omega, by omega⟩
    go_enter Tryz.func117, Tryz.ntmps117
    go_wp2_with fail
    go_ret
    exact ⟨by rw [← HD.out]; rfl, rfl⟩
  · have hod : ((x : Int) % 2 == 1) = false := by simp; omega
    have HD : Hid ((x : Int) / 2 = unf x) := by
      unfold Hid unf
      rw [if_neg (by omega)]
    go_enter Tryz.func117, Tryz.ntmps117
    go_wp2_with fail
    go_ret
    exact ⟨by rw [← HD.out]; rfl, rfl⟩

theorem oneRun_head {xs : List Int} {p left k k' p1 p2 q : Nat} {v : Nat} {v' d : Int} (e1 : getL xs p = some ((v : Int), p1)) (e2 : getL xs p1 = some ((k : Int), p2)) (h : oneRun xs p left = some (v', k', d, q)) : v' = (v : Int) ∧ k' = k := by
  unfold oneRun at h
  rw [e1] at h
  simp only at h
  rw [e2] at h
  simp only [Int.toNat_natCast] at h
  split at h
  · simp at h
  · split at h
    · rename_i hk
      simp only [Option.some.injEq, Prod.mk.injEq] at h
      exact ⟨h.1.symm, by omega⟩
    · split at h
      · simp at h
      · split at h
        · simp only [Option.some.injEq, Prod.mk.injEq] at h
          exact ⟨h.1.symm, h.2.1.symm⟩
        · simp at h
theorem oneRunI_none {xs : List Int} {p left : Nat} {prev : Option Int} (h : oneRun xs p left = none) : oneRunI xs p left prev = none := by unfold oneRunI; rw [h]
theorem oneRunI_bad {xs : List Int} {p left k p1 p2 : Nat} {v : Nat} {prev : Option Int} (e1 : getL xs p = some ((v : Int), p1)) (e2 : getL xs p1 = some ((k : Int), p2)) (h : (k = 1 ∧ left ≠ 1) ∨ prev = some (v : Int)) : oneRunI xs p left prev = none := by
  unfold oneRunI
  cases ho : oneRun xs p left with
  | none => rfl
  | some z =>
    obtain ⟨v', k', d, q⟩ := z
    obtain ⟨rfl, rfl⟩ := oneRun_head e1 e2 ho
    simp only
    rw [if_pos h]
theorem oneRunI_good {xs : List Int} {p left k q : Nat} {v d : Int} {prev : Option Int} (h : oneRun xs p left = some (v, k, d, q)) (hb : ¬ ((k = 1 ∧ left ≠ 1) ∨ prev = some v)) : oneRunI xs p left prev = some (v, k, d, q) := by
  unfold oneRunI
  rw [h]
  simp only
  rw [if_neg hb]
theorem oneRun_n1 {xs : List Int} {p left : Nat} (h : getL xs p = none) : oneRun xs p left = none := by unfold oneRun; rw [h]
theorem oneRun_n2 {xs : List Int} {p left p1 : Nat} {v : Int} (e1 : getL xs p = some (v, p1)) (h : getL xs p1 = none) : oneRun xs p left = none := by unfold oneRun; rw [e1]; simp only; rw [h]
theorem oneRun_n3 {xs : List Int} {p left k p1 p2 v : Nat} (e1 : getL xs p = some ((v : Int), p1)) (e2 : getL xs p1 = some ((k : Int), p2)) (h : k < 1 ∨ left < k ∨ 1152921504606846975 < v) : oneRun xs p left = none := by
  unfold oneRun; rw [e1]; simp only; rw [e2]; simp only [Int.toNat_natCast]; rw [if_pos (by omega)]
theorem oneRun_n4 {xs : List Int} {p left k p1 p2 v : Nat} (e1 : getL xs p = some ((v : Int), p1)) (e2 : getL xs p1 = some ((k : Int), p2)) (hk : 1 < k) (h : getL xs p2 = none) : oneRun xs p left = none := by
  unfold oneRun; rw [e1]; simp only; rw [e2]; simp only [Int.toNat_natCast]
  split
  · rfl
  · rw [if_neg (by omega), h]
theorem oneRun_y1 {xs : List Int} {p left p1 p2 v : Nat} (e1 : getL xs p = some ((v : Int), p1)) (e2 : getL xs p1 = some (((1 : Nat) : Int), p2)) (hl : 1 ≤ left) (h : v ≤ 1152921504606846975) : oneRun xs p left = some ((v : Int), 1, 0, p2) := by
  unfold oneRun; rw [e1]; simp only; rw [e2]; simp only [Int.toNat_natCast]; rw [if_neg (by omega), if_pos trivial]
theorem oneRun_y2 {xs : List Int} {p left k p1 p2 p3 v x : Nat} (e1 : getL xs p = some ((v : Int), p1)) (e2 : getL xs p1 = some ((k : Int), p2)) (hk : 1 < k) (hl : k ≤ left) (h : v ≤ 1152921504606846975) (e3 : getL xs p2 = some ((x : Int), p3)) :
    oneRun xs p left = if okV k v (unf x) = true then some ((v : Int), k, unf x, p3) else none := by
  unfold oneRun; rw [e1]; simp only; rw [e2]; simp only [Int.toNat_natCast]; rw [if_neg (by omega), if_neg (by omega), e3]

/-- What run answers. -/
def runR (xs : List Int) (p left N b : Nat) (prev : Option Int) (va : Value) (out : List Int) (e : Ending) (w' : World) : Prop := match oneRunI xs p left prev with
  | some (v, k, d, q) => ∃ r d', e = .returned (.tuple #[r, .int .i64 d']) ∧ Own 3 w' N r ((out ++ valsF k v d).map (Value.int .i64)) ∧ Rdr w' b va q ∧ (1 < k → d' = d) ∧ -2305843009213693952 ≤ d' ∧ d' ≤ 2305843009213693952
  | none => Bad e
theorem runR_bad {xs : List Int} {p left N b : Nat} {prev : Option Int} {va : Value} {out : List Int} {e : Ending} {w' : World} (h : oneRunI xs p left prev = none) (he : Bad e) : runR xs p left N b prev va out e w' := by
  unfold runR
  rw [h]
  exact he
theorem Rdr.grownN {w w' : World} {b p : Nat} {va : Value} {row : Option Nat} (h : Rdr w b va p) (hg : w.grownBy w' row) (hr : ∀ k, row = some k → b ≠ k) : Rdr w' b va p := by
  unfold Rdr at h ⊢
  rw [hg.block b (Array.getElem?_eq_some_iff.1 h).1 (fun e => hr b e.symm rfl), h]

/-- How the number that would go on with the row is told. -/
def PrevOf (out : List Int) (d0 : Int) (prev : Option Int) : Prop := (out = [] ∧ prev = none) ∨ (0 < out.length ∧ prev = some (nth out (out.length - 1) + d0))

theorem okV_next {k j : Nat} {v cur d : Int} (h : okV k v d = okV j cur d) (hj : 0 < j) (h1 : 0 ≤ cur) (h2 : cur ≤ 1152921504606846975) : okV k v d = okV (j - 1) (cur + d) d := by
  obtain ⟨j, rfl⟩ : ∃ j', j = j' + 1 := ⟨j - 1, by omega⟩
  rw [h]
  simp only [okV, Nat.add_sub_cancel]
  rw [decide_eq_true ⟨h1, h2⟩]
  simp
theorem valsF_next {j : Nat} {cur d : Int} {acc X : List Int} (h : acc ++ valsF j cur d = X) (hj : 0 < j) : (acc ++ [cur]) ++ valsF (j - 1) (cur + d) d = X := by
  obtain ⟨j, rfl⟩ : ∃ j', j = j' + 1 := ⟨j - 1, by omega⟩
  rw [← h]
  simp [valsF]

/-- All but block b, below block N, is as it was. -/
structure GrN (N b : Nat) (w w' : World) : Prop where
  os : w'.os = w.os
  tape : w'.tape = w.tape
  output : w'.output = w.output
  size : w.heap.size ≤ w'.heap.size
  block : ∀ i, i < N → i ≠ b → w'.heap[i]? = w.heap[i]?
theorem grN_of {N b : Nat} {w w' : World} (h : w.grownBy w' (some b)) (hN : N ≤ w.heap.size) : GrN N b w w' := ⟨h.os, h.tape, h.output, h.size, fun i hi hb => h.block i (by omega) (fun e => hb (by cases e; rfl))⟩
theorem GrN.row {N b : Nat} {w w1 w2 : World} {row : Option Nat} (h : GrN N b w w1) (k : w1.grownBy w2 row) (hN : N ≤ w.heap.size) (hr : ∀ g, row = some g → N ≤ g) : GrN N b w w2 :=
  ⟨k.os.trans h.os, k.tape.trans h.tape, k.output.trans h.output, Nat.le_trans h.size k.size, fun i hi hb => (k.block i (by have := h.size; omega) (fun e => by have := hr i e.symm; omega)).trans (h.block i hi hb)⟩
theorem GrN.out {b : Nat} {w w1 w2 : World} (h : w.grownBy w1 (some b)) (k : GrN w.heap.size b w1 w2) : w.grownBy w2 (some b) :=
  ⟨k.os.trans h.os, k.tape.trans h.tape, k.output.trans h.output, Nat.le_trans h.size k.size, fun i hi hb => (k.block i hi (fun e => hb (by rw [e]))).trans (h.block i hi hb)⟩

/-- What a run comes to, its amount known. -/
def RunF (xs : List Int) (p left k q : Nat) (prev : Option Int) (v dd : Int) : Prop :=
  (okV k v dd = false → oneRunI xs p left prev = none) ∧ (okV k v dd = true → ∃ d, oneRunI xs p left prev = some (v, k, d, q) ∧ valsF k v dd = valsF k v d ∧ (1 < k → dd = d))
theorem runF_one {xs : List Int} {p left k p1 p2 v : Nat} {prev : Option Int} {d0 : Int} (e1 : getL xs p = some ((v : Int), p1)) (e2 : getL xs p1 = some ((k : Int), p2)) (hk : k = 1) (hl : k ≤ left) (h1 : ¬ (k = 1 ∧ left ≠ 1)) (h2 : ¬ prev = some (v : Int)) : RunF xs p left k p2 prev v d0 := by
  subst hk
  by_cases hv : v ≤ 1152921504606846975
  · have ho := oneRun_y1 e1 e2 hl hv
    refine ⟨fun h => ?_, fun _ => ⟨0, oneRunI_good ho (by rintro (h | h); exact h1 h; exact h2 h), by simp [valsF], fun h => absurd h (by omega)⟩⟩
    simp only [okV, Bool.and_true, decide_eq_false_iff_not] at h
    omega
  · refine ⟨fun _ => oneRunI_none (oneRun_n3 e1 e2 (.inr (.inr (by omega)))), fun h => ?_⟩
    simp only [okV, Bool.and_true, decide_eq_true_eq] at h
    omega
theorem runF_more {xs : List Int} {p left k p1 p2 p3 v x : Nat} {prev : Option Int} (e1 : getL xs p = some ((v : Int), p1)) (e2 : getL xs p1 = some ((k : Int), p2)) (e3 : getL xs p2 = some ((x : Int), p3)) (hk : 1 < k) (hl : k ≤ left) (h2 : ¬ prev = some (v : Int)) : RunF xs p left k p3 prev v (unf x) := by
  by_cases hv : v ≤ 1152921504606846975
  · have ho := oneRun_y2 e1 e2 hk hl hv e3
    refine ⟨fun h => oneRunI_none (by rw [ho, if_neg (by rw [h]; decide)]), fun h => ⟨unf x, oneRunI_good (by rw [ho, if_pos h]) (by rintro (h | h); omega; exact h2 h), rfl, fun _ => rfl⟩⟩
  · refine ⟨fun _ => oneRunI_none (oneRun_n3 e1 e2 (.inr (.inr (by omega)))), fun h => ?_⟩
    obtain ⟨k, rfl⟩ : ∃ k', k = k' + 1 := ⟨k - 1, by omega⟩
    simp only [okV, Bool.and_eq_true, decide_eq_true_eq] at h
    omega

set_option maxHeartbeats 4000000 in
set_option maxRecDepth 100000 in
theorem run_any (C b p left N : Nat) (w : World) (va tl : Value) (xs out : List Int) (d0 : Int) (prev : Option Int) (hx : Bytes xs) (hl : xs.length ≤ 1048576) (hp : p ≤ xs.length) (hC : C ≤ b) (hb : b < N) (hN : N ≤ w.heap.size) (hle : out.length + left ≤ 4096)
    (hr : Rd C w va (xs.map (Value.int .u8))) (hR : Rdr w b va p) (ho : Own 3 w N tl (out.map (Value.int .i64))) (hok : runsOK out = true) (hd1 : -2305843009213693952 ≤ d0) (hd2 : d0 ≤ 2305843009213693952) (hprev : PrevOf out d0 prev) :
    Calls Tryz.prog 118 #[.pointer (some ⟨b, 0, none⟩), tl, .int .i64 d0, .int .i64 (left : Int)] w fun e w' => runR xs p left N b prev va out e w' ∧ GrN N b w w' := by
  obtain ⟨i0, hi, hz0, hz1, hz2⟩ := info_parts info3
  go_enter Tryz.func118, Tryz.ntmps118
  go_wp2_with fail
  refine (number_any C b p w va xs hx hl hp hC hr hR).mono ?_
  rintro e w1 ⟨hn, hg1⟩
  unfold numR at hn
  have hr1 := hr.grown hg1 (fun k hk => by cases hk; exact hC)
  have ho1 := ho.apart hg1 (fun k hk => by cases hk; exact hb)
  clear hR ho hr
  cases hG : getL xs p with
  | none =>
    rw [hG] at hn
    obtain ⟨hbad, q, hq, hR1⟩ := hn
    have HN : Hid (runR xs p left N b prev va out e w1) := runR_bad (oneRunI_none (oneRun_n1 hG)) hbad
    unfold Bad at hbad
    subst hbad
    exact ⟨rfl, HN.out, grN_of hg1 hN⟩
  | some z =>
    obtain ⟨v, p1⟩ := z
    rw [hG] at hn
    obtain ⟨rfl, hR1⟩ := hn
    have hok1 := getL_ok hx hG
    obtain ⟨v, rfl⟩ := Int.eq_ofNat_of_zero_le hok1.1
    have HG : Hid _ := hG
    clear hG
    go_wp2_with fail
    refine (number_any C b p1 w1 va xs hx hl hok1.2.2.2 hC hr1 hR1).mono ?_
    rintro e w2 ⟨hn, hg2⟩
    unfold numR at hn
    have hr2 := hr1.grown hg2 (fun k hk => by cases hk; exact hC)
    have ho2 := ho1.apart hg2 (fun k hk => by cases hk; exact hb)
    have hgw2 := grownBy_trans hg1 hg2
    clear hR1 ho1 hr1 hg1 hg2
    cases hG2 : getL xs p1 with
    | none =>
      rw [hG2] at hn
      obtain ⟨hbad, q, hq, hR2⟩ := hn
      have HN : Hid (runR xs p left N b prev va out e w2) := runR_bad (oneRunI_none (oneRun_n2 HG.out hG2)) hbad
      unfold Bad at hbad
      subst hbad
      exact ⟨rfl, HN.out, grN_of hgw2 hN⟩
    | some z =>
      obtain ⟨k, p2⟩ := z
      rw [hG2] at hn
      obtain ⟨rfl, hR2⟩ := hn
      have hok2 := getL_ok hx hG2
      obtain ⟨k, rfl⟩ := Int.eq_ofNat_of_zero_le hok2.1
      have HG2 : Hid _ := hG2
      clear hG2
      have hszw := hgw2.size
      by_cases hk1 : k < 1
      · have hki : ¬ 1 ≤ (k : Int) := by omega
        have HN : Hid (runR xs p left N b prev va out (.panicked [{ v := .iface 137 (.int .i64 3), recovered := false }]) w2) := runR_bad (oneRunI_none (oneRun_n3 HG.out HG2.out (.inl hk1))) rfl
        go_wp2_with (first | (go_at_call 101; refine (require_n _ _ _ (by first | rfl | (simp; done) | (simp; omega))).mono ?_; rintro e w' ⟨rfl, hw⟩; obtain rfl := hw.symm))
        exact ⟨rfl, HN.out, grN_of hgw2 hN⟩
      · have hki : 1 ≤ (k : Int) := by omega
        by_cases hkl : left < k
        · have hkli : ¬ (k : Int) ≤ (left : Int) := by omega
          have HN : Hid (runR xs p left N b prev va out (.panicked [{ v := .iface 137 (.int .i64 3), recovered := false }]) w2) := runR_bad (oneRunI_none (oneRun_n3 HG.out HG2.out (.inr (.inl hkl)))) rfl
          go_wp2_with (first | (go_at_call 101; refine (require_n _ _ _ (by first | rfl | (simp; done) | (simp; omega))).mono ?_; rintro e w' ⟨rfl, hw⟩; obtain rfl := hw.symm))
          exact ⟨rfl, HN.out, grN_of hgw2 hN⟩
        · have hkli : (k : Int) ≤ (left : Int) := by omega
          by_cases hk1l : k = 1 ∧ left ≠ 1
          · have hk1i : ¬ 1 < (k : Int) := by omega
            have hli : ((left : Int) == 1) = false := by simp; omega
            have HN : Hid (runR xs p left N b prev va out (.panicked [{ v := .iface 137 (.int .i64 3), recovered := false }]) w2) := runR_bad (oneRunI_bad HG.out HG2.out (.inl hk1l)) rfl
            clear hk1l
            go_wp2_with (first | (go_at_call 101; refine (require_y _ _ _ (by first | rfl | (simp; done) | (simp; omega))).mono ?_; rintro e w' ⟨rfl, hw⟩; obtain rfl := hw.symm) | (go_at_call 101; refine (require_n _ _ _ (by first | rfl | (simp; done) | (simp; omega))).mono ?_; rintro e w' ⟨rfl, hw⟩; obtain rfl := hw.symm))
            exact ⟨rfl, HN.out, grN_of hgw2 hN⟩
          · have hkor : (decide (1 < (k : Int)) || ((left : Int) == 1)) = true := by
              by_cases h : k = 1
              · have : left = 1 := by omega
                simp [this]
              · simp; omega
            have HKL : Hid _ := hk1l
            clear hk1l
            refine if hlast : out.length = 0 then ?lone else ?lmore
            case' lone =>
              have HPR : Hid (prev = none) := by
                rcases hprev with ⟨_, h⟩ | ⟨h, _⟩
                · exact h
                · omega
              have HPN : Hid (¬ prev = some (v : Int)) := by unfold Hid; rw [HPR.out]; simp
              clear HPR hprev
              obtain ⟨ao, cap, rfl, _⟩ := ho2.slice
              rw [List.length_map] at ho2 ⊢
              have hl0 : ¬ 0 < (out.length : Int) := by omega
              have HL : Hid _ := hlast
              clear hlast
              refine if hkk : k = 1 then ?ka else ?kb
              case' ka =>
                have hk1i : ¬ 1 < (k : Int) := by omega
                have HKK : Hid _ := hkk
                clear hkk
                go_wp2_with (first | (go_at_call 101; refine (require_y _ _ _ (by first | rfl | (simp; done) | (simp; omega))).mono ?_; rintro e w' ⟨rfl, hw⟩; obtain rfl := hw.symm))
              case' kb =>
                have hk1i : 1 < (k : Int) := by omega
                have HKK : Hid _ := hkk
                clear hkk
                go_wp2_with (first | (go_at_call 101; refine (require_y _ _ _ (by first | rfl | (simp; done) | (simp; omega))).mono ?_; rintro e w' ⟨rfl, hw⟩; obtain rfl := hw.symm))
            case' lmore =>
              obtain ⟨m, hm⟩ : ∃ m, out.length = m + 1 := ⟨out.length - 1, by omega⟩
              have hz := runsOK_nth hok m
              have HPR : Hid (prev = some (nth out m + d0)) := by
                rcases hprev with ⟨h, _⟩ | ⟨_, h⟩
                · rw [h] at hm; simp at hm
                · rw [h, hm]; rfl
              obtain ⟨g, cap, rfl, hg, hglt, hcs⟩ := ho2.some (by simp; omega)
              have c1 := hcs m (.int .i64 (nth out m)) (by simp [nth, hm])
              rw [Addr.add_lit, Nat.zero_add] at c1
              rw [List.length_map] at ho2 ⊢
              clear hcs hprev
              have hl0 : 0 < (out.length : Int) := by omega
              have hix : (out.length : Int) - 1 = (m : Int) := by omega
              have hi0 : (0 : Int) ≤ (m : Int) := by omega
              have hi1 : (m : Int) < (out.length : Int) := by omega
              have HM : Hid _ := hm
              clear hm hlast
              generalize nth out m = z at hz HPR c1
              refine if hvz : (v : Int) = z + d0 then ?vsame else ?vother
              case' vsame =>
                have hne : ((v : Int) != z + d0) = false := by simp [hvz]
                have HN : Hid (runR xs p left N b prev va out (.panicked [{ v := .iface 137 (.int .i64 3), recovered := false }]) w2) := runR_bad (oneRunI_bad HG.out HG2.out (.inr (by rw [HPR.out, hvz]))) rfl
                clear hvz
                go_wp2_with (first | (go_at_call 101; refine (require_y _ _ _ (by first | rfl | (simp; done) | (simp; omega))).mono ?_; rintro e w' ⟨rfl, hw⟩; obtain rfl := hw.symm) | (go_at_call 101; refine (require_n _ _ _ (by first | rfl | (simp; done) | (simp; omega))).mono ?_; rintro e w' ⟨rfl, hw⟩; obtain rfl := hw.symm))
                all_goals exact ⟨rfl, HN.out, grN_of hgw2 hN⟩
              case' vother =>
                have hne : ((v : Int) != z + d0) = true := by simp [hvz]
                have HPN : Hid (¬ prev = some (v : Int)) := by unfold Hid; rw [HPR.out]; simp; omega
                clear hvz
                refine if hkk : k = 1 then ?kc else ?kd
                case' kc =>
                  have hk1i : ¬ 1 < (k : Int) := by omega
                  have HKK : Hid _ := hkk
                  clear hkk
                  go_wp2_with (first | (go_at_call 101; refine (require_y _ _ _ (by first | rfl | (simp; done) | (simp; omega))).mono ?_; rintro e w' ⟨rfl, hw⟩; obtain rfl := hw.symm))
                case' kd =>
                  have hk1i : 1 < (k : Int) := by omega
                  have HKK : Hid _ := hkk
                  clear hkk
                  go_wp2_with (first | (go_at_call 101; refine (require_y _ _ _ (by first | rfl | (simp; done) | (simp; omega))).mono ?_; rintro e w' ⟨rfl, hw⟩; obtain rfl := hw.symm))
            case' ka =>
              have RF : Hid (RunF xs p left k p2 prev v d0) := runF_one HG.out HG2.out HKK.out (by omega) HKL.out HPN.out
              obtain ⟨dd, hdd⟩ : ∃ dd, dd = d0 := ⟨_, rfl⟩
              subst hdd
              obtain ⟨q, hdd⟩ : ∃ q, q = p2 := ⟨_, rfl⟩
              subst hdd
              obtain ⟨wL, hdd⟩ : ∃ wL, wL = w2 := ⟨_, rfl⟩
              subst hdd
            case' kc =>
              have RF : Hid (RunF xs p left k p2 prev v d0) := runF_one HG.out HG2.out HKK.out (by omega) HKL.out HPN.out
              obtain ⟨dd, hdd⟩ : ∃ dd, dd = d0 := ⟨_, rfl⟩
              subst hdd
              obtain ⟨q, hdd⟩ : ∃ q, q = p2 := ⟨_, rfl⟩
              subst hdd
              obtain ⟨wL, hdd⟩ : ∃ wL, wL = w2 := ⟨_, rfl⟩
              subst hdd
            case' kb =>
              refine (number_any C b p2 w2 va xs hx hl hok2.2.2.2 hC hr2 hR2).mono ?_
              rintro e wL ⟨hn, hg4⟩
              unfold numR at hn
              replace ho2 := ho2.apart hg4 (fun k hk => by cases hk; exact hb)
              replace hgw2 := grownBy_trans hgw2 hg4
              replace hszw := hgw2.size
              clear hR2 hr2 hg4
              rcases hG3 : getL xs p2 with _ | ⟨x, q⟩
              · rw [hG3] at hn
                obtain ⟨hbad, q, hq, hR3⟩ := hn
                have HN : Hid (runR xs p left N b prev va out e wL) := runR_bad (oneRunI_none (oneRun_n4 HG.out HG2.out (by omega) hG3)) hbad
                unfold Bad at hbad
                subst hbad
                exact ⟨rfl, HN.out, grN_of hgw2 hN⟩
              rw [hG3] at hn
              obtain ⟨rfl, hR2⟩ := hn
              have hok3 := getL_ok hx hG3
              obtain ⟨x, rfl⟩ := Int.eq_ofNat_of_zero_le hok3.1
              have RF : Hid (RunF xs p left k q prev v (unf x)) := runF_more HG.out HG2.out hG3 (by omega) (by omega) HPN.out
              have hub := unf_bd (x := (x : Int)) (by omega) (by omega)
              have hus := fun w => unfoldSign_any x (by omega) w
              clear hd1 hd2 hG3
              generalize unf (x : Int) = dd at RF hub hus
              have hd1 := hub.1
              have hd2 := hub.2
              clear hub
              go_wp2_with ((go_at_call 117; refine (hus _).mono ?_; rintro e w' ⟨rfl, hw⟩; obtain rfl := hw.symm))
              clear hus
            case' kd =>
              refine (number_any C b p2 w2 va xs hx hl hok2.2.2.2 hC hr2 hR2).mono ?_
              rintro e wL ⟨hn, hg4⟩
              unfold numR at hn
              replace ho2 := ho2.apart hg4 (fun k hk => by cases hk; exact hb)
              replace hgw2 := grownBy_trans hgw2 hg4
              replace hszw := hgw2.size
              clear hR2 hr2 hg4
              rcases hG3 : getL xs p2 with _ | ⟨x, q⟩
              · rw [hG3] at hn
                obtain ⟨hbad, q, hq, hR3⟩ := hn
                have HN : Hid (runR xs p left N b prev va out e wL) := runR_bad (oneRunI_none (oneRun_n4 HG.out HG2.out (by omega) hG3)) hbad
                unfold Bad at hbad
                subst hbad
                exact ⟨rfl, HN.out, grN_of hgw2 hN⟩
              rw [hG3] at hn
              obtain ⟨rfl, hR2⟩ := hn
              have hok3 := getL_ok hx hG3
              obtain ⟨x, rfl⟩ := Int.eq_ofNat_of_zero_le hok3.1
              have RF : Hid (RunF xs p left k q prev v (unf x)) := runF_more HG.out HG2.out hG3 (by omega) (by omega) HPN.out
              have hub := unf_bd (x := (x : Int)) (by omega) (by omega)
              have hus := fun w => unfoldSign_any x (by omega) w
              clear hd1 hd2 hG3
              generalize unf (x : Int) = dd at RF hub hus
              have hd1 := hub.1
              have hd2 := hub.2
              clear hub
              go_wp2_with ((go_at_call 117; refine (hus _).mono ?_; rintro e w' ⟨rfl, hw⟩; obtain rfl := hw.symm))
              clear hus
            all_goals
              clear HG HG2 HKK HKL HPN hkor
              repeat (rename ¬ 0 < out.length => hT; clear hT)
              repeat (rename 0 < out.length => hT; clear hT)
              repeat (rename (k : Int) ≤ 1 => hT; clear hT)
              clear hl0
              try clear hk1i
              go_loopw [1, 10, 54] (fun to tv ti wr => ∃ (i : Nat) (cur : Int) (acc : List Int), tv = .int .i64 cur ∧ ti = .int .i64 (i : Int) ∧ i ≤ k ∧ Rdr wr b va q ∧ Own 3 wr N to (acc.map (Value.int .i64)) ∧ acc.length = out.length + i ∧ Hid (acc ++ valsF (k - i) cur dd = out ++ valsF k v dd) ∧ Hid (okV k v dd = okV (k - i) cur dd) ∧ GrN N b w wr) (fun _ _ ti _ => k - (intOf ti).toNat)
              case atStart => exact ⟨0, v, out, rfl, rfl, Nat.zero_le _, hR2, ho2, rfl, rfl, rfl, grN_of hgw2 hN⟩
              case round =>
                clear hR2 ho2 hgw2
                obtain ⟨i, cur, acc, rfl, rfl, hile, hRj, howj, hlen, HV, HK, hgwj⟩ := hrel
                have hszj := hgwj.size
                by_cases hik : i = k
                · have hib : ¬ (i : Int) < (k : Int) := by omega
                  have HN : Hid (runR xs p left N b prev va out (.returned (.tuple #[u1, .int .i64 dd])) wr) := by
                    have h1 : acc = out ++ valsF k v dd := by have := HV.out; rw [hik, Nat.sub_self] at this; simpa [valsF] using this
                    have h2 : okV k v dd = true := by rw [HK.out, hik, Nat.sub_self]; rfl
                    obtain ⟨d, h3, h4, h5⟩ := RF.out.2 h2
                    unfold Hid runR
                    rw [h3]
                    exact ⟨u1, dd, rfl, by rw [← h4, ← h1]; exact howj, hRj, h5, hd1, hd2⟩
                  clear HV HK RF howj hRj
                  go_wp2_with fail
                  go_ret2
                  exact ⟨HN.out, hgwj⟩
                · have hib : (i : Int) < (k : Int) := by omega
                  by_cases hin : 0 ≤ cur ∧ cur ≤ 1152921504606846975
                  · have hc1 := hin.1
                    have hc2 := hin.2
                    have HR : Hid (((acc ++ [cur]) ++ valsF (k - (i + 1)) (cur + dd) dd = out ++ valsF k v dd) ∧ okV k v dd = okV (k - (i + 1)) (cur + dd) dd) := by
                      rw [show k - (i + 1) = k - i - 1 by omega]
                      exact ⟨valsF_next HV.out (by omega), okV_next HK.out (by omega) hc1 hc2⟩
                    have hbj : ∀ g, u1.ownBlock = some g → N ≤ g := howj.lt
                    have hcn : ∀ (j : Nat) (u : Value), [Value.int .i64 cur][j]? = some u → (wr.alloc (.cells #[.int .i64 cur] 3)).cell? ((⟨wr.heap.size, 0, none⟩ : Addr).add j) = some u := cell_one_new _ _ _
                    have hal : acc.length ≤ 4096 := by omega
                    clear HV HK hin
                    go_wp2_with (first | (go_at_call 90; refine (inRun_yes cur _ hc1 hc2).mono ?_; rintro e w' ⟨rfl, hw⟩; obtain rfl := hw.symm) | (go_at_call 101; refine (require_y _ _ _ (by first | rfl | (simp; done) | (simp; omega))).mono ?_; rintro e w' ⟨rfl, hw⟩; obtain rfl := hw.symm) | (at_builtin; refine wpList_append_own _ rfl _ _ 23 rfl N 3 i0 (.int .i64 0) 1 8 Tryz.underlying23 hi hz0 hz1 hz2 rfl (by decide) _ _ _ rfl (World.ownsRow.alloc howj _) ⟨wr.heap.size, 0, none⟩ 1 1 [.int .i64 cur] rfl rfl hcn (by simp [Value.oneCell']) (by simp [maxLen]; omega) (by simp; omega) (by simp; omega) ?_))
                    intro v6 w6 ho6 hg6 _
                    have hR6 := (hRj.grownN (World.grownBy_alloc wr (.cells #[.int .i64 cur] 3) none) (fun k hk => by cases hk)).grownN hg6 (fun k hk => by have := hbj k hk; omega)
                    have hg7 : GrN N b w w6 := (hgwj.row (World.grownBy_alloc wr (.cells #[.int .i64 cur] 3) none) hN (fun k hk => by cases hk)).row hg6 hN hbj
                    have ho7 : Own 3 w6 N v6 ((acc ++ [cur]).map (Value.int .i64)) := by simpa using own_of ho6
                    clear ho6 hg6 howj hRj hgwj hcn
                    go_wp2_with fail
                    go_roundw
                    case rel => exact ⟨i + 1, cur + dd, acc ++ [cur], rfl, by go_num, by omega, hR6, ho7, by simp; omega, HR.out.1, HR.out.2, hg7⟩
                    case measure => simp [intOf]; omega
                  · have HN : Hid (runR xs p left N b prev va out (.panicked [{ v := .iface 137 (.int .i64 3), recovered := false }]) wr) := by
                      refine runR_bad (RF.out.1 ?_) rfl
                      rw [HK.out]
                      obtain ⟨j, hj⟩ : ∃ j, k - i = j + 1 := ⟨k - i - 1, by omega⟩
                      rw [hj]
                      simp only [okV]
                      rw [decide_eq_false hin]
                      rfl
                    clear HV HK RF howj
                    go_wp2_with (first | (go_at_call 90; refine (inRun_no cur _ hin).mono ?_; rintro e w' ⟨rfl, hw⟩; obtain rfl := hw.symm) | (go_at_call 101; refine (require_n _ _ _ (by first | rfl | (simp; done) | (simp; omega))).mono ?_; rintro e w' ⟨rfl, hw⟩; obtain rfl := hw.symm))
                    exact ⟨rfl, HN.out, hgwj⟩
end Go.Proofs.YtmmkmkaannlkhaaGreatDoor

namespace Go.Proofs.YtmmkmkaannlkhaaGreatDoor
open Go.RowKit Go.Lib
set_option linter.unusedVariables false

/-- The numbers, with the code's own tests; and the place behind them. -/
def runsIL (xs : List Int) : Option (List Int × Nat) := match getL xs 0 with
  | none => none
  | some (n, p) => if 4096 < n then none else parseI xs n.toNat n.toNat p none
theorem getRunsI_of {xs T : List Int} {q : Nat} (h : runsIL xs = some (T, q)) : getRunsI xs = if q = xs.length then some T else none := by
  unfold runsIL at h
  unfold getRunsI
  cases hG : getL xs 0 with
  | none => rw [hG] at h; simp at h
  | some z =>
    obtain ⟨n, p⟩ := z
    rw [hG] at h
    simp only at h ⊢
    split at h
    · simp at h
    · rename_i h4
      rw [if_neg h4, h]
theorem getRunsI_none {xs : List Int} (h : runsIL xs = none) : getRunsI xs = none := by
  unfold runsIL at h
  unfold getRunsI
  cases hG : getL xs 0 with
  | none => rfl
  | some z =>
    obtain ⟨n, p⟩ := z
    rw [hG] at h
    simp only at h ⊢
    split at h
    · rename_i h4; rw [if_pos h4]
    · rename_i h4; rw [if_neg h4, h]
theorem addI_end {xs out : List Int} {f p : Nat} {prev : Option Int} : addTo out (parseI xs f 0 p prev) = some (out, p) := by
  cases f <;> simp [parseI, addTo]
theorem addI_none {xs out : List Int} {f left p : Nat} {prev : Option Int} (h0 : 0 < left) (h : oneRunI xs p left prev = none) : addTo out (parseI xs f left p prev) = none := by
  cases f with
  | zero => simp only [parseI]; rw [if_neg (by omega)]; rfl
  | succ f => simp only [parseI]; rw [if_neg (by omega), h]; rfl
theorem addI_some {xs out : List Int} {f left p k q : Nat} {v d : Int} {prev : Option Int} (h0 : 0 < left) (hf : left ≤ f) (hk : 1 ≤ k) (h : oneRunI xs p left prev = some (v, k, d, q)) :
    ∃ f', left - k ≤ f' ∧ addTo out (parseI xs f left p prev) = addTo (out ++ valsF k v d) (parseI xs f' (left - k) q (some (v + (k : Int) * d))) := by
  obtain ⟨f, rfl⟩ : ∃ f', f = f' + 1 := ⟨f - 1, by omega⟩
  refine ⟨f, by omega, ?_⟩
  simp only [parseI]
  rw [if_neg (by omega), h]
  simp only
  cases parseI xs f (left - k) q (some (v + (k : Int) * d)) with
  | none => rfl
  | some z => simp [addTo]
theorem oneRunI_is {xs : List Int} {p left k q : Nat} {v d : Int} {prev : Option Int} (h : oneRunI xs p left prev = some (v, k, d, q)) : oneRun xs p left = some (v, k, d, q) ∧ ¬ (k = 1 ∧ left ≠ 1) := by
  unfold oneRunI at h
  cases ho : oneRun xs p left with
  | none => rw [ho] at h; simp at h
  | some z =>
    obtain ⟨v', k', d', q'⟩ := z
    rw [ho] at h
    simp only at h
    split at h
    · simp at h
    · rename_i hb
      simp only [Option.some.injEq, Prod.mk.injEq] at h
      obtain ⟨rfl, rfl, rfl, rfl⟩ := h
      exact ⟨rfl, fun h => hb (.inl h)⟩
theorem prev_next {out : List Int} {k : Nat} {v d : Int} (hk : 1 ≤ k) : PrevOf (out ++ valsF k v d) d (some (v + (k : Int) * d)) := by
  have hl : (out ++ valsF k v d).length = out.length + k := by rw [List.length_append, valsF_len]
  refine .inr ⟨by omega, ?_⟩
  rw [hl, show out.length + k - 1 = out.length + (k - 1) by omega, nth_app, ← List.append_nil (valsF k v d), valsF_nth k v d [] (k - 1) (by omega)]
  congr 1
  have : ((k - 1 : Nat) : Int) = (k : Int) - 1 := by omega
  rw [this, Int.sub_mul, Int.one_mul]
  omega

/-- What runs answers, and where the reader stands behind it. -/
def runsR (xs : List Int) (b : Nat) (va : Value) (N : Nat) (e : Ending) (w' : World) : Prop := match runsIL xs with
  | some (out, p) => ∃ r, e = .returned r ∧ Own 3 w' N r (out.map (Value.int .i64)) ∧ out.length ≤ 4096 ∧ p ≤ xs.length ∧ Rdr w' b va p
  | none => Bad e
theorem runsR_bad {xs : List Int} {b : Nat} {va : Value} {N : Nat} {e : Ending} {w' : World} (h : runsIL xs = none) (he : Bad e) : runsR xs b va N e w' := by
  unfold runsR
  rw [h]
  exact he

set_option maxHeartbeats 4000000 in
set_option maxRecDepth 100000 in
theorem runs_any (C b : Nat) (w : World) (va : Value) (xs : List Int) (hx : Bytes xs) (hl : xs.length ≤ 1048576) (hC : C ≤ b) (hb : b < w.heap.size) (hr : Rd C w va (xs.map (Value.int .u8))) (hR : Rdr w b va 0) :
    Calls Tryz.prog 113 #[.pointer (some ⟨b, 0, none⟩)] w fun e w' => runsR xs b va w.heap.size e w' ∧ w.grownBy w' (some b) := by
  obtain ⟨i0, hi, hz0, hz1, hz2⟩ := info_parts info3
  go_enter Tryz.func113, Tryz.ntmps113
  go_wp2_with fail
  refine (number_any C b 0 w va xs hx hl (Nat.zero_le _) hC hr hR).mono ?_
  rintro e w1 ⟨hn, hg1⟩
  unfold numR at hn
  cases hG : getL xs 0 with
  | none =>
    rw [hG] at hn
    obtain ⟨hbad, q, hq, hR1⟩ := hn
    have HN : Hid (runsR xs b va w.heap.size e w1) := runsR_bad (by unfold runsIL; rw [hG]) hbad
    unfold Bad at hbad
    subst hbad
    exact ⟨rfl, HN.out, hg1⟩
  | some z =>
    obtain ⟨n, p⟩ := z
    rw [hG] at hn
    obtain ⟨rfl, hR1⟩ := hn
    have hok := getL_ok hx hG
    obtain ⟨n, rfl⟩ := Int.eq_ofNat_of_zero_le hok.1
    by_cases h4 : 4096 < n
    · have HN : Hid (runsR xs b va w.heap.size (.panicked [{ v := .iface 137 (.int .i64 3), recovered := false }]) w1) := runsR_bad (by unfold runsIL; rw [hG]; simp only; rw [if_pos (by omega)]) rfl
      clear hG
      go_wp2_with (first | (go_at_call 101; refine (require_n _ _ _ (by first | rfl | (simp; done) | (simp; omega))).mono ?_; rintro e w' ⟨rfl, hw⟩; obtain rfl := hw.symm))
      exact ⟨rfl, HN.out, hg1⟩
    · have HT : Hid (∃ f, n - ([] : List Int).length ≤ f ∧ runsIL xs = addTo [] (parseI xs f (n - ([] : List Int).length) p none)) := by
        refine ⟨n, by simp, ?_⟩
        unfold runsIL
        rw [hG]
        simp only
        rw [if_neg (by omega), Int.toNat_natCast]
        simp only [List.length_nil, Nat.sub_zero]
        cases parseI xs n n p none with
        | none => rfl
        | some z => rfl
      clear hG
      have hsz1 := hg1.size
      go_wp2_with (first | (go_at_call 101; refine (require_y _ _ _ (by first | rfl | (simp; done) | (simp; omega))).mono ?_; rintro e w' ⟨rfl, hw⟩; obtain rfl := hw.symm) | (at_make; refine wpList_make_own _ rfl _ _ 23 rfl w.heap.size 3 i0 (.int .i64 0) 1 Tryz.underlying23 hi hz0 hz1 _ _ _ n rfl rfl rfl (by rw [hz2]; omega) (by unfold maxLen; omega) (by omega) ?_))
      intro w2 ho2 hg2
      have how2 : Own 3 w2 w.heap.size (.slice (some ⟨w1.heap.size, 0, none⟩) 0 n) [] := ho2
      have hR2 : Rdr w2 b va p := by
        unfold Rdr at hR1 ⊢
        rw [hg2.block b (Array.getElem?_eq_some_iff.1 hR1).1 (by simp), hR1]
      have hgw2 : w.grownBy w2 (some b) := grownBy_own hg1 hg2 (fun k hk => by cases hk)
      clear ho2 hg2 hR1 hg1
      go_wp2_with fail
      go_loopw [4, 5] (fun tl ts wr => ∃ (p : Nat) (step : Int) (out : List Int) (prev : Option Int), ts = .int .i64 step ∧ -2305843009213693952 ≤ step ∧ step ≤ 2305843009213693952 ∧ Rdr wr b va p ∧ p ≤ xs.length ∧ Own 3 wr w.heap.size tl (out.map (Value.int .i64)) ∧ out.length ≤ n ∧ runsOK out = true ∧ (PrevOf out step prev ∨ n - out.length = 0) ∧ Hid (∃ f, n - out.length ≤ f ∧ runsIL xs = addTo out (parseI xs f (n - out.length) p prev)) ∧ w.grownBy wr (some b)) (fun tl _ _ => n - lenOf tl)
      case atStart => exact ⟨p, 0, [], none, rfl, by omega, by omega, hR2, hok.2.2.2, how2, Nat.zero_le _, rfl, .inl (.inl ⟨rfl, rfl⟩), HT, hgw2⟩
      case round =>
        clear hR2 how2 HT hgw2 hR
        obtain ⟨p, step, out, prev, rfl, hs1, hs2, hR, hp, how, hol, hook, hprev, HT, hgw⟩ := hrel
        have hszw := hgw.size
        obtain ⟨ao, cap, rfl, _⟩ := how.slice
        rw [List.length_map] at how ⊢
        by_cases hkn : out.length = n
        · have hki : ¬ (out.length : Int) < (n : Int) := by omega
          have hkd : decide ((out.length : Int) < (n : Int)) = false := by simpa using hki
          have HT2 : Hid (runsIL xs = some (out, p)) := by
            obtain ⟨f, _, h⟩ := HT.out
            unfold Hid
            rw [h, hkn, Nat.sub_self, addI_end]
          have HN : Hid (runsR xs b va w.heap.size (.returned (.slice ao out.length cap)) wr) := by
            unfold Hid runsR
            rw [HT2.out]
            exact ⟨_, rfl, how, by omega, hp, hR⟩
          clear HT hkn hprev
          go_wp2_with fail
          go_ret
          exact ⟨HN.out, hgw⟩
        · have hki : (out.length : Int) < (n : Int) := by omega
          have hrr : Rd C wr va _ := hr.grown hgw (fun k hk => by cases hk; exact hC)
          have hsub : (n : Int) - (out.length : Int) = ((n - out.length : Nat) : Int) := by omega
          have hpo : PrevOf out step prev := by
            rcases hprev with h | h
            · exact h
            · omega
          clear hprev
          have hrun := run_any C b p (n - out.length) w.heap.size wr va (.slice ao out.length cap) xs out step prev hx hl hp hC hb hszw (by omega) hrr hR how hook hs1 hs2 hpo
          clear hrr hR how hpo
          go_wp2_with fail
          refine hrun.mono ?_
          rintro e w3 ⟨hn, hg3⟩
          have hgw3 := GrN.out hgw hg3
          unfold runR at hn
          clear hgw hg3 hrun
          cases hO : oneRunI xs p (n - out.length) prev with
          | none =>
            rw [hO] at hn
            have HN : Hid (runsR xs b va w.heap.size e w3) := runsR_bad (by obtain ⟨f, _, h⟩ := HT.out; rw [h, addI_none (by omega) hO]) hn
            unfold Bad at hn
            subst hn
            exact ⟨rfl, HN.out, hgw3⟩
          | some z =>
            obtain ⟨v, k, d, q⟩ := z
            rw [hO] at hn
            obtain ⟨r, d', rfl, ho3, hR3, hdd, hd1, hd2⟩ := hn
            obtain ⟨hone, hk1⟩ := oneRunI_is hO
            have hoo := oneRun_ok hx hone
            have hlen3 : (out ++ valsF k v d).length = out.length + k := by rw [List.length_append, valsF_len]
            have hprev3 : PrevOf (out ++ valsF k v d) d' (some (v + (k : Int) * d)) ∨ n - (out ++ valsF k v d).length = 0 := by
              by_cases h1 : 1 < k
              · rw [hdd h1]
                exact .inl (prev_next hoo.1)
              · right
                have := hoo.1
                have := hoo.2.1
                omega
            have hrok : runsOK (out ++ valsF k v d) = true := runsOK_app hook (okV_all _ _ _ hoo.2.2.2.1)
            have HT3 : Hid (∃ f, n - (out ++ valsF k v d).length ≤ f ∧ runsIL xs = addTo (out ++ valsF k v d) (parseI xs f (n - (out ++ valsF k v d).length) q (some (v + (k : Int) * d)))) := by
              obtain ⟨f, hf, h⟩ := HT.out
              obtain ⟨f', hf', h'⟩ := addI_some (out := out) (by omega) hf hoo.1 hO
              refine ⟨f', by omega, ?_⟩
              rw [h, h', hlen3, Nat.sub_add_eq]
            have hq := hoo.2.2.1
            have hkl := hoo.2.1
            have hkp := hoo.1
            clear hO HT hone hoo hdd hk1 hook
            generalize out ++ valsF k v d = out3 at *
            obtain ⟨ao3, cap3, rfl, _⟩ := ho3.slice
            rw [List.length_map] at ho3 ⊢
            have hle3 : out3.length ≤ n := by omega
            have HM : Hid (n - out3.length < n - out.length) := by unfold Hid; omega
            clear hlen3
            go_wp2_with fail
            go_roundw
            case rel => exact ⟨q, d', out3, _, rfl, hd1, hd2, hR3, hq, ho3, hle3, hrok, hprev3, HT3, hgw3⟩
            case measure => simpa [lenOf] using HM.out
end Go.Proofs.YtmmkmkaannlkhaaGreatDoor

namespace Go.Proofs.YtmmkmkaannlkhaaGreatDoor
open Go.RowKit Go.Lib
set_option linter.unusedVariables false

/-- The numbers, with the code's own tests; and the place behind them. -/
def runsILP (xs : List Int) (p0 : Nat) : Option (List Int × Nat) := match getL xs p0 with
  | none => none
  | some (n, p) => if 4096 < n then none else parseI xs n.toNat n.toNat p none
/-- What runs answers, and where the reader stands behind it. -/
def runsRP (xs : List Int) (p0 : Nat) (b : Nat) (va : Value) (N : Nat) (e : Ending) (w' : World) : Prop := match runsILP xs p0 with
  | some (out, p) => ∃ r, e = .returned r ∧ Own 3 w' N r (out.map (Value.int .i64)) ∧ out.length ≤ 4096 ∧ p ≤ xs.length ∧ Rdr w' b va p
  | none => Bad e
theorem runsR_badP {xs : List Int} {p0 : Nat} {b : Nat} {va : Value} {N : Nat} {e : Ending} {w' : World} (h : runsILP xs p0 = none) (he : Bad e) : runsRP xs p0 b va N e w' := by
  unfold runsRP
  rw [h]
  exact he
set_option maxHeartbeats 4000000 in
set_option maxRecDepth 100000 in
theorem runsP_any (C b : Nat) (w : World) (va : Value) (xs : List Int) (p0 : Nat) (hx : Bytes xs) (hl : xs.length ≤ 1048576) (hp0 : p0 ≤ xs.length) (hC : C ≤ b) (hb : b < w.heap.size) (hr : Rd C w va (xs.map (Value.int .u8))) (hR : Rdr w b va p0) :
    Calls Tryz.prog 113 #[.pointer (some ⟨b, 0, none⟩)] w fun e w' => runsRP xs p0 b va w.heap.size e w' ∧ w.grownBy w' (some b) := by
  obtain ⟨i0, hi, hz0, hz1, hz2⟩ := info_parts info3
  go_enter Tryz.func113, Tryz.ntmps113
  go_wp2_with fail
  refine (number_any C b p0 w va xs hx hl hp0 hC hr hR).mono ?_
  rintro e w1 ⟨hn, hg1⟩
  unfold numR at hn
  cases hG : getL xs p0 with
  | none =>
    rw [hG] at hn
    obtain ⟨hbad, q, hq, hR1⟩ := hn
    have HN : Hid (runsRP xs p0 b va w.heap.size e w1) := runsR_badP (by unfold runsILP; rw [hG]) hbad
    unfold Bad at hbad
    subst hbad
    exact ⟨rfl, HN.out, hg1⟩
  | some z =>
    obtain ⟨n, p⟩ := z
    rw [hG] at hn
    obtain ⟨rfl, hR1⟩ := hn
    have hok := getL_ok hx hG
    obtain ⟨n, rfl⟩ := Int.eq_ofNat_of_zero_le hok.1
    by_cases h4 : 4096 < n
    · have HN : Hid (runsRP xs p0 b va w.heap.size (.panicked [{ v := .iface 137 (.int .i64 3), recovered := false }]) w1) := runsR_badP (by unfold runsILP; rw [hG]; simp only; rw [if_pos (by omega)]) rfl
      clear hG
      go_wp2_with (first | (go_at_call 101; refine (require_n _ _ _ (by first | rfl | (simp; done) | (simp; omega))).mono ?_; rintro e w' ⟨rfl, hw⟩; obtain rfl := hw.symm))
      exact ⟨rfl, HN.out, hg1⟩
    · have HT : Hid (∃ f, n - ([] : List Int).length ≤ f ∧ runsILP xs p0 = addTo [] (parseI xs f (n - ([] : List Int).length) p none)) := by
        refine ⟨n, by simp, ?_⟩
        unfold runsILP
        rw [hG]
        simp only
        rw [if_neg (by omega), Int.toNat_natCast]
        simp only [List.length_nil, Nat.sub_zero]
        cases parseI xs n n p none with
        | none => rfl
        | some z => rfl
      clear hG
      have hsz1 := hg1.size
      go_wp2_with (first | (go_at_call 101; refine (require_y _ _ _ (by first | rfl | (simp; done) | (simp; omega))).mono ?_; rintro e w' ⟨rfl, hw⟩; obtain rfl := hw.symm) | (at_make; refine wpList_make_own _ rfl _ _ 23 rfl w.heap.size 3 i0 (.int .i64 0) 1 Tryz.underlying23 hi hz0 hz1 _ _ _ n rfl rfl rfl (by rw [hz2]; omega) (by unfold maxLen; omega) (by omega) ?_))
      intro w2 ho2 hg2
      have how2 : Own 3 w2 w.heap.size (.slice (some ⟨w1.heap.size, 0, none⟩) 0 n) [] := ho2
      have hR2 : Rdr w2 b va p := by
        unfold Rdr at hR1 ⊢
        rw [hg2.block b (Array.getElem?_eq_some_iff.1 hR1).1 (by simp), hR1]
      have hgw2 : w.grownBy w2 (some b) := grownBy_own hg1 hg2 (fun k hk => by cases hk)
      clear ho2 hg2 hR1 hg1
      go_wp2_with fail
      go_loopw [4, 5] (fun tl ts wr => ∃ (p : Nat) (step : Int) (out : List Int) (prev : Option Int), ts = .int .i64 step ∧ -2305843009213693952 ≤ step ∧ step ≤ 2305843009213693952 ∧ Rdr wr b va p ∧ p ≤ xs.length ∧ Own 3 wr w.heap.size tl (out.map (Value.int .i64)) ∧ out.length ≤ n ∧ runsOK out = true ∧ (PrevOf out step prev ∨ n - out.length = 0) ∧ Hid (∃ f, n - out.length ≤ f ∧ runsILP xs p0 = addTo out (parseI xs f (n - out.length) p prev)) ∧ w.grownBy wr (some b)) (fun tl _ _ => n - lenOf tl)
      case atStart => exact ⟨p, 0, [], none, rfl, by omega, by omega, hR2, hok.2.2.2, how2, Nat.zero_le _, rfl, .inl (.inl ⟨rfl, rfl⟩), HT, hgw2⟩
      case round =>
        clear hR2 how2 HT hgw2 hR
        obtain ⟨p, step, out, prev, rfl, hs1, hs2, hR, hp, how, hol, hook, hprev, HT, hgw⟩ := hrel
        have hszw := hgw.size
        obtain ⟨ao, cap, rfl, _⟩ := how.slice
        rw [List.length_map] at how ⊢
        by_cases hkn : out.length = n
        · have hki : ¬ (out.length : Int) < (n : Int) := by omega
          have hkd : decide ((out.length : Int) < (n : Int)) = false := by simpa using hki
          have HT2 : Hid (runsILP xs p0 = some (out, p)) := by
            obtain ⟨f, _, h⟩ := HT.out
            unfold Hid
            rw [h, hkn, Nat.sub_self, addI_end]
          have HN : Hid (runsRP xs p0 b va w.heap.size (.returned (.slice ao out.length cap)) wr) := by
            unfold Hid runsRP
            rw [HT2.out]
            exact ⟨_, rfl, how, by omega, hp, hR⟩
          clear HT hkn hprev
          go_wp2_with fail
          go_ret
          exact ⟨HN.out, hgw⟩
        · have hki : (out.length : Int) < (n : Int) := by omega
          have hrr : Rd C wr va _ := hr.grown hgw (fun k hk => by cases hk; exact hC)
          have hsub : (n : Int) - (out.length : Int) = ((n - out.length : Nat) : Int) := by omega
          have hpo : PrevOf out step prev := by
            rcases hprev with h | h
            · exact h
            · omega
          clear hprev
          have hrun := run_any C b p (n - out.length) w.heap.size wr va (.slice ao out.length cap) xs out step prev hx hl hp hC hb hszw (by omega) hrr hR how hook hs1 hs2 hpo
          clear hrr hR how hpo
          go_wp2_with fail
          refine hrun.mono ?_
          rintro e w3 ⟨hn, hg3⟩
          have hgw3 := GrN.out hgw hg3
          unfold runR at hn
          clear hgw hg3 hrun
          cases hO : oneRunI xs p (n - out.length) prev with
          | none =>
            rw [hO] at hn
            have HN : Hid (runsRP xs p0 b va w.heap.size e w3) := runsR_badP (by obtain ⟨f, _, h⟩ := HT.out; rw [h, addI_none (by omega) hO]) hn
            unfold Bad at hn
            subst hn
            exact ⟨rfl, HN.out, hgw3⟩
          | some z =>
            obtain ⟨v, k, d, q⟩ := z
            rw [hO] at hn
            obtain ⟨r, d', rfl, ho3, hR3, hdd, hd1, hd2⟩ := hn
            obtain ⟨hone, hk1⟩ := oneRunI_is hO
            have hoo := oneRun_ok hx hone
            have hlen3 : (out ++ valsF k v d).length = out.length + k := by rw [List.length_append, valsF_len]
            have hprev3 : PrevOf (out ++ valsF k v d) d' (some (v + (k : Int) * d)) ∨ n - (out ++ valsF k v d).length = 0 := by
              by_cases h1 : 1 < k
              · rw [hdd h1]
                exact .inl (prev_next hoo.1)
              · right
                have := hoo.1
                have := hoo.2.1
                omega
            have hrok : runsOK (out ++ valsF k v d) = true := runsOK_app hook (okV_all _ _ _ hoo.2.2.2.1)
            have HT3 : Hid (∃ f, n - (out ++ valsF k v d).length ≤ f ∧ runsILP xs p0 = addTo (out ++ valsF k v d) (parseI xs f (n - (out ++ valsF k v d).length) q (some (v + (k : Int) * d)))) := by
              obtain ⟨f, hf, h⟩ := HT.out
              obtain ⟨f', hf', h'⟩ := addI_some (out := out) (by omega) hf hoo.1 hO
              refine ⟨f', by omega, ?_⟩
              rw [h, h', hlen3, Nat.sub_add_eq]
            have hq := hoo.2.2.1
            have hkl := hoo.2.1
            have hkp := hoo.1
            clear hO HT hone hoo hdd hk1 hook
            generalize out ++ valsF k v d = out3 at *
            obtain ⟨ao3, cap3, rfl, _⟩ := ho3.slice
            rw [List.length_map] at ho3 ⊢
            have hle3 : out3.length ≤ n := by omega
            have HM : Hid (n - out3.length < n - out.length) := by unfold Hid; omega
            clear hlen3
            go_wp2_with fail
            go_roundw
            case rel => exact ⟨q, d', out3, _, rfl, hd1, hd2, hR3, hq, ho3, hle3, hrok, hprev3, HT3, hgw3⟩
            case measure => simpa [lenOf] using HM.out
/-- What texts answers, and where the reader stands behind it. -/
def textsRP (xs : List Int) (p0 : Nat) (b : Nat) (va : Value) (N : Nat) (e : Ending) (w' : World) : Prop := match textsLP xs p0 with
  | some (out, p) => ∃ r, e = .returned r ∧ Own 9 w' N r (out.map Value.string) ∧ out.length ≤ 4096 ∧ p ≤ xs.length ∧ Rdr w' b va p
  | none => Bad e
theorem textsR_badP {xs : List Int} {p0 : Nat} {b : Nat} {va : Value} {N : Nat} {e : Ending} {w' : World} (h : textsLP xs p0 = none) (he : Bad e) : textsRP xs p0 b va N e w' := by
  unfold textsRP
  rw [h]
  exact he
set_option maxHeartbeats 4000000 in
set_option maxRecDepth 100000 in
theorem textsP_any (C b : Nat) (w : World) (va : Value) (xs : List Int) (p0 : Nat) (hx : Bytes xs) (hl : xs.length ≤ 1048576) (hp0 : p0 ≤ xs.length) (hC : C ≤ b) (hb : b < w.heap.size) (hr : Rd C w va (xs.map (Value.int .u8))) (hR : Rdr w b va p0) :
    Calls Tryz.prog 116 #[.pointer (some ⟨b, 0, none⟩)] w fun e w' => textsRP xs p0 b va w.heap.size e w' ∧ w.grownBy w' (some b) := by
  obtain ⟨i0, hi, hz0, hz1, hz2⟩ := info_parts info9
  go_enter Tryz.func116, Tryz.ntmps116
  go_wp2_with fail
  refine (number_any C b p0 w va xs hx hl hp0 hC hr hR).mono ?_
  rintro e w1 ⟨hn, hg1⟩
  unfold numR at hn
  cases hG : getL xs p0 with
  | none =>
    rw [hG] at hn
    obtain ⟨hbad, q, hq, hR1⟩ := hn
    have HN : Hid (textsRP xs p0 b va w.heap.size e w1) := textsR_badP (by unfold textsLP; rw [hG]) hbad
    unfold Bad at hbad
    subst hbad
    exact ⟨rfl, HN.out, hg1⟩
  | some z =>
    obtain ⟨n, p⟩ := z
    rw [hG] at hn
    obtain ⟨rfl, hR1⟩ := hn
    have hok := getL_ok hx hG
    obtain ⟨n, rfl⟩ := Int.eq_ofNat_of_zero_le hok.1
    by_cases h4 : 4096 < n
    · have HN : Hid (textsRP xs p0 b va w.heap.size (.panicked [{ v := .iface 137 (.int .i64 3), recovered := false }]) w1) := textsR_badP (by unfold textsLP; rw [hG]; simp only; rw [if_pos (by omega)]) rfl
      clear hG
      go_wp2_with (first | (go_at_call 101; refine (require_n _ _ _ (by first | rfl | (simp; done) | (simp; omega))).mono ?_; rintro e w' ⟨rfl, hw⟩; obtain rfl := hw.symm))
      exact ⟨rfl, HN.out, hg1⟩
    · have HT : Hid (textsLP xs p0 = textsF xs n p ByteArray.empty 0 []) := by
        unfold Hid textsLP
        rw [hG]
        simp only
        rw [if_neg (by omega), Int.toNat_natCast]
      clear hG
      have hsz1 := hg1.size
      go_wp2_with (first | (go_at_call 101; refine (require_y _ _ _ (by first | rfl | (simp; done) | (simp; omega))).mono ?_; rintro e w' ⟨rfl, hw⟩; obtain rfl := hw.symm) | (at_make; refine wpList_make_own _ rfl _ _ 84 rfl w.heap.size 9 i0 (.string ByteArray.empty) 1 Tryz.underlying84 hi hz0 hz1 _ _ _ n rfl rfl rfl (by rw [hz2]; omega) (by unfold maxLen; omega) (by omega) ?_))
      intro w2 ho2 hg2
      have how2 : Own 9 w2 w.heap.size (.slice (some ⟨w1.heap.size, 0, none⟩) 0 n) [] := ho2
      have hR2 : Rdr w2 b va p := by
        unfold Rdr at hR1 ⊢
        rw [hg2.block b (Array.getElem?_eq_some_iff.1 hR1).1 (by simp), hR1]
      have hgw2 : w.grownBy w2 (some b) := grownBy_own hg1 hg2 (fun k hk => by cases hk)
      clear ho2 hg2 hR1 hg1
      go_wp2_with fail
      go_loopw [4, 5, 6, 16] (fun tl ta tr tk wr => ∃ (k p all : Nat) (last : ByteArray) (out : List ByteArray), tk = .int .i64 (k : Int) ∧ k ≤ n ∧ ta = .string last ∧ tr = .int .i64 (1048576 - (all : Int)) ∧ Rdr wr b va p ∧ p ≤ xs.length ∧ all ≤ 1048576 ∧ last.size ≤ 1048576 ∧ Own 9 wr w.heap.size tl (out.map Value.string) ∧ out.length = k ∧ Hid (textsLP xs p0 = textsF xs (n - k) p last all out) ∧ w.grownBy wr (some b)) (fun _ _ _ tk _ => n - (intOf tk).toNat)
      case atStart => exact ⟨0, p, 0, ByteArray.empty, [], rfl, Nat.zero_le _, rfl, rfl, hR2, hok.2.2.2, by omega, by simp, how2, rfl, HT, hgw2⟩
      case round =>
        clear hR2 how2 HT hgw2 hR
        obtain ⟨k, p, all, last, out, rfl, hk, rfl, rfl, hR, hp, hall, hla, how, hol, HT, hgw⟩ := hrel
        have hszw := hgw.size
        by_cases hkn : k = n
        · have HT2 : Hid (textsLP xs p0 = some (out, p)) := by
            unfold Hid
            rw [HT.out, hkn, Nat.sub_self]
            rfl
          clear HT
          have HN : Hid (textsRP xs p0 b va w.heap.size (.returned u4) wr) := by
            unfold Hid textsRP
            rw [HT2.out]
            exact ⟨_, rfl, how, by omega, hp, hR⟩
          go_wp2_with fail
          go_ret
          exact ⟨HN.out, hgw⟩
        · have hki : (k : Int) < (n : Int) := by omega
          have hrr : Rd C wr va _ := hr.grown hgw (fun k hk => by cases hk; exact hC)
          obtain ⟨j, hj⟩ : ∃ j, n - k = j + 1 := ⟨n - k - 1, by omega⟩
          rw [hj] at HT
          have hjk : n - (k + 1) = j := by omega
          clear hj
          go_wp2_with fail
          refine (text_any C b p wr va xs last all hx hl hp hla hall hC hrr hR).mono ?_
          rintro e w3 ⟨hn, hg3⟩
          unfold textR at hn
          have hgw3 := grownBy_trans hgw hg3
          have how3 := how.apart hg3 (fun k hk => by cases hk; exact hb)
          have hsz3 := hgw3.size
          clear hgw how hg3 hR hrr
          cases hO : oneText xs p last all with
          | none =>
            rw [hO] at hn
            obtain ⟨hbad, q, hq, hR3⟩ := hn
            have HN : Hid (textsRP xs p0 b va w.heap.size e w3) := textsR_badP (by rw [HT.out, textsF_none hO]) hbad
            unfold Bad at hbad
            subst hbad
            exact ⟨rfl, HN.out, hgw3⟩
          | some z =>
            obtain ⟨t, q⟩ := z
            rw [hO] at hn
            obtain ⟨rfl, hR3, hq, hts⟩ := hn
            have HT3 : Hid (textsLP xs p0 = textsF xs (n - (k + 1)) q t (all + t.size) (out ++ [t])) := by
              unfold Hid
              rw [HT.out, textsF_some hO, hjk]
            clear hO HT hjk
            go_wp2_with (at_builtin; refine wpList_append_own _ rfl _ _ 84 rfl w.heap.size 9 i0 (.string ByteArray.empty) 1 16 Tryz.underlying84 hi hz0 hz1 hz2 rfl (by decide) _ _ _ rfl (World.ownsRow.alloc how3 _) ⟨w3.heap.size, 0, none⟩ 1 1 [.string t] rfl rfl (cell_one_new _ _ _) (by simp [Value.oneCell']) (by simp [maxLen]; omega) (by simp; omega) (by simp; omega) ?_)
            intro v6 w6 ho6 hg6 _
            have hb5 := how3.lt
            have how6 : Own 9 w6 w.heap.size v6 ((out ++ [t]).map Value.string) := by simpa using own_of ho6
            have hR6 : Rdr w6 b va q := by
              unfold Rdr at hR3 ⊢
              rw [hg6.block b (by simp; omega) (fun e => by have := hb5 b e.symm; omega), Below.heap_alloc w3 _ b (by omega), hR3]
            have hgw6 : w.grownBy w6 (some b) := grownBy_own (grownBy_trans hgw3 (World.grownBy_alloc _ _ _)) hg6 hb5
            clear ho6 hg6 how3 hR3 hgw3 hb5
            go_wp2_with fail
            go_roundw
            case rel => exact ⟨k + 1, q, all + t.size, t, out ++ [t], by go_num, by omega, rfl, by congr 1; omega, hR6, hq, hts, by omega, how6, by simp [hol], HT3, hgw6⟩
            case measure => simp [intOf]; omega
end Go.Proofs.YtmmkmkaannlkhaaGreatDoor

namespace Go.Proofs.YtmmkmkaannlkhaaGreatDoor
open Go.RowKit
set_option linter.unusedVariables false

/-- What runs answers where it is all of the bytes. -/
def runsT (xs : List Int) (N : Nat) (e : Ending) (w' : World) : Prop := match getRunsI xs with
  | some out => ∃ r, e = .returned r ∧ Own 3 w' N r (out.map (Value.int .i64)) ∧ out.length ≤ 4096
  | none => Bad e

end Go.Proofs.YtmmkmkaannlkhaaGreatDoor
