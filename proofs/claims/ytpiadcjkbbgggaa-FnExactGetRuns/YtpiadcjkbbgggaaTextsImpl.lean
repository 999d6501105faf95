/- What the code's end, text and texts do. -/
import Derived.Test.YtpiadcjkbbgggaaNumber
import Derived.Test.YtpiadcjkbbgggaaTextsGet
import Derived.Test.YtpiadcjkbbgggaaInfo
namespace Go.Proofs.Ytpiadcjkbbgggaa
open Go.RowKit Go.Lib
set_option linter.unusedVariables false

/-- What text answers, and where the reader stands behind it. -/
def textR (xs : List Int) (b : Nat) (va : Value) (p : Nat) (last : ByteArray) (all : Nat) (e : Ending) (w' : World) : Prop := match oneText xs p last all with
  | some (t, q) => e = .returned (.string t) ∧ Rdr w' b va q ∧ q ≤ xs.length ∧ all + t.size ≤ 1048576
  | none => Bad e ∧ ∃ q, q ≤ xs.length ∧ Rdr w' b va q

theorem textR_bad {xs : List Int} {b : Nat} {va : Value} {p q : Nat} {last : ByteArray} {all : Nat} {e : Ending} {w' : World} (h : oneText xs p last all = none) (he : Bad e) (hq : q ≤ xs.length) (hR : Rdr w' b va q) : textR xs b va p last all e w' := by
  unfold textR
  rw [h]
  exact ⟨he, q, hq, hR⟩

set_option maxHeartbeats 2000000 in
set_option maxRecDepth 100000 in
theorem text_any (C b p : Nat) (w : World) (va : Value) (xs : List Int) (last : ByteArray) (all : Nat) (hx : Bytes xs) (hl : xs.length ≤ 1048576) (hp : p ≤ xs.length) (hla : last.size ≤ 1048576) (hall : all ≤ 1048576) (hC : C ≤ b) (hr : Rd C w va (xs.map (Value.int .u8))) (hR : Rdr w b va p) :
    Calls Try.prog 80 #[.pointer (some ⟨b, 0, none⟩), .string last, .int .i64 (1048576 - (all : Int))] w fun e w' => textR xs b va p last all e w' ∧ w.grownBy w' (some b) := by
  go_enter Try.func80, Try.ntmps80
  go_wp2_with fail
  refine (number_any C b p w va xs hx hl hp hC hr hR).mono ?_
  rintro e w1 ⟨hn, hg1⟩
  unfold numR at hn
  cases hG : getL xs p with
  | none =>
    rw [hG] at hn
    obtain ⟨hbad, q, hq, hR1⟩ := hn
    have HN : Hid (textR xs b va p last all e w1) := textR_bad (one_none1 hG) hbad hq hR1
    unfold Bad at hbad
    subst hbad
    exact ⟨rfl, HN.out, hg1⟩
  | some z =>
    obtain ⟨k, p1⟩ := z
    rw [hG] at hn
    obtain ⟨rfl, hR1⟩ := hn
    have hok := getL_ok hx hG
    obtain ⟨k, rfl⟩ := Int.eq_ofNat_of_zero_le hok.1
    have HG : Hid _ := hG
    clear hG hR
    have hr1 : Rd C w1 va _ := hr.grown hg1 (fun k hk => by cases hk; exact hC)
    by_cases hk : last.size < k
    · have HN : Hid (textR xs b va p last all (.panicked [{ v := .iface 108 (.int .i64 3), recovered := false }]) w1) := textR_bad (one_none2 HG.out (by simpa using hk)) rfl hok.2.2.2 hR1
      go_wp2_with (first | (go_at_call 79; refine (require_n _ _ _ (by first | rfl | (simp; done) | (simp; omega))).mono ?_; rintro e w' ⟨rfl, hw⟩; obtain rfl := hw.symm))
      exact ⟨rfl, HN.out, hg1⟩
    · go_wp2_with (first | (go_at_call 79; refine (require_y _ _ _ (by first | rfl | (simp; done) | (simp; omega))).mono ?_; rintro e w' ⟨rfl, hw⟩; obtain rfl := hw.symm))
      refine (number_any C b p1 w1 va xs hx hl hok.2.2.2 hC hr1 hR1).mono ?_
      rintro e w2 ⟨hn, hg2⟩
      unfold numR at hn
      have hgw2 := grownBy_trans hg1 hg2
      have hr2 : Rd C w2 va _ := hr1.grown hg2 (fun k hk => by cases hk; exact hC)
      clear hg1 hr1 hR1 hr hg2
      cases hG2 : getL xs p1 with
      | none =>
        rw [hG2] at hn
        obtain ⟨hbad, q, hq, hR2⟩ := hn
        have HN : Hid (textR xs b va p last all e w2) := textR_bad (one_none3 HG.out hG2) hbad hq hR2
        unfold Bad at hbad
        subst hbad
        exact ⟨rfl, HN.out, hgw2⟩
      | some z =>
        obtain ⟨m, p2⟩ := z
        rw [hG2] at hn
        obtain ⟨rfl, hR2⟩ := hn
        have hok2 := getL_ok hx hG2
        obtain ⟨m, rfl⟩ := Int.eq_ofNat_of_zero_le hok2.1
        have HG2 : Hid _ := hG2
        clear hG2
        by_cases hbig : 1048576 < all + (k + m)
        · have HN : Hid (textR xs b va p last all (.panicked [{ v := .iface 108 (.int .i64 3), recovered := false }]) w2) := textR_bad (one_none5 HG.out HG2.out (.inr (by simpa using hbig))) rfl hok2.2.2.2 hR2
          go_wp2_with (first | (go_at_call 79; refine (require_n _ _ _ (by first | rfl | (simp; done) | (simp; omega))).mono ?_; rintro e w' ⟨rfl, hw⟩; obtain rfl := hw.symm))
          exact ⟨rfl, HN.out, hgw2⟩
        · go_wp2_with (first | (go_at_call 79; refine (require_y _ _ _ (by first | rfl | (simp; done) | (simp; omega))).mono ?_; rintro e w' ⟨rfl, hw⟩; obtain rfl := hw.symm))
          by_cases hlen : xs.length - p2 < m
          · have HN : Hid (oneText xs p last all = none) := one_none4 HG.out HG2.out (by simpa using hlen)
            obtain ⟨ao, cap, rfl, _⟩ := hr2
            refine (take_no b p2 m w2 ao _ cap (by simpa using hl) (by simpa using hok2.2.2.2) (by simp; omega) hR2).mono ?_
            rintro e w3 ⟨hbad, n3, rfl⟩
            have HN2 : Hid (textR xs b _ p last all e (w2.drewN n3)) := textR_bad HN.out hbad hok2.2.2.2 (show Rdr (w2.drewN n3) b _ p2 from hR2)
            unfold Bad at hbad
            subst hbad
            exact ⟨rfl, HN2.out, grownBy_trans hgw2 (grownBy_drewN _ _ _)⟩
          · refine (take_ok C b p2 m w2 va (xs.map (Value.int .u8)) (by simpa using hl) (by simpa using hok2.2.2.2) (by simp; omega) hC hr2 hR2).mono ?_
            rintro e w3 ⟨r, rfl, hrr, hR3, hg3⟩
            have hgw3 := grownBy_trans hgw2 hg3
            clear hg3 hgw2 hR2 hr2
            rw [← List.map_drop, ← List.map_take] at hrr
            have hst : ∀ nq, (convert 22 9 r).run Try.prog (w3.drewN nq) = .ok (.string (bytesAt xs p2 m)) (w3.drewN nq) := fun nq => run_string_of (hrr.drewN nq)
            have hst0 := hst 0
            have hms := bytesAt_size (bs := xs) (p := p2) (m := m) (by omega)
            have hmk : (last.extract 0 k ++ bytesAt xs p2 m).size = k + m := mkText_size (by omega) (by omega)
            obtain ⟨ao, cap, rfl, _, _, _, hrc⟩ := hrr
            have hrl : (((xs.drop p2).take m).map (Value.int .u8)).length = m := by simp; omega
            rw [hrl] at hst hst0 hrc ⊢
            by_cases hin : k < last.size ∧ 0 < m
            · have hpx : p2 < xs.length := by omega
              obtain ⟨g, off, rfl, _, hc⟩ := hrc hin.2
              have c1 := hc 0 (.int .u8 xs[p2]) (by rw [List.getElem?_map, List.getElem?_take, if_pos hin.2, List.getElem?_drop, Nat.add_zero, List.getElem?_eq_getElem hpx]; rfl)
              rw [Nat.add_zero] at c1
              have ha := alike_mk_in (bs := xs) (last := last) (k := k) (p := p2) (m := m) hin.1 hin.2 hpx
              have hxb := hx xs[p2] (List.getElem_mem hpx)
              clear hc hrc
              have hsz : (0 : Int) ≤ (k : Int) := by omega
              have hki : (k : Int) < (last.size : Int) := by omega
              have hmi : (0 : Int) < (m : Int) := by omega
              by_cases heq : last[k] = UInt8.ofNat (xs[p2]).toNat
              · have hno : ((last[k].toNat : Int) != xs[p2]) = false := by
                  rw [heq]
                  simp
                  omega
                have HN : Hid (oneText xs p last all = none) := one_none5 HG.out HG2.out (.inl (by simpa using fun h => ha.1 h.symm heq))
                clear heq ha
                go_wp2_with fail
                go_region_held2 (fun w' => w'.cell? ⟨g, off, none⟩ = some (.int .u8 xs[p2])) (go_keep) (first | (go_at_call 79; refine (require_none _ _).mono ?_; rintro e w' (⟨rfl, rfl, hF⟩ | ⟨rfl, rfl⟩); rotate_left; exact ⟨rfl, textR_bad HN.out rfl (by omega) (show Rdr w3.drew b va (p2 + m) from hR3), grownBy_trans hgw3 (grownBy_drewN w3 1 _)⟩))
                all_goals exact (hF.out).elim
              · have hno : ((last[k].toNat : Int) != xs[p2]) = true := by
                  simp
                  intro h
                  exact heq (by rw [← h]; simp)
                have HN : Hid (∀ w', Rdr w' b va (p2 + m) → textR xs b va p last all (.returned (.string (last.extract 0 k ++ bytesAt xs p2 m))) w') := by
                  intro w' hR3
                  unfold textR
                  rw [one_some HG.out (by simpa using hk) HG2.out (by simpa using hlen) (by have := ha.2 heq; simp [this]; omega)]
                  exact ⟨rfl, hR3, by simp; omega, by simp only [mkText, Int.toNat_natCast]; omega⟩
                clear heq ha
                have hcat : ¬ 9223372036854775807 < min k last.size + (bytesAt xs p2 m).size := by rw [hms]; omega
                go_wp2_with fail
                go_quiet ((go_at_call 79; exact Calls.quiet_of_same (require_yes _ _)))
                clear c1
                go_wp2_with fail
                have hst' : ∀ nq', (convert 22 9 (.slice (some ⟨g, off, none⟩) m cap)).run Try.prog ((w3.drewN nq).drewN nq') = .ok (.string (bytesAt xs p2 m)) ((w3.drewN nq).drewN nq') := fun nq' => by rw [World.drewN_drewN]; exact hst (nq + nq')
                have hR4 : Rdr (w3.drewN nq) b va (p2 + m) := hR3
                have hgw4 := grownBy_trans hgw3 (grownBy_drewN w3 nq _)
                generalize w3.drewN nq = w4 at hst' hR4 hgw4 ⊢
                clear hst hst0 hR3 hgw3
                go_quiet (fail)
                go_wp2_with fail
                go_ret
                exact ⟨HN.out _ (show Rdr (w4.drewN _) b va (p2 + m) from hR4), grownBy_trans hgw4 (grownBy_drewN w4 _ _)⟩
            · have ha : alike last (mkText xs last k p2 m) = k := by
                by_cases hk2 : k < last.size
                · obtain rfl : m = 0 := by omega
                  exact alike_mk_zero (by omega)
                · exact alike_mk_end (by omega)
              have HN : Hid (∀ w', Rdr w' b va (p2 + m) → textR xs b va p last all (.returned (.string (last.extract 0 k ++ bytesAt xs p2 m))) w') := by
                intro w' hR3
                unfold textR
                rw [one_some HG.out (by simpa using hk) HG2.out (by simpa using hlen) (by simp [ha]; omega)]
                exact ⟨rfl, hR3, by simp; omega, by simp only [mkText, Int.toNat_natCast]; omega⟩
              have hcat : ¬ 9223372036854775807 < min k last.size + (bytesAt xs p2 m).size := by rw [hms]; omega
              clear hrc ha
              by_cases hk2 : k < last.size
              · obtain rfl : m = 0 := by omega
                go_wp2_with fail
                go_quiet (fail)
                go_wp2_with fail
                go_ret
                exact ⟨HN.out _ (show Rdr (w3.drewN _) b va _ from hR3), grownBy_trans hgw3 (grownBy_drewN w3 _ _)⟩
              · go_wp2_with fail
                go_quiet (fail)
                go_wp2_with fail
                go_ret
                exact ⟨HN.out _ (show Rdr (w3.drewN _) b va _ from hR3), grownBy_trans hgw3 (grownBy_drewN w3 _ _)⟩
end Go.Proofs.Ytpiadcjkbbgggaa
