/- What the code's texts does. -/
import Derived.Test.YtpiadcjkbbgggaaTextsImpl
import Derived.Test.YtpiadcjkbbgggaaTexts
namespace Go.Proofs.Ytpiadcjkbbgggaa
open Go.RowKit Go.Lib
set_option linter.unusedVariables false

/-- What texts answers, and where the reader stands behind it. -/
def textsR (xs : List Int) (b : Nat) (va : Value) (N : Nat) (e : Ending) (w' : World) : Prop := match textsL xs with
  | some (out, p) => ∃ r, e = .returned r ∧ Own 9 w' N r (out.map Value.string) ∧ out.length ≤ 4096 ∧ p ≤ xs.length ∧ Rdr w' b va p
  | none => Bad e

theorem textsR_bad {xs : List Int} {b : Nat} {va : Value} {N : Nat} {e : Ending} {w' : World} (h : textsL xs = none) (he : Bad e) : textsR xs b va N e w' := by
  unfold textsR
  rw [h]
  exact he

set_option maxHeartbeats 4000000 in
set_option maxRecDepth 100000 in
theorem texts_any (C b : Nat) (w : World) (va : Value) (xs : List Int) (hx : Bytes xs) (hl : xs.length ≤ 1048576) (hC : C ≤ b) (hb : b < w.heap.size) (hr : Rd C w va (xs.map (Value.int .u8))) (hR : Rdr w b va 0) :
    Calls Try.prog 42 #[.pointer (some ⟨b, 0, none⟩)] w fun e w' => textsR xs b va w.heap.size e w' ∧ w.grownBy w' (some b) := by
  obtain ⟨i0, hi, hz0, hz1, hz2⟩ := info_parts info9
  go_enter Try.func42, Try.ntmps42
  go_wp2_with fail
  refine (number_any C b 0 w va xs hx hl (Nat.zero_le _) hC hr hR).mono ?_
  rintro e w1 ⟨hn, hg1⟩
  unfold numR at hn
  cases hG : getL xs 0 with
  | none =>
    rw [hG] at hn
    obtain ⟨hbad, q, hq, hR1⟩ := hn
    have HN : Hid (textsR xs b va w.heap.size e w1) := textsR_bad (by unfold textsL; rw [hG]) hbad
    unfold Bad at hbad
    subst hbad
    exact ⟨rfl, HN.out, hg1⟩
  | some z =>
    obtain ⟨n, p⟩ := z
    rw [hG] at hn
    obtain ⟨rfl, hR1⟩ := hn
    have hok := getL_ok hx hG
    obtain ⟨n, rfl⟩ := Int.eq_ofNat_of_zero_le hok.1
    by_cases h4 : 4096 < n
    · have HN : Hid (textsR xs b va w.heap.size (.panicked [{ v := .iface 108 (.int .i64 3), recovered := false }]) w1) := textsR_bad (by unfold textsL; rw [hG]; simp only; rw [if_pos (by omega)]) rfl
      clear hG
      go_wp2_with (first | (go_at_call 79; refine (require_n _ _ _ (by first | rfl | (simp; done) | (simp; omega))).mono ?_; rintro e w' ⟨rfl, hw⟩; obtain rfl := hw.symm))
      exact ⟨rfl, HN.out, hg1⟩
    · have HT : Hid (textsL xs = textsF xs n p ByteArray.empty 0 []) := by
        unfold Hid textsL
        rw [hG]
        simp only
        rw [if_neg (by omega), Int.toNat_natCast]
      clear hG
      have hsz1 := hg1.size
      go_wp2_with (first | (go_at_call 79; refine (require_y _ _ _ (by first | rfl | (simp; done) | (simp; omega))).mono ?_; rintro e w' ⟨rfl, hw⟩; obtain rfl := hw.symm) | (at_make; refine wpList_make_own _ rfl _ _ 23 rfl w.heap.size 9 i0 (.string ByteArray.empty) 1 Try.underlying23 hi hz0 hz1 _ _ _ n rfl rfl rfl (by rw [hz2]; omega) (by unfold maxLen; omega) (by omega) ?_))
      intro w2 ho2 hg2
      have how2 : Own 9 w2 w.heap.size (.slice (some ⟨w1.heap.size, 0, none⟩) 0 n) [] := ho2
      have hR2 : Rdr w2 b va p := by
        unfold Rdr at hR1 ⊢
        rw [hg2.block b (Array.getElem?_eq_some_iff.1 hR1).1 (by simp), hR1]
      have hgw2 : w.grownBy w2 (some b) := grownBy_own hg1 hg2 (fun k hk => by cases hk)
      clear ho2 hg2 hR1 hg1
      go_wp2_with fail
      go_loopw [4, 5, 6, 16] (fun tl ta tr tk wr => ∃ (k p all : Nat) (last : ByteArray) (out : List ByteArray), tk = .int .i64 (k : Int) ∧ k ≤ n ∧ ta = .string last ∧ tr = .int .i64 (1048576 - (all : Int)) ∧ Rdr wr b va p ∧ p ≤ xs.length ∧ all ≤ 1048576 ∧ last.size ≤ 1048576 ∧ Own 9 wr w.heap.size tl (out.map Value.string) ∧ out.length = k ∧ Hid (textsL xs = textsF xs (n - k) p last all out) ∧ w.grownBy wr (some b)) (fun _ _ _ tk _ => n - (intOf tk).toNat)
      case atStart => exact ⟨0, p, 0, ByteArray.empty, [], rfl, Nat.zero_le _, rfl, rfl, hR2, hok.2.2.2, by omega, by simp, how2, rfl, HT, hgw2⟩
      case round =>
        clear hR2 how2 HT hgw2 hR
        obtain ⟨k, p, all, last, out, rfl, hk, rfl, rfl, hR, hp, hall, hla, how, hol, HT, hgw⟩ := hrel
        have hszw := hgw.size
        by_cases hkn : k = n
        · have HT2 : Hid (textsL xs = some (out, p)) := by
            unfold Hid
            rw [HT.out, hkn, Nat.sub_self]
            rfl
          clear HT
          have HN : Hid (textsR xs b va w.heap.size (.returned u4) wr) := by
            unfold Hid textsR
            rw [HT2.out]
            exact ⟨_, rfl, how, by omega, hp, hR⟩
          go_wp2_with fail
          go_ret
          exact ⟨HN.out, hgw⟩
        · have hki : (k : Int) < (n : Int) := by omega
          have hrr : Rd C wr va _ := hr.grown hgw (fun k hk => by cases hk; exact hC)
          obtain ⟨j, hj⟩ : ∃ j, n - k = j + 1 := ⟨n - k - 1, by omega⟩
          rw [hj] at HT
          have hjk : n - (k + 1) = j := by omega
          clear hj
          go_wp2_with fail
          refine (text_any C b p wr va xs last all hx hl hp hla hall hC hrr hR).mono ?_
          rintro e w3 ⟨hn, hg3⟩
          unfold textR at hn
          have hgw3 := grownBy_trans hgw hg3
          have how3 := how.apart hg3 (fun k hk => by cases hk; exact hb)
          have hsz3 := hgw3.size
          clear hgw how hg3 hR hrr
          cases hO : oneText xs p last all with
          | none =>
            rw [hO] at hn
            obtain ⟨hbad, q, hq, hR3⟩ := hn
            have HN : Hid (textsR xs b va w.heap.size e w3) := textsR_bad (by rw [HT.out, textsF_none hO]) hbad
            unfold Bad at hbad
            subst hbad
            exact ⟨rfl, HN.out, hgw3⟩
          | some z =>
            obtain ⟨t, q⟩ := z
            rw [hO] at hn
            obtain ⟨rfl, hR3, hq, hts⟩ := hn
            have HT3 : Hid (textsL xs = textsF xs (n - (k + 1)) q t (all + t.size) (out ++ [t])) := by
              unfold Hid
              rw [HT.out, textsF_some hO, hjk]
            clear hO HT hjk
            go_wp2_with (at_builtin; refine wpList_append_own _ rfl _ _ 23 rfl w.heap.size 9 i0 (.string ByteArray.empty) 1 16 Try.underlying23 hi hz0 hz1 hz2 rfl (by decide) _ _ _ rfl (World.ownsRow.alloc how3 _) ⟨w3.heap.size, 0, none⟩ 1 1 [.string t] rfl rfl (cell_one_new _ _ _) (by simp [Value.oneCell']) (by simp [maxLen]; omega) (by simp; omega) (by simp; omega) ?_)
            intro v6 w6 ho6 hg6 _
            have hb5 := how3.lt
            have how6 : Own 9 w6 w.heap.size v6 ((out ++ [t]).map Value.string) := by simpa using own_of ho6
            have hR6 : Rdr w6 b va q := by
              unfold Rdr at hR3 ⊢
              rw [hg6.block b (by simp; omega) (fun e => by have := hb5 b e.symm; omega), Below.heap_alloc w3 _ b (by omega), hR3]
            have hgw6 : w.grownBy w6 (some b) := grownBy_own (grownBy_trans hgw3 (World.grownBy_alloc _ _ _)) hg6 hb5
            clear ho6 hg6 how3 hR3 hgw3 hb5
            go_wp2_with fail
            go_roundw
            case rel => exact ⟨k + 1, q, all + t.size, t, out ++ [t], by go_num, by omega, rfl, by congr 1; omega, hR6, hq, hts, by omega, how6, by simp [hol], HT3, hgw6⟩
            case measure => simp [intOf]; omega
end Go.Proofs.Ytpiadcjkbbgggaa
