/- What the code's reader does with a vector's counts. -/
import Derived.Test.YtpiadcjkbbgggaaVecRead
import Derived.Test.YtpiadcjkbbgggaaNumber
import Derived.Test.YtpiadcjkbbgggaaVecOKs
namespace Go.Proofs.Ytpiadcjkbbgggaa
open Go.RowKit
set_option linter.unusedVariables false

/-- What counts answers, and where the reader stands behind it. -/
def readR (bs : List Int) (b : Nat) (va : Value) (e : Ending) (w' : World) : Prop := match readV bs with
  | some X => e = .returned (.agg (arrC X).toArray) ∧ Rdr w' b va bs.length
  | none => Bad e
theorem readR_bad {bs : List Int} {b : Nat} {va : Value} {e : Ending} {w' : World} (h : readV bs = none) (he : Bad e) : readR bs b va e w' := by unfold readR; rw [h]; exact he
theorem there_grown {w w' : World} {X n b : Nat} (h : w.there X 0 n) (hg : w.grownBy w' (some b)) (hx : X ≠ b) (hl : X < w.heap.size) : w'.there X 0 n := fun j hj => by
  have hb := hg.block X hl (fun e => hx (by simpa using e))
  have h1 : w'.cell? ⟨X, 0 + j, none⟩ = w.cell? ⟨X, 0 + j, none⟩ := World.cell?_of_block (w := w) hb
  have h2 : w'.frozen? ⟨X, 0 + j, none⟩ = w.frozen? ⟨X, 0 + j, none⟩ := World.frozen?_of_block (w := w) hb
  rw [h1, h2]
  exact h j hj
theorem gr_setp {w w1 : World} {b n k : Nat} {u : Value} (h : w.grownBy w1 (some b)) (hn : w.heap.size ≤ n) : w.grownBy (w1.setCell ⟨n, k, none⟩ u) (some b) :=
  ⟨h.os, h.tape, h.output, by simpa using h.size, fun i hi hr => (heap_setCell_other w1 ⟨n, k, none⟩ i u (by show i ≠ n; omega)).trans (h.block i hi hr)⟩
theorem rdr_setp {w : World} {b p n k : Nat} {va : Value} {u : Value} (h : Rdr w b va p) (hn : b ≠ n) : Rdr (w.setCell ⟨n, k, none⟩ u) b va p := by
  unfold Rdr at h ⊢
  rw [heap_setCell_other w ⟨n, k, none⟩ b u hn, h]

set_option maxHeartbeats 4000000 in
set_option maxRecDepth 100000 in
theorem counts_any (C b : Nat) (w : World) (va : Value) (bs : List Int) (hx : Bytes bs) (hl : bs.length ≤ 1048576) (hC : C ≤ b) (hb : b < w.heap.size) (hr : Rd C w va (bs.map (Value.int .u8))) (hR : Rdr w b va 0) :
    Calls Try.prog 52 #[.pointer (some ⟨b, 0, none⟩)] w fun e w' => readR bs b va e w' ∧ w.grownBy w' (some b) := by
  have hZ : (#[.int .i64 0, .int .i64 0, .int .i64 0, .int .i64 0, .int .i64 0, .int .i64 0, .int .i64 0, .int .i64 0, .int .i64 0, .int .i64 0, .int .i64 0, .int .i64 0, .int .i64 0, .int .i64 0, .int .i64 0, .int .i64 0] : Array Value) = (arrC (pad [])).toArray := rfl
  have hv : ∃ ao cap, va = .slice ao bs.length cap := by
    obtain ⟨ao, cap, rfl, _⟩ := hr
    exact ⟨ao, cap, by rw [List.length_map]⟩
  go_enter Try.func52, Try.ntmps52
  go_wp2_with fail
  have ho0 : Own 71 ((w.alloc (.cells (arrC (pad [])).toArray 71)).alloc (.cells (arrC (pad [])).toArray 71)) (w.heap.size + 1) (.slice (some ⟨w.heap.size + 1, 0, none⟩) 16 16) (arrC (pad [])) := by
    have h := heap_alloc_new (w.alloc (.cells (arrC (pad [])).toArray 71)) (.cells (arrC (pad [])).toArray 71)
    rw [World.size_alloc] at h
    exact own_arr h (pad_len (by simp)) (Nat.le_refl _)
  have ht0 : ((w.alloc (.cells (arrC (pad [])).toArray 71)).alloc (.cells (arrC (pad [])).toArray 71)).there w.heap.size 0 16 := there_made (below_alloc _ _) (by simp [arrC_len, pad_len])
  have hR0 := (hR.alloc (.cells (arrC (pad [])).toArray 71)).alloc (.cells (arrC (pad [])).toArray 71)
  have hg0 : w.grownBy ((w.alloc (.cells (arrC (pad [])).toArray 71)).alloc (.cells (arrC (pad [])).toArray 71)) (some b) := grownBy_trans (World.grownBy_alloc _ _ _) (World.grownBy_alloc _ _ _)
  go_loopw [4] (fun ti wr => ∃ (p : Nat) (acc : List Int), ti = .int .i64 (acc.length : Int) ∧ acc.length ≤ 16 ∧ p ≤ bs.length ∧ Own 71 wr (w.heap.size + 1) (.slice (some ⟨w.heap.size + 1, 0, none⟩) 16 16) (arrC (pad acc)) ∧ wr.there w.heap.size 0 16 ∧ Rdr wr b va p ∧ w.grownBy wr (some b) ∧ w.heap.size + 1 < wr.heap.size ∧ Hid (rdN bs 16 0 = addV acc (rdN bs (16 - acc.length) p)) ∧ Hid (∀ a ∈ acc, 0 ≤ a ∧ a ≤ 1000000000000)) (fun ti _ => 17 - (intOf ti).toNat)
  case atStart => exact ⟨0, [], rfl, by simp, Nat.zero_le _, ho0, ht0, hR0, hg0, by simp, (addV_nil _).symm, fun a ha => by simp at ha⟩
  case round =>
    clear ho0 ht0 hR0 hg0 hR hZ
    obtain ⟨p, acc, rfl, hk, hp, ho, ht, hR, hg, hsz, HN, HA⟩ := hrel
    obtain ⟨ao, cap, rfl⟩ := hv
    have r0 := hR.c0
    have r1 := hR.c1
    by_cases hlt : p < bs.length
    · have q0 : (p : Int) < (bs.length : Int) := by omega
      go_wp2_with fail
      go_quiet (fail)
      have ho1 : Own 71 (wr.drewN nq) _ _ _ := ho
      have ht1 : (wr.drewN nq).there w.heap.size 0 16 := ht
      have hR1 : Rdr (wr.drewN nq) b _ p := hR
      have hg1 : w.grownBy (wr.drewN nq) (some b) := grownBy_trans hg (grownBy_drewN wr nq _)
      have hs1 : w.heap.size + 1 < (wr.drewN nq).heap.size := hsz
      clear ho ht hR hg hsz r0 r1
      generalize wr.drewN nq = w1 at *
      by_cases h16 : acc.length = 16
      · have HF : Hid _ := readV_full (p := p) (by rw [h16] at HN; exact HN.out) hlt
        rw [h16]
        go_wp2_with (first | (go_at_call 79; refine (require_n _ _ _ (by first | rfl | (simp; done) | (simp; omega))).mono ?_; rintro e w' ⟨rfl, rfl⟩))
        exact ⟨rfl, readR_bad HF.out rfl, hg1⟩
      · have hk' : acc.length < 16 := by omega
        have q1 : (acc.length : Int) < 16 := by omega
        have q2 : (0 : Int) ≤ (acc.length : Int) := by omega
        obtain ⟨m, hm⟩ : ∃ m, 16 - acc.length = m + 1 := ⟨15 - acc.length, by omega⟩
        have HM : Hid (16 - acc.length = m + 1) := hm
        have hrw : Rd C w1 (.slice ao bs.length cap) _ := hr.grown hg1 (fun k hk => by cases hk; exact hC)
        have hnum := number_any C b p w1 _ bs hx hl hp hC hrw hR1
        unfold numR at hnum
        clear hm
        cases hG : getL bs p with
        | none =>
          have HF : Hid _ := readV_bad HN.out (by rw [HM.out]; exact rdN_none hlt hG)
          rw [hG] at hnum
          clear hG
          go_wp2_with (first | (go_at_call 79; refine (require_y _ _ _ (by first | rfl | (simp; done) | (simp; omega))).mono ?_; rintro e w' ⟨rfl, rfl⟩))
          refine hnum.mono ?_
          rintro e w2 ⟨⟨he, _⟩, hg2⟩
          unfold Bad at he
          subst he
          go_wp2_with fail
          exact ⟨rfl, readR_bad HF.out rfl, grownBy_trans hg1 hg2⟩
        | some z =>
          obtain ⟨a, q⟩ := z
          have hok := getL_ok hx hG
          have HS : Hid (rdN bs 16 0 = addV (acc ++ [a]) (rdN bs m q)) := HN.out.trans (by rw [HM.out]; exact rdN_some hlt hG acc)
          rw [hG] at hnum
          clear hG
          go_wp2_with (first | (go_at_call 79; refine (require_y _ _ _ (by first | rfl | (simp; done) | (simp; omega))).mono ?_; rintro e w' ⟨rfl, rfl⟩))
          refine hnum.mono ?_
          rintro e w2 ⟨⟨rfl, hR2⟩, hg2⟩
          have ho2 := ho1.apart hg2 (fun k hk => by cases hk; omega)
          have ht2 := there_grown ht1 hg2 (by omega) (by omega)
          have hs2 := hg2.size
          have hgw := grownBy_trans hg1 hg2
          have hpl : (pad acc).length = 16 := pad_len hk
          have c1 := own_cell ho2 (k := acc.length) (by rw [arrC_len, hpl]; exact hk')
          have f1 := own_free ho2 acc.length
          have R := own_set ho2 acc.length (.int .i64 a)
          have hst : (arrC (pad acc)).set acc.length (.int .i64 a) = arrC (pad (acc ++ [a])) := by
            unfold arrC
            rw [← pad_set hk' a, List.map_set]
          rw [hst] at R
          have e1 : (w2.setCell ⟨w.heap.size + 1, acc.length, none⟩ (.int .i64 a)).cell? ⟨w.heap.size + 1, acc.length, none⟩ = some (.int .i64 a) := World.cell?_setCell_same _ _ _ c1
          have R2 : (w2.setCell ⟨w.heap.size + 1, acc.length, none⟩ (.int .i64 a)).there w.heap.size 0 16 := World.there_setCells ht2 (w.heap.size + 1) acc.length [.int .i64 a]
          have R3 := rdr_setp (n := w.heap.size + 1) (k := acc.length) (u := .int .i64 a) hR2 (by omega)
          have R4 := gr_setp (n := w.heap.size + 1) (k := acc.length) (u := .int .i64 a) hgw (by omega)
          clear ho1 ht1 hR1 hg1 ho2 ht2 hR2 hg2 hgw hnum hst
          have hcc := isCount_any a
          by_cases hac : 0 ≤ a ∧ a ≤ 1000000000000
          · have hca : cOK a = true := by unfold cOK; exact decide_eq_true hac
            rw [hca] at hcc
            have HA2 : Hid (∀ x ∈ acc ++ [a], 0 ≤ x ∧ x ≤ 1000000000000) := fun x hx => by
              rcases List.mem_append.1 hx with hx | hx
              · exact HA.out x hx
              · simp at hx; subst hx; exact hac
            clear hca hac
            go_wp2_with (first | (go_at_call 73; refine (hcc _).mono ?_; rintro e w' ⟨rfl, rfl⟩) | (go_at_call 79; refine (require_yes _ _).mono ?_; rintro e w' ⟨rfl, rfl⟩))
            go_roundw
            case rel => exact ⟨q, acc ++ [a], by simp, by simp; omega, hok.2.2.2, R, R2, R3, R4, by simpa using (by omega : w.heap.size + 1 < w2.heap.size), by unfold Hid; rw [show 16 - (acc ++ [a]).length = m by have := HM.out; simp; omega]; exact HS.out, HA2⟩
            case measure => simp [intOf]; omega
          · have hca : cOK a = false := by unfold cOK; exact decide_eq_false hac
            rw [hca] at hcc
            have HF : Hid _ := readV_great HS.out hk' hac
            clear hca hac
            go_wp2_with (first | (go_at_call 73; refine (hcc _).mono ?_; rintro e w' ⟨rfl, rfl⟩) | (go_at_call 79; refine (require_no _ _).mono ?_; rintro e w' ⟨he, rfl⟩; unfold Bad at he; subst he))
            exact ⟨rfl, readR_bad HF.out rfl, R4⟩
    · have q0 : ¬ (p : Int) < (bs.length : Int) := by omega
      have HE : Hid _ := readV_end HN.out (show p = bs.length by omega) hk HA.out
      have hpl : (pad acc).length = 16 := pad_len hk
      go_wp2_with fail
      go_quiet (fail)
      have ho1 : Own 71 (wr.drewN nq) _ _ _ := ho
      have ht1 : (wr.drewN nq).there w.heap.size 0 16 := ht
      have hg1 : w.grownBy (wr.drewN nq) (some b) := grownBy_trans hg (grownBy_drewN wr nq _)
      have hs1 : w.heap.size + 1 < (wr.drewN nq).heap.size := hsz
      have hR1 : Rdr (wr.drewN nq) b (.slice ao bs.length cap) bs.length := by
        rw [show bs.length = p by omega] at hR ⊢
        exact hR
      clear ho ht hR hg hsz r0 r1
      generalize wr.drewN nq = w1 at *
      generalize pad acc = X at ho1 hpl HE
      have HI : Hid _ := arr_info hpl
      have HI' : Hid _ := arr_info' hpl
      have hrx := own_range ho1
      go_wp2_with (first | (refine wpList_load_mid rfl 71 _ rfl (w.heap.size + 1) 0 rfl (arrC X) _ hrx Try.underlying71 rfl HI.out ?_))
      refine (told_any w1 X hpl).mono ?_
      rintro e w2 ⟨rfl, hb2⟩
      have hrx2 := range_below hb2 hs1 hrx
      have hR2 : Rdr w2 b (.slice ao bs.length cap) bs.length := by
        unfold Rdr at hR1 ⊢
        rw [hb2.block b (by omega), hR1]
      have ht2 : w2.there w.heap.size 0 (arrC X).toArray.size := by
        rw [show (arrC X).toArray.size = 16 by simp [arrC_len, hpl]]
        exact there_more hb2 (by omega) ht1
      have hg2 : w.grownBy w2 (some b) := grownBy_trans hg1 (grownBy_below hb2 (Nat.le_refl _) _)
      clear ho1 ht1 hg1 hrx hR1
      by_cases hto : toldN X 16 = acc.length
      · have HV : Hid (readV bs = some X) := by unfold Hid; rw [HE.out, if_pos hto]
        rw [hto]
        go_wp2_with (first | (go_at_call 79; refine (require_y _ _ _ (by first | rfl | (simp; done))).mono ?_; rintro e w2 ⟨rfl, rfl⟩) | (refine wpList_load_mid rfl 71 _ rfl (w.heap.size + 1) 0 rfl (arrC X) _ hrx2 Try.underlying71 rfl HI.out ?_) | (refine wpList_store_mid rfl 71 _ _ rfl w.heap.size 0 (arrC X).toArray rfl rfl ht2 HI'.out (arrC_all X) ?_))
        have hrs : (w2.setCells w.heap.size 0 (arrC X)).rangeAt w.heap.size 0 (arrC X) := World.rangeAt_setCells_same _ _ _ _ (by rw [show (arrC X).toArray.size = (arrC X).length by simp] at ht2; exact ht2)
        have hld := run_loadVar_mid (P := Try.prog) _ w.heap.size 0 71 (arrC X) _ hrs Try.underlying71 rfl HI.out
        have hgf : w.grownBy (w2.setCells w.heap.size 0 (arrC X)) (some b) := by
          have hB : Below w.heap.size w2 (w2.setCells w.heap.size 0 (arrC X)) := below_setCells (Nat.le_refl _) _ _ _ (Below.refl _ _)
          exact ⟨hB.os.trans hg2.os, hB.tape.trans hg2.tape, hB.output.trans hg2.output, Nat.le_trans hg2.size hB.size, fun k hk hn => (hB.block k hk).trans (hg2.block k hk hn)⟩
        have hRs : Rdr (w2.setCells w.heap.size 0 (arrC X)) b (.slice ao bs.length cap) bs.length := by
          unfold Rdr at hR2 ⊢
          rw [(below_setCells (B := b + 1) (b := w.heap.size) (by omega) _ _ _ (Below.refl _ w2)).block b (by omega), hR2]
        exact bodyPost_ret (v := .agg (arrC X).toArray) (by simp [results, Try.results52, asAddr, Act.put, hld]) rfl ⟨by unfold readR; rw [HV.out]; exact ⟨rfl, hRs⟩, hgf⟩
      · have HV : Hid (readV bs = none) := by unfold Hid; rw [HE.out, if_neg hto]
        have hq : ((acc.length : Int) == ((toldN X 16 : Nat) : Int)) = false := by simp; omega
        generalize toldN X 16 = t at hq
        clear hto
        go_wp2_with (first | (go_at_call 79; refine (require_n _ _ _ (by first | assumption | rfl | (simp; done) | (simp; omega))).mono ?_; rintro e w' ⟨rfl, rfl⟩))
        exact ⟨rfl, readR_bad HV.out rfl, hg2⟩

end Go.Proofs.Ytpiadcjkbbgggaa
