/- What the code's reader does with a vector's counts. What attempt does with a vector's counts; and the code's ReadVec. -/
import Derived.Test.YtpiadcjkbbgggaaQVecArrToVecRead
import Derived.Test.YtpiadcjkbbgggaaQReaderToAttempt
import Derived.Test.YtpiadcjkbbgggaaQInfoToRunsDef
namespace Go.Proofs.Ytpiadcjkbbgggaa
open Go.RowKit
set_option linter.unusedVariables false

/-- What counts answers, and where the reader stands behind it. -/
def readR (bs : List Int) (b : Nat) (va : Value) (e : Ending) (w' : World) : Prop := match readV bs with
  | some X => e = .returned (.agg (arrC X).toArray) ∧ Rdr w' b va bs.length
  | none => Bad e
theorem readR_bad {bs : List Int} {b : Nat} {va : Value} {e : Ending} {w' : World} (h : readV bs = none) (he : Bad e) : readR bs b va e w' := by unfold readR; rw [h]; exact he
theorem there_grown {w w' : World} {X n b : Nat} (h : w.there X 0 n) (hg : w.grownBy w' (some b)) (hx : X ≠ b) (hl : X < w.heap.size) : w'.there X 0 n := fun j hj => by
  have hb := hg.block X hl (fun e => hx (by simpa using e))
  have h1 : w'.cell? ⟨X, 0 + j, none⟩ = w.cell? ⟨X, 0 + j, none⟩ := World.cell?_of_block (w := w) hb
  have h2 : w'.frozen? ⟨X, 0 + j, none⟩ = w.frozen? ⟨X, 0 + j, none⟩ := World.frozen?_of_block (w := w) hb
  rw [h1, h2]
  exact h j hj
theorem gr_setp {w w1 : World} {b n k : Nat} {u : Value} (h : w.grownBy w1 (some b)) (hn : w.heap.size ≤ n) : w.grownBy (w1.setCell ⟨n, k, none⟩ u) (some b) :=
  ⟨h.os, h.tape, h.output, by simpa using h.size, fun i hi hr => (heap_setCell_other w1 ⟨n, k, none⟩ i u (by show i ≠ n; omega)).trans (h.block i hi hr)⟩
theorem rdr_setp {w : World} {b p n k : Nat} {va : Value} {u : Value} (h : Rdr w b va p) (hn : b ≠ n) : Rdr (w.setCell ⟨n, k, none⟩ u) b va p := by
  unfold Rdr at h ⊢
  rw [heap_setCell_other w ⟨n, k, none⟩ b u hn, h]

set_option maxHeartbeats 4000000 in
set_option maxRecDepth 100000 in
theorem counts_any (C b : Nat) (w : World) (va : Value) (bs : List Int) (hx : Bytes bs) (hl : bs.length ≤ 1048576) (hC : C ≤ b) (hb : b < w.heap.size) (hr : Rd C w va (bs.map (Value.int .u8))) (hR : Rdr w b va 0) :
    Calls Try.prog 52 #[.pointer (some ⟨b, 0, none⟩)] w fun e w' => readR bs b va e w' ∧ w.grownBy w' (some b) := by
  have hZ : (#[.int .i64 0, .int .i64 0, .int .i64 0, .int .i64 0, .int .i64 0, .int .i64 0, .int .i64 0, .int .i64 0, .int .i64 0, .int .i64 0, .int .i64 0, .int .i64 0, .int .i64 0, .int .i64 0, .int .i64 0, .int .i64 0] : Array Value) = (arrC (pad [])).toArray := rfl
  have hv : ∃ ao cap, va = .slice ao bs.length cap := by
    obtain ⟨ao, cap, rfl, _⟩ := hr
    exact ⟨ao, cap, by rw [List.length_map]⟩
  go_enter Try.func52, Try.ntmps52
  go_wp2_with fail
  have ho0 : Own 71 ((w.alloc (.cells (arrC (pad [])).toArray 71)).alloc (.cells (arrC (pad [])).toArray 71)) (w.heap.size + 1) (.slice (some ⟨w.heap.size + 1, 0, none⟩) 16 16) (arrC (pad [])) := by
    have h := heap_alloc_new (w.alloc (.cells (arrC (pad [])).toArray 71)) (.cells (arrC (pad [])).toArray 71)
    rw [World.size_alloc] at h
    exact own_arr h (pad_len (by simp)) (Nat.le_refl _)
  have ht0 : ((w.alloc (.cells (arrC (pad [])).toArray 71)).alloc (.cells (arrC (pad [])).toArray 71)).there w.heap.size 0 16 := there_made (below_alloc _ _) (by simp [arrC_len, pad_len])
  have hR0 := (hR.alloc (.cells (arrC (pad [])).toArray 71)).alloc (.cells (arrC (pad [])).toArray 71)
  have hg0 : w.grownBy ((w.alloc (.cells (arrC (pad [])).toArray 71)).alloc (.cells (arrC (pad [])).toArray 71)) (some b) := grownBy_trans (World.grownBy_alloc _ _ _) (World.grownBy_alloc _ _ _)
  go_loopw [4] (fun ti wr => ∃ (p : Nat) (acc : List Int), ti = .int .i64 (acc.length : Int) ∧ acc.length ≤ 16 ∧ p ≤ bs.length ∧ Own 71 wr (w.heap.size + 1) (.slice (some ⟨w.heap.size + 1, 0, none⟩) 16 16) (arrC (pad acc)) ∧ wr.there w.heap.size 0 16 ∧ Rdr wr b va p ∧ w.grownBy wr (some b) ∧ w.heap.size + 1 < wr.heap.size ∧ Hid (rdN bs 16 0 = addV acc (rdN bs (16 - acc.length) p)) ∧ Hid (∀ a ∈ acc, 0 ≤ a ∧ a ≤ 1000000000000)) (fun ti _ => 17 - (intOf ti).toNat)
  case atStart => exact ⟨0, [], rfl, by simp, Nat.zero_le _, ho0, ht0, hR0, hg0, by simp, (addV_nil _).symm, fun a ha => by simp at ha⟩
  case round =>
    clear ho0 ht0 hR0 hg0 hR hZ
    obtain ⟨p, acc, rfl, hk, hp, ho, ht, hR, hg, hsz, HN, HA⟩ := hrel
    obtain ⟨ao, cap, rfl⟩ := hv
    have r0 := hR.c0
    have r1 := hR.c1
    by_cases hlt : p < bs.length
    · have q0 : (p : Int) < (bs.length : Int) := by omega
      go_wp2_with fail
      go_quiet (fail)
      have ho1 : Own 71 (wr.drewN nq) _ _ _ := ho
      have ht1 : (wr.drewN nq).there w.heap.size 0 16 := ht
      have hR1 : Rdr (wr.drewN nq) b _ p := hR
      have hg1 : w.grownBy (wr.drewN nq) (some b) := grownBy_trans hg (grownBy_drewN wr nq _)
      have hs1 : w.heap.size + 1 < (wr.drewN nq).heap.size := hsz
      clear ho ht hR hg hsz r0 r1
      generalize wr.drewN nq = w1 at *
      by_cases h16 : acc.length = 16
      · have HF : Hid _ := readV_full (p := p) (by rw [h16] at HN; exact HN.out) hlt
        rw [h16]
        go_wp2_with (first | (go_at_call 79; refine (require_n _ _ _ (by first | rfl | (simp; done) | (simp; omega))).mono ?_; rintro e w' ⟨rfl, rfl⟩))
        exact ⟨rfl, readR_bad HF.out rfl, hg1⟩
      · have hk' : acc.length < 16 := by omega
        have q1 : (acc.length : Int) < 16 := by omega
        have q2 : (0 : Int) ≤ (acc.length : Int) := by omega
        obtain ⟨m, hm⟩ : ∃ m, 16 - acc.length = m + 1 := ⟨15 - acc.length, by omega⟩
        have HM : Hid (16 - acc.length = m + 1) := hm
        have hrw : Rd C w1 (.slice ao bs.length cap) _ := hr.grown hg1 (fun k hk => by cases hk; exact hC)
        have hnum := number_any C b p w1 _ bs hx hl hp hC hrw hR1
        unfold numR at hnum
        clear hm
        cases hG : getL bs p with
        | none =>
          have HF : Hid _ := readV_bad HN.out (by rw [HM.out]; exact rdN_none hlt hG)
          rw [hG] at hnum
          clear hG
          go_wp2_with (first | (go_at_call 79; refine (require_y _ _ _ (by first | rfl | (simp; done) | (simp; omega))).mono ?_; rintro e w' ⟨rfl, rfl⟩))
          refine hnum.mono ?_
          rintro e w2 ⟨⟨he, _⟩, hg2⟩
          unfold Bad at he
          subst he
          go_wp2_with fail
          exact ⟨rfl, readR_bad HF.out rfl, grownBy_trans hg1 hg2⟩
        | some z =>
          obtain ⟨a, q⟩ := z
          have hok := getL_ok hx hG
          have HS : Hid (rdN bs 16 0 = addV (acc ++ [a]) (rdN bs m q)) := HN.out.trans (by rw [HM.out]; exact rdN_some hlt hG acc)
          rw [hG] at hnum
          clear hG
          go_wp2_with (first | (go_at_call 79; refine (require_y _ _ _ (by first | rfl | (simp; done) | (simp; omega))).mono ?_; rintro e w' ⟨rfl, rfl⟩))
          refine hnum.mono ?_
          rintro e w2 ⟨⟨rfl, hR2⟩, hg2⟩
          have ho2 := ho1.apart hg2 (fun k hk => by cases hk; omega)
          have ht2 := there_grown ht1 hg2 (by omega) (by omega)
          have hs2 := hg2.size
          have hgw := grownBy_trans hg1 hg2
          have hpl : (pad acc).length = 16 := pad_len hk
          have c1 := own_cell ho2 (k := acc.length) (by rw [arrC_len, hpl]; exact hk')
          have f1 := own_free ho2 acc.length
          have R := own_set ho2 acc.length (.int .i64 a)
          have hst : (arrC (pad acc)).set acc.length (.int .i64 a) = arrC (pad (acc ++ [a])) := by
            unfold arrC
            rw [← pad_set hk' a, List.map_set]
          rw [hst] at R
          have e1 : (w2.setCell ⟨w.heap.size + 1, acc.length, none⟩ (.int .i64 a)).cell? ⟨w.heap.size + 1, acc.length, none⟩ = some (.int .i64 a) := World.cell?_setCell_same _ _ _ c1
          have R2 : (w2.setCell ⟨w.heap.size + 1, acc.length, none⟩ (.int .i64 a)).there w.heap.size 0 16 := World.there_setCells ht2 (w.heap.size + 1) acc.length [.int .i64 a]
          have R3 := rdr_setp (n := w.heap.size + 1) (k := acc.length) (u := .int .i64 a) hR2 (by omega)
          have R4 := gr_setp (n := w.heap.size + 1) (k := acc.length) (u := .int .i64 a) hgw (by omega)
          clear ho1 ht1 hR1 hg1 ho2 ht2 hR2 hg2 hgw hnum hst
          have hcc := isCount_any a
          by_cases hac : 0 ≤ a ∧ a ≤ 1000000000000
          · have hca : cOK a = true := by unfold cOK; exact decide_eq_true hac
            rw [hca] at hcc
            have HA2 : Hid (∀ x ∈ acc ++ [a], 0 ≤ x ∧ x ≤ 1000000000000) := fun x hx => by
              rcases List.mem_append.1 hx with hx | hx
              · exact HA.out x hx
              · simp at hx; subst hx; exact hac
            clear hca hac
            go_wp2_with (first | (go_at_call 73; refine (hcc _).mono ?_; rintro e w' ⟨rfl, rfl⟩) | (go_at_call 79; refine (require_yes _ _).mono ?_; rintro e w' ⟨rfl, rfl⟩))
            go_roundw
            case rel => exact ⟨q, acc ++ [a], by simp, by simp; omega, hok.2.2.2, R, R2, R3, R4, by simpa using (by omega : w.heap.size + 1 < w2.heap.size), by unfold Hid; rw [show 16 - (acc ++ [a]).length = m by have := HM.out; simp; omega]; exact HS.out, HA2⟩
            case measure => simp [intOf]; omega
          · have hca : cOK a = false := by unfold cOK; exact decide_eq_false hac
            rw [hca] at hcc
            have HF : Hid _ := readV_great HS.out hk' hac
            clear hca hac
            go_wp2_with (first | (go_at_call 73; refine (hcc _).mono ?_; rintro e w' ⟨rfl, rfl⟩) | (go_at_call 79; refine (require_no _ _).mono ?_; rintro e w' ⟨he, rfl⟩; unfold Bad at he; subst he))
            exact ⟨rfl, readR_bad HF.out rfl, R4⟩
    · have q0 : ¬ (p : Int) < (bs.length : Int) := by omega
      have HE : Hid _ := readV_end HN.out (show p = bs.length by omega) hk HA.out
      have hpl : (pad acc).length = 16 := pad_len hk
      go_wp2_with fail
      go_quiet (fail)
      have ho1 : Own 71 (wr.drewN nq) _ _ _ := ho
      have ht1 : (wr.drewN nq).there w.heap.size 0 16 := ht
      have hg1 : w.grownBy (wr.drewN nq) (some b) := grownBy_trans hg (grownBy_drewN wr nq _)
      have hs1 : w.heap.size + 1 < (wr.drewN nq).heap.size := hsz
      have hR1 : Rdr (wr.drewN nq) b (.slice ao bs.length cap) bs.length := by
        rw [show bs.length = p by omega] at hR ⊢
        exact hR
      clear ho ht hR hg hsz r0 r1
      generalize wr.drewN nq = w1 at *
      generalize pad acc = X at ho1 hpl HE
      have HI : Hid _ := arr_info hpl
      have HI' : Hid _ := arr_info' hpl
      have hrx := own_range ho1
      go_wp2_with (first | (refine wpList_load_mid rfl 71 _ rfl (w.heap.size + 1) 0 rfl (arrC X) _ hrx Try.underlying71 rfl HI.out ?_))
      refine (told_any w1 X hpl).mono ?_
      rintro e w2 ⟨rfl, hb2⟩
      have hrx2 := range_below hb2 hs1 hrx
      have hR2 : Rdr w2 b (.slice ao bs.length cap) bs.length := by
        unfold Rdr at hR1 ⊢
        rw [hb2.block b (by omega), hR1]
      have ht2 : w2.there w.heap.size 0 (arrC X).toArray.size := by
        rw [show (arrC X).toArray.size = 16 by simp [arrC_len, hpl]]
        exact there_more hb2 (by omega) ht1
      have hg2 : w.grownBy w2 (some b) := grownBy_trans hg1 (grownBy_below hb2 (Nat.le_refl _) _)
      clear ho1 ht1 hg1 hrx hR1
      by_cases hto : toldN X 16 = acc.length
      · have HV : Hid (readV bs = some X) := by unfold Hid; rw [HE.out, if_pos hto]
        rw [hto]
        go_wp2_with (first | (go_at_call 79; refine (require_y _ _ _ (by first | rfl | (simp; done))).mono ?_; rintro e w2 ⟨rfl, rfl⟩) | (refine wpList_load_mid rfl 71 _ rfl (w.heap.size + 1) 0 rfl (arrC X) _ hrx2 Try.underlying71 rfl HI.out ?_) | (refine wpList_store_mid rfl 71 _ _ rfl w.heap.size 0 (arrC X).toArray rfl rfl ht2 HI'.out (arrC_all X) ?_))
        have hrs : (w2.setCells w.heap.size 0 (arrC X)).rangeAt w.heap.size 0 (arrC X) := World.rangeAt_setCells_same _ _ _ _ (by rw [show (arrC X).toArray.size = (arrC X).length by simp] at ht2; exact ht2)
        have hld := run_loadVar_mid (P := Try.prog) _ w.heap.size 0 71 (arrC X) _ hrs Try.underlying71 rfl HI.out
        have hgf : w.grownBy (w2.setCells w.heap.size 0 (arrC X)) (some b) := by
          have hB : Below w.heap.size w2 (w2.setCells w.heap.size 0 (arrC X)) := below_setCells (Nat.le_refl _) _ _ _ (Below.refl _ _)
          exact ⟨hB.os.trans hg2.os, hB.tape.trans hg2.tape, hB.output.trans hg2.output, Nat.le_trans hg2.size hB.size, fun k hk hn => (hB.block k hk).trans (hg2.block k hk hn)⟩
        have hRs : Rdr (w2.setCells w.heap.size 0 (arrC X)) b (.slice ao bs.length cap) bs.length := by
          unfold Rdr at hR2 ⊢
          rw [(below_setCells (B := b + 1) (b := w.heap.size) (by omega) _ _ _ (Below.refl _ w2)).block b (by omega), hR2]
        exact bodyPost_ret (v := .agg (arrC X).toArray) (by simp [results, Try.results52, asAddr, Act.put, hld]) rfl ⟨by unfold readR; rw [HV.out]; exact ⟨rfl, hRs⟩, hgf⟩
      · have HV : Hid (readV bs = none) := by unfold Hid; rw [HE.out, if_neg hto]
        have hq : ((acc.length : Int) == ((toldN X 16 : Nat) : Int)) = false := by simp; omega
        generalize toldN X 16 = t at hq
        clear hto
        go_wp2_with (first | (go_at_call 79; refine (require_n _ _ _ (by first | assumption | rfl | (simp; done) | (simp; omega))).mono ?_; rintro e w' ⟨rfl, rfl⟩))
        exact ⟨rfl, readR_bad HV.out rfl, hg2⟩

end Go.Proofs.Ytpiadcjkbbgggaa

namespace Go.Proofs.Ytpiadcjkbbgggaa
open Go.RowKit
set_option linter.unusedVariables false

theorem rv_cell {w : World} {g : Nat} {cs : Array Value} {T : TypeId} (h : w.heap[g]? = some (.cells cs T (0, 0))) (k : Nat) {v : Value} (hk : cs[k]? = some v) : w.cell? ⟨g, k, none⟩ = some v := by
  unfold World.cell?
  rw [show w.heap[(⟨g, k, none⟩ : Addr).block]? = some (.cells cs T (0, 0)) from h]
  exact hk
theorem rv_free {w : World} {g : Nat} {cs : Array Value} {T : TypeId} (h : w.heap[g]? = some (.cells cs T (0, 0))) (k : Nat) : w.frozen? ⟨g, k, none⟩ = false := by
  unfold World.frozen?
  rw [show w.heap[(⟨g, k, none⟩ : Addr).block]? = some (.cells cs T (0, 0)) from h]
  simp
/-- The array that attempt hands back. -/
def readA (bs : List Int) : List Int := match readV bs with
  | some X => X
  | none => pad []
theorem readA_len {bs : List Int} (hx : Bytes bs) : (readA bs).length = 16 := by
  unfold readA
  cases h : readV bs with
  | some X => exact readV_len hx h
  | none => exact pad_len (by simp)

/-- What counts answers where it is all of the bytes. -/
def countsT (bs : List Int) (e : Ending) : Prop := match readV bs with
  | some X => e = .returned (.agg (arrC X).toArray)
  | none => Bad e

set_option maxHeartbeats 2000000 in
set_option maxRecDepth 100000 in
theorem allCounts_any (C b k0 k1 : Nat) (w : World) (va : Value) (bs : List Int) (hx : Bytes bs) (hl : bs.length ≤ 1048576) (hC : C ≤ b) (hb : b < w.heap.size) (hr : Rd C w va (bs.map (Value.int .u8))) (hR : Rdr w b va 0) (hk0 : k0 < w.heap.size) (hk1 : k1 < w.heap.size) (hkb : k0 ≠ b) (h0 : w.cell? ⟨k0, 0, none⟩ = some va) (h1 : w.cell? ⟨k1, 0, none⟩ = some (.func (.func 52) #[] #[])) :
    Calls Try.prog 88 #[.pointer (some ⟨b, 0, none⟩), .pointer (some ⟨k1, 0, none⟩), .pointer (some ⟨k0, 0, none⟩)] w fun e w' => countsT bs e ∧ w.grownBy w' (some b) := by
  have hZ : (#[.int .i64 0, .int .i64 0, .int .i64 0, .int .i64 0, .int .i64 0, .int .i64 0, .int .i64 0, .int .i64 0, .int .i64 0, .int .i64 0, .int .i64 0, .int .i64 0, .int .i64 0, .int .i64 0, .int .i64 0, .int .i64 0] : Array Value) = (arrC (pad [])).toArray := rfl
  have hp0 : (pad []).length = 16 := pad_len (by simp)
  have hc := counts_any C b (w.alloc (.cells (arrC (pad [])).toArray 71)) va bs hx hl hC (by simp; omega) (hr.grown (World.grownBy_alloc w _ none) (fun k hk => by cases hk)) (hR.alloc _)
  have h1' : (w.alloc (.cells (arrC (pad [])).toArray 71)).cell? ⟨k1, 0, none⟩ = some (.func (.func 52) #[] #[]) := (World.cell?_of_block (w := w) (Below.heap_alloc w _ k1 hk1)).trans h1
  cases hG : readV bs with
  | none =>
    unfold readR at hc
    rw [hG] at hc
    have HN : Hid (∀ e, Bad e → countsT bs e) := fun e he => by unfold countsT; rw [hG]; exact he
    clear hG
    go_enter Try.func88, Try.ntmps88
    go_wp2_with fail
    refine hc.mono ?_
    rintro e w1 ⟨he, hg⟩
    have HB := HN.out e he
    unfold Bad at he
    subst he
    exact ⟨rfl, HB, grownBy_trans (World.grownBy_alloc w _ _) hg⟩
  | some X =>
    have hX := readV_len hx hG
    unfold readR at hc
    rw [hG] at hc
    have HN : Hid (countsT bs (.returned (.agg (arrC X).toArray))) := by unfold Hid countsT; rw [hG]
    clear hG
    have HI : Hid _ := arr_info hX
    have HI' : Hid _ := arr_info' hX
    obtain ⟨ao, cap, rfl, hrr⟩ := hr
    clear hrr
    rw [List.length_map] at h0 hR hc
    go_enter Try.func88, Try.ntmps88
    go_wp2_with fail
    refine hc.mono ?_
    rintro e w1 ⟨⟨rfl, hR1⟩, hg⟩
    have s1 := hg.size
    simp only [World.size_alloc] at s1
    have b0 : w1.heap[w.heap.size]? = some (.cells (arrC (pad [])).toArray 71 (0, 0)) := by
      rw [hg.block w.heap.size (by simp) (by simp; omega)]
      exact heap_alloc_new w _
    have o0 := own_arr b0 hp0 (Nat.le_refl _)
    have ht : w1.there w.heap.size 0 16 := fun j hj => by
      rw [Nat.zero_add, own_cell o0 (k := j) (by rw [arrC_len, hp0]; exact hj)]
      exact ⟨rfl, own_free o0 j⟩
    have c0 : w1.cell? ⟨k0, 0, none⟩ = some (.slice ao bs.length cap) := (World.cell?_of_block (w := w) ((hg.block k0 (by simp; omega) (by simpa using hkb)).trans (Below.heap_alloc w _ k0 hk0))).trans h0
    have hgw : w.grownBy w1 (some b) := grownBy_trans (World.grownBy_alloc w _ _) hg
    obtain ⟨hB2, hr2, ht2, hs2, hb2⟩ := arr_put (Below.refl w1.heap.size w1) (Nat.le_refl _) (arrC (pad [])).toArray (by simp [arrC_len, hp0]) 71 X hX
    have r1 : ((w1.alloc (.cells (arrC (pad [])).toArray 71)).setCells w1.heap.size 0 (arrC X)).cell? ⟨b, 1, none⟩ = some (.int .i64 (bs.length : Int)) := (World.cell?_of_block (w := w1) (hb2.block b (by omega))).trans hR1.c1
    have c2 : ((w1.alloc (.cells (arrC (pad [])).toArray 71)).setCells w1.heap.size 0 (arrC X)).cell? ⟨k0, 0, none⟩ = some (.slice ao bs.length cap) := (World.cell?_of_block (w := w1) (hb2.block k0 (by omega))).trans c0
    have ht3 : ((w1.alloc (.cells (arrC (pad [])).toArray 71)).setCells w1.heap.size 0 (arrC X)).there w.heap.size 0 (arrC X).toArray.size := by
      rw [show (arrC X).toArray.size = 16 by simp [arrC_len, hX]]
      exact there_more hb2 (by omega) ht
    have hg2 : w.grownBy ((w1.alloc (.cells (arrC (pad [])).toArray 71)).setCells w1.heap.size 0 (arrC X)) (some b) := grownBy_trans hgw (grownBy_below hb2 (Nat.le_refl _) _)
    clear hc hg hR hR1 b0 o0 ht c0 hgw h0 h1 h1' hB2
    go_wp2_with (first | (refine wpList_store_mid rfl 71 _ _ rfl w1.heap.size 0 (arrC X).toArray rfl rfl ht2 HI'.out (arrC_all X) ?_))
    generalize (w1.alloc (.cells (arrC (pad [])).toArray 71)).setCells w1.heap.size 0 (arrC X) = w2 at *
    go_quiet ((go_at_call 79; exact Calls.quiet_of_same (require_yes _ _)))
    have hr3 : (w2.drewN nq).rangeAt w1.heap.size 0 (arrC X) := hr2
    have ht4 : (w2.drewN nq).there w.heap.size 0 (arrC X).toArray.size := ht3
    have hg3 : w.grownBy (w2.drewN nq) (some b) := grownBy_trans hg2 (grownBy_drewN _ _ _)
    clear hr2 ht3 hg2 r1 c2
    generalize w2.drewN nq = w3 at *
    go_wp2_with (first | (refine wpList_load_mid rfl 71 _ rfl w1.heap.size 0 rfl (arrC X) _ hr3 Try.underlying71 rfl HI.out ?_) | (refine wpList_store_mid rfl 71 _ _ rfl w.heap.size 0 (arrC X).toArray rfl rfl ht4 HI'.out (arrC_all X) ?_))
    have hrs : (w3.setCells w.heap.size 0 (arrC X)).rangeAt w.heap.size 0 (arrC X) := World.rangeAt_setCells_same _ _ _ _ (by rw [show (arrC X).toArray.size = (arrC X).length by simp] at ht4; exact ht4)
    have hld := run_loadVar_mid (P := Try.prog) _ w.heap.size 0 71 (arrC X) _ hrs Try.underlying71 rfl HI.out
    have hgf : w.grownBy (w3.setCells w.heap.size 0 (arrC X)) (some b) := by
      have hB : Below w.heap.size w3 (w3.setCells w.heap.size 0 (arrC X)) := below_setCells (Nat.le_refl _) _ _ _ (Below.refl _ _)
      exact ⟨hB.os.trans hg3.os, hB.tape.trans hg3.tape, hB.output.trans hg3.output, Nat.le_trans hg3.size hB.size, fun k hk hn => (hB.block k hk).trans (hg3.block k hk hn)⟩
    exact bodyPost_ret (v := .agg (arrC X).toArray) (by simp [results, Try.results88, asAddr, Act.put, hld]) rfl ⟨HN.out, hgf⟩

set_option maxHeartbeats 400000 in
theorem catchCounts_panic (p : Addr) (x : Int) (w : World) (hc : w.cell? p = some (.int .i64 x)) (hz : w.frozen? p = false) :
    CallsD Try.prog 100 #[.pointer (some p)] (.panicking [{ v := .iface 108 (.int .i64 3), recovered := false }]) w fun e u' w' =>
      e = .returned (.tuple #[]) ∧ u' = .panicking [{ v := .iface 108 (.int .i64 3), recovered := true }] ∧ w' = w.setCell p (.int .i64 3) := by
  refine callsD_of_wpS Try.func100 rfl fun c₀ cs hu => ?_
  apply wpS_seq
  apply wpS_region
  simp [wpOpsS, go_sem, recoverD, hu, Try.ntmps100, Exit.thenS]
  refine wpS_of_wp ?_
  rw [show Array.replicate 6 undef = #[undef, undef, undef, undef, undef, undef] from rfl]
  simp
  go_wp2_with (first | (go_at_call 90; refine (faultCode_any _).mono ?_; rintro e w' ⟨rfl, rfl⟩))
  simp [bodyPostS, results, Try.results100]

set_option maxHeartbeats 400000 in
theorem catchCounts_idle (p : Addr) (w : World) :
    CallsD Try.prog 100 #[.pointer (some p)] .returning w fun e u' w' => e = .returned (.tuple #[]) ∧ u' = .returning ∧ w' = w := by
  refine callsD_of_wpS Try.func100 rfl fun c₀ cs hu => ?_
  apply wpS_seq
  apply wpS_region
  simp [wpOpsS, go_sem, recoverD, hu, Try.ntmps100, Exit.thenS]
  refine wpS_of_wp ?_
  rw [show Array.replicate 6 undef = #[undef, undef, undef, undef, undef, undef] from rfl]
  simp
  go_wp2
  cases c₀
  simp_all [bodyPostS, results, Try.results100]

set_option maxHeartbeats 2000000 in
set_option maxRecDepth 100000 in
theorem attemptCounts_any (C b k0 k1 : Nat) (w : World) (va : Value) (bs : List Int) (hx : Bytes bs) (hl : bs.length ≤ 1048576) (hC : C ≤ b) (hb : b < w.heap.size) (hr : Rd C w va (bs.map (Value.int .u8))) (hR : Rdr w b va 0) (hk0 : k0 < w.heap.size) (hk1 : k1 < w.heap.size) (hkb : k0 ≠ b) (h0 : w.cell? ⟨k0, 0, none⟩ = some va) (h1 : w.cell? ⟨k1, 0, none⟩ = some (.func (.func 52) #[] #[])) :
    Calls Try.prog 87 #[.pointer (some ⟨b, 0, none⟩), .func (.func 88) #[] #[.pointer (some ⟨k1, 0, none⟩), .pointer (some ⟨k0, 0, none⟩)]] w fun e w' => e = .returned (.tuple #[.agg (arrC (readA bs)).toArray, .int .i64 (readC bs)]) ∧ w.grownBy w' (some b) := by
  have hmf : ∀ (fn : Fn) (first cap : Array Value) (w : World), (Instr.makeFunc fn first cap).run Try.prog w = .ok (.func fn first cap) w := fun _ _ _ _ => rfl
  have hZ : (#[.int .i64 0, .int .i64 0, .int .i64 0, .int .i64 0, .int .i64 0, .int .i64 0, .int .i64 0, .int .i64 0, .int .i64 0, .int .i64 0, .int .i64 0, .int .i64 0, .int .i64 0, .int .i64 0, .int .i64 0, .int .i64 0] : Array Value) = (arrC (pad [])).toArray := rfl
  have hp0 : (pad []).length = 16 := pad_len (by simp)
  have hr2 : Rd C ((w.alloc (.cells (arrC (pad [])).toArray 71)).alloc (.cells #[.int .i64 0] 3)) va (bs.map (Value.int .u8)) := (hr.grown (World.grownBy_alloc w _ none) (fun k hk => by cases hk)).grown (World.grownBy_alloc _ _ none) (fun k hk => by cases hk)
  have hR2 := (hR.alloc (.cells (arrC (pad [])).toArray 71)).alloc (.cells #[.int .i64 0] 3)
  have q0 : ((w.alloc (.cells (arrC (pad [])).toArray 71)).alloc (.cells #[.int .i64 0] 3)).cell? ⟨k0, 0, none⟩ = some va := (World.cell?_of_block (w := w) ((Below.heap_alloc _ _ k0 (by simp; omega)).trans (Below.heap_alloc w _ k0 hk0))).trans h0
  have q1 : ((w.alloc (.cells (arrC (pad [])).toArray 71)).alloc (.cells #[.int .i64 0] 3)).cell? ⟨k1, 0, none⟩ = some (.func (.func 52) #[] #[]) := (World.cell?_of_block (w := w) ((Below.heap_alloc _ _ k1 (by simp; omega)).trans (Below.heap_alloc w _ k1 hk1))).trans h1
  have hc := allCounts_any C b k0 k1 _ va bs hx hl hC (by simp; omega) hr2 hR2 (by simp; omega) (by simp; omega) hkb q0 q1
  have facts : ∀ w1, ((w.alloc (.cells (arrC (pad [])).toArray 71)).alloc (.cells #[.int .i64 0] 3)).grownBy w1 (some b) →
      w1.cell? ⟨w.heap.size + 1, 0, none⟩ = some (.int .i64 0) ∧ w1.frozen? ⟨w.heap.size + 1, 0, none⟩ = false ∧ w1.there w.heap.size 0 16 ∧ w1.rangeAt w.heap.size 0 (arrC (pad [])) ∧ w.grownBy w1 (some b) := by
    intro w1 hg
    have k1 : w1.heap[w.heap.size + 1]? = some (.cells #[.int .i64 0] 3 (0, 0)) := by
      rw [hg.block (w.heap.size + 1) (by simp) (by simp; omega)]
      have := heap_alloc_new (w.alloc (.cells (arrC (pad [])).toArray 71)) (.cells #[.int .i64 0] 3)
      rw [World.size_alloc] at this
      exact this
    have k0 : w1.heap[w.heap.size]? = some (.cells (arrC (pad [])).toArray 71 (0, 0)) := by
      rw [hg.block w.heap.size (by simp; omega) (by simp; omega), Below.heap_alloc _ _ _ (by simp)]
      exact heap_alloc_new w _
    have o0 := own_arr k0 hp0 (Nat.le_refl _)
    refine ⟨by simp [World.cell?, k1], by simp [World.frozen?, k1], fun j hj => ?_, own_range o0, grownBy_trans (grownBy_trans (World.grownBy_alloc _ _ _) (World.grownBy_alloc _ _ _)) hg⟩
    rw [Nat.zero_add, own_cell o0 (k := j) (by rw [arrC_len, hp0]; exact hj)]
    exact ⟨rfl, own_free o0 j⟩
  have HI0 : Hid _ := arr_info hp0
  cases hG : readV bs with
  | none =>
    have e1 : readA bs = pad [] := by unfold readA; rw [hG]
    have e2 : readC bs = 3 := by unfold readC; rw [hG]
    rw [e1, e2]
    unfold countsT at hc
    rw [hG] at hc
    clear e1 e2 hG
    go_enter_defers Try.func87, Try.ntmps87
    go_wp2_with fail
    refine hc.mono ?_
    rintro e w1 ⟨he, hg⟩
    unfold Bad at he
    subst he
    obtain ⟨c1, f1, ht, hrg, hgw⟩ := facts w1 hg
    refine leaves_cons (f := 100) (args := #[.pointer (some ⟨w.heap.size + 1, 0, none⟩)]) (by simp) (by simp [go_sem]) ?_
    refine (catchCounts_panic ⟨w.heap.size + 1, 0, none⟩ 0 w1 c1 f1).mono ?_
    rintro e u' w'' ⟨rfl, rfl, rfl⟩
    have hcell : (w1.setCell ⟨w.heap.size + 1, 0, none⟩ (.int .i64 3)).cell? ⟨w.heap.size + 1, 0, none⟩ = some (.int .i64 3) := World.cell?_setCell_same w1 _ _ c1
    have hres : w.grownBy (w1.setCell ⟨w.heap.size + 1, 0, none⟩ (.int .i64 3)) (some b) := gr_setp hgw (by omega)
    have hr3 : (w1.setCell ⟨w.heap.size + 1, 0, none⟩ (.int .i64 3)).rangeAt w.heap.size 0 (arrC (pad [])) := World.rangeAt_setCells_apart hrg (w.heap.size + 1) 0 [.int .i64 3] (.inl (by omega))
    generalize w1.setCell ⟨w.heap.size + 1, 0, none⟩ (.int .i64 3) = w2 at hres hcell hr3 ⊢
    have hld := run_loadVar_mid (P := Try.prog) w2 w.heap.size 0 71 (arrC (pad [])) _ hr3 Try.underlying71 rfl HI0.out
    have hl5 := (by simp [go_sem, hcell] : (loadVar 3 ⟨w.heap.size + 1, 0, none⟩).run Try.prog w2 = .ok (.int .i64 3) w2)
    simp [Leaves, settle, results, Try.results87, asAddr, hld, hl5]
    exact hres
  | some X =>
    have hX := readV_len hx hG
    have e1 : readA bs = X := by unfold readA; rw [hG]
    have e2 : readC bs = 0 := by unfold readC; rw [hG]
    rw [e1, e2]
    unfold countsT at hc
    rw [hG] at hc
    clear e1 e2 hG
    have HI : Hid _ := arr_info hX
    have HI' : Hid _ := arr_info' hX
    have sX : (arrC X).toArray.size = 16 := by simp [arrC_len, hX]
    go_enter_defers Try.func87, Try.ntmps87
    go_wp2_with fail
    refine hc.mono ?_
    rintro e w1 ⟨rfl, hg⟩
    obtain ⟨c1, f1, ht, hrg, hgw⟩ := facts w1 hg
    have ht' : w1.there w.heap.size 0 (arrC X).toArray.size := by rw [sX]; exact ht
    have c2 : (w1.setCells w.heap.size 0 (arrC X)).cell? ⟨w.heap.size + 1, 0, none⟩ = some (.int .i64 0) := (World.cell?_setCells_out w.heap.size (arrC X) 0 w1 _ (fun e => absurd e (by show ¬ w.heap.size + 1 = w.heap.size; omega))).trans c1
    have f2 : (w1.setCells w.heap.size 0 (arrC X)).frozen? ⟨w.heap.size + 1, 0, none⟩ = false := (World.frozen?_setCells w.heap.size (arrC X) 0 _ _).trans f1
    have hrs : (w1.setCells w.heap.size 0 (arrC X)).rangeAt w.heap.size 0 (arrC X) := World.rangeAt_setCells_same _ _ _ _ (by rw [arrC_len, hX]; exact ht)
    have hB2 : Below w.heap.size w1 (w1.setCells w.heap.size 0 (arrC X)) := below_setCells (Nat.le_refl _) _ _ _ (Below.refl _ _)
    have hgf : w.grownBy (w1.setCells w.heap.size 0 (arrC X)) (some b) := ⟨hB2.os.trans hgw.os, hB2.tape.trans hgw.tape, hB2.output.trans hgw.output, Nat.le_trans hgw.size hB2.size, fun k hk hn => (hB2.block k hk).trans (hgw.block k hk hn)⟩
    clear hr hR hr2 hR2 hg hrg facts hc q0 q1 h0 h1
    go_wp2_with (first | (refine wpList_store_mid rfl 71 _ _ rfl w.heap.size 0 (arrC X).toArray rfl rfl ht' HI'.out (arrC_all X) ?_))
    refine leaves_cons (f := 100) (args := #[.pointer (some ⟨w.heap.size + 1, 0, none⟩)]) (by simp) (by simp [go_sem]) ?_
    refine (catchCounts_idle ⟨w.heap.size + 1, 0, none⟩ _).mono ?_
    rintro e u' w'' ⟨rfl, rfl, rfl⟩
    have hcell : ((w1.setCells w.heap.size 0 (arrC X)).setCell ⟨w.heap.size + 1, 0, none⟩ (.int .i64 0)).cell? ⟨w.heap.size + 1, 0, none⟩ = some (.int .i64 0) := World.cell?_setCell_same _ _ _ c2
    have hres : w.grownBy ((w1.setCells w.heap.size 0 (arrC X)).setCell ⟨w.heap.size + 1, 0, none⟩ (.int .i64 0)) (some b) := gr_setp hgf (by omega)
    have hr3 : ((w1.setCells w.heap.size 0 (arrC X)).setCell ⟨w.heap.size + 1, 0, none⟩ (.int .i64 0)).rangeAt w.heap.size 0 (arrC X) := World.rangeAt_setCells_apart hrs (w.heap.size + 1) 0 [.int .i64 0] (.inl (by omega))
    generalize (w1.setCells w.heap.size 0 (arrC X)).setCell ⟨w.heap.size + 1, 0, none⟩ (.int .i64 0) = w2 at hres hcell hr3 ⊢
    have hld := run_loadVar_mid (P := Try.prog) w2 w.heap.size 0 71 (arrC X) _ hr3 Try.underlying71 rfl HI.out
    have hl5 := (by simp [go_sem, hcell] : (loadVar 3 ⟨w.heap.size + 1, 0, none⟩).run Try.prog w2 = .ok (.int .i64 0) w2)
    simp [Leaves, settle, results, Try.results87, asAddr, hld, hl5]
    exact hres

set_option maxHeartbeats 2000000 in
set_option maxRecDepth 100000 in
theorem attemptAllCounts_any (C : Nat) (w : World) (v : Value) (bs : List Int) (hx : Bytes bs) (hl : bs.length ≤ 1048576) (hC : C ≤ w.heap.size) (hr : Rd C w v (bs.map (Value.int .u8))) :
    Calls Try.prog 51 #[v, .func (.func 52) #[] #[]] w fun e w' => e = .returned (.tuple #[.agg (arrC (readA bs)).toArray, .int .i64 (readC bs)]) ∧ Below w.heap.size w w' := by
  have hmf : ∀ (fn : Fn) (first cap : Array Value) (w : World), (Instr.makeFunc fn first cap).run Try.prog w = .ok (.func fn first cap) w := fun _ _ _ _ => rfl
  have hr0 := hr
  obtain ⟨ao, cap, rfl, hcap, hmax, hnil, hr⟩ := hr
  rw [List.length_map] at hr hr0 ⊢
  clear hr
  have hA := readA_len hx
  have HI : Hid _ := arr_info hA
  have HI' : Hid _ := arr_info' hA
  have hp0 : (pad []).length = 16 := pad_len (by simp)
  have hB0 : Below w.heap.size w ((((w.alloc (.cells #[.slice ao bs.length cap] 22)).alloc (.cells #[.func (.func 52) #[] #[]] 74)).alloc (.cells (arrC (pad [])).toArray 71)).alloc (.cells #[.slice ao bs.length cap, .int .i64 0] 80)) := below_then (below_then (below_then (below_alloc _ _) _) _) _
  have hR0 : Rdr ((((w.alloc (.cells #[.slice ao bs.length cap] 22)).alloc (.cells #[.func (.func 52) #[] #[]] 74)).alloc (.cells (arrC (pad [])).toArray 71)).alloc (.cells #[.slice ao bs.length cap, .int .i64 0] 80)) (w.heap.size + 3) (.slice ao bs.length cap) 0 := by
    have := heap_alloc_new (((w.alloc (.cells #[.slice ao bs.length cap] 22)).alloc (.cells #[.func (.func 52) #[] #[]] 74)).alloc (.cells (arrC (pad [])).toArray 71)) (.cells #[.slice ao bs.length cap, .int .i64 0] 80)
    rw [World.size_alloc, World.size_alloc, World.size_alloc] at this
    exact this
  have k0 : ((((w.alloc (.cells #[.slice ao bs.length cap] 22)).alloc (.cells #[.func (.func 52) #[] #[]] 74)).alloc (.cells (arrC (pad [])).toArray 71)).alloc (.cells #[.slice ao bs.length cap, .int .i64 0] 80)).heap[w.heap.size]? = some (.cells #[.slice ao bs.length cap] 22 (0, 0)) := by
    rw [Below.heap_alloc _ _ _ (by simp; omega), Below.heap_alloc _ _ _ (by simp; omega), Below.heap_alloc _ _ _ (by simp)]
    exact heap_alloc_new w _
  have k1 : ((((w.alloc (.cells #[.slice ao bs.length cap] 22)).alloc (.cells #[.func (.func 52) #[] #[]] 74)).alloc (.cells (arrC (pad [])).toArray 71)).alloc (.cells #[.slice ao bs.length cap, .int .i64 0] 80)).heap[w.heap.size + 1]? = some (.cells #[.func (.func 52) #[] #[]] 74 (0, 0)) := by
    rw [Below.heap_alloc _ _ _ (by simp only [World.size_alloc]; omega), Below.heap_alloc _ _ _ (by simp)]
    have := heap_alloc_new (w.alloc (.cells #[.slice ao bs.length cap] 22)) (.cells #[.func (.func 52) #[] #[]] 74)
    rw [World.size_alloc] at this
    exact this
  have k2 : ((((w.alloc (.cells #[.slice ao bs.length cap] 22)).alloc (.cells #[.func (.func 52) #[] #[]] 74)).alloc (.cells (arrC (pad [])).toArray 71)).alloc (.cells #[.slice ao bs.length cap, .int .i64 0] 80)).heap[w.heap.size + 2]? = some (.cells (arrC (pad [])).toArray 71 (0, 0)) := by
    rw [Below.heap_alloc _ _ _ (by simp)]
    have := heap_alloc_new ((w.alloc (.cells #[.slice ao bs.length cap] 22)).alloc (.cells #[.func (.func 52) #[] #[]] 74)) (.cells (arrC (pad [])).toArray 71)
    rw [World.size_alloc, World.size_alloc] at this
    exact this
  have hc := attemptCounts_any C (w.heap.size + 3) w.heap.size (w.heap.size + 1) _ _ bs hx hl (by omega) (by simp) (hr0.below (hB0.mono hC)) hR0 (by simp only [World.size_alloc]; omega) (by simp only [World.size_alloc]; omega) (by omega) (at_cell k0) (at_cell k1)
  generalize readA bs = X at *
  generalize readC bs = k at *
  go_enter Try.func51, Try.ntmps51
  go_wp2_with fail
  refine hc.mono ?_
  rintro e w1 ⟨rfl, hg⟩
  have hB1 : Below w.heap.size w w1 := hB0.grown hg (by simp; omega) (fun j hj => by cases hj; omega)
  have s1 := hg.size
  simp only [World.size_alloc] at s1
  have b2 : w1.heap[w.heap.size + 2]? = some (.cells (arrC (pad [])).toArray 71 (0, 0)) := by
    rw [hg.block (w.heap.size + 2) (by simp) (by simp)]
    exact k2
  have o2 := own_arr b2 hp0 (Nat.le_refl _)
  have ht : w1.there (w.heap.size + 2) 0 (arrC X).toArray.size := fun j hj => by
    have hj' : j < 16 := by simpa [arrC_len, hA] using hj
    rw [Nat.zero_add, own_cell o2 (k := j) (by rw [arrC_len, hp0]; exact hj')]
    exact ⟨rfl, own_free o2 j⟩
  clear hc hg hB0 hR0 k0 k1 k2 hr0 b2 o2
  go_wp2_with (first | (refine wpList_store_mid rfl 71 _ _ rfl (w.heap.size + 2) 0 (arrC X).toArray rfl rfl ht HI'.out (arrC_all X) ?_))
  have hrs : (w1.setCells (w.heap.size + 2) 0 (arrC X)).rangeAt (w.heap.size + 2) 0 (arrC X) := World.rangeAt_setCells_same _ _ _ _ (by rw [show (arrC X).toArray.size = (arrC X).length by simp] at ht; exact ht)
  have hld := run_loadVar_mid (P := Try.prog) _ (w.heap.size + 2) 0 71 (arrC X) _ hrs Try.underlying71 rfl HI.out
  have hBf : Below w.heap.size w (w1.setCells (w.heap.size + 2) 0 (arrC X)) := below_setCells (by omega) _ _ _ hB1
  exact bodyPost_ret (v := .tuple #[.agg (arrC X).toArray, .int .i64 k]) (by simp [results, Try.results51, asAddr, hld]) rfl ⟨rfl, hBf⟩

/-- What both functions ReadVec answer: a row of the call's own, and the code. -/
def RvAns (bs : List Int) (w : World) (e : Ending) (w' : World) : Prop :=
  ∃ a n c T, e = .returned (.tuple #[.agg #[.slice a n c], .int .i64 (readC bs)]) ∧ Own T w' w.heap.size (.slice a n c) ((readB bs).map (Value.int .i64)) ∧ Below w.heap.size w w'
theorem readB_len {bs : List Int} (hx : Bytes bs) : (readB bs).length ≤ 16 := by
  unfold readB
  cases h : readV bs with
  | some X => have := readV_len hx h; simp; omega
  | none => simp

set_option maxHeartbeats 2000000 in
set_option maxRecDepth 100000 in
theorem implReadVec_any (C : Nat) (w : World) (v : Value) (bs : List Int) (hx : Bytes bs) (hl : bs.length ≤ 1048576) (hC : C ≤ w.heap.size) (hr : Rd C w v (bs.map (Value.int .u8))) :
    Calls Try.prog 21 #[v] w (RvAns bs w) := by
  have hr0 := hr
  obtain ⟨ao, cap, rfl, hcap, hmax, hnil, hr⟩ := hr
  rw [List.length_map] at hr hr0 ⊢
  clear hr
  have hlen : ¬ (1048576 : Int) < (bs.length : Int) := by omega
  have hB0 : Below w.heap.size w (w.alloc (.cells #[.slice none 0 0] 38)) := below_alloc _ _
  have k0 : (w.alloc (.cells #[.slice none 0 0] 38)).heap[w.heap.size]? = some (.cells #[.slice none 0 0] 38 (0, 0)) := heap_alloc_new w _
  have hc := attemptAllCounts_any C (w.alloc (.cells #[.slice none 0 0] 38)) _ bs hx hl (by simp; omega) (hr0.below (hB0.mono hC))
  have hA := readA_len hx
  have HI : Hid _ := arr_info hA
  have HI' : Hid _ := arr_info' hA
  have HP : Hid ((readC bs = 0 ∧ readB bs = readA bs) ∨ (readC bs = 3 ∧ readB bs = [])) := by
    unfold Hid readC readB readA
    cases readV bs with
    | some X => exact .inl ⟨rfl, rfl⟩
    | none => exact .inr ⟨rfl, rfl⟩
  unfold RvAns
  generalize readA bs = X at *
  generalize readB bs = Y at *
  generalize readC bs = k at *
  go_enter Try.func21, Try.ntmps21
  go_wp2_with fail
  refine hc.mono ?_
  rintro e w1 ⟨rfl, hg⟩
  have hB1 : Below w.heap.size w w1 := below_seq hB0 hg
  have k1 : w1.heap[w.heap.size]? = some (.cells #[.slice none 0 0] 38 (0, 0)) := by
    rw [hg.block w.heap.size (by simp)]
    exact k0
  have s1 := hg.size
  simp only [World.size_alloc] at s1
  obtain ⟨hB2, hr2, ht2, hs2, hb2⟩ := arr_put hB1 hB1.size #[.int .i64 0, .int .i64 0, .int .i64 0, .int .i64 0, .int .i64 0, .int .i64 0, .int .i64 0, .int .i64 0, .int .i64 0, .int .i64 0, .int .i64 0, .int .i64 0, .int .i64 0, .int .i64 0, .int .i64 0, .int .i64 0] rfl 71 X hA
  have k2 := (hb2.block w.heap.size (by omega)).trans k1
  have c0 := rv_cell k2 0 rfl
  have f0 := rv_free k2 0
  clear hc hg hB0 k0 k1 hB1 hr0
  rcases HP.out with ⟨rfl, rfl⟩ | ⟨rfl, rfl⟩
  · clear HP
    go_wp2_with (first | (refine wpList_store_mid rfl 71 _ _ rfl w1.heap.size 0 (arrC Y).toArray rfl rfl ht2 HI'.out (arrC_all Y) ?_) | (refine wpList_load_mid rfl 71 _ rfl w1.heap.size 0 rfl (arrC Y) _ hr2 Try.underlying71 rfl HI.out ?_))
    refine (vector_any _ Y hA).mono ?_
    rintro e w3 ⟨a3, rfl, ho3, hb3⟩
    have k3 := (hb3.block w.heap.size (by omega)).trans k2
    have c3 := rv_cell k3 0 rfl
    have f3 := rv_free k3 0
    have hB3 := (below_seq hB2 hb3).setCell (p := ⟨w.heap.size, 0, none⟩) (Nat.le_refl _) (.slice a3 16 16)
    have ho4 := (ho3.apart (grownBy_set w3 w.heap.size 0 (.slice a3 16 16)) (fun j hj => by cases hj; omega)).mono (B' := w.heap.size) (by omega)
    have q0 : (w3.setCell ⟨w.heap.size, 0, none⟩ (.slice a3 16 16)).cell? ⟨w.heap.size, 0, none⟩ = some (.slice a3 16 16) := World.cell?_setCell_same _ _ _ c3
    clear ho3 hb3 hB2 hr2 ht2 c0 f0
    go_wp2_with fail
    refine bodyPost_ret (v := .tuple #[.agg #[.slice a3 16 16], .int .i64 0]) ?_ rfl ⟨_, _, _, _, rfl, ho4, hB3⟩
    simp [results, Try.results21, go_sem, q0]
  · clear HP
    have hB3 := hB2.setCell (p := ⟨w.heap.size, 0, none⟩) (Nat.le_refl _) (.slice none 0 0)
    have q0 : (((w1.alloc (.cells #[.int .i64 0, .int .i64 0, .int .i64 0, .int .i64 0, .int .i64 0, .int .i64 0, .int .i64 0, .int .i64 0, .int .i64 0, .int .i64 0, .int .i64 0, .int .i64 0, .int .i64 0, .int .i64 0, .int .i64 0, .int .i64 0] 71)).setCells w1.heap.size 0 (arrC X)).setCell ⟨w.heap.size, 0, none⟩ (.slice none 0 0)).cell? ⟨w.heap.size, 0, none⟩ = some (.slice none 0 0) := World.cell?_setCell_same _ _ _ c0
    clear hr2
    go_wp2_with (first | (refine wpList_store_mid rfl 71 _ _ rfl w1.heap.size 0 (arrC X).toArray rfl rfl ht2 HI'.out (arrC_all X) ?_))
    refine bodyPost_ret (v := .tuple #[.agg #[.slice none 0 0], .int .i64 3]) ?_ rfl ⟨_, _, _, 3, rfl, World.ownsRow_nil _ _ _ _, hB3⟩
    simp [results, Try.results21, go_sem, q0]

end Go.Proofs.Ytpiadcjkbbgggaa
