/- The code's ledger: what cut answers. LogAt: what the code's answers. -/
import Derived.Test.YtcmgdeeamcimhaaQGrowOpsToAtMath
import Derived.Test.YtcmgdeeamcimhaaQLedClosedToLogOKImpl
import Derived.Test.YtcmgdeeamcimhaaQVecArr
import Derived.Test.YtcmgdeeamcimhaaQRowKeep
import Derived.Test.YtcmgdeeamcimhaaQCopyOpsToAnsOps
namespace Go.Proofs.Ytcmgdeeamcimhaa
open Go.RowKit
set_option linter.unusedVariables false

theorem Led.capOf {w : World} {B lb : Nat} {vs : List Value} {P : List Ov} (h : Led w B lb vs P) {a : Nat} (ha : a < 16) : ∃ ao cap, vs.getD a undef = .slice ao (byA P a).length cap ∧ (byA P a).length ≤ cap ∧ cap ≤ maxLen := by
  obtain ⟨_, h2⟩ := h.row a ha
  rcases h2 with ⟨hv, hn⟩ | ⟨g, cap, cur, hv, _, _, hle, hm, _⟩
  · exact ⟨none, 0, by rw [hv, hn], by omega, by unfold maxLen; omega⟩
  · exact ⟨_, cap, hv, hle, hm⟩
/-- What cut answers. -/
def CutAns (L : List Ov) (ys : List Int) (w : World) (e : Ending) (w' : World) : Prop :=
  (((∀ a, a < 16 → ys.getD a 0 ≤ ((byA L a).length : Int)) ∧ (cutK ys L 16).all (causesB (cutK ys L 16)) = true ∧ ∃ lb vs, e = .returned (.tuple #[.pointer (some ⟨lb, 0, none⟩), .int .i64 0]) ∧ Led w' w.heap.size lb vs (cutK ys L 16)) ∨
   (¬ ((∀ a, a < 16 → ys.getD a 0 ≤ ((byA L a).length : Int)) ∧ (cutK ys L 16).all (causesB (cutK ys L 16)) = true) ∧ e = .returned (.tuple #[.pointer none, .int .i64 5]))) ∧ Below w.heap.size w w'

set_option maxHeartbeats 8000000 in
set_option maxRecDepth 100000 in
theorem cut_any (B C lb : Nat) (vs : List Value) (L : List Ov) (ys : List Int) (w : World) (hL : Led w B lb vs L) (hP : L.length ≤ 1024) (hC : C ≤ w.heap.size) (hd : ∀ x ∈ L, Rd C w x.dv (x.ds.map (Value.int .i64))) (hok : ∀ x ∈ L, x.ok = true) (hy16 : ys.length = 16) (hyb : ∀ a, a < 16 → 0 ≤ ys.getD a 0 ∧ ys.getD a 0 ≤ 1000000000000) :
    Calls Try.prog 40 #[.pointer (some ⟨lb, 0, none⟩), .agg (arrC ys).toArray] w (CutAns L ys w) := by
  unfold CutAns
  have HI : Hid _ := arr_info hy16
  have sx : (arrC ys).toArray.size = 16 := by simp [arrC_len, hy16]
  have HLE : Hid (∀ a, (byA L a).length ≤ 1024) := fun a => Nat.le_trans (List.length_filter_le _ _) hP
  have HYB : Hid (∀ a, a < 16 → 0 ≤ ys.getD a 0 ∧ ys.getD a 0 ≤ 1000000000000) := hyb
  have HCL : Hid (∀ k, (cutK ys L k).length ≤ 1024) := fun k => Nat.le_trans (cutK_len ys L k) (Nat.le_trans (allK_le L k) hP)
  have hZ : (#[.slice none 0 0, .slice none 0 0, .slice none 0 0, .slice none 0 0, .slice none 0 0, .slice none 0 0, .slice none 0 0, .slice none 0 0, .slice none 0 0, .slice none 0 0, .slice none 0 0, .slice none 0 0, .slice none 0 0, .slice none 0 0, .slice none 0 0, .slice none 0 0, .int .i64 0, .int .i64 0, .int .i64 0, .int .i64 0, .int .i64 0, .int .i64 0, .int .i64 0, .int .i64 0, .int .i64 0, .int .i64 0, .int .i64 0, .int .i64 0, .int .i64 0, .int .i64 0, .int .i64 0, .int .i64 0, .int .i64 0, .int .i64 0, .int .i64 0, .int .i64 0, .int .i64 0, .int .i64 0, .int .i64 0, .int .i64 0, .int .i64 0, .int .i64 0, .int .i64 0, .int .i64 0, .int .i64 0, .int .i64 0, .int .i64 0, .int .i64 0, .int .i64 0, .int .i64 0, .int .i64 0, .int .i64 0, .int .i64 0, .int .i64 0, .int .i64 0, .int .i64 0, .int .i64 0, .int .i64 0, .int .i64 0, .int .i64 0, .int .i64 0, .int .i64 0, .int .i64 0, .int .i64 0, .int .i64 0, .int .i64 0, .int .i64 0, .int .i64 0, .int .i64 0, .int .i64 0, .int .i64 0, .int .i64 0, .int .i64 0, .int .i64 0, .int .i64 0, .int .i64 0, .int .i64 0, .int .i64 0, .int .i64 0, .int .i64 0, .int .i64 0, .int .i64 0, .int .i64 0, .int .i64 0, .int .i64 0, .int .i64 0, .int .i64 0, .int .i64 0, .int .i64 0, .int .i64 0, .int .i64 0, .int .i64 0, .int .i64 0, .int .i64 0, .int .i64 0, .int .i64 0, .int .i64 0, .int .i64 0, .int .i64 0, .int .i64 0, .int .i64 0, .int .i64 0, .int .i64 0, .int .i64 0, .int .i64 0, .int .i64 0, .int .i64 0, .int .i64 0, .int .i64 0, .int .i64 0, .int .i64 0, .int .i64 0, .int .i64 0, .int .i64 0, .int .i64 0, .int .i64 0, .int .i64 0, .int .i64 0] : Array Value) = (ledCs (List.replicate 16 (.slice none 0 0)) []).toArray := by kernel_rfl
  have hzv := zero_led
  have hb0 : Below w.heap.size w ((w.alloc (.cells (arrC ys).toArray 71)).alloc (.cells (ledCs (List.replicate 16 (.slice none 0 0)) []).toArray 81)) := below_then (below_alloc _ _) _
  have hrg : ((w.alloc (.cells (arrC ys).toArray 71)).alloc (.cells (ledCs (List.replicate 16 (.slice none 0 0)) []).toArray 81)).rangeAt w.heap.size 0 (arrC ys) := fun j u hj => by
    rw [Nat.zero_add]
    have hs : w.heap.size < (w.alloc (.cells (arrC ys).toArray 71)).heap.size := by rw [World.size_alloc]; omega
    rw [(below_alloc (w.alloc (.cells (arrC ys).toArray 71)) (.cells (ledCs (List.replicate 16 (.slice none 0 0)) []).toArray 81)).cell (p := ⟨w.heap.size, j, none⟩) hs]
    exact cell_made (w := w) (Below.refl _ _) (k := j) (by rw [← hj, List.getElem?_toArray])
  have hL0 : Led ((w.alloc (.cells (arrC ys).toArray 71)).alloc (.cells (ledCs (List.replicate 16 (.slice none 0 0)) []).toArray 81)) w.heap.size (w.heap.size + 1) (List.replicate 16 (.slice none 0 0)) (cutK ys L 0) := by
    have nn : ∀ a, a < 16 → (List.replicate 16 (Value.slice none 0 0)).getD a undef = .slice none 0 0 := fun a ha => by
      rw [List.getD_eq_getElem?_getD, List.getElem?_replicate, if_pos ha]
      rfl
    refine ⟨by simp, ?_, by omega, fun a ha => ?_, fun a ha => ?_, fun a b ha hb hab g hg => ?_⟩
    · have := heap_alloc_new (w.alloc (.cells (arrC ys).toArray 71)) (.cells (ledCs (List.replicate 16 (.slice none 0 0)) []).toArray 81)
      rwa [World.size_alloc] at this
    · rw [nn a ha]; exact ⟨rfl, .inl ⟨rfl, rfl⟩⟩
    · rw [nn a ha]; exact fun h => by cases h
    · rw [nn a ha] at hg; cases hg
  go_enter Try.func40, Try.ntmps40
  go_wp2_with (first | (refine wpList_load_mid rfl 71 _ rfl w.heap.size 0 rfl (arrC ys) _ hrg Try.underlying71 rfl HI.out ?_))
  clear hZ hzv hrg
  go_loopw [14] (fun ti wr => ∃ (k : Nat) (vs2 : List Value), k ≤ 16 ∧ ti = .int .i64 (k : Int) ∧ Led wr w.heap.size (w.heap.size + 1) vs2 (cutK ys L k) ∧ Below w.heap.size w wr ∧ Hid (∀ a, a < k → ys.getD a 0 ≤ ((byA L a).length : Int))) (fun ti _ => 16 - (intOf ti).toNat)
  case atStart => exact ⟨0, _, by omega, rfl, hL0, hb0, fun a ha => absurd ha (by omega)⟩
  case round =>
    clear hL0 hb0
    obtain ⟨k, vs2, hk, rfl, hLd, hB, HA⟩ := hrel
    by_cases hlt : k < 16
    · have hki : (k : Int) < 16 := by omega
      have hle := HLE.out k
      obtain ⟨n, hn⟩ := Int.eq_ofNat_of_zero_le (HYB.out k hlt).1
      have hnb := (HYB.out k hlt).2
      have hix := run_indexArr wr ys k hy16 hlt
      have hyk : ys[k]'(by omega) = (n : Int) := by rw [← hn, List.getD_eq_getElem?_getD, List.getElem?_eq_getElem (by omega)]; rfl
      rw [hyk] at hix
      have hLr := hL.on hB (Nat.le_refl _)
      obtain ⟨ao, cap, hsl, hlc, hcm⟩ := hL.capOf hlt
      have c0 := hLr.cell (led_vs hL.len hlt)
      rw [hsl] at c0
      have hpos : (vs.getD k undef) = .slice ao (byA L k).length cap := hsl
      have HSL : Hid (vs.getD k undef = .slice ao (byA L k).length cap) := hsl
      clear hsl hpos hLr
      by_cases hgt : (byA L k).length < n
      · have hgt' : ((byA L k).length : Int) < (n : Int) := by omega
        have HE : Hid (¬ ((∀ a, a < 16 → ys.getD a 0 ≤ ((byA L a).length : Int)) ∧ (cutK ys L 16).all (causesB (cutK ys L 16)) = true)) := fun h => by
          have := h.1 k hlt
          omega
        clear hLd
        go_wp2_with fail
        go_ret2
        exact ⟨.inr ⟨HE.out, rfl⟩, hB⟩
      · have hgt' : ¬ ((byA L k).length : Int) < (n : Int) := by omega
        have hnl : n ≤ (byA L k).length := by omega
        have hnc : (n : Int) ≤ (cap : Int) := by omega
        have hnc' : n ≤ cap := by omega
        have HA2 : Hid (∀ a, a < k + 1 → ys.getD a 0 ≤ ((byA L a).length : Int)) := fun a ha => by
          by_cases e : a = k
          · subst e; rw [hn]; omega
          · exact HA.out a (by omega)
        have HK : Hid (cutK ys L (k + 1) = cutK ys L k ++ (byA L k).take n) := by
          unfold Hid
          rw [cutK, hn, Int.toNat_natCast]
        go_wp2_with fail
        clear c0 hix
        go_loopw [36] (fun ti wr => ∃ (i : Nat) (vs3 : List Value), i ≤ n ∧ ti = .int .i64 (i : Int) ∧ Led wr w.heap.size (w.heap.size + 1) vs3 (cutK ys L k ++ (byA L k).take i) ∧ Below w.heap.size w wr) (fun ti _ => n - (intOf ti).toNat)
        case atStart => exact ⟨0, vs2, by omega, rfl, by rw [List.take_zero, List.append_nil]; exact hLd, hB⟩
        case round =>
          clear hLd hB vs2
          obtain ⟨i, vs3, hi, rfl, hLd, hB⟩ := hrel
          by_cases hlt2 : i < n
          · have hki2 : (i : Int) < (n : Int) := by omega
            have hil : i < (byA L k).length := by omega
            have hsz := hB.size
            obtain ⟨g, rfl, hg, hcs⟩ := hL.rowAt hlt HSL.out (by omega)
            have hx := (hcs i hil).below hB hg
            have hm : ovAt (byA L k) i ∈ L := (List.mem_filter.1 (ovAt_mem hil)).1
            have hxd := (hd _ hm).below (hB.mono hC)
            have hpt := ok_parts (hok _ hm)
            have hlp : (cutK ys L k ++ (byA L k).take i).length ≤ 1024 := by
              have h1 := cutK_len ys L k
              have h2 := allK_le L (k + 1)
              rw [allK, List.length_append] at h2
              rw [List.length_append, List.length_take]
              omega
            have HTK : Hid ((byA L k).take (i + 1) = (byA L k).take i ++ [ovAt (byA L k) i]) := by
              unfold Hid
              rw [List.take_add_one, ovAt_get hil]
              rfl
            have hPUT : ∀ w1, Below wr.heap.size wr w1 → Calls Try.prog 53 #[.pointer (some ⟨w.heap.size + 1, 0, none⟩), .agg #[.int .i64 (ovAt (byA L k) i).a, .int .i64 (ovAt (byA L k) i).s, .int .i64 (ovAt (byA L k) i).t, (ovAt (byA L k) i).dv, .int .i64 (ovAt (byA L k) i).k, .int .i64 (ovAt (byA L k) i).o, .int .i64 (ovAt (byA L k) i).n, .int .i64 (ovAt (byA L k) i).u, .int .i64 (ovAt (byA L k) i).pt, .int .i64 (ovAt (byA L k) i).pa, .string (ovAt (byA L k) i).ky, .string (ovAt (byA L k) i).tx]] w1 fun e w' => e = .returned (.tuple #[]) ∧ (∃ vs', Led w' w.heap.size (w.heap.size + 1) vs' ((cutK ys L k ++ (byA L k).take i) ++ [ovAt (byA L k) i])) ∧ Below w.heap.size w1 w' := fun w1 hb => ledPut_any w.heap.size (w.heap.size + 1) vs3 _ (ovAt (byA L k) i) w1 (hLd.on hb (Nat.le_refl _)) (ovAt (byA L k) i).a.toNat (ovAt (byA L k) i).o.toNat (by omega) (by omega) (by omega) (by omega) hlp hxd.one
            rw [List.append_assoc, ← HTK.out] at hPUT
            clear hpt hcs hm HTK hlp hil
            generalize ovAt (byA L k) i = x at *
            obtain ⟨xa, xs, xt, xdv, xk, xo, xn, xu, xpt, xpa, xky, xtx, xds⟩ := x
            obtain ⟨c0, c1, c2, c3, c4, c5, c6, c7, c8, c9, c10, c11⟩ := hx
            simp only at c0 c1 c2 c3 c4 c5 c6 c7 c8 c9 c10 c11 hxd hPUT
            obtain ⟨da, dn, dc, rfl⟩ : ∃ da dn dc, xdv = .slice da dn dc := by obtain ⟨da, dc, h, _⟩ := hxd; exact ⟨da, _, dc, h⟩
            have hP1 := hPUT (wr.alloc (.cells #[.int .i64 xa, .int .i64 xs, .int .i64 xt, .slice da dn dc, .int .i64 xk, .int .i64 xo, .int .i64 xn, .int .i64 xu, .int .i64 xpt, .int .i64 xpa, .string xky, .string xtx] 50)) (below_alloc _ _)
            have hBa : Below w.heap.size w (wr.alloc (.cells #[.int .i64 xa, .int .i64 xs, .int .i64 xt, .slice da dn dc, .int .i64 xk, .int .i64 xo, .int .i64 xn, .int .i64 xu, .int .i64 xpt, .int .i64 xpa, .string xky, .string xtx] 50)) := below_then hB _
            clear hxd hPUT hLd hB
            go_wp2_with ((go_at_call 53; refine hP1.mono ?_; rintro e w9 ⟨rfl, ⟨vs9, hL9⟩, hb9⟩))
            go_roundw
            case rel => exact ⟨i + 1, vs9, by omega, by go_num, hL9, hBa.trans hb9⟩
            case measure => simp [intOf]; omega
          · have hki2 : ¬ (i : Int) < (n : Int) := by omega
            have hin : i = n := by omega
            rw [hin, ← HK.out] at hLd
            go_wp2_with fail
            go_roundw
            case rel => exact ⟨k + 1, vs3, by omega, by go_num, hLd, hB, HA2⟩
            case measure => simp [intOf]; omega
    · obtain rfl : k = 16 := by omega
      have hsz := hB.size
      have hCLO := isClosed_any w.heap.size C (w.heap.size + 1) vs2 (cutK ys L 16) wr hLd (HCL.out 16) (by omega) (fun x hx => ⟨(hd x (cutK_mem hx)).below (hB.mono hC), (ok_parts (hok x (cutK_mem hx))).2.2⟩) (fun x hx => (ok_parts (hok x (cutK_mem hx))).1)
      obtain ⟨cl, HC⟩ : ∃ cl, Hid ((cutK ys L 16).all (causesB (cutK ys L 16)) = cl) := ⟨_, rfl⟩
      rw [HC.out] at hCLO
      cases cl with
      | false =>
        have HE : Hid (¬ ((∀ a, a < 16 → ys.getD a 0 ≤ ((byA L a).length : Int)) ∧ (cutK ys L 16).all (causesB (cutK ys L 16)) = true)) := fun h => by
          have h2 := h.2
          rw [HC.out] at h2
          cases h2
        go_wp2_with ((go_at_call 54; refine hCLO.mono ?_; rintro e w9 ⟨rfl, hb9⟩))
        go_ret2
        exact ⟨.inr ⟨HE.out, rfl⟩, hB.trans (hb9.mono hsz)⟩
      | true =>
        go_wp2_with ((go_at_call 54; refine hCLO.mono ?_; rintro e w9 ⟨rfl, hb9⟩))
        go_ret2
        exact ⟨.inl ⟨HA.out, HC.out, _, vs2, rfl, hLd.on hb9 (Nat.le_refl _)⟩, hB.trans (hb9.mono hsz)⟩
end Go.Proofs.Ytcmgdeeamcimhaa

namespace Go.Proofs.Ytcmgdeeamcimhaa
open Go.RowKit
set_option linter.unusedVariables false

theorem valid_parts {L : List Ov} (h : logI L = true) : L.length ≤ 1024 ∧ (∀ x ∈ L, x.ok = true) ∧ (∀ i, i < L.length → stepN L i = true) ∧ (∀ x ∈ L, causesB L x = true) := by
  unfold logI at h
  simp only [Bool.and_eq_true, decide_eq_true_eq] at h
  have hst : ∀ q, q < L.length → stepI L q = true := fun q hq => by
    have := h.2.1
    rw [List.all_eq_true] at this
    exact this q (List.mem_range.2 hq)
  refine ⟨h.1, step_mem hst, fun i hi => ?_, fun x hx => ?_⟩
  · have := hst i hi
    rw [stepI_split, Bool.and_eq_true] at this
    exact this.1
  · have := h.2.2
    rw [List.all_eq_true] at this
    exact this x hx
theorem vec_bounds {ys : List Int} (hv : vecOK ys = true) : ∀ a, a < 16 → 0 ≤ ys.getD a 0 ∧ ys.getD a 0 ≤ 1000000000000 := fun a ha => by
  have l16 := vec_16 hv
  unfold vecOK at hv
  simp only [Bool.and_eq_true, List.all_eq_true] at hv
  have := hv.2 (ys.getD a 0) (by rw [List.getD_eq_getElem?_getD, List.getElem?_eq_getElem (by omega)]; exact List.getElem_mem _)
  unfold cOK at this
  simpa using this
/-- There is as much as the vector counts, and all that this counts. -/
def canCut (L : List Ov) (ys : List Int) : Bool := covB (cnts L) ys && (countL ys L).all (fun x => covB ys x.ds)
theorem canCut_iff {L : List Ov} {ys : List Int} (hlog : logI L = true) (hv : vecOK ys = true) : canCut L ys = true ↔ (∀ a, a < 16 → ys.getD a 0 ≤ ((byA L a).length : Int)) ∧ (cutK ys L 16).all (causesB (cutK ys L 16)) = true := by
  obtain ⟨hlen, hok, hst, hca⟩ := valid_parts hlog
  have hc : covB (cnts L) ys = true ↔ ∀ a, a < 16 → ys.getD a 0 ≤ ((byA L a).length : Int) := by
    rw [covB_iff]
    have e : ∀ a, a < 16 → (cnts L).getD a 0 = ((byA L a).length : Int) := fun a ha => by rw [List.getD_eq_getElem?_getD, cnts_at L ha]; rfl
    exact ⟨fun h a ha => by rw [← e a ha]; exact h a ha, fun h a ha => by rw [e a ha]; exact h a ha⟩
  unfold canCut
  rw [Bool.and_eq_true, hc, countL_cut hst (fun x hx => (ok_parts (hok x hx)).1)]
  refine and_congr_right fun h => ?_
  rw [cut_closed (fun a ha => ⟨(vec_bounds hv a ha).1, h a ha⟩) hca (fun x hx a ha => (vec_bounds (ok_parts (hok x hx)).2.2 a ha).1)]

set_option maxHeartbeats 4000000 in
set_option maxRecDepth 100000 in
theorem ledgerAt_any (C : Nat) (w : World) (v vv : Value) (L : List Ov) (ys : List Int) (hC : C ≤ w.heap.size) (hr : RdO C w v L) (hv : Rd C w vv (ys.map (Value.int .i64))) :
    Calls Try.prog 24 #[v, .agg #[vv]] w fun e w' => (((logI L && vecOK ys) = false ∧ e = .returned (.tuple #[.pointer none, .int .i64 1])) ∨ ((logI L && vecOK ys) = true ∧ canCut L ys = false ∧ e = .returned (.tuple #[.pointer none, .int .i64 5])) ∨ ((logI L && vecOK ys) = true ∧ canCut L ys = true ∧ ∃ B lb vs, e = .returned (.tuple #[.pointer (some ⟨lb, 0, none⟩), .int .i64 0]) ∧ Led w' B lb vs (cutK ys L 16))) ∧ Below w.heap.size w w' := by
  obtain ⟨va, vn, vc, rfl⟩ : ∃ va vn vc, vv = .slice va vn vc := by obtain ⟨va, vc, h, _⟩ := hv; exact ⟨_, _, _, h⟩
  have hr0 := hr
  obtain ⟨ao, cap, rfl⟩ : ∃ ao cap, v = .slice ao L.length cap := by obtain ⟨⟨ao, cap, h, _⟩, _⟩ := hr; exact ⟨_, _, h⟩
  have hba : Below w.heap.size w (w.alloc (.cells #[.slice va vn vc] 32)) := below_alloc _ _
  have hp0 : (w.alloc (.cells #[.slice va vn vc] 32)).heap[w.heap.size]? = some (.cells #[.slice va vn vc] 32 (0, 0)) := heap_alloc_new _ _
  have hsa : w.heap.size < (w.alloc (.cells #[.slice va vn vc] 32)).heap.size := by rw [World.size_alloc]; omega
  have hl := ledgerOf_any C (w.alloc (.cells #[.slice va vn vc] 32)) _ L (by have := hba.size; omega) (hr.below (hba.mono hC))
  have hcO := fun (w9 : World) (hb : Below w.heap.size w w9) => countsOf_any C w9 _ ys (by have := hb.size; omega) (hv.below (hb.mono hC))
  have hc16 := cnt_len ys
  have HCY : Hid (vecOK ys = true → cnt ys = ys) := fun h => by unfold cnt; rw [if_pos h]
  have sx : (arrC (cnt ys)).toArray.size = 16 := by simp [arrC_len, hc16]
  have HI' : Hid _ := arr_info' hc16
  have HI : Hid _ := arr_info hc16
  generalize hzs : cnt ys = zs at *
  go_enter Try.func24, Try.ntmps24
  go_wp2_with fail
  refine hl.mono ?_
  rintro e w1 ⟨hans, hb1⟩
  have hB1 := below_seq hba hb1
  have hp1 := (hb1.block _ hsa).trans hp0
  have hs1 := hb1.size
  have hco := hcO w1 hB1
  have c1 := blk_cell hp1 0 rfl
  clear hl hcO hp0
  rcases hans with ⟨hlog, lb, rfl, vs, hL⟩ | ⟨hlog, rfl⟩
  · cases hvo : vecOK ys with
    | false =>
      rw [hvo] at hco
      go_wp2_with fail
      refine hco.mono ?_
      rintro e w2 ⟨rfl, hb2⟩
      have hB2 := below_seq hB1 hb2
      have hth := there_made (n := 16) (Below.refl (w2.alloc (.cells #[.int .i64 0, .int .i64 0, .int .i64 0, .int .i64 0, .int .i64 0, .int .i64 0, .int .i64 0, .int .i64 0, .int .i64 0, .int .i64 0, .int .i64 0, .int .i64 0, .int .i64 0, .int .i64 0, .int .i64 0, .int .i64 0] 71)).heap.size (w2.alloc (.cells #[.int .i64 0, .int .i64 0, .int .i64 0, .int .i64 0, .int .i64 0, .int .i64 0, .int .i64 0, .int .i64 0, .int .i64 0, .int .i64 0, .int .i64 0, .int .i64 0, .int .i64 0, .int .i64 0, .int .i64 0, .int .i64 0] 71))) (by simp)
      have hth' : (w2.alloc (.cells #[.int .i64 0, .int .i64 0, .int .i64 0, .int .i64 0, .int .i64 0, .int .i64 0, .int .i64 0, .int .i64 0, .int .i64 0, .int .i64 0, .int .i64 0, .int .i64 0, .int .i64 0, .int .i64 0, .int .i64 0, .int .i64 0] 71)).there w2.heap.size 0 (arrC zs).toArray.size := by rw [sx]; exact hth
      have hb3 : Below w2.heap.size w2 ((w2.alloc (.cells #[.int .i64 0, .int .i64 0, .int .i64 0, .int .i64 0, .int .i64 0, .int .i64 0, .int .i64 0, .int .i64 0, .int .i64 0, .int .i64 0, .int .i64 0, .int .i64 0, .int .i64 0, .int .i64 0, .int .i64 0, .int .i64 0] 71)).setCells w2.heap.size 0 (arrC zs)) := below_setCells (Nat.le_refl _) _ _ _ (below_alloc _ _)
      have hB3 := below_seq hB2 hb3
      go_wp2_with (first | (refine wpList_store_mid rfl 71 _ _ rfl w2.heap.size 0 (arrC zs).toArray rfl rfl hth' HI'.out (arrC_all zs) ?_))
      go_ret2
      exact ⟨.inl ⟨by rw [hvo, Bool.and_false], rfl⟩, hB3⟩
    | true =>
      rw [hvo] at hco
      have HZY : Hid (zs = ys) := HCY.out hvo
      obtain ⟨hlen, hok, -, -⟩ := valid_parts hlog
      go_wp2_with fail
      refine hco.mono ?_
      rintro e w2 ⟨rfl, hb2⟩
      have hB2 := below_seq hB1 hb2
      have hth := there_made (n := 16) (Below.refl (w2.alloc (.cells #[.int .i64 0, .int .i64 0, .int .i64 0, .int .i64 0, .int .i64 0, .int .i64 0, .int .i64 0, .int .i64 0, .int .i64 0, .int .i64 0, .int .i64 0, .int .i64 0, .int .i64 0, .int .i64 0, .int .i64 0, .int .i64 0] 71)).heap.size (w2.alloc (.cells #[.int .i64 0, .int .i64 0, .int .i64 0, .int .i64 0, .int .i64 0, .int .i64 0, .int .i64 0, .int .i64 0, .int .i64 0, .int .i64 0, .int .i64 0, .int .i64 0, .int .i64 0, .int .i64 0, .int .i64 0, .int .i64 0] 71))) (by simp)
      have hth' : (w2.alloc (.cells #[.int .i64 0, .int .i64 0, .int .i64 0, .int .i64 0, .int .i64 0, .int .i64 0, .int .i64 0, .int .i64 0, .int .i64 0, .int .i64 0, .int .i64 0, .int .i64 0, .int .i64 0, .int .i64 0, .int .i64 0, .int .i64 0] 71)).there w2.heap.size 0 (arrC zs).toArray.size := by rw [sx]; exact hth
      have hb3 : Below w2.heap.size w2 ((w2.alloc (.cells #[.int .i64 0, .int .i64 0, .int .i64 0, .int .i64 0, .int .i64 0, .int .i64 0, .int .i64 0, .int .i64 0, .int .i64 0, .int .i64 0, .int .i64 0, .int .i64 0, .int .i64 0, .int .i64 0, .int .i64 0, .int .i64 0] 71)).setCells w2.heap.size 0 (arrC zs)) := below_setCells (Nat.le_refl _) _ _ _ (below_alloc _ _)
      have hB3 := below_seq hB2 hb3
      have hrg : ((w2.alloc (.cells #[.int .i64 0, .int .i64 0, .int .i64 0, .int .i64 0, .int .i64 0, .int .i64 0, .int .i64 0, .int .i64 0, .int .i64 0, .int .i64 0, .int .i64 0, .int .i64 0, .int .i64 0, .int .i64 0, .int .i64 0, .int .i64 0] 71)).setCells w2.heap.size 0 (arrC zs)).rangeAt w2.heap.size 0 (arrC zs) := World.rangeAt_setCells_same _ _ _ _ (by rw [arrC_len, hc16]; exact hth)
      have hL3 := hL.on (below_seq hb2 hb3) (Nat.le_refl _)
      have hCT := cut_any _ C lb vs L zs ((w2.alloc (.cells #[.int .i64 0, .int .i64 0, .int .i64 0, .int .i64 0, .int .i64 0, .int .i64 0, .int .i64 0, .int .i64 0, .int .i64 0, .int .i64 0, .int .i64 0, .int .i64 0, .int .i64 0, .int .i64 0, .int .i64 0, .int .i64 0] 71)).setCells w2.heap.size 0 (arrC zs)) hL3 hlen (by have := hB3.size; omega) (fun x hx => (hr0.2 x hx).below (hB3.mono hC)) hok hc16 (by rw [HZY.out]; exact vec_bounds hvo)
      have HCI : Hid (canCut L ys = true ↔ (∀ a, a < 16 → ys.getD a 0 ≤ ((byA L a).length : Int)) ∧ (cutK ys L 16).all (causesB (cutK ys L 16)) = true) := canCut_iff hlog hvo
      clear hL3 hL hok hb3
      go_wp2_with (first | (refine wpList_store_mid rfl 71 _ _ rfl w2.heap.size 0 (arrC zs).toArray rfl rfl hth' HI'.out (arrC_all zs) ?_) | (refine wpList_load_mid rfl 71 _ rfl w2.heap.size 0 rfl (arrC zs) _ hrg Try.underlying71 rfl HI.out ?_))
      refine hCT.mono ?_
      rintro e w4 ⟨hA4, hb4⟩
      have hB4 := below_seq hB3 hb4
      rw [HZY.out] at hA4
      rcases hA4 with ⟨h1, h2, lb4, vs4, rfl, hL4⟩ | ⟨hno, rfl⟩
      · have HE : Hid (canCut L ys = true) := HCI.out.2 ⟨h1, h2⟩
        clear h1 h2 hCT hrg hth hth'
        go_wp2_with fail
        go_ret2
        exact ⟨.inr (.inr ⟨by rw [hlog, hvo]; rfl, HE.out, _, lb4, vs4, rfl, hL4⟩), hB4⟩
      · have HE : Hid (canCut L ys = false) := by
          unfold Hid
          cases hcc : canCut L ys with
          | false => rfl
          | true => exact absurd (HCI.out.1 hcc) hno
        clear hno hCT hrg hth hth'
        go_wp2_with fail
        go_ret2
        exact ⟨.inr (.inl ⟨by rw [hlog, hvo]; rfl, HE.out, rfl⟩), hB4⟩
  · go_wp2_with fail
    refine hco.mono ?_
    rintro e w2 ⟨rfl, hb2⟩
    have hB2 := below_seq hB1 hb2
    have hth := there_made (n := 16) (Below.refl (w2.alloc (.cells #[.int .i64 0, .int .i64 0, .int .i64 0, .int .i64 0, .int .i64 0, .int .i64 0, .int .i64 0, .int .i64 0, .int .i64 0, .int .i64 0, .int .i64 0, .int .i64 0, .int .i64 0, .int .i64 0, .int .i64 0, .int .i64 0] 71)).heap.size (w2.alloc (.cells #[.int .i64 0, .int .i64 0, .int .i64 0, .int .i64 0, .int .i64 0, .int .i64 0, .int .i64 0, .int .i64 0, .int .i64 0, .int .i64 0, .int .i64 0, .int .i64 0, .int .i64 0, .int .i64 0, .int .i64 0, .int .i64 0] 71))) (by simp)
    have hth' : (w2.alloc (.cells #[.int .i64 0, .int .i64 0, .int .i64 0, .int .i64 0, .int .i64 0, .int .i64 0, .int .i64 0, .int .i64 0, .int .i64 0, .int .i64 0, .int .i64 0, .int .i64 0, .int .i64 0, .int .i64 0, .int .i64 0, .int .i64 0] 71)).there w2.heap.size 0 (arrC zs).toArray.size := by rw [sx]; exact hth
    have hb3 : Below w2.heap.size w2 ((w2.alloc (.cells #[.int .i64 0, .int .i64 0, .int .i64 0, .int .i64 0, .int .i64 0, .int .i64 0, .int .i64 0, .int .i64 0, .int .i64 0, .int .i64 0, .int .i64 0, .int .i64 0, .int .i64 0, .int .i64 0, .int .i64 0, .int .i64 0] 71)).setCells w2.heap.size 0 (arrC zs)) := below_setCells (Nat.le_refl _) _ _ _ (below_alloc _ _)
    have hB3 := below_seq hB2 hb3
    go_wp2_with (first | (refine wpList_store_mid rfl 71 _ _ rfl w2.heap.size 0 (arrC zs).toArray rfl rfl hth' HI'.out (arrC_all zs) ?_))
    go_ret2
    exact ⟨.inl ⟨by rw [hlog, Bool.false_and], rfl⟩, hB3⟩

/-- What LogAt answers. -/
def ansAt (L : List Ov) (ys : List Int) : List Ov := if (logI L && vecOK ys && canCut L ys) = true then countL ys L else []
def codAt (L : List Ov) (ys : List Int) : Int := if (logI L && vecOK ys) = true then (if canCut L ys = true then 0 else 5) else 1

set_option maxHeartbeats 4000000 in
set_option maxRecDepth 100000 in
theorem implAt_any (C : Nat) (w : World) (v vv : Value) (L : List Ov) (ys : List Int) (hC : C ≤ w.heap.size) (hr : RdO C w v L) (hv : Rd C w vv (ys.map (Value.int .i64))) :
    Calls Try.prog 9 #[v, .agg #[vv]] w fun e w' => ∃ r, e = .returned (.tuple #[r, .int .i64 (codAt L ys)]) ∧ Ans w' w.heap.size r (ansAt L ys) ∧ Below w.heap.size w w' := by
  obtain ⟨va, vn, vc, rfl⟩ : ∃ va vn vc, vv = .slice va vn vc := by obtain ⟨va, vc, h, _⟩ := hv; exact ⟨_, _, _, h⟩
  have hr0 := hr
  obtain ⟨ao, cap, rfl⟩ : ∃ ao cap, v = .slice ao L.length cap := by obtain ⟨⟨ao, cap, h, _⟩, _⟩ := hr; exact ⟨_, _, h⟩
  have hba : Below w.heap.size w (w.alloc (.cells #[.slice va vn vc] 32)) := below_alloc _ _
  have hla := ledgerAt_any C (w.alloc (.cells #[.slice va vn vc] 32)) _ _ L ys (by have := hba.size; omega) (hr.below (hba.mono hC)) (hv.below (hba.mono hC))
  obtain ⟨A, HAA⟩ : ∃ A, Hid (ansAt L ys = A) := ⟨_, rfl⟩
  obtain ⟨cd, HCD⟩ : ∃ cd, Hid (codAt L ys = cd) := ⟨_, rfl⟩
  rw [HAA.out, HCD.out]
  go_enter Try.func9, Try.ntmps9
  go_wp2_with fail
  refine hla.mono ?_
  rintro e w1 ⟨hans, hb1⟩
  have hB1 := below_seq hba hb1
  rcases hans with ⟨h1, rfl⟩ | ⟨h1, h2, rfl⟩ | ⟨h1, h2, B, lb, vs, rfl, hL⟩
  · have HE1 : Hid (cd = 1) := by unfold Hid; rw [← HCD.out]; unfold codAt; rw [h1, if_neg Bool.false_ne_true]
    have HE2 : Hid (A = []) := by unfold Hid; rw [← HAA.out]; unfold ansAt; rw [h1, Bool.false_and, if_neg Bool.false_ne_true]
    clear h1 hla
    go_wp2_with fail
    go_ret2
    exact ⟨_, by rw [HE1.out]; rfl, .inl ⟨by rw [HE2.out]; rfl, rfl⟩, hB1⟩
  · have HE1 : Hid (cd = 5) := by unfold Hid; rw [← HCD.out]; unfold codAt; rw [h1, if_pos rfl, h2, if_neg Bool.false_ne_true]
    have HE2 : Hid (A = []) := by unfold Hid; rw [← HAA.out]; unfold ansAt; rw [h1, h2, Bool.and_false, if_neg Bool.false_ne_true]
    clear h1 h2 hla
    go_wp2_with fail
    go_ret2
    exact ⟨_, by rw [HE1.out]; rfl, .inl ⟨by rw [HE2.out]; rfl, rfl⟩, hB1⟩
  · have HE1 : Hid (cd = 0) := by unfold Hid; rw [← HCD.out]; unfold codAt; rw [h1, if_pos rfl, h2, if_pos rfl]
    have HE2 : Hid (A = countL ys L) := by unfold Hid; rw [← HAA.out]; unfold ansAt; rw [h1, h2, Bool.and_true, if_pos rfl]
    rw [Bool.and_eq_true] at h1
    obtain ⟨hlen, hok, hst, -⟩ := valid_parts h1.1
    have HCU : Hid (countL ys L = cutK ys L 16) := countL_cut hst (fun x hx => (ok_parts (hok x hx)).1) ys
    have HAC : Hid (allK (cutK ys L 16) 16 = cutK ys L 16) := allK_cut ys L 16 (by omega)
    have hcl : (cutK ys L 16).length ≤ 1024 := Nat.le_trans (cutK_len ys L 16) (Nat.le_trans (allK_le L 16) hlen)
    have hall := ledAll_any B lb vs (cutK ys L 16) w1 hL hcl (fun x hx => (hr0.2 x (cutK_mem hx)).one)
    rw [HAC.out] at hall
    have hs1 := hB1.size
    have HDD : Hid (∀ x ∈ cutK ys L 16, x.ds.length = 16) := fun x hx => vec_16 (ok_parts (hok x (cutK_mem hx))).2.2
    clear h1 h2 hla hst hok hL
    go_wp2_with fail
    refine hall.mono ?_
    rintro e w2 ⟨r, rfl, ho, hb2⟩
    have hB2 := below_seq hB1 hb2
    have hs2 := hB2.size
    have hRd := owns_rdO ho (fun x hx => ((hr0.2 x (cutK_mem hx)).below (hB2.mono hC)).mono (by omega))
    have hCP := copyOps_any w2.heap.size w2 r (cutK ys L 16) (Nat.le_refl _) hRd hcl HDD.out
    clear hall ho hRd
    go_wp2_with fail
    refine hCP.mono ?_
    rintro e w3 ⟨ga, rfl, hA, hb3⟩
    have hB3 := below_seq hB2 hb3
    have hA' := hA.mono hs2
    clear hCP hA hb3
    go_wp2_with fail
    go_ret2
    exact ⟨.slice (some ⟨w2.heap.size, 0, none⟩) (cutK ys L 16).length (cutK ys L 16).length, by rw [HE1.out]; rfl, .inr ⟨w2.heap.size, ga, cpL ga (cutK ys L 16) (cutK ys L 16).length, by rw [HE2.out, HCU.out], by rw [HE2.out, HCU.out]; exact cpL_same ga _, hA'⟩, hB3⟩
end Go.Proofs.Ytcmgdeeamcimhaa
