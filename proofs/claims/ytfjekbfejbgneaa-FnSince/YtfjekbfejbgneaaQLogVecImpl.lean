/- LogVector: what the code's and the specification's answer. -/
import Derived.Test.YtfjekbfejbgneaaQLedClosedToLogOKImpl
import Derived.Test.YtfjekbfejbgneaaQLedgerToRowRd
import Derived.Test.YtfjekbfejbgneaaQLogOKSpec
import Derived.Test.YtfjekbfejbgneaaQOpToToLawKit
import Derived.Test.YtfjekbfejbgneaaQVecArrToVecJoins
namespace Go.Proofs.Ytfjekbfejbgneaa
open Go.RowKit
set_option linter.unusedVariables false

/-- The first k counts; behind them noughts. -/
def cntK (P : List Ov) (k : Nat) : List Int := (cnts P).take k ++ List.replicate (16 - k) 0
theorem cntK_len (P : List Ov) {k : Nat} (hk : k ≤ 16) : (cntK P k).length = 16 := by
  unfold cntK
  rw [List.length_append, List.length_take, cnts_len, List.length_replicate]
  omega
theorem cntK_get (P : List Ov) {k : Nat} (hk : k < 16) : (arrC (cntK P k))[k]? = some (Value.int .i64 0) := by
  unfold arrC cntK
  rw [List.getElem?_map, List.getElem?_append_right (by rw [List.length_take, cnts_len]; omega), List.getElem?_replicate, if_pos (by rw [List.length_take, cnts_len]; omega)]
  rfl
theorem cntK_set (P : List Ov) {k : Nat} (hk : k < 16) : (arrC (cntK P k)).set k (Value.int .i64 ((byA P k).length : Int)) = arrC (cntK P (k + 1)) := by
  unfold arrC
  rw [← List.map_set]
  congr 1
  apply List.ext_getElem?
  intro j
  have l1 := cntK_len P (k := k) (by omega)
  have l2 := cntK_len P (k := k + 1) (by omega)
  by_cases e : k = j
  · subst e
    rw [List.getElem?_set_self (by omega)]
    unfold cntK
    rw [List.getElem?_append_left (by rw [List.length_take, cnts_len]; omega), List.getElem?_take_of_lt (by omega), cnts_at P hk]
  · rw [List.getElem?_set_ne e]
    unfold cntK
    by_cases h : j < k
    · rw [List.getElem?_append_left (by rw [List.length_take, cnts_len]; omega), List.getElem?_append_left (by rw [List.length_take, cnts_len]; omega), List.getElem?_take_of_lt h, List.getElem?_take_of_lt (by omega)]
    · rw [List.getElem?_append_right (by rw [List.length_take, cnts_len]; omega), List.getElem?_append_right (by rw [List.length_take, cnts_len]; omega), List.getElem?_replicate, List.getElem?_replicate, List.length_take, List.length_take, cnts_len]
      by_cases h2 : j < 16
      · rw [if_pos (by omega), if_pos (by omega)]
      · rw [if_neg (by omega), if_neg (by omega)]
theorem cntK_all (P : List Ov) : cntK P 16 = cnts P := by
  unfold cntK
  rw [List.take_of_length_le (by rw [cnts_len]; omega)]
  simp
theorem arrC_zero (P : List Ov) : (arrC (cntK P 0)).toArray = #[.int .i64 0, .int .i64 0, .int .i64 0, .int .i64 0, .int .i64 0, .int .i64 0, .int .i64 0, .int .i64 0, .int .i64 0, .int .i64 0, .int .i64 0, .int .i64 0, .int .i64 0, .int .i64 0, .int .i64 0, .int .i64 0] := by
  unfold cntK
  rw [List.take_zero, List.nil_append]
  rfl

set_option maxHeartbeats 2000000 in
set_option maxRecDepth 100000 in
theorem ledVector_any (B lb : Nat) (vs : List Value) (P : List Ov) (w : World) (hL : Led w B lb vs P) (hP : P.length ≤ 1024) :
    Calls Try.prog 20 #[.pointer (some ⟨lb, 0, none⟩)] w fun e w' => ∃ a, e = .returned (.agg #[.slice a 16 16]) ∧ Own 40 w' w.heap.size (.slice a 16 16) ((cnts P).map (Value.int .i64)) ∧ Below w.heap.size w w' := by
  have hb0 : Below w.heap.size w ((w.alloc (.cells #[.slice none 0 0] 26)).alloc (.cells #[.int .i64 0, .int .i64 0, .int .i64 0, .int .i64 0, .int .i64 0, .int .i64 0, .int .i64 0, .int .i64 0, .int .i64 0, .int .i64 0, .int .i64 0, .int .i64 0, .int .i64 0, .int .i64 0, .int .i64 0, .int .i64 0] 40)) := below_then (below_alloc _ _) _
  have hv0 : ((w.alloc (.cells #[.slice none 0 0] 26)).alloc (.cells #[.int .i64 0, .int .i64 0, .int .i64 0, .int .i64 0, .int .i64 0, .int .i64 0, .int .i64 0, .int .i64 0, .int .i64 0, .int .i64 0, .int .i64 0, .int .i64 0, .int .i64 0, .int .i64 0, .int .i64 0, .int .i64 0] 40)).heap[w.heap.size]? = some (.cells #[.slice none 0 0] 26 (0, 0)) := (Below.heap_alloc (w.alloc (.cells #[.slice none 0 0] 26)) _ _ (by rw [World.size_alloc]; omega)).trans (heap_alloc_new w _)
  have hc0 : ((w.alloc (.cells #[.slice none 0 0] 26)).alloc (.cells #[.int .i64 0, .int .i64 0, .int .i64 0, .int .i64 0, .int .i64 0, .int .i64 0, .int .i64 0, .int .i64 0, .int .i64 0, .int .i64 0, .int .i64 0, .int .i64 0, .int .i64 0, .int .i64 0, .int .i64 0, .int .i64 0] 40)).heap[w.heap.size + 1]? = some (.cells (arrC (cntK P 0)).toArray 40 (0, 0)) := by
    rw [arrC_zero]
    have := heap_alloc_new (w.alloc (.cells #[.slice none 0 0] 26)) (.cells #[.int .i64 0, .int .i64 0, .int .i64 0, .int .i64 0, .int .i64 0, .int .i64 0, .int .i64 0, .int .i64 0, .int .i64 0, .int .i64 0, .int .i64 0, .int .i64 0, .int .i64 0, .int .i64 0, .int .i64 0, .int .i64 0] 40)
    rwa [World.size_alloc] at this
  have hrg : ((w.alloc (.cells #[.slice none 0 0] 26)).alloc (.cells #[.int .i64 0, .int .i64 0, .int .i64 0, .int .i64 0, .int .i64 0, .int .i64 0, .int .i64 0, .int .i64 0, .int .i64 0, .int .i64 0, .int .i64 0, .int .i64 0, .int .i64 0, .int .i64 0, .int .i64 0, .int .i64 0] 40)).rangeAt lb 0 vs := fun j u hj => by
    rw [Nat.zero_add]
    have hj1 := (List.getElem?_eq_some_iff.1 hj).1
    have := (hL.on hb0 (Nat.le_refl _)).cell (led_vs hL.len (a := j) (by have := hL.len; omega))
    rw [this, List.getD_eq_getElem?_getD, hj]
    rfl
  have HO0 : Hid _ := own_arr hc0 (cntK_len P (by omega)) (Nat.le_refl _)
  have HI : Hid ((Try.prog.info? 67).map (·.size) = some vs.length) := by
    unfold Hid
    rw [hL.len]
    kernel_rfl
  go_enter Try.func20, Try.ntmps20
  go_wp2_with (first | (refine wpList_load_mid rfl 67 _ rfl lb 0 rfl vs _ hrg Try.underlying67 rfl HI.out ?_))
  clear hrg hc0
  go_loopw [10] (fun ti wr => ∃ k : Nat, k ≤ 16 ∧ ti = .int .i64 (k : Int) ∧ Hid (Own 40 wr (w.heap.size + 1) (.slice (some ⟨w.heap.size + 1, 0, none⟩) 16 16) (arrC (cntK P k)) ∧ wr.heap[w.heap.size]? = some (.cells #[.slice none 0 0] 26 (0, 0)) ∧ Below w.heap.size w wr)) (fun ti _ => 16 - (intOf ti).toNat)
  case atStart => exact ⟨0, by omega, rfl, HO0.out, hv0, hb0⟩
  case round =>
    clear HO0 hv0 hb0
    obtain ⟨k, hk, rfl, HS⟩ := hrel
    by_cases hlt : k < 16
    · have hki : (k : Int) < 16 := by omega
      obtain ⟨ho, hv, hb⟩ := HS.out
      obtain ⟨ao, cap, hsl⟩ := hL.slice hlt
      have hix := run_indexOps wr vs k hL.len hlt
      rw [hsl] at hix
      have c1 := own_at ho (cntK_get P hlt)
      have f1 := own_free ho k
      have R := own_set ho k (Value.int .i64 ((byA P k).length : Int))
      rw [cntK_set P hlt] at R
      have HR : Hid (Own 40 (wr.setCell ⟨w.heap.size + 1, k, none⟩ (Value.int .i64 ((byA P k).length : Int))) (w.heap.size + 1) (.slice (some ⟨w.heap.size + 1, 0, none⟩) 16 16) (arrC (cntK P (k + 1))) ∧ (wr.setCell ⟨w.heap.size + 1, k, none⟩ (Value.int .i64 ((byA P k).length : Int))).heap[w.heap.size]? = some (.cells #[.slice none 0 0] 26 (0, 0)) ∧ Below w.heap.size w (wr.setCell ⟨w.heap.size + 1, k, none⟩ (Value.int .i64 ((byA P k).length : Int)))) :=
        ⟨R, (heap_setCell_other wr ⟨w.heap.size + 1, k, none⟩ w.heap.size _ (by show w.heap.size ≠ w.heap.size + 1; omega)).trans hv, hb.setCell (p := ⟨w.heap.size + 1, k, none⟩) (by show w.heap.size ≤ w.heap.size + 1; omega) _⟩
      clear HS ho hv hb R hsl
      go_wp2_with fail
      go_roundw
      case rel => exact ⟨k + 1, by omega, by go_num, HR⟩
      case measure => simp [intOf]; omega
    · obtain rfl : k = 16 := by omega
      obtain ⟨ho, hv, hb⟩ := HS.out
      rw [cntK_all] at ho
      have hlz := cnts_len P
      have HZ : Hid _ := arr_info hlz
      have hrz := own_range ho
      have hV := vector_any wr (cnts P) hlz
      clear HS ho HI
      go_wp2_with (first | (refine wpList_load_mid rfl 40 _ rfl (w.heap.size + 1) 0 rfl (arrC (cnts P)) _ hrz Try.underlying40 rfl HZ.out ?_))
      refine hV.mono ?_
      rintro e w9 ⟨a, rfl, ho9, hb9⟩
      have hs := hb.size
      have hlt9 : w.heap.size < wr.heap.size := (Array.getElem?_eq_some_iff.1 hv).1
      have hv9 := (hb9.block w.heap.size (by omega)).trans hv
      have c0 := blk_cell hv9 0 rfl
      have f0 := blk_free hv9 0
      have HO2 : Hid (Own 40 (w9.setCell ⟨w.heap.size, 0, none⟩ (.slice a 16 16)) w.heap.size (.slice a 16 16) ((cnts P).map (Value.int .i64))) := (ho9.apart (grownBy_set w9 w.heap.size 0 (.slice a 16 16)) (fun kk hk => by cases hk; omega)).mono (by omega)
      have HB2 : Hid (Below w.heap.size w (w9.setCell ⟨w.heap.size, 0, none⟩ (.slice a 16 16))) := (hb.trans (hb9.mono (by omega))).setCell (p := ⟨w.heap.size, 0, none⟩) (Nat.le_refl _) _
      have q0 : (w9.setCell ⟨w.heap.size, 0, none⟩ (.slice a 16 16)).cell? ⟨w.heap.size, 0, none⟩ = some (.slice a 16 16) := World.cell?_setCell_same _ _ _ c0
      clear hV hrz HZ ho9 hb9 hv9
      go_wp2_with fail
      exact bodyPost_ret (v := .agg #[.slice a 16 16]) (by simp [results, Try.results20, go_sem, q0]) rfl ⟨_, rfl, HO2.out, HB2.out⟩

/-- What LogVector answers. -/
def ansVec (L : List Ov) : List Int := if logI L = true then cnts L else []
def codVec (L : List Ov) : Int := if logI L = true then 0 else 1
theorem ansVec_len (L : List Ov) : (ansVec L).length ≤ 1048576 := by
  unfold ansVec
  split
  · rw [cnts_len]; omega
  · simp
theorem nilOwn (w : World) (e : TypeId) (B : Nat) : Own e w B (.slice none 0 0) [] := ⟨rfl, .inl ⟨rfl, rfl⟩⟩
theorem okAll {L : List Ov} (h : logI L = true) : ∀ x ∈ L, x.ok = true := by
  unfold logI at h
  simp only [Bool.and_eq_true] at h
  refine step_mem fun q hq => ?_
  have := h.2.1
  rw [List.all_eq_true] at this
  exact this q (List.mem_range.2 hq)
theorem lenAll {L : List Ov} (h : logI L = true) : L.length ≤ 1024 := by
  unfold logI at h
  simp only [Bool.and_eq_true, decide_eq_true_eq] at h
  exact h.1

set_option maxHeartbeats 2000000 in
set_option maxRecDepth 100000 in
theorem implLogVector_any (C : Nat) (w : World) (v : Value) (L : List Ov) (hC : C ≤ w.heap.size) (hr : RdO C w v L) :
    Calls Try.prog 8 #[v] w fun e w' => ∃ a n k T, e = .returned (.tuple #[.agg #[.slice a n k], .int .i64 (codVec L)]) ∧ Own T w' w.heap.size (.slice a n k) ((ansVec L).map (Value.int .i64)) ∧ Below w.heap.size w w' := by
  have hba : Below w.heap.size w (w.alloc (.cells #[.slice none 0 0] 26)) := below_alloc _ _
  have hl := ledgerOf_any C (w.alloc (.cells #[.slice none 0 0] 26)) v L (by have := hba.size; omega) (hr.below (hba.mono hC))
  have hv0 : (w.alloc (.cells #[.slice none 0 0] 26)).heap[w.heap.size]? = some (.cells #[.slice none 0 0] 26 (0, 0)) := heap_alloc_new w _
  have hsa : w.heap.size < (w.alloc (.cells #[.slice none 0 0] 26)).heap.size := by rw [World.size_alloc]; omega
  obtain ⟨ao, cap, rfl⟩ : ∃ ao cap, v = .slice ao L.length cap := by obtain ⟨⟨ao, cap, h, _⟩, _⟩ := hr; exact ⟨_, _, h⟩
  clear hr
  cases hlog : logI L with
  | false =>
    have hA : Hid (ansVec L = []) := by unfold Hid ansVec; rw [if_neg (by rw [hlog]; decide)]
    have hD : codVec L = 1 := by unfold codVec; rw [if_neg (by rw [hlog]; decide)]
    rw [hA.out, hD]
    clear hA hD
    go_enter Try.func8, Try.ntmps8
    go_wp2_with fail
    refine hl.mono ?_
    rintro e w1 ⟨hans, hb1⟩
    rcases hans with ⟨h1, _⟩ | ⟨_, rfl⟩
    · rw [hlog] at h1; cases h1
    · have hv1 := (hb1.block w.heap.size hsa).trans hv0
      have c0 := blk_cell hv1 0 rfl
      have f0 := blk_free hv1 0
      have q0 : (w1.setCell ⟨w.heap.size, 0, none⟩ (.slice none 0 0)).cell? ⟨w.heap.size, 0, none⟩ = some (.slice none 0 0) := World.cell?_setCell_same _ _ _ c0
      have HB : Hid (Below w.heap.size w (w1.setCell ⟨w.heap.size, 0, none⟩ (.slice none 0 0))) := (below_seq hba hb1).setCell (p := ⟨w.heap.size, 0, none⟩) (Nat.le_refl _) _
      clear hba hb1 hv1 hv0 hsa hl
      go_wp2_with fail
      exact bodyPost_ret (v := .tuple #[.agg #[.slice none 0 0], .int .i64 1]) (by simp [results, Try.results8, go_sem, q0]) rfl ⟨none, 0, 0, 3, rfl, nilOwn _ _ _, HB.out⟩
  | true =>
    have hA : ansVec L = cnts L := by unfold ansVec; rw [if_pos hlog]
    have hD : codVec L = 0 := by unfold codVec; rw [if_pos hlog]
    have hlen := lenAll hlog
    rw [hA, hD]
    clear hA hD
    go_enter Try.func8, Try.ntmps8
    go_wp2_with fail
    refine hl.mono ?_
    rintro e w1 ⟨hans, hb1⟩
    rcases hans with ⟨_, lb, rfl, vs, hL⟩ | ⟨h1, _⟩
    · have hV := ledVector_any _ lb vs L w1 hL hlen
      have hb01 := below_seq hba hb1
      have hs1 := hb1.size
      have hv1 := (hb1.block w.heap.size hsa).trans hv0
      go_wp2_with fail
      refine hV.mono ?_
      rintro e w2 ⟨a, rfl, ho2, hb2⟩
      have hv2 := (hb2.block w.heap.size (by omega)).trans hv1
      have c0 := blk_cell hv2 0 rfl
      have f0 := blk_free hv2 0
      have q0 : (w2.setCell ⟨w.heap.size, 0, none⟩ (.slice a 16 16)).cell? ⟨w.heap.size, 0, none⟩ = some (.slice a 16 16) := World.cell?_setCell_same _ _ _ c0
      have HO : Hid (Own 40 (w2.setCell ⟨w.heap.size, 0, none⟩ (.slice a 16 16)) w.heap.size (.slice a 16 16) ((cnts L).map (Value.int .i64))) := (ho2.apart (grownBy_set w2 w.heap.size 0 (.slice a 16 16)) (fun kk hk => by cases hk; omega)).mono (by omega)
      have HB : Hid (Below w.heap.size w (w2.setCell ⟨w.heap.size, 0, none⟩ (.slice a 16 16))) := (below_seq hb01 hb2).setCell (p := ⟨w.heap.size, 0, none⟩) (Nat.le_refl _) _
      clear hba hb1 hv1 hv0 hsa hl hV hL hb01 hs1 ho2 hb2 hv2
      go_wp2_with fail
      exact bodyPost_ret (v := .tuple #[.agg #[.slice a 16 16], .int .i64 0]) (by simp [results, Try.results8, go_sem, q0]) rfl ⟨a, 16, 16, _, rfl, HO.out, HB.out⟩
    · rw [hlog] at h1; cases h1

theorem cnts_same {M L : List Ov} (h : SameL M L) : cnts M = cnts L := by
  have key : ∀ (M L : List Ov) (a : Nat), SameL M L → (byA M a).length = (byA L a).length := by
    intro M
    induction M with
    | nil =>
      intro L a h
      have : L = [] := List.eq_nil_of_length_eq_zero (by rw [← h.1]; rfl)
      rw [this]
    | cons x M ih =>
      intro L a h
      cases L with
      | nil => have := h.1; simp at this
      | cons y L =>
        have e : x.a = y.a := (h.2 0 (by simp)).1
        have hi := ih L a ⟨by have := h.1; simpa using this, fun k hk => h.2 (k + 1) (by simpa using hk)⟩
        unfold byA at hi ⊢
        rw [List.filter_cons, List.filter_cons, e]
        by_cases ha : y.a = (a : Int)
        · simp [ha, hi]
        · simp [ha, hi]
  unfold cnts
  apply List.map_congr_left
  intro a _
  rw [key M L a h]
theorem vec_same {M L : List Ov} (h : SameL M L) : ansVec M = ansVec L ∧ codVec M = codVec L := by
  unfold ansVec codVec
  rw [logI_same h, cnts_same h]
  exact ⟨rfl, rfl⟩
end Go.Proofs.Ytfjekbfejbgneaa
