/- What the code's join and vector do. -/
import Derived.Test.YtonpeiknoifdbabVecArr
namespace Go.Proofs.Ytonpeiknoifdbab
open Go.RowKit
set_option linter.unusedVariables false

/-- A block that is an array, seen as a row. -/
theorem own_arr {w : World} {g B : Nat} {X : List Int} {T : TypeId} (h : w.heap[g]? = some (.cells (arrC X).toArray T (0, 0))) (hx : X.length = 16) (hB : B ≤ g) : Own T w B (.slice (some ⟨g, 0, none⟩) 16 16) (arrC X) := by
  refine ⟨by simp, .inr ⟨g, 16, (arrC X).toArray, by rw [arrC_len, hx], hB, h, by rw [arrC_len, hx]; exact Nat.le_refl _, by decide, by simp [arrC_len, hx], by simp⟩⟩
theorem own_block {w : World} {g B n cap : Nat} {cs : List Value} {T : TypeId} (h : Own T w B (.slice (some ⟨g, 0, none⟩) n cap) cs) (hn : cs.length = cap) : w.heap[g]? = some (.cells cs.toArray T (0, 0)) := by
  obtain ⟨h1, h2⟩ := h
  rcases h2 with ⟨hv, _⟩ | ⟨g', cap', cur, hv, hb, hg, hle, hm, hs, ht⟩
  · simp at hv
  · simp only [Value.slice.injEq, Option.some.injEq, Addr.mk.injEq, and_true] at hv
    obtain ⟨rfl, rfl, rfl⟩ := hv
    rw [hg]
    have : cur = cs.toArray := by
      rw [← ht, Nat.mul_one, List.take_of_length_le (by simp; omega)]
    rw [this]
theorem own_range {w : World} {g B n cap : Nat} {cs : List Value} {T : TypeId} (h : Own T w B (.slice (some ⟨g, 0, none⟩) n cap) cs) : w.rangeAt g 0 cs := by
  intro j v hj
  have hj1 := (List.getElem?_eq_some_iff.1 hj).1
  rw [Nat.zero_add, own_cell h hj1]
  rw [List.getElem?_eq_getElem hj1] at hj
  exact hj

theorem block_made {w w1 : World} {o : Obj} (h : Below (w.alloc o).heap.size (w.alloc o) w1) : w1.heap[w.heap.size]? = some o := (h.block w.heap.size (by simp)).trans (heap_alloc_new w o)

/-- The greater one, and the lesser one. -/
def mxI (a b : Int) : Int := if a < b then b else a
def mnI (a b : Int) : Int := if b < a then b else a

/-- What join makes of two. -/
def zipM (f : Int → Int → Int) (X Y : List Int) (k : Nat) : List Int := (List.zipWith f X Y).take k ++ X.drop k
theorem zipM_len {f : Int → Int → Int} {X Y : List Int} (hx : X.length = 16) (hy : Y.length = 16) {k : Nat} (hk : k ≤ 16) : (zipM f X Y k).length = 16 := by simp [zipM, hx, hy]; omega
theorem zipM_all {f : Int → Int → Int} {X Y : List Int} (hx : X.length = 16) (hy : Y.length = 16) : zipM f X Y 16 = List.zipWith f X Y := by
  unfold zipM
  rw [List.drop_of_length_le (by omega), List.take_of_length_le (by simp [hx, hy]), List.append_nil]
theorem zipM_get {f : Int → Int → Int} {X Y : List Int} (hx : X.length = 16) (hy : Y.length = 16) {k : Nat} (hk : k < 16) : (arrC (zipM f X Y k))[k]'(by rw [arrC_len, zipM_len hx hy (by omega)]; exact hk) = Value.int .i64 (X[k]'(by omega)) := by
  unfold arrC zipM
  rw [List.getElem_map, List.getElem_append_right (by simp [hx, hy]; omega)]
  simp [hx, hy, Nat.min_eq_left (Nat.le_of_lt hk)]
theorem zipM_set {f : Int → Int → Int} {X Y : List Int} (hx : X.length = 16) (hy : Y.length = 16) {k : Nat} (hk : k < 16) : (arrC (zipM f X Y k)).set k (Value.int .i64 (f (X[k]'(by omega)) (Y[k]'(by omega)))) = arrC (zipM f X Y (k + 1)) := by
  unfold arrC zipM
  rw [List.map_append, List.set_append_right _ _ (by simp [hx, hy]; omega), List.map_append]
  have hl : ((List.zipWith f X Y).take k).length = k := by simp [hx, hy]; omega
  rw [List.length_map, hl, Nat.sub_self, List.drop_eq_getElem_cons (show k < X.length by omega), List.map_cons, List.set_cons_zero, List.take_succ_eq_append_getElem (show k < (List.zipWith f X Y).length by simp [hx, hy]; omega), List.map_append, List.append_assoc, List.getElem_zipWith]
  rfl

set_option maxHeartbeats 1000000 in
set_option maxRecDepth 100000 in
theorem join_any (w : World) (X Y : List Int) (hx : X.length = 16) (hy : Y.length = 16) :
    Calls Try.prog 38 #[.agg (arrC X).toArray, .agg (arrC Y).toArray] w fun e w' => e = .returned (.agg (arrC (List.zipWith mxI X Y)).toArray) ∧ Below w.heap.size w w' := by
  have HX : Hid _ := arr_info hx
  have HY : Hid _ := arr_info hy
  have sx : (arrC X).toArray.size = 16 := by simp [arrC_len, hx]
  have sy : (arrC Y).toArray.size = 16 := by simp [arrC_len, hy]
  have HB := Below.refl (((w.alloc (.cells (arrC X).toArray 68)).alloc (.cells (arrC Y).toArray 68)).alloc (.cells #[.int .i64 0, .int .i64 0, .int .i64 0, .int .i64 0, .int .i64 0, .int .i64 0, .int .i64 0, .int .i64 0, .int .i64 0, .int .i64 0, .int .i64 0, .int .i64 0, .int .i64 0, .int .i64 0, .int .i64 0, .int .i64 0] 68)).heap.size (((w.alloc (.cells (arrC X).toArray 68)).alloc (.cells (arrC Y).toArray 68)).alloc (.cells #[.int .i64 0, .int .i64 0, .int .i64 0, .int .i64 0, .int .i64 0, .int .i64 0, .int .i64 0, .int .i64 0, .int .i64 0, .int .i64 0, .int .i64 0, .int .i64 0, .int .i64 0, .int .i64 0, .int .i64 0, .int .i64 0] 68))
  have ht := there_made (n := 16) HB (by simp)
  have HB1 := below_seq (below_alloc _ _) HB
  have hry := own_range (own_arr (block_made HB1) hy (Nat.le_refl _))
  have HB2 := below_seq (below_alloc _ _) HB1
  have hox := own_arr (block_made HB2) hx (Nat.le_refl _)
  have HB3 := below_seq (below_alloc _ _) HB2
  simp only [World.size_alloc] at ht hry
  clear HB HB1 HB2
  go_enter Try.func38, Try.ntmps38
  go_wp2_with (first | (refine wpList_load_mid rfl 68 _ rfl (w.heap.size + 1) 0 rfl (arrC Y) _ hry Try.underlying68 rfl HY.out ?_))
  go_loopw [8] (fun ti wr => ∃ k : Nat, k ≤ 16 ∧ ti = .int .i64 (k : Int) ∧ Own 68 wr w.heap.size (.slice (some ⟨w.heap.size, 0, none⟩) 16 16) (arrC (zipM mxI X Y k)) ∧ wr.there (w.heap.size + 1 + 1) 0 16 ∧ Below w.heap.size w wr) (fun ti _ => 16 - (intOf ti).toNat)
  case atStart => exact ⟨0, by omega, rfl, hox, ht, HB3⟩
  case round =>
    clear hox ht HB3 hry
    obtain ⟨k, hk, rfl, ho, ht, hB⟩ := hrel
    by_cases hlt : k < 16
    · have hidx := run_indexArr wr Y k hy hlt
      have c1 := own_cell ho (k := k) (by rw [arrC_len, zipM_len hx hy hk]; exact hlt)
      rw [zipM_get hx hy hlt] at c1
      have f1 := own_free ho k
      have i0 : (0 : Int) ≤ (k : Int) := by omega
      have i1 : (k : Int) < 16 := by omega
      have R := own_set ho k (Value.int .i64 (mxI (X[k]'(by omega)) (Y[k]'(by omega))))
      rw [zipM_set hx hy hlt] at R
      have R2 : (wr.setCell ⟨w.heap.size, k, none⟩ (Value.int .i64 (mxI (X[k]'(by omega)) (Y[k]'(by omega))))).there (w.heap.size + 1 + 1) 0 16 := World.there_setCells ht w.heap.size k [Value.int .i64 (mxI (X[k]'(by omega)) (Y[k]'(by omega)))]
      have R3 := hB.setCell (p := ⟨w.heap.size, k, none⟩) (Nat.le_refl _) (Value.int .i64 (mxI (X[k]'(by omega)) (Y[k]'(by omega))))
      unfold mxI at R R2 R3
      go_wp2_with fail
      go_roundw
      case rel => exact ⟨k + 1, by omega, by go_num, R, R2, R3⟩
      case measure => simp [intOf]; omega
    · obtain rfl : k = 16 := by omega
      rw [zipM_all hx hy] at ho
      have hlz : (List.zipWith mxI X Y).length = 16 := by simp [hx, hy]
      generalize hZ : List.zipWith mxI X Y = Z at ho hlz
      have HZQ : Hid _ := hZ
      clear hZ
      have HZ : Hid _ := arr_info hlz
      have HZ' : Hid _ := arr_info' hlz
      have hrz := own_range ho
      have ht' : wr.there (w.heap.size + 1 + 1) 0 (arrC Z).toArray.size := by rw [show (arrC Z).toArray.size = 16 by simp [arrC_len, hlz]]; exact ht
      clear ho hk hlt
      go_wp2_with (first | (refine wpList_load_mid rfl 68 _ rfl w.heap.size 0 rfl (arrC Z) _ hrz Try.underlying68 rfl HZ.out ?_) | (refine wpList_store_mid rfl 68 _ _ rfl (w.heap.size + 1 + 1) 0 (arrC Z).toArray rfl rfl ht' HZ'.out (arrC_all Z) ?_))
      have hrs : (wr.setCells (w.heap.size + 1 + 1) 0 (arrC Z)).rangeAt (w.heap.size + 1 + 1) 0 (arrC Z) := World.rangeAt_setCells_same _ _ _ _ (by rw [arrC_len, hlz]; exact ht)
      have hld := run_loadVar_mid (P := Try.prog) _ (w.heap.size + 1 + 1) 0 68 (arrC Z) _ hrs Try.underlying68 rfl HZ.out
      exact bodyPost_ret (v := .agg (arrC Z).toArray) (by simp [results, Try.results38, asAddr, Act.put, hld]) rfl ⟨by rw [HZQ.out], below_setCells (by omega) _ _ _ hB⟩

set_option maxHeartbeats 1000000 in
set_option maxRecDepth 100000 in
theorem vector_any (w : World) (X : List Int) (hx : X.length = 16) :
    Calls Try.prog 58 #[.agg (arrC X).toArray] w fun e w' => ∃ a, e = .returned (.agg #[.slice a 16 16]) ∧ Own 68 w' w.heap.size (.slice a 16 16) (X.map (Value.int .i64)) ∧ Below w.heap.size w w' := by
  have HB := Below.refl ((w.alloc (.cells (arrC X).toArray 68)).alloc (.cells #[.slice none 0 0] 34)).heap.size ((w.alloc (.cells (arrC X).toArray 68)).alloc (.cells #[.slice none 0 0] 34))
  have sx : (arrC X).toArray.size = 16 := by simp [arrC_len, hx]
  go_enter Try.func58, Try.ntmps58
  go_wp2_with fail
  have ho := own_arr (block_made (w := w) (w1 := (w.alloc (.cells (arrC X).toArray 68)).alloc (.cells #[.slice (some ⟨w.heap.size, 0, none⟩) 16 16] 34)) (below_alloc _ _)) hx (Nat.le_refl _)
  exact bodyPost_ret (v := .agg #[.slice (some ⟨w.heap.size, 0, none⟩) 16 16]) (by simp [results, Try.results58, go_sem]) rfl ⟨_, rfl, ho, below_then (below_alloc _ _) _⟩
end Go.Proofs.Ytonpeiknoifdbab
