/- What the code's meet does. -/
import Derived.Test.YtonpeiknoifdbabVecJoins
namespace Go.Proofs.Ytonpeiknoifdbab
open Go.RowKit
set_option linter.unusedVariables false

set_option maxHeartbeats 1000000 in
set_option maxRecDepth 100000 in
theorem meet_any (w : World) (X Y : List Int) (hx : X.length = 16) (hy : Y.length = 16) :
    Calls Try.prog 59 #[.agg (arrC X).toArray, .agg (arrC Y).toArray] w fun e w' => e = .returned (.agg (arrC (List.zipWith mnI X Y)).toArray) ∧ Below w.heap.size w w' := by
  have HX : Hid _ := arr_info hx
  have HY : Hid _ := arr_info hy
  have sx : (arrC X).toArray.size = 16 := by simp [arrC_len, hx]
  have sy : (arrC Y).toArray.size = 16 := by simp [arrC_len, hy]
  have HB := Below.refl (((w.alloc (.cells (arrC X).toArray 68)).alloc (.cells (arrC Y).toArray 68)).alloc (.cells #[.int .i64 0, .int .i64 0, .int .i64 0, .int .i64 0, .int .i64 0, .int .i64 0, .int .i64 0, .int .i64 0, .int .i64 0, .int .i64 0, .int .i64 0, .int .i64 0, .int .i64 0, .int .i64 0, .int .i64 0, .int .i64 0] 68)).heap.size (((w.alloc (.cells (arrC X).toArray 68)).alloc (.cells (arrC Y).toArray 68)).alloc (.cells #[.int .i64 0, .int .i64 0, .int .i64 0, .int .i64 0, .int .i64 0, .int .i64 0, .int .i64 0, .int .i64 0, .int .i64 0, .int .i64 0, .int .i64 0, .int .i64 0, .int .i64 0, .int .i64 0, .int .i64 0, .int .i64 0] 68))
  have ht := there_made (n := 16) HB (by simp)
  have HB1 := below_seq (below_alloc _ _) HB
  have hry := own_range (own_arr (block_made HB1) hy (Nat.le_refl _))
  have HB2 := below_seq (below_alloc _ _) HB1
  have hox := own_arr (block_made HB2) hx (Nat.le_refl _)
  have HB3 := below_seq (below_alloc _ _) HB2
  simp only [World.size_alloc] at ht hry
  clear HB HB1 HB2
  go_enter Try.func59, Try.ntmps59
  go_wp2_with (first | (refine wpList_load_mid rfl 68 _ rfl (w.heap.size + 1) 0 rfl (arrC Y) _ hry Try.underlying68 rfl HY.out ?_))
  go_loopw [8] (fun ti wr => ∃ k : Nat, k ≤ 16 ∧ ti = .int .i64 (k : Int) ∧ Own 68 wr w.heap.size (.slice (some ⟨w.heap.size, 0, none⟩) 16 16) (arrC (zipM mnI X Y k)) ∧ wr.there (w.heap.size + 1 + 1) 0 16 ∧ Below w.heap.size w wr) (fun ti _ => 16 - (intOf ti).toNat)
  case atStart => exact ⟨0, by omega, rfl, hox, ht, HB3⟩
  case round =>
    clear hox ht HB3 hry
    obtain ⟨k, hk, rfl, ho, ht, hB⟩ := hrel
    by_cases hlt : k < 16
    · have hidx := run_indexArr wr Y k hy hlt
      have c1 := own_cell ho (k := k) (by rw [arrC_len, zipM_len hx hy hk]; exact hlt)
      rw [zipM_get hx hy hlt] at c1
      have f1 := own_free ho k
      have i0 : (0 : Int) ≤ (k : Int) := by omega
      have i1 : (k : Int) < 16 := by omega
      have R := own_set ho k (Value.int .i64 (mnI (X[k]'(by omega)) (Y[k]'(by omega))))
      rw [zipM_set hx hy hlt] at R
      have R2 : (wr.setCell ⟨w.heap.size, k, none⟩ (Value.int .i64 (mnI (X[k]'(by omega)) (Y[k]'(by omega))))).there (w.heap.size + 1 + 1) 0 16 := World.there_setCells ht w.heap.size k [Value.int .i64 (mnI (X[k]'(by omega)) (Y[k]'(by omega)))]
      have R3 := hB.setCell (p := ⟨w.heap.size, k, none⟩) (Nat.le_refl _) (Value.int .i64 (mnI (X[k]'(by omega)) (Y[k]'(by omega))))
      unfold mnI at R R2 R3
      go_wp2_with fail
      go_roundw
      case rel => exact ⟨k + 1, by omega, by go_num, R, R2, R3⟩
      case measure => simp [intOf]; omega
    · obtain rfl : k = 16 := by omega
      rw [zipM_all hx hy] at ho
      have hlz : (List.zipWith mnI X Y).length = 16 := by simp [hx, hy]
      generalize hZ : List.zipWith mnI X Y = Z at ho hlz
      have HZQ : Hid _ := hZ
      clear hZ
      have HZ : Hid _ := arr_info hlz
      have HZ' : Hid _ := arr_info' hlz
      have hrz := own_range ho
      have ht' : wr.there (w.heap.size + 1 + 1) 0 (arrC Z).toArray.size := by rw [show (arrC Z).toArray.size = 16 by simp [arrC_len, hlz]]; exact ht
      clear ho hk hlt
      go_wp2_with (first | (refine wpList_load_mid rfl 68 _ rfl w.heap.size 0 rfl (arrC Z) _ hrz Try.underlying68 rfl HZ.out ?_) | (refine wpList_store_mid rfl 68 _ _ rfl (w.heap.size + 1 + 1) 0 (arrC Z).toArray rfl rfl ht' HZ'.out (arrC_all Z) ?_))
      have hrs : (wr.setCells (w.heap.size + 1 + 1) 0 (arrC Z)).rangeAt (w.heap.size + 1 + 1) 0 (arrC Z) := World.rangeAt_setCells_same _ _ _ _ (by rw [arrC_len, hlz]; exact ht)
      have hld := run_loadVar_mid (P := Try.prog) _ (w.heap.size + 1 + 1) 0 68 (arrC Z) _ hrs Try.underlying68 rfl HZ.out
      exact bodyPost_ret (v := .agg (arrC Z).toArray) (by simp [results, Try.results59, asAddr, Act.put, hld]) rfl ⟨by rw [HZQ.out], below_setCells (by omega) _ _ _ hB⟩

end Go.Proofs.Ytonpeiknoifdbab
