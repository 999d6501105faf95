/- Arrays of counts: what countsOf does. What the code's join and vector do. What the code's VecJoin does. What the specification's l02Join does. -/
import Derived.Deep.MidRow
import Derived.Deep.RegionHeld3
import Derived.Test.YtfnlnigeaioocaaGreatQTakeKit
import Derived.Test.YtfnlnigeaioocaaGreatQInfoToTrBase
namespace Go.Proofs.YtfnlnigeaioocaaGreat
open Go.RowKit
set_option linter.unusedVariables false

/-- The cells of an array of counts. -/
def arrC (xs : List Int) : List Value := xs.map (Value.int .i64)
theorem arrC_len (xs : List Int) : (arrC xs).length = xs.length := by simp [arrC]
theorem arrC_one (xs : List Int) : ∀ v ∈ arrC xs, v.oneCell' = true := by
  intro v hv
  obtain ⟨x, _, rfl⟩ := List.mem_map.1 hv
  rfl
theorem arrC_all (xs : List Int) : (arrC xs).toArray.all (·.oneCell') = true := all_oneCell_toArray (arrC_one xs)
theorem arr_info {xs : List Int} (h : xs.length = 16) : (Tryz.prog.info? 45).map (·.size) = some (arrC xs).length := by
  rw [arrC_len, h]
  kernel_rfl
theorem arr_info' {xs : List Int} (h : xs.length = 16) : (Tryz.prog.info? 45).map (·.size) = some (arrC xs).toArray.size := by
  rw [List.size_toArray]
  exact arr_info h
/-- An array that is there, and may be written. -/
theorem there_made {w w1 : World} {cs : Array Value} {T : TypeId} (h : Below (w.alloc (.cells cs T)).heap.size (w.alloc (.cells cs T)) w1) {n : Nat} (hn : n ≤ cs.size) : w1.there w.heap.size 0 n := fun j hj => by
  rw [Nat.zero_add]
  refine ⟨?_, frozen_made h j⟩
  rw [cell_made h (k := j) (v := cs[j]'(by omega)) (by simp)]
  rfl
theorem range_rd {C g off len cap : Nat} {w : World} {xs : List Int} (h : Rd C w (.slice (some ⟨g, off, none⟩) len cap) (xs.map (Value.int .i64))) : w.rangeAt g off (arrC xs) := by
  intro j v hj
  obtain ⟨ao, cap', e, _, _, _, hr⟩ := h
  simp only [Value.slice.injEq] at e
  obtain ⟨rfl, _, _⟩ := e
  have hj1 := (List.getElem?_eq_some_iff.1 hj).1
  obtain ⟨g', off', e, _, hc⟩ := hr (by unfold arrC at hj1; omega)
  simp only [Option.some.injEq, Addr.mk.injEq, and_true] at e
  obtain ⟨rfl, rfl⟩ := e
  exact hc j v hj
theorem below_setCells {B : Nat} {a : World} {b : Nat} (hb : B ≤ b) : ∀ (vs : List Value) (o : Nat) (w : World), Below B a w → Below B a (w.setCells b o vs) := by
  intro vs
  induction vs with
  | nil => intro o w h; exact h
  | cons v vs ih =>
    intro o w h
    exact ih (o + 1) _ (h.setCell (p := ⟨b, o, none⟩) hb v)

theorem run_arrayAt (w : World) (a : Option Addr) (cap : Nat) : (Instr.arrayAt 45 (.slice a 16 cap)).run Tryz.prog w = .ok (.pointer a) w := by
  unfold Instr.arrayAt
  rw [Sem.run_bind, run_underlying Tryz.underlying45 w]
  simp

theorem int_size : (Tryz.prog.info? 3).map (·.size) = some 1 := by kernel_rfl
theorem run_indexArr (w : World) (Y : List Int) (k : Nat) (hy : Y.length = 16) (hk : k < 16) : (Instr.index 45 (.agg (arrC Y).toArray) (.int .i64 (k : Int))).run Tryz.prog w = .ok (.int .i64 (Y[k]'(by omega))) w := by
  obtain ⟨i, hi, hs⟩ : ∃ i, Tryz.prog.info? 3 = some i ∧ i.size = 1 := by
    have := int_size
    cases h : Tryz.prog.info? 3 with
    | none => rw [h] at this; simp at this
    | some i => rw [h] at this; exact ⟨i, rfl, by simpa using this⟩
  have hc : (arrC Y)[k]? = some (Value.int .i64 (Y[k]'(by omega))) := by simp [arrC, hy, hk]
  unfold Instr.index
  simp only [Sem.run_bind, asIntOf, Sem.run_pure, Result.andThen_ok, run_underlying Tryz.underlying45 w]
  rw [if_pos ⟨by omega, by omega⟩]
  simp [Sem.run_bind, sizeOf, typeInfo, hi, hs, part]
  rw [hc]
  rfl

set_option maxHeartbeats 1000000 in
theorem countsOf_yes (C : Nat) (w : World) (v : Value) (xs : List Int) (hC : C ≤ w.heap.size) (hr : Rd C w v (xs.map (Value.int .i64))) (hok : vecOK xs = true) :
    Calls Tryz.prog 47 #[.agg #[v]] w fun e w' => e = .returned (.tuple #[.agg (arrC xs).toArray, .bool true]) ∧ Below w.heap.size w w' := by
  have hV := fun w' (h : Rd C w' v (xs.map (Value.int .i64))) (h' : C ≤ w'.heap.size) => implVecOK_any C w' v xs h' h
  rw [hok] at hV
  have h16 := (vecOK_get hok).1
  have hr0 := hr
  obtain ⟨ao, cap, rfl, hcap, hmax, _, hr⟩ := hr
  obtain ⟨g, off, rfl, hg, _⟩ := hr (by simp; omega)
  clear hr
  rw [List.length_map, h16] at hr0 hV ⊢
  go_enter Tryz.func47, Tryz.ntmps47
  go_wp2_with fail
  refine (hV _ ((hr0.alloc _ hC).alloc _ (by simp; omega)) (by simp; omega)).mono ?_
  rintro e w1 ⟨rfl, hb⟩
  have ht := there_made hb (n := 16) (by simp)
  have hb1 := below_seq (below_alloc _ _) hb
  have c1 := cell_made1 hb1
  have hbw := below_seq (below_alloc _ _) hb1
  have hrg : w1.rangeAt g off (arrC xs) := range_rd (hr0.belowW hbw hC)
  simp only [World.size_alloc] at ht
  rw [← h16, ← arrC_len, ← List.size_toArray] at ht
  have HI : Hid _ := arr_info h16
  have HI' : Hid _ := arr_info' h16
  have hat := run_arrayAt w1 (some ⟨g, off, none⟩) cap
  clear hV hb hb1 hr0
  go_wp2_with (first | (refine wpList_load_mid rfl 45 _ rfl g off rfl (arrC xs) _ hrg Tryz.underlying45 rfl HI.out ?_) | (refine wpList_store_mid rfl 45 _ _ rfl (w.heap.size + 1) 0 (arrC xs).toArray rfl rfl ht HI'.out (arrC_all xs) ?_))
  have hrs : (w1.setCells (w.heap.size + 1) 0 (arrC xs)).rangeAt (w.heap.size + 1) 0 (arrC xs) := World.rangeAt_setCells_same _ _ _ _ (by rw [List.size_toArray] at ht; exact ht)
  have hld := run_loadVar_mid (P := Tryz.prog) _ (w.heap.size + 1) 0 45 (arrC xs) _ hrs Tryz.underlying45 rfl HI.out
  exact bodyPost_ret (v := .tuple #[.agg (arrC xs).toArray, .bool true]) (by simp [results, Tryz.results47, asAddr, hld]) rfl ⟨rfl, below_setCells (by omega) _ _ _ hbw⟩

set_option maxHeartbeats 1000000 in
theorem countsOf_no (C : Nat) (w : World) (v : Value) (xs : List Int) (hC : C ≤ w.heap.size) (hr : Rd C w v (xs.map (Value.int .i64))) (hok : vecOK xs = false) :
    Calls Tryz.prog 47 #[.agg #[v]] w fun e w' => e = .returned (.tuple #[.agg (arrC (List.replicate 16 0)).toArray, .bool false]) ∧ Below w.heap.size w w' := by
  have hV := fun w' (h : Rd C w' v (xs.map (Value.int .i64))) (h' : C ≤ w'.heap.size) => implVecOK_any C w' v xs h' h
  rw [hok] at hV
  obtain ⟨ao, len, cap, rfl⟩ : ∃ ao len cap, v = .slice ao len cap := by
    obtain ⟨ao, cap, rfl, _⟩ := hr
    exact ⟨_, _, _, rfl⟩
  go_enter Tryz.func47, Tryz.ntmps47
  go_wp2_with fail
  refine (hV _ ((hr.alloc _ hC).alloc _ (by simp; omega)) (by simp; omega)).mono ?_
  rintro e w1 ⟨rfl, hb⟩
  have ht := there_made hb (n := 16) (by simp)
  have hbw := below_seq (below_alloc _ _) (below_seq (below_alloc _ _) hb)
  simp only [World.size_alloc] at ht
  have ht' : w1.there (w.heap.size + 1) 0 (arrC (List.replicate 16 0)).toArray.size := ht
  have HI : Hid _ := arr_info (xs := List.replicate 16 0) rfl
  have HI' : Hid _ := arr_info' (xs := List.replicate 16 0) rfl
  clear hV hb hr ht
  go_wp2_with (first | (refine wpList_store_mid rfl 45 _ _ rfl (w.heap.size + 1) 0 (arrC (List.replicate 16 0)).toArray rfl rfl ht' HI'.out (arrC_all _) ?_))
  have hrs : (w1.setCells (w.heap.size + 1) 0 (arrC (List.replicate 16 0))).rangeAt (w.heap.size + 1) 0 (arrC (List.replicate 16 0)) := World.rangeAt_setCells_same _ _ _ _ (by rw [List.size_toArray] at ht'; exact ht')
  have hld := run_loadVar_mid (P := Tryz.prog) _ (w.heap.size + 1) 0 45 (arrC (List.replicate 16 0)) _ hrs Tryz.underlying45 rfl HI.out
  exact bodyPost_ret (v := .tuple #[.agg (arrC (List.replicate 16 0)).toArray, .bool false]) (by simp only [results, Tryz.results47]; simp [asAddr]; exact congrArg (fun r => Result.andThen r fun a w => Result.ok (Value.tuple #[a, Value.bool false]) w) hld) rfl ⟨rfl, below_setCells (by omega) _ _ _ hbw⟩

/-- What countsOf gives of a vector. -/
def cnt (xs : List Int) : List Int := if vecOK xs = true then xs else List.replicate 16 0
theorem cnt_len (xs : List Int) : (cnt xs).length = 16 := by
  unfold cnt
  split
  · rename_i h; exact (vecOK_get h).1
  · rfl
theorem countsOf_any (C : Nat) (w : World) (v : Value) (xs : List Int) (hC : C ≤ w.heap.size) (hr : Rd C w v (xs.map (Value.int .i64))) :
    Calls Tryz.prog 47 #[.agg #[v]] w fun e w' => e = .returned (.tuple #[.agg (arrC (cnt xs)).toArray, .bool (vecOK xs)]) ∧ Below w.heap.size w w' := by
  cases h : vecOK xs with
  | true => unfold cnt; rw [if_pos h]; exact countsOf_yes C w v xs hC hr h
  | false => unfold cnt; rw [if_neg (by rw [h]; decide)]; exact countsOf_no C w v xs hC hr h

theorem range_below {B : Nat} {w w' : World} (h : Below B w w') {X o : Nat} {cs : List Value} (hx : X < B) (hr : w.rangeAt X o cs) : w'.rangeAt X o cs := fun j v hj => (h.cell (p := ⟨X, o + j, none⟩) hx).trans (hr j v hj)
/-- A new array, written. -/
theorem arr_put {B : Nat} {a w : World} (h : Below B a w) (hB : B ≤ w.heap.size) (Z : Array Value) (hZ : Z.size = 16) (T : TypeId) (xs : List Int) (hx : xs.length = 16) :
    Below B a ((w.alloc (.cells Z T)).setCells w.heap.size 0 (arrC xs)) ∧ ((w.alloc (.cells Z T)).setCells w.heap.size 0 (arrC xs)).rangeAt w.heap.size 0 (arrC xs) ∧ (w.alloc (.cells Z T)).there w.heap.size 0 (arrC xs).toArray.size ∧ w.heap.size < ((w.alloc (.cells Z T)).setCells w.heap.size 0 (arrC xs)).heap.size ∧ Below w.heap.size w ((w.alloc (.cells Z T)).setCells w.heap.size 0 (arrC xs)) := by
  have ht : (w.alloc (.cells Z T)).there w.heap.size 0 16 := there_made (Below.refl _ _) (by omega)
  refine ⟨below_setCells hB _ _ _ (h.alloc hB _), World.rangeAt_setCells_same _ _ _ _ (by rw [arrC_len, hx]; exact ht), by rw [show (arrC xs).toArray.size = 16 by simp [arrC_len, hx]]; exact ht, ?_, below_setCells (Nat.le_refl _) _ _ _ (below_alloc _ _)⟩
  have := (below_setCells (Nat.le_refl _) (arrC xs) 0 _ (Below.refl w.heap.size (w.alloc (.cells Z T)))).size
  rw [World.size_alloc] at this
  omega
theorem there_more {B : Nat} {w w' : World} (h : Below B w w') {X n : Nat} (hx : X < B) (hr : w.there X 0 n) : w'.there X 0 n := fun j hj => by
  rw [h.cell (p := ⟨X, 0 + j, none⟩) hx, h.frozen (p := ⟨X, 0 + j, none⟩) hx]
  exact hr j hj

end Go.Proofs.YtfnlnigeaioocaaGreat

namespace Go.Proofs.YtfnlnigeaioocaaGreat
open Go.RowKit
set_option linter.unusedVariables false

/-- A block that is an array, seen as a row. -/
theorem own_arr {w : World} {g B : Nat} {X : List Int} {T : TypeId} (h : w.heap[g]? = some (.cells (arrC X).toArray T (0, 0))) (hx : X.length = 16) (hB : B ≤ g) : Own T w B (.slice (some ⟨g, 0, none⟩) 16 16) (arrC X) := by
  refine ⟨by simp, .inr ⟨g, 16, (arrC X).toArray, by rw [arrC_len, hx], hB, h, by rw [arrC_len, hx]; exact Nat.le_refl _, by decide, by simp [arrC_len, hx], by simp⟩⟩
theorem own_block {w : World} {g B n cap : Nat} {cs : List Value} {T : TypeId} (h : Own T w B (.slice (some ⟨g, 0, none⟩) n cap) cs) (hn : cs.length = cap) : w.heap[g]? = some (.cells cs.toArray T (0, 0)) := by
  obtain ⟨h1, h2⟩ := h
  rcases h2 with ⟨hv, _⟩ | ⟨g', cap', cur, hv, hb, hg, hle, hm, hs, ht⟩
  · simp at hv
  · simp only [Value.slice.injEq, Option.some.injEq, Addr.mk.injEq, and_true] at hv
    obtain ⟨rfl, rfl, rfl⟩ := hv
    rw [hg]
    have : cur = cs.toArray := by
      rw [← ht, Nat.mul_one, List.take_of_length_le (by simp; omega)]
    rw [this]
theorem own_range {w : World} {g B n cap : Nat} {cs : List Value} {T : TypeId} (h : Own T w B (.slice (some ⟨g, 0, none⟩) n cap) cs) : w.rangeAt g 0 cs := by
  intro j v hj
  have hj1 := (List.getElem?_eq_some_iff.1 hj).1
  rw [Nat.zero_add, own_cell h hj1]
  rw [List.getElem?_eq_getElem hj1] at hj
  exact hj

theorem block_made {w w1 : World} {o : Obj} (h : Below (w.alloc o).heap.size (w.alloc o) w1) : w1.heap[w.heap.size]? = some o := (h.block w.heap.size (by simp)).trans (heap_alloc_new w o)

/-- The greater one, and the lesser one. -/
def mxI (a b : Int) : Int := if a < b then b else a
def mnI (a b : Int) : Int := if b < a then b else a

/-- What join makes of two. -/
def zipM (f : Int → Int → Int) (X Y : List Int) (k : Nat) : List Int := (List.zipWith f X Y).take k ++ X.drop k
theorem zipM_len {f : Int → Int → Int} {X Y : List Int} (hx : X.length = 16) (hy : Y.length = 16) {k : Nat} (hk : k ≤ 16) : (zipM f X Y k).length = 16 := by simp [zipM, hx, hy]; omega
theorem zipM_all {f : Int → Int → Int} {X Y : List Int} (hx : X.length = 16) (hy : Y.length = 16) : zipM f X Y 16 = List.zipWith f X Y := by
  unfold zipM
  rw [List.drop_of_length_le (by omega), List.take_of_length_le (by simp [hx, hy]), List.append_nil]
theorem zipM_get {f : Int → Int → Int} {X Y : List Int} (hx : X.length = 16) (hy : Y.length = 16) {k : Nat} (hk : k < 16) : (arrC (zipM f X Y k))[k]'(by rw [arrC_len, zipM_len hx hy (by omega)]; exact hk) = Value.int .i64 (X[k]'(by omega)) := by
  unfold arrC zipM
  rw [List.getElem_map, List.getElem_append_right (by simp [hx, hy]; omega)]
  simp [hx, hy, Nat.min_eq_left (Nat.le_of_lt hk)]
theorem zipM_set {f : Int → Int → Int} {X Y : List Int} (hx : X.length = 16) (hy : Y.length = 16) {k : Nat} (hk : k < 16) : (arrC (zipM f X Y k)).set k (Value.int .i64 (f (X[k]'(by omega)) (Y[k]'(by omega)))) = arrC (zipM f X Y (k + 1)) := by
  unfold arrC zipM
  rw [List.map_append, List.set_append_right _ _ (by simp [hx, hy]; omega), List.map_append]
  have hl : ((List.zipWith f X Y).take k).length = k := by simp [hx, hy]; omega
  rw [List.length_map, hl, Nat.sub_self, List.drop_eq_getElem_cons (show k < X.length by omega), List.map_cons, List.set_cons_zero, List.take_succ_eq_append_getElem (show k < (List.zipWith f X Y).length by simp [hx, hy]; omega), List.map_append, List.append_assoc, List.getElem_zipWith]
  rfl

set_option maxHeartbeats 1000000 in
set_option maxRecDepth 100000 in
theorem join_any (w : World) (X Y : List Int) (hx : X.length = 16) (hy : Y.length = 16) :
    Calls Tryz.prog 40 #[.agg (arrC X).toArray, .agg (arrC Y).toArray] w fun e w' => e = .returned (.agg (arrC (List.zipWith mxI X Y)).toArray) ∧ Below w.heap.size w w' := by
  have HX : Hid _ := arr_info hx
  have HY : Hid _ := arr_info hy
  have sx : (arrC X).toArray.size = 16 := by simp [arrC_len, hx]
  have sy : (arrC Y).toArray.size = 16 := by simp [arrC_len, hy]
  have HB := Below.refl (((w.alloc (.cells (arrC X).toArray 45)).alloc (.cells (arrC Y).toArray 45)).alloc (.cells #[.int .i64 0, .int .i64 0, .int .i64 0, .int .i64 0, .int .i64 0, .int .i64 0, .int .i64 0, .int .i64 0, .int .i64 0, .int .i64 0, .int .i64 0, .int .i64 0, .int .i64 0, .int .i64 0, .int .i64 0, .int .i64 0] 45)).heap.size (((w.alloc (.cells (arrC X).toArray 45)).alloc (.cells (arrC Y).toArray 45)).alloc (.cells #[.int .i64 0, .int .i64 0, .int .i64 0, .int .i64 0, .int .i64 0, .int .i64 0, .int .i64 0, .int .i64 0, .int .i64 0, .int .i64 0, .int .i64 0, .int .i64 0, .int .i64 0, .int .i64 0, .int .i64 0, .int .i64 0] 45))
  have ht := there_made (n := 16) HB (by simp)
  have HB1 := below_seq (below_alloc _ _) HB
  have hry := own_range (own_arr (block_made HB1) hy (Nat.le_refl _))
  have HB2 := below_seq (below_alloc _ _) HB1
  have hox := own_arr (block_made HB2) hx (Nat.le_refl _)
  have HB3 := below_seq (below_alloc _ _) HB2
  simp only [World.size_alloc] at ht hry
  clear HB HB1 HB2
  go_enter Tryz.func40, Tryz.ntmps40
  go_wp2_with (first | (refine wpList_load_mid rfl 45 _ rfl (w.heap.size + 1) 0 rfl (arrC Y) _ hry Tryz.underlying45 rfl HY.out ?_))
  go_loopw [8] (fun ti wr => ∃ k : Nat, k ≤ 16 ∧ ti = .int .i64 (k : Int) ∧ Own 45 wr w.heap.size (.slice (some ⟨w.heap.size, 0, none⟩) 16 16) (arrC (zipM mxI X Y k)) ∧ wr.there (w.heap.size + 1 + 1) 0 16 ∧ Below w.heap.size w wr) (fun ti _ => 16 - (intOf ti).toNat)
  case atStart => exact ⟨0, by omega, rfl, hox, ht, HB3⟩
  case round =>
    clear hox ht HB3 hry
    obtain ⟨k, hk, rfl, ho, ht, hB⟩ := hrel
    by_cases hlt : k < 16
    · have hidx := run_indexArr wr Y k hy hlt
      have c1 := own_cell ho (k := k) (by rw [arrC_len, zipM_len hx hy hk]; exact hlt)
      rw [zipM_get hx hy hlt] at c1
      have f1 := own_free ho k
      have i0 : (0 : Int) ≤ (k : Int) := by omega
      have i1 : (k : Int) < 16 := by omega
      have R := own_set ho k (Value.int .i64 (mxI (X[k]'(by omega)) (Y[k]'(by omega))))
      rw [zipM_set hx hy hlt] at R
      have R2 : (wr.setCell ⟨w.heap.size, k, none⟩ (Value.int .i64 (mxI (X[k]'(by omega)) (Y[k]'(by omega))))).there (w.heap.size + 1 + 1) 0 16 := World.there_setCells ht w.heap.size k [Value.int .i64 (mxI (X[k]'(by omega)) (Y[k]'(by omega)))]
      have R3 := hB.setCell (p := ⟨w.heap.size, k, none⟩) (Nat.le_refl _) (Value.int .i64 (mxI (X[k]'(by omega)) (Y[k]'(by omega))))
      unfold mxI at R R2 R3
      go_wp2_with fail
      go_roundw
      case rel => exact ⟨k + 1, by omega, by go_num, R, R2, R3⟩
      case measure => simp [intOf]; omega
    · obtain rfl : k = 16 := by omega
      rw [zipM_all hx hy] at ho
      have hlz : (List.zipWith mxI X Y).length = 16 := by simp [hx, hy]
      generalize hZ : List.zipWith mxI X Y = Z at ho hlz
      have HZQ : Hid _ := hZ
      clear hZ
      have HZ : Hid _ := arr_info hlz
      have HZ' : Hid _ := arr_info' hlz
      have hrz := own_range ho
      have ht' : wr.there (w.heap.size + 1 + 1) 0 (arrC Z).toArray.size := by rw [show (arrC Z).toArray.size = 16 by simp [arrC_len, hlz]]; exact ht
      clear ho hk hlt
      go_wp2_with (first | (refine wpList_load_mid rfl 45 _ rfl w.heap.size 0 rfl (arrC Z) _ hrz Tryz.underlying45 rfl HZ.out ?_) | (refine wpList_store_mid rfl 45 _ _ rfl (w.heap.size + 1 + 1) 0 (arrC Z).toArray rfl rfl ht' HZ'.out (arrC_all Z) ?_))
      have hrs : (wr.setCells (w.heap.size + 1 + 1) 0 (arrC Z)).rangeAt (w.heap.size + 1 + 1) 0 (arrC Z) := World.rangeAt_setCells_same _ _ _ _ (by rw [arrC_len, hlz]; exact ht)
      have hld := run_loadVar_mid (P := Tryz.prog) _ (w.heap.size + 1 + 1) 0 45 (arrC Z) _ hrs Tryz.underlying45 rfl HZ.out
      exact bodyPost_ret (v := .agg (arrC Z).toArray) (by simp [results, Tryz.results40, asAddr, Act.put, hld]) rfl ⟨by rw [HZQ.out], below_setCells (by omega) _ _ _ hB⟩

set_option maxHeartbeats 1000000 in
set_option maxRecDepth 100000 in
theorem vector_any (w : World) (X : List Int) (hx : X.length = 16) :
    Calls Tryz.prog 54 #[.agg (arrC X).toArray] w fun e w' => ∃ a, e = .returned (.agg #[.slice a 16 16]) ∧ Own 45 w' w.heap.size (.slice a 16 16) (X.map (Value.int .i64)) ∧ Below w.heap.size w w' := by
  have HB := Below.refl ((w.alloc (.cells (arrC X).toArray 45)).alloc (.cells #[.slice none 0 0] 25)).heap.size ((w.alloc (.cells (arrC X).toArray 45)).alloc (.cells #[.slice none 0 0] 25))
  have sx : (arrC X).toArray.size = 16 := by simp [arrC_len, hx]
  go_enter Tryz.func54, Tryz.ntmps54
  go_wp2_with fail
  have ho := own_arr (block_made (w := w) (w1 := (w.alloc (.cells (arrC X).toArray 45)).alloc (.cells #[.slice (some ⟨w.heap.size, 0, none⟩) 16 16] 25)) (below_alloc _ _)) hx (Nat.le_refl _)
  exact bodyPost_ret (v := .agg #[.slice (some ⟨w.heap.size, 0, none⟩) 16 16]) (by simp [results, Tryz.results54, go_sem]) rfl ⟨_, rfl, ho, below_then (below_alloc _ _) _⟩
end Go.Proofs.YtfnlnigeaioocaaGreat

namespace Go.Proofs.YtfnlnigeaioocaaGreat
open Go.RowKit
set_option linter.unusedVariables false

/-- What VecJoin (or VecMeet) answers: counts and a code. -/
def zipB (f : Int → Int → Int) (xs ys : List Int) : List Int := if (vecOK xs && vecOK ys) = true then List.zipWith f xs ys else []
def zipC (xs ys : List Int) : Int := if (vecOK xs && vecOK ys) = true then 0 else 1
theorem zipB_len (f : Int → Int → Int) (xs ys : List Int) : (zipB f xs ys).length ≤ 16 := by
  unfold zipB
  split
  · rename_i h
    rw [Bool.and_eq_true] at h
    simp [(vecOK_get h.1).1, (vecOK_get h.2).1]
  · simp
theorem zip_yes {f : Int → Int → Int} {xs ys : List Int} (h : (vecOK xs && vecOK ys) = true) : zipB f xs ys = List.zipWith f (cnt xs) (cnt ys) ∧ zipC xs ys = 0 := by
  have h2 := h
  rw [Bool.and_eq_true] at h2
  unfold zipB zipC cnt
  rw [if_pos h, if_pos h, if_pos h2.1, if_pos h2.2]
  exact ⟨rfl, rfl⟩
theorem zip_no {f : Int → Int → Int} {xs ys : List Int} (h : (vecOK xs && vecOK ys) = false) : zipB f xs ys = [] ∧ zipC xs ys = 1 := by
  unfold zipB zipC
  rw [if_neg (by rw [h]; decide), if_neg (by rw [h]; decide)]
  exact ⟨rfl, rfl⟩
/-- Two new arrays, written. -/
theorem arr_two {B : Nat} {a w : World} (h : Below B a w) (hB : B ≤ w.heap.size) (Z : Array Value) (hZ : Z.size = 16) (T : TypeId) (X Y : List Int) (hx : X.length = 16) (hy : Y.length = 16) :
    ((w.alloc (.cells Z T)).alloc (.cells Z T)).there w.heap.size 0 (arrC X).toArray.size ∧ (((w.alloc (.cells Z T)).alloc (.cells Z T)).setCells w.heap.size 0 (arrC X)).there (w.heap.size + 1) 0 (arrC Y).toArray.size ∧
    Below B a ((((w.alloc (.cells Z T)).alloc (.cells Z T)).setCells w.heap.size 0 (arrC X)).setCells (w.heap.size + 1) 0 (arrC Y)) ∧
    ((((w.alloc (.cells Z T)).alloc (.cells Z T)).setCells w.heap.size 0 (arrC X)).setCells (w.heap.size + 1) 0 (arrC Y)).rangeAt w.heap.size 0 (arrC X) ∧
    ((((w.alloc (.cells Z T)).alloc (.cells Z T)).setCells w.heap.size 0 (arrC X)).setCells (w.heap.size + 1) 0 (arrC Y)).rangeAt (w.heap.size + 1) 0 (arrC Y) := by
  have sx : (arrC X).toArray.size = 16 := by simp [arrC_len, hx]
  have sy : (arrC Y).toArray.size = 16 := by simp [arrC_len, hy]
  have t1 : ((w.alloc (.cells Z T)).alloc (.cells Z T)).there w.heap.size 0 16 := there_made (below_alloc _ _) (by omega)
  have t2 : ((w.alloc (.cells Z T)).alloc (.cells Z T)).there (w.heap.size + 1) 0 16 := by
    have := there_made (n := 16) (w := w.alloc (.cells Z T)) (cs := Z) (T := T) (Below.refl _ _) (by omega)
    rw [World.size_alloc] at this
    exact this
  have t3 := World.there_setCells t2 w.heap.size 0 (arrC X)
  refine ⟨by rw [sx]; exact t1, by rw [sy]; exact t3, ?_, ?_, ?_⟩
  · exact below_setCells (by omega) _ _ _ (below_setCells hB _ _ _ ((h.alloc hB _).alloc (by rw [World.size_alloc]; omega) _))
  · exact World.rangeAt_setCells_apart (World.rangeAt_setCells_same _ _ _ _ (by rw [arrC_len, hx]; exact t1)) _ _ _ (.inl (by omega))
  · exact World.rangeAt_setCells_same _ _ _ _ (by rw [arrC_len, hy]; exact t3)

end Go.Proofs.YtfnlnigeaioocaaGreat

namespace Go.Proofs.YtfnlnigeaioocaaGreat
open Go.RowKit
set_option linter.unusedVariables false

theorem keepG {w w' : World} {row : Option Nat} {N : Nat} {a : Addr} {v : Value} (hg : w.grownBy w' row) (hc : w.cell? a = some v) (hr : ∀ k, row = some k → N ≤ k) (ha : a.block < N) : w'.cell? a = some v :=
  hg.cell hc (fun e => by have := hr _ e.symm; omega)
theorem keepF {w w' : World} {row : Option Nat} {N : Nat} {a : Addr} (hg : w.grownBy w' row) (hc : w.frozen? a = false) (hr : ∀ k, row = some k → N ≤ k) (ha : a.block < N) (hs : a.block < w.heap.size) : w'.frozen? a = false := by
  rw [World.frozen?_of_block (w := w) (hg.block a.block hs (fun e => by have := hr _ e.symm; omega))]
  exact hc
theorem frozen_alloc {w : World} {a : Addr} (hc : w.frozen? a = false) (hs : a.block < w.heap.size) (o : Obj) : (w.alloc o).frozen? a = false := by
  rw [World.frozen?_of_block (w := w) (Below.heap_alloc w o a.block hs)]
  exact hc
theorem setO {w : World} {a : Addr} {v : Value} (hc : w.cell? a = some v) (b o : Nat) (u : Value) (h : a.block ≠ b) : (w.setCell ⟨b, o, none⟩ u).cell? a = some v := by
  rw [World.cell?_of_block (w := w) (heap_setCell_other w ⟨b, o, none⟩ a.block u h)]
  exact hc
theorem zip_take {f : Int → Int → Int} {xs ys : List Int} {k : Nat} (hx : k < xs.length) (hy : k < ys.length) : (List.zipWith f xs ys).take (k + 1) = (List.zipWith f xs ys).take k ++ [f xs[k] ys[k]] := by
  rw [List.take_succ_eq_append_getElem (by simp; omega), List.getElem_zipWith]

set_option maxHeartbeats 4000000 in
set_option maxRecDepth 100000 in
theorem l02Join_any (C D : Nat) (w : World) (va vb : Value) (xs ys : List Int) (hx : xs.length = 16) (hy : ys.length = 16) (hC : C ≤ w.heap.size) (hD : D ≤ w.heap.size) (ha : Rd C w va (xs.map (Value.int .i64))) (hb : Rd D w vb (ys.map (Value.int .i64))) :
    Calls Tryz.prog 97 #[.agg #[va], .agg #[vb]] w fun e w' => ∃ a n c, e = .returned (.agg #[.slice a n c]) ∧ Own 3 w' w.heap.size (.slice a n c) ((List.zipWith mxI xs ys).map (Value.int .i64)) ∧ Below w.heap.size w w' := by
  obtain ⟨i0, hi, hz0, hz1, hz2⟩ := info_parts info3
  obtain ⟨ao, ca, rfl, _, _, _, ha⟩ := ha
  obtain ⟨bo, cb, rfl, _, _, _, hb⟩ := hb
  rw [List.length_map] at ha hb ⊢
  rw [List.length_map]
  obtain ⟨ga, oa, rfl, hga, hca⟩ := ha (by omega)
  obtain ⟨gb, ob, rfl, hgb, hcb⟩ := hb (by omega)
  have HA : Hid (∀ k (hk : k < xs.length) (w' : World), Below w.heap.size w w' → w'.cell? ⟨ga, oa + k, none⟩ = some (.int .i64 xs[k])) := fun k hk w' h => (h.cell (p := ⟨ga, oa + k, none⟩) (by show ga < _; omega)).trans (hca k _ (by simp [hk]))
  have HB : Hid (∀ k (hk : k < ys.length) (w' : World), Below w.heap.size w w' → w'.cell? ⟨gb, ob + k, none⟩ = some (.int .i64 ys[k])) := fun k hk w' h => (h.cell (p := ⟨gb, ob + k, none⟩) (by show gb < _; omega)).trans (hcb k _ (by simp [hk]))
  have H16 : Hid _ := hx
  have J16 : Hid _ := hy
  rw [hx, hy]
  clear ha hb hca hcb
  have hB0 := below_alloc (((w.alloc (.cells #[.slice (some ⟨ga, oa, none⟩) 16 ca] 25)).alloc (.cells #[.slice (some ⟨gb, ob, none⟩) 16 cb] 25)).alloc (.cells #[.slice none 0 0] 25)) (.cells #[.slice none 0 0] 25)
  have cO0 := cell_made1 (Below.refl ((((w.alloc (.cells #[.slice (some ⟨ga, oa, none⟩) 16 ca] 25)).alloc (.cells #[.slice (some ⟨gb, ob, none⟩) 16 cb] 25)).alloc (.cells #[.slice none 0 0] 25)).alloc (.cells #[.slice none 0 0] 25)).heap.size _)
  have fO0 := frozen_made (Below.refl ((((w.alloc (.cells #[.slice (some ⟨ga, oa, none⟩) 16 ca] 25)).alloc (.cells #[.slice (some ⟨gb, ob, none⟩) 16 cb] 25)).alloc (.cells #[.slice none 0 0] 25)).alloc (.cells #[.slice none 0 0] 25)).heap.size _) 0
  have hs0 : w.heap.size + 4 ≤ ((((w.alloc (.cells #[.slice (some ⟨ga, oa, none⟩) 16 ca] 25)).alloc (.cells #[.slice (some ⟨gb, ob, none⟩) 16 cb] 25)).alloc (.cells #[.slice none 0 0] 25)).alloc (.cells #[.slice none 0 0] 25)).heap.size := by simp
  simp only [World.size_alloc] at cO0 fO0
  go_enter Tryz.func97, Tryz.ntmps97
  go_wp2_with fail
  go_loopw [6] (fun ti wr => ∃ (k : Nat) (to : Option Addr) (tc : Nat), k ≤ 16 ∧ ti = .int .i64 (k : Int) ∧ Below (((w.alloc (.cells #[.slice (some ⟨ga, oa, none⟩) 16 ca] 25)).alloc (.cells #[.slice (some ⟨gb, ob, none⟩) 16 cb] 25)).alloc (.cells #[.slice none 0 0] 25)).heap.size (((w.alloc (.cells #[.slice (some ⟨ga, oa, none⟩) 16 ca] 25)).alloc (.cells #[.slice (some ⟨gb, ob, none⟩) 16 cb] 25)).alloc (.cells #[.slice none 0 0] 25)) wr ∧ wr.cell? ⟨w.heap.size + 1 + 1 + 1, 0, none⟩ = some (.slice to k tc) ∧ wr.frozen? ⟨w.heap.size + 1 + 1 + 1, 0, none⟩ = false ∧ Own 3 wr (w.heap.size + 4) (.slice to k tc) (((List.zipWith mxI xs ys).take k).map (Value.int .i64)) ∧ w.heap.size + 4 ≤ wr.heap.size) (fun ti _ => 16 - (intOf ti).toNat)
  case atStart => exact ⟨0, none, 0, by omega, rfl, hB0, cO0, fO0, World.ownsRow_nil _ _ _ _, hs0⟩
  case round =>
    clear hB0 cO0 fO0 hs0
    obtain ⟨k, to, tc, hk, rfl, hB, cO, fO, ho, hsz⟩ := hrel
    have hBw := below_seq (below_alloc _ _) (below_seq (below_alloc _ _) (below_seq (below_alloc _ _) hB))
    have cA := cell_made1 (below_seq (below_alloc _ _) (below_seq (below_alloc _ _) hB))
    have cB := cell_made1 (below_seq (below_alloc _ _) hB)
    rw [World.size_alloc] at cB
    by_cases hlt : k < 16
    · have cX := HA.out k (by rw [H16.out]; exact hlt) wr hBw
      have cY := HB.out k (by rw [J16.out]; exact hlt) wr hBw
      have HZ : Hid _ := zip_take (f := mxI) (xs := xs) (ys := ys) (k := k) (by rw [H16.out]; exact hlt) (by rw [J16.out]; exact hlt)
      have i1 : (0 : Int) ≤ (k : Int) := by omega
      have i2 : (k : Int) < 16 := by omega
      generalize xs[k]'(by rw [H16.out]; exact hlt) = x at cX HZ
      generalize ys[k]'(by rw [J16.out]; exact hlt) = y at cY HZ
      clear hBw
      go_wp2_with fail
      refine wp_region_held_drew (S := fun w' => w'.cell? ⟨w.heap.size, 0, none⟩ = some (.slice (some ⟨ga, oa, none⟩) 16 ca) ∧ w'.cell? ⟨w.heap.size + 1, 0, none⟩ = some (.slice (some ⟨gb, ob, none⟩) 16 cb) ∧ w'.cell? ⟨ga, oa + k, none⟩ = some (.int .i64 x) ∧ w'.cell? ⟨gb, ob + k, none⟩ = some (.int .i64 y)) (by kernel_rfl) ⟨cA, cB, cX, cY⟩ (fun hHeld => ?_)
      · skip
        refine tkH 0 (.pointer (some ⟨w.heap.size + 1 + 1 + 1, 0, none⟩)) rfl (Or.inl ⟨by rfl, fun w' hw => by (obtain ⟨s1, s2, s3, s4⟩ := hw; go_simp)⟩) hHeld ?_
        simp only [tkS, Act.put]
        refine tkH 2 (.pointer (some ⟨w.heap.size, 0, none⟩)) rfl (Or.inl ⟨by rfl, fun w' hw => by (obtain ⟨s1, s2, s3, s4⟩ := hw; go_simp)⟩) hHeld ?_
        simp only [tkS, Act.put]
        refine tkH 3 (.slice (some ⟨ga, oa, none⟩) 16 ca) rfl (Or.inl ⟨by rfl, fun w' hw => by (obtain ⟨s1, s2, s3, s4⟩ := hw; go_simp)⟩) hHeld ?_
        simp only [tkS, Act.put]
        refine tkH 4 (.int .i64 (k : Int)) rfl (Or.inl ⟨by rfl, fun w' hw => by (obtain ⟨s1, s2, s3, s4⟩ := hw; go_simp)⟩) hHeld ?_
        simp only [tkS, Act.put]
        refine tkH 5 (.pointer (some ⟨ga, oa + k, none⟩)) rfl (Or.inl ⟨by rfl, fun w' hw => by (obtain ⟨s1, s2, s3, s4⟩ := hw; go_simp)⟩) hHeld ?_
        simp only [tkS, Act.put]
        refine tkH 6 (.int .i64 x) rfl (Or.inl ⟨by rfl, fun w' hw => by (obtain ⟨s1, s2, s3, s4⟩ := hw; go_simp)⟩) hHeld ?_
        simp only [tkS, Act.put]
        refine tkH 7 (.pointer (some ⟨w.heap.size + 1, 0, none⟩)) rfl (Or.inl ⟨by rfl, fun w' hw => by (obtain ⟨s1, s2, s3, s4⟩ := hw; go_simp)⟩) hHeld ?_
        simp only [tkS, Act.put]
        refine tkH 8 (.slice (some ⟨gb, ob, none⟩) 16 cb) rfl (Or.inl ⟨by rfl, fun w' hw => by (obtain ⟨s1, s2, s3, s4⟩ := hw; go_simp)⟩) hHeld ?_
        simp only [tkS, Act.put]
        refine tkH 9 (.int .i64 (k : Int)) rfl (Or.inl ⟨by rfl, fun w' hw => by (obtain ⟨s1, s2, s3, s4⟩ := hw; go_simp)⟩) hHeld ?_
        simp only [tkS, Act.put]
        refine tkH 10 (.pointer (some ⟨gb, ob + k, none⟩)) rfl (Or.inl ⟨by rfl, fun w' hw => by (obtain ⟨s1, s2, s3, s4⟩ := hw; go_simp)⟩) hHeld ?_
        simp only [tkS, Act.put]
        refine tkH 11 (.int .i64 y) rfl (Or.inl ⟨by rfl, fun w' hw => by (obtain ⟨s1, s2, s3, s4⟩ := hw; go_simp)⟩) hHeld ?_
        simp only [tkS, Act.put]
        refine tkH 12 (.int .i64 (if x < y then y else x)) rfl (Or.inl ⟨by rfl, fun w' hw => by go_simp⟩) hHeld ?_
        simp only [tkS, Act.put]
        generalize hmx : (if x < y then y else x) = m
        have cO1 := alloc_keep cO (.cells #[.int .i64 m] 3)
        have S1 := And.intro (alloc_keep cA (.cells #[.int .i64 m] 3)) (And.intro (alloc_keep cB (.cells #[.int .i64 m] 3)) (And.intro (alloc_keep cX (.cells #[.int .i64 m] 3)) (alloc_keep cY (.cells #[.int .i64 m] 3))))
        refine wpAnyH_ready (rs := [1, 13]) (by kernel_rfl) (by simp) ?_
        refine AllReadyH.cons rfl (fun K hK => ?wayA) (AllReadyH.cons rfl (fun K hK => ?wayB) AllReadyH.nil)
        case' wayA =>
          go_simp
          refine hK.out _ _ hHeld (fun hHeld1 => ?_)
          clear hK K
          refine wpAnyH_ready (rs := [13]) (by kernel_rfl) (by simp) ?_
          refine AllReadyH.cons rfl (fun K hK => ?_) AllReadyH.nil
          go_simp
          refine hK.out _ _ S1 (fun hHeld2 => ?_)
          clear hK K
        case' wayB =>
          go_simp
          refine hK.out _ _ S1 (fun hHeld1 => ?_)
          clear hK K
          refine wpAnyH_ready (rs := [1]) (by kernel_rfl) (by simp) ?_
          refine AllReadyH.cons rfl (fun K hK => ?_) AllReadyH.nil
          go_simp
          refine hK.out _ _ S1 (fun hHeld2 => ?_)
          clear hK K
        all_goals
          have hown : Own 3 (wr.alloc (.cells #[.int .i64 m] 3)).drew (w.heap.size + 4) (.slice to k tc) (((List.zipWith mxI xs ys).take k).map (Value.int .i64)) := World.ownsRow.alloc ho _
          have hlen : ((List.zipWith mxI xs ys).take k).length = k := by simp [hx, hy]; omega
          refine wpAnyH_ready (rs := [14]) (by kernel_rfl) (by simp) ?_
          refine AllReadyH.cons rfl (fun K hK => ?_) AllReadyH.nil
          refine step_append_rd rfl (.tmp 13) (.tmp 25) 23 rfl (w.heap.size + 4) 3 i0 (.int .i64 0) 8 Tryz.underlying23 hi hz0 hz1 hz2 rfl _ _ rfl hown _ _ [.int .i64 m] rfl (show Rd (wr.alloc (.cells #[.int .i64 m] 3)).heap.size (wr.alloc (.cells #[.int .i64 m] 3)).drew _ _ from (own_lit wr 3 [.int .i64 m] 1 rfl (by decide)).rd) (by simp) (by simp [Value.oneCell']) (by simp [maxLen]; omega) (by simp; omega) (by show w.heap.size + 4 ≤ (wr.alloc _).heap.size; rw [World.size_alloc]; omega) ?_
          intro v7 w7 ho7 hg7
          obtain ⟨a7, c7, e7, _⟩ := ho7.slice
          have hl7 : ((((List.zipWith mxI xs ys).take k).map (Value.int .i64)) ++ [Value.int .i64 m]).length = k + 1 := by rw [List.length_append, List.length_map, hlen]; rfl
          rw [hl7] at e7
          subst e7
          have hlt7 := ho.lt
          have hb1 : w.heap.size < w.heap.size + 4 := by omega
          have hS7 := And.intro (keepG hg7 (show (wr.alloc (.cells #[.int .i64 m] 3)).drew.cell? _ = _ from S1.1) hlt7 (show w.heap.size < w.heap.size + 4 by omega)) (And.intro (keepG hg7 (show (wr.alloc (.cells #[.int .i64 m] 3)).drew.cell? _ = _ from S1.2.1) hlt7 (show w.heap.size + 1 < w.heap.size + 4 by omega)) (And.intro (keepG hg7 (show (wr.alloc (.cells #[.int .i64 m] 3)).drew.cell? _ = _ from S1.2.2.1) hlt7 (show ga < w.heap.size + 4 by omega)) (keepG hg7 (show (wr.alloc (.cells #[.int .i64 m] 3)).drew.cell? _ = _ from S1.2.2.2) hlt7 (show gb < w.heap.size + 4 by omega))))
          have cO7 := keepG hg7 (show (wr.alloc (.cells #[.int .i64 m] 3)).drew.cell? _ = _ from cO1) hlt7 (show w.heap.size + 1 + 1 + 1 < w.heap.size + 4 by omega)
          have fO7 := keepF hg7 (show (wr.alloc (.cells #[.int .i64 m] 3)).drew.frozen? ⟨w.heap.size + 1 + 1 + 1, 0, none⟩ = false from frozen_alloc fO (by show w.heap.size + 1 + 1 + 1 < wr.heap.size; omega) _) hlt7 (show w.heap.size + 1 + 1 + 1 < w.heap.size + 4 by omega) (show w.heap.size + 1 + 1 + 1 < (wr.alloc (.cells #[.int .i64 m] 3)).heap.size by rw [World.size_alloc]; omega)
          refine hK.out _ _ hS7 (fun hHeld7 => ?_)
          clear hK K
          simp only [tkS, Act.put]
          refine wpAnyH_take (i := 15) (v := .pointer (some ⟨w.heap.size + 1 + 1 + 1, 0, none⟩)) rfl (by kernel_rfl) (by kernel_rfl) (by kernel_rfl) (fun _ _ _ h => h) (Or.inl ⟨by rfl, fun w' hw => by go_simp⟩) hHeld7 ?_
          simp only [tkS, Act.put]
          refine wpAnyH_ready (rs := [16]) (by kernel_rfl) (by simp) ?_
          refine AllReadyH.cons rfl (fun K hK => ?_) AllReadyH.nil
          go_simp
          have hS8 := And.intro (setO hS7.1 (w.heap.size + 1 + 1 + 1) 0 (.slice a7 (k + 1) c7) (show w.heap.size ≠ w.heap.size + 1 + 1 + 1 by omega)) (And.intro (setO hS7.2.1 (w.heap.size + 1 + 1 + 1) 0 (.slice a7 (k + 1) c7) (show w.heap.size + 1 ≠ w.heap.size + 1 + 1 + 1 by omega)) (And.intro (setO hS7.2.2.1 (w.heap.size + 1 + 1 + 1) 0 (.slice a7 (k + 1) c7) (show ga ≠ w.heap.size + 1 + 1 + 1 by omega)) (setO hS7.2.2.2 (w.heap.size + 1 + 1 + 1) 0 (.slice a7 (k + 1) c7) (show gb ≠ w.heap.size + 1 + 1 + 1 by omega))))
          refine hK.out _ _ hS8 (fun hHeld8 => ?_)
          clear hK K
          refine wpAnyH_done (by kernel_rfl) ?_ _
          have R1 : Below (((w.alloc (.cells #[.slice (some ⟨ga, oa, none⟩) 16 ca] 25)).alloc (.cells #[.slice (some ⟨gb, ob, none⟩) 16 cb] 25)).alloc (.cells #[.slice none 0 0] 25)).heap.size (((w.alloc (.cells #[.slice (some ⟨ga, oa, none⟩) 16 ca] 25)).alloc (.cells #[.slice (some ⟨gb, ob, none⟩) 16 cb] 25)).alloc (.cells #[.slice none 0 0] 25)) (w7.setCell ⟨w.heap.size + 1 + 1 + 1, 0, none⟩ (.slice a7 (k + 1) c7)) := by
            refine Below.setCell ?_ (by show _ ≤ w.heap.size + 1 + 1 + 1; simp) _
            exact ((hB.alloc hB.size _).drew).grown hg7 (by show _ ≤ (wr.alloc _).heap.size; have := hB.size; rw [World.size_alloc wr]; omega) (fun k hk => by have := hlt7 k hk; simp only [World.size_alloc]; omega)
          have R2 := World.cell?_setCell_same w7 ⟨w.heap.size + 1 + 1 + 1, 0, none⟩ (.slice a7 (k + 1) c7) cO7
          have R3 : (w7.setCell ⟨w.heap.size + 1 + 1 + 1, 0, none⟩ (.slice a7 (k + 1) c7)).frozen? ⟨w.heap.size + 1 + 1 + 1, 0, none⟩ = false := by rw [World.frozen?_setCell]; exact fO7
          have R4 : Own 3 (w7.setCell ⟨w.heap.size + 1 + 1 + 1, 0, none⟩ (.slice a7 (k + 1) c7)) (w.heap.size + 4) (.slice a7 (k + 1) c7) (((List.zipWith mxI xs ys).take (k + 1)).map (Value.int .i64)) := by
            rw [HZ.out, List.map_append]
            have := ho7.apart (grownBy_set w7 (w.heap.size + 1 + 1 + 1) 0 (.slice a7 (k + 1) c7)) (fun k hk => by cases hk; omega)
            rw [← hmx] at this
            exact this
          have R5 : w.heap.size + 4 ≤ (w7.setCell ⟨w.heap.size + 1 + 1 + 1, 0, none⟩ (.slice a7 (k + 1) c7)).heap.size := by
            have h8 := (grownBy_set w7 (w.heap.size + 1 + 1 + 1) 0 (.slice a7 (k + 1) c7)).size
            have h9 : (wr.alloc (.cells #[.int .i64 m] 3)).heap.size ≤ w7.heap.size := hg7.size
            rw [World.size_alloc] at h9
            omega
          clear hHeld hHeld2 hHeld7 hHeld8 hS7 hS8 S1 cO1 cO7 fO7 hown ho7 hg7 hlt7 hl7 cA cB cX cY cO fO ho hB
          go_wp2_with fail
          go_roundw
          case rel => exact ⟨k + 1, a7, c7, by omega, by go_num, R1, R2, R3, R4, R5⟩
          case measure => simp [intOf]; omega
    · obtain rfl : k = 16 := by omega
      have c2 := cell_made1 hB
      have f2 := frozen_made hB 0
      simp only [World.size_alloc] at c2 f2
      have hbf := hBw.setCell (p := ⟨w.heap.size + 1 + 1, 0, none⟩) (by show w.heap.size ≤ w.heap.size + 1 + 1; omega) (.slice to 16 tc)
      have hof : Own 3 (wr.setCell ⟨w.heap.size + 1 + 1, 0, none⟩ (.slice to 16 tc)) w.heap.size (.slice to 16 tc) ((List.zipWith mxI xs ys).map (Value.int .i64)) := by
        have h := (ho.apart (grownBy_set wr (w.heap.size + 1 + 1) 0 (.slice to 16 tc)) (fun k hk => by cases hk; omega)).mono (show w.heap.size ≤ w.heap.size + 4 by omega)
        rw [List.take_of_length_le (by simp [hx, hy])] at h
        exact h
      clear ho hB hBw cA cB
      go_wp2_with fail
      exact bodyPost_ret (v := .agg #[.slice to 16 tc]) (by simp [results, Tryz.results97, go_sem, c2]) rfl ⟨_, _, _, rfl, hof, hbf⟩

end Go.Proofs.YtfnlnigeaioocaaGreat
