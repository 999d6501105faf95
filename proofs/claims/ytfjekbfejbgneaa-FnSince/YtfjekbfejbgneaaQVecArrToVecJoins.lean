/- Arrays of counts: what countsOf does. What the code's join and vector do. -/
import Derived.Deep.MidRow
import Derived.Deep.RegionHeld3
import Derived.Test.YtfjekbfejbgneaaQTakeKitToBigKit
import Derived.Test.YtfjekbfejbgneaaQThereKit
import Derived.Test.YtfjekbfejbgneaaQInfoToVecCopy
namespace Go.Proofs.Ytfjekbfejbgneaa
open Go.RowKit
set_option linter.unusedVariables false

/-- The cells of an array of counts. -/
def arrC (xs : List Int) : List Value := xs.map (Value.int .i64)
theorem arrC_len (xs : List Int) : (arrC xs).length = xs.length := by simp [arrC]
theorem arrC_one (xs : List Int) : ∀ v ∈ arrC xs, v.oneCell' = true := by
  intro v hv
  obtain ⟨x, _, rfl⟩ := List.mem_map.1 hv
  rfl
theorem arrC_all (xs : List Int) : (arrC xs).toArray.all (·.oneCell') = true := all_oneCell_toArray (arrC_one xs)
theorem arr_info {xs : List Int} (h : xs.length = 16) : (Try.prog.info? 40).map (·.size) = some (arrC xs).length := by
  rw [arrC_len, h]
  kernel_rfl
theorem arr_info' {xs : List Int} (h : xs.length = 16) : (Try.prog.info? 40).map (·.size) = some (arrC xs).toArray.size := by
  rw [List.size_toArray]
  exact arr_info h
/-- An array that is there, and may be written. -/
theorem range_rd {C g off len cap : Nat} {w : World} {xs : List Int} (h : Rd C w (.slice (some ⟨g, off, none⟩) len cap) (xs.map (Value.int .i64))) : w.rangeAt g off (arrC xs) := by
  intro j v hj
  obtain ⟨ao, cap', e, _, _, _, hr⟩ := h
  simp only [Value.slice.injEq] at e
  obtain ⟨rfl, _, _⟩ := e
  have hj1 := (List.getElem?_eq_some_iff.1 hj).1
  obtain ⟨g', off', e, _, hc⟩ := hr (by unfold arrC at hj1; omega)
  simp only [Option.some.injEq, Addr.mk.injEq, and_true] at e
  obtain ⟨rfl, rfl⟩ := e
  exact hc j v hj
theorem below_setCells {B : Nat} {a : World} {b : Nat} (hb : B ≤ b) : ∀ (vs : List Value) (o : Nat) (w : World), Below B a w → Below B a (w.setCells b o vs) := by
  intro vs
  induction vs with
  | nil => intro o w h; exact h
  | cons v vs ih =>
    intro o w h
    exact ih (o + 1) _ (h.setCell (p := ⟨b, o, none⟩) hb v)

theorem run_arrayAt (w : World) (a : Option Addr) (cap : Nat) : (Instr.arrayAt 40 (.slice a 16 cap)).run Try.prog w = .ok (.pointer a) w := by
  unfold Instr.arrayAt
  rw [Sem.run_bind, run_underlying Try.underlying40 w]
  simp

theorem int_size : (Try.prog.info? 3).map (·.size) = some 1 := by kernel_rfl
theorem run_indexArr (w : World) (Y : List Int) (k : Nat) (hy : Y.length = 16) (hk : k < 16) : (Instr.index 40 (.agg (arrC Y).toArray) (.int .i64 (k : Int))).run Try.prog w = .ok (.int .i64 (Y[k]'(by omega))) w := by
  obtain ⟨i, hi, hs⟩ : ∃ i, Try.prog.info? 3 = some i ∧ i.size = 1 := by
    have := int_size
    cases h : Try.prog.info? 3 with
    | none => rw [h] at this; simp at this
    | some i => rw [h] at this; exact ⟨i, rfl, by simpa using this⟩
  have hc : (arrC Y)[k]? = some (Value.int .i64 (Y[k]'(by omega))) := by simp [arrC, hy, hk]
  unfold Instr.index
  simp only [Sem.run_bind, asIntOf, Sem.run_pure, Result.andThen_ok, run_underlying Try.underlying40 w]
  rw [if_pos ⟨by omega, by omega⟩]
  simp [Sem.run_bind, sizeOf, typeInfo, hi, hs, part]
  rw [hc]
  rfl

set_option maxHeartbeats 1000000 in
theorem countsOf_yes (C : Nat) (w : World) (v : Value) (xs : List Int) (hC : C ≤ w.heap.size) (hr : Rd C w v (xs.map (Value.int .i64))) (hok : vecOK xs = true) :
    Calls Try.prog 12 #[.agg #[v]] w fun e w' => e = .returned (.tuple #[.agg (arrC xs).toArray, .bool true]) ∧ Below w.heap.size w w' := by
  have hV := fun w' (h : Rd C w' v (xs.map (Value.int .i64))) (h' : C ≤ w'.heap.size) => implVecOK_any C w' v xs h' h
  rw [hok] at hV
  have h16 := (vecOK_get hok).1
  have hr0 := hr
  obtain ⟨ao, cap, rfl, hcap, hmax, _, hr⟩ := hr
  obtain ⟨g, off, rfl, hg, _⟩ := hr (by simp; omega)
  clear hr
  rw [List.length_map, h16] at hr0 hV ⊢
  go_enter Try.func12, Try.ntmps12
  go_wp2_with fail
  refine (hV _ ((hr0.alloc _ hC).alloc _ (by simp; omega)) (by simp; omega)).mono ?_
  rintro e w1 ⟨rfl, hb⟩
  have ht := there_made hb (n := 16) (by simp)
  have hb1 := below_seq (below_alloc _ _) hb
  have c1 := cell_made1 hb1
  have hbw := below_seq (below_alloc _ _) hb1
  have hrg : w1.rangeAt g off (arrC xs) := range_rd (hr0.belowW hbw hC)
  simp only [World.size_alloc] at ht
  rw [← h16, ← arrC_len, ← List.size_toArray] at ht
  have HI : Hid _ := arr_info h16
  have HI' : Hid _ := arr_info' h16
  have hat := run_arrayAt w1 (some ⟨g, off, none⟩) cap
  clear hV hb hb1 hr0
  go_wp2_with (first | (refine wpList_load_mid rfl 40 _ rfl g off rfl (arrC xs) _ hrg Try.underlying40 rfl HI.out ?_) | (refine wpList_store_mid rfl 40 _ _ rfl (w.heap.size + 1) 0 (arrC xs).toArray rfl rfl ht HI'.out (arrC_all xs) ?_))
  have hrs : (w1.setCells (w.heap.size + 1) 0 (arrC xs)).rangeAt (w.heap.size + 1) 0 (arrC xs) := World.rangeAt_setCells_same _ _ _ _ (by rw [List.size_toArray] at ht; exact ht)
  have hld := run_loadVar_mid (P := Try.prog) _ (w.heap.size + 1) 0 40 (arrC xs) _ hrs Try.underlying40 rfl HI.out
  exact bodyPost_ret (v := .tuple #[.agg (arrC xs).toArray, .bool true]) (by simp [results, Try.results12, asAddr, hld]) rfl ⟨rfl, below_setCells (by omega) _ _ _ hbw⟩

set_option maxHeartbeats 1000000 in
theorem countsOf_no (C : Nat) (w : World) (v : Value) (xs : List Int) (hC : C ≤ w.heap.size) (hr : Rd C w v (xs.map (Value.int .i64))) (hok : vecOK xs = false) :
    Calls Try.prog 12 #[.agg #[v]] w fun e w' => e = .returned (.tuple #[.agg (arrC (List.replicate 16 0)).toArray, .bool false]) ∧ Below w.heap.size w w' := by
  have hV := fun w' (h : Rd C w' v (xs.map (Value.int .i64))) (h' : C ≤ w'.heap.size) => implVecOK_any C w' v xs h' h
  rw [hok] at hV
  obtain ⟨ao, len, cap, rfl⟩ : ∃ ao len cap, v = .slice ao len cap := by
    obtain ⟨ao, cap, rfl, _⟩ := hr
    exact ⟨_, _, _, rfl⟩
  go_enter Try.func12, Try.ntmps12
  go_wp2_with fail
  refine (hV _ ((hr.alloc _ hC).alloc _ (by simp; omega)) (by simp; omega)).mono ?_
  rintro e w1 ⟨rfl, hb⟩
  have ht := there_made hb (n := 16) (by simp)
  have hbw := below_seq (below_alloc _ _) (below_seq (below_alloc _ _) hb)
  simp only [World.size_alloc] at ht
  have ht' : w1.there (w.heap.size + 1) 0 (arrC (List.replicate 16 0)).toArray.size := ht
  have HI : Hid _ := arr_info (xs := List.replicate 16 0) rfl
  have HI' : Hid _ := arr_info' (xs := List.replicate 16 0) rfl
  clear hV hb hr ht
  go_wp2_with (first | (refine wpList_store_mid rfl 40 _ _ rfl (w.heap.size + 1) 0 (arrC (List.replicate 16 0)).toArray rfl rfl ht' HI'.out (arrC_all _) ?_))
  have hrs : (w1.setCells (w.heap.size + 1) 0 (arrC (List.replicate 16 0))).rangeAt (w.heap.size + 1) 0 (arrC (List.replicate 16 0)) := World.rangeAt_setCells_same _ _ _ _ (by rw [List.size_toArray] at ht'; exact ht')
  have hld := run_loadVar_mid (P := Try.prog) _ (w.heap.size + 1) 0 40 (arrC (List.replicate 16 0)) _ hrs Try.underlying40 rfl HI.out
  exact bodyPost_ret (v := .tuple #[.agg (arrC (List.replicate 16 0)).toArray, .bool false]) (by simp only [results, Try.results12]; simp [asAddr]; exact congrArg (fun r => Result.andThen r fun a w => Result.ok (Value.tuple #[a, Value.bool false]) w) hld) rfl ⟨rfl, below_setCells (by omega) _ _ _ hbw⟩

/-- What countsOf gives of a vector. -/
def cnt (xs : List Int) : List Int := if vecOK xs = true then xs else List.replicate 16 0
theorem cnt_len (xs : List Int) : (cnt xs).length = 16 := by
  unfold cnt
  split
  · rename_i h; exact (vecOK_get h).1
  · rfl
theorem countsOf_any (C : Nat) (w : World) (v : Value) (xs : List Int) (hC : C ≤ w.heap.size) (hr : Rd C w v (xs.map (Value.int .i64))) :
    Calls Try.prog 12 #[.agg #[v]] w fun e w' => e = .returned (.tuple #[.agg (arrC (cnt xs)).toArray, .bool (vecOK xs)]) ∧ Below w.heap.size w w' := by
  cases h : vecOK xs with
  | true => unfold cnt; rw [if_pos h]; exact countsOf_yes C w v xs hC hr h
  | false => unfold cnt; rw [if_neg (by rw [h]; decide)]; exact countsOf_no C w v xs hC hr h

theorem range_below {B : Nat} {w w' : World} (h : Below B w w') {X o : Nat} {cs : List Value} (hx : X < B) (hr : w.rangeAt X o cs) : w'.rangeAt X o cs := fun j v hj => (h.cell (p := ⟨X, o + j, none⟩) hx).trans (hr j v hj)
/-- A new array, written. -/
theorem arr_put {B : Nat} {a w : World} (h : Below B a w) (hB : B ≤ w.heap.size) (Z : Array Value) (hZ : Z.size = 16) (T : TypeId) (xs : List Int) (hx : xs.length = 16) :
    Below B a ((w.alloc (.cells Z T)).setCells w.heap.size 0 (arrC xs)) ∧ ((w.alloc (.cells Z T)).setCells w.heap.size 0 (arrC xs)).rangeAt w.heap.size 0 (arrC xs) ∧ (w.alloc (.cells Z T)).there w.heap.size 0 (arrC xs).toArray.size ∧ w.heap.size < ((w.alloc (.cells Z T)).setCells w.heap.size 0 (arrC xs)).heap.size ∧ Below w.heap.size w ((w.alloc (.cells Z T)).setCells w.heap.size 0 (arrC xs)) := by
  have ht : (w.alloc (.cells Z T)).there w.heap.size 0 16 := there_made (Below.refl _ _) (by omega)
  refine ⟨below_setCells hB _ _ _ (h.alloc hB _), World.rangeAt_setCells_same _ _ _ _ (by rw [arrC_len, hx]; exact ht), by rw [show (arrC xs).toArray.size = 16 by simp [arrC_len, hx]]; exact ht, ?_, below_setCells (Nat.le_refl _) _ _ _ (below_alloc _ _)⟩
  have := (below_setCells (Nat.le_refl _) (arrC xs) 0 _ (Below.refl w.heap.size (w.alloc (.cells Z T)))).size
  rw [World.size_alloc] at this
  omega
theorem there_more {B : Nat} {w w' : World} (h : Below B w w') {X n : Nat} (hx : X < B) (hr : w.there X 0 n) : w'.there X 0 n := fun j hj => by
  rw [h.cell (p := ⟨X, 0 + j, none⟩) hx, h.frozen (p := ⟨X, 0 + j, none⟩) hx]
  exact hr j hj

end Go.Proofs.Ytfjekbfejbgneaa

namespace Go.Proofs.Ytfjekbfejbgneaa
open Go.RowKit
set_option linter.unusedVariables false

/-- A block that is an array, seen as a row. -/
theorem own_arr {w : World} {g B : Nat} {X : List Int} {T : TypeId} (h : w.heap[g]? = some (.cells (arrC X).toArray T (0, 0))) (hx : X.length = 16) (hB : B ≤ g) : Own T w B (.slice (some ⟨g, 0, none⟩) 16 16) (arrC X) := by
  refine ⟨by simp, .inr ⟨g, 16, (arrC X).toArray, by rw [arrC_len, hx], hB, h, by rw [arrC_len, hx]; exact Nat.le_refl _, by decide, by simp [arrC_len, hx], by simp⟩⟩
theorem own_block {w : World} {g B n cap : Nat} {cs : List Value} {T : TypeId} (h : Own T w B (.slice (some ⟨g, 0, none⟩) n cap) cs) (hn : cs.length = cap) : w.heap[g]? = some (.cells cs.toArray T (0, 0)) := by
  obtain ⟨h1, h2⟩ := h
  rcases h2 with ⟨hv, _⟩ | ⟨g', cap', cur, hv, hb, hg, hle, hm, hs, ht⟩
  · simp at hv
  · simp only [Value.slice.injEq, Option.some.injEq, Addr.mk.injEq, and_true] at hv
    obtain ⟨rfl, rfl, rfl⟩ := hv
    rw [hg]
    have : cur = cs.toArray := by
      rw [← ht, Nat.mul_one, List.take_of_length_le (by simp; omega)]
    rw [this]
theorem own_range {w : World} {g B n cap : Nat} {cs : List Value} {T : TypeId} (h : Own T w B (.slice (some ⟨g, 0, none⟩) n cap) cs) : w.rangeAt g 0 cs := by
  intro j v hj
  have hj1 := (List.getElem?_eq_some_iff.1 hj).1
  rw [Nat.zero_add, own_cell h hj1]
  rw [List.getElem?_eq_getElem hj1] at hj
  exact hj

theorem block_made {w w1 : World} {o : Obj} (h : Below (w.alloc o).heap.size (w.alloc o) w1) : w1.heap[w.heap.size]? = some o := (h.block w.heap.size (by simp)).trans (heap_alloc_new w o)

/-- The greater one, and the lesser one. -/
def mxI (a b : Int) : Int := if a < b then b else a
def mnI (a b : Int) : Int := if b < a then b else a

/-- What join makes of two. -/
def zipM (f : Int → Int → Int) (X Y : List Int) (k : Nat) : List Int := (List.zipWith f X Y).take k ++ X.drop k
theorem zipM_len {f : Int → Int → Int} {X Y : List Int} (hx : X.length = 16) (hy : Y.length = 16) {k : Nat} (hk : k ≤ 16) : (zipM f X Y k).length = 16 := by simp [zipM, hx, hy]; omega
theorem zipM_all {f : Int → Int → Int} {X Y : List Int} (hx : X.length = 16) (hy : Y.length = 16) : zipM f X Y 16 = List.zipWith f X Y := by
  unfold zipM
  rw [List.drop_of_length_le (by omega), List.take_of_length_le (by simp [hx, hy]), List.append_nil]
theorem zipM_get {f : Int → Int → Int} {X Y : List Int} (hx : X.length = 16) (hy : Y.length = 16) {k : Nat} (hk : k < 16) : (arrC (zipM f X Y k))[k]'(by rw [arrC_len, zipM_len hx hy (by omega)]; exact hk) = Value.int .i64 (X[k]'(by omega)) := by
  unfold arrC zipM
  rw [List.getElem_map, List.getElem_append_right (by simp [hx, hy]; omega)]
  simp [hx, hy, Nat.min_eq_left (Nat.le_of_lt hk)]
theorem zipM_set {f : Int → Int → Int} {X Y : List Int} (hx : X.length = 16) (hy : Y.length = 16) {k : Nat} (hk : k < 16) : (arrC (zipM f X Y k)).set k (Value.int .i64 (f (X[k]'(by omega)) (Y[k]'(by omega)))) = arrC (zipM f X Y (k + 1)) := by
  unfold arrC zipM
  rw [List.map_append, List.set_append_right _ _ (by simp [hx, hy]; omega), List.map_append]
  have hl : ((List.zipWith f X Y).take k).length = k := by simp [hx, hy]; omega
  rw [List.length_map, hl, Nat.sub_self, List.drop_eq_getElem_cons (show k < X.length by omega), List.map_cons, List.set_cons_zero, List.take_succ_eq_append_getElem (show k < (List.zipWith f X Y).length by simp [hx, hy]; omega), List.map_append, List.append_assoc, List.getElem_zipWith]
  rfl

set_option maxHeartbeats 1000000 in
set_option maxRecDepth 100000 in
theorem vector_any (w : World) (X : List Int) (hx : X.length = 16) :
    Calls Try.prog 38 #[.agg (arrC X).toArray] w fun e w' => ∃ a, e = .returned (.agg #[.slice a 16 16]) ∧ Own 40 w' w.heap.size (.slice a 16 16) (X.map (Value.int .i64)) ∧ Below w.heap.size w w' := by
  have HB := Below.refl ((w.alloc (.cells (arrC X).toArray 40)).alloc (.cells #[.slice none 0 0] 26)).heap.size ((w.alloc (.cells (arrC X).toArray 40)).alloc (.cells #[.slice none 0 0] 26))
  have sx : (arrC X).toArray.size = 16 := by simp [arrC_len, hx]
  go_enter Try.func38, Try.ntmps38
  go_wp2_with fail
  have ho := own_arr (block_made (w := w) (w1 := (w.alloc (.cells (arrC X).toArray 40)).alloc (.cells #[.slice (some ⟨w.heap.size, 0, none⟩) 16 16] 26)) (below_alloc _ _)) hx (Nat.le_refl _)
  exact bodyPost_ret (v := .agg #[.slice (some ⟨w.heap.size, 0, none⟩) 16 16]) (by simp [results, Try.results38, go_sem]) rfl ⟨_, rfl, ho, below_then (below_alloc _ _) _⟩
end Go.Proofs.Ytfjekbfejbgneaa
