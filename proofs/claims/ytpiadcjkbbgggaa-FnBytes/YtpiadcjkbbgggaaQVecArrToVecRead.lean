/- Arrays of counts: what countsOf does. What the code's join and vector do. What the code's meet does. What the code's told and VecBytes do. Vectors out of bytes: plain facts. -/
import Derived.Deep.MidRow
import Derived.Deep.RegionHeld3
import Derived.Test.YtpiadcjkbbgggaaQTakeKit
import Derived.Test.YtpiadcjkbbgggaaQInfoToRunsDef
namespace Go.Proofs.Ytpiadcjkbbgggaa
open Go.RowKit
set_option linter.unusedVariables false

/-- The cells of an array of counts. -/
def arrC (xs : List Int) : List Value := xs.map (Value.int .i64)
theorem arrC_len (xs : List Int) : (arrC xs).length = xs.length := by simp [arrC]
theorem arrC_one (xs : List Int) : ∀ v ∈ arrC xs, v.oneCell' = true := by
  intro v hv
  obtain ⟨x, _, rfl⟩ := List.mem_map.1 hv
  rfl
theorem arrC_all (xs : List Int) : (arrC xs).toArray.all (·.oneCell') = true := all_oneCell_toArray (arrC_one xs)
theorem arr_info {xs : List Int} (h : xs.length = 16) : (Try.prog.info? 71).map (·.size) = some (arrC xs).length := by
  rw [arrC_len, h]
  kernel_rfl
theorem arr_info' {xs : List Int} (h : xs.length = 16) : (Try.prog.info? 71).map (·.size) = some (arrC xs).toArray.size := by
  rw [List.size_toArray]
  exact arr_info h
/-- An array that is there, and may be written. -/
theorem there_made {w w1 : World} {cs : Array Value} {T : TypeId} (h : Below (w.alloc (.cells cs T)).heap.size (w.alloc (.cells cs T)) w1) {n : Nat} (hn : n ≤ cs.size) : w1.there w.heap.size 0 n := fun j hj => by
  rw [Nat.zero_add]
  refine ⟨?_, frozen_made h j⟩
  rw [cell_made h (k := j) (v := cs[j]'(by omega)) (by simp)]
  rfl
theorem range_rd {C g off len cap : Nat} {w : World} {xs : List Int} (h : Rd C w (.slice (some ⟨g, off, none⟩) len cap) (xs.map (Value.int .i64))) : w.rangeAt g off (arrC xs) := by
  intro j v hj
  obtain ⟨ao, cap', e, _, _, _, hr⟩ := h
  simp only [Value.slice.injEq] at e
  obtain ⟨rfl, _, _⟩ := e
  have hj1 := (List.getElem?_eq_some_iff.1 hj).1
  obtain ⟨g', off', e, _, hc⟩ := hr (by unfold arrC at hj1; omega)
  simp only [Option.some.injEq, Addr.mk.injEq, and_true] at e
  obtain ⟨rfl, rfl⟩ := e
  exact hc j v hj
theorem below_setCells {B : Nat} {a : World} {b : Nat} (hb : B ≤ b) : ∀ (vs : List Value) (o : Nat) (w : World), Below B a w → Below B a (w.setCells b o vs) := by
  intro vs
  induction vs with
  | nil => intro o w h; exact h
  | cons v vs ih =>
    intro o w h
    exact ih (o + 1) _ (h.setCell (p := ⟨b, o, none⟩) hb v)

theorem run_arrayAt (w : World) (a : Option Addr) (cap : Nat) : (Instr.arrayAt 71 (.slice a 16 cap)).run Try.prog w = .ok (.pointer a) w := by
  unfold Instr.arrayAt
  rw [Sem.run_bind, run_underlying Try.underlying71 w]
  simp

theorem int_size : (Try.prog.info? 3).map (·.size) = some 1 := by kernel_rfl
theorem run_indexArr (w : World) (Y : List Int) (k : Nat) (hy : Y.length = 16) (hk : k < 16) : (Instr.index 71 (.agg (arrC Y).toArray) (.int .i64 (k : Int))).run Try.prog w = .ok (.int .i64 (Y[k]'(by omega))) w := by
  obtain ⟨i, hi, hs⟩ : ∃ i, Try.prog.info? 3 = some i ∧ i.size = 1 := by
    have := int_size
    cases h : Try.prog.info? 3 with
    | none => rw [h] at this; simp at this
    | some i => rw [h] at this; exact ⟨i, rfl, by simpa using this⟩
  have hc : (arrC Y)[k]? = some (Value.int .i64 (Y[k]'(by omega))) := by simp [arrC, hy, hk]
  unfold Instr.index
  simp only [Sem.run_bind, asIntOf, Sem.run_pure, Result.andThen_ok, run_underlying Try.underlying71 w]
  rw [if_pos ⟨by omega, by omega⟩]
  simp [Sem.run_bind, sizeOf, typeInfo, hi, hs, part]
  rw [hc]
  rfl

set_option maxHeartbeats 1000000 in
theorem countsOf_yes (C : Nat) (w : World) (v : Value) (xs : List Int) (hC : C ≤ w.heap.size) (hr : Rd C w v (xs.map (Value.int .i64))) (hok : vecOK xs = true) :
    Calls Try.prog 71 #[.agg #[v]] w fun e w' => e = .returned (.tuple #[.agg (arrC xs).toArray, .bool true]) ∧ Below w.heap.size w w' := by
  have hV := fun w' (h : Rd C w' v (xs.map (Value.int .i64))) (h' : C ≤ w'.heap.size) => implVecOK_any C w' v xs h' h
  rw [hok] at hV
  have h16 := (vecOK_get hok).1
  have hr0 := hr
  obtain ⟨ao, cap, rfl, hcap, hmax, _, hr⟩ := hr
  obtain ⟨g, off, rfl, hg, _⟩ := hr (by simp; omega)
  clear hr
  rw [List.length_map, h16] at hr0 hV ⊢
  go_enter Try.func71, Try.ntmps71
  go_wp2_with fail
  refine (hV _ ((hr0.alloc _ hC).alloc _ (by simp; omega)) (by simp; omega)).mono ?_
  rintro e w1 ⟨rfl, hb⟩
  have ht := there_made hb (n := 16) (by simp)
  have hb1 := below_seq (below_alloc _ _) hb
  have c1 := cell_made1 hb1
  have hbw := below_seq (below_alloc _ _) hb1
  have hrg : w1.rangeAt g off (arrC xs) := range_rd (hr0.belowW hbw hC)
  simp only [World.size_alloc] at ht
  rw [← h16, ← arrC_len, ← List.size_toArray] at ht
  have HI : Hid _ := arr_info h16
  have HI' : Hid _ := arr_info' h16
  have hat := run_arrayAt w1 (some ⟨g, off, none⟩) cap
  clear hV hb hb1 hr0
  go_wp2_with (first | (refine wpList_load_mid rfl 71 _ rfl g off rfl (arrC xs) _ hrg Try.underlying71 rfl HI.out ?_) | (refine wpList_store_mid rfl 71 _ _ rfl (w.heap.size + 1) 0 (arrC xs).toArray rfl rfl ht HI'.out (arrC_all xs) ?_))
  have hrs : (w1.setCells (w.heap.size + 1) 0 (arrC xs)).rangeAt (w.heap.size + 1) 0 (arrC xs) := World.rangeAt_setCells_same _ _ _ _ (by rw [List.size_toArray] at ht; exact ht)
  have hld := run_loadVar_mid (P := Try.prog) _ (w.heap.size + 1) 0 71 (arrC xs) _ hrs Try.underlying71 rfl HI.out
  exact bodyPost_ret (v := .tuple #[.agg (arrC xs).toArray, .bool true]) (by simp [results, Try.results71, asAddr, hld]) rfl ⟨rfl, below_setCells (by omega) _ _ _ hbw⟩

set_option maxHeartbeats 1000000 in
theorem countsOf_no (C : Nat) (w : World) (v : Value) (xs : List Int) (hC : C ≤ w.heap.size) (hr : Rd C w v (xs.map (Value.int .i64))) (hok : vecOK xs = false) :
    Calls Try.prog 71 #[.agg #[v]] w fun e w' => e = .returned (.tuple #[.agg (arrC (List.replicate 16 0)).toArray, .bool false]) ∧ Below w.heap.size w w' := by
  have hV := fun w' (h : Rd C w' v (xs.map (Value.int .i64))) (h' : C ≤ w'.heap.size) => implVecOK_any C w' v xs h' h
  rw [hok] at hV
  obtain ⟨ao, len, cap, rfl⟩ : ∃ ao len cap, v = .slice ao len cap := by
    obtain ⟨ao, cap, rfl, _⟩ := hr
    exact ⟨_, _, _, rfl⟩
  go_enter Try.func71, Try.ntmps71
  go_wp2_with fail
  refine (hV _ ((hr.alloc _ hC).alloc _ (by simp; omega)) (by simp; omega)).mono ?_
  rintro e w1 ⟨rfl, hb⟩
  have ht := there_made hb (n := 16) (by simp)
  have hbw := below_seq (below_alloc _ _) (below_seq (below_alloc _ _) hb)
  simp only [World.size_alloc] at ht
  have ht' : w1.there (w.heap.size + 1) 0 (arrC (List.replicate 16 0)).toArray.size := ht
  have HI : Hid _ := arr_info (xs := List.replicate 16 0) rfl
  have HI' : Hid _ := arr_info' (xs := List.replicate 16 0) rfl
  clear hV hb hr ht
  go_wp2_with (first | (refine wpList_store_mid rfl 71 _ _ rfl (w.heap.size + 1) 0 (arrC (List.replicate 16 0)).toArray rfl rfl ht' HI'.out (arrC_all _) ?_))
  have hrs : (w1.setCells (w.heap.size + 1) 0 (arrC (List.replicate 16 0))).rangeAt (w.heap.size + 1) 0 (arrC (List.replicate 16 0)) := World.rangeAt_setCells_same _ _ _ _ (by rw [List.size_toArray] at ht'; exact ht')
  have hld := run_loadVar_mid (P := Try.prog) _ (w.heap.size + 1) 0 71 (arrC (List.replicate 16 0)) _ hrs Try.underlying71 rfl HI.out
  exact bodyPost_ret (v := .tuple #[.agg (arrC (List.replicate 16 0)).toArray, .bool false]) (by simp only [results, Try.results71]; simp [asAddr]; exact congrArg (fun r => Result.andThen r fun a w => Result.ok (Value.tuple #[a, Value.bool false]) w) hld) rfl ⟨rfl, below_setCells (by omega) _ _ _ hbw⟩

/-- What countsOf gives of a vector. -/
def cnt (xs : List Int) : List Int := if vecOK xs = true then xs else List.replicate 16 0
theorem cnt_len (xs : List Int) : (cnt xs).length = 16 := by
  unfold cnt
  split
  · rename_i h; exact (vecOK_get h).1
  · rfl
theorem countsOf_any (C : Nat) (w : World) (v : Value) (xs : List Int) (hC : C ≤ w.heap.size) (hr : Rd C w v (xs.map (Value.int .i64))) :
    Calls Try.prog 71 #[.agg #[v]] w fun e w' => e = .returned (.tuple #[.agg (arrC (cnt xs)).toArray, .bool (vecOK xs)]) ∧ Below w.heap.size w w' := by
  cases h : vecOK xs with
  | true => unfold cnt; rw [if_pos h]; exact countsOf_yes C w v xs hC hr h
  | false => unfold cnt; rw [if_neg (by rw [h]; decide)]; exact countsOf_no C w v xs hC hr h

theorem range_below {B : Nat} {w w' : World} (h : Below B w w') {X o : Nat} {cs : List Value} (hx : X < B) (hr : w.rangeAt X o cs) : w'.rangeAt X o cs := fun j v hj => (h.cell (p := ⟨X, o + j, none⟩) hx).trans (hr j v hj)
/-- A new array, written. -/
theorem arr_put {B : Nat} {a w : World} (h : Below B a w) (hB : B ≤ w.heap.size) (Z : Array Value) (hZ : Z.size = 16) (T : TypeId) (xs : List Int) (hx : xs.length = 16) :
    Below B a ((w.alloc (.cells Z T)).setCells w.heap.size 0 (arrC xs)) ∧ ((w.alloc (.cells Z T)).setCells w.heap.size 0 (arrC xs)).rangeAt w.heap.size 0 (arrC xs) ∧ (w.alloc (.cells Z T)).there w.heap.size 0 (arrC xs).toArray.size ∧ w.heap.size < ((w.alloc (.cells Z T)).setCells w.heap.size 0 (arrC xs)).heap.size ∧ Below w.heap.size w ((w.alloc (.cells Z T)).setCells w.heap.size 0 (arrC xs)) := by
  have ht : (w.alloc (.cells Z T)).there w.heap.size 0 16 := there_made (Below.refl _ _) (by omega)
  refine ⟨below_setCells hB _ _ _ (h.alloc hB _), World.rangeAt_setCells_same _ _ _ _ (by rw [arrC_len, hx]; exact ht), by rw [show (arrC xs).toArray.size = 16 by simp [arrC_len, hx]]; exact ht, ?_, below_setCells (Nat.le_refl _) _ _ _ (below_alloc _ _)⟩
  have := (below_setCells (Nat.le_refl _) (arrC xs) 0 _ (Below.refl w.heap.size (w.alloc (.cells Z T)))).size
  rw [World.size_alloc] at this
  omega
theorem there_more {B : Nat} {w w' : World} (h : Below B w w') {X n : Nat} (hx : X < B) (hr : w.there X 0 n) : w'.there X 0 n := fun j hj => by
  rw [h.cell (p := ⟨X, 0 + j, none⟩) hx, h.frozen (p := ⟨X, 0 + j, none⟩) hx]
  exact hr j hj

end Go.Proofs.Ytpiadcjkbbgggaa

namespace Go.Proofs.Ytpiadcjkbbgggaa
open Go.RowKit
set_option linter.unusedVariables false

/-- A block that is an array, seen as a row. -/
theorem own_arr {w : World} {g B : Nat} {X : List Int} {T : TypeId} (h : w.heap[g]? = some (.cells (arrC X).toArray T (0, 0))) (hx : X.length = 16) (hB : B ≤ g) : Own T w B (.slice (some ⟨g, 0, none⟩) 16 16) (arrC X) := by
  refine ⟨by simp, .inr ⟨g, 16, (arrC X).toArray, by rw [arrC_len, hx], hB, h, by rw [arrC_len, hx]; exact Nat.le_refl _, by decide, by simp [arrC_len, hx], by simp⟩⟩
theorem own_block {w : World} {g B n cap : Nat} {cs : List Value} {T : TypeId} (h : Own T w B (.slice (some ⟨g, 0, none⟩) n cap) cs) (hn : cs.length = cap) : w.heap[g]? = some (.cells cs.toArray T (0, 0)) := by
  obtain ⟨h1, h2⟩ := h
  rcases h2 with ⟨hv, _⟩ | ⟨g', cap', cur, hv, hb, hg, hle, hm, hs, ht⟩
  · simp at hv
  · simp only [Value.slice.injEq, Option.some.injEq, Addr.mk.injEq, and_true] at hv
    obtain ⟨rfl, rfl, rfl⟩ := hv
    rw [hg]
    have : cur = cs.toArray := by
      rw [← ht, Nat.mul_one, List.take_of_length_le (by simp; omega)]
    rw [this]
theorem own_range {w : World} {g B n cap : Nat} {cs : List Value} {T : TypeId} (h : Own T w B (.slice (some ⟨g, 0, none⟩) n cap) cs) : w.rangeAt g 0 cs := by
  intro j v hj
  have hj1 := (List.getElem?_eq_some_iff.1 hj).1
  rw [Nat.zero_add, own_cell h hj1]
  rw [List.getElem?_eq_getElem hj1] at hj
  exact hj

theorem block_made {w w1 : World} {o : Obj} (h : Below (w.alloc o).heap.size (w.alloc o) w1) : w1.heap[w.heap.size]? = some o := (h.block w.heap.size (by simp)).trans (heap_alloc_new w o)

/-- The greater one, and the lesser one. -/
def mxI (a b : Int) : Int := if a < b then b else a
def mnI (a b : Int) : Int := if b < a then b else a

/-- What join makes of two. -/
def zipM (f : Int → Int → Int) (X Y : List Int) (k : Nat) : List Int := (List.zipWith f X Y).take k ++ X.drop k
theorem zipM_len {f : Int → Int → Int} {X Y : List Int} (hx : X.length = 16) (hy : Y.length = 16) {k : Nat} (hk : k ≤ 16) : (zipM f X Y k).length = 16 := by simp [zipM, hx, hy]; omega
theorem zipM_all {f : Int → Int → Int} {X Y : List Int} (hx : X.length = 16) (hy : Y.length = 16) : zipM f X Y 16 = List.zipWith f X Y := by
  unfold zipM
  rw [List.drop_of_length_le (by omega), List.take_of_length_le (by simp [hx, hy]), List.append_nil]
theorem zipM_get {f : Int → Int → Int} {X Y : List Int} (hx : X.length = 16) (hy : Y.length = 16) {k : Nat} (hk : k < 16) : (arrC (zipM f X Y k))[k]'(by rw [arrC_len, zipM_len hx hy (by omega)]; exact hk) = Value.int .i64 (X[k]'(by omega)) := by
  unfold arrC zipM
  rw [List.getElem_map, List.getElem_append_right (by simp [hx, hy]; omega)]
  simp [hx, hy, Nat.min_eq_left (Nat.le_of_lt hk)]
theorem zipM_set {f : Int → Int → Int} {X Y : List Int} (hx : X.length = 16) (hy : Y.length = 16) {k : Nat} (hk : k < 16) : (arrC (zipM f X Y k)).set k (Value.int .i64 (f (X[k]'(by omega)) (Y[k]'(by omega)))) = arrC (zipM f X Y (k + 1)) := by
  unfold arrC zipM
  rw [List.map_append, List.set_append_right _ _ (by simp [hx, hy]; omega), List.map_append]
  have hl : ((List.zipWith f X Y).take k).length = k := by simp [hx, hy]; omega
  rw [List.length_map, hl, Nat.sub_self, List.drop_eq_getElem_cons (show k < X.length by omega), List.map_cons, List.set_cons_zero, List.take_succ_eq_append_getElem (show k < (List.zipWith f X Y).length by simp [hx, hy]; omega), List.map_append, List.append_assoc, List.getElem_zipWith]
  rfl

set_option maxHeartbeats 1000000 in
set_option maxRecDepth 100000 in
theorem vector_any (w : World) (X : List Int) (hx : X.length = 16) :
    Calls Try.prog 53 #[.agg (arrC X).toArray] w fun e w' => ∃ a, e = .returned (.agg #[.slice a 16 16]) ∧ Own 71 w' w.heap.size (.slice a 16 16) (X.map (Value.int .i64)) ∧ Below w.heap.size w w' := by
  have HB := Below.refl ((w.alloc (.cells (arrC X).toArray 71)).alloc (.cells #[.slice none 0 0] 38)).heap.size ((w.alloc (.cells (arrC X).toArray 71)).alloc (.cells #[.slice none 0 0] 38))
  have sx : (arrC X).toArray.size = 16 := by simp [arrC_len, hx]
  go_enter Try.func53, Try.ntmps53
  go_wp2_with fail
  have ho := own_arr (block_made (w := w) (w1 := (w.alloc (.cells (arrC X).toArray 71)).alloc (.cells #[.slice (some ⟨w.heap.size, 0, none⟩) 16 16] 38)) (below_alloc _ _)) hx (Nat.le_refl _)
  exact bodyPost_ret (v := .agg #[.slice (some ⟨w.heap.size, 0, none⟩) 16 16]) (by simp [results, Try.results53, go_sem]) rfl ⟨_, rfl, ho, below_then (below_alloc _ _) _⟩
end Go.Proofs.Ytpiadcjkbbgggaa

namespace Go.Proofs.Ytpiadcjkbbgggaa
open Go.RowKit
set_option linter.unusedVariables false

end Go.Proofs.Ytpiadcjkbbgggaa

namespace Go.Proofs.Ytpiadcjkbbgggaa
open Go.RowKit
set_option linter.unusedVariables false

/-- How many counts are told; the bytes of the first ones. -/
def toldN (X : List Int) : Nat → Nat
  | 0 => 0
  | k + 1 => if X.getD k 0 = 0 then toldN X k else k + 1
def bytesTo (X : List Int) : Nat → List Int
  | 0 => []
  | k + 1 => bytesTo X k ++ enc (X.getD k 0).toNat
theorem toldN_le (X : List Int) : ∀ k, toldN X k ≤ k := by
  intro k
  induction k with
  | zero => exact Nat.le_refl _
  | succ k ih =>
    simp only [toldN]
    split <;> omega
theorem bytesTo_len (X : List Int) (h : ∀ k, (X.getD k 0).toNat < 9223372036854775808) : ∀ k, (bytesTo X k).length ≤ 10 * k := by
  intro k
  induction k with
  | zero => simp [bytesTo]
  | succ k ih =>
    have := enc_len (h k)
    simp only [bytesTo, List.length_append]
    omega
def vecB (xs : List Int) : List Int := if vecOK xs = true then bytesTo xs (toldN xs 16) else []
def vecC (xs : List Int) : Int := if vecOK xs = true then 0 else 1
theorem vec_get {xs : List Int} (h : vecOK xs = true) (k : Nat) : 0 ≤ xs.getD k 0 ∧ xs.getD k 0 ≤ 1000000000000 := by
  by_cases hk : k < xs.length
  · have := (vecOK_get h).2 k hk
    simpa [hk] using this
  · simp [hk]

set_option maxHeartbeats 1000000 in
theorem told_any (w : World) (X : List Int) (hx : X.length = 16) :
    Calls Try.prog 72 #[.agg (arrC X).toArray] w fun e w' => e = .returned (.int .i64 ((toldN X 16 : Nat) : Int)) ∧ Below w.heap.size w w' := by
  have HB := below_alloc w (.cells (arrC X).toArray 71)
  have hox := own_arr (block_made (Below.refl (w.alloc (.cells (arrC X).toArray 71)).heap.size _)) hx (Nat.le_refl _)
  have HC : Hid (∀ k, k < 16 → (w.alloc (.cells (arrC X).toArray 71)).cell? ⟨w.heap.size, k, none⟩ = some (.int .i64 (X.getD k 0))) := fun k hk => by
    rw [own_cell hox (k := k) (by rw [arrC_len, hx]; exact hk)]
    simp [arrC, show k < X.length by omega]
  clear hox
  go_enter Try.func72, Try.ntmps72
  go_wp2_with fail
  go_loop [3] (fun ti => ∃ s : Nat, s ≤ 16 ∧ ti = .int .i64 (s : Int) ∧ Hid (toldN X 16 = toldN X s)) (fun ti => (intOf ti).toNat)
  case atStart => exact ⟨16, Nat.le_refl _, rfl, rfl⟩
  case round =>
    obtain ⟨s, hs, rfl, HT⟩ := hrel
    cases s with
    | zero =>
      go_wp2_with fail
      go_ret
      exact ⟨by rw [HT.out]; rfl, HB⟩
    | succ s =>
      have c1 := HC.out s (by omega)
      have i0 : (0 : Int) ≤ (s : Int) := by omega
      have i1 : (s : Int) < 16 := by omega
      by_cases h0 : X.getD s 0 = 0
      · have HN : Hid (toldN X 16 = toldN X s) := by unfold Hid; rw [HT.out, toldN, if_pos h0]
        rw [h0] at c1
        clear HT h0
        go_wp2_with fail
        go_round
        case rel => exact ⟨s, by omega, by go_num, HN⟩
        case measure => simp [intOf]
      · have HN : Hid (toldN X 16 = s + 1) := by unfold Hid; rw [HT.out, toldN, if_neg h0]
        generalize X.getD s 0 = x at c1 h0
        have hb : (x == 0) = false := by simpa using h0
        clear HT h0
        go_wp2_with fail
        go_ret
        exact ⟨by rw [HN.out]; rfl, HB⟩
set_option maxHeartbeats 1000000 in
set_option maxRecDepth 100000 in
theorem implVecBytes_any (C : Nat) (w : World) (va : Value) (xs : List Int) (hC : C ≤ w.heap.size) (ha : Rd C w va (xs.map (Value.int .i64))) :
    Calls Try.prog 37 #[.agg #[va]] w fun e w' => ∃ r, e = .returned (.tuple #[r, .int .i64 (vecC xs)]) ∧ Own 5 w' w.heap.size r ((vecB xs).map (Value.int .u8)) ∧ Below w.heap.size w w' := by
  have hlx := cnt_len xs
  have h1 := fun w' (h : Rd C w' va (xs.map (Value.int .i64))) (h' : C ≤ w'.heap.size) => countsOf_any C w' va xs h' h
  obtain ⟨ao, la, ca, rfl⟩ : ∃ ao len cap, va = .slice ao len cap := by
    obtain ⟨ao, cap, rfl, _⟩ := ha
    exact ⟨_, _, _, rfl⟩
  have ha3 := ha.alloc (.cells #[.slice ao la ca] 38) hC
  obtain ⟨ok, hok⟩ : ∃ ok, vecOK xs = ok := ⟨_, rfl⟩
  rw [hok] at h1
  have HP : Hid ((ok = true → vecB xs = bytesTo (cnt xs) (toldN (cnt xs) 16) ∧ vecC xs = 0 ∧ ∀ k, 0 ≤ (cnt xs).getD k 0 ∧ (cnt xs).getD k 0 ≤ 1000000000000) ∧ (ok = false → vecB xs = [] ∧ vecC xs = 1)) := by
    refine ⟨fun h => ?_, fun h => ?_⟩
    · have h2 := hok.trans h
      unfold vecB vecC cnt
      rw [if_pos h2, if_pos h2, if_pos h2]
      exact ⟨rfl, rfl, vec_get h2⟩
    · have h2 := hok.trans h
      unfold vecB vecC
      rw [if_neg (by rw [h2]; decide), if_neg (by rw [h2]; decide)]
      exact ⟨rfl, rfl⟩
  clear hok
  generalize cnt xs = X at hlx h1 HP
  have HI : Hid _ := arr_info hlx
  have HI' : Hid _ := arr_info' hlx
  go_enter Try.func37, Try.ntmps37
  go_wp2_with fail
  refine (h1 _ ha3 (by simp; omega)).mono ?_
  rintro e w1 ⟨rfl, hB⟩
  obtain ⟨hB1, r1, t1, hs1, hK1⟩ := arr_put hB hB.size #[.int .i64 0, .int .i64 0, .int .i64 0, .int .i64 0, .int .i64 0, .int .i64 0, .int .i64 0, .int .i64 0, .int .i64 0, .int .i64 0, .int .i64 0, .int .i64 0, .int .i64 0, .int .i64 0, .int .i64 0, .int .i64 0] rfl 71 X hlx
  have hbw := below_seq (below_alloc _ _) hB1
  have hsw := (below_seq (below_alloc _ _) hB).size
  clear h1 ha3 ha
  cases ok with
  | true =>
    obtain ⟨e1, e2, hbd⟩ := HP.out.1 rfl
    have E1 : Hid _ := e1
    have E2 : Hid _ := e2
    have HD : Hid _ := hbd
    clear e1 e2 HP hbd
    go_wp2_with (first | (refine wpList_store_mid rfl 71 _ _ rfl w1.heap.size 0 (arrC X).toArray rfl rfl t1 HI'.out (arrC_all X) ?_) | (refine wpList_load_mid rfl 71 _ rfl w1.heap.size 0 rfl (arrC X) _ r1 Try.underlying71 rfl HI.out ?_))
    refine (told_any _ X hlx).mono ?_
    rintro e w4 ⟨rfl, hb4⟩
    have hbf := below_seq hbw hb4
    have r4 := range_below hb4 hs1 r1
    have hs4 := hb4.size
    have htl := toldN_le X 16
    clear hB1 hb4 t1 r1 hbw hB hK1
    generalize toldN X 16 = n at htl E1
    have j0 : (0 : Int) ≤ (n : Int) := by omega
    have j1 : (n : Int) ≤ 16 := by omega
    go_wp2_with fail
    go_loopw [6, 20] (fun to ti wr => ∃ k : Nat, k ≤ n ∧ ti = .int .i64 (k : Int) ∧ Own 5 wr w4.heap.size to ((bytesTo X k).map (Value.int .u8)) ∧ Below w4.heap.size w4 wr) (fun _ ti _ => n - (intOf ti).toNat)
    case atStart => exact ⟨0, Nat.zero_le _, rfl, World.ownsRow_nil _ _ _ _, Below.refl _ _⟩
    case round =>
      obtain ⟨k, hk, rfl, ho, hBr⟩ := hrel
      by_cases hlt : k < n
      · have c1 : wr.cell? ⟨w1.heap.size, k, none⟩ = some (.int .i64 (X.getD k 0)) := by
          have := (hBr.cell (p := ⟨w1.heap.size, 0 + k, none⟩) (show w1.heap.size < w4.heap.size by omega)).trans (r4 k (.int .i64 (X.getD k 0)) (by simp [arrC, show k < X.length by omega]))
          rwa [Nat.zero_add] at this
        have hd := HD.out k
        have hbl := bytesTo_len X (fun k => by have := HD.out k; omega) k
        have HN : Hid (bytesTo X (k + 1) = bytesTo X k ++ enc (X.getD k 0).toNat) := rfl
        obtain ⟨x, hx⟩ := Int.eq_ofNat_of_zero_le hd.1
        rw [hx] at c1 hd HN
        rw [Int.toNat_natCast] at HN
        have i0 : (0 : Int) ≤ (k : Int) := by omega
        have i1 : (k : Int) < (n : Int) := by omega
        go_wp2_with fail
        refine (appendInt_any w4.heap.size wr _ (bytesTo X k) x (by omega) (by omega) hBr.size ho).mono ?_
        rintro e w6 ⟨r6, rfl, ho6, hb6⟩
        rw [← HN.out] at ho6
        have hB6 := hBr.trans hb6
        clear ho hBr hb6 c1
        go_wp2_with fail
        go_roundw
        case rel => exact ⟨k + 1, by omega, by go_num, ho6, hB6⟩
        case measure => simp [intOf]; omega
      · obtain rfl : k = n := by omega
        go_wp2_with fail
        go_ret2
        exact ⟨_, by rw [E2.out]; rfl, by rw [E1.out]; exact ho.mono hbf.size, below_seq hbf hBr⟩
  | false =>
    obtain ⟨e1, e2⟩ := HP.out.2 rfl
    have E1 : Hid _ := e1
    have E2 : Hid _ := e2
    clear e1 e2 HP r1
    go_wp2_with (first | (refine wpList_store_mid rfl 71 _ _ rfl w1.heap.size 0 (arrC X).toArray rfl rfl t1 HI'.out (arrC_all X) ?_))
    go_ret2
    exact ⟨_, by rw [E2.out]; rfl, by rw [E1.out]; exact World.ownsRow_nil _ _ _ _, hbw⟩
end Go.Proofs.Ytpiadcjkbbgggaa

namespace Go.Proofs.Ytpiadcjkbbgggaa
open Go.RowKit
set_option linter.unusedVariables false

/-- At most m numbers from a place on, and the place behind them; none: one is not of the form. -/
def rdN (bs : List Int) : Nat → Nat → Option (List Int × Nat)
  | 0, p => some ([], p)
  | m + 1, p => if p < bs.length then (match getL bs p with
    | none => none
    | some (a, q) => match rdN bs m q with
      | none => none
      | some (T, r) => some (a :: T, r)) else some ([], p)
/-- Noughts behind, up to sixteen. -/
def pad (T : List Int) : List Int := T ++ List.replicate (16 - T.length) 0
theorem pad_len {T : List Int} (h : T.length ≤ 16) : (pad T).length = 16 := by simp [pad]; omega
theorem pad_get {T : List Int} (k : Nat) : (pad T).getD k 0 = T.getD k 0 := by
  unfold pad
  by_cases h : k < T.length
  · simp [List.getD, List.getElem?_append, h]
  · simp only [List.getD, List.getElem?_append, h, if_false]
    rw [List.getElem?_eq_none (show T.length ≤ k by omega)]
    by_cases h2 : k - T.length < 16 - T.length
    · rw [List.getElem?_replicate, if_pos h2]
      rfl
    · rw [List.getElem?_replicate, if_neg h2]
theorem pad_set {T : List Int} (h : T.length < 16) (a : Int) : (pad T).set T.length a = pad (T ++ [a]) := by
  unfold pad
  rw [List.set_append_right _ _ (Nat.le_refl _), Nat.sub_self, List.append_assoc]
  congr 1
  rw [show 16 - T.length = (16 - (T ++ [a]).length) + 1 by simp; omega, List.replicate_succ, List.set_cons_zero]
  rfl
/-- What is read so far, ahead of what is still to come. -/
def addV (acc : List Int) : Option (List Int × Nat) → Option (List Int × Nat)
  | none => none
  | some (T, r) => some (acc ++ T, r)
theorem addV_nil (o : Option (List Int × Nat)) : addV [] o = o := by
  cases o with
  | none => rfl
  | some z => rfl
theorem rdN_none {bs : List Int} {m p : Nat} (hp : p < bs.length) (h : getL bs p = none) : rdN bs (m + 1) p = none := by
  rw [rdN, if_pos hp, h]
theorem rdN_some {bs : List Int} {m p q : Nat} {a : Int} (hp : p < bs.length) (h : getL bs p = some (a, q)) (acc : List Int) : addV acc (rdN bs (m + 1) p) = addV (acc ++ [a]) (rdN bs m q) := by
  rw [rdN, if_pos hp, h]
  simp only
  cases rdN bs m q with
  | none => rfl
  | some z => obtain ⟨T, r⟩ := z; simp [addV]
theorem rdN_end {bs : List Int} {m p : Nat} (hp : ¬ p < bs.length) : rdN bs m p = some ([], p) := by
  cases m with
  | zero => rfl
  | succ m => rw [rdN, if_neg hp]
theorem rdN_zero (bs : List Int) (p : Nat) : rdN bs 0 p = some ([], p) := rfl
/-- What ReadVec answers. -/
def readV (bs : List Int) : Option (List Int) := match rdN bs 16 0 with
  | none => none
  | some (T, r) => if r = bs.length ∧ vecOK (pad T) = true ∧ toldN (pad T) 16 = T.length then some (pad T) else none
theorem vecOK_bad' {xs : List Int} {k : Nat} (hk : k < xs.length) (h : ¬ (0 ≤ xs[k] ∧ xs[k] ≤ 1000000000000)) : vecOK xs = false := vecOK_bad hk (by unfold cOK; exact decide_eq_false h)
/-- A count that is too great spoils all. -/
theorem readV_great {bs acc : List Int} {m q : Nat} {a : Int} (h : rdN bs 16 0 = addV (acc ++ [a]) (rdN bs m q)) (hl : acc.length < 16) (ha : ¬ (0 ≤ a ∧ a ≤ 1000000000000)) : readV bs = none := by
  unfold readV
  rw [h]
  cases rdN bs m q with
  | none => rfl
  | some z =>
    obtain ⟨T, r⟩ := z
    simp only [addV]
    rw [if_neg]
    rintro ⟨_, h2, _⟩
    have hk : acc.length < (pad (acc ++ [a] ++ T)).length := by simp [pad]
    have : (pad (acc ++ [a] ++ T))[acc.length] = a := by simp [pad]
    rw [vecOK_bad' hk (by rw [this]; exact ha)] at h2
    exact absurd h2 (by decide)
theorem readV_bad {bs acc : List Int} {m q : Nat} (h : rdN bs 16 0 = addV acc (rdN bs m q)) (hn : rdN bs m q = none) : readV bs = none := by
  unfold readV
  rw [h, hn]
  rfl
theorem readV_full {bs acc : List Int} {p : Nat} (h : rdN bs 16 0 = addV acc (rdN bs 0 p)) (hp : p < bs.length) : readV bs = none := by
  unfold readV
  rw [h]
  simp only [rdN_zero, addV, List.append_nil]
  rw [if_neg]
  rintro ⟨h1, _⟩
  omega
theorem pad_ok {acc : List Int} (hl : acc.length ≤ 16) (h : ∀ a ∈ acc, 0 ≤ a ∧ a ≤ 1000000000000) : vecOK (pad acc) = true := by
  refine vecOK_all (pad_len hl) fun k hk => ?_
  have hm : (pad acc)[k] ∈ pad acc := List.getElem_mem hk
  generalize (pad acc)[k] = y at hm
  unfold pad at hm
  unfold cOK
  rcases List.mem_append.1 hm with hm | hm
  · exact decide_eq_true (h _ hm)
  · rw [List.eq_of_mem_replicate hm]
    decide
theorem readV_end {bs acc : List Int} {m p : Nat} (h : rdN bs 16 0 = addV acc (rdN bs m p)) (hp : p = bs.length) (hl : acc.length ≤ 16) (ha : ∀ a ∈ acc, 0 ≤ a ∧ a ≤ 1000000000000) : readV bs = if toldN (pad acc) 16 = acc.length then some (pad acc) else none := by
  unfold readV
  rw [h, rdN_end (by omega)]
  simp only [addV, List.append_nil]
  by_cases ht : toldN (pad acc) 16 = acc.length
  · rw [if_pos ⟨hp, pad_ok hl ha, ht⟩, if_pos ht]
  · rw [if_neg (fun h => ht h.2.2), if_neg ht]
/-- The bytes that numbers were read from. -/
theorem rdN_bytes {bs : List Int} (hx : Bytes bs) : ∀ m p T r, p ≤ bs.length → rdN bs m p = some (T, r) → T.length ≤ m ∧ p ≤ r ∧ r ≤ bs.length ∧ bs.drop p = (T.flatMap fun a => enc a.toNat) ++ bs.drop r := by
  intro m
  induction m with
  | zero =>
    intro p T r hp h
    simp only [rdN, Option.some.injEq, Prod.mk.injEq] at h
    obtain ⟨rfl, rfl⟩ := h
    exact ⟨Nat.le_refl _, Nat.le_refl _, hp, rfl⟩
  | succ m ih =>
    intro p T r hp h
    rw [rdN] at h
    by_cases hlt : p < bs.length
    · rw [if_pos hlt] at h
      cases hG : getL bs p with
      | none => rw [hG] at h; simp at h
      | some z =>
        obtain ⟨a, q⟩ := z
        rw [hG] at h
        simp only at h
        have hok := getL_ok hx hG
        cases hR : rdN bs m q with
        | none => rw [hR] at h; simp at h
        | some y =>
          obtain ⟨T', r'⟩ := y
          rw [hR] at h
          simp only [Option.some.injEq, Prod.mk.injEq] at h
          obtain ⟨rfl, rfl⟩ := h
          obtain ⟨h1, h2, h3, h4⟩ := ih q T' r' hok.2.2.2 hR
          refine ⟨by simp; omega, by omega, h3, ?_⟩
          rw [getL_enc hx hG, h4, List.flatMap_cons, List.append_assoc]
    · rw [if_neg hlt] at h
      simp only [Option.some.injEq, Prod.mk.injEq] at h
      obtain ⟨rfl, rfl⟩ := h
      exact ⟨Nat.zero_le _, Nat.le_refl _, hp, rfl⟩
theorem bytesTo_pad (T : List Int) : ∀ k, k ≤ T.length → bytesTo (pad T) k = (T.take k).flatMap fun a => enc a.toNat := by
  intro k
  induction k with
  | zero => intro _; rfl
  | succ k ih =>
    intro hk
    rw [bytesTo, ih (by omega), List.take_succ_eq_append_getElem (show k < T.length by omega), List.flatMap_append, pad_get]
    simp [List.getD, show k < T.length by omega]
theorem told_pad (T : List Int) : ∀ k, T.length ≤ k → toldN (pad T) k ≤ T.length := by
  intro k
  induction k with
  | zero => intro h; exact Nat.zero_le _
  | succ k ih =>
    intro h
    by_cases e : T.length = k + 1
    · rw [e]; exact toldN_le _ _
    · have h0 : (pad T).getD k 0 = 0 := by
        rw [pad_get]
        simp [List.getD, List.getElem?_eq_none (show T.length ≤ k by omega)]
      rw [toldN, if_pos h0]
      exact ih (by omega)
theorem bytesTo_lt (X : List Int) (i j : Nat) (h : i < j) : (bytesTo X i).length < (bytesTo X j).length := by
  induction j with
  | zero => omega
  | succ j ih =>
    have := enc_pos (X.getD j 0).toNat
    rw [bytesTo, List.length_append]
    by_cases e : i = j
    · subst e; omega
    · have := ih (by omega); omega
/-- Written again, the bytes are the same just where no nought is at the end. -/
theorem again_iff {bs : List Int} (hx : Bytes bs) {T : List Int} (h : rdN bs 16 0 = some (T, bs.length)) : bytesTo (pad T) (toldN (pad T) 16) = bs ↔ toldN (pad T) 16 = T.length := by
  obtain ⟨h1, _, _, h4⟩ := rdN_bytes hx 16 0 T bs.length (Nat.zero_le _) h
  rw [List.drop_zero, List.drop_length, List.append_nil] at h4
  have hb : bs = bytesTo (pad T) T.length := by rw [bytesTo_pad T T.length (Nat.le_refl _), List.take_length]; exact h4
  have hle := told_pad T 16 h1
  constructor
  · intro he
    by_cases e : toldN (pad T) 16 = T.length
    · exact e
    · have := bytesTo_lt (pad T) _ _ (show toldN (pad T) 16 < T.length by omega)
      rw [he, ← hb] at this
      omega
  · intro e
    rw [e]
    exact hb.symm
def readB (bs : List Int) : List Int := match readV bs with
  | some X => X
  | none => []
def readC (bs : List Int) : Int := match readV bs with
  | some _ => 0
  | none => 3
theorem readV_len {bs : List Int} (hx : Bytes bs) {X : List Int} (h : readV bs = some X) : X.length = 16 := by
  unfold readV at h
  cases hR : rdN bs 16 0 with
  | none => rw [hR] at h; simp at h
  | some z =>
    obtain ⟨T, r⟩ := z
    rw [hR] at h
    simp only at h
    split at h
    · simp only [Option.some.injEq] at h
      subst h
      exact pad_len (rdN_bytes hx 16 0 T r (Nat.zero_le _) hR).1
    · simp at h

end Go.Proofs.Ytpiadcjkbbgggaa
