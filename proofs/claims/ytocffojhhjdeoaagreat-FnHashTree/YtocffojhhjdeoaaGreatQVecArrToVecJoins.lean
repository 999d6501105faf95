/- Arrays of counts: what countsOf does. What the code's join and vector do. -/
import Derived.Deep.MidRow
import Derived.Deep.RegionHeld3
import Derived.Test.YtocffojhhjdeoaaGreatQTakeKitToBigKit
import Derived.Test.YtocffojhhjdeoaaGreatQThereKit
import Derived.Test.YtocffojhhjdeoaaGreatQInfoToSignSpec
namespace Go.Proofs.YtocffojhhjdeoaaGreat
open Go.RowKit
set_option linter.unusedVariables false

/-- The cells of an array of counts. -/
def arrC (xs : List Int) : List Value := xs.map (Value.int .i64)
theorem arrC_len (xs : List Int) : (arrC xs).length = xs.length := by simp [arrC]
theorem arrC_one (xs : List Int) : ∀ v ∈ arrC xs, v.oneCell' = true := by
  intro v hv
  obtain ⟨x, _, rfl⟩ := List.mem_map.1 hv
  rfl
theorem arrC_all (xs : List Int) : (arrC xs).toArray.all (·.oneCell') = true := all_oneCell_toArray (arrC_one xs)
/-- An array that is there, and may be written. -/
theorem range_rd {C g off len cap : Nat} {w : World} {xs : List Int} (h : Rd C w (.slice (some ⟨g, off, none⟩) len cap) (xs.map (Value.int .i64))) : w.rangeAt g off (arrC xs) := by
  intro j v hj
  obtain ⟨ao, cap', e, _, _, _, hr⟩ := h
  simp only [Value.slice.injEq] at e
  obtain ⟨rfl, _, _⟩ := e
  have hj1 := (List.getElem?_eq_some_iff.1 hj).1
  obtain ⟨g', off', e, _, hc⟩ := hr (by unfold arrC at hj1; omega)
  simp only [Option.some.injEq, Addr.mk.injEq, and_true] at e
  obtain ⟨rfl, rfl⟩ := e
  exact hc j v hj
theorem below_setCells {B : Nat} {a : World} {b : Nat} (hb : B ≤ b) : ∀ (vs : List Value) (o : Nat) (w : World), Below B a w → Below B a (w.setCells b o vs) := by
  intro vs
  induction vs with
  | nil => intro o w h; exact h
  | cons v vs ih =>
    intro o w h
    exact ih (o + 1) _ (h.setCell (p := ⟨b, o, none⟩) hb v)

theorem int_size : (Tryz.prog.info? 3).map (·.size) = some 1 := by kernel_rfl
/-- What countsOf gives of a vector. -/
def cnt (xs : List Int) : List Int := if vecOK xs = true then xs else List.replicate 16 0
theorem cnt_len (xs : List Int) : (cnt xs).length = 16 := by
  unfold cnt
  split
  · rename_i h; exact (vecOK_get h).1
  · rfl
theorem range_below {B : Nat} {w w' : World} (h : Below B w w') {X o : Nat} {cs : List Value} (hx : X < B) (hr : w.rangeAt X o cs) : w'.rangeAt X o cs := fun j v hj => (h.cell (p := ⟨X, o + j, none⟩) hx).trans (hr j v hj)
/-- A new array, written. -/
theorem arr_put {B : Nat} {a w : World} (h : Below B a w) (hB : B ≤ w.heap.size) (Z : Array Value) (hZ : Z.size = 16) (T : TypeId) (xs : List Int) (hx : xs.length = 16) :
    Below B a ((w.alloc (.cells Z T)).setCells w.heap.size 0 (arrC xs)) ∧ ((w.alloc (.cells Z T)).setCells w.heap.size 0 (arrC xs)).rangeAt w.heap.size 0 (arrC xs) ∧ (w.alloc (.cells Z T)).there w.heap.size 0 (arrC xs).toArray.size ∧ w.heap.size < ((w.alloc (.cells Z T)).setCells w.heap.size 0 (arrC xs)).heap.size ∧ Below w.heap.size w ((w.alloc (.cells Z T)).setCells w.heap.size 0 (arrC xs)) := by
  have ht : (w.alloc (.cells Z T)).there w.heap.size 0 16 := there_made (Below.refl _ _) (by omega)
  refine ⟨below_setCells hB _ _ _ (h.alloc hB _), World.rangeAt_setCells_same _ _ _ _ (by rw [arrC_len, hx]; exact ht), by rw [show (arrC xs).toArray.size = 16 by simp [arrC_len, hx]]; exact ht, ?_, below_setCells (Nat.le_refl _) _ _ _ (below_alloc _ _)⟩
  have := (below_setCells (Nat.le_refl _) (arrC xs) 0 _ (Below.refl w.heap.size (w.alloc (.cells Z T)))).size
  rw [World.size_alloc] at this
  omega
theorem there_more {B : Nat} {w w' : World} (h : Below B w w') {X n : Nat} (hx : X < B) (hr : w.there X 0 n) : w'.there X 0 n := fun j hj => by
  rw [h.cell (p := ⟨X, 0 + j, none⟩) hx, h.frozen (p := ⟨X, 0 + j, none⟩) hx]
  exact hr j hj

end Go.Proofs.YtocffojhhjdeoaaGreat

namespace Go.Proofs.YtocffojhhjdeoaaGreat
open Go.RowKit
set_option linter.unusedVariables false

/-- A block that is an array, seen as a row. -/
theorem own_arr {w : World} {g B : Nat} {X : List Int} {T : TypeId} (h : w.heap[g]? = some (.cells (arrC X).toArray T (0, 0))) (hx : X.length = 16) (hB : B ≤ g) : Own T w B (.slice (some ⟨g, 0, none⟩) 16 16) (arrC X) := by
  refine ⟨by simp, .inr ⟨g, 16, (arrC X).toArray, by rw [arrC_len, hx], hB, h, by rw [arrC_len, hx]; exact Nat.le_refl _, by decide, by simp [arrC_len, hx], by simp⟩⟩
theorem own_block {w : World} {g B n cap : Nat} {cs : List Value} {T : TypeId} (h : Own T w B (.slice (some ⟨g, 0, none⟩) n cap) cs) (hn : cs.length = cap) : w.heap[g]? = some (.cells cs.toArray T (0, 0)) := by
  obtain ⟨h1, h2⟩ := h
  rcases h2 with ⟨hv, _⟩ | ⟨g', cap', cur, hv, hb, hg, hle, hm, hs, ht⟩
  · simp at hv
  · simp only [Value.slice.injEq, Option.some.injEq, Addr.mk.injEq, and_true] at hv
    obtain ⟨rfl, rfl, rfl⟩ := hv
    rw [hg]
    have : cur = cs.toArray := by
      rw [← ht, Nat.mul_one, List.take_of_length_le (by simp; omega)]
    rw [this]
theorem own_range {w : World} {g B n cap : Nat} {cs : List Value} {T : TypeId} (h : Own T w B (.slice (some ⟨g, 0, none⟩) n cap) cs) : w.rangeAt g 0 cs := by
  intro j v hj
  have hj1 := (List.getElem?_eq_some_iff.1 hj).1
  rw [Nat.zero_add, own_cell h hj1]
  rw [List.getElem?_eq_getElem hj1] at hj
  exact hj

theorem block_made {w w1 : World} {o : Obj} (h : Below (w.alloc o).heap.size (w.alloc o) w1) : w1.heap[w.heap.size]? = some o := (h.block w.heap.size (by simp)).trans (heap_alloc_new w o)

/-- The greater one, and the lesser one. -/
def mxI (a b : Int) : Int := if a < b then b else a
def mnI (a b : Int) : Int := if b < a then b else a

/-- What join makes of two. -/
def zipM (f : Int → Int → Int) (X Y : List Int) (k : Nat) : List Int := (List.zipWith f X Y).take k ++ X.drop k
theorem zipM_len {f : Int → Int → Int} {X Y : List Int} (hx : X.length = 16) (hy : Y.length = 16) {k : Nat} (hk : k ≤ 16) : (zipM f X Y k).length = 16 := by simp [zipM, hx, hy]; omega
theorem zipM_all {f : Int → Int → Int} {X Y : List Int} (hx : X.length = 16) (hy : Y.length = 16) : zipM f X Y 16 = List.zipWith f X Y := by
  unfold zipM
  rw [List.drop_of_length_le (by omega), List.take_of_length_le (by simp [hx, hy]), List.append_nil]
theorem zipM_get {f : Int → Int → Int} {X Y : List Int} (hx : X.length = 16) (hy : Y.length = 16) {k : Nat} (hk : k < 16) : (arrC (zipM f X Y k))[k]'(by rw [arrC_len, zipM_len hx hy (by omega)]; exact hk) = Value.int .i64 (X[k]'(by omega)) := by
  unfold arrC zipM
  rw [List.getElem_map, List.getElem_append_right (by simp [hx, hy]; omega)]
  simp [hx, hy, Nat.min_eq_left (Nat.le_of_lt hk)]
theorem zipM_set {f : Int → Int → Int} {X Y : List Int} (hx : X.length = 16) (hy : Y.length = 16) {k : Nat} (hk : k < 16) : (arrC (zipM f X Y k)).set k (Value.int .i64 (f (X[k]'(by omega)) (Y[k]'(by omega)))) = arrC (zipM f X Y (k + 1)) := by
  unfold arrC zipM
  rw [List.map_append, List.set_append_right _ _ (by simp [hx, hy]; omega), List.map_append]
  have hl : ((List.zipWith f X Y).take k).length = k := by simp [hx, hy]; omega
  rw [List.length_map, hl, Nat.sub_self, List.drop_eq_getElem_cons (show k < X.length by omega), List.map_cons, List.set_cons_zero, List.take_succ_eq_append_getElem (show k < (List.zipWith f X Y).length by simp [hx, hy]; omega), List.map_append, List.append_assoc, List.getElem_zipWith]
  rfl

end Go.Proofs.YtocffojhhjdeoaaGreat
