/- The stream: the generator closure, its variables, and what a call of it does. -/
import Derived.Test.YtnomplfnblmciaaSealEight
namespace Go.Proofs.Ytnomplfnblmciaa
open Go.RowKit
set_option linter.unusedVariables false

theorem rangeAt_setCell_far {w : World} {b o : Nat} {cs : List Value} (h : w.rangeAt b o cs) (p : Addr) (v : Value) (hne : p.block ≠ b) : (w.setCell p v).rangeAt b o cs := fun j u hj => by
  rw [World.cell?_setCell_far w p ⟨b, o + j, none⟩ v hne]
  exact h j u hj
theorem there_setCell_any {w : World} {b o n : Nat} (h : w.there b o n) (p : Addr) (v : Value) (hne : p.block ≠ b) : (w.setCell p v).there b o n := fun j hj => by
  rw [World.cell?_setCell_far w p ⟨b, o + j, none⟩ v hne, World.frozen?_setCell]
  exact h j hj
theorem there8_below {B : Nat} {w w' : World} (h : Below B w w') {X o n : Nat} (hx : X < B) (hr : w.there X o n) : w'.there X o n := fun j hj => by
  rw [h.cell (p := ⟨X, o + j, none⟩) hx, h.frozen (p := ⟨X, o + j, none⟩) hx]
  exact hr j hj
theorem heap_setCells_far {b j : Nat} (hne : j ≠ b) : ∀ (vs : List Value) (o : Nat) (w : World), (w.setCells b o vs).heap[j]? = w.heap[j]? := by
  intro vs
  induction vs with
  | nil => intro o w; rfl
  | cons v vs ih =>
    intro o w
    rw [World.setCells, ih (o + 1) _]
    exact heap_setCell_other w ⟨b, o, none⟩ j v hne

/-- The stream's four variables: the key, the number, the block at hand, how many were told. -/
structure Strm (w : World) (B : Nat) (key : List Int) (n k : Nat) (cur : List Int) : Prop where
  ck : w.rangeAt B 0 (arr8 key)
  cn : w.cell? ⟨B + 1, 0, none⟩ = some (.int .i64 (n : Int))
  cb : w.rangeAt (B + 2) 0 (arr8 cur)
  tb : w.there (B + 2) 0 8
  ct : w.cell? ⟨B + 3, 0, none⟩ = some (.int .i64 (k : Int))
  ft : w.frozen? ⟨B + 3, 0, none⟩ = false
  lt : B + 3 < w.heap.size
  l8 : cur.length = 8
/-- All but the block at hand and the number of told ones is as it was. -/
def KpS (B : Nat) (w w' : World) : Prop := Below (B + 2) w w' ∧ ∀ b, B + 4 ≤ b → b < w.heap.size → w'.heap[b]? = w.heap[b]?
theorem KpS.refl (B : Nat) (w : World) : KpS B w w := ⟨Below.refl _ _, fun _ _ _ => rfl⟩
theorem KpS.trans {B : Nat} {w w1 w2 : World} (h : KpS B w w1) (k : KpS B w1 w2) : KpS B w w2 := ⟨h.1.trans k.1, fun b hb hl => (k.2 b hb (Nat.lt_of_lt_of_le hl h.1.size)).trans (h.2 b hb hl)⟩
theorem KpS.of {B : Nat} {w w1 : World} (h : Below w.heap.size w w1) (hB : B + 2 ≤ w.heap.size) : KpS B w w1 := ⟨h.mono hB, fun b _ hl => h.block b hl⟩
theorem Strm.below {w w' : World} {B : Nat} {key : List Int} {n k : Nat} {cur : List Int} (h : Strm w B key n k cur) (hb : Below w.heap.size w w') : Strm w' B key n k cur := by
  have hl := h.lt
  exact ⟨range8_below hb (by omega) h.ck, (hb.cell (p := ⟨B + 1, 0, none⟩) (show B + 1 < _ by omega)).trans h.cn, range8_below hb (by omega) h.cb, there8_below hb (by omega) h.tb, (hb.cell (p := ⟨B + 3, 0, none⟩) (show B + 3 < _ by omega)).trans h.ct, (hb.frozen (p := ⟨B + 3, 0, none⟩) (show B + 3 < _ by omega)).trans h.ft, Nat.lt_of_lt_of_le hl hb.size, h.l8⟩
theorem size_setCells8 : ∀ (vs : List Value) (b o : Nat) (w : World), (w.setCells b o vs).heap.size = w.heap.size := by
  intro vs
  induction vs with
  | nil => intro b o w; rfl
  | cons v vs ih => intro b o w; rw [World.setCells, ih]; simp [World.setCell]
/-- The block at hand is written. -/
theorem Strm.block {w : World} {B : Nat} {key : List Int} {n k : Nat} {cur X : List Int} (h : Strm w B key n k cur) (hX : X.length = 8) : Strm (w.setCells (B + 2) 0 (arr8 X)) B key n k X ∧ KpS B w (w.setCells (B + 2) 0 (arr8 X)) := by
  refine ⟨⟨World.rangeAt_setCells_apart h.ck _ _ _ (.inl (by omega)), ?_, World.rangeAt_setCells_same _ _ _ _ (by rw [arr8_len, hX]; exact h.tb), World.there_setCells h.tb _ _ _, ?_, ?_, by rw [size_setCells8]; exact h.lt, hX⟩, below_setCells8 (Nat.le_refl _) _ _ _ (Below.refl _ _), fun b hb _ => heap_setCells_far (by omega) _ _ _⟩
  · rw [World.cell?_setCells_out (B + 2) _ 0 w ⟨B + 1, 0, none⟩ (fun e => by simp at e)]; exact h.cn
  · rw [World.cell?_setCells_out (B + 2) _ 0 w ⟨B + 3, 0, none⟩ (fun e => by simp at e)]; exact h.ct
  · rw [World.frozen?_setCells]; exact h.ft
/-- One more was told. -/
theorem Strm.tick {w : World} {B : Nat} {key : List Int} {n k : Nat} {cur : List Int} (h : Strm w B key n k cur) : Strm (w.setCell ⟨B + 3, 0, none⟩ (.int .i64 ((k : Int) + 1))) B key n (k + 1) cur ∧ KpS B w (w.setCell ⟨B + 3, 0, none⟩ (.int .i64 ((k : Int) + 1))) := by
  refine ⟨⟨rangeAt_setCell_far h.ck _ _ (show B + 3 ≠ B by omega), ?_, rangeAt_setCell_far h.cb _ _ (show B + 3 ≠ B + 2 by omega), there_setCell_any h.tb _ _ (show B + 3 ≠ B + 2 by omega), ?_, ?_, by simp; exact h.lt, h.l8⟩, (Below.refl _ _).setCell (p := ⟨B + 3, 0, none⟩) (show B + 2 ≤ B + 3 by omega) _, fun b hb _ => heap_setCell_other w ⟨B + 3, 0, none⟩ b _ (show b ≠ B + 3 by omega)⟩
  · rw [World.cell?_setCell_far w ⟨B + 3, 0, none⟩ ⟨B + 1, 0, none⟩ _ (show B + 3 ≠ B + 1 by omega)]; exact h.cn
  · exact World.cell?_setCell_same w ⟨B + 3, 0, none⟩ _ h.ct
  · rw [World.frozen?_setCell]; exact h.ft

theorem strm_made (w : World) (key : List Int) (n : Nat) (hk8 : key.length = 8) : Strm ((((w.alloc (.cells (arr8 key).toArray 41)).alloc (.cells #[.int .i64 (n : Int)] 3)).alloc (.cells #[.int .u8 0, .int .u8 0, .int .u8 0, .int .u8 0, .int .u8 0, .int .u8 0, .int .u8 0, .int .u8 0] 41)).alloc (.cells #[.int .i64 0] 3)) w.heap.size key n 0 (List.replicate 8 0) := by
  have b3 : Below (((w.alloc (.cells (arr8 key).toArray 41)).alloc (.cells #[.int .i64 (n : Int)] 3)).alloc (.cells #[.int .u8 0, .int .u8 0, .int .u8 0, .int .u8 0, .int .u8 0, .int .u8 0, .int .u8 0, .int .u8 0] 41)).heap.size (((w.alloc (.cells (arr8 key).toArray 41)).alloc (.cells #[.int .i64 (n : Int)] 3)).alloc (.cells #[.int .u8 0, .int .u8 0, .int .u8 0, .int .u8 0, .int .u8 0, .int .u8 0, .int .u8 0, .int .u8 0] 41)) ((((w.alloc (.cells (arr8 key).toArray 41)).alloc (.cells #[.int .i64 (n : Int)] 3)).alloc (.cells #[.int .u8 0, .int .u8 0, .int .u8 0, .int .u8 0, .int .u8 0, .int .u8 0, .int .u8 0, .int .u8 0] 41)).alloc (.cells #[.int .i64 0] 3)) := below_alloc _ _
  have b2 : Below ((w.alloc (.cells (arr8 key).toArray 41)).alloc (.cells #[.int .i64 (n : Int)] 3)).heap.size ((w.alloc (.cells (arr8 key).toArray 41)).alloc (.cells #[.int .i64 (n : Int)] 3)) ((((w.alloc (.cells (arr8 key).toArray 41)).alloc (.cells #[.int .i64 (n : Int)] 3)).alloc (.cells #[.int .u8 0, .int .u8 0, .int .u8 0, .int .u8 0, .int .u8 0, .int .u8 0, .int .u8 0, .int .u8 0] 41)).alloc (.cells #[.int .i64 0] 3)) := below_seq (below_alloc _ _) b3
  have b1 : Below (w.alloc (.cells (arr8 key).toArray 41)).heap.size (w.alloc (.cells (arr8 key).toArray 41)) ((((w.alloc (.cells (arr8 key).toArray 41)).alloc (.cells #[.int .i64 (n : Int)] 3)).alloc (.cells #[.int .u8 0, .int .u8 0, .int .u8 0, .int .u8 0, .int .u8 0, .int .u8 0, .int .u8 0, .int .u8 0] 41)).alloc (.cells #[.int .i64 0] 3)) := below_seq (below_alloc _ _) b2
  have c1 := cell_made1 (w := (w.alloc (.cells (arr8 key).toArray 41))) (v := .int .i64 (n : Int)) (T := 3) b2
  have c2 := there_made (w := ((w.alloc (.cells (arr8 key).toArray 41)).alloc (.cells #[.int .i64 (n : Int)] 3))) (cs := #[.int .u8 0, .int .u8 0, .int .u8 0, .int .u8 0, .int .u8 0, .int .u8 0, .int .u8 0, .int .u8 0]) (T := 41) b3 (n := 8) (by simp)
  have c2' := fun k v (hk : (#[.int .u8 0, .int .u8 0, .int .u8 0, .int .u8 0, .int .u8 0, .int .u8 0, .int .u8 0, .int .u8 0] : Array Value)[k]? = some v) => cell_made (w := ((w.alloc (.cells (arr8 key).toArray 41)).alloc (.cells #[.int .i64 (n : Int)] 3))) (cs := #[.int .u8 0, .int .u8 0, .int .u8 0, .int .u8 0, .int .u8 0, .int .u8 0, .int .u8 0, .int .u8 0]) (T := 41) b3 (k := k) (v := v) hk
  have c3 := cell_made1 (w := (((w.alloc (.cells (arr8 key).toArray 41)).alloc (.cells #[.int .i64 (n : Int)] 3)).alloc (.cells #[.int .u8 0, .int .u8 0, .int .u8 0, .int .u8 0, .int .u8 0, .int .u8 0, .int .u8 0, .int .u8 0] 41))) (v := .int .i64 0) (T := 3) (w1 := ((((w.alloc (.cells (arr8 key).toArray 41)).alloc (.cells #[.int .i64 (n : Int)] 3)).alloc (.cells #[.int .u8 0, .int .u8 0, .int .u8 0, .int .u8 0, .int .u8 0, .int .u8 0, .int .u8 0, .int .u8 0] 41)).alloc (.cells #[.int .i64 0] 3))) (Below.refl _ _)
  have c3' := frozen_made (w := (((w.alloc (.cells (arr8 key).toArray 41)).alloc (.cells #[.int .i64 (n : Int)] 3)).alloc (.cells #[.int .u8 0, .int .u8 0, .int .u8 0, .int .u8 0, .int .u8 0, .int .u8 0, .int .u8 0, .int .u8 0] 41))) (cs := #[.int .i64 0]) (T := 3) (w1 := ((((w.alloc (.cells (arr8 key).toArray 41)).alloc (.cells #[.int .i64 (n : Int)] 3)).alloc (.cells #[.int .u8 0, .int .u8 0, .int .u8 0, .int .u8 0, .int .u8 0, .int .u8 0, .int .u8 0, .int .u8 0] 41)).alloc (.cells #[.int .i64 0] 3))) (Below.refl _ _) 0
  have c0 := range8_made (w := w) (xs := key) (T := 41) b1
  have z4 : ((((w.alloc (.cells (arr8 key).toArray 41)).alloc (.cells #[.int .i64 (n : Int)] 3)).alloc (.cells #[.int .u8 0, .int .u8 0, .int .u8 0, .int .u8 0, .int .u8 0, .int .u8 0, .int .u8 0, .int .u8 0] 41)).alloc (.cells #[.int .i64 0] 3)).heap.size = w.heap.size + 4 := by simp
  have e1 : (w.alloc (.cells (arr8 key).toArray 41)).heap.size = w.heap.size + 1 := by simp
  have e2 : ((w.alloc (.cells (arr8 key).toArray 41)).alloc (.cells #[.int .i64 (n : Int)] 3)).heap.size = w.heap.size + 2 := by simp
  have e3 : (((w.alloc (.cells (arr8 key).toArray 41)).alloc (.cells #[.int .i64 (n : Int)] 3)).alloc (.cells #[.int .u8 0, .int .u8 0, .int .u8 0, .int .u8 0, .int .u8 0, .int .u8 0, .int .u8 0, .int .u8 0] 41)).heap.size = w.heap.size + 3 := by simp
  rw [e1] at c1
  rw [e2] at c2
  simp only [e2] at c2'
  rw [e3] at c3 c3'
  exact ⟨c0, c1, fun j v hj => by rw [Nat.zero_add]; exact c2' j v (by simpa [arr8] using hj), c2, c3, c3', by rw [z4]; omega, rfl⟩

set_option maxHeartbeats 1000000 in
set_option maxRecDepth 100000 in
theorem stream_any (w : World) (key : List Int) (n : Nat) (hk8 : key.length = 8) :
    Calls Try.prog 31 #[.agg (arr8 key).toArray, .int .i64 (n : Int)] w fun e w' => e = .returned (.func (.func 37) #[] #[.pointer (some ⟨w.heap.size + 3, 0, none⟩), .pointer (some ⟨w.heap.size, 0, none⟩), .pointer (some ⟨w.heap.size + 1, 0, none⟩), .pointer (some ⟨w.heap.size + 2, 0, none⟩)]) ∧ (∃ cur, Strm w' w.heap.size key n 0 cur) ∧ Below w.heap.size w w' := by
  have hmf : ∀ (fn : Fn) (first cap : Array Value) (w : World), (Instr.makeFunc fn first cap).run Try.prog w = .ok (.func fn first cap) w := fun _ _ _ _ => rfl
  go_enter Try.func31, Try.ntmps31
  go_wp2_with fail
  go_ret
  exact ⟨rfl, ⟨_, strm_made w key n hk8⟩, below_seq (below_alloc _ _) (below_seq (below_alloc _ _) (below_seq (below_alloc _ _) (below_alloc _ _)))⟩
end Go.Proofs.Ytnomplfnblmciaa
