/- Drawn stamps: what the source's size and the draws of StampLess answer; a list of stamps as a row that the call owns. -/
import Derived.Test.YtonpeiknoifdbabSrcOdd
import Derived.Test.YtonpeiknoifdbabSrcMore
import Derived.Test.YtonpeiknoifdbabStampNextMax
import Derived.Laws.OwnMore
namespace Go.Proofs.Ytonpeiknoifdbab
open Go.RowKit
set_option linter.unusedVariables false

/-- The cells of a list of stamps. -/
def flS (ls : List (Int × Int)) : List Value := ls.flatMap fun s => [.int .i64 s.1, .int .i64 s.2]
theorem flS_len (ls : List (Int × Int)) : (flS ls).length = ls.length * 2 := by
  induction ls with
  | nil => rfl
  | cons s ls ih =>
    have : flS (s :: ls) = .int .i64 s.1 :: .int .i64 s.2 :: flS ls := rfl
    rw [this, List.length_cons, List.length_cons, List.length_cons, ih]
    omega
theorem flS_add (ls : List (Int × Int)) (t a : Int) : flS ls ++ [.int .i64 t, .int .i64 a] = flS (ls ++ [(t, a)]) := by simp [flS]
theorem flS_get (ls : List (Int × Int)) : ∀ k, k < ls.length → (flS ls)[k * 2]? = some (.int .i64 (ls.getD k (0, 0)).1) ∧ (flS ls)[k * 2 + 1]? = some (.int .i64 (ls.getD k (0, 0)).2) := by
  induction ls with
  | nil => intro k hk; exact absurd hk (Nat.not_lt_zero _)
  | cons s ls ih =>
    intro k hk
    have e : flS (s :: ls) = .int .i64 s.1 :: .int .i64 s.2 :: flS ls := rfl
    rw [e]
    cases k with
    | zero => exact ⟨rfl, rfl⟩
    | succ k =>
      have h := ih k (by simpa using hk)
      have e1 : (k + 1) * 2 = k * 2 + 1 + 1 := by omega
      rw [e1]
      simpa using h
/-- A row of stamps that the call owns. -/
def OwS (w : World) (B : Nat) (v : Value) (ls : List (Int × Int)) : Prop := w.ownsRow B 24 2 v ls.length (flS ls) ∧ v ≠ .slice none 0 0
theorem OwS.out {w : World} {B : Nat} {v : Value} {ls : List (Int × Int)} (h : OwS w B v ls) : ∃ g cap, v = .slice (some ⟨g, 0, none⟩) ls.length cap ∧ B ≤ g ∧ g < w.heap.size ∧ SlS w g ls := by
  obtain ⟨h, hn⟩ := h
  have hl := h.lt
  have h0 := h
  rcases h.2 with ⟨e, _⟩ | ⟨g, cap, cur, rfl, hb, hg, _⟩
  · exact absurd e hn
  · refine ⟨g, cap, rfl, hb, (hl g rfl).2, fun k hk => ?_⟩
    have := flS_get ls k hk
    rw [h0.cellAt (k * 2) (by omega), h0.cellAt (k * 2 + 1) (by omega)]
    exact this
theorem OwS.apart {w w' : World} {B : Nat} {v : Value} {ls : List (Int × Int)} {b : Nat} (h : OwS w B v ls) (hg : w.grownBy w' (some b)) (hb : b < B) : OwS w' B v ls := by
  refine ⟨h.1.kept hg ?_, h.2⟩
  obtain ⟨g, cap, rfl, h1, _⟩ := h.out
  refine .inr fun e => ?_
  have : g = b := by simpa [Value.ownBlock] using e
  omega
theorem below_seq' {b : Nat} {w0 w : World} (h : Below b w0 w) (hb : b < w.heap.size) (Z : Obj) : Below b w0 (w.alloc Z) := h.alloc (by omega) Z
theorem Src.apart {C : Nat} {w w' : World} {b A g : Nat} (h : Src C w b A) (hg : w.grownBy w' (some g)) (hn : b < g) : Src C w' b A := by
  have hlt := h.lt
  obtain ⟨v, xs, p, q, h1, h2, h3, h4⟩ := h
  refine ⟨v, xs, p, q, ?_, h2, h3.grown hg (fun k hk => by cases hk; omega), h4⟩
  unfold Sr at h1 ⊢
  rw [hg.block b hlt (fun e => by cases e; omega)]
  exact h1

set_option maxHeartbeats 2000000 in
set_option maxRecDepth 100000 in
theorem drawStampLess_any (C : Nat) (w : World) (v : Value) (xs : List Int) (hC : C ≤ w.heap.size) (hr : Rd C w v (xs.map (Value.int .u8))) (hX : ∀ x ∈ xs, 0 ≤ x ∧ x ≤ 255) (hl : xs.length ≤ 1048576) :
    Calls Try.prog 18 #[v] w fun e w' => ∃ t a t' a' : Int, e = .returned (.tuple #[.agg #[.int .i64 t, .int .i64 a], .agg #[.int .i64 t', .int .i64 a']]) ∧ Below w.heap.size w w' := by
  have hB0 : Below w.heap.size w ((w.alloc (.cells #[.int .i64 0, .int .i64 0] 24)).alloc (.cells #[.int .i64 0, .int .i64 0] 24)) := below_then (below_alloc _ _) _
  have hr2 := Rd.below hr (hB0.mono hC)
  obtain ⟨ao, la, ca, rfl⟩ : ∃ ao len cap, v = .slice ao len cap := by
    obtain ⟨ao, cap, rfl, _⟩ := hr
    exact ⟨_, _, _, rfl⟩
  have k1 : ((w.alloc (.cells #[.int .i64 0, .int .i64 0] 24)).alloc (.cells #[.int .i64 0, .int .i64 0] 24)).heap[w.heap.size]? = some (.cells #[.int .i64 0, .int .i64 0] 24 (0, 0)) := blk_al (heap_alloc_new w _) _
  have k2 : ((w.alloc (.cells #[.int .i64 0, .int .i64 0] 24)).alloc (.cells #[.int .i64 0, .int .i64 0] 24)).heap[w.heap.size + 1]? = some (.cells #[.int .i64 0, .int .i64 0] 24 (0, 0)) := by
    have := heap_alloc_new (w.alloc (.cells #[.int .i64 0, .int .i64 0] 24)) (.cells #[.int .i64 0, .int .i64 0] 24)
    rw [World.size_alloc] at this
    exact this
  go_enter Try.func18, Try.ntmps18
  go_wp2_with fail
  refine (source_any C _ _ xs (Nat.le_trans hC hB0.size) hr2 hX hl).mono ?_
  rintro e w1 ⟨rfl, hS, hb1⟩
  have hB1 := below_seq hB0 hb1
  replace k1 := (hb1.block w.heap.size (by simp only [World.size_alloc]; omega)).trans k1
  replace k2 := (hb1.block (w.heap.size + 1) (by simp only [World.size_alloc]; omega)).trans k2
  clear hr hr2 hb1
  simp only [World.size_alloc] at hS
  go_wp2_with fail
  refine (oddStamp_any C _ 0 _ hS (by omega)).mono ?_
  rintro e w2 ⟨t, a, rfl, hS2, hG2⟩
  have hB2 := gr_below hB1 hG2 (by omega) hB1.size
  replace k1 := blk_on k1 hG2 (by omega)
  replace k2 := blk_on k2 hG2 (by omega)
  go_wp2_with fail
  refine (oddStamp_any C _ _ _ hS2 (by omega)).mono ?_
  rintro e w3 ⟨t', a', rfl, hS3, hG3⟩
  have hB3 := gr_below hB2 hG3 (by omega) hB2.size
  replace k1 := blk_on k1 hG3 (by omega)
  replace k2 := blk_on k2 hG3 (by omega)
  have HT : StAt w3 w.heap.size 0 0 := ⟨cell_blk k1 0 rfl, cell_blk k1 1 rfl, free_blk k1 0, free_blk k1 1⟩
  have HU : StAt w3 (w.heap.size + 1) 0 0 := ⟨cell_blk k2 0 rfl, cell_blk k2 1 rfl, free_blk k2 0, free_blk k2 1⟩
  have p1 := HT.put t a
  have q1 := HU.aside (m := w.heap.size) (by omega) (.int .i64 t) (.int .i64 a)
  have p2 := q1.put t' a'
  have p3 := p1.aside (m := w.heap.size + 1) (by omega) (.int .i64 t') (.int .i64 a')
  obtain ⟨c0, c1, f0, f1⟩ := HT
  obtain ⟨d0, d1, g0, g1⟩ := HU
  have hB : Below w.heap.size w _ := (((hB3.setCell (p := ⟨w.heap.size, 0, none⟩) (Nat.le_refl _) (.int .i64 t)).setCell (p := ⟨w.heap.size, 1, none⟩) (Nat.le_refl _) (.int .i64 a)).setCell (p := ⟨w.heap.size + 1, 0, none⟩) (Nat.le_succ _) (.int .i64 t')).setCell (p := ⟨w.heap.size + 1, 1, none⟩) (Nat.le_succ _) (.int .i64 a')
  clear hS hS2 hG2 hS3 hG3 hB1 hB2 hB3
  go_wp2_with fail
  refine bodyPost_ret (v := .tuple #[.agg #[.int .i64 t, .int .i64 a], .agg #[.int .i64 t', .int .i64 a']]) ?_ rfl ⟨_, _, _, _, rfl, hB⟩
  simp [results, Try.results18, go_sem, p2.1, p2.2.1, p3.1, p3.2.1]

end Go.Proofs.Ytonpeiknoifdbab
