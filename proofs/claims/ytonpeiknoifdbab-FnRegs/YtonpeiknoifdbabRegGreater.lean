/- What the code's greater answers of two registers. -/
import Derived.Test.YtonpeiknoifdbabRegOKs
import Derived.Test.YtonpeiknoifdbabTrBase
import Derived.Deep.RegionHeld2
namespace Go.Proofs.Ytonpeiknoifdbab
open Go.RowKit
set_option linter.unusedVariables false

theorem six_cells {w w1 : World} {x y z p q r : Value} {T : TypeId} (h : Below ((w.alloc (.cells #[x, y, z] T)).alloc (.cells #[p, q, r] T)).heap.size ((w.alloc (.cells #[x, y, z] T)).alloc (.cells #[p, q, r] T)) w1) :
    w1.cell? ⟨w.heap.size, 0, none⟩ = some x ∧ w1.cell? ⟨w.heap.size, 1, none⟩ = some y ∧ w1.cell? ⟨w.heap.size, 2, none⟩ = some z ∧ w1.cell? ⟨w.heap.size + 1, 0, none⟩ = some p ∧ w1.cell? ⟨w.heap.size + 1, 1, none⟩ = some q ∧ w1.cell? ⟨w.heap.size + 1, 2, none⟩ = some r := by
  have h0 := three_cells (below_seq (below_alloc _ _) h)
  have h1 := three_cells h
  rw [World.size_alloc] at h1
  exact ⟨h0.1, h0.2.1, h0.2.2, h1.1, h1.2.1, h1.2.2⟩

theorem last_two (w : World) (x y : Value) (T : TypeId) : (w.alloc (.cells #[x, y] T)).cell? ⟨w.heap.size, 0, none⟩ = some x ∧ (w.alloc (.cells #[x, y] T)).cell? ⟨w.heap.size, 1, none⟩ = some y :=
  ⟨cell_made (Below.refl _ _) (k := 0) rfl, cell_made (Below.refl _ _) (k := 1) rfl⟩

theorem nine_cells {w w1 : World} {x y z p q r l m n : Value} {T : TypeId} (h : Below (((w.alloc (.cells #[x, y, z] T)).alloc (.cells #[p, q, r] T)).alloc (.cells #[l, m, n] T)).heap.size (((w.alloc (.cells #[x, y, z] T)).alloc (.cells #[p, q, r] T)).alloc (.cells #[l, m, n] T)) w1) :
    (w1.cell? ⟨w.heap.size, 0, none⟩ = some x ∧ w1.cell? ⟨w.heap.size, 1, none⟩ = some y ∧ w1.cell? ⟨w.heap.size, 2, none⟩ = some z ∧ w1.cell? ⟨w.heap.size + 1, 0, none⟩ = some p ∧ w1.cell? ⟨w.heap.size + 1, 1, none⟩ = some q ∧ w1.cell? ⟨w.heap.size + 1, 2, none⟩ = some r) ∧
    (w1.cell? ⟨w.heap.size + 1 + 1, 0, none⟩ = some l ∧ w1.cell? ⟨w.heap.size + 1 + 1, 1, none⟩ = some m ∧ w1.cell? ⟨w.heap.size + 1 + 1, 2, none⟩ = some n) ∧ ∀ k, w1.frozen? ⟨w.heap.size + 1 + 1, k, none⟩ = false := by
  have h1 := three_cells h
  have f1 := frozen_made h
  rw [World.size_alloc, World.size_alloc] at h1 f1
  exact ⟨six_cells (below_seq (below_alloc _ _) h), h1, f1⟩

/-- Whether the first of two registers stays behind the second. -/
def lessR (t a : Int) (s : ByteArray) (t' a' : Int) (s' : ByteArray) : Bool := decide (orI (cmpS t a t' a') (cmpT s s') < 0)

set_option maxHeartbeats 4000000 in
set_option maxRecDepth 100000 in
theorem greater_any (t a : Int) (s : ByteArray) (t' a' : Int) (s' : ByteArray) (w : World) :
    Calls Try.prog 33 #[.agg #[.int .i64 t, .int .i64 a, .string s], .agg #[.int .i64 t', .int .i64 a', .string s']] w fun e w' =>
      e = .returned (if lessR t a s t' a' s' = true then .agg #[.int .i64 t', .int .i64 a', .string s'] else .agg #[.int .i64 t, .int .i64 a, .string s]) ∧ Below w.heap.size w w' := by
  have hB := Below.refl (((w.alloc (.cells #[.int .i64 t, .int .i64 a, .string s] 26)).alloc (.cells #[.int .i64 t', .int .i64 a', .string s'] 26)).alloc (.cells #[.int .i64 0, .int .i64 0, .string ⟨#[]⟩] 26)).heap.size (((w.alloc (.cells #[.int .i64 t, .int .i64 a, .string s] 26)).alloc (.cells #[.int .i64 t', .int .i64 a', .string s'] 26)).alloc (.cells #[.int .i64 0, .int .i64 0, .string ⟨#[]⟩] 26))
  replace hB := hB.drew
  have hQ := fun w g h0 h1 => or_two (cmpS t a t' a') (cmpT s s') w g h0 h1
  unfold lessR
  generalize orI (cmpS t a t' a') (cmpT s s') = r at hQ
  obtain ⟨b, hb, HL⟩ : ∃ b : Bool, decide (r < 0) = b ∧ Hid (decide (r < 0) = b) := ⟨_, rfl, rfl⟩
  rw [hb]
  clear hb
  cases b
  all_goals
    go_enter Try.func33, Try.ntmps33
    go_wp2_with fail
    go_region_held2 (fun w' => w'.cell? ⟨w.heap.size, 0, none⟩ = some (.int .i64 t) ∧ w'.cell? ⟨w.heap.size, 1, none⟩ = some (.int .i64 a) ∧ w'.cell? ⟨w.heap.size, 2, none⟩ = some (.string s) ∧ w'.cell? ⟨w.heap.size + 1, 0, none⟩ = some (.int .i64 t') ∧ w'.cell? ⟨w.heap.size + 1, 1, none⟩ = some (.int .i64 a') ∧ w'.cell? ⟨w.heap.size + 1, 2, none⟩ = some (.string s')) (first | exact (nine_cells hB).1 | exact (nine_cells (below_then hB _)).1) (first | (go_at_call 92; refine (regStamp_any _ _ _ _).mono ?_; rintro e w1 ⟨rfl, hb⟩; replace hB := below_seq hB hb; clear hb) | (go_at_call 47; refine (order_any _ _ _ _ _).mono ?_; rintro e w1 ⟨rfl, hb⟩; replace hB := below_seq hB hb; clear hb) | (go_at_call 93; refine (regText_any _ _ _ _).mono ?_; rintro e w1 ⟨rfl, hb⟩; replace hB := below_seq hB hb; clear hb) | (go_at_call 63; refine (cmpText_any _ _ _).mono ?_; rintro e w1 ⟨rfl, rfl⟩) | (go_at_call 62; refine (hQ _ _ (last_two _ _ _ _).1 (last_two _ _ _ _).2).mono ?_; rintro e w2 ⟨rfl, hw⟩; obtain rfl := hw.symm; clear hw; replace hB := below_then hB (.cells #[.int .i64 (cmpS t a t' a'), .int .i64 (cmpT s s')] 3)))
    obtain ⟨⟨c0, c1, c2, d0, d1, d2⟩, ⟨e0, e1, e2⟩, hf⟩ := nine_cells hB
    have HT : Hid (Tr _ _ _ _ _) := ⟨⟨e0, e1, e2⟩, hf⟩
    have f0 := hf 0
    have f1 := hf 1
    have f2 := hf 2
    have hl := HL.out
    go_wp2_with fail
    first
    | (have hp := (HT.out.put (.int .i64 t') (.int .i64 a') (.string s')).1
       refine bodyPost_ret (v := .agg #[.int .i64 t', .int .i64 a', .string s']) ?_ rfl ⟨rfl, below_put (below_seq (below_then (below_then (below_alloc _ _) _) _) hB) (by omega) _ _ _⟩
       simp [results, Try.results33, go_sem, hp.1, hp.2.1, hp.2.2])
    | (have hp := (HT.out.put (.int .i64 t) (.int .i64 a) (.string s)).1
       refine bodyPost_ret (v := .agg #[.int .i64 t, .int .i64 a, .string s]) ?_ rfl ⟨rfl, below_put (below_seq (below_then (below_then (below_alloc _ _) _) _) hB) (by omega) _ _ _⟩
       simp [results, Try.results33, go_sem, hp.1, hp.2.1, hp.2.2])

end Go.Proofs.Ytonpeiknoifdbab
