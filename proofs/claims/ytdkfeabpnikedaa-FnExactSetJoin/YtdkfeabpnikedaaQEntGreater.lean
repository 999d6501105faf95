/- What the code's greater answers of two entries. -/
import Derived.Test.YtdkfeabpnikedaaQRegOKsToRegGreater
import Derived.Test.YtdkfeabpnikedaaQEntOKs
namespace Go.Proofs.Ytdkfeabpnikedaa
open Go.RowKit
set_option linter.unusedVariables false

set_option maxHeartbeats 4000000 in
set_option maxRecDepth 100000 in
theorem greaterE_any (t a : Int) (s : ByteArray) (t' a' : Int) (s' : ByteArray) (w : World) :
    Calls Try.prog 84 #[.agg #[.int .i64 t, .int .i64 a, .string s], .agg #[.int .i64 t', .int .i64 a', .string s']] w fun e w' =>
      e = .returned (if lessR t a s t' a' s' = true then .agg #[.int .i64 t', .int .i64 a', .string s'] else .agg #[.int .i64 t, .int .i64 a, .string s]) ∧ Below w.heap.size w w' := by
  have hB := Below.refl (((w.alloc (.cells #[.int .i64 t, .int .i64 a, .string s] 60)).alloc (.cells #[.int .i64 t', .int .i64 a', .string s'] 60)).alloc (.cells #[.int .i64 0, .int .i64 0, .string ⟨#[]⟩] 60)).heap.size (((w.alloc (.cells #[.int .i64 t, .int .i64 a, .string s] 60)).alloc (.cells #[.int .i64 t', .int .i64 a', .string s'] 60)).alloc (.cells #[.int .i64 0, .int .i64 0, .string ⟨#[]⟩] 60))
  replace hB := hB.drew
  have hQ := fun w g h0 h1 => or_two (cmpS t a t' a') (cmpT s s') w g h0 h1
  unfold lessR
  generalize orI (cmpS t a t' a') (cmpT s s') = r at hQ
  obtain ⟨b, hb, HL⟩ : ∃ b : Bool, decide (r < 0) = b ∧ Hid (decide (r < 0) = b) := ⟨_, rfl, rfl⟩
  rw [hb]
  clear hb
  cases b
  all_goals
    go_enter Try.func84, Try.ntmps84
    go_wp2_with fail
    go_region_held2 (fun w' => w'.cell? ⟨w.heap.size, 0, none⟩ = some (.int .i64 t) ∧ w'.cell? ⟨w.heap.size, 1, none⟩ = some (.int .i64 a) ∧ w'.cell? ⟨w.heap.size, 2, none⟩ = some (.string s) ∧ w'.cell? ⟨w.heap.size + 1, 0, none⟩ = some (.int .i64 t') ∧ w'.cell? ⟨w.heap.size + 1, 1, none⟩ = some (.int .i64 a') ∧ w'.cell? ⟨w.heap.size + 1, 2, none⟩ = some (.string s')) (first | exact (nine_cells hB).1 | exact (nine_cells (below_then hB _)).1) (first | (go_at_call 130; refine (entStamp_any _ _ _ _).mono ?_; rintro e w1 ⟨rfl, hb⟩; replace hB := below_seq hB hb; clear hb) | (go_at_call 81; refine (order_any _ _ _ _ _).mono ?_; rintro e w1 ⟨rfl, hb⟩; replace hB := below_seq hB hb; clear hb) | (go_at_call 131; refine (entText_any _ _ _ _).mono ?_; rintro e w1 ⟨rfl, hb⟩; replace hB := below_seq hB hb; clear hb) | (go_at_call 92; refine (cmpText_any _ _ _).mono ?_; rintro e w1 ⟨rfl, rfl⟩) | (go_at_call 90; refine (hQ _ _ (last_two _ _ _ _).1 (last_two _ _ _ _).2).mono ?_; rintro e w2 ⟨rfl, hw⟩; obtain rfl := hw.symm; clear hw; replace hB := below_then hB (.cells #[.int .i64 (cmpS t a t' a'), .int .i64 (cmpT s s')] 3)))
    obtain ⟨⟨c0, c1, c2, d0, d1, d2⟩, ⟨e0, e1, e2⟩, hf⟩ := nine_cells hB
    have HT : Hid (Tr _ _ _ _ _) := ⟨⟨e0, e1, e2⟩, hf⟩
    have f0 := hf 0
    have f1 := hf 1
    have f2 := hf 2
    have hl := HL.out
    go_wp2_with fail
    first
    | (have hp := (HT.out.put (.int .i64 t') (.int .i64 a') (.string s')).1
       refine bodyPost_ret (v := .agg #[.int .i64 t', .int .i64 a', .string s']) ?_ rfl ⟨rfl, below_put (below_seq (below_then (below_then (below_alloc _ _) _) _) hB) (by omega) _ _ _⟩
       simp [results, Try.results84, go_sem, hp.1, hp.2.1, hp.2.2])
    | (have hp := (HT.out.put (.int .i64 t) (.int .i64 a) (.string s)).1
       refine bodyPost_ret (v := .agg #[.int .i64 t, .int .i64 a, .string s]) ?_ rfl ⟨rfl, below_put (below_seq (below_then (below_then (below_alloc _ _) _) _) hB) (by omega) _ _ _⟩
       simp [results, Try.results84, go_sem, hp.1, hp.2.1, hp.2.2])

end Go.Proofs.Ytdkfeabpnikedaa
