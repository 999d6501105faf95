/- The laws' own functions over operations: that two alike are alike, and their size. -/
import Derived.Test.YtaglbacicpknaaaOpToS
import Derived.Test.YtaglbacicpknaaaStampNextEq
import Derived.Test.YtaglbacicpknaaaTextsCells
import Derived.Deep.RegionHeld2
namespace Go.Proofs.Ytaglbacicpknaaa
open Go.RowKit
set_option linter.unusedVariables false

set_option maxHeartbeats 2000000 in
set_option maxRecDepth 100000 in
theorem eqOp_same (C C' : Nat) (a s t k o n u pt pa : Int) (da db : Value) (ky tx : ByteArray) (ds : List Int) (w : World) (hl : ds.length ≤ 1048576) (hC : C ≤ w.heap.size) (hC' : C' ≤ w.heap.size) (ha : Rd C w da (ds.map (Value.int .i64))) (hb : Rd C' w db (ds.map (Value.int .i64))) :
    Calls Try.prog 9 #[.agg #[.int .i64 a, .int .i64 s, .int .i64 t, da, .int .i64 k, .int .i64 o, .int .i64 n, .int .i64 u, .int .i64 pt, .int .i64 pa, .string ky, .string tx], .agg #[.int .i64 a, .int .i64 s, .int .i64 t, db, .int .i64 k, .int .i64 o, .int .i64 n, .int .i64 u, .int .i64 pt, .int .i64 pa, .string ky, .string tx]] w fun e w' => e = .returned (.bool true) ∧ Below w.heap.size w w' := by
  have hB := Below.refl ((w.alloc (.cells #[.int .i64 a, .int .i64 s, .int .i64 t, da, .int .i64 k, .int .i64 o, .int .i64 n, .int .i64 u, .int .i64 pt, .int .i64 pa, .string ky, .string tx] 36)).alloc (.cells #[.int .i64 a, .int .i64 s, .int .i64 t, db, .int .i64 k, .int .i64 o, .int .i64 n, .int .i64 u, .int .i64 pt, .int .i64 pa, .string ky, .string tx] 36)).heap.size ((w.alloc (.cells #[.int .i64 a, .int .i64 s, .int .i64 t, da, .int .i64 k, .int .i64 o, .int .i64 n, .int .i64 u, .int .i64 pt, .int .i64 pa, .string ky, .string tx] 36)).alloc (.cells #[.int .i64 a, .int .i64 s, .int .i64 t, db, .int .i64 k, .int .i64 o, .int .i64 n, .int .i64 u, .int .i64 pt, .int .i64 pa, .string ky, .string tx] 36))
  have hE : ∀ w1, Below ((w.alloc (.cells #[.int .i64 a, .int .i64 s, .int .i64 t, da, .int .i64 k, .int .i64 o, .int .i64 n, .int .i64 u, .int .i64 pt, .int .i64 pa, .string ky, .string tx] 36)).alloc (.cells #[.int .i64 a, .int .i64 s, .int .i64 t, db, .int .i64 k, .int .i64 o, .int .i64 n, .int .i64 u, .int .i64 pt, .int .i64 pa, .string ky, .string tx] 36)).heap.size ((w.alloc (.cells #[.int .i64 a, .int .i64 s, .int .i64 t, da, .int .i64 k, .int .i64 o, .int .i64 n, .int .i64 u, .int .i64 pt, .int .i64 pa, .string ky, .string tx] 36)).alloc (.cells #[.int .i64 a, .int .i64 s, .int .i64 t, db, .int .i64 k, .int .i64 o, .int .i64 n, .int .i64 u, .int .i64 pt, .int .i64 pa, .string ky, .string tx] 36)) w1 → Calls Try.prog 20 #[.agg #[da], .agg #[db]] w1 fun e w' => e = .returned (.bool true) ∧ Below w1.heap.size w1 w' := fun w1 h => by
    have h1 : Below w.heap.size w w1 := below_seq (below_then (below_alloc _ _) _) h
    have := h1.size
    exact eqVector_same C C' w1 da db ds (by omega) (by omega) (by omega) (ha.below (h1.mono hC)) (hb.below (h1.mono hC'))
  obtain ⟨p0, p1, p2, p3, p4, p5, p6, p7, p8, p9, p10, p11⟩ := op_cells (below_seq (below_alloc (w.alloc (.cells #[.int .i64 a, .int .i64 s, .int .i64 t, da, .int .i64 k, .int .i64 o, .int .i64 n, .int .i64 u, .int .i64 pt, .int .i64 pa, .string ky, .string tx] 36)) (.cells #[.int .i64 a, .int .i64 s, .int .i64 t, db, .int .i64 k, .int .i64 o, .int .i64 n, .int .i64 u, .int .i64 pt, .int .i64 pa, .string ky, .string tx] 36)) hB); obtain ⟨q0, q1, q2, q3, q4, q5, q6, q7, q8, q9, q10, q11⟩ := op_cells hB; rw [World.size_alloc] at q0 q1 q2 q3 q4 q5 q6 q7 q8 q9 q10 q11
  clear ha hb
  go_enter Try.func9, Try.ntmps9
  go_wp2_with (first | (go_at_call 20; refine (hE _ hB).mono ?_; clear hE p0 p1 p2 p3 p4 p5 p6 p7 p8 p9 p10 p11 q0 q1 q2 q3 q4 q5 q6 q7 q8 q9 q10 q11; rintro e w8 ⟨rfl, hb8⟩; replace hB := below_seq hB hb8; obtain ⟨p0, p1, p2, p3, p4, p5, p6, p7, p8, p9, p10, p11⟩ := op_cells (below_seq (below_alloc (w.alloc (.cells #[.int .i64 a, .int .i64 s, .int .i64 t, da, .int .i64 k, .int .i64 o, .int .i64 n, .int .i64 u, .int .i64 pt, .int .i64 pa, .string ky, .string tx] 36)) (.cells #[.int .i64 a, .int .i64 s, .int .i64 t, db, .int .i64 k, .int .i64 o, .int .i64 n, .int .i64 u, .int .i64 pt, .int .i64 pa, .string ky, .string tx] 36)) hB); obtain ⟨q0, q1, q2, q3, q4, q5, q6, q7, q8, q9, q10, q11⟩ := op_cells hB; rw [World.size_alloc] at q0 q1 q2 q3 q4 q5 q6 q7 q8 q9 q10 q11; clear hb8) | (go_at_call 21; refine (eqStamp_same pt pa _).mono ?_; clear p0 p1 p2 p3 p4 p5 p6 p7 p8 p9 p10 p11 q0 q1 q2 q3 q4 q5 q6 q7 q8 q9 q10 q11; rintro e w9 ⟨rfl, hb9⟩; replace hB := below_seq hB hb9; obtain ⟨p0, p1, p2, p3, p4, p5, p6, p7, p8, p9, p10, p11⟩ := op_cells (below_seq (below_alloc (w.alloc (.cells #[.int .i64 a, .int .i64 s, .int .i64 t, da, .int .i64 k, .int .i64 o, .int .i64 n, .int .i64 u, .int .i64 pt, .int .i64 pa, .string ky, .string tx] 36)) (.cells #[.int .i64 a, .int .i64 s, .int .i64 t, db, .int .i64 k, .int .i64 o, .int .i64 n, .int .i64 u, .int .i64 pt, .int .i64 pa, .string ky, .string tx] 36)) hB); obtain ⟨q0, q1, q2, q3, q4, q5, q6, q7, q8, q9, q10, q11⟩ := op_cells hB; rw [World.size_alloc] at q0 q1 q2 q3 q4 q5 q6 q7 q8 q9 q10 q11; clear hb9))
  go_ret
  exact ⟨rfl, below_seq (below_then (below_alloc _ _) _) hB⟩

end Go.Proofs.Ytaglbacicpknaaa
