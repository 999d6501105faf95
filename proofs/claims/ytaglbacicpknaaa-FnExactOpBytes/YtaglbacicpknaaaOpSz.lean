/- The laws' own functions over operations: their size. -/
import Derived.Test.YtaglbacicpknaaaOpToS
namespace Go.Proofs.Ytaglbacicpknaaa
open Go.RowKit
set_option linter.unusedVariables false

def SzOne (m l : Nat) (z : Int) : Prop := z = -1 ∨ ∃ q : Nat, z = (q : Int) ∧ q ≤ l ∧ m ≤ l
def SzAll (L : List Ov) (z : Int) : Prop := z = -1 ∨ ∃ q : Nat, z = (q : Int) ∧ q ≤ 1048576 ∧ L.length ≤ 1048576 ∧ ∀ x ∈ L, x.ds.length ≤ 1048576
theorem oplaw_cells {w w1 : World} {c0 c1 c2 c3 c4 c5 c6 c7 c8 c9 c10 c11 : Value} {T : TypeId} (h : Below (w.alloc (.cells #[c0, c1, c2, c3, c4, c5, c6, c7, c8, c9, c10, c11] T)).heap.size (w.alloc (.cells #[c0, c1, c2, c3, c4, c5, c6, c7, c8, c9, c10, c11] T)) w1) : w1.cell? ⟨w.heap.size, 10, none⟩ = some c10 ∧ w1.cell? ⟨w.heap.size, 11, none⟩ = some c11 :=
  ⟨cell_made h (k := 10) rfl, cell_made h (k := 11) rfl⟩

set_option maxHeartbeats 1000000 in
set_option maxRecDepth 100000 in
theorem szOp_any (a s t k o n u pt pa : Int) (da : Option Addr) (m dc : Nat) (ky tx : ByteArray) (l : Nat) (w : World) (hl : l ≤ 1048576) (hm : m ≤ maxLen) (hk : ky.size ≤ maxLen) (ht : tx.size ≤ maxLen) :
    Calls Try.prog 4 #[.agg #[.int .i64 a, .int .i64 s, .int .i64 t, .slice da m dc, .int .i64 k, .int .i64 o, .int .i64 n, .int .i64 u, .int .i64 pt, .int .i64 pa, .string ky, .string tx], .int .i64 (l : Int)] w fun e w' =>
      (∃ z : Int, e = .returned (.int .i64 z) ∧ SzOne m l z) ∧ Below w.heap.size w w' := by
  unfold maxLen at hm hk ht
  have hB := Below.refl (w.alloc (.cells #[.int .i64 a, .int .i64 s, .int .i64 t, .slice da m dc, .int .i64 k, .int .i64 o, .int .i64 n, .int .i64 u, .int .i64 pt, .int .i64 pa, .string ky, .string tx] 28)).heap.size (w.alloc (.cells #[.int .i64 a, .int .i64 s, .int .i64 t, .slice da m dc, .int .i64 k, .int .i64 o, .int .i64 n, .int .i64 u, .int .i64 pt, .int .i64 pa, .string ky, .string tx] 28))
  have hS := fun w => szVector_any da m dc l hl (by unfold maxLen; omega) w
  by_cases h1 : m ≤ l
  · rw [if_pos h1] at hS
    have hn1 : ¬ ((l - m : Nat) : Int) < 0 := by omega
    by_cases h2 : ky.size ≤ l - m
    · have g2 : ¬ ((l - m : Nat) : Int) - (ky.size : Int) < 0 := by omega
      by_cases h3 : tx.size ≤ l - m - ky.size
      · have g3 : ¬ ((l - m : Nat) : Int) - (ky.size : Int) - (tx.size : Int) < 0 := by omega
        go_enter Try.func4, Try.ntmps4
        go_wp2_with ((go_at_call 13; refine (hS _).mono ?_; rintro e w1 ⟨rfl, hb⟩; replace hB := below_seq hB hb; obtain ⟨c10, c11⟩ := oplaw_cells hB; clear hb))
        go_ret
        exact ⟨⟨_, rfl, .inr ⟨l - m - ky.size - tx.size, by omega, by omega, h1⟩⟩, below_seq (below_alloc _ _) hB⟩
      · have g3 : ((l - m : Nat) : Int) - (ky.size : Int) - (tx.size : Int) < 0 := by omega
        go_enter Try.func4, Try.ntmps4
        go_wp2_with ((go_at_call 13; refine (hS _).mono ?_; rintro e w1 ⟨rfl, hb⟩; replace hB := below_seq hB hb; obtain ⟨c10, c11⟩ := oplaw_cells hB; clear hb))
        go_ret
        exact ⟨⟨_, rfl, .inl rfl⟩, below_seq (below_alloc _ _) hB⟩
    · have g2 : ((l - m : Nat) : Int) - (ky.size : Int) < 0 := by omega
      go_enter Try.func4, Try.ntmps4
      go_wp2_with ((go_at_call 13; refine (hS _).mono ?_; rintro e w1 ⟨rfl, hb⟩; replace hB := below_seq hB hb; obtain ⟨c10, c11⟩ := oplaw_cells hB; clear hb))
      go_ret
      exact ⟨⟨_, rfl, .inl rfl⟩, below_seq (below_alloc _ _) hB⟩
  · rw [if_neg h1] at hS
    go_enter Try.func4, Try.ntmps4
    go_wp2_with ((go_at_call 13; refine (hS _).mono ?_; rintro e w1 ⟨rfl, hb⟩; replace hB := below_seq hB hb; obtain ⟨c10, c11⟩ := oplaw_cells hB; clear hb))
    go_ret
    exact ⟨⟨_, rfl, .inl rfl⟩, below_seq (below_alloc _ _) hB⟩

end Go.Proofs.Ytaglbacicpknaaa
