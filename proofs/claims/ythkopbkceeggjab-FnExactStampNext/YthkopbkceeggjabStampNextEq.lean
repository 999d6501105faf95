/- The law's own functions over lists of stamps: their size, and that two alike are alike. -/
import Derived.Test.YthkopbkceeggjabStampNextMax
namespace Go.Proofs.Ythkopbkceeggjab
open Go.RowKit
set_option linter.unusedVariables false

set_option maxHeartbeats 400000 in
theorem eqStamp_same (t a : Int) (w : World) :
    Calls Try.prog 16 #[.agg #[.int .i64 t, .int .i64 a], .agg #[.int .i64 t, .int .i64 a]] w fun e w' => e = .returned (.bool true) ∧ Below w.heap.size w w' := by
  go_enter Try.func16, Try.ntmps16
  go_wp2_with fail
  go_ret
  exact ⟨rfl, below_then (below_alloc _ _) _⟩

set_option maxHeartbeats 2000000 in
set_option maxRecDepth 100000 in
theorem eqStampS_same (w : World) (g g' : Nat) (ls : List (Int × Int)) (hg : g < w.heap.size) (hg' : g' < w.heap.size) (hS : SlS w g ls) (hS' : SlS w g' ls) (hn : ls.length < 9223372036854775807) :
    Calls Try.prog 17 #[.slice (some ⟨g, 0, none⟩) ls.length ls.length, .slice (some ⟨g', 0, none⟩) ls.length ls.length] w fun e w' => e = .returned (.bool true) ∧ Below w.heap.size w w' := by
  go_enter Try.func17, Try.ntmps17
  go_wp2_with fail
  go_loopw [5] (fun ti wr => ∃ k : Nat, k ≤ ls.length ∧ ti = .int .i64 (k : Int) ∧ Below w.heap.size w wr) (fun ti _ => ls.length - (intOf ti).toNat)
  case atStart => exact ⟨0, Nat.zero_le _, rfl, Below.refl _ _⟩
  case round =>
    obtain ⟨k, hk, rfl, hB⟩ := hrel
    by_cases hlt : k < ls.length
    · have d0 := hB.cell (p := ⟨g, k * 2, none⟩) hg
      have d1 := hB.cell (p := ⟨g, k * 2 + 1, none⟩) hg
      have b0 := hB.cell (p := ⟨g', k * 2, none⟩) hg'
      have b1 := hB.cell (p := ⟨g', k * 2 + 1, none⟩) hg'
      rw [(hS k hlt).1] at d0
      rw [(hS k hlt).2] at d1
      rw [(hS' k hlt).1] at b0
      rw [(hS' k hlt).2] at b1
      have j0 : (0 : Int) ≤ (k : Int) := by omega
      have j1 : (k : Int) < (ls.length : Int) := by omega
      have j2 : (k : Int) + 1 < 9223372036854775808 := by omega
      generalize (ls.getD k (0, 0)).1 = t at d0 b0
      generalize (ls.getD k (0, 0)).2 = a at d1 b1
      go_wp2_with fail
      go_region_held2 (fun w' => w'.cell? ⟨g, k * 2, none⟩ = some (.int .i64 t) ∧ w'.cell? ⟨g, k * 2 + 1, none⟩ = some (.int .i64 a) ∧ w'.cell? ⟨g', k * 2, none⟩ = some (.int .i64 t) ∧ w'.cell? ⟨g', k * 2 + 1, none⟩ = some (.int .i64 a)) (exact ⟨d0, d1, b0, b1⟩) ((go_at_call 16; refine (eqStamp_same t a _).mono ?_; rintro e w' ⟨rfl, hb⟩; replace d0 := cell_on hb d0; replace d1 := cell_on hb d1; replace b0 := cell_on hb b0; replace b1 := cell_on hb b1; replace hB := below_seq hB.drew hb; clear hb))
      go_wp2_with fail
      go_roundw
      case rel => exact ⟨k + 1, by omega, by go_num, hB⟩
      case measure => simp [intOf]; omega
    · obtain rfl : k = ls.length := by omega
      go_wp2_with fail
      go_ret
      exact ⟨rfl, hB⟩

end Go.Proofs.Ythkopbkceeggjab
