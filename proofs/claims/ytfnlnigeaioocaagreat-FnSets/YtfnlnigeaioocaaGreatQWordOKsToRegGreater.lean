/- What isWord answers; three cells that were made. Registers: what regOK, stampedOK and the specification's l03RegOK answer. What the code's greater answers of two registers. -/
import Derived.Handy
import Derived.Deep.RegionHeld2
import Derived.Test.YtfnlnigeaioocaaGreatQInfoToTrBase
import Derived.Test.YtfnlnigeaioocaaGreatQStampLessWalkToStampNextEq
namespace Go.Proofs.YtfnlnigeaioocaaGreat
open Go.RowKit
set_option linter.unusedVariables false

set_option maxHeartbeats 400000 in
theorem isWord_any (s : ByteArray) (w : World) :
    Calls Tryz.prog 15 #[.string s] w fun e w' => e = .returned (.bool (decide (s.size ≤ 200))) ∧ w' = w := by
  go_enter Tryz.func15, Tryz.ntmps15
  go_wp2_with fail
  go_ret
  exact ⟨by simp; omega, rfl⟩

theorem three_cells {w w1 : World} {x y z : Value} {T : TypeId} (h : Below (w.alloc (.cells #[x, y, z] T)).heap.size (w.alloc (.cells #[x, y, z] T)) w1) :
    w1.cell? ⟨w.heap.size, 0, none⟩ = some x ∧ w1.cell? ⟨w.heap.size, 1, none⟩ = some y ∧ w1.cell? ⟨w.heap.size, 2, none⟩ = some z :=
  ⟨cell_made h (k := 0) rfl, cell_made h (k := 1) rfl, cell_made h (k := 2) rfl⟩

end Go.Proofs.YtfnlnigeaioocaaGreat

namespace Go.Proofs.YtfnlnigeaioocaaGreat
open Go.RowKit
set_option linter.unusedVariables false

/-- A register is valid. -/
def rgOK (t a : Int) (s : ByteArray) : Bool := if t = 0 ∧ a = 0 then decide (s.toList = []) else stOK t a && decide (s.size ≤ 200)

set_option maxHeartbeats 1000000 in
set_option maxRecDepth 100000 in
theorem isNaNText_any (x : ByteArray) (w : World) :
    Calls Tryz.prog 87 #[.string x] w fun e w' => e = .returned (.bool false) ∧ w' = w := by
  go_enter Tryz.func87, Tryz.ntmps87
  go_wp2_with fail
  go_ret
  simp

/-- How two texts stand to one another. -/
def lessT (x y : ByteArray) : Bool := Op.bytesLess x.toList y.toList
def cmpT (x y : ByteArray) : Int := if Op.bytesLess x.toList y.toList = true then -1 else if (x.toList == y.toList) = true then 0 else 1

set_option maxHeartbeats 1000000 in
set_option maxRecDepth 100000 in
theorem cmpText_any (x y : ByteArray) (w : World) :
    Calls Tryz.prog 81 #[.string x, .string y] w fun e w' => e = .returned (.int .i64 (cmpT x y)) ∧ w' = w := by
  go_enter Tryz.func81, Tryz.ntmps81
  go_wp2_with ((go_at_call 87; refine (isNaNText_any _ _).mono ?_; rintro e w1 ⟨rfl, rfl⟩))
  all_goals go_ret
  all_goals exact ⟨by simp_all [cmpT], rfl⟩

end Go.Proofs.YtfnlnigeaioocaaGreat

namespace Go.Proofs.YtfnlnigeaioocaaGreat
open Go.RowKit
set_option linter.unusedVariables false

theorem six_cells {w w1 : World} {x y z p q r : Value} {T : TypeId} (h : Below ((w.alloc (.cells #[x, y, z] T)).alloc (.cells #[p, q, r] T)).heap.size ((w.alloc (.cells #[x, y, z] T)).alloc (.cells #[p, q, r] T)) w1) :
    w1.cell? ⟨w.heap.size, 0, none⟩ = some x ∧ w1.cell? ⟨w.heap.size, 1, none⟩ = some y ∧ w1.cell? ⟨w.heap.size, 2, none⟩ = some z ∧ w1.cell? ⟨w.heap.size + 1, 0, none⟩ = some p ∧ w1.cell? ⟨w.heap.size + 1, 1, none⟩ = some q ∧ w1.cell? ⟨w.heap.size + 1, 2, none⟩ = some r := by
  have h0 := three_cells (below_seq (below_alloc _ _) h)
  have h1 := three_cells h
  rw [World.size_alloc] at h1
  exact ⟨h0.1, h0.2.1, h0.2.2, h1.1, h1.2.1, h1.2.2⟩

theorem last_two (w : World) (x y : Value) (T : TypeId) : (w.alloc (.cells #[x, y] T)).cell? ⟨w.heap.size, 0, none⟩ = some x ∧ (w.alloc (.cells #[x, y] T)).cell? ⟨w.heap.size, 1, none⟩ = some y :=
  ⟨cell_made (Below.refl _ _) (k := 0) rfl, cell_made (Below.refl _ _) (k := 1) rfl⟩

theorem nine_cells {w w1 : World} {x y z p q r l m n : Value} {T : TypeId} (h : Below (((w.alloc (.cells #[x, y, z] T)).alloc (.cells #[p, q, r] T)).alloc (.cells #[l, m, n] T)).heap.size (((w.alloc (.cells #[x, y, z] T)).alloc (.cells #[p, q, r] T)).alloc (.cells #[l, m, n] T)) w1) :
    (w1.cell? ⟨w.heap.size, 0, none⟩ = some x ∧ w1.cell? ⟨w.heap.size, 1, none⟩ = some y ∧ w1.cell? ⟨w.heap.size, 2, none⟩ = some z ∧ w1.cell? ⟨w.heap.size + 1, 0, none⟩ = some p ∧ w1.cell? ⟨w.heap.size + 1, 1, none⟩ = some q ∧ w1.cell? ⟨w.heap.size + 1, 2, none⟩ = some r) ∧
    (w1.cell? ⟨w.heap.size + 1 + 1, 0, none⟩ = some l ∧ w1.cell? ⟨w.heap.size + 1 + 1, 1, none⟩ = some m ∧ w1.cell? ⟨w.heap.size + 1 + 1, 2, none⟩ = some n) ∧ ∀ k, w1.frozen? ⟨w.heap.size + 1 + 1, k, none⟩ = false := by
  have h1 := three_cells h
  have f1 := frozen_made h
  rw [World.size_alloc, World.size_alloc] at h1 f1
  exact ⟨six_cells (below_seq (below_alloc _ _) h), h1, f1⟩

/-- Whether the first of two registers stays behind the second. -/
def lessR (t a : Int) (s : ByteArray) (t' a' : Int) (s' : ByteArray) : Bool := decide (orI (cmpS t a t' a') (cmpT s s') < 0)

end Go.Proofs.YtfnlnigeaioocaaGreat
