/- What the code's stampOrNone and stampAbove do. -/
import Derived.Test.YtlncfeakcgjioaaStampOKWalk
import Derived.Test.YtlncfeakcgjioaaStampLessWalk
namespace Go.Proofs.Ytlncfeakcgjioaa
open Go.RowKit
set_option linter.unusedVariables false

/-- A stamp is zero, or valid. -/
def okS (t a : Int) : Bool := decide (t = 0 ∧ a = 0) || stOK t a

/-- The time of the least stamp of an actor above a stamp. -/
def upT (t a c : Int) : Int := if lessS t a (max t 1) c = true then max t 1 else max t 1 + 1
/-- What stampAbove answers. -/
def above (t a c : Int) : Value := if stOK (upT t a c) c = true then .tuple #[.agg #[.int .i64 (upT t a c), .int .i64 c], .int .i64 0] else .tuple #[.agg #[.int .i64 0, .int .i64 0], .int .i64 11]

theorem upT_yes {t a c : Int} (h : 1 ≤ t) (hl : lessS t a t c = true) : upT t a c = t := by
  unfold upT
  rw [show max t 1 = t by omega, if_pos hl]
theorem upT_no {t a c : Int} (h : 1 ≤ t) (hl : lessS t a t c = false) : upT t a c = t + 1 := by
  unfold upT
  rw [show max t 1 = t by omega, hl]; rfl
theorem upT_zero {a c : Int} : upT 0 a c = 1 := by
  unfold upT
  rw [show max (0 : Int) 1 = 1 from rfl, if_pos (by simp [lessS])]
theorem above_yes {t a c : Int} (h : stOK (upT t a c) c = true) : above t a c = .tuple #[.agg #[.int .i64 (upT t a c), .int .i64 c], .int .i64 0] := if_pos h
theorem above_no {t a c : Int} (h : stOK (upT t a c) c = false) : above t a c = .tuple #[.agg #[.int .i64 0, .int .i64 0], .int .i64 11] := if_neg (by simp [h])

theorem three_there {w w1 : World} {x y p q z u : Value} {T : TypeId} (h : Below (((w.alloc (.cells #[x, y] T)).alloc (.cells #[p, q] T)).alloc (.cells #[z, u] T)).heap.size (((w.alloc (.cells #[x, y] T)).alloc (.cells #[p, q] T)).alloc (.cells #[z, u] T)) w1) :
    (w1.cell? ⟨w.heap.size + 1, 0, none⟩ = some p ∧ w1.cell? ⟨w.heap.size + 1, 1, none⟩ = some q ∧ w1.cell? ⟨w.heap.size + 1 + 1, 0, none⟩ = some z ∧ w1.cell? ⟨w.heap.size + 1 + 1, 1, none⟩ = some u) ∧
      ∀ k, w1.frozen? ⟨w.heap.size + 1, k, none⟩ = false ∧ w1.frozen? ⟨w.heap.size + 1 + 1, k, none⟩ = false := by
  have hB : Below ((w.alloc (.cells #[x, y] T)).alloc (.cells #[p, q] T)).heap.size ((w.alloc (.cells #[x, y] T)).alloc (.cells #[p, q] T)) w1 := below_seq (below_alloc _ _) h
  have e1 : (w.alloc (.cells #[x, y] T)).heap.size = w.heap.size + 1 := World.size_alloc _ _
  have e2 : ((w.alloc (.cells #[x, y] T)).alloc (.cells #[p, q] T)).heap.size = w.heap.size + 1 + 1 := by rw [World.size_alloc, e1]
  have a0 := cell_made hB (k := 0) rfl
  have a1 := cell_made hB (k := 1) rfl
  have b0 := cell_made h (k := 0) rfl
  have b1 := cell_made h (k := 1) rfl
  have fa := frozen_made hB
  have fb := frozen_made h
  rw [e1] at a0 a1 fa
  rw [e2] at b0 b1 fb
  exact ⟨⟨a0, a1, b0, b1⟩, fun k => ⟨fa k, fb k⟩⟩

theorem cell_on {w w1 : World} (h : Below w.heap.size w w1) {a : Addr} {v : Value} (hc : w.cell? a = some v) : w1.cell? a = some v := by
  rw [h.cell (p := a)]
  · exact hc
  · unfold World.cell? at hc
    split at hc
    · rename_i hb
      exact (Array.getElem?_eq_some_iff.1 hb).1
    all_goals simp at hc
theorem frozen_on {w w1 : World} (h : Below w.heap.size w w1) {a : Addr} (ha : a.block < w.heap.size) (hc : w.frozen? a = false) : w1.frozen? a = false := by
  rw [h.frozen (p := a) ha]
  exact hc
theorem cell_lt {w : World} {a : Addr} {v : Value} (h : w.cell? a = some v) : a.block < w.heap.size := by
  unfold World.cell? at h
  split at h
  · rename_i hb
    exact (Array.getElem?_eq_some_iff.1 hb).1
  all_goals simp at h
theorem set_there {w w1 : World} {m n : Nat} {p q z u v : Value} (hmn : m ≠ n) (hc : w.cell? ⟨m, 0, none⟩ = some p ∧ w.cell? ⟨m, 1, none⟩ = some q ∧ w.cell? ⟨n, 0, none⟩ = some z ∧ w.cell? ⟨n, 1, none⟩ = some u)
    (hf : ∀ k, w.frozen? ⟨m, k, none⟩ = false ∧ w.frozen? ⟨n, k, none⟩ = false) (h : Below (w.setCell ⟨n, 0, none⟩ v).heap.size (w.setCell ⟨n, 0, none⟩ v) w1) :
    (w1.cell? ⟨m, 0, none⟩ = some p ∧ w1.cell? ⟨m, 1, none⟩ = some q ∧ w1.cell? ⟨n, 0, none⟩ = some v ∧ w1.cell? ⟨n, 1, none⟩ = some u) ∧ ∀ k, w1.frozen? ⟨m, k, none⟩ = false ∧ w1.frozen? ⟨n, k, none⟩ = false := by
  obtain ⟨h0, h1, h2, h3⟩ := hc
  have hz : ∀ k, (w.setCell ⟨n, 0, none⟩ v).frozen? ⟨m, k, none⟩ = false ∧ (w.setCell ⟨n, 0, none⟩ v).frozen? ⟨n, k, none⟩ = false := fun k => ⟨(World.frozen?_setCells n [v] 0 w _).trans (hf k).1, (World.frozen?_setCells n [v] 0 w _).trans (hf k).2⟩
  refine ⟨⟨cell_on h ?_, cell_on h ?_, cell_on h (World.cell?_setCell_same _ _ _ h2), cell_on h ?_⟩, fun k => ⟨frozen_on h (by rw [World.size_setCell]; exact (cell_lt h0 : m < _)) (hz k).1, frozen_on h (by rw [World.size_setCell]; exact (cell_lt h2 : n < _)) (hz k).2⟩⟩
  · exact (World.cell?_setCells_out n [v] 0 w _ (fun e => absurd e hmn)).trans h0
  · exact (World.cell?_setCells_out n [v] 0 w _ (fun e => absurd e hmn)).trans h1
  · exact (World.cell?_setCells_out n [v] 0 w _ (fun _ _ => .inr (by simp))).trans h3
theorem less_zero (a c : Int) : lessS 0 a 1 c = true := by simp [lessS]

end Go.Proofs.Ytlncfeakcgjioaa
