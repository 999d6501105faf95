/- A list of stamps in memory, and what MaxFunc over the code's order answers. -/
import Derived.Test.YtaglbacicpknaaaStampNextBase
namespace Go.Proofs.Ytaglbacicpknaaa
open Go.RowKit
set_option linter.unusedVariables false

/-- A block that holds a list of stamps, two cells each. -/
def SlS (w : World) (g : Nat) (ls : List (Int × Int)) : Prop := ∀ k, k < ls.length → w.cell? ⟨g, k * 2, none⟩ = some (.int .i64 (ls.getD k (0, 0)).1) ∧ w.cell? ⟨g, k * 2 + 1, none⟩ = some (.int .i64 (ls.getD k (0, 0)).2)

theorem SlS.of_below {w w1 : World} {g B : Nat} {ls : List (Int × Int)} (h : SlS w g ls) (hb : Below B w w1) (hg : g < B) : SlS w1 g ls := fun k hk => by
  rw [hb.cell (p := ⟨g, k * 2, none⟩) hg, hb.cell (p := ⟨g, k * 2 + 1, none⟩) hg]
  exact h k hk
/-- A block that holds one stamp, and can be written. -/
def StAt (w : World) (n : Nat) (t a : Int) : Prop := w.cell? ⟨n, 0, none⟩ = some (.int .i64 t) ∧ w.cell? ⟨n, 1, none⟩ = some (.int .i64 a) ∧ w.frozen? ⟨n, 0, none⟩ = false ∧ w.frozen? ⟨n, 1, none⟩ = false
theorem StAt.on {w w1 : World} {n : Nat} {t a : Int} (h : StAt w n t a) (hb : Below w.heap.size w w1) : StAt w1 n t a :=
  ⟨cell_on hb h.1, cell_on hb h.2.1, frozen_on hb (cell_lt h.1) h.2.2.1, frozen_on hb (cell_lt h.2.1) h.2.2.2⟩
theorem StAt.put {w : World} {n : Nat} {t a : Int} (h : StAt w n t a) (t' a' : Int) : StAt ((w.setCell ⟨n, 0, none⟩ (.int .i64 t')).setCell ⟨n, 1, none⟩ (.int .i64 a')) n t' a' := by
  obtain ⟨h0, h1, f0, f1⟩ := h
  have k1 : (w.setCell ⟨n, 0, none⟩ (.int .i64 t')).cell? ⟨n, 1, none⟩ = some (.int .i64 a) := (World.cell?_setCells_out n [.int .i64 t'] 0 w _ (fun _ _ => .inr (by simp))).trans h1
  refine ⟨?_, World.cell?_setCell_same _ _ _ k1, ?_, ?_⟩
  · exact (World.cell?_setCells_out n [.int .i64 a'] 1 _ _ (fun _ _ => .inl (by simp))).trans (World.cell?_setCell_same _ _ _ h0)
  · exact ((World.frozen?_setCells n [.int .i64 a'] 1 _ _).trans (World.frozen?_setCells n [.int .i64 t'] 0 w _)).trans f0
  · exact ((World.frozen?_setCells n [.int .i64 a'] 1 _ _).trans (World.frozen?_setCells n [.int .i64 t'] 0 w _)).trans f1
theorem StAt.aside {w : World} {n m : Nat} {t a : Int} (h : StAt w n t a) (hn : n ≠ m) (u v : Value) : StAt ((w.setCell ⟨m, 0, none⟩ u).setCell ⟨m, 1, none⟩ v) n t a := by
  obtain ⟨h0, h1, f0, f1⟩ := h
  have hc : ∀ k, ((w.setCell ⟨m, 0, none⟩ u).setCell ⟨m, 1, none⟩ v).cell? ⟨n, k, none⟩ = w.cell? ⟨n, k, none⟩ := fun k => (World.cell?_setCells_out m [v] 1 _ _ (fun e => absurd e hn)).trans (World.cell?_setCells_out m [u] 0 w _ (fun e => absurd e hn))
  have hf : ∀ k, ((w.setCell ⟨m, 0, none⟩ u).setCell ⟨m, 1, none⟩ v).frozen? ⟨n, k, none⟩ = w.frozen? ⟨n, k, none⟩ := fun k => (World.frozen?_setCells m [v] 1 _ _).trans (World.frozen?_setCells m [u] 0 w _)
  exact ⟨(hc 0).trans h0, (hc 1).trans h1, (hf 0).trans f0, (hf 1).trans f1⟩
theorem StAt.made (w : World) (t a : Int) (T : TypeId) : StAt (w.alloc (.cells #[.int .i64 t, .int .i64 a] T)) w.heap.size t a :=
  ⟨cell_made (Below.refl _ _) (k := 0) rfl, cell_made (Below.refl _ _) (k := 1) rfl, frozen_made (Below.refl _ _) 0, frozen_made (Below.refl _ _) 1⟩
theorem cmpS_pos (t a t' a' : Int) : (0 < cmpS t a t' a' ∧ lessS t' a' t a = true) ∨ (¬ 0 < cmpS t a t' a' ∧ lessS t' a' t a = false) := by
  have h : 0 < cmpS t a t' a' ↔ lessS t' a' t a = true := by
    rw [lessS_iff]
    unfold cmpS orI cmpI
    repeat' split
    all_goals omega
  by_cases hp : 0 < cmpS t a t' a'
  · exact .inl ⟨hp, h.1 hp⟩
  · refine .inr ⟨hp, ?_⟩
    cases e : lessS t' a' t a with
    | false => rfl
    | true => exact absurd (h.2 e) hp

end Go.Proofs.Ytaglbacicpknaaa
