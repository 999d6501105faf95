/- The laws' own functions over entries: their size, their copy, that two alike are alike, and the writing over. The laws' own functions over lists of entries: that two alike are alike, their size, and the writing over. The laws' own functions over sets: the copy of one that came in, that two alike are alike, their size, and the writing over. Rows of entries of any capacity: what markEntryS and heldEntryS do with them. A value with a vector and entries that a call owns: plain facts. -/
import Derived.Deep.RegionHeld2
import Derived.Test.YtfnlnigeaioocaaGreatQJoinedBaseToEntRows
import Derived.Test.YtfnlnigeaioocaaGreatQStampLessWalkToStampNextEq
import Derived.Test.YtfnlnigeaioocaaGreatQTextsCells
import Derived.Test.YtfnlnigeaioocaaGreatQInfoToTrBase
namespace Go.Proofs.YtfnlnigeaioocaaGreat
open Go.RowKit
set_option linter.unusedVariables false

theorem infoEntry : (Tryz.prog.info? 60).map (fun i => (i.zero, i.size, i.bytes)) = some (some (.agg #[.int .i64 0, .int .i64 0, .string ByteArray.empty]), 3, 32) := by kernel_rfl

/-- A row of entries that the call owns, the first k of which are those of ls. -/
def RowE (w : World) (B g n : Nat) (ls : List En) (k : Nat) : Prop :=
  ∃ xs, w.ownsRow B 60 3 (.slice (some ⟨g, 0, none⟩) n n) n xs ∧ ∀ j, j < k → xs[j * 3]? = some (.int .i64 (enAt ls j).1) ∧ xs[j * 3 + 1]? = some (.int .i64 (enAt ls j).2.1) ∧ xs[j * 3 + 2]? = some (.string (enAt ls j).2.2)
theorem RowE.cells {w : World} {B g n : Nat} {ls : List En} {k : Nat} (h : RowE w B g n ls k) {j : Nat} (hj : j < n) :
    ∃ u v z, w.cell? ⟨g, j * 3, none⟩ = some u ∧ w.cell? ⟨g, j * 3 + 1, none⟩ = some v ∧ w.cell? ⟨g, j * 3 + 2, none⟩ = some z ∧ w.frozen? ⟨g, j * 3, none⟩ = false ∧ w.frozen? ⟨g, j * 3 + 1, none⟩ = false ∧ w.frozen? ⟨g, j * 3 + 2, none⟩ = false := by
  obtain ⟨xs, ho, _⟩ := h
  have hl := ho.1
  have h0 : j * 3 < xs.length := by omega
  have h1 : j * 3 + 1 < xs.length := by omega
  have h2 : j * 3 + 2 < xs.length := by omega
  refine ⟨xs[j * 3], xs[j * 3 + 1], xs[j * 3 + 2], ?_, ?_, ?_, World.ownsRow.frozenAt ho _, World.ownsRow.frozenAt ho _, World.ownsRow.frozenAt ho _⟩
  · rw [World.ownsRow.cellAt ho _ (by omega), List.getElem?_eq_getElem h0]
  · rw [World.ownsRow.cellAt ho _ (by omega), List.getElem?_eq_getElem h1]
  · rw [World.ownsRow.cellAt ho _ (by omega), List.getElem?_eq_getElem h2]
theorem RowE.put {w : World} {B g n : Nat} {ls : List En} {k : Nat} (h : RowE w B g n ls k) (hk : k < n) :
    RowE (((w.setCell ⟨g, k * 3, none⟩ (.int .i64 (enAt ls k).1)).setCell ⟨g, k * 3 + 1, none⟩ (.int .i64 (enAt ls k).2.1)).setCell ⟨g, k * 3 + 2, none⟩ (.string (enAt ls k).2.2)) B g n ls (k + 1) := by
  obtain ⟨xs, ho, hx⟩ := h
  have hl := ho.1
  refine ⟨_, (World.ownsRow.stored (World.ownsRow.stored (World.ownsRow.stored ho (k * 3) _).1 (k * 3 + 1) _).1 (k * 3 + 2) _).1, fun j hj => ?_⟩
  by_cases e : j = k
  · subst e
    refine ⟨?_, ?_, ?_⟩
    · rw [List.getElem?_set_ne (by omega), List.getElem?_set_ne (by omega), List.getElem?_set_self (by omega)]
    · rw [List.getElem?_set_ne (by omega), List.getElem?_set_self (by rw [List.length_set]; omega)]
    · rw [List.getElem?_set_self (by rw [List.length_set, List.length_set]; omega)]
  · have := hx j (by omega)
    refine ⟨?_, ?_, ?_⟩
    · rw [List.getElem?_set_ne (by omega), List.getElem?_set_ne (by omega), List.getElem?_set_ne (by omega)]; exact this.1
    · rw [List.getElem?_set_ne (by omega), List.getElem?_set_ne (by omega), List.getElem?_set_ne (by omega)]; exact this.2.1
    · rw [List.getElem?_set_ne (by omega), List.getElem?_set_ne (by omega), List.getElem?_set_ne (by omega)]; exact this.2.2
theorem RowE.lt {w : World} {B g n : Nat} {ls : List En} {k : Nat} (h : RowE w B g n ls k) : B ≤ g ∧ g < w.heap.size := by
  obtain ⟨xs, ho, _⟩ := h
  exact World.ownsRow.lt ho g rfl
theorem RowE.kept {w w' : World} {B g n : Nat} {ls : List En} {k : Nat} {row : Option Nat} (h : RowE w B g n ls k) (hg : w.grownBy w' row) (hn : row ≠ some g) : RowE w' B g n ls k := by
  obtain ⟨xs, ho, hx⟩ := h
  exact ⟨xs, ho.kept hg (.inr (fun e => hn (by simpa [Value.ownBlock] using e.symm))), hx⟩
theorem RowE.on {w w' : World} {B g n : Nat} {ls : List En} {k : Nat} (h : RowE w B g n ls k) (hb : Below w.heap.size w w') : RowE w' B g n ls k := h.kept (grownBy_below hb (Nat.le_refl _) none) (by simp)
theorem RowE.fresh {w : World} {B g n : Nat} {ls ls' : List En} {k : Nat} (h : RowE w B g n ls k) : RowE w B g n ls' 0 := by
  obtain ⟨xs, ho, _⟩ := h
  exact ⟨xs, ho, fun j hj => absurd hj (Nat.not_lt_zero _)⟩
theorem RowE.rd {w : World} {B g : Nat} {ls : List En} (h : RowE w B g ls.length ls ls.length) : RdE w.heap.size w (.slice (some ⟨g, 0, none⟩) ls.length ls.length) ls := by
  have hlt := h.lt
  obtain ⟨xs, ho, hx⟩ := h
  refine ⟨_, _, rfl, fun _ => ⟨g, 0, rfl, hlt.2, fun k hk => ?_⟩⟩
  have := hx k hk
  rw [Nat.zero_add, Nat.zero_add, Nat.zero_add, World.ownsRow.cellAt ho _ (by omega), World.ownsRow.cellAt ho _ (by omega), World.ownsRow.cellAt ho _ (by omega)]
  exact this

end Go.Proofs.YtfnlnigeaioocaaGreat

namespace Go.Proofs.YtfnlnigeaioocaaGreat
open Go.RowKit
set_option linter.unusedVariables false

/-- What is written over n entries, from q on. -/
def marksE (q n : Nat) : List En := (List.range n).map fun i => (((q + 3 * i : Nat) : Int), ((q + 3 * i + 1 : Nat) : Int), mt (q + 3 * i + 2))
theorem marksE_at {q n k : Nat} (h : k < n) : enAt (marksE q n) k = (((q + 3 * k : Nat) : Int), ((q + 3 * k + 1 : Nat) : Int), mt (q + 3 * k + 2)) := by simp [enAt, marksE, h]
theorem marksE_len (q n : Nat) : (marksE q n).length = n := by simp [marksE]

/-- A row of entries, of the k-th of which the numbers are written already. -/
def RowP (w : World) (B g n : Nat) (ls : List En) (k : Nat) : Prop :=
  ∃ xs, w.ownsRow B 60 3 (.slice (some ⟨g, 0, none⟩) n n) n xs ∧ (∀ j, j < k → xs[j * 3]? = some (.int .i64 (enAt ls j).1) ∧ xs[j * 3 + 1]? = some (.int .i64 (enAt ls j).2.1) ∧ xs[j * 3 + 2]? = some (.string (enAt ls j).2.2)) ∧ xs[k * 3]? = some (.int .i64 (enAt ls k).1) ∧ xs[k * 3 + 1]? = some (.int .i64 (enAt ls k).2.1)
theorem RowE.two {w : World} {B g n : Nat} {ls : List En} {k : Nat} (h : RowE w B g n ls k) (hk : k < n) :
    RowP ((w.setCell ⟨g, k * 3, none⟩ (.int .i64 (enAt ls k).1)).setCell ⟨g, k * 3 + 1, none⟩ (.int .i64 (enAt ls k).2.1)) B g n ls k := by
  obtain ⟨xs, ho, hx⟩ := h
  have hl := ho.1
  refine ⟨_, (World.ownsRow.stored (World.ownsRow.stored ho (k * 3) _).1 (k * 3 + 1) _).1, fun j hj => ?_, ?_, ?_⟩
  · have := hx j hj
    refine ⟨?_, ?_, ?_⟩
    · rw [List.getElem?_set_ne (by omega), List.getElem?_set_ne (by omega)]; exact this.1
    · rw [List.getElem?_set_ne (by omega), List.getElem?_set_ne (by omega)]; exact this.2.1
    · rw [List.getElem?_set_ne (by omega), List.getElem?_set_ne (by omega)]; exact this.2.2
  · rw [List.getElem?_set_ne (by omega), List.getElem?_set_self (by omega)]
  · rw [List.getElem?_set_self (by rw [List.length_set]; omega)]
theorem RowP.on {w w' : World} {B g n : Nat} {ls : List En} {k : Nat} (h : RowP w B g n ls k) (hb : Below w.heap.size w w') : RowP w' B g n ls k := by
  obtain ⟨xs, ho, hx⟩ := h
  exact ⟨xs, ho.kept (grownBy_below hb (Nat.le_refl _) none) (by simp [Value.ownBlock]), hx⟩
theorem RowP.cell {w : World} {B g n : Nat} {ls : List En} {k : Nat} (h : RowP w B g n ls k) (hk : k < n) : ∃ z, w.cell? ⟨g, k * 3 + 2, none⟩ = some z ∧ w.frozen? ⟨g, k * 3 + 2, none⟩ = false := by
  obtain ⟨xs, ho, _⟩ := h
  have hl := ho.1
  have h2 : k * 3 + 2 < xs.length := by omega
  exact ⟨xs[k * 3 + 2], by rw [World.ownsRow.cellAt ho _ (by omega), List.getElem?_eq_getElem h2], World.ownsRow.frozenAt ho _⟩
theorem RowP.put {w : World} {B g n : Nat} {ls : List En} {k : Nat} (h : RowP w B g n ls k) (hk : k < n) : RowE (w.setCell ⟨g, k * 3 + 2, none⟩ (.string (enAt ls k).2.2)) B g n ls (k + 1) := by
  obtain ⟨xs, ho, hx, h0, h1⟩ := h
  have hl := ho.1
  refine ⟨_, (World.ownsRow.stored ho (k * 3 + 2) _).1, fun j hj => ?_⟩
  by_cases e : j = k
  · subst e
    refine ⟨?_, ?_, ?_⟩
    · rw [List.getElem?_set_ne (by omega)]; exact h0
    · rw [List.getElem?_set_ne (by omega)]; exact h1
    · rw [List.getElem?_set_self (by omega)]
  · have := hx j (by omega)
    refine ⟨?_, ?_, ?_⟩
    · rw [List.getElem?_set_ne (by omega)]; exact this.1
    · rw [List.getElem?_set_ne (by omega)]; exact this.2.1
    · rw [List.getElem?_set_ne (by omega)]; exact this.2.2

end Go.Proofs.YtfnlnigeaioocaaGreat

namespace Go.Proofs.YtfnlnigeaioocaaGreat
open Go.RowKit
set_option linter.unusedVariables false

theorem RowE.mono {w : World} {B B' g n : Nat} {ls : List En} {k : Nat} (h : RowE w B g n ls k) (hb : B' ≤ B) : RowE w B' g n ls k := by
  obtain ⟨xs, ho, hx⟩ := h
  refine ⟨xs, ?_, hx⟩
  obtain ⟨h1, h2⟩ := ho
  refine ⟨h1, ?_⟩
  rcases h2 with h2 | ⟨g', cap, cur, hv, hg, hh, r⟩
  · exact .inl h2
  · exact .inr ⟨g', cap, cur, hv, by omega, hh, r⟩

end Go.Proofs.YtfnlnigeaioocaaGreat

namespace Go.Proofs.YtfnlnigeaioocaaGreat
open Go.RowKit
set_option linter.unusedVariables false

/-- A row of entries that the call owns, the first k of which are those of ls. -/
def RowF (w : World) (B g n c : Nat) (ls : List En) (k : Nat) : Prop :=
  ∃ xs, w.ownsRow B 60 3 (.slice (some ⟨g, 0, none⟩) n c) n xs ∧ ∀ j, j < k → xs[j * 3]? = some (.int .i64 (enAt ls j).1) ∧ xs[j * 3 + 1]? = some (.int .i64 (enAt ls j).2.1) ∧ xs[j * 3 + 2]? = some (.string (enAt ls j).2.2)
theorem RowF.cells {w : World} {B g n c : Nat} {ls : List En} {k : Nat} (h : RowF w B g n c ls k) {j : Nat} (hj : j < n) :
    ∃ u v z, w.cell? ⟨g, j * 3, none⟩ = some u ∧ w.cell? ⟨g, j * 3 + 1, none⟩ = some v ∧ w.cell? ⟨g, j * 3 + 2, none⟩ = some z ∧ w.frozen? ⟨g, j * 3, none⟩ = false ∧ w.frozen? ⟨g, j * 3 + 1, none⟩ = false ∧ w.frozen? ⟨g, j * 3 + 2, none⟩ = false := by
  obtain ⟨xs, ho, _⟩ := h
  have hl := ho.1
  have h0 : j * 3 < xs.length := by omega
  have h1 : j * 3 + 1 < xs.length := by omega
  have h2 : j * 3 + 2 < xs.length := by omega
  refine ⟨xs[j * 3], xs[j * 3 + 1], xs[j * 3 + 2], ?_, ?_, ?_, World.ownsRow.frozenAt ho _, World.ownsRow.frozenAt ho _, World.ownsRow.frozenAt ho _⟩
  · rw [World.ownsRow.cellAt ho _ (by omega), List.getElem?_eq_getElem h0]
  · rw [World.ownsRow.cellAt ho _ (by omega), List.getElem?_eq_getElem h1]
  · rw [World.ownsRow.cellAt ho _ (by omega), List.getElem?_eq_getElem h2]
theorem RowF.put {w : World} {B g n c : Nat} {ls : List En} {k : Nat} (h : RowF w B g n c ls k) (hk : k < n) :
    RowF (((w.setCell ⟨g, k * 3, none⟩ (.int .i64 (enAt ls k).1)).setCell ⟨g, k * 3 + 1, none⟩ (.int .i64 (enAt ls k).2.1)).setCell ⟨g, k * 3 + 2, none⟩ (.string (enAt ls k).2.2)) B g n c ls (k + 1) := by
  obtain ⟨xs, ho, hx⟩ := h
  have hl := ho.1
  refine ⟨_, (World.ownsRow.stored (World.ownsRow.stored (World.ownsRow.stored ho (k * 3) _).1 (k * 3 + 1) _).1 (k * 3 + 2) _).1, fun j hj => ?_⟩
  by_cases e : j = k
  · subst e
    refine ⟨?_, ?_, ?_⟩
    · rw [List.getElem?_set_ne (by omega), List.getElem?_set_ne (by omega), List.getElem?_set_self (by omega)]
    · rw [List.getElem?_set_ne (by omega), List.getElem?_set_self (by rw [List.length_set]; omega)]
    · rw [List.getElem?_set_self (by rw [List.length_set, List.length_set]; omega)]
  · have := hx j (by omega)
    refine ⟨?_, ?_, ?_⟩
    · rw [List.getElem?_set_ne (by omega), List.getElem?_set_ne (by omega), List.getElem?_set_ne (by omega)]; exact this.1
    · rw [List.getElem?_set_ne (by omega), List.getElem?_set_ne (by omega), List.getElem?_set_ne (by omega)]; exact this.2.1
    · rw [List.getElem?_set_ne (by omega), List.getElem?_set_ne (by omega), List.getElem?_set_ne (by omega)]; exact this.2.2
theorem RowF.lt {w : World} {B g n c : Nat} {ls : List En} {k : Nat} (h : RowF w B g n c ls k) : B ≤ g ∧ g < w.heap.size := by
  obtain ⟨xs, ho, _⟩ := h
  exact World.ownsRow.lt ho g rfl
theorem RowF.kept {w w' : World} {B g n c : Nat} {ls : List En} {k : Nat} {row : Option Nat} (h : RowF w B g n c ls k) (hg : w.grownBy w' row) (hn : row ≠ some g) : RowF w' B g n c ls k := by
  obtain ⟨xs, ho, hx⟩ := h
  exact ⟨xs, ho.kept hg (.inr (fun e => hn (by simpa [Value.ownBlock] using e.symm))), hx⟩
theorem RowF.on {w w' : World} {B g n c : Nat} {ls : List En} {k : Nat} (h : RowF w B g n c ls k) (hb : Below w.heap.size w w') : RowF w' B g n c ls k := h.kept (grownBy_below hb (Nat.le_refl _) none) (by simp)
theorem RowF.fresh {w : World} {B g n c : Nat} {ls ls' : List En} {k : Nat} (h : RowF w B g n c ls k) : RowF w B g n c ls' 0 := by
  obtain ⟨xs, ho, _⟩ := h
  exact ⟨xs, ho, fun j hj => absurd hj (Nat.not_lt_zero _)⟩

/-- A row of entries, of the k-th of which the numbers are written already. -/
def RowG (w : World) (B g n c : Nat) (ls : List En) (k : Nat) : Prop :=
  ∃ xs, w.ownsRow B 60 3 (.slice (some ⟨g, 0, none⟩) n c) n xs ∧ (∀ j, j < k → xs[j * 3]? = some (.int .i64 (enAt ls j).1) ∧ xs[j * 3 + 1]? = some (.int .i64 (enAt ls j).2.1) ∧ xs[j * 3 + 2]? = some (.string (enAt ls j).2.2)) ∧ xs[k * 3]? = some (.int .i64 (enAt ls k).1) ∧ xs[k * 3 + 1]? = some (.int .i64 (enAt ls k).2.1)
theorem RowF.two {w : World} {B g n c : Nat} {ls : List En} {k : Nat} (h : RowF w B g n c ls k) (hk : k < n) :
    RowG ((w.setCell ⟨g, k * 3, none⟩ (.int .i64 (enAt ls k).1)).setCell ⟨g, k * 3 + 1, none⟩ (.int .i64 (enAt ls k).2.1)) B g n c ls k := by
  obtain ⟨xs, ho, hx⟩ := h
  have hl := ho.1
  refine ⟨_, (World.ownsRow.stored (World.ownsRow.stored ho (k * 3) _).1 (k * 3 + 1) _).1, fun j hj => ?_, ?_, ?_⟩
  · have := hx j hj
    refine ⟨?_, ?_, ?_⟩
    · rw [List.getElem?_set_ne (by omega), List.getElem?_set_ne (by omega)]; exact this.1
    · rw [List.getElem?_set_ne (by omega), List.getElem?_set_ne (by omega)]; exact this.2.1
    · rw [List.getElem?_set_ne (by omega), List.getElem?_set_ne (by omega)]; exact this.2.2
  · rw [List.getElem?_set_ne (by omega), List.getElem?_set_self (by omega)]
  · rw [List.getElem?_set_self (by rw [List.length_set]; omega)]
theorem RowG.on {w w' : World} {B g n c : Nat} {ls : List En} {k : Nat} (h : RowG w B g n c ls k) (hb : Below w.heap.size w w') : RowG w' B g n c ls k := by
  obtain ⟨xs, ho, hx⟩ := h
  exact ⟨xs, ho.kept (grownBy_below hb (Nat.le_refl _) none) (by simp [Value.ownBlock]), hx⟩
theorem RowG.cell {w : World} {B g n c : Nat} {ls : List En} {k : Nat} (h : RowG w B g n c ls k) (hk : k < n) : ∃ z, w.cell? ⟨g, k * 3 + 2, none⟩ = some z ∧ w.frozen? ⟨g, k * 3 + 2, none⟩ = false := by
  obtain ⟨xs, ho, _⟩ := h
  have hl := ho.1
  have h2 : k * 3 + 2 < xs.length := by omega
  exact ⟨xs[k * 3 + 2], by rw [World.ownsRow.cellAt ho _ (by omega), List.getElem?_eq_getElem h2], World.ownsRow.frozenAt ho _⟩
theorem RowG.put {w : World} {B g n c : Nat} {ls : List En} {k : Nat} (h : RowG w B g n c ls k) (hk : k < n) : RowF (w.setCell ⟨g, k * 3 + 2, none⟩ (.string (enAt ls k).2.2)) B g n c ls (k + 1) := by
  obtain ⟨xs, ho, hx, h0, h1⟩ := h
  have hl := ho.1
  refine ⟨_, (World.ownsRow.stored ho (k * 3 + 2) _).1, fun j hj => ?_⟩
  by_cases e : j = k
  · subst e
    refine ⟨?_, ?_, ?_⟩
    · rw [List.getElem?_set_ne (by omega)]; exact h0
    · rw [List.getElem?_set_ne (by omega)]; exact h1
    · rw [List.getElem?_set_self (by omega)]
  · have := hx j (by omega)
    refine ⟨?_, ?_, ?_⟩
    · rw [List.getElem?_set_ne (by omega)]; exact this.1
    · rw [List.getElem?_set_ne (by omega)]; exact this.2.1
    · rw [List.getElem?_set_ne (by omega)]; exact this.2.2


theorem enCs_of {xs : List Value} {ls : List En} (hl : xs.length = ls.length * 3) (h : ∀ j, j < ls.length → xs[j * 3]? = some (.int .i64 (enAt ls j).1) ∧ xs[j * 3 + 1]? = some (.int .i64 (enAt ls j).2.1) ∧ xs[j * 3 + 2]? = some (.string (enAt ls j).2.2)) : xs = enCs ls := by
  have hl2 := enCs_len ls
  refine List.ext_getElem? fun i => ?_
  by_cases hi : i < ls.length * 3
  · obtain ⟨j, hj, r, hr, rfl⟩ : ∃ j, j < ls.length ∧ ∃ r, r < 3 ∧ i = j * 3 + r := ⟨i / 3, by omega, i % 3, by omega, by omega⟩
    obtain ⟨a0, a1, a2⟩ := h j hj
    obtain ⟨b0, b1, b2⟩ := enCs_at hj
    obtain rfl | rfl | rfl : r = 0 ∨ r = 1 ∨ r = 2 := by omega
    · rw [Nat.add_zero, a0, b0]
    · rw [a1, b1]
    · rw [a2, b2]
  · rw [List.getElem?_eq_none (by omega), List.getElem?_eq_none (by omega)]
theorem RowF.own {w : World} {B g n c : Nat} {ls : List En} (h : RowF w B g n c ls n) (hn : n = ls.length) : OwnE w B (.slice (some ⟨g, 0, none⟩) n c) ls := by
  subst hn
  obtain ⟨xs, ho, hx⟩ := h
  have := enCs_of ho.1 hx
  subst this
  exact ho
theorem rowF_of {w : World} {B g n c : Nat} {ls : List En} (h : OwnE w B (.slice (some ⟨g, 0, none⟩) n c) ls) (hn : n = ls.length) : RowF w B g n c ls n := by
  subst hn
  exact ⟨_, h, fun j hj => enCs_at hj⟩
theorem RowE.own {w : World} {B g n : Nat} {ls : List En} (h : RowE w B g n ls n) (hn : n = ls.length) : OwnE w B (.slice (some ⟨g, 0, none⟩) n n) ls := by
  subst hn
  obtain ⟨xs, ho, hx⟩ := h
  have := enCs_of ho.1 hx
  subst this
  exact ho
theorem ownE_shape {w : World} {B : Nat} {v : Value} {ls : List En} (h : OwnE w B v ls) : (v = .slice none 0 0 ∧ ls = []) ∨ ∃ g c, v = .slice (some ⟨g, 0, none⟩) ls.length c ∧ B ≤ g ∧ g < w.heap.size := by
  have hlt := h.lt
  rcases h.2 with ⟨hv, hn⟩ | ⟨g, cap, cur, hv, hb, hg, _⟩
  · exact .inl ⟨hv, List.eq_nil_of_length_eq_zero hn⟩
  · exact .inr ⟨g, cap, hv, hb, (Array.getElem?_eq_some_iff.1 hg).1⟩
theorem ownE_rd {w : World} {B : Nat} {v : Value} {ls : List En} (h : OwnE w B v ls) : RdE w.heap.size w v ls := by
  rcases ownE_shape h with ⟨rfl, rfl⟩ | ⟨g, c, rfl, _, hlt⟩
  · exact ⟨none, 0, rfl, fun h => absurd h (by simp)⟩
  · refine ⟨_, c, rfl, fun _ => ⟨g, 0, rfl, hlt, fun k hk => ?_⟩⟩
    have hl := enCs_len ls
    obtain ⟨b0, b1, b2⟩ := enCs_at hk
    rw [Nat.zero_add, Nat.zero_add, Nat.zero_add, World.ownsRow.cellAt h _ (by omega), World.ownsRow.cellAt h _ (by omega), World.ownsRow.cellAt h _ (by omega)]
    exact ⟨b0, b1, b2⟩

end Go.Proofs.YtfnlnigeaioocaaGreat

namespace Go.Proofs.YtfnlnigeaioocaaGreat
open Go.RowKit
set_option linter.unusedVariables false

/-- Two slices of the call's own, in blocks from B on and below E: these counts, these entries. -/
def Sv (w : World) (B E : Nat) (u v : Value) (xs : List Int) (ls : List En) : Prop :=
  ∃ T, Own T w B u (xs.map (Value.int .i64)) ∧ OwnE w B v ls ∧ Apart u v ∧ (∀ i, u.ownBlock = some i → i < E) ∧ (∀ i, v.ownBlock = some i → i < E)
/-- All blocks but those from B on and below E are as they were. -/
def Away (w w' : World) (B E : Nat) : Prop := w.heap.size ≤ w'.heap.size ∧ ∀ i, i < w.heap.size → i < B ∨ E ≤ i → w'.heap[i]? = w.heap[i]?
theorem Sv.shape {w : World} {B E : Nat} {u v : Value} {xs : List Int} {ls : List En} (h : Sv w B E u v xs ls) : ∃ a n c b m d, u = .slice a n c ∧ v = .slice b m d := by
  obtain ⟨T, h1, h2, _⟩ := h
  obtain ⟨a, c, rfl, _⟩ := h1.slice
  rcases ownE_shape h2 with ⟨rfl, _⟩ | ⟨g, d, rfl, _⟩
  · exact ⟨_, _, _, _, _, _, rfl, rfl⟩
  · exact ⟨_, _, _, _, _, _, rfl, rfl⟩
theorem Sv.rd {w : World} {B E : Nat} {u v : Value} {xs : List Int} {ls : List En} (h : Sv w B E u v xs ls) : Rd w.heap.size w u (xs.map (Value.int .i64)) := by
  obtain ⟨T, h1, _⟩ := h
  exact h1.rd
theorem Sv.rdE {w : World} {B E : Nat} {u v : Value} {xs : List Int} {ls : List En} (h : Sv w B E u v xs ls) : RdE w.heap.size w v ls := by
  obtain ⟨T, _, h2, _⟩ := h
  exact ownE_rd h2
theorem Sv.on {w w' : World} {B E : Nat} {u v : Value} {xs : List Int} {ls : List En} (h : Sv w B E u v xs ls) (hb : Below w.heap.size w w') : Sv w' B E u v xs ls := by
  obtain ⟨T, h1, h2, h3⟩ := h
  refine ⟨T, h1.below hb (Nat.le_refl _), ?_, h3⟩
  obtain ⟨k1, k2⟩ := h2
  refine ⟨k1, ?_⟩
  rcases k2 with k2 | ⟨g, cap, cur, hv, hg, hh, r⟩
  · exact .inl k2
  · exact .inr ⟨g, cap, cur, hv, hg, (hb.block g (Array.getElem?_eq_some_iff.1 hh).1).trans hh, r⟩
theorem Sv.alloc {w : World} {B E : Nat} {u v : Value} {xs : List Int} {ls : List En} (h : Sv w B E u v xs ls) (o : Obj) : Sv (w.alloc o) B E u v xs ls := h.on (below_alloc w o)
theorem Sv.drew {w : World} {B E : Nat} {u v : Value} {xs : List Int} {ls : List En} (h : Sv w B E u v xs ls) : Sv w.drew B E u v xs ls := h
theorem Sv.mono {w : World} {B B' E E' : Nat} {u v : Value} {xs : List Int} {ls : List En} (h : Sv w B E u v xs ls) (hb : B' ≤ B) (he : E ≤ E') : Sv w B' E' u v xs ls := by
  obtain ⟨T, h1, h2, h3, h4, h5⟩ := h
  exact ⟨T, h1.mono hb, h2.mono hb, h3, fun i hi => Nat.lt_of_lt_of_le (h4 i hi) he, fun i hi => Nat.lt_of_lt_of_le (h5 i hi) he⟩
theorem Sv.away {w w' : World} {B E B' E' : Nat} {u v : Value} {xs : List Int} {ls : List En} (h : Sv w B E u v xs ls) (hk : Away w w' B' E') (hd : E ≤ B' ∨ E' ≤ B) : Sv w' B E u v xs ls := by
  obtain ⟨T, h1, h2, h3, h4, h5⟩ := h
  refine ⟨T, ?_, ?_, h3, h4, h5⟩
  · obtain ⟨k1, k2⟩ := h1
    refine ⟨k1, ?_⟩
    rcases k2 with k2 | ⟨g, cap, cur, hv, hg, hh, r⟩
    · exact .inl k2
    · have hl := h4 g (by rw [hv]; rfl)
      exact .inr ⟨g, cap, cur, hv, hg, (hk.2 g (Array.getElem?_eq_some_iff.1 hh).1 (by omega)).trans hh, r⟩
  · obtain ⟨k1, k2⟩ := h2
    refine ⟨k1, ?_⟩
    rcases k2 with k2 | ⟨g, cap, cur, hv, hg, hh, r⟩
    · exact .inl k2
    · have hl := h5 g (by rw [hv]; rfl)
      exact .inr ⟨g, cap, cur, hv, hg, (hk.2 g (Array.getElem?_eq_some_iff.1 hh).1 (by omega)).trans hh, r⟩
theorem Away.dy {w w' : World} {B E n : Nat} {x y : Value} (h : Away w w' B E) (hd : Dy w n x y) (hn : n < B ∨ E ≤ n) : Dy w' n x y := by
  have hb := h.2 n hd.lt hn
  exact ⟨⟨(World.cell?_of_block (a := ⟨n, 0, none⟩) hb).trans hd.1.1, (World.cell?_of_block (a := ⟨n, 1, none⟩) hb).trans hd.1.2⟩, fun k => (World.frozen?_of_block (a := ⟨n, k, none⟩) hb).trans (hd.2 k)⟩
/-- A value with a vector and entries of the call's own, and a code. -/
def SvAns (xs : List Int) (ls : List En) (k : Int) (w : World) (e : Ending) (w' : World) : Prop :=
  ∃ u v, e = .returned (.tuple #[.agg #[u, v], .int .i64 k]) ∧ Sv w' w.heap.size w'.heap.size u v xs ls ∧ Below w.heap.size w w'
theorem svNone (w : World) (B E : Nat) : Sv w B E (.slice none 0 0) (.slice none 0 0) [] [] :=
  ⟨3, World.ownsRow_nil _ _ _ _, World.ownsRow_nil _ _ _ _, fun i j h => by simp [Value.ownBlock] at h, fun i h => by simp [Value.ownBlock] at h, fun i h => by simp [Value.ownBlock] at h⟩

theorem away_set (w : World) (p k : Nat) (u : Value) : Away w (w.setCell ⟨p, k, none⟩ u) p (p + 1) := ⟨by simp, fun i _ hi => heap_setCell_other w ⟨p, k, none⟩ i u (by show i ≠ p; omega)⟩
theorem sv_put {w : World} {B E : Nat} {u v : Value} {xs : List Int} {ls : List En} (h : Sv w B E u v xs ls) (p : Nat) (hp : p < B) (x y : Value) : Sv ((w.setCell ⟨p, 0, none⟩ x).setCell ⟨p, 1, none⟩ y) B E u v xs ls :=
  (h.away (away_set w p 0 x) (.inr (by omega))).away (away_set _ p 1 y) (.inr (by omega))
theorem Dy.grown {w w' : World} {n : Nat} {x y : Value} {row : Option Nat} (h : Dy w n x y) (hg : w.grownBy w' row) (hr : row ≠ some n) : Dy w' n x y := by
  have hb : w'.heap[n]? = w.heap[n]? := hg.block n h.lt (fun e => hr e.symm)
  exact ⟨⟨(World.cell?_of_block (a := ⟨n, 0, none⟩) hb).trans h.1.1, (World.cell?_of_block (a := ⟨n, 1, none⟩) hb).trans h.1.2⟩, fun k => (World.frozen?_of_block (a := ⟨n, k, none⟩) hb).trans (h.2 k)⟩

end Go.Proofs.YtfnlnigeaioocaaGreat
