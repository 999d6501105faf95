/- Texts of a row that the call owns, sorted and made compact. -/
import Derived.Sort.OwnSorted
import Derived.Test.YtfnlnigeaioocaaGreatQSortTexts
import Derived.Test.YtfnlnigeaioocaaGreatQBase
namespace Go.Proofs.YtfnlnigeaioocaaGreat
open Go.RowKit Go.Sort Go.Shelf
set_option linter.unusedVariables false

theorem sort_own (w : World) (B : Nat) (v : Value) (T : List (List UInt8)) (hl : T.length ≤ 1048576) (ho : Own 9 w B v (T.map encStr)) :
    Calls Tryz.prog 25 #[v] w fun e w' => e = .returned (.tuple #[]) ∧ Own 9 w' B v ((T.mergeSort fun x y => decide (x ≤ y)).map encStr) ∧ w.grownBy w' v.ownBlock := by
  have ho0 := ho
  have hlen : (T.map encStr).length = T.length := List.length_map _
  unfold Own at ho
  rw [hlen] at ho
  have hsl : (T.mergeSort fun x y => decide (x ≤ y)).length = T.length := List.length_mergeSort _
  rcases ho.2 with ⟨rfl, hn⟩ | ⟨g, cap, cur, rfl, hb, hg, h1, h2, h3, h4⟩
  · obtain rfl : T = [] := List.eq_nil_of_length_eq_zero (by simpa using hn)
    refine (AnyM.slices_Sort_string_none laysSort none 0 w).mono ?_
    rintro e w' ⟨rfl, rfl⟩
    exact ⟨rfl, by simpa using ho0, World.grownBy.refl _ _⟩
  · rw [Nat.mul_one] at h4
    by_cases hz : T.length = 0
    · obtain rfl : T = [] := List.eq_nil_of_length_eq_zero hz
      refine (AnyM.slices_Sort_string_none laysSort _ cap w).mono ?_
      rintro e w' ⟨rfl, rfl⟩
      exact ⟨rfl, by simpa using ho0, World.grownBy.refl _ _⟩
    · refine (sortTexts_any g 0 cap T w (holds_of_block hg h4) (Array.getElem?_eq_some_iff.1 hg).1 (by omega)).mono ?_
      rintro e w' ⟨rfl, n, os, rfl⟩
      refine ⟨rfl, ?_, grownBy_sorted _⟩
      have := ownsRow_sorted (n := n) (os := os) (ss := T) (ts := T.mergeSort fun x y => decide (x ≤ y)) hsl hb hg h1 h2 h3
      unfold Own
      rw [List.length_map, hsl]
      exact this

theorem compact_len (T : List (List UInt8)) : (Lib.compact T).length ≤ T.length := by
  unfold Lib.compact Lib.compactUpTo
  rw [List.length_map]
  exact Nat.le_trans (List.length_filter_le _ _) (by simp)
theorem own_front {e : TypeId} {w : World} {B g n cap m : Nat} {cs : List Value} (h : Own e w B (.slice (some ⟨g, 0, none⟩) n cap) cs) (hm : m ≤ cs.length) : Own e w B (.slice (some ⟨g, 0, none⟩) m cap) (cs.take m) := by
  obtain ⟨h1, h2⟩ := h
  rcases h2 with ⟨hv, _⟩ | ⟨g', cap', cur, hv, hb, hg, hle, hx, hs, ht⟩
  · simp at hv
  · simp only [Value.slice.injEq, Option.some.injEq, Addr.mk.injEq, and_true] at hv
    obtain ⟨rfl, rfl, rfl⟩ := hv
    have hlm : (cs.take m).length = m := by simp; omega
    refine ⟨by rw [hlm]; simp, .inr ⟨g, cap, cur, by rw [hlm], hb, hg, by omega, hx, hs, ?_⟩⟩
    rw [hlm, Nat.mul_one]
    rw [Nat.mul_one] at ht
    rw [← ht, List.take_take, Nat.min_eq_left hm]

theorem compact_own (w : World) (B : Nat) (v : Value) (T : List (List UInt8)) (hl : T.length ≤ 1048576) (ho : Own 9 w B v (T.map encStr)) :
    Calls Tryz.prog 26 #[v] w fun e w' => ∃ v', e = .returned v' ∧ Own 9 w' B v' ((Lib.compact T).map encStr) ∧ w.grownBy w' v.ownBlock := by
  have ho0 := ho
  have hlen : (T.map encStr).length = T.length := List.length_map _
  unfold Own at ho
  rw [hlen] at ho
  have hcl := compact_len T
  rcases ho.2 with ⟨rfl, hn⟩ | ⟨g, cap, cur, rfl, hb, hg, h1, h2, h3, h4⟩
  · obtain rfl : T = [] := List.eq_nil_of_length_eq_zero (by simpa using hn)
    refine (AnyG.slices_Compact_string_empty laysCompact none 0 w).mono ?_
    rintro e w' ⟨rfl, rfl⟩
    exact ⟨_, rfl, by simpa [Lib.compact, Lib.compactUpTo] using ho0, World.grownBy.refl _ _⟩
  · rw [Nat.mul_one] at h4
    refine (compactTexts_any g 0 cap T w (holds_of_block hg h4) (by omega) h1).mono ?_
    rintro e w' ⟨rfl, q, rfl⟩
    have hrow : (Lib.compact T ++ List.replicate (T.length - (Lib.compact T).length) ([] : List UInt8)).length = T.length := by simp; omega
    have hgr : ∀ w : World, grow w #[] = w := fun w => by simp [grow]
    have ho2 := ownsRow_sorted (n := q) (os := #[]) (ss := T) (ts := Lib.compact T ++ List.replicate (T.length - (Lib.compact T).length) ([] : List UInt8)) hrow hb hg h1 h2 h3
    have hG := grownBy_sorted (w := w) (g := g) (n := q) (os := #[]) (Lib.compact T ++ List.replicate (T.length - (Lib.compact T).length) ([] : List UInt8)).toArray
    rw [hgr] at ho2 hG
    refine ⟨_, rfl, ?_, hG⟩
    have ho3 : Own 9 (putRow encStr (Sort.ahead w q) g 0 (Lib.compact T ++ List.replicate (T.length - (Lib.compact T).length) ([] : List UInt8)).toArray) B (.slice (some ⟨g, 0, none⟩) T.length cap) ((Lib.compact T ++ List.replicate (T.length - (Lib.compact T).length) ([] : List UInt8)).map encStr) := by
      unfold Own
      rw [List.length_map, hrow]
      exact ho2
    have ho4 := own_front (m := (Lib.compact T).length) ho3 (by simp)
    rw [← List.map_take, List.take_left' rfl] at ho4
    exact ho4

end Go.Proofs.YtfnlnigeaioocaaGreat
