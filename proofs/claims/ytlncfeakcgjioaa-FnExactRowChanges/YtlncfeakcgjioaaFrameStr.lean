/- What a slice of texts that came in says of memory; it can be read. -/
import Derived.Test.YtlncfeakcgjioaaTextsBase
import Derived.Test.YtlncfeakcgjioaaFrame
import Derived.SliceStrings
namespace Go.Proofs.Ytlncfeakcgjioaa
open Go.RowKit
set_option linter.unusedVariables false

/-- A slice of texts that came in: nil, or a row of cap cells, the first len of which are its elements. -/
def IsStrs (w : World) (a : Option Addr) (len cap : Nat) (zs : List ByteArray) : Prop :=
  (a = none ∧ len = 0 ∧ cap = 0 ∧ zs = []) ∨
  ∃ x, a = some x ∧ len ≤ cap ∧ cap ≤ maxLen ∧ zs.length = cap ∧ (∀ i, i < zs.length → w.cell? (x.add i) = some (.string (zs.getD i ByteArray.empty))) ∧ ∀ s ∈ zs, s.size ≤ maxLen

theorem IsStrs.rd {w : World} {a : Option Addr} {len cap : Nat} {zs : List ByteArray} (h : IsStrs w a len cap zs) : Rd w.heap.size w (.slice a len cap) ((zs.take len).map Value.string) ∧ (zs.take len).length ≤ maxLen ∧ ∀ k, (txt (zs.take len) k).size ≤ maxLen := by
  rcases h with ⟨rfl, rfl, rfl, rfl⟩ | ⟨x, rfl, hl, hm, hz, hc, hw⟩
  · exact ⟨⟨none, 0, rfl, Nat.le_refl _, Nat.zero_le _, (fun _ => rfl), fun h => absurd h (by simp)⟩, Nat.zero_le _, fun k => by simp [txt]⟩
  · have e : (zs.take len).length = len := by simp; omega
    refine ⟨⟨some x, cap, by rw [List.length_map, e], by rw [List.length_map, e]; exact hl, hm, (fun h => by cases h), fun hp => ?_⟩, by omega, fun k => ?_⟩
    · rw [List.length_map, e] at hp
      obtain ⟨b, off, spot⟩ := x
      have hspot : spot = none := by simpa [Addr.add] using World.cell?_spot (hc 0 (by omega))
      subst hspot
      have h0 := lt_of_cell (hc 0 (by omega))
      refine ⟨b, off, rfl, by simpa [Addr.add] using h0, fun j u hj => ?_⟩
      have hj1 := (List.getElem?_eq_some_iff.1 hj).1
      rw [List.length_map, e] at hj1
      have := hc j (by omega)
      rw [Addr.add_lit] at this
      rw [this, ← hj]
      simp [hj1, show j < zs.length by omega]
    · by_cases hk : k < len
      · have : txt (zs.take len) k ∈ zs := by
          simp only [txt, List.getD]
          rw [List.getElem?_take, if_pos hk, List.getElem?_eq_getElem (by omega)]
          exact List.getElem_mem _
        exact hw _ this
      · have : txt (zs.take len) k = ByteArray.empty := by simp only [txt, List.getD]; rw [List.getElem?_eq_none (by omega)]; rfl
        rw [this]
        exact Nat.zero_le _
end Go.Proofs.Ytlncfeakcgjioaa
