/- Pairs ahead of a place and behind it, put together by slices.Concat. -/
import Derived.Test.YtagnpahkhaighaaLensFind
import Derived.Test.YtagnpahkhaighaaPairConcat
import Derived.Test.YtagnpahkhaighaaStepConcat
namespace Go.Proofs.Ytagnpahkhaighaa
open Go.RowKit
set_option linter.unusedVariables false

theorem prCs_take (ls : List Pr) (p : Nat) : prCs (ls.take p) = (prCs ls).take (p * 2) := by
  by_cases hp : p ≤ ls.length
  · have h := prCs_app (ls.take p) (ls.drop p)
    rw [List.take_append_drop] at h
    have hl := prCs_len (ls.take p)
    rw [List.length_take, Nat.min_eq_left hp] at hl
    rw [h, List.take_append_of_le_length (by omega)]
    exact (List.take_of_length_le (by omega)).symm
  · rw [List.take_of_length_le (by omega), List.take_of_length_le (by rw [prCs_len]; omega)]
theorem prCs_drop (ls : List Pr) (p : Nat) : prCs (ls.drop p) = (prCs ls).drop (p * 2) := by
  by_cases hp : p ≤ ls.length
  · have h := prCs_app (ls.take p) (ls.drop p)
    rw [List.take_append_drop] at h
    have hl := prCs_len (ls.take p)
    rw [List.length_take, Nat.min_eq_left hp] at hl
    have hd : (prCs (ls.take p)).drop (p * 2) = [] := List.drop_eq_nil_of_le (by omega)
    rw [h, List.drop_append_of_le_length (by omega), hd, List.nil_append]
  · rw [List.drop_eq_nil_of_le (by omega), List.drop_eq_nil_of_le (by rw [prCs_len]; omega)]
    rfl
theorem RdM.take {C : Nat} {w : World} {ao : Option Addr} {cap n p : Nat} {ls : List Pr} (h : RdM 2 C w (.slice ao n cap) ls.length (prCs ls)) (hp : p ≤ ls.length) : RdM 2 C w (.slice ao p cap) (ls.take p).length (prCs (ls.take p)) := by
  obtain ⟨hl, ao1, cap1, e, h1, h2, h3, hr⟩ := h
  simp only [Value.slice.injEq] at e
  obtain ⟨rfl, rfl, rfl⟩ := e
  have hlen : (ls.take p).length = p := by simp; omega
  rw [hlen]
  refine ⟨by rw [prCs_len, hlen], _, _, rfl, by omega, h2, h3, fun hpos => ?_⟩
  obtain ⟨g, off, rfl, hg, hc⟩ := hr (by omega)
  refine ⟨g, off, rfl, hg, fun j u hj => hc j u ?_⟩
  rw [prCs_take, List.getElem?_take] at hj
  split at hj
  · exact hj
  · cases hj
theorem RdM.from {C : Nat} {w : World} {ao ao' : Option Addr} {cap n p k c : Nat} {ls : List Pr} (h : RdM 2 C w (.slice ao n cap) ls.length (prCs ls)) (hp : p ≤ ls.length) (hk : k = n - p) (hc' : c = cap - p) (ha : ao' = if cap = p then ao else ao.map (·.add (p * 2))) : RdM 2 C w (.slice ao' k c) (ls.drop p).length (prCs (ls.drop p)) := by
  obtain ⟨hl, ao1, cap1, e, h1, h2, h3, hr⟩ := h
  simp only [Value.slice.injEq] at e
  obtain ⟨rfl, rfl, rfl⟩ := e
  subst hk hc'
  have hlen : (ls.drop p).length = ls.length - p := by simp
  rw [hlen]
  refine ⟨by rw [prCs_len, hlen], _, _, rfl, by omega, by omega, fun hno => ?_, fun hpos => ?_⟩
  · subst ha
    split at hno
    · omega
    · cases ao with
      | none => have := h3 rfl; omega
      | some a => simp at hno
  · obtain ⟨g, off, rfl, hg, hc⟩ := hr (by omega)
    rw [if_neg (by omega)] at ha
    refine ⟨g, off + p * 2, by rw [ha]; rw [Option.map_some, Addr.add_lit], hg, fun j u hj => ?_⟩
    rw [prCs_drop, List.getElem?_drop] at hj
    have := hc (p * 2 + j) u hj
    rwa [← Nat.add_assoc] at this
theorem one_rdM (w : World) (x y : ByteArray) : RdM 2 (w.heap.size + 1) (w.alloc (.cells #[.string x, .string y] 46)) (.slice (some ⟨w.heap.size, 0, none⟩) 1 1) [((x, y) : Pr)].length (prCs [(x, y)]) := by
  refine ⟨rfl, _, _, rfl, Nat.le_refl _, by decide, (fun h => by cases h), fun _ => ⟨w.heap.size, 0, rfl, by omega, fun j u hj => ?_⟩⟩
  match j, hj with
  | 0, hj => cases hj; exact cell_made (Below.refl _ _) (k := 0) rfl
  | 1, hj => cases hj; exact cell_made (Below.refl _ _) (k := 1) rfl
theorem three_atP {w : World} {x y z : Value} {T : TypeId} (k : Nat) (q : Value × List Pr) (X Y Z : List Pr) (h : [(x, X), (y, Y), (z, Z)][k]? = some q) : (w.alloc (.cells #[x, y, z] T)).cell? ⟨w.heap.size, k, none⟩ = some q.1 := by
  match k, h with
  | 0, h => cases h; exact cell_made (Below.refl _ _) (k := 0) rfl
  | 1, h => cases h; exact cell_made (Below.refl _ _) (k := 1) rfl
  | 2, h => cases h; exact cell_made (Below.refl _ _) (k := 2) rfl
theorem two_atP {w : World} {x y : Value} {T : TypeId} (k : Nat) (q : Value × List Pr) (X Y : List Pr) (h : [(x, X), (y, Y)][k]? = some q) : (w.alloc (.cells #[x, y] T)).cell? ⟨w.heap.size, k, none⟩ = some q.1 := by
  match k, h with
  | 0, h => cases h; exact cell_made (Below.refl _ _) (k := 0) rfl
  | 1, h => cases h; exact cell_made (Below.refl _ _) (k := 1) rfl
/-- Concat of the pairs ahead of a place, a new one, and those behind it. -/
theorem concat3_any (C : Nat) (w1 : World) (ao ao' : Option Addr) (n cap p k c : Nat) (ls : List Pr) (x y : ByteArray) (hl : ls.length ≤ 64) (hC : C ≤ w1.heap.size) (hr : RdM 2 C w1 (.slice ao n cap) ls.length (prCs ls)) (hp : p ≤ ls.length) (hk : k = n - p) (hc' : c = cap - p) (ha : ao' = if cap = p then ao else ao.map (·.add (p * 2))) :
    Calls Try.prog 77 #[.slice (some ⟨w1.heap.size + 1, 0, none⟩) 3 3] ((w1.alloc (.cells #[.string x, .string y] 46)).alloc (.cells #[.slice ao p cap, .slice (some ⟨w1.heap.size, 0, none⟩) 1 1, .slice ao' k c] 62)) fun e w' => ∃ r, e = .returned r ∧ OwnPr w' w1.heap.size r (ls.take p ++ (x, y) :: ls.drop p) ∧ Below w1.heap.size w1 w' := by
  have hb1 : Below w1.heap.size w1 (w1.alloc (.cells #[.string x, .string y] 46)) := below_alloc _ _
  have hbw : Below w1.heap.size w1 ((w1.alloc (.cells #[.string x, .string y] 46)).alloc (.cells #[.slice ao p cap, .slice (some ⟨w1.heap.size, 0, none⟩) 1 1, .slice ao' k c] 62)) := below_then hb1 _
  have hs := World.size_alloc w1 (.cells #[.string x, .string y] 46)
  have hc := concatPairs_any ((w1.alloc (.cells #[.string x, .string y] 46)).alloc (.cells #[.slice ao p cap, .slice (some ⟨w1.heap.size, 0, none⟩) 1 1, .slice ao' k c] 62)) (w1.alloc (.cells #[.string x, .string y] 46)).heap.size (w1.heap.size + 1) 3 [(.slice ao p cap, ls.take p), (.slice (some ⟨w1.heap.size, 0, none⟩) 1 1, [(x, y)]), (.slice ao' k c, ls.drop p)] rfl (by decide) (fun k q h => three_atP k q _ _ _ h) (by simp) (by simp) (fun q hq => by
      simp only [List.mem_cons, List.not_mem_nil, or_false] at hq
      rcases hq with rfl | rfl | rfl
      · exact ((hr.take hp).on hC hbw).mono (by omega)
      · exact (one_rdM w1 x y).below ((below_alloc (w1.alloc (.cells #[.string x, .string y] 46)) _).mono (by rw [hs]; exact Nat.le_refl _))
      · exact ((hr.from hp hk hc' ha).on hC hbw).mono (by omega)) (by
      show ((([] ++ ls.take p) ++ [(x, y)]) ++ ls.drop p).length ≤ 1024
      simp
      omega)
  rw [hs] at hc
  refine hc.mono ?_
  rintro e w' ⟨r, rfl, ho, hb⟩
  refine ⟨r, rfl, ?_, hbw.trans (hb.mono hbw.size)⟩
  have hcat : catPr [(.slice ao p cap, ls.take p), (.slice (some ⟨w1.heap.size, 0, none⟩) 1 1, [(x, y)]), (.slice ao' k c, ls.drop p)] 3 = ls.take p ++ (x, y) :: ls.drop p := by
    show (([] ++ ls.take p) ++ [(x, y)]) ++ ls.drop p = _
    simp
  rw [hcat] at ho
  exact ownM_mono ho hbw.size
theorem concat2_any (C : Nat) (w1 : World) (ao ao' : Option Addr) (n cap p k c : Nat) (ls : List Pr) (hl : ls.length ≤ 64) (hC : C ≤ w1.heap.size) (hr : RdM 2 C w1 (.slice ao n cap) ls.length (prCs ls)) (hp : p + 1 ≤ ls.length) (hk : k = n - (p + 1)) (hc' : c = cap - (p + 1)) (ha : ao' = if cap = p + 1 then ao else ao.map (·.add ((p + 1) * 2))) :
    Calls Try.prog 77 #[.slice (some ⟨w1.heap.size, 0, none⟩) 2 2] (w1.alloc (.cells #[.slice ao p cap, .slice ao' k c] 62)) fun e w' => ∃ r, e = .returned r ∧ OwnPr w' w1.heap.size r (ls.take p ++ ls.drop (p + 1)) ∧ Below w1.heap.size w1 w' := by
  have hbw : Below w1.heap.size w1 (w1.alloc (.cells #[.slice ao p cap, .slice ao' k c] 62)) := below_alloc _ _
  have hs := World.size_alloc w1 (.cells #[.slice ao p cap, .slice ao' k c] 62)
  have hc := concatPairs_any (w1.alloc (.cells #[.slice ao p cap, .slice ao' k c] 62)) w1.heap.size C 2 [(.slice ao p cap, ls.take p), (.slice ao' k c, ls.drop (p + 1))] rfl (by decide) (fun k q h => two_atP k q _ _ h) (by simp) (by rw [hs]; omega) (fun q hq => by
      simp only [List.mem_cons, List.not_mem_nil, or_false] at hq
      rcases hq with rfl | rfl
      · exact (hr.take (by omega)).on hC hbw
      · exact (hr.from hp hk hc' ha).on hC hbw) (by
      show (([] ++ ls.take p) ++ ls.drop (p + 1)).length ≤ 1024
      simp
      omega)
  refine hc.mono ?_
  rintro e w' ⟨r, rfl, ho, hb⟩
  refine ⟨r, rfl, ?_, hbw.trans (hb.mono hbw.size)⟩
  have hcat : catPr [(.slice ao p cap, ls.take p), (.slice ao' k c, ls.drop (p + 1))] 2 = ls.take p ++ ls.drop (p + 1) := by
    show ([] ++ ls.take p) ++ ls.drop (p + 1) = _
    simp
  rw [hcat] at ho
  exact ownM_mono ho hbw.size

end Go.Proofs.Ytagnpahkhaighaa
