/- What next does: one more of an actor's is counted, and the stamp for it. What multiOf does: the map of a register of several, and whether it is valid. -/
import Derived.Deep.CutRange
import Derived.Test.YtfnlnigeaioocaaGreatQTakeKit
import Derived.Test.YtfnlnigeaioocaaGreatQJoinedBaseToEntRows
import Derived.Test.YtfnlnigeaioocaaGreatQInfoToTrBase
import Derived.Test.YtfnlnigeaioocaaGreatQJoinedOf
import Derived.Test.YtfnlnigeaioocaaGreatQSetOf
namespace Go.Proofs.YtfnlnigeaioocaaGreat
open Go.RowKit
set_option linter.unusedVariables false

theorem Jm.count {w : World} {n b : Nat} {X : List Int} (h : Jm w n X b) (hX : X.length = 16) {k : Nat} (hk : k < 16) (x : Int) : Jm (w.setCell ⟨n, k, none⟩ (.int .i64 x)) n (X.set k x) b := by
  obtain ⟨h1, h2⟩ := h
  have hlen : (arrC X ++ [Value.map (some b)]).length = 17 := by simp [arrC_len, hX]
  refine ⟨fun j v hj => ?_, fun j hj => ?_⟩
  · by_cases e : j = k
    · subst e
      rw [Nat.zero_add]
      have hv : v = .int .i64 x := by
        have : (arrC (X.set j x) ++ [Value.map (some b)])[j]? = some (.int .i64 x) := by
          rw [List.getElem?_append_left (by simp [arrC_len, hX]; omega)]
          simp [arrC, hX, hk]
        rw [this] at hj
        exact (Option.some.inj hj).symm
      rw [hv]
      refine World.cell?_setCell_same' w ⟨n, j, none⟩ (.int .i64 x) ?_
      have := (h2 j (by omega)).1
      rwa [Nat.zero_add] at this
    · have hj' : (arrC X ++ [Value.map (some b)])[j]? = some v := by
        rw [← hj]
        by_cases hl : j < 16
        · rw [List.getElem?_append_left (by simp [arrC_len, hX]; omega), List.getElem?_append_left (by simp [arrC_len, hX]; omega)]
          simp [arrC, List.getElem?_set_ne (fun e' => e e'.symm)]
        · rw [List.getElem?_append_right (by simp [arrC_len, hX]; omega), List.getElem?_append_right (by simp [arrC_len, hX]; omega)]
          simp [arrC_len, hX]
      have := h1 j v hj'
      rw [Nat.zero_add] at this ⊢
      rw [World.cell?_setCell_other w ⟨n, k, none⟩ ⟨n, j, none⟩ _ (by first | (simp; done) | (simp; omega))]
      exact this
  · have := h2 j hj
    rw [Nat.zero_add] at this ⊢
    refine ⟨?_, by rw [World.frozen?_setCell]; exact this.2⟩
    by_cases e : j = k
    · subst e
      rw [World.cell?_setCell_same' w ⟨n, j, none⟩ (.int .i64 x) this.1]
      rfl
    · rw [World.cell?_setCell_other w ⟨n, k, none⟩ ⟨n, j, none⟩ _ (by first | (simp; done) | (simp; omega))]
      exact this.1

set_option maxHeartbeats 2000000 in
set_option maxRecDepth 100000 in
theorem next_any (w : World) (n b : Nat) (X : List Int) (a : Nat) (hJ : Jm w n X b) (hX : X.length = 16) (ha : a < 16) (h0 : 0 ≤ X.getD a 0) (h1 : X.getD a 0 ≤ 1000000000000) :
    Calls Tryz.prog 16 #[.pointer (some ⟨n, 0, none⟩), .int .i64 (a : Int)] w fun e w' =>
      (X.getD a 0 = 1000000000000 ∧ e = .returned (.tuple #[.agg #[.int .i64 0, .int .i64 0], .int .i64 11]) ∧ Below w.heap.size w w') ∨
      (X.getD a 0 ≠ 1000000000000 ∧ e = .returned (.tuple #[.agg #[.int .i64 (X.getD a 0 + 1), .int .i64 (a : Int)], .int .i64 0]) ∧ Jm w' n (X.set a (X.getD a 0 + 1)) b ∧ w.grownBy w' (some n)) := by
  have hB0 := below_alloc w (.cells #[.int .i64 0, .int .i64 0] 56)
  have hJ1 := hJ.on hB0
  have hg : X.getD a 0 = X[a] := by simp [List.getD, hX, ha]
  have c0 := hJ1.cnt (k := a) (by omega)
  rw [← hg] at c0
  have hfr := (hJ1.2 a (by omega)).2
  rw [Nat.zero_add] at hfr
  have hJ2 := hJ1.count hX ha (X.getD a 0 + 1)
  have HJ2 : Hid _ := hJ2
  generalize X.getD a 0 = x at *
  have b0 : (0 : Int) ≤ (a : Int) := by omega
  have b1 : (a : Int) < 16 := by omega
  clear hg hJ2
  by_cases hx : x = 1000000000000
  · subst hx
    go_enter Tryz.func16, Tryz.ntmps16
    go_wp2_with fail
    refine bodyPost_ret (v := .tuple #[.agg #[.int .i64 0, .int .i64 0], .int .i64 11]) ?_ rfl (.inl ⟨by first | rfl | trivial, rfl, ?_⟩)
    · simp [results, Tryz.results16, go_sem]
    · first | exact hB0 | exact (hB0.setCell (p := ⟨w.heap.size, 0, none⟩) (Nat.le_refl _) _).setCell (p := ⟨w.heap.size, 1, none⟩) (Nat.le_refl _) _
  · have hxd : decide (x = 1000000000000) = false := by simp [hx]
    go_enter Tryz.func16, Tryz.ntmps16
    go_upto_region 3 with fail
    refine wp_region_held_drew (S := fun w' => True) (by kernel_rfl) trivial (fun hHeld => ?_)
    refine tkH 0 ((.pointer (some ⟨n, 0, none⟩))) rfl (Or.inl ⟨by rfl, by intro w hSw; go_simp⟩) hHeld ?_
    simp only [tkS, Act.put]
    refine tkH 1 ((.int .i64 (a : Int))) rfl (Or.inl ⟨by rfl, by intro w hSw; go_simp⟩) hHeld ?_
    simp only [tkS, Act.put]
    refine tkH 2 ((.pointer (some ⟨n, 0, none⟩))) rfl (Or.inl ⟨by rfl, by intro w hSw; go_simp⟩) hHeld ?_
    simp only [tkS, Act.put]
    refine tkH 3 ((.pointer (some ⟨n, 0, none⟩))) rfl (Or.inl ⟨by rfl, by intro w hSw; go_simp⟩) hHeld ?_
    simp only [tkS, Act.put]
    refine tkH 4 ((.pointer (some ⟨n, a, none⟩))) rfl (Or.inl ⟨by rfl, by intro w hSw; go_simp⟩) hHeld ?_
    simp only [tkS, Act.put]
    refine tkH 7 ((.pointer (some ⟨n, 0, none⟩))) rfl (Or.inl ⟨by rfl, by intro w hSw; go_simp⟩) hHeld ?_
    simp only [tkS, Act.put]
    refine tkH 8 ((.pointer (some ⟨n, 0, none⟩))) rfl (Or.inl ⟨by rfl, by intro w hSw; go_simp⟩) hHeld ?_
    simp only [tkS, Act.put]
    refine wpAnyH_ready (rs := [5]) (by kernel_rfl) (by simp) ?_
    refine AllReadyH.cons rfl (fun K hK => ?_) AllReadyH.nil
    go_simp
    refine hK.out _ _ trivial (fun hHeld1 => ?_)
    clear hK K
    refine wpAnyH_take (i := 6) (v := (.int .i64 (x + 1))) rfl (by kernel_rfl) (by kernel_rfl) (by kernel_rfl) (fun _ _ _ h => h) (Or.inl ⟨by rfl, by intro w hSw; go_simp; rw [IntKind.wrap_i64]; omega⟩) hHeld1 ?_
    simp only [tkS, Act.put]
    refine wpAnyH_take (i := 9) (v := (.pointer (some ⟨n, a, none⟩))) rfl (by kernel_rfl) (by kernel_rfl) (by kernel_rfl) (fun _ _ _ h => h) (Or.inl ⟨by rfl, by intro w hSw; go_simp⟩) hHeld1 ?_
    simp only [tkS, Act.put]
    refine wpAnyH_ready (rs := [10]) (by kernel_rfl) (by simp) ?_
    refine AllReadyH.cons rfl (fun K hK => ?_) AllReadyH.nil
    go_simp
    refine hK.out _ _ trivial (fun hHeld2 => ?_)
    clear hK K
    refine wpAnyH_done (by kernel_rfl) ?_ _
    have hlt := hJ.lt
    have hD : Dy ((w.alloc (.cells #[.int .i64 0, .int .i64 0] 56)).setCell ⟨n, a, none⟩ (.int .i64 (x + 1))).drew w.heap.size (.int .i64 0) (.int .i64 0) := (Dy.made w (.int .i64 0) (.int .i64 0) 56).aside (by omega) a (.int .i64 (x + 1))
    have HJ3 : Hid (Jm ((w.alloc (.cells #[.int .i64 0, .int .i64 0] 56)).setCell ⟨n, a, none⟩ (.int .i64 (x + 1))).drew n (X.set a (x + 1)) b) := HJ2.out
    have cN : ((w.alloc (.cells #[.int .i64 0, .int .i64 0] 56)).setCell ⟨n, a, none⟩ (.int .i64 (x + 1))).drew.cell? ⟨n, a, none⟩ = some (.int .i64 (x + 1)) := by
      have := Jm.cnt HJ3.out (k := a) (by simp; omega)
      rw [List.getElem_set_self] at this
      exact this
    have hG : w.grownBy ((w.alloc (.cells #[.int .i64 0, .int .i64 0] 56)).setCell ⟨n, a, none⟩ (.int .i64 (x + 1))).drew (some n) := grownBy_trans (grownBy_trans (World.grownBy_alloc w _ (some n)) (grownBy_set _ n a _)) (grownBy_drewN _ 1 _)
    clear HJ2 c0 hfr hHeld hHeld1 hHeld2 hJ1
    generalize ((w.alloc (.cells #[.int .i64 0, .int .i64 0] 56)).setCell ⟨n, a, none⟩ (.int .i64 (x + 1))).drew = w3 at *
    obtain ⟨⟨d0, d1⟩, df⟩ := hD
    have f0 := df 0
    have f1 := df 1
    have hR := (Dy.set1 (Dy.set0 (show Dy w3 w.heap.size _ _ from ⟨⟨d0, d1⟩, df⟩) (.int .i64 (x + 1))) (.int .i64 (a : Int))).1
    have HR : Hid _ := hR
    clear hR
    go_wp2_with fail
    refine bodyPost_ret (v := .tuple #[.agg #[.int .i64 (x + 1), .int .i64 (a : Int)], .int .i64 0]) ?_ rfl (.inr ⟨hx, rfl, ?_, ?_⟩)
    · simp [results, Tryz.results16, go_sem, HR.out.1, HR.out.2]
    · exact (Jm.kept (Jm.kept HJ3.out (grownBy_set w3 w.heap.size 0 _) (by simp; omega)) (grownBy_set _ w.heap.size 1 _) (by simp; omega))
    · exact ⟨hG.os, hG.tape, hG.output, by simpa using hG.size, fun i hi hn => ((heap_setCell_other _ ⟨w.heap.size, 1, none⟩ i _ (by show i ≠ w.heap.size; omega)).trans (heap_setCell_other w3 ⟨w.heap.size, 0, none⟩ i _ (by show i ≠ w.heap.size; omega))).trans (hG.block i hi hn)⟩

end Go.Proofs.YtfnlnigeaioocaaGreat

namespace Go.Proofs.YtfnlnigeaioocaaGreat
open Go.RowKit
set_option linter.unusedVariables false

end Go.Proofs.YtfnlnigeaioocaaGreat
