/- A pair less, by the code: without. -/
import Derived.Test.YtagnpahkhaighaaLensWith
import Derived.Test.YtagnpahkhaighaaTakeKit
namespace Go.Proofs.Ytagnpahkhaighaa
open Go.RowKit
set_option linter.unusedVariables false

theorem cell_aside2 {w : World} {g o n : Nat} {v : Value} (h : w.cell? ⟨g, o, none⟩ = some v) (hn : g ≠ n) (x y : Value) : ((w.setCell ⟨n, 0, none⟩ x).setCell ⟨n, 1, none⟩ y).cell? ⟨g, o, none⟩ = some v := by
  have o1 : ∀ (w : World) (j : Nat) (u : Value), (w.setCell ⟨n, j, none⟩ u).cell? ⟨g, o, none⟩ = w.cell? ⟨g, o, none⟩ := fun w j u => World.cell?_setCells_out n [u] j w _ (fun e => absurd e hn)
  rw [o1, o1]
  exact h

set_option maxHeartbeats 4000000 in
set_option maxRecDepth 100000 in
theorem withoutI_any (C : Nat) (w : World) (v : Value) (ls : List Pr) (x : ByteArray) (hl : ls.length ≤ 64) (hR : Rises ls) (hC : C ≤ w.heap.size) (hr : RdM 2 C w v ls.length (prCs ls)) :
    Calls Try.prog 76 #[v, .string x] w fun e w' => ∃ r a b c, e = .returned (.tuple #[r, .agg #[.string a, .string b], .int .i64 c]) ∧ (hasP x ls = true → c = 0 ∧ b = (prAt ls (posP x ls)).2 ∧ OwnPr w' w.heap.size r (dropP x ls)) ∧ (hasP x ls = false → c = 14 ∧ r = .slice none 0 0) ∧ Below w.heap.size w w' := by
  have hF := fun w' (hw : Below w.heap.size w w') => findI_any C w' v ls x hl hR (Nat.le_trans hC hw.size) (hr.on hC hw).pr
  obtain ⟨ao, cap, e, hcap, hmax⟩ : ∃ ao cap, v = .slice ao ls.length cap ∧ ls.length ≤ cap ∧ cap ≤ maxLen := by obtain ⟨_, ao, cap, e, h1, h2, _⟩ := hr; exact ⟨ao, cap, e, h1, h2⟩
  subst e
  have HR : Hid (∀ w', Below w.heap.size w w' → RdM 2 C w' (.slice ao ls.length cap) ls.length (prCs ls)) := fun w' hw => hr.on hC hw
  have HP : Hid (dropP x ls = ls.take (posP x ls) ++ ls.drop (posP x ls + 1)) := rfl
  have HL : Hid (hasP x ls = true → posP x ls < ls.length) := fun h => (hasP_lt h).1
  generalize dropP x ls = pp at *
  generalize posP x ls = P at *
  have hF0 := hF (w.alloc (.cells #[.string ⟨#[]⟩, .string ⟨#[]⟩] 46)) (below_alloc _ _)
  have HBX : Hid (∀ w', Below (w.alloc (.cells #[.string ⟨#[]⟩, .string ⟨#[]⟩] 46)).heap.size (w.alloc (.cells #[.string ⟨#[]⟩, .string ⟨#[]⟩] 46)) w' → Below w.heap.size w w') := fun w' h => below_seq (below_alloc _ _) h
  clear hF hr hR
  cases hb : hasP x ls with
  | false =>
    rw [hb] at hF0
    clear HL
    go_enter Try.func76, Try.ntmps76
    go_wp2_with fail
    refine hF0.mono ?_
    rintro e w1 ⟨rfl, hb1⟩
    obtain ⟨c0, c1⟩ := two_cellsL hb1
    have f0 := frozen_made hb1 0
    have f1 := frozen_made hb1 1
    have hbw := HBX.out _ hb1
    clear hF0 HBX
    go_wp2_with fail
    have hput := two_putL c0 c1 (.string ⟨#[]⟩) (.string ⟨#[]⟩)
    refine bodyPost_ret (v := .tuple #[.slice none 0 0, .agg #[.string ⟨#[]⟩, .string ⟨#[]⟩], .int .i64 14]) ?_ rfl ⟨_, ⟨#[]⟩, ⟨#[]⟩, 14, rfl, (fun h => by cases h), fun _ => ⟨rfl, rfl⟩, ?_⟩
    · simp [results, Try.results76, go_sem, hput.1, hput.2]
    · exact (hbw.setCell (p := ⟨w.heap.size, 0, none⟩) (Nat.le_refl _) _).setCell (p := ⟨w.heap.size, 1, none⟩) (Nat.le_refl _) _
  | true =>
    rw [hb] at hF0
    have hP := HL.out hb
    have j0 : (0 : Int) ≤ (P : Int) := by omega
    have j1 : (P : Int) ≤ (ls.length : Int) := by omega
    have j2 : (P : Int) ≤ (cap : Int) := by omega
    obtain ⟨P1, hP1⟩ : ∃ P1 : Nat, P1 = P + 1 := ⟨_, rfl⟩
    have HP1 : Hid (P1 = P + 1) := hP1
    have jq : (P : Int) + 1 = (P1 : Int) := by omega
    have j7 : (0 : Int) ≤ (P1 : Int) := by omega
    have j8 : (P1 : Int) ≤ (ls.length : Int) := by omega
    have j9 : (P1 : Int) ≤ (cap : Int) := by omega
    have hPl : P1 ≤ ls.length := by omega
    have j5 : (P : Int) < (ls.length : Int) := by omega
    have j6 : (P1 : Int) < 9223372036854775808 := by omega
    clear hP1
    go_enter Try.func76, Try.ntmps76
    go_wp2_with fail
    refine hF0.mono ?_
    rintro e w1 ⟨rfl, hb1⟩
    obtain ⟨c0, c1⟩ := two_cellsL hb1
    have f0 := frozen_made hb1 0
    have f1 := frozen_made hb1 1
    have hbw := HBX.out _ hb1
    have hs2 : w.heap.size < w1.heap.size := by have := hb1.size; rw [World.size_alloc] at this; omega
    clear hF0 HBX hb1
    go_wp2_with fail
    have hs1 := hbw.size
    have hRd := HR.out _ hbw
    obtain ⟨_, ao1, cap1, ee, _, _, _, hrr⟩ := hRd
    simp only [Value.slice.injEq] at ee
    obtain ⟨rfl, _, rfl⟩ := ee
    obtain ⟨g, off, rfl, hg, hc⟩ := hrr (by omega)
    have e0 : w1.drew.cell? ⟨g, off + P * 2, none⟩ = _ := hc _ _ (prCs_at hP).1
    have e1 : w1.drew.cell? ⟨g, off + P * 2 + 1, none⟩ = _ := hc _ _ (prCs_at hP).2
    have HCC : Hid (∀ ao' k c, k = ls.length - P1 → c = cap - P1 → (ao' = if cap = P1 then some ⟨g, off, none⟩ else (some (⟨g, off, none⟩ : Addr)).map (·.add (P1 * 2))) → Calls Try.prog 77 #[.slice (some ⟨w1.heap.size, 0, none⟩) 2 2] (w1.alloc (.cells #[.slice (some ⟨g, off, none⟩) P cap, .slice ao' k c] 62)).drew fun e w' => ∃ r, e = .returned r ∧ OwnPr w' w1.heap.size r (ls.take P ++ ls.drop (P + 1)) ∧ Below w1.heap.size w1.drew w') := fun ao' k c h1 h2 h3 => by
      have hq := HP1.out
      subst hq
      exact concat2_any C w1.drew (some ⟨g, off, none⟩) ao' ls.length cap P k c ls hl (Nat.le_trans hC hs1) (HR.out _ hbw.drew) hPl h1 h2 h3
    obtain ⟨A, HA9⟩ : ∃ A, (prAt ls P).1 = A := ⟨_, rfl⟩
    obtain ⟨B, HB9⟩ : ∃ B, (prAt ls P).2 = B := ⟨_, rfl⟩
    rw [HA9] at e0
    rw [HB9] at e1
    have HB : Hid ((prAt ls P).2 = B) := HB9
    clear HA9 HB9
    clear HR hrr hc HL
    by_cases hcP : cap = P1
    · have HcP : Hid _ := hcP
      have HZ : Hid (Calls Try.prog 77 #[.slice (some ⟨w1.heap.size, 0, none⟩) 2 2] (w1.alloc (.cells #[.slice (some ⟨g, off, none⟩) P cap, .slice (some ⟨g, off, none⟩) (ls.length - P1) 0] 62)).drew fun e w' => ∃ r, e = .returned r ∧ OwnPr w' w1.heap.size r (ls.take P ++ ls.drop (P + 1)) ∧ Below w1.heap.size w1.drew w') := HCC.out _ _ 0 rfl (by omega) (by rw [if_pos hcP])
      clear HCC hcP
      refine wp_region_held_drew (S := fun w' => w'.cell? ⟨g, off + P * 2, none⟩ = some (.string A) ∧ w'.cell? ⟨g, off + P * 2 + 1, none⟩ = some (.string B)) (by kernel_rfl) ⟨e0, e1⟩ (fun hHeld => ?_)
      refine tkH 0 (.slice (some ⟨g, off, none⟩) ls.length cap) rfl (Or.inl ⟨by kernel_rfl, by intro w hSw; clear hSw; go_simp⟩) hHeld ?_
      simp only [tkS, Act.put]
      refine tkH 1 (.int .i64 (P : Int)) rfl (Or.inl ⟨by kernel_rfl, by intro w hSw; clear hSw; go_simp⟩) hHeld ?_
      simp only [tkS, Act.put]
      refine tkH 2 (.slice (some ⟨g, off, none⟩) P cap) rfl (Or.inl ⟨by kernel_rfl, by intro w hSw; clear hSw; go_simp⟩) hHeld ?_
      simp only [tkS, Act.put]
      refine tkH 3 (.slice (some ⟨g, off, none⟩) ls.length cap) rfl (Or.inl ⟨by kernel_rfl, by intro w hSw; clear hSw; go_simp⟩) hHeld ?_
      simp only [tkS, Act.put]
      refine tkH 4 (.int .i64 (P : Int)) rfl (Or.inl ⟨by kernel_rfl, by intro w hSw; clear hSw; go_simp⟩) hHeld ?_
      simp only [tkS, Act.put]
      refine tkH 5 (.int .i64 (P1 : Int)) rfl (Or.inl ⟨by kernel_rfl, by intro w hSw; clear hSw; have HJ : Hid _ := jq; clear jq; have j6q : (P : Int) + 1 < 9223372036854775808 := (by have := HP1.out; omega); go_simp; have hq9 := HJ.out; rw [IntKind.wrap_i64]; omega⟩) hHeld ?_
      simp only [tkS, Act.put]
      refine tkH 6 (.slice (some ⟨g, off, none⟩) (ls.length - P1) 0) rfl (Or.inl ⟨by kernel_rfl, by intro w hSw; clear hSw; (first | (go_simp; exact HcP.out) | (go_simp; have := HcP.out; simp [this]; done) | (go_simp; done))⟩) hHeld ?_
      simp only [tkS, Act.put]
      refine tkH 9 (.slice (some ⟨g, off, none⟩) ls.length cap) rfl (Or.inl ⟨by kernel_rfl, by intro w hSw; clear hSw; go_simp⟩) hHeld ?_
      simp only [tkS, Act.put]
      refine tkH 10 (.int .i64 (P : Int)) rfl (Or.inl ⟨by kernel_rfl, by intro w hSw; clear hSw; go_simp⟩) hHeld ?_
      simp only [tkS, Act.put]
      refine tkH 11 (.pointer (some ⟨g, off + P * 2, none⟩)) rfl (Or.inl ⟨by kernel_rfl, by intro w hSw; clear hSw; go_simp⟩) hHeld ?_
      simp only [tkS, Act.put]
      refine tkH 12 (.agg #[.string A, .string B]) rfl (Or.inl ⟨by kernel_rfl, by intro w hSw; obtain ⟨q0, q1⟩ := hSw; go_simp⟩) hHeld ?_
      simp only [tkS, Act.put]
      refine wpAnyH_ready (rs := [7]) (by kernel_rfl) (by simp) ?_
      refine AllReadyH.cons rfl (fun K hK => ?_) AllReadyH.nil
      rw [if_pos (by kernel_rfl)]
      go_simp
      refine hK.out _ _ ⟨cell_on (below_alloc w1.drew _) hHeld.1, cell_on (below_alloc w1.drew _) hHeld.2⟩ (fun hH7 => ?_)
      clear hK K
      refine wpAnyH_ready (rs := [8]) (by kernel_rfl) (by simp) ?_
      refine AllReadyH.cons rfl (fun K hK => ?_) AllReadyH.nil
      rw [if_pos (by kernel_rfl)]
      go_simp
      refine (HZ.out).mono ?_
      rintro e w3 ⟨r, rfl, ho3, hb3⟩
      obtain ⟨ra, rn, rc, hre⟩ := own_sliceP ho3
      subst hre
      have hx0 := (hb3.cell (p := ⟨w.heap.size, 0, none⟩) (by show w.heap.size < _; omega)).trans c0
      have hx1 := (hb3.cell (p := ⟨w.heap.size, 1, none⟩) (by show w.heap.size < _; omega)).trans c1
      have hf0 := (frozen_onL hb3 hs2 0).trans f0
      have hf1 := (frozen_onL hb3 hs2 1).trans f1
      refine hK.out _ _ ⟨(hb3.cell (p := ⟨g, off + P * 2, none⟩) (by show g < _; omega)).trans e0, (hb3.cell (p := ⟨g, off + (P * 2 + 1), none⟩) (by show g < _; omega)).trans e1⟩ (fun hH8 => ?_)
      clear hK K hH7 hHeld
      refine tkH 13 (.slice ra rn rc) rfl (Or.inl ⟨by kernel_rfl, by intro w hSw; clear hSw; go_simp⟩) hH8 ?_
      simp only [tkS, Act.put]
      refine wpAnyH_ready (rs := [14]) (by kernel_rfl) (by simp) ?_
      refine AllReadyH.cons rfl (fun K hK => ?_) AllReadyH.nil
      rw [if_pos (by kernel_rfl)]
      go_simp
      refine hK.out _ _ ?heldL (fun hH9 => ?_)
      case heldL => exact ⟨cell_aside2 hH8.1 (by omega) _ _, cell_aside2 hH8.2 (by omega) _ _⟩
      clear hK K hH8
      refine tkH 15 (.int .i64 0) rfl (Or.inl ⟨by kernel_rfl, by intro w hSw; clear hSw; go_simp⟩) hH9 ?_
      simp only [tkS, Act.put]
      refine wpAnyH_done (by kernel_rfl) ?_ _
      have hput := two_putL hx0 hx1 (.string A) (.string B)
      have HEND : Hid (OwnPr ((w3.setCell ⟨w.heap.size, 0, none⟩ (.string A)).setCell ⟨w.heap.size, 1, none⟩ (.string B)) w.heap.size (.slice ra rn rc) pp ∧ Below w.heap.size w ((w3.setCell ⟨w.heap.size, 0, none⟩ (.string A)).setCell ⟨w.heap.size, 1, none⟩ (.string B))) := by
        refine ⟨?_, (((hbw.drew).trans (hb3.mono hs1)).setCell (p := ⟨w.heap.size, 0, none⟩) (Nat.le_refl _) _).setCell (p := ⟨w.heap.size, 1, none⟩) (Nat.le_refl _) _⟩
        rw [HP.out]
        exact ownM_put2 (w := w1) (ownM_mono ho3 hs1) (fun k hk => (World.ownsRow.lt ho3 k hk).1) hs2 _ _
      clear hx0 hx1 hf0 hf1 ho3 hb3 hH9
      go_wp2_with fail
      refine bodyPost_ret (v := .tuple #[.slice ra rn rc, .agg #[.string A, .string B], .int .i64 0]) ?_ rfl ⟨_, A, B, 0, rfl, (by first | exact fun _ => ⟨rfl, HB.out.symm, HEND.out.1⟩ | exact ⟨rfl, HB.out.symm, HEND.out.1⟩), (by first | exact fun h => (by cases h) | trivial | (intro h; simp at h)), HEND.out.2⟩
      simp [results, Try.results76, go_sem, hput.1, hput.2]
    · have HcP : Hid _ := hcP
      have HZ : Hid (Calls Try.prog 77 #[.slice (some ⟨w1.heap.size, 0, none⟩) 2 2] (w1.alloc (.cells #[.slice (some ⟨g, off, none⟩) P cap, .slice (some ⟨g, off + P1 * 2, none⟩) (ls.length - P1) (cap - P1)] 62)).drew fun e w' => ∃ r, e = .returned r ∧ OwnPr w' w1.heap.size r (ls.take P ++ ls.drop (P + 1)) ∧ Below w1.heap.size w1.drew w') := HCC.out _ _ _ rfl rfl (by rw [if_neg hcP, Option.map_some, Addr.add_lit])
      clear HCC hcP
      refine wp_region_held_drew (S := fun w' => w'.cell? ⟨g, off + P * 2, none⟩ = some (.string A) ∧ w'.cell? ⟨g, off + P * 2 + 1, none⟩ = some (.string B)) (by kernel_rfl) ⟨e0, e1⟩ (fun hHeld => ?_)
      refine tkH 0 (.slice (some ⟨g, off, none⟩) ls.length cap) rfl (Or.inl ⟨by kernel_rfl, by intro w hSw; clear hSw; go_simp⟩) hHeld ?_
      simp only [tkS, Act.put]
      refine tkH 1 (.int .i64 (P : Int)) rfl (Or.inl ⟨by kernel_rfl, by intro w hSw; clear hSw; go_simp⟩) hHeld ?_
      simp only [tkS, Act.put]
      refine tkH 2 (.slice (some ⟨g, off, none⟩) P cap) rfl (Or.inl ⟨by kernel_rfl, by intro w hSw; clear hSw; go_simp⟩) hHeld ?_
      simp only [tkS, Act.put]
      refine tkH 3 (.slice (some ⟨g, off, none⟩) ls.length cap) rfl (Or.inl ⟨by kernel_rfl, by intro w hSw; clear hSw; go_simp⟩) hHeld ?_
      simp only [tkS, Act.put]
      refine tkH 4 (.int .i64 (P : Int)) rfl (Or.inl ⟨by kernel_rfl, by intro w hSw; clear hSw; go_simp⟩) hHeld ?_
      simp only [tkS, Act.put]
      refine tkH 5 (.int .i64 (P1 : Int)) rfl (Or.inl ⟨by kernel_rfl, by intro w hSw; clear hSw; have HJ : Hid _ := jq; clear jq; have j6q : (P : Int) + 1 < 9223372036854775808 := (by have := HP1.out; omega); go_simp; have hq9 := HJ.out; rw [IntKind.wrap_i64]; omega⟩) hHeld ?_
      simp only [tkS, Act.put]
      refine tkH 6 (.slice (some ⟨g, off + P1 * 2, none⟩) (ls.length - P1) (cap - P1)) rfl (Or.inl ⟨by kernel_rfl, by intro w hSw; clear hSw; (first | (go_simp; exact HcP.out) | (go_simp; have := HcP.out; simp [this]; done) | (go_simp; done))⟩) hHeld ?_
      simp only [tkS, Act.put]
      refine tkH 9 (.slice (some ⟨g, off, none⟩) ls.length cap) rfl (Or.inl ⟨by kernel_rfl, by intro w hSw; clear hSw; go_simp⟩) hHeld ?_
      simp only [tkS, Act.put]
      refine tkH 10 (.int .i64 (P : Int)) rfl (Or.inl ⟨by kernel_rfl, by intro w hSw; clear hSw; go_simp⟩) hHeld ?_
      simp only [tkS, Act.put]
      refine tkH 11 (.pointer (some ⟨g, off + P * 2, none⟩)) rfl (Or.inl ⟨by kernel_rfl, by intro w hSw; clear hSw; go_simp⟩) hHeld ?_
      simp only [tkS, Act.put]
      refine tkH 12 (.agg #[.string A, .string B]) rfl (Or.inl ⟨by kernel_rfl, by intro w hSw; obtain ⟨q0, q1⟩ := hSw; go_simp⟩) hHeld ?_
      simp only [tkS, Act.put]
      refine wpAnyH_ready (rs := [7]) (by kernel_rfl) (by simp) ?_
      refine AllReadyH.cons rfl (fun K hK => ?_) AllReadyH.nil
      rw [if_pos (by kernel_rfl)]
      go_simp
      refine hK.out _ _ ⟨cell_on (below_alloc w1.drew _) hHeld.1, cell_on (below_alloc w1.drew _) hHeld.2⟩ (fun hH7 => ?_)
      clear hK K
      refine wpAnyH_ready (rs := [8]) (by kernel_rfl) (by simp) ?_
      refine AllReadyH.cons rfl (fun K hK => ?_) AllReadyH.nil
      rw [if_pos (by kernel_rfl)]
      go_simp
      refine (HZ.out).mono ?_
      rintro e w3 ⟨r, rfl, ho3, hb3⟩
      obtain ⟨ra, rn, rc, hre⟩ := own_sliceP ho3
      subst hre
      have hx0 := (hb3.cell (p := ⟨w.heap.size, 0, none⟩) (by show w.heap.size < _; omega)).trans c0
      have hx1 := (hb3.cell (p := ⟨w.heap.size, 1, none⟩) (by show w.heap.size < _; omega)).trans c1
      have hf0 := (frozen_onL hb3 hs2 0).trans f0
      have hf1 := (frozen_onL hb3 hs2 1).trans f1
      refine hK.out _ _ ⟨(hb3.cell (p := ⟨g, off + P * 2, none⟩) (by show g < _; omega)).trans e0, (hb3.cell (p := ⟨g, off + (P * 2 + 1), none⟩) (by show g < _; omega)).trans e1⟩ (fun hH8 => ?_)
      clear hK K hH7 hHeld
      refine tkH 13 (.slice ra rn rc) rfl (Or.inl ⟨by kernel_rfl, by intro w hSw; clear hSw; go_simp⟩) hH8 ?_
      simp only [tkS, Act.put]
      refine wpAnyH_ready (rs := [14]) (by kernel_rfl) (by simp) ?_
      refine AllReadyH.cons rfl (fun K hK => ?_) AllReadyH.nil
      rw [if_pos (by kernel_rfl)]
      go_simp
      refine hK.out _ _ ?heldL (fun hH9 => ?_)
      case heldL => exact ⟨cell_aside2 hH8.1 (by omega) _ _, cell_aside2 hH8.2 (by omega) _ _⟩
      clear hK K hH8
      refine tkH 15 (.int .i64 0) rfl (Or.inl ⟨by kernel_rfl, by intro w hSw; clear hSw; go_simp⟩) hH9 ?_
      simp only [tkS, Act.put]
      refine wpAnyH_done (by kernel_rfl) ?_ _
      have hput := two_putL hx0 hx1 (.string A) (.string B)
      have HEND : Hid (OwnPr ((w3.setCell ⟨w.heap.size, 0, none⟩ (.string A)).setCell ⟨w.heap.size, 1, none⟩ (.string B)) w.heap.size (.slice ra rn rc) pp ∧ Below w.heap.size w ((w3.setCell ⟨w.heap.size, 0, none⟩ (.string A)).setCell ⟨w.heap.size, 1, none⟩ (.string B))) := by
        refine ⟨?_, (((hbw.drew).trans (hb3.mono hs1)).setCell (p := ⟨w.heap.size, 0, none⟩) (Nat.le_refl _) _).setCell (p := ⟨w.heap.size, 1, none⟩) (Nat.le_refl _) _⟩
        rw [HP.out]
        exact ownM_put2 (w := w1) (ownM_mono ho3 hs1) (fun k hk => (World.ownsRow.lt ho3 k hk).1) hs2 _ _
      clear hx0 hx1 hf0 hf1 ho3 hb3 hH9
      go_wp2_with fail
      refine bodyPost_ret (v := .tuple #[.slice ra rn rc, .agg #[.string A, .string B], .int .i64 0]) ?_ rfl ⟨_, A, B, 0, rfl, (by first | exact fun _ => ⟨rfl, HB.out.symm, HEND.out.1⟩ | exact ⟨rfl, HB.out.symm, HEND.out.1⟩), (by first | exact fun h => (by cases h) | trivial | (intro h; simp at h)), HEND.out.2⟩
      simp [results, Try.results76, go_sem, hput.1, hput.2]
end Go.Proofs.Ytagnpahkhaighaa
