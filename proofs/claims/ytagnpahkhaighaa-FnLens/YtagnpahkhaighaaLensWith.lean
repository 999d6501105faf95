/- A pair more, a pair less, by the code: with and without. -/
import Derived.Test.YtagnpahkhaighaaLensCut
import Derived.Deep.RegionWith
namespace Go.Proofs.Ytagnpahkhaighaa
open Go.RowKit
set_option linter.unusedVariables false

theorem own_sliceP {w : World} {B : Nat} {v : Value} {ls : List Pr} (h : OwnPr w B v ls) : ∃ a n c, v = .slice a n c := by
  rcases ownM_shape h with ⟨e, h0, _⟩ | ⟨g, c, e, _⟩
  · exact ⟨none, 0, 0, e⟩
  · exact ⟨_, _, c, e⟩
theorem two_putL {w : World} {n : Nat} {x y : Value} (h0 : w.cell? ⟨n, 0, none⟩ = some x) (h1 : w.cell? ⟨n, 1, none⟩ = some y) (u v : Value) : ((w.setCell ⟨n, 0, none⟩ u).setCell ⟨n, 1, none⟩ v).cell? ⟨n, 0, none⟩ = some u ∧ ((w.setCell ⟨n, 0, none⟩ u).setCell ⟨n, 1, none⟩ v).cell? ⟨n, 1, none⟩ = some v := by
  have o : ∀ (w : World) (i j : Nat) (u : Value), i ≠ j → (w.setCell ⟨n, j, none⟩ u).cell? ⟨n, i, none⟩ = w.cell? ⟨n, i, none⟩ := fun w i j u hij => World.cell?_setCells_out n [u] j w _ (fun _ => by simp; omega)
  refine ⟨?_, ?_⟩
  · rw [o _ 0 1 _ (by decide)]; exact World.cell?_setCell_same _ _ _ h0
  · exact World.cell?_setCell_same _ _ _ ((o _ 1 0 _ (by decide)).trans h1)
theorem frozen_onL {C : Nat} {w w1 : World} (hb : Below C w w1) {n : Nat} (hn : n < C) (k : Nat) : w1.frozen? ⟨n, k, none⟩ = w.frozen? ⟨n, k, none⟩ := by
  simp [World.frozen?, hb.block n hn]
theorem ownM_put2 {w w3 : World} {B : Nat} {v : Value} {ls : List Pr} {n : Nat} (h : OwnPr w3 B v ls) (hlt : ∀ k, v.ownBlock = some k → w.heap.size ≤ k) (hn : n < w.heap.size) (x y : Value) : OwnPr ((w3.setCell ⟨n, 0, none⟩ x).setCell ⟨n, 1, none⟩ y) B v ls :=
  ownM_kept (ownM_kept h (grownBy_set w3 n 0 x) (fun k hk e => by have := hlt k hk; have := Option.some.inj e; omega)) (grownBy_set _ n 1 y) (fun k hk e => by have := hlt k hk; have := Option.some.inj e; omega)
theorem two_cellsL {w w1 : World} {x y : Value} {T : TypeId} (h : Below (w.alloc (.cells #[x, y] T)).heap.size (w.alloc (.cells #[x, y] T)) w1) : w1.cell? ⟨w.heap.size, 0, none⟩ = some x ∧ w1.cell? ⟨w.heap.size, 1, none⟩ = some y :=
  ⟨cell_made h (k := 0) rfl, cell_made h (k := 1) rfl⟩

set_option maxHeartbeats 2000000 in
set_option maxRecDepth 100000 in
theorem withI_any (C : Nat) (w : World) (v : Value) (ls : List Pr) (x y : ByteArray) (hl : ls.length ≤ 64) (hR : Rises ls) (hC : C ≤ w.heap.size) (hr : RdM 2 C w v ls.length (prCs ls)) :
    Calls Try.prog 86 #[v, .agg #[.string x, .string y]] w fun e w' => ∃ r, e = .returned (.tuple #[r, .int .i64 (withP (x, y) ls).1]) ∧ OwnPr w' w.heap.size r (withP (x, y) ls).2 ∧ Below w.heap.size w w' := by
  have hF := fun w' (hw : Below w.heap.size w w') => findI_any C w' v ls x hl hR (Nat.le_trans hC hw.size) (hr.on hC hw).pr
  obtain ⟨ao, cap, e, hcap, hmax⟩ : ∃ ao cap, v = .slice ao ls.length cap ∧ ls.length ≤ cap ∧ cap ≤ maxLen := by obtain ⟨_, ao, cap, e, h1, h2, _⟩ := hr; exact ⟨ao, cap, e, h1, h2⟩
  subst e
  have HR : Hid (∀ w', Below w.heap.size w w' → RdM 2 C w' (.slice ao ls.length cap) ls.length (prCs ls)) := fun w' hw => hr.on hC hw
  have HW : Hid (withP (x, y) ls = if hasP x ls then (14, []) else if ls.length = 64 then (11, []) else (0, putP (x, y) ls)) := rfl
  have HP : Hid (putP (x, y) ls = ls.take (posP x ls) ++ (x, y) :: ls.drop (posP x ls)) := rfl
  have hp := posP_le x ls
  generalize withP (x, y) ls = wp at *
  generalize putP (x, y) ls = pp at *
  generalize posP x ls = P at *
  have hF0 := hF (w.alloc (.cells #[.string x, .string y] 46)) (below_alloc _ _)
  have HBX : Hid (∀ w', Below (w.alloc (.cells #[.string x, .string y] 46)).heap.size (w.alloc (.cells #[.string x, .string y] 46)) w' → Below w.heap.size w w') := fun w' h => below_seq (below_alloc _ _) h
  clear hF hr hR
  cases hb : hasP x ls with
  | true =>
    rw [hb] at HW hF0
    have HE : Hid (wp = (14, [])) := HW.out
    go_enter Try.func86, Try.ntmps86
    go_wp2_with fail
    refine hF0.mono ?_
    rintro e w1 ⟨rfl, hb1⟩
    go_wp2_with fail
    go_ret2
    exact ⟨_, by rw [HE.out]; rfl, by rw [HE.out]; exact ownM_nil _ _ _ _, HBX.out _ hb1⟩
  | false =>
    rw [hb] at HW hF0
    by_cases h64 : ls.length = 64
    · have HE : Hid (wp = (11, [])) := by unfold Hid; rw [HW.out, if_neg Bool.false_ne_true, if_pos h64]
      have j : ((ls.length : Int) == 64) = true := by simp; omega
      clear h64 HW
      go_enter Try.func86, Try.ntmps86
      go_wp2_with fail
      refine hF0.mono ?_
      rintro e w1 ⟨rfl, hb1⟩
      go_wp2_with fail
      go_ret2
      exact ⟨_, by rw [HE.out]; rfl, by rw [HE.out]; exact ownM_nil _ _ _ _, HBX.out _ hb1⟩
    · have HE : Hid (wp = (0, pp)) := by unfold Hid; rw [HW.out, if_neg Bool.false_ne_true, if_neg h64]
      have j : ((ls.length : Int) == 64) = false := by simp; omega
      clear h64
      have j0 : (0 : Int) ≤ (P : Int) := by omega
      have j1 : (P : Int) ≤ (ls.length : Int) := by omega
      have j2 : (P : Int) ≤ (cap : Int) := by omega
      go_enter Try.func86, Try.ntmps86
      go_wp2_with fail
      refine hF0.mono ?_
      rintro e w1 ⟨rfl, hb1⟩
      have hbw := HBX.out _ hb1
      obtain ⟨c0, c1⟩ := two_cellsL hb1
      clear hF0 HBX HW hb1
      go_wp2_with fail
      have hs1 := hbw.size
      have e0 : w1.drew.cell? ⟨w.heap.size, 0, none⟩ = some (.string x) := c0
      have e1 : w1.drew.cell? ⟨w.heap.size, 1, none⟩ = some (.string y) := c1
      have HCC : Hid (∀ ao' k c, k = ls.length - P → c = cap - P → (ao' = if cap = P then ao else ao.map (·.add (P * 2))) → Calls Try.prog 77 #[.slice (some ⟨w1.heap.size + 1, 0, none⟩) 3 3] ((w1.alloc (.cells #[.string x, .string y] 46)).alloc (.cells #[.slice ao P cap, .slice (some ⟨w1.heap.size, 0, none⟩) 1 1, .slice ao' k c] 62)).drew fun e w' => ∃ r, e = .returned r ∧ OwnPr w' w1.heap.size r (ls.take P ++ (x, y) :: ls.drop P) ∧ Below w1.heap.size w1.drew w') := fun ao' k c h1 h2 h3 => concat3_any C w1.drew ao ao' ls.length cap P k c ls x y hl (Nat.le_trans hC hs1) (HR.out _ hbw.drew) hp h1 h2 h3
      clear HR c0 c1
      by_cases hcP : cap = P
      · subst hcP
        have HZ : Hid (∀ k : Nat, k = ls.length - cap → Calls Try.prog 77 #[.slice (some ⟨w1.heap.size + 1, 0, none⟩) 3 3] ((w1.alloc (.cells #[.string x, .string y] 46)).alloc (.cells #[.slice ao cap cap, .slice (some ⟨w1.heap.size, 0, none⟩) 1 1, .slice ao k 0] 62)).drew fun e w' => ∃ r, e = .returned r ∧ OwnPr w' w1.heap.size r (ls.take cap ++ (x, y) :: ls.drop cap) ∧ Below w1.heap.size w1.drew w') := fun k hk => HCC.out ao k 0 hk (by omega) (by rw [if_pos rfl])
        clear HCC
        go_region_with (go_at_call 77; refine (HZ.out 0 (by omega)).mono ?_; rintro e w3 ⟨r, rfl, ho3, hb3⟩; obtain ⟨ra, rn, rc, hre⟩ := own_sliceP ho3; subst hre)
        all_goals
          go_wp2_with fail
          go_ret2
          refine ⟨_, by rw [HE.out]; rfl, ?_, ?_⟩
          · rw [HE.out]
            show OwnPr w3 w.heap.size _ pp
            rw [HP.out]
            exact ownM_mono ho3 hs1
          · exact (hbw.drew).trans (hb3.mono hs1)
      · have HZ : Hid (∀ k c, k = ls.length - P → c = cap - P → Calls Try.prog 77 #[.slice (some ⟨w1.heap.size + 1, 0, none⟩) 3 3] ((w1.alloc (.cells #[.string x, .string y] 46)).alloc (.cells #[.slice ao P cap, .slice (some ⟨w1.heap.size, 0, none⟩) 1 1, .slice (ao.map (·.add (P * 2))) k c] 62)).drew fun e w' => ∃ r, e = .returned r ∧ OwnPr w' w1.heap.size r (ls.take P ++ (x, y) :: ls.drop P) ∧ Below w1.heap.size w1.drew w') := fun k c hk hc => HCC.out _ k c hk hc (by rw [if_neg hcP])
        clear HCC
        go_region_with (go_at_call 77; refine (HZ.out _ _ rfl rfl).mono ?_; rintro e w3 ⟨r, rfl, ho3, hb3⟩; obtain ⟨ra, rn, rc, hre⟩ := own_sliceP ho3; subst hre)
        all_goals
          go_wp2_with fail
          go_ret2
          refine ⟨_, by rw [HE.out]; rfl, ?_, ?_⟩
          · rw [HE.out]
            show OwnPr w3 w.heap.size _ pp
            rw [HP.out]
            exact ownM_mono ho3 hs1
          · exact (hbw.drew).trans (hb3.mono hs1)

end Go.Proofs.Ytagnpahkhaighaa
