/- slices.Grow of no pairs, and slices.Concat of lists of pairs. -/
import Derived.Test.YtagnpahkhaighaaPairRows
import Derived.Lib.AppendZerosOnto
namespace Go.Proofs.Ytagnpahkhaighaa
open Go.RowKit
set_option linter.unusedVariables false

set_option maxHeartbeats 2000000 in
set_option maxRecDepth 100000 in
theorem growPairs_any (w : World) (n : Nat) (hn : n ≤ 1024) :
    Calls Try.prog 81 #[.slice none 0 0, .int .i64 (n : Int)] w fun e w' => ∃ r, e = .returned r ∧ w'.ownsRow w.heap.size 46 2 r 0 [] ∧ Below w.heap.size w w' := by
  by_cases h0 : n = 0
  · subst h0
    go_enter Try.func81, Try.ntmps81
    go_wp2_with fail
    go_ret
    exact ⟨_, rfl, ⟨rfl, .inl ⟨rfl, rfl⟩⟩, Below.refl _ _⟩
  · obtain ⟨i0, hi, hz0, hz1, hz2⟩ := info_parts infoPair
    have e1 : Builtin.nextslicecap n 0 = n := by unfold Builtin.nextslicecap; simp; omega
    have hbt : Try.t46.bytes = 32 := by kernel_rfl
    have h1 : (0 : Int) < (n : Int) := by omega
    have h2 : 0 < n := by omega
    go_enter Try.func81, Try.ntmps81
    go_wp2_with fail
    all_goals first | (exfalso; omega) | (exfalso; simp only [hbt, e1] at *; omega) | skip
    all_goals
      have hcap := grownCap_ge w n 0 46
      have hcm := grownCap_le_maxLen w n 0 46 (by unfold maxLen; omega)
      go_ret
      refine ⟨_, rfl, ⟨rfl, .inr ⟨w.heap.size, grownCap w n 0 46, _, rfl, Nat.le_refl _, heap_alloc_new _ _, Nat.zero_le _, hcm, ?_, by simp⟩⟩, (below_alloc _ _).drew⟩
      rw [Array.size_append, size_zeroCells, size_zeroCells]
      show n * 2 + (grownCap w n 0 46 - n) * 2 = grownCap w n 0 46 * 2
      omega

/-- What the first k of these lists have, one behind the other. -/
def catPr (vs : List (Value × List Pr)) : Nat → List Pr
  | 0 => []
  | k + 1 => catPr vs k ++ (vs.getD k (.slice none 0 0, [])).2
theorem catPr_le (vs : List (Value × List Pr)) (n : Nat) : ∀ k, k ≤ n → (catPr vs k).length ≤ (catPr vs n).length := by
  induction n with
  | zero => intro k hk; obtain rfl : k = 0 := by omega
            exact Nat.le_refl _
  | succ n ih =>
    intro k hk
    by_cases e : k = n + 1
    · subst e; exact Nat.le_refl _
    · have := ih k (by omega)
      rw [catPr, List.length_append]
      omega

set_option maxHeartbeats 4000000 in
set_option maxRecDepth 100000 in
theorem concatPairs_any (w : World) (b C n : Nat) (vs : List (Value × List Pr)) (hv : vs.length = n) (hn : n ≤ 16) (hcell : ∀ k p, vs[k]? = some p → w.cell? ⟨b, k, none⟩ = some p.1) (hb : b < w.heap.size) (hC : C ≤ w.heap.size)
    (hrd : ∀ p ∈ vs, RdM 2 C w p.1 p.2.length (prCs p.2)) (htot : (catPr vs n).length ≤ 1024) :
    Calls Try.prog 77 #[.slice (some ⟨b, 0, none⟩) n n] w fun e w' => ∃ r, e = .returned r ∧ OwnPr w' w.heap.size r (catPr vs n) ∧ Below w.heap.size w w' := by
  obtain ⟨i0, hi, hz0, hz1, hz2⟩ := info_parts infoPair
  have HLE : Hid (∀ k, k ≤ n → (catPr vs k).length ≤ 1024) := fun k hk => Nat.le_trans (catPr_le vs n k hk) htot
  have HAT : Hid (∀ k, k < n → ∃ ao cap ls, vs[k]? = some (.slice ao ls.length cap, ls) ∧ w.cell? ⟨b, k, none⟩ = some (.slice ao ls.length cap) ∧ RdM 2 C w (.slice ao ls.length cap) ls.length (prCs ls) ∧ catPr vs (k + 1) = catPr vs k ++ ls) := by
    intro k hk
    have hk' : k < vs.length := by omega
    obtain ⟨⟨v, ls⟩, hp⟩ : ∃ p, vs[k]? = some p := ⟨_, List.getElem?_eq_getElem hk'⟩
    have hR := hrd _ (List.mem_of_getElem? hp)
    have hc := hcell k _ hp
    have hcat : catPr vs (k + 1) = catPr vs k ++ ls := by rw [catPr, List.getD_eq_getElem?_getD, hp]; rfl
    obtain ⟨ao, cap, e⟩ : ∃ ao cap, v = .slice ao ls.length cap := by obtain ⟨_, ao, cap, h, _⟩ := hR; exact ⟨ao, cap, h⟩
    subst e
    exact ⟨ao, cap, ls, hp, hc, hR, hcat⟩
  clear hcell hrd
  go_enter Try.func77, Try.ntmps77
  go_wp2_with fail
  go_loopw [3, 11] (fun ts ti wr => ∃ k : Nat, k ≤ n ∧ ti = .int .i64 (k : Int) ∧ ts = .int .i64 ((catPr vs k).length : Int) ∧ Hid (wr = w)) (fun _ ti _ => n - (intOf ti).toNat)
  case atStart => exact ⟨0, Nat.zero_le _, rfl, rfl, rfl⟩
  case round =>
    obtain ⟨k, hk, rfl, rfl, HW⟩ := hrel
    have hak := HLE.out k hk
    by_cases hlt : k < n
    · have hki : (k : Int) < (n : Int) := by omega
      have hk0 : (0 : Int) ≤ (k : Int) := by omega
      have hk2 : (k : Int) + 1 < 9223372036854775808 := by omega
      obtain ⟨ao, cap, ls, _, c0, _, hcat⟩ := HAT.out k hlt
      have hak2 := HLE.out (k + 1) hlt
      rw [hcat, List.length_append] at hak2
      rw [← HW.out] at c0
      have HN : Hid (((catPr vs (k + 1)).length : Int) = ((catPr vs k).length : Int) + (ls.length : Int)) := by
        unfold Hid
        rw [hcat, List.length_append]
        omega
      clear hcat
      generalize (catPr vs k).length = p at *
      generalize ls.length = q at *
      have hmb : (p : Int) + (q : Int) < 9223372036854775808 := by omega
      have hneg : decide ((p : Int) + (q : Int) < 0) = false := by simp; omega
      have hpos : 0 ≤ (p : Int) + (q : Int) := by omega
      go_wp2_with fail
      go_roundw
      case rel => exact ⟨k + 1, by omega, by go_num, by rw [HN.out], HW⟩
      case measure => simp [intOf]; omega
    · obtain rfl : k = n := by omega
      have hG := growPairs_any wr (catPr vs k).length hak
      have hww : Hid (wr.heap.size = w.heap.size ∧ Below w.heap.size w wr) := by rw [HW.out]; exact ⟨rfl, Below.refl _ _⟩
      have hn0 : ¬ (k : Int) < (k : Int) := by omega
      clear HW
      go_wp2_with fail
      refine hG.mono ?_
      rintro e w2 ⟨r, rfl, ho2, hb2⟩
      have HI0 : Hid (OwnPr w2 w.heap.size r (catPr vs 0) ∧ Below w.heap.size w w2) := by
        refine ⟨?_, hww.out.2.trans (hb2.mono (by rw [hww.out.1]; exact Nat.le_refl _))⟩
        rw [← hww.out.1]
        exact ho2
      clear hG ho2 hb2 hww hak
      go_wp2_with fail
      go_loopw [6, 27] (fun tv ti wr => ∃ j : Nat, j ≤ k ∧ ti = .int .i64 (j : Int) ∧ Hid (OwnPr wr w.heap.size tv (catPr vs j) ∧ Below w.heap.size w wr)) (fun _ ti _ => k - (intOf ti).toNat)
      case atStart => exact ⟨0, Nat.zero_le _, rfl, HI0⟩
      case round =>
        clear HI0
        obtain ⟨j, hj, rfl, HI⟩ := hrel
        obtain ⟨ho, hbw⟩ := HI.out
        by_cases hlt2 : j < k
        · have hki : (j : Int) < (k : Int) := by omega
          have hk0 : (0 : Int) ≤ (j : Int) := by omega
          have hk2 : (j : Int) + 1 < 9223372036854775808 := by omega
          obtain ⟨ao, cap, ls, _, c0, hR, hcat⟩ := HAT.out j hlt2
          have hak2 := HLE.out (j + 1) hlt2
          rw [hcat, List.length_append] at hak2
          replace c0 := cell_on hbw c0
          replace hR := hR.on hC hbw
          have HE : Hid (catPr vs (j + 1) = catPr vs j ++ ls) := hcat
          have hsb := hbw.size
          have hlt6 := fun q hq => (World.ownsRow.lt ho q hq).1
          obtain ⟨va6, vc6, e6⟩ : ∃ ao cap, u6 = .slice ao (catPr vs j).length cap := by
            rcases ownM_shape ho with ⟨e, h0, _⟩ | ⟨g, c, e, _⟩
            · exact ⟨none, 0, by rw [e, h0]⟩
            · exact ⟨_, c, e⟩
          subst e6
          clear HI hcat
          go_wp2_with (at_builtin; refine wpList_append_rdM rfl _ _ 62 rfl w.heap.size 46 i0 (.agg #[.string ByteArray.empty, .string ByteArray.empty]) 2 32 Try.underlying62 hi hz0 hz1 hz2 rfl (by decide) _ _ _ rfl ho C _ _ _ rfl hR (prCs_one ls) (by unfold maxLen; omega) (by omega) hsb ?_)
          intro v6 w6 ho6 hg6
          have HI2 : Hid (OwnPr w6 w.heap.size v6 (catPr vs (j + 1)) ∧ Below w.heap.size w w6) := by
            rw [HE.out]
            unfold OwnPr
            rw [prCs_app, List.length_append]
            exact ⟨ho6, hbw.grown hg6 hsb hlt6⟩
          clear ho6 hg6 HE ho hR
          go_wp2_with fail
          go_roundw
          case rel => exact ⟨j + 1, by omega, by go_num, HI2⟩
          case measure => simp [intOf]; omega
        · obtain rfl : j = k := by omega
          have hn1 : ¬ (j : Int) < (j : Int) := by omega
          go_wp2_with fail
          go_ret
          exact ⟨_, rfl, ho, hbw⟩
end Go.Proofs.Ytagnpahkhaighaa
