/- The law's own writing over of columns: all else is as it was. No condition: it is a lemma. -/
import Derived.Test.YtlncfeakcgjioaaColumnRows
import Derived.Test.YtlncfeakcgjioaaNest
namespace Go.Proofs.Ytlncfeakcgjioaa
open Go.RowKit
set_option linter.unusedVariables false

set_option maxHeartbeats 4000000 in
set_option maxRecDepth 100000 in
theorem markColumnS_fr (B E : Nat) (w : World) (v : Value) (ls : List Cn) (q : Nat) (hn : ls.length ≤ 1048576) (hq : q ≤ 4194304) (hE : ∀ k, v.ownBlock = some k → k < E) (ho : OwnCn w B v ls) :
    Calls Try.prog 13 #[v, .int .i64 (q : Int)] w fun e w' => e = .returned (.int .i64 ((q + 3 * ls.length : Nat) : Int)) ∧ Fr B E w w' := by
  obtain ⟨n, hnl⟩ : ∃ n, ls.length = n := ⟨_, rfl⟩
  unfold OwnCn at ho
  rw [hnl] at ho hn ⊢
  clear hnl
  obtain ⟨ao, c, rfl, hsh⟩ : ∃ ao c, v = .slice ao n c ∧ (0 < n → ∃ g, ao = some ⟨g, 0, none⟩) := by
    rcases ownM_shape ho with ⟨rfl, h0, _⟩ | ⟨g, c, rfl, _⟩
    · exact ⟨none, 0, by rw [h0], fun h => absurd h (by omega)⟩
    · exact ⟨_, c, rfl, fun _ => ⟨g, rfl⟩⟩
  have H0 : Hid (∃ xs, w.ownsRow B 53 3 (.slice ao n c) n xs) := ⟨_, ho⟩
  clear ho
  go_enter Try.func13, Try.ntmps13
  go_wp2_with fail
  go_loopw [1, 5] (fun tq ti wr => ∃ k : Nat, k ≤ n ∧ ti = .int .i64 (k : Int) ∧ tq = .int .i64 ((q + 3 * k : Nat) : Int) ∧ Hid (∃ xs, wr.ownsRow B 53 3 (.slice ao n c) n xs) ∧ Fr B E w wr) (fun _ ti _ => n - (intOf ti).toNat)
  case atStart => exact ⟨0, Nat.zero_le _, rfl, rfl, H0, Fr.refl _ _ _⟩
  case round =>
    clear H0
    obtain ⟨k, hk, rfl, rfl, HR, hF⟩ := hrel
    by_cases hlt : k < n
    · obtain ⟨g, rfl⟩ := hsh (by omega)
      have j0 : (0 : Int) ≤ (k : Int) := by omega
      have j1 : (k : Int) < (n : Int) := by omega
      have j2 : (k : Int) + 1 < 9223372036854775808 := by omega
      have hT := fun w => markText_any (q + 3 * k) (by omega) w
      have HQ : Hid (((q + 3 * (k + 1) : Nat) : Int) = ((q + 3 * k : Nat) : Int) + 1 + 1 + 1) := by show _ = _; omega
      have hm0 : ((q + 3 * k : Nat) : Int) + 1 + 1 + 1 < 9223372036854775808 := by omega
      obtain ⟨x, hx⟩ : ∃ x : Int, ((q + 3 * k : Nat) : Int) = x := ⟨_, rfl⟩
      have hx0 : 0 ≤ x := by omega
      simp only [hx] at hT HQ hm0 ⊢
      generalize mt (q + 3 * k) = tx at hT
      clear hx
      have hg : ∀ kk, some g = some kk → B ≤ kk ∧ kk < E := fun kk hkk => by
        obtain ⟨xs, ho⟩ := HR.out
        exact ⟨(owns_lt ho kk hkk).1, hE kk hkk⟩
      go_wp2_with fail
      refine (hT _).mono ?_
      rintro e w1 ⟨rfl, hb1⟩
      clear hT
      obtain ⟨xs, ho⟩ := HR.out
      replace ho := owns_same ho (w' := w1) (fun kk _ hl => hb1.block kk hl)
      replace hF := hF.trans (Fr.of_below hb1)
      have hl := ho.1
      have cell : ∀ (w9 : World) (ys : List Value), w9.ownsRow B 53 3 (.slice (some ⟨g, 0, none⟩) n c) n ys → ∀ j, j < 3 → ∃ u, w9.cell? ⟨g, k * 3 + j, none⟩ = some u ∧ w9.frozen? ⟨g, k * 3 + j, none⟩ = false := fun w9 ys h9 j hj => by
        have hl9 := h9.1
        have h0 : k * 3 + j < ys.length := by rw [hl9]; have : (k + 1) * 3 ≤ n * 3 := Nat.mul_le_mul_right _ hlt; omega
        exact ⟨ys[k * 3 + j], by rw [World.ownsRow.cellAt h9 _ (by omega), List.getElem?_eq_getElem h0], World.ownsRow.frozenAt h9 _⟩
      have s1 := (World.ownsRow.stored ho (k * 3) (.string tx)).1
      obtain ⟨u0, c0, f0⟩ := cell _ _ ho 0 (by omega)
      obtain ⟨u1, c1, f1⟩ := cell _ _ ho 1 (by omega)
      obtain ⟨u2, c2, f2⟩ := cell _ _ ho 2 (by omega)
      rw [Nat.add_zero] at c0 f0
      have HR2 : Hid (∀ (b1 b2 : Value), ∃ xs, World.ownsRow (((w1.setCell ⟨g, k * 3, none⟩ (.string tx)).setCell ⟨g, k * 3 + 1, none⟩ b1).setCell ⟨g, k * 3 + 2, none⟩ b2) B 53 3 (.slice (some ⟨g, 0, none⟩) n c) n xs) := fun b1 b2 => ⟨_, (World.ownsRow.stored (World.ownsRow.stored s1 (k * 3 + 1) b1).1 (k * 3 + 2) b2).1⟩
      have HF2 : Hid (∀ (b1 b2 : Value), Fr B E w (((w1.setCell ⟨g, k * 3, none⟩ (.string tx)).setCell ⟨g, k * 3 + 1, none⟩ b1).setCell ⟨g, k * 3 + 2, none⟩ b2)) := fun b1 b2 => ((hF.trans (Fr.of_grown (grownBy_set w1 g (k * 3) _) hg)).trans (Fr.of_grown (grownBy_set _ g (k * 3 + 1) b1) hg)).trans (Fr.of_grown (grownBy_set _ g (k * 3 + 2) b2) hg)
      clear s1 cell ho hl hF hg hb1 HR
      go_wp2_with fail
      go_roundw
      case rel => exact ⟨k + 1, by omega, by go_num, by rw [HQ.out], HR2.out _ _, HF2.out _ _⟩
      case measure => simp [intOf]; omega
    · obtain rfl : k = n := by omega
      go_wp2_with fail
      go_ret
      exact ⟨rfl, hF⟩
end Go.Proofs.Ytlncfeakcgjioaa
