/- Entries are marked from any number on. -/
import Derived.Test.YtdkfeabpnikedaaQEntCellsToSvBase
namespace Go.Proofs.Ytdkfeabpnikedaa
open Go.RowKit
set_option linter.unusedVariables false

set_option maxHeartbeats 4000000 in
set_option maxRecDepth 100000 in
theorem markEntryF_big (B g n c : Nat) (w : World) (ls : List En) (k0 q : Nat) (hn : n ≤ 1048576) (hq : q ≤ 16777216) (hR : RowF w B g n c ls k0) :
    Calls Try.prog 43 #[.slice (some ⟨g, 0, none⟩) n c, .int .i64 (q : Int)] w fun e w' => e = .returned (.int .i64 ((q + 3 * n : Nat) : Int)) ∧ RowF w' B g n c (marksE q n) n ∧ w.grownBy w' (some g) := by
  have HR0 : Hid (RowF w B g n c (marksE q n) 0) := hR.fresh
  clear hR
  go_enter Try.func43, Try.ntmps43
  go_wp2_with fail
  go_loopw [1, 5] (fun tq ti wr => ∃ k : Nat, k ≤ n ∧ ti = .int .i64 (k : Int) ∧ tq = .int .i64 ((q + 3 * k : Nat) : Int) ∧ Hid (RowF wr B g n c (marksE q n) k) ∧ w.grownBy wr (some g)) (fun _ ti _ => n - (intOf ti).toNat)
  case atStart => exact ⟨0, Nat.zero_le _, rfl, rfl, HR0, World.grownBy.refl _ _⟩
  case round =>
    clear HR0
    obtain ⟨k, hk, rfl, rfl, HR, hG⟩ := hrel
    by_cases hlt : k < n
    · have j0 : (0 : Int) ≤ (k : Int) := by omega
      have j1 : (k : Int) < (n : Int) := by omega
      have j2 : (k : Int) + 1 < 9223372036854775808 := by omega
      have hat := marksE_at (q := q) hlt
      have h2 := RowF.two HR.out hlt
      have HPP : Hid (∀ {w'}, RowG w' B g n c (marksE q n) k → RowF (w'.setCell ⟨g, k * 3 + 2, none⟩ (.string (enAt (marksE q n) k).2.2)) B g n c (marksE q n) (k + 1)) := fun h => h.put hlt
      rw [hat] at h2 HPP
      have hq2 : ((q + 3 * k + 1 : Nat) : Int) = ((q + 3 * k : Nat) : Int) + 1 := by omega
      have hT := fun w => markText_any (q + 3 * k + 2) (by omega) w
      have hq3 : ((q + 3 * k + 2 : Nat) : Int) = ((q + 3 * k : Nat) : Int) + 1 + 1 := by omega
      have HQ : Hid (((q + 3 * (k + 1) : Nat) : Int) = ((q + 3 * k : Nat) : Int) + 1 + 1 + 1) := by show _ = _; omega
      rw [hq3] at hT
      simp only [hq2] at h2
      have hm0 : ((q + 3 * k : Nat) : Int) + 1 + 1 + 1 < 9223372036854775808 := by omega
      obtain ⟨x, hx⟩ : ∃ x : Int, ((q + 3 * k : Nat) : Int) = x := ⟨_, rfl⟩
      have hx0 : 0 ≤ x := by omega
      simp only [hx] at h2 hT HQ hm0 ⊢
      obtain ⟨u, v, z, c0, c1, c2, f0, f1, f2⟩ := RowF.cells HR.out hlt
      have H2 : Hid _ := h2
      have HT : Hid (mt (q + 3 * k + 2) = mt (q + 3 * k + 2)) := rfl
      have hG2 : w.grownBy ((wr.setCell ⟨g, k * 3, none⟩ (.int .i64 x)).setCell ⟨g, k * 3 + 1, none⟩ (.int .i64 (x + 1))) (some g) := grownBy_trans (grownBy_trans hG (grownBy_set wr g (k * 3) _)) (grownBy_set _ g (k * 3 + 1) _)
      clear hat hq2 hq3 hx h2 hG HR
      go_wp2_with fail
      refine (hT _).mono ?_
      rintro e w3 ⟨rfl, hb3⟩
      have hP3 := RowG.on H2.out hb3
      obtain ⟨z3, y0, y1⟩ := RowG.cell hP3 hlt
      have hG3 := grownBy_trans hG2 (grownBy_below hb3 (Nat.le_refl _) (some g))
      have HR4 := HPP.out hP3
      have hG4 := grownBy_trans hG3 (grownBy_set w3 g (k * 3 + 2) (.string (mt (q + 3 * k + 2))))
      clear hP3 hb3 hG2 hG3 H2 HPP hT
      go_wp2_with fail
      go_roundw
      case rel => exact ⟨k + 1, by omega, by go_num, by rw [HQ.out], HR4, hG4⟩
      case measure => simp [intOf]; omega
    · obtain rfl : k = n := by omega
      go_wp2_with fail
      go_ret
      exact ⟨rfl, HR.out, hG⟩

set_option maxHeartbeats 1000000 in
set_option maxRecDepth 100000 in
theorem markEntryS_big (B : Nat) (w : World) (v : Value) (ls : List En) (q : Nat) (hn : ls.length ≤ 1048576) (hq : q ≤ 16777216) (ho : OwnE w B v ls) :
    Calls Try.prog 43 #[v, .int .i64 (q : Int)] w fun e w' => e = .returned (.int .i64 ((q + 3 * ls.length : Nat) : Int)) ∧ OwnE w' B v (marksE q ls.length) ∧ w.grownBy w' v.ownBlock := by
  rcases ownE_shape ho with ⟨rfl, rfl⟩ | ⟨g, c, rfl, _, hlt⟩
  · have ho' : OwnE w B (.slice none 0 0) (marksE q ([] : List En).length) := ho
    clear ho
    go_enter Try.func43, Try.ntmps43
    go_wp2_with fail
    go_loopw [1, 5] (fun tq ti wr => ti = .int .i64 0 ∧ tq = .int .i64 (q : Int) ∧ wr = w) (fun _ ti _ => 0)
    case atStart => exact ⟨rfl, rfl, rfl⟩
    case round =>
      obtain ⟨rfl, rfl, rfl⟩ := hrel
      go_wp2_with fail
      go_ret
      exact ⟨by simp, ho', World.grownBy.refl _ _⟩
  · refine (markEntryF_big B g ls.length c w ls ls.length q hn hq (rowF_of ho rfl)).mono ?_
    rintro e w' ⟨rfl, hR, hg⟩
    exact ⟨rfl, hR.own (marksE_len _ _).symm, hg⟩

end Go.Proofs.Ytdkfeabpnikedaa
