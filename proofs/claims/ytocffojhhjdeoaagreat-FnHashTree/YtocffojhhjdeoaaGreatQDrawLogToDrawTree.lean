/- The specification's l08Draw and DrawLogSince: a drawn log, and a vector. The specification's DrawTreeSum: a drawn log and a place in a tree. -/
import Derived.Test.YtocffojhhjdeoaaGreatQDrawGrow
import Derived.Test.YtocffojhhjdeoaaGreatQBentOp
import Derived.Test.YtocffojhhjdeoaaGreatQSrcVec2
import Derived.Test.YtocffojhhjdeoaaGreatQSrcToSrcActor
import Derived.Test.YtocffojhhjdeoaaGreatQOpBytesSpecToLeafImpl
namespace Go.Proofs.YtocffojhhjdeoaaGreat
open Go.RowKit
set_option linter.unusedVariables false

set_option maxHeartbeats 2000000 in
set_option maxRecDepth 100000 in
theorem l08Draw_any (C b A : Nat) (w : World) (h : Src C w b A) (hA : A ≤ 1000000) :
    Calls Tryz.prog 11 #[.pointer (some ⟨b, 0, none⟩)] w fun e w' => ∃ r M, e = .returned r ∧ RdO w'.heap.size w' r M ∧ BtL 2120 M ∧ Src C w' b (A + 4100) ∧ w.grownBy w' (some b) := by
  have hgw := l08Grow_any C b A 24 w h hA (by omega) (by omega)
  rw [show ((24 : Nat) : Int) = 24 from rfl] at hgw
  go_enter Tryz.func11, Tryz.ntmps11
  go_wp2_with fail
  refine hgw.mono ?_
  rintro e w1 ⟨gl, V, LL, rfl, hG⟩
  clear hgw
  go_wp2_with fail
  refine (srcNext_any C b _ 3 w1 hG.src (by omega) (by omega) (by omega)).mono ?_
  rintro e w2 ⟨k, rfl, hk0, hk1, hS2, hG2⟩
  obtain ⟨k, rfl⟩ := Int.eq_ofNat_of_zero_le hk0
  have hk : k < 3 := by omega
  have hW := hG.next hS2 hG2
  have ck := hW.at hk
  clear hG hS2 hG2
  go_wp2_with fail
  refine (l08Bent_any C b _ w2 (V k) (LL k) 72 2120 hW.src (by omega) (hW.log k hk) (hW.dr k hk) (by omega)).mono ?_
  rintro e w3 ⟨r, M, rfl, hR, hB, hS3, hG3⟩
  go_wp2_with fail
  go_ret
  exact ⟨_, M, rfl, hR, hB, hS3.mono (by omega), grownBy_trans hW.gr hG3⟩

end Go.Proofs.YtocffojhhjdeoaaGreat

namespace Go.Proofs.YtocffojhhjdeoaaGreat
open Go.RowKit
set_option linter.unusedVariables false

theorem tree_ways {P : Prop} {r : Int} (h : 0 ≤ r) (h2 : r = 2 → P) (h0 : r = 0 → P) (h1 : r = 1 → P) (hx : 2 < r → P) : P := by
  have hc : r = 2 ∨ r = 0 ∨ r = 1 ∨ 2 < r := by omega
  rcases hc with h | h | h | h
  · exact h2 h
  · exact h0 h
  · exact h1 h
  · exact hx h
/-- All old memory is as it was. -/
def BelW (w w' : World) : Prop := Below w.heap.size w w'
/-- What is drawn: a log that can be read, and three small numbers. -/
def TreeAns (w : World) (e : Ending) (w' : World) : Prop := ∃ (r : Value) (M : List Ov) (a l p : Int), e = .returned (.tuple #[r, .int .i64 a, .int .i64 l, .int .i64 p]) ∧ RdO w'.heap.size w' r M ∧ BtL 2120 M ∧ (-10 ≤ l ∧ l ≤ 10) ∧ (-10 ≤ p ∧ p ≤ 300) ∧ Below w.heap.size w w'

set_option maxHeartbeats 4000000 in
set_option maxRecDepth 100000 in
theorem drawTreeSum_any (C : Nat) (w : World) (v : Value) (xs : List Int) (hC : C ≤ w.heap.size) (hr : Rd C w v (xs.map (Value.int .u8))) (hX : ∀ x ∈ xs, 0 ≤ x ∧ x ≤ 255) (hl : xs.length ≤ 1048576) :
    Calls Tryz.prog 4 #[v] w (TreeAns w) := by
  have hso := source_any C w v xs hC hr hX hl
  obtain ⟨ao, la, ca, rfl⟩ : ∃ ao len cap, v = .slice ao len cap := by
    obtain ⟨ao, cap, rfl, _⟩ := hr
    exact ⟨_, _, _, rfl⟩
  clear hr
  go_enter Tryz.func4, Tryz.ntmps4
  go_wp2_with fail
  refine hso.mono ?_
  rintro e w1 ⟨rfl, hS1, hb1⟩
  have hdr := l08Draw_any C w.heap.size 0 w1 hS1 (by omega)
  clear hso hS1
  go_wp2_with fail
  refine hdr.mono ?_
  rintro e w2 ⟨r, M, rfl, hR, hM, hS2, hG2⟩
  have hB2 : Below w.heap.size w w2 := hb1.grown hG2 hb1.size (fun k hk => by cases hk; omega)
  have HST : Hid (∀ w' A', Src C w' w.heap.size A' → w2.grownBy w' (some w.heap.size) → RdO w'.heap.size w' r M ∧ BelW w w') := fun w' A' hs hg => ⟨(hR.aside (fun x hx => (hM.2 x hx).2.1) hS2 hg (Nat.le_refl _)).mono hg.size, hB2.grown hg hB2.size (fun k hk => by cases hk; omega)⟩
  clear hdr hG2 hb1 hB2 hR
  generalize w.heap.size = b at *
  go_wp2_with fail
  refine (srcNext_any C b _ 4 _ hS2 (by omega) (by omega) (by omega)).mono ?_
  rintro e w3 ⟨l, rfl, hl0, hl1, hS3, hG3⟩
  clear hS2
  go_wp2_with fail
  refine (srcNext_any C b _ 3 _ hS3 (by omega) (by omega) (by omega)).mono ?_
  rintro e w4 ⟨p, rfl, hp0, hp1, hS4, hG4⟩
  have hg4 := grownBy_trans hG3 hG4
  clear hS3 hG3 hG4
  go_wp2_with fail
  refine (srcNext_any C b _ 12 _ hS4 (by omega) (by omega) (by omega)).mono ?_
  rintro e w5 ⟨q, rfl, hq0, hq1, hS5, hG5⟩
  have hg5 := grownBy_trans hg4 hG5
  clear hS4 hg4 hG5
  refine tree_ways hq0 (fun h => ?y2) (fun h => ?y0) (fun h => ?y1) (fun h => ?yx)
  case y2 =>
    subst h
    obtain ⟨hR, hB⟩ := HST.out _ _ hS5 hg5
    go_wp2_with fail
    refine bodyPost_ret (v := .tuple #[r, .int .i64 0, .int .i64 8, .int .i64 0]) (by simp [results, Tryz.results4]) rfl ?_
    exact ⟨r, M, 0, 8, 0, rfl, hR, hM, ⟨by omega, by omega⟩, ⟨by omega, by omega⟩, hB⟩
  case' y0 =>
    subst h
    go_wp2_with fail
    refine (srcNext_any C b _ 3 _ (hS5.alloc _) (by omega) (by omega) (by omega)).mono ?_
    rintro e w6 ⟨n, rfl, hn0, hn1, hS6, hG6⟩
    obtain ⟨n, rfl⟩ := Int.eq_ofNat_of_zero_le hn0
    have hl6 := blk_kept hS5.lt hG6
    obtain ⟨z, hz, hzv⟩ := litB3 (-1) 8 9 n (by omega)
    have cz := blk_cell hl6 n hz
    have hni : (n : Int) < 3 := by omega
    have hg6 := grownBy_trans hg5 (grownBy_trans (World.grownBy_alloc w5 _ (some b)) hG6)
    clear hl6 hz hS5 hG6 hg5
    go_wp2_with fail
    clear cz
    refine (srcNext_any C b _ 2 _ hS6 (by omega) (by omega) (by omega)).mono ?_
    rintro e w7 ⟨p7, rfl, hp70, hp71, hS7, hG7⟩
    have HZ : Hid (∃ (A' : Nat) (l9 p9 : Int), A' ≤ 10000 ∧ Src C w7 b A' ∧ w2.grownBy w7 (some b) ∧ l9 = z ∧ p9 = p7 ∧ (-10 ≤ l9 ∧ l9 ≤ 10) ∧ (-10 ≤ p9 ∧ p9 ≤ 300)) := ⟨_, z, p7, by omega, hS7, grownBy_trans hg6 hG7, rfl, rfl, ⟨by omega, by omega⟩, ⟨by omega, by omega⟩⟩
    clear hS6 hG7 hg6 hS7
    go_upto_region 13 with fail
    generalize w7 = wz at *
    generalize z = lz at *
    generalize p7 = pz at *
  case' y1 =>
    subst h
    obtain ⟨m, hm⟩ : ∃ m : Nat, 8 - l = (m : Int) := ⟨(8 - l).toNat, by omega⟩
    obtain ⟨l', hl'⟩ : ∃ l' : Nat, l = (l' : Int) := ⟨l.toNat, by omega⟩
    have hm8 : m ≤ 8 := by omega
    have hpw := fun wz => l12Power_any m hm8 wz
    have hpb : 2 ^ m ≤ 256 := pow_le8 m hm8
    have hp1b : 1 ≤ 2 ^ m := Nat.one_le_two_pow
    generalize 2 ^ m = pm at *
    subst hl'
    go_wp2_with fail
    refine (hpw w5).mono ?_
    rintro e w6 ⟨rfl, hw6⟩
    obtain rfl := hw6.symm
    go_wp2_with fail
    refine (hpw w5).mono ?_
    rintro e w7 ⟨rfl, hw7⟩
    obtain rfl := hw7.symm
    go_wp2_with fail
    refine (srcNext_any C b _ 3 _ (hS5.alloc _) (by omega) (by omega) (by omega)).mono ?_
    rintro e w6 ⟨n, rfl, hn0, hn1, hS6, hG6⟩
    obtain ⟨n, rfl⟩ := Int.eq_ofNat_of_zero_le hn0
    have hl6 := blk_kept hS5.lt hG6
    obtain ⟨z, hz, hzv⟩ := litB3 (-1) ((pm : Int) - 1) (pm : Int) n (by omega)
    have cz := blk_cell hl6 n hz
    have hni : (n : Int) < 3 := by omega
    have hg6 := grownBy_trans hg5 (grownBy_trans (World.grownBy_alloc w5 _ (some b)) hG6)
    have HZ : Hid (∃ (A' : Nat) (l9 p9 : Int), A' ≤ 10000 ∧ Src C w6 b A' ∧ w2.grownBy w6 (some b) ∧ l9 = (l' : Int) ∧ p9 = z ∧ (-10 ≤ l9 ∧ l9 ≤ 10) ∧ (-10 ≤ p9 ∧ p9 ≤ 300)) := ⟨_, (l' : Int), z, by omega, hS6, hg6, rfl, rfl, ⟨by omega, by omega⟩, ⟨by omega, by omega⟩⟩
    clear hl6 hz hS5 hG6 hg5 hS6 hg6 hpw
    go_upto_region 13 with fail
    clear cz
    generalize w6 = wz at *
    generalize (l' : Int) = lz at *
    generalize z = pz at *
  case' yx =>
    have e0 : (q == 0) = false := by simp; omega
    have e1 : (q == 1) = false := by simp; omega
    have e2 : (q == 2) = false := by simp; omega
    have HZ : Hid (∃ (A' : Nat) (l9 p9 : Int), A' ≤ 10000 ∧ Src C w5 b A' ∧ w2.grownBy w5 (some b) ∧ l9 = l ∧ p9 = p ∧ (-10 ≤ l9 ∧ l9 ≤ 10) ∧ (-10 ≤ p9 ∧ p9 ≤ 300)) := ⟨_, l, p, by omega, hS5, hg5, rfl, rfl, ⟨by omega, by omega⟩, ⟨by omega, by omega⟩⟩
    clear h hS5 hg5
    go_upto_region 13 with fail
    clear e0 e1 e2
    generalize w5 = wz at *
    generalize l = lz at *
    generalize p = pz at *
  all_goals
    obtain ⟨A9, l9, p9, hA9, hS9, hg9, rfl, rfl, hlb, hpb⟩ := HZ.out
    have hac := l03Actor_any C b A9 wz hS9 (by omega)
    clear HZ
    go_wp2_with fail
    refine hac.mono ?_
    rintro e wy ⟨ac, rfl, hSy, hGy⟩
    obtain ⟨hR, hB⟩ := HST.out _ _ hSy (grownBy_trans hg9 hGy)
    clear hac
    go_wp2_with fail
    refine bodyPost_ret (v := .tuple #[r, .int .i64 ac, .int .i64 _, .int .i64 _]) (by simp [results, Tryz.results4]; exact ⟨rfl, rfl⟩) rfl ?_
    exact ⟨r, M, ac, _, _, rfl, hR, hM, hlb, hpb, hB⟩
end Go.Proofs.YtocffojhhjdeoaaGreat
