/- What number does: it reads the number at the reader's place, or panics with the fault. -/
import Derived.Test.YtpiadcjkbbgggaaReader
namespace Go.Proofs.Ytpiadcjkbbgggaa
open Go.RowKit
set_option linter.unusedVariables false

/-- What number answers, and where the reader stands behind it. -/
def numR (xs : List Int) (b : Nat) (va : Value) (p : Nat) (e : Ending) (w' : World) : Prop := match getL xs p with
  | some (a, q) => e = .returned (.int .i64 a) ∧ Rdr w' b va q
  | none => Bad e ∧ ∃ q, q ≤ xs.length ∧ Rdr w' b va q

set_option maxHeartbeats 2000000 in
set_option maxRecDepth 100000 in
theorem number_any (C b p : Nat) (w : World) (va : Value) (xs : List Int) (hx : Bytes xs) (hl : xs.length ≤ 1048576) (hp : p ≤ xs.length) (hC : C ≤ b) (hr : Rd C w va (xs.map (Value.int .u8))) (hR : Rdr w b va p) :
    Calls Try.prog 58 #[.pointer (some ⟨b, 0, none⟩)] w fun e w' => numR xs b va p e w' ∧ w.grownBy w' (some b) := by
  go_enter Try.func58, Try.ntmps58
  go_wp2
  go_loopw [3, 4] (fun tv ti wr => ∃ (i : Nat) (v u : Int), i ≤ 9 ∧ p + i ≤ xs.length ∧ ti = .int .i64 ((7 * i : Nat) : Int) ∧ tv = .int .i64 v ∧ Rdr wr b va (p + i) ∧ w.grownBy wr (some b) ∧ Hid (i = 9 → getL xs p = none) ∧
      Hid (i ≤ 8 → u = 128 ^ i ∧ 0 ≤ v ∧ v < u ∧ u ≤ 72057594037927936 ∧ getL xs p = getF xs (9 - i) i (p + i) v)) (fun _ ti _ => 63 - (intOf ti).toNat)
  case atStart => exact ⟨0, 0, 1, by omega, by omega, rfl, rfl, hR, ⟨rfl, rfl, rfl, Nat.le_refl _, fun _ _ _ => rfl⟩, (fun h => by omega), (fun _ => ⟨rfl, by omega, by omega, by omega, rfl⟩)⟩
  case round =>
    clear hR
    obtain ⟨i, v, u, hi, hpi, rfl, rfl, hR, hg, H9, H8⟩ := hrel
    by_cases h9 : i = 9
    · have HN : Hid _ := H9.out h9
      subst h9
      clear H8
      go_wp2
      exact ⟨rfl, by unfold numR; rw [HN.out]; exact ⟨rfl, p + 9, hpi, hR⟩, hg⟩
    · obtain ⟨hu, hv0, hv1, hu8, hG⟩ := H8.out (by omega)
      clear H8 H9
      have hrw : Rd C wr va _ := hr.grown hg (fun k hk => by cases hk; exact hC)
      by_cases hlt : p + i < xs.length
      · obtain ⟨hb0, hb1⟩ := hx xs[p + i] (List.getElem_mem hlt)
        have hcs := get_cases (by omega) hu hv0 hv1 hG hlt rfl hb0 hb1
        obtain ⟨c, hc⟩ : ∃ c, xs[p + i] = c := ⟨_, rfl⟩
        rw [hc] at hb0 hb1 hcs
        have HC : Hid _ := hc
        clear hc
        have hm := mul_bd (c := c % 128) (u := u) (k := 127) (by omega) (by omega) (by omega)
        have HU : Hid _ := hu
        clear hG hr hu
        rcases hcs with ⟨rfl, h1, hG⟩ | ⟨rfl, h1, hG⟩ | ⟨h1, rfl, hG⟩ | ⟨h1, h2, h3, h4, hG⟩ | ⟨h1, h2, hG, h3, h4, h5⟩
        · have HG : Hid _ := hG
          have hu : u = 72057594037927936 := by rw [HU.out]; decide
          subst hu
          clear hG HU
          by_cases h128 : c < 128
          · go_wp2_with (first | (go_at_call 91; refine (take_one C b _ wr va (xs.map (Value.int .u8)) (by simpa using hl) (by simpa using hlt) hC hrw hR).mono ?_; rintro e w1 ⟨g, off, cap, rfl, c1, hR1, hg1⟩; rw [List.getElem_map, HC.out] at c1) | (go_at_call 79; refine (require_n _ _ _ (by first | rfl | (simp; done) | (simp; omega))).mono ?_; rintro e w' ⟨rfl, rfl⟩))
            exact ⟨rfl, by unfold numR; rw [HG.out]; exact ⟨rfl, p + 8 + 1, by omega, hR1⟩, grownBy_trans hg hg1⟩
          · go_wp2_with (first | (go_at_call 91; refine (take_one C b _ wr va (xs.map (Value.int .u8)) (by simpa using hl) (by simpa using hlt) hC hrw hR).mono ?_; rintro e w1 ⟨g, off, cap, rfl, c1, hR1, hg1⟩; rw [List.getElem_map, HC.out] at c1))
            go_roundw
            case rel => exact ⟨9, _, 0, by omega, by omega, rfl, rfl, hR1, grownBy_trans hg hg1, (fun _ => HG.out), (fun h => by omega)⟩
            case measure => simp [intOf]
        · have HG : Hid _ := hG
          have hu : u = 1 := by rw [HU.out]; decide
          subst hu
          clear hG HU
          by_cases hc0 : 0 < c
          all_goals
            go_wp2_with (first | (go_at_call 91; refine (take_one C b _ wr va (xs.map (Value.int .u8)) (by simpa using hl) (by simpa using hlt) hC hrw hR).mono ?_; rintro e w1 ⟨g, off, cap, rfl, c1, hR1, hg1⟩; rw [List.getElem_map, HC.out] at c1) | (go_at_call 79; refine (require_y _ _ _ (by first | rfl | (simp; done) | (simp; omega))).mono ?_; rintro e w' ⟨rfl, rfl⟩))
            go_ret
            exact ⟨by unfold numR; rw [HG.out]; exact ⟨by simp, hR1⟩, grownBy_trans hg hg1⟩
        · have HG : Hid _ := hG
          have hu := HU.out
          clear hG HU
          rcases (show i = 1 ∨ i = 2 ∨ i = 3 ∨ i = 4 ∨ i = 5 ∨ i = 6 ∨ i = 7 ∨ i = 8 from by omega) with rfl | rfl | rfl | rfl | rfl | rfl | rfl | rfl
          all_goals
            simp at hu
            subst hu
            go_wp2_with (first | (go_at_call 91; refine (take_one C b _ wr va (xs.map (Value.int .u8)) (by simpa using hl) (by simpa using hlt) hC hrw hR).mono ?_; rintro e w1 ⟨g, off, cap, rfl, c1, hR1, hg1⟩; rw [List.getElem_map, HC.out] at c1) | (go_at_call 79; refine (require_y _ _ _ (by first | rfl | (simp; done) | (simp; omega))).mono ?_; rintro e w' ⟨rfl, rfl⟩) | (go_at_call 79; refine (require_n _ _ _ (by first | rfl | (simp; done) | (simp; omega))).mono ?_; rintro e w' ⟨rfl, rfl⟩))
            exact ⟨rfl, by unfold numR; rw [HG.out]; exact ⟨rfl, _, hlt, hR1⟩, grownBy_trans hg hg1⟩
        · have HG : Hid _ := hG
          have hu := HU.out
          clear hG HU
          rcases (show i = 1 ∨ i = 2 ∨ i = 3 ∨ i = 4 ∨ i = 5 ∨ i = 6 ∨ i = 7 ∨ i = 8 from by omega) with rfl | rfl | rfl | rfl | rfl | rfl | rfl | rfl
          all_goals
            simp at hu
            subst hu
            simp at h4
            go_wp2_with (first | (go_at_call 91; refine (take_one C b _ wr va (xs.map (Value.int .u8)) (by simpa using hl) (by simpa using hlt) hC hrw hR).mono ?_; rintro e w1 ⟨g, off, cap, rfl, c1, hR1, hg1⟩; rw [List.getElem_map, HC.out] at c1) | (go_at_call 79; refine (require_y _ _ _ (by first | rfl | (simp; done) | (simp; omega))).mono ?_; rintro e w' ⟨rfl, rfl⟩))
            go_ret
            exact ⟨by unfold numR; rw [HG.out]; exact ⟨by simp, hR1⟩, grownBy_trans hg hg1⟩
        · have HG : Hid _ := hG
          have hu := HU.out
          clear hG HU h3
          rcases (show i = 0 ∨ i = 1 ∨ i = 2 ∨ i = 3 ∨ i = 4 ∨ i = 5 ∨ i = 6 ∨ i = 7 from by omega) with rfl | rfl | rfl | rfl | rfl | rfl | rfl | rfl
          · simp at hu
            subst hu
            go_wp2_with (first | (go_at_call 91; refine (take_one C b _ wr va (xs.map (Value.int .u8)) (by simpa using hl) (by simpa using hlt) hC hrw hR).mono ?_; rintro e w1 ⟨g, off, cap, rfl, c1, hR1, hg1⟩; rw [List.getElem_map, HC.out] at c1))
            go_roundw
            case rel => exact ⟨1, v + c % 128 * 1, 128, by omega, by omega, by rfl, by simp, hR1, grownBy_trans hg hg1, (fun h => by omega), (fun _ => ⟨by decide, h4, by omega, by omega, HG.out⟩)⟩
            case measure => simp [intOf]
          · simp at hu
            subst hu
            go_wp2_with (first | (go_at_call 91; refine (take_one C b _ wr va (xs.map (Value.int .u8)) (by simpa using hl) (by simpa using hlt) hC hrw hR).mono ?_; rintro e w1 ⟨g, off, cap, rfl, c1, hR1, hg1⟩; rw [List.getElem_map, HC.out] at c1))
            go_roundw
            case rel => exact ⟨2, v + c % 128 * 128, 16384, by omega, by omega, by rfl, by simp, hR1, grownBy_trans hg hg1, (fun h => by omega), (fun _ => ⟨by decide, h4, by omega, by omega, HG.out⟩)⟩
            case measure => simp [intOf]
          · simp at hu
            subst hu
            go_wp2_with (first | (go_at_call 91; refine (take_one C b _ wr va (xs.map (Value.int .u8)) (by simpa using hl) (by simpa using hlt) hC hrw hR).mono ?_; rintro e w1 ⟨g, off, cap, rfl, c1, hR1, hg1⟩; rw [List.getElem_map, HC.out] at c1))
            go_roundw
            case rel => exact ⟨3, v + c % 128 * 16384, 2097152, by omega, by omega, by rfl, by simp, hR1, grownBy_trans hg hg1, (fun h => by omega), (fun _ => ⟨by decide, h4, by omega, by omega, HG.out⟩)⟩
            case measure => simp [intOf]
          · simp at hu
            subst hu
            go_wp2_with (first | (go_at_call 91; refine (take_one C b _ wr va (xs.map (Value.int .u8)) (by simpa using hl) (by simpa using hlt) hC hrw hR).mono ?_; rintro e w1 ⟨g, off, cap, rfl, c1, hR1, hg1⟩; rw [List.getElem_map, HC.out] at c1))
            go_roundw
            case rel => exact ⟨4, v + c % 128 * 2097152, 268435456, by omega, by omega, by rfl, by simp, hR1, grownBy_trans hg hg1, (fun h => by omega), (fun _ => ⟨by decide, h4, by omega, by omega, HG.out⟩)⟩
            case measure => simp [intOf]
          · simp at hu
            subst hu
            go_wp2_with (first | (go_at_call 91; refine (take_one C b _ wr va (xs.map (Value.int .u8)) (by simpa using hl) (by simpa using hlt) hC hrw hR).mono ?_; rintro e w1 ⟨g, off, cap, rfl, c1, hR1, hg1⟩; rw [List.getElem_map, HC.out] at c1))
            go_roundw
            case rel => exact ⟨5, v + c % 128 * 268435456, 34359738368, by omega, by omega, by rfl, by simp, hR1, grownBy_trans hg hg1, (fun h => by omega), (fun _ => ⟨by decide, h4, by omega, by omega, HG.out⟩)⟩
            case measure => simp [intOf]
          · simp at hu
            subst hu
            go_wp2_with (first | (go_at_call 91; refine (take_one C b _ wr va (xs.map (Value.int .u8)) (by simpa using hl) (by simpa using hlt) hC hrw hR).mono ?_; rintro e w1 ⟨g, off, cap, rfl, c1, hR1, hg1⟩; rw [List.getElem_map, HC.out] at c1))
            go_roundw
            case rel => exact ⟨6, v + c % 128 * 34359738368, 4398046511104, by omega, by omega, by rfl, by simp, hR1, grownBy_trans hg hg1, (fun h => by omega), (fun _ => ⟨by decide, h4, by omega, by omega, HG.out⟩)⟩
            case measure => simp [intOf]
          · simp at hu
            subst hu
            go_wp2_with (first | (go_at_call 91; refine (take_one C b _ wr va (xs.map (Value.int .u8)) (by simpa using hl) (by simpa using hlt) hC hrw hR).mono ?_; rintro e w1 ⟨g, off, cap, rfl, c1, hR1, hg1⟩; rw [List.getElem_map, HC.out] at c1))
            go_roundw
            case rel => exact ⟨7, v + c % 128 * 4398046511104, 562949953421312, by omega, by omega, by rfl, by simp, hR1, grownBy_trans hg hg1, (fun h => by omega), (fun _ => ⟨by decide, h4, by omega, by omega, HG.out⟩)⟩
            case measure => simp [intOf]
          · simp at hu
            subst hu
            go_wp2_with (first | (go_at_call 91; refine (take_one C b _ wr va (xs.map (Value.int .u8)) (by simpa using hl) (by simpa using hlt) hC hrw hR).mono ?_; rintro e w1 ⟨g, off, cap, rfl, c1, hR1, hg1⟩; rw [List.getElem_map, HC.out] at c1))
            go_roundw
            case rel => exact ⟨8, v + c % 128 * 562949953421312, 72057594037927936, by omega, by omega, by rfl, by simp, hR1, grownBy_trans hg hg1, (fun h => by omega), (fun _ => ⟨by decide, h4, by omega, by omega, HG.out⟩)⟩
            case measure => simp [intOf]
      · have HN : Hid (getL xs p = none) := get_stop hG (by omega)
        clear hG
        have hpe : p + i = xs.length := by omega
        obtain ⟨ao, cap, rfl, _, _, _, hr1⟩ := hrw
        clear hr1
        rw [List.length_map] at hR
        go_wp2_with (go_at_call 91; refine (take_no b (p + i) 1 _ ao xs.length cap (by omega) (by omega) (by omega) hR).mono ?_; rintro e w1 ⟨he, n, rfl⟩; unfold Bad at he; subst he)
        exact ⟨rfl, by unfold numR; rw [HN.out]; exact ⟨rfl, p + i, by omega, by rw [List.length_map]; exact hR⟩, grownBy_trans hg (grownBy_drewN _ _ _)⟩
end Go.Proofs.Ytpiadcjkbbgggaa
