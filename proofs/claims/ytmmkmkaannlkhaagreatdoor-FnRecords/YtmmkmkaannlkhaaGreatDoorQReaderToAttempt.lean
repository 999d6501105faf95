/- What require and take do: a reader's place, and the fault with which it panics. What number does: it reads the number at the reader's place, or panics with the fault. What attempt does with number: the fault becomes a code; and the code's GetInt. -/
import Derived.Defers
import Derived.Recover
import Derived.Deep.RegionHeld2
import Derived.Test.YtmmkmkaannlkhaaGreatDoorQInfoToLawAt
import Derived.Test.YtmmkmkaannlkhaaGreatDoorQBaseToOwnType
namespace Go.Proofs.YtmmkmkaannlkhaaGreatDoor
open Go.RowKit
set_option linter.unusedVariables false

/-- The block b holds a reader: its bytes, its place. -/
def Rdr (w : World) (b : Nat) (va : Value) (p : Nat) : Prop := w.heap[b]? = some (.cells #[va, .int .i64 (p : Int)] 90 (0, 0))
/-- What a reader panics with. -/
def Bad (e : Ending) : Prop := e = .panicked [{ v := .iface 137 (.int .i64 3), recovered := false }]

theorem Rdr.c0 {w : World} {b p : Nat} {va : Value} (h : Rdr w b va p) : w.cell? ⟨b, 0, none⟩ = some va := by
  unfold Rdr at h; simp [World.cell?, h]
theorem Rdr.c1 {w : World} {b p : Nat} {va : Value} (h : Rdr w b va p) : w.cell? ⟨b, 1, none⟩ = some (.int .i64 (p : Int)) := by
  unfold Rdr at h; simp [World.cell?, h]
theorem Rdr.f {w : World} {b p : Nat} {va : Value} (h : Rdr w b va p) (j : Nat) : w.frozen? ⟨b, j, none⟩ = false := by
  unfold Rdr at h; simp [World.frozen?, h]
theorem Rdr.set {w : World} {b p : Nat} {va : Value} (h : Rdr w b va p) (q : Nat) : Rdr (w.setCell ⟨b, 1, none⟩ (.int .i64 (q : Int))) b va q := by
  unfold Rdr at h ⊢
  rw [heap_setCell_same w b 1 _ _ _ h]
  rfl
theorem Rdr.grow {w : World} {b p : Nat} {va : Value} (_h : Rdr w b va p) (u : Value) : w.grownBy (w.setCell ⟨b, 1, none⟩ u) (some b) :=
  ⟨rfl, rfl, rfl, by simp, fun k _ hk => heap_setCell_other w ⟨b, 1, none⟩ k u (fun e => hk (by simp [e]))⟩

theorem Rdr.alloc {w : World} {b p : Nat} {va : Value} (h : Rdr w b va p) (o : Obj) : Rdr (w.alloc o) b va p := by
  unfold Rdr at h ⊢
  rw [Below.heap_alloc w o b (Array.getElem?_eq_some_iff.1 h).1, h]
theorem Rdr.other {w : World} {b p k : Nat} {va : Value} (h : Rdr w b va p) (hk : b ≠ k) (u : Value) : Rdr (w.setCell ⟨k, 0, none⟩ u) b va p := by
  unfold Rdr at h ⊢
  rw [heap_setCell_other w ⟨k, 0, none⟩ b u hk, h]
theorem Rdr.lt {w : World} {b p : Nat} {va : Value} (h : Rdr w b va p) : b < w.heap.size := (Array.getElem?_eq_some_iff.1 h).1

set_option maxHeartbeats 400000 in
theorem require_yes (r : Value) (w : World) : Calls Tryz.prog 101 #[r, .bool true] w fun e w' => e = .returned (.tuple #[]) ∧ w' = w := by
  go_enter Tryz.func101, Tryz.ntmps101
  go_wp2
  go_end0
  exact ⟨rfl, rfl⟩
set_option maxHeartbeats 400000 in
theorem require_no (r : Value) (w : World) : Calls Tryz.prog 101 #[r, .bool false] w fun e w' => Bad e ∧ w' = w := by
  go_enter Tryz.func101, Tryz.ntmps101
  go_wp2
  exact ⟨rfl, rfl, rfl⟩

theorem require_y (r : Value) (t : Bool) (w : World) (h : t = true) : Calls Tryz.prog 101 #[r, .bool t] w fun e w' => e = .returned (.tuple #[]) ∧ w' = w := by
  subst h
  exact require_yes r w
theorem require_n (r : Value) (t : Bool) (w : World) (h : t = false) : Calls Tryz.prog 101 #[r, .bool t] w fun e w' => e = .panicked [{ v := .iface 137 (.int .i64 3), recovered := false }] ∧ w' = w := by
  subst h
  exact require_no r w
/-- The same, with a way that is none: for a region that wants one. -/
theorem require_none (r : Value) (w : World) : Calls Tryz.prog 101 #[r, .bool false] w fun e w' => (e = .returned (.tuple #[]) ∧ w' = w ∧ Hid False) ∨ (e = .panicked [{ v := .iface 137 (.int .i64 3), recovered := false }] ∧ w' = w) :=
  (require_no r w).mono fun _ _ h => .inr h

set_option maxHeartbeats 400000 in
theorem take_ok (C b p n : Nat) (w : World) (va : Value) (cs : List Value) (hl : cs.length ≤ 1048576) (hp : p ≤ cs.length) (hn : n ≤ cs.length - p) (hC : C ≤ b) (hr : Rd C w va cs) (hR : Rdr w b va p) :
    Calls Tryz.prog 99 #[.pointer (some ⟨b, 0, none⟩), .int .i64 (n : Int)] w fun e w' => ∃ r, e = .returned r ∧ Rd C w' r ((cs.drop p).take n) ∧ Rdr w' b va (p + n) ∧ w.grownBy w' (some b) := by
  have hr0 := hr
  obtain ⟨ao, cap, rfl, hcap, hmax, hnil, hr⟩ := hr
  clear hr
  have r0 := hR.c0
  have r1 := hR.c1
  have f1 := hR.f 1
  have hle : (n : Int) ≤ (cs.length : Int) - (p : Int) := by omega
  go_enter Tryz.func99, Tryz.ntmps99
  go_wp2
  go_quiet ((go_at_call 101; exact Calls.quiet_of_same (require_yes _ _)))
  go_wp2
  have hR1 : Rdr ((w.drewN nq).setCell { block := b, off := 1 } (Value.int IntKind.i64 ((p : Int) + (n : Int)))) b _ (p + n) := Rdr.set (w := w.drewN nq) hR (p + n)
  have hg1 : w.grownBy ((w.drewN nq).setCell { block := b, off := 1 } (Value.int IntKind.i64 ((p : Int) + (n : Int)))) (some b) := grownBy_trans (grownBy_drewN w nq _) (Rdr.grow (w := w.drewN nq) hR _)
  generalize (w.drewN nq).setCell { block := b, off := 1 } (Value.int IntKind.i64 ((p : Int) + (n : Int))) = w1 at hR1 hg1 ⊢
  clear r0 r1 f1 hR
  have r0 := hR1.c0
  have r1 := hR1.c1
  have hr1 := hr0.grown hg1 (fun k hk => by cases hk; exact hC)
  clear hr0
  cases ao with
  | none =>
    have hz := hnil rfl
    subst hz
    have hl0 : cs.length = 0 := by omega
    have hr2 := hr1.cut p n hp hn (ao' := none) (by simp)
    have hRq : ∀ nq, Rdr (w1.drewN nq) b (Value.slice none 0 0) (p + n) := fun nq => by have h : Rdr (w1.drewN nq) b _ (p + n) := hR1; rwa [hl0] at h
    go_quiet (fail)
    go_wp2
    go_ret
    exact ⟨_, rfl, by simpa using hr2.drewN nq, hRq nq, grownBy_trans hg1 (grownBy_drewN w1 _ _)⟩
  | some ad =>
    by_cases hcp : cap = p
    · have hr2 := hr1.cut p n hp hn (ao' := some ad) (by rw [if_pos hcp])
      subst hcp
      go_quiet (fail)
      go_wp2
      go_ret
      exact ⟨_, rfl, by simpa using hr2.drewN nq, hR1, grownBy_trans hg1 (grownBy_drewN w1 _ _)⟩
    · have hr2 := hr1.cut p n hp hn (ao' := some (ad.add p)) (by rw [if_neg hcp]; rfl)
      go_quiet (fail)
      go_wp2
      go_ret
      exact ⟨_, rfl, by simpa using hr2.drewN nq, hR1, grownBy_trans hg1 (grownBy_drewN w1 _ _)⟩

set_option maxHeartbeats 400000 in
theorem take_no (b p : Nat) (n : Int) (w : World) (ao : Option Addr) (len cap : Nat) (hl : len ≤ 1048576) (hp : p ≤ len) (hn : (len : Int) - (p : Int) < n) (hR : Rdr w b (.slice ao len cap) p) :
    Calls Tryz.prog 99 #[.pointer (some ⟨b, 0, none⟩), .int .i64 n] w fun e w' => Bad e ∧ ∃ n, w' = w.drewN n := by
  have r0 := hR.c0
  have r1 := hR.c1
  have hle : decide (n ≤ IntKind.i64.wrap ((len : Int) - (p : Int))) = false := by rw [IntKind.wrap_i64]; simp; omega
  go_enter Tryz.func99, Tryz.ntmps99
  go_wp2
  go_region_held2 (fun w' => w'.cell? ⟨b, 0, none⟩ = some (.slice ao len cap) ∧ w'.cell? ⟨b, 1, none⟩ = some (.int .i64 (p : Int))) (go_keep) (first | (go_at_call 101; refine (require_none _ _).mono ?_; rintro e w' (⟨rfl, rfl, hF⟩ | ⟨rfl, rfl⟩); rotate_left; exact ⟨rfl, rfl, 1, rfl⟩))
  all_goals exact (hF.out).elim

theorem take_one (C b p : Nat) (w : World) (va : Value) (cs : List Value) (hl : cs.length ≤ 1048576) (hp : p < cs.length) (hC : C ≤ b) (hr : Rd C w va cs) (hR : Rdr w b va p) :
    Calls Tryz.prog 99 #[.pointer (some ⟨b, 0, none⟩), .int .i64 1] w fun e w' => ∃ g off cap, e = .returned (.slice (some ⟨g, off, none⟩) 1 cap) ∧ w'.cell? ⟨g, off, none⟩ = some cs[p] ∧ Rdr w' b va (p + 1) ∧ w.grownBy w' (some b) := by
  refine (take_ok C b p 1 w va cs hl (by omega) (by omega) hC hr hR).mono ?_
  rintro e w' ⟨r, rfl, hr1, hR1, hg1⟩
  rw [List.drop_eq_getElem_cons hp, List.take_succ_cons, List.take_zero] at hr1
  obtain ⟨ao, cap, rfl, _, _, _, hr1⟩ := hr1
  obtain ⟨g, off, rfl, _, hc⟩ := hr1 (by simp)
  exact ⟨g, off, cap, rfl, hc 0 _ rfl, hR1, hg1⟩
end Go.Proofs.YtmmkmkaannlkhaaGreatDoor

namespace Go.Proofs.YtmmkmkaannlkhaaGreatDoor
open Go.RowKit
set_option linter.unusedVariables false

/-- What number answers, and where the reader stands behind it. -/
def numR (xs : List Int) (b : Nat) (va : Value) (p : Nat) (e : Ending) (w' : World) : Prop := match getL xs p with
  | some (a, q) => e = .returned (.int .i64 a) ∧ Rdr w' b va q
  | none => Bad e ∧ ∃ q, q ≤ xs.length ∧ Rdr w' b va q

set_option maxHeartbeats 2000000 in
set_option maxRecDepth 100000 in
theorem number_any (C b p : Nat) (w : World) (va : Value) (xs : List Int) (hx : Bytes xs) (hl : xs.length ≤ 1048576) (hp : p ≤ xs.length) (hC : C ≤ b) (hr : Rd C w va (xs.map (Value.int .u8))) (hR : Rdr w b va p) :
    Calls Tryz.prog 100 #[.pointer (some ⟨b, 0, none⟩)] w fun e w' => numR xs b va p e w' ∧ w.grownBy w' (some b) := by
  go_enter Tryz.func100, Tryz.ntmps100
  go_wp2
  go_loopw [3, 4] (fun tv ti wr => ∃ (i : Nat) (v u : Int), i ≤ 9 ∧ p + i ≤ xs.length ∧ ti = .int .i64 ((7 * i : Nat) : Int) ∧ tv = .int .i64 v ∧ Rdr wr b va (p + i) ∧ w.grownBy wr (some b) ∧ Hid (i = 9 → getL xs p = none) ∧
      Hid (i ≤ 8 → u = 128 ^ i ∧ 0 ≤ v ∧ v < u ∧ u ≤ 72057594037927936 ∧ getL xs p = getF xs (9 - i) i (p + i) v)) (fun _ ti _ => 63 - (intOf ti).toNat)
  case atStart => exact ⟨0, 0, 1, by omega, by omega, rfl, rfl, hR, ⟨rfl, rfl, rfl, Nat.le_refl _, fun _ _ _ => rfl⟩, (fun h => by omega), (fun _ => ⟨rfl, by omega, by omega, by omega, rfl⟩)⟩
  case round =>
    clear hR
    obtain ⟨i, v, u, hi, hpi, rfl, rfl, hR, hg, H9, H8⟩ := hrel
    by_cases h9 : i = 9
    · have HN : Hid _ := H9.out h9
      subst h9
      clear H8
      go_wp2
      exact ⟨rfl, by unfold numR; rw [HN.out]; exact ⟨rfl, p + 9, hpi, hR⟩, hg⟩
    · obtain ⟨hu, hv0, hv1, hu8, hG⟩ := H8.out (by omega)
      clear H8 H9
      have hrw : Rd C wr va _ := hr.grown hg (fun k hk => by cases hk; exact hC)
      by_cases hlt : p + i < xs.length
      · obtain ⟨hb0, hb1⟩ := hx xs[p + i] (List.getElem_mem hlt)
        have hcs := get_cases (by omega) hu hv0 hv1 hG hlt rfl hb0 hb1
        obtain ⟨c, hc⟩ : ∃ c, xs[p + i] = c := ⟨_, rfl⟩
        rw [hc] at hb0 hb1 hcs
        have HC : Hid _ := hc
        clear hc
        have hm := mul_bd (c := c % 128) (u := u) (k := 127) (by omega) (by omega) (by omega)
        have HU : Hid _ := hu
        clear hG hr hu
        rcases hcs with ⟨rfl, h1, hG⟩ | ⟨rfl, h1, hG⟩ | ⟨h1, rfl, hG⟩ | ⟨h1, h2, h3, h4, hG⟩ | ⟨h1, h2, hG, h3, h4, h5⟩
        · have HG : Hid _ := hG
          have hu : u = 72057594037927936 := by rw [HU.out]; decide
          subst hu
          clear hG HU
          by_cases h128 : c < 128
          · go_wp2_with (first | (go_at_call 99; refine (take_one C b _ wr va (xs.map (Value.int .u8)) (by simpa using hl) (by simpa using hlt) hC hrw hR).mono ?_; rintro e w1 ⟨g, off, cap, rfl, c1, hR1, hg1⟩; rw [List.getElem_map, HC.out] at c1) | (go_at_call 101; refine (require_n _ _ _ (by first | rfl | (simp; done) | (simp; omega))).mono ?_; rintro e w' ⟨rfl, rfl⟩))
            exact ⟨rfl, by unfold numR; rw [HG.out]; exact ⟨rfl, p + 8 + 1, by omega, hR1⟩, grownBy_trans hg hg1⟩
          · go_wp2_with (first | (go_at_call 99; refine (take_one C b _ wr va (xs.map (Value.int .u8)) (by simpa using hl) (by simpa using hlt) hC hrw hR).mono ?_; rintro e w1 ⟨g, off, cap, rfl, c1, hR1, hg1⟩; rw [List.getElem_map, HC.out] at c1))
            go_roundw
            case rel => exact ⟨9, _, 0, by omega, by omega, rfl, rfl, hR1, grownBy_trans hg hg1, (fun _ => HG.out), (fun h => by omega)⟩
            case measure => simp [intOf]
        · have HG : Hid _ := hG
          have hu : u = 1 := by rw [HU.out]; decide
          subst hu
          clear hG HU
          by_cases hc0 : 0 < c
          all_goals
            go_wp2_with (first | (go_at_call 99; refine (take_one C b _ wr va (xs.map (Value.int .u8)) (by simpa using hl) (by simpa using hlt) hC hrw hR).mono ?_; rintro e w1 ⟨g, off, cap, rfl, c1, hR1, hg1⟩; rw [List.getElem_map, HC.out] at c1) | (go_at_call 101; refine (require_y _ _ _ (by first | rfl | (simp; done) | (simp; omega))).mono ?_; rintro e w' ⟨rfl, rfl⟩))
            go_ret
            exact ⟨by unfold numR; rw [HG.out]; exact ⟨by simp, hR1⟩, grownBy_trans hg hg1⟩
        · have HG : Hid _ := hG
          have hu := HU.out
          clear hG HU
          rcases (show i = 1 ∨ i = 2 ∨ i = 3 ∨ i = 4 ∨ i = 5 ∨ i = 6 ∨ i = 7 ∨ i = 8 from by omega) with rfl | rfl | rfl | rfl | rfl | rfl | rfl | rfl
          all_goals
            simp at hu
            subst hu
            go_wp2_with (first | (go_at_call 99; refine (take_one C b _ wr va (xs.map (Value.int .u8)) (by simpa using hl) (by simpa using hlt) hC hrw hR).mono ?_; rintro e w1 ⟨g, off, cap, rfl, c1, hR1, hg1⟩; rw [List.getElem_map, HC.out] at c1) | (go_at_call 101; refine (require_y _ _ _ (by first | rfl | (simp; done) | (simp; omega))).mono ?_; rintro e w' ⟨rfl, rfl⟩) | (go_at_call 101; refine (require_n _ _ _ (by first | rfl | (simp; done) | (simp; omega))).mono ?_; rintro e w' ⟨rfl, rfl⟩))
            exact ⟨rfl, by unfold numR; rw [HG.out]; exact ⟨rfl, _, hlt, hR1⟩, grownBy_trans hg hg1⟩
        · have HG : Hid _ := hG
          have hu := HU.out
          clear hG HU
          rcases (show i = 1 ∨ i = 2 ∨ i = 3 ∨ i = 4 ∨ i = 5 ∨ i = 6 ∨ i = 7 ∨ i = 8 from by omega) with rfl | rfl | rfl | rfl | rfl | rfl | rfl | rfl
          all_goals
            simp at hu
            subst hu
            simp at h4
            go_wp2_with (first | (go_at_call 99; refine (take_one C b _ wr va (xs.map (Value.int .u8)) (by simpa using hl) (by simpa using hlt) hC hrw hR).mono ?_; rintro e w1 ⟨g, off, cap, rfl, c1, hR1, hg1⟩; rw [List.getElem_map, HC.out] at c1) | (go_at_call 101; refine (require_y _ _ _ (by first | rfl | (simp; done) | (simp; omega))).mono ?_; rintro e w' ⟨rfl, rfl⟩))
            go_ret
            exact ⟨by unfold numR; rw [HG.out]; exact ⟨by simp, hR1⟩, grownBy_trans hg hg1⟩
        · have HG : Hid _ := hG
          have hu := HU.out
          clear hG HU h3
          rcases (show i = 0 ∨ i = 1 ∨ i = 2 ∨ i = 3 ∨ i = 4 ∨ i = 5 ∨ i = 6 ∨ i = 7 from by omega) with rfl | rfl | rfl | rfl | rfl | rfl | rfl | rfl
          · simp at hu
            subst hu
            go_wp2_with (first | (go_at_call 99; refine (take_one C b _ wr va (xs.map (Value.int .u8)) (by simpa using hl) (by simpa using hlt) hC hrw hR).mono ?_; rintro e w1 ⟨g, off, cap, rfl, c1, hR1, hg1⟩; rw [List.getElem_map, HC.out] at c1))
            go_roundw
            case rel => exact ⟨1, v + c % 128 * 1, 128, by omega, by omega, by rfl, by simp, hR1, grownBy_trans hg hg1, (fun h => by omega), (fun _ => ⟨by decide, h4, by omega, by omega, HG.out⟩)⟩
            case measure => simp [intOf]
          · simp at hu
            subst hu
            go_wp2_with (first | (go_at_call 99; refine (take_one C b _ wr va (xs.map (Value.int .u8)) (by simpa using hl) (by simpa using hlt) hC hrw hR).mono ?_; rintro e w1 ⟨g, off, cap, rfl, c1, hR1, hg1⟩; rw [List.getElem_map, HC.out] at c1))
            go_roundw
            case rel => exact ⟨2, v + c % 128 * 128, 16384, by omega, by omega, by rfl, by simp, hR1, grownBy_trans hg hg1, (fun h => by omega), (fun _ => ⟨by decide, h4, by omega, by omega, HG.out⟩)⟩
            case measure => simp [intOf]
          · simp at hu
            subst hu
            go_wp2_with (first | (go_at_call 99; refine (take_one C b _ wr va (xs.map (Value.int .u8)) (by simpa using hl) (by simpa using hlt) hC hrw hR).mono ?_; rintro e w1 ⟨g, off, cap, rfl, c1, hR1, hg1⟩; rw [List.getElem_map, HC.out] at c1))
            go_roundw
            case rel => exact ⟨3, v + c % 128 * 16384, 2097152, by omega, by omega, by rfl, by simp, hR1, grownBy_trans hg hg1, (fun h => by omega), (fun _ => ⟨by decide, h4, by omega, by omega, HG.out⟩)⟩
            case measure => simp [intOf]
          · simp at hu
            subst hu
            go_wp2_with (first | (go_at_call 99; refine (take_one C b _ wr va (xs.map (Value.int .u8)) (by simpa using hl) (by simpa using hlt) hC hrw hR).mono ?_; rintro e w1 ⟨g, off, cap, rfl, c1, hR1, hg1⟩; rw [List.getElem_map, HC.out] at c1))
            go_roundw
            case rel => exact ⟨4, v + c % 128 * 2097152, 268435456, by omega, by omega, by rfl, by simp, hR1, grownBy_trans hg hg1, (fun h => by omega), (fun _ => ⟨by decide, h4, by omega, by omega, HG.out⟩)⟩
            case measure => simp [intOf]
          · simp at hu
            subst hu
            go_wp2_with (first | (go_at_call 99; refine (take_one C b _ wr va (xs.map (Value.int .u8)) (by simpa using hl) (by simpa using hlt) hC hrw hR).mono ?_; rintro e w1 ⟨g, off, cap, rfl, c1, hR1, hg1⟩; rw [List.getElem_map, HC.out] at c1))
            go_roundw
            case rel => exact ⟨5, v + c % 128 * 268435456, 34359738368, by omega, by omega, by rfl, by simp, hR1, grownBy_trans hg hg1, (fun h => by omega), (fun _ => ⟨by decide, h4, by omega, by omega, HG.out⟩)⟩
            case measure => simp [intOf]
          · simp at hu
            subst hu
            go_wp2_with (first | (go_at_call 99; refine (take_one C b _ wr va (xs.map (Value.int .u8)) (by simpa using hl) (by simpa using hlt) hC hrw hR).mono ?_; rintro e w1 ⟨g, off, cap, rfl, c1, hR1, hg1⟩; rw [List.getElem_map, HC.out] at c1))
            go_roundw
            case rel => exact ⟨6, v + c % 128 * 34359738368, 4398046511104, by omega, by omega, by rfl, by simp, hR1, grownBy_trans hg hg1, (fun h => by omega), (fun _ => ⟨by decide, h4, by omega, by omega, HG.out⟩)⟩
            case measure => simp [intOf]
          · simp at hu
            subst hu
            go_wp2_with (first | (go_at_call 99; refine (take_one C b _ wr va (xs.map (Value.int .u8)) (by simpa using hl) (by simpa using hlt) hC hrw hR).mono ?_; rintro e w1 ⟨g, off, cap, rfl, c1, hR1, hg1⟩; rw [List.getElem_map, HC.out] at c1))
            go_roundw
            case rel => exact ⟨7, v + c % 128 * 4398046511104, 562949953421312, by omega, by omega, by rfl, by simp, hR1, grownBy_trans hg hg1, (fun h => by omega), (fun _ => ⟨by decide, h4, by omega, by omega, HG.out⟩)⟩
            case measure => simp [intOf]
          · simp at hu
            subst hu
            go_wp2_with (first | (go_at_call 99; refine (take_one C b _ wr va (xs.map (Value.int .u8)) (by simpa using hl) (by simpa using hlt) hC hrw hR).mono ?_; rintro e w1 ⟨g, off, cap, rfl, c1, hR1, hg1⟩; rw [List.getElem_map, HC.out] at c1))
            go_roundw
            case rel => exact ⟨8, v + c % 128 * 562949953421312, 72057594037927936, by omega, by omega, by rfl, by simp, hR1, grownBy_trans hg hg1, (fun h => by omega), (fun _ => ⟨by decide, h4, by omega, by omega, HG.out⟩)⟩
            case measure => simp [intOf]
      · have HN : Hid (getL xs p = none) := get_stop hG (by omega)
        clear hG
        have hpe : p + i = xs.length := by omega
        obtain ⟨ao, cap, rfl, _, _, _, hr1⟩ := hrw
        clear hr1
        rw [List.length_map] at hR
        go_wp2_with (go_at_call 99; refine (take_no b (p + i) 1 _ ao xs.length cap (by omega) (by omega) (by omega) hR).mono ?_; rintro e w1 ⟨he, n, rfl⟩; unfold Bad at he; subst he)
        exact ⟨rfl, by unfold numR; rw [HN.out]; exact ⟨rfl, p + i, by omega, by rw [List.length_map]; exact hR⟩, grownBy_trans hg (grownBy_drewN _ _ _)⟩
end Go.Proofs.YtmmkmkaannlkhaaGreatDoor

namespace Go.Proofs.YtmmkmkaannlkhaaGreatDoor
open Go.RowKit
set_option linter.unusedVariables false

theorem at_cell {w : World} {g : Nat} {v : Value} {T : TypeId} (h : w.heap[g]? = some (.cells #[v] T (0, 0))) : w.cell? ⟨g, 0, none⟩ = some v := by
  unfold World.cell?
  rw [show w.heap[(⟨g, 0, none⟩ : Addr).block]? = some (.cells #[v] T (0, 0)) from h]
  rfl

set_option maxHeartbeats 400000 in
theorem faultCode_any (w : World) : Calls Tryz.prog 98 #[.iface 137 (.int .i64 3)] w fun e w' => e = .returned (.int .i64 3) ∧ w' = w := by
  have hta : ∀ w, (Instr.typeAssert (.iface 137 (.int .i64 3)) 20 137 true).run Tryz.prog w = .ok (.tuple #[.int .i64 3, .bool true]) w := fun _ => by kernel_rfl
  go_enter Tryz.func98, Tryz.ntmps98
  go_wp2
  go_ret
  exact ⟨rfl, rfl⟩

/-- What attempt answers with number, and where the reader stands behind it. -/
def attR (xs : List Int) (b : Nat) (va : Value) (p : Nat) (e : Ending) (w' : World) : Prop := match getL xs p with
  | some (a, q) => e = .returned (.tuple #[.int .i64 a, .int .i64 0]) ∧ Rdr w' b va q
  | none => e = .returned (.tuple #[.int .i64 0, .int .i64 3]) ∧ ∃ q, q ≤ xs.length ∧ Rdr w' b va q

end Go.Proofs.YtmmkmkaannlkhaaGreatDoor
