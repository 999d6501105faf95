/- What toStringS, eqStringS, markText, markStringS and heldStringS do. What the specification's reader does: num, count, take. What the specification's runs does. What the specification's texts and GetTexts do. -/
import Derived.Deep.RegionHeld2
import Derived.Test.YtcjlihfkibpgoaaGreatDoorQTextsToPutTextsSpec
import Derived.Test.YtcjlihfkibpgoaaGreatDoorQInfoToCopies
namespace Go.Proofs.YtcjlihfkibpgoaaGreatDoor
open Go.RowKit Go.Lib
set_option linter.unusedVariables false

/-- The decimal digits of a number, ahead of a text. -/
def digs : Nat → Nat → List UInt8 → List UInt8
  | 0, _, l => l
  | f + 1, k, l => if k = 0 then l else digs f (k / 10) (UInt8.ofNat (48 + k % 10) :: l)
/-- What markText answers. -/
def mt (k : Nat) : ByteArray := if k = 0 then ⟨#[109, 48]⟩ else ⟨(109 :: digs k k []).toArray⟩

theorem digs_zero (f : Nat) (l : List UInt8) : digs f 0 l = l := by cases f <;> simp [digs]
theorem bytes_cons (x : Int) (l : List UInt8) : ofInts [x] ++ (⟨l.toArray⟩ : ByteArray) = ⟨(UInt8.ofNat x.toNat :: l).toArray⟩ := by
  apply ByteArray.ext
  simp [ofInts]

set_option maxHeartbeats 1000000 in
set_option maxRecDepth 100000 in
theorem markText_any (k : Nat) (hk : k ≤ 140737488355328) (w : World) : Calls Tryz.prog 16 #[.int .i64 (k : Int)] w fun e w' => e = .returned (.string (mt k)) ∧ Below w.heap.size w w' := by
  by_cases hz : k = 0
  · subst hz
    go_enter Tryz.func16, Tryz.ntmps16
    go_wp2
    go_ret
    exact ⟨rfl, Below.refl _ _⟩
  · have hpos : (0 : Int) < (k : Int) := by omega
    go_enter Tryz.func16, Tryz.ntmps16
    go_wp2
    go_loopw [0, 3] (fun t s wr => ∃ (j f : Nat) (l : List UInt8), j ≤ f ∧ l.length + j ≤ k ∧ t = .int .i64 j ∧ s = .string ⟨l.toArray⟩ ∧ Hid (digs k k [] = digs f j l) ∧ Below w.heap.size w wr) (fun t _ _ => (intOf t).toNat)
    case atStart => exact ⟨k, k, [], Nat.le_refl _, by simp, rfl, rfl, rfl, Below.refl _ _⟩
    case round =>
      obtain ⟨j, f, l, hf, hj, rfl, rfl, H, hbel⟩ := hrel
      by_cases h0 : j = 0
      · subst h0
        have HR : Hid (mt k = (⟨#[109]⟩ : ByteArray) ++ ⟨l.toArray⟩) := by
          unfold Hid
          unfold mt
          rw [if_neg hz, H.out, digs_zero]
          apply ByteArray.ext
          simp
        go_wp2
        go_ret
        exact ⟨by rw [HR.out]; rfl, hbel⟩
      · have hst := run_string_of (own_lit wr 5 [.int .u8 (48 + (j : Int) % 10)] 1 rfl (by decide)).rd (xs := [48 + (j : Int) % 10])
        have hcat := bytes_cons (48 + (j : Int) % 10) l
        have HD : Hid (digs k k [] = digs (f - 1) (j / 10) (UInt8.ofNat (48 + j % 10) :: l)) := by
          unfold Hid
          rw [H.out]
          obtain ⟨f, rfl⟩ : ∃ f', f = f' + 1 := ⟨f - 1, by omega⟩
          rw [digs, if_neg h0, Nat.add_sub_cancel]
        have hb2 : Below w.heap.size w (wr.alloc (.cells #[.int .u8 (48 + (j : Int) % 10)] 5)) := hbel.alloc hbel.size _
        have hlen : (ofInts [48 + (j : Int) % 10]).size = 1 := rfl
        clear H
        go_wp2
        go_roundw
        case rel => exact ⟨j / 10, f - 1, UInt8.ofNat (48 + j % 10) :: l, by omega, by simp; omega, by go_num, rfl, HD, hb2⟩
        case measure => simp [intOf]; omega

/-- What is written over m texts, from q on. -/
def marksT (q m : Nat) : List ByteArray := (List.range m).map fun i => mt (q + i)
theorem marksT_cells (q m : Nat) : (marksT q m).map Value.string = (List.range m).map fun i => Value.string (mt (q + i)) := by simp [marksT]

end Go.Proofs.YtcjlihfkibpgoaaGreatDoor

namespace Go.Proofs.YtcjlihfkibpgoaaGreatDoor
open Go.RowKit Go.Lib
set_option linter.unusedVariables false

/-- The block b holds the specification's reader: its bytes, its place, whether they were bad. -/
def RdrS (w : World) (b : Nat) (va : Value) (p : Nat) (bad : Bool) : Prop := w.heap[b]? = some (.cells #[va, .int .i64 (p : Int), .bool bad] 59 (0, 0))
theorem RdrS.c0 {w : World} {b p : Nat} {va : Value} {bad : Bool} (h : RdrS w b va p bad) : w.cell? ⟨b, 0, none⟩ = some va := by unfold RdrS at h; simp [World.cell?, h]
theorem RdrS.c1 {w : World} {b p : Nat} {va : Value} {bad : Bool} (h : RdrS w b va p bad) : w.cell? ⟨b, 1, none⟩ = some (.int .i64 (p : Int)) := by unfold RdrS at h; simp [World.cell?, h]
theorem RdrS.c2 {w : World} {b p : Nat} {va : Value} {bad : Bool} (h : RdrS w b va p bad) : w.cell? ⟨b, 2, none⟩ = some (.bool bad) := by unfold RdrS at h; simp [World.cell?, h]
theorem RdrS.f {w : World} {b p : Nat} {va : Value} {bad : Bool} (h : RdrS w b va p bad) (j : Nat) : w.frozen? ⟨b, j, none⟩ = false := by unfold RdrS at h; simp [World.frozen?, h]
theorem RdrS.set1 {w : World} {b p : Nat} {va : Value} {bad : Bool} (h : RdrS w b va p bad) (q : Nat) : RdrS (w.setCell ⟨b, 1, none⟩ (.int .i64 (q : Int))) b va q bad := by
  unfold RdrS at h ⊢
  rw [heap_setCell_same w b 1 _ _ _ h]
  rfl
theorem RdrS.set2 {w : World} {b p : Nat} {va : Value} {bad : Bool} (h : RdrS w b va p bad) (t : Bool) : RdrS (w.setCell ⟨b, 2, none⟩ (.bool t)) b va p t := by
  unfold RdrS at h ⊢
  rw [heap_setCell_same w b 2 _ _ _ h]
  rfl
theorem RdrS.grown {w w' : World} {b p : Nat} {va : Value} {bad : Bool} {row : Option Nat} (h : RdrS w b va p bad) (hg : w.grownBy w' row) (hr : ∀ k, row = some k → b ≠ k) : RdrS w' b va p bad := by
  unfold RdrS at h ⊢
  rw [hg.block b (Array.getElem?_eq_some_iff.1 h).1 (fun e => hr b e.symm rfl), h]

/-- What num answers. -/
def numS (xs : List Int) (b : Nat) (va : Value) (p : Nat) (e : Ending) (w' : World) : Prop := match getL xs p with
  | some (a, q) => e = .returned (.int .i64 a) ∧ RdrS w' b va q false
  | none => e = .returned (.int .i64 0) ∧ RdrS w' b va p true

set_option maxHeartbeats 1000000 in
set_option maxRecDepth 100000 in
theorem num_good (C b p : Nat) (w : World) (va : Value) (xs : List Int) (hx : Bytes xs) (hl : xs.length ≤ 1048576) (hp : p ≤ xs.length) (hr : Rd C w va (xs.map (Value.int .u8))) (hR : RdrS w b va p false) :
    Calls Tryz.prog 36 #[.pointer (some ⟨b, 0, none⟩)] w fun e w' => numS xs b va p e w' ∧ w.grownBy w' (some b) := by
  have r0 := hR.c0
  have r1 := hR.c1
  have r2 := hR.c2
  have f1 := hR.f 1
  have f2 := hR.f 2
  have hS : ∀ w2 : World, w2 = w.drew → w2.cell? ⟨b, 0, none⟩ = some va ∧ w2.cell? ⟨b, 1, none⟩ = some (.int .i64 (p : Int)) := fun w2 e => by subst e; exact ⟨r0, r1⟩
  have HS : Hid _ := hS
  clear hS
  cases hG : getL xs p with
  | none =>
    have HG : Hid _ := hG
    clear hG
    go_enter Tryz.func36, Tryz.ntmps36
    go_wp2_with fail
    go_region_held2 (fun w' => w'.cell? ⟨b, 0, none⟩ = some va ∧ w'.cell? ⟨b, 1, none⟩ = some (.int .i64 (p : Int))) (first | exact HS.out _ rfl) (first | (go_at_call 18; refine (l01Get_any C _ va xs p hx hl hp (show Rd C w.drew va _ from hr)).mono ?_; rintro e w' ⟨hge, rfl⟩; rw [getR, HG.out] at hge; obtain ⟨x, y, rfl⟩ := hge))
    have hg : w.grownBy (w.drew.setCell ⟨b, 2, none⟩ (.bool true)) (some b) := grownBy_trans (show w.grownBy w.drew (some b) from grownBy_drewN w 1 _) (grownBy_set w.drew b 2 _)
    go_wp2_with fail
    go_ret
    exact ⟨by rw [numS, HG.out]; exact ⟨rfl, RdrS.set2 (w := w.drew) hR true⟩, hg⟩
  | some z =>
    obtain ⟨x, q⟩ := z
    have HG : Hid _ := hG
    clear hG
    go_enter Tryz.func36, Tryz.ntmps36
    go_wp2_with fail
    go_region_held2 (fun w' => w'.cell? ⟨b, 0, none⟩ = some va ∧ w'.cell? ⟨b, 1, none⟩ = some (.int .i64 (p : Int))) (first | exact HS.out _ rfl) (first | (go_at_call 18; refine (l01Get_any C _ va xs p hx hl hp (show Rd C w.drew va _ from hr)).mono ?_; rintro e w' ⟨hge, rfl⟩; rw [getR, HG.out] at hge; subst hge))
    have hg : w.grownBy (w.drew.setCell ⟨b, 1, none⟩ (.int .i64 (q : Int))) (some b) := grownBy_trans (show w.grownBy w.drew (some b) from grownBy_drewN w 1 _) (grownBy_set w.drew b 1 _)
    go_wp2_with fail
    go_ret
    exact ⟨by rw [numS, HG.out]; exact ⟨rfl, RdrS.set1 (w := w.drew) hR q⟩, hg⟩

set_option maxHeartbeats 400000 in
theorem num_bad (b p : Nat) (w : World) (va : Value) (hR : RdrS w b va p true) :
    Calls Tryz.prog 36 #[.pointer (some ⟨b, 0, none⟩)] w fun e w' => e = .returned (.int .i64 0) ∧ w' = w := by
  have r2 := hR.c2
  go_enter Tryz.func36, Tryz.ntmps36
  go_wp2_with fail
  go_ret
  exact ⟨rfl, rfl⟩

/-- What count answers. -/
def countS (xs : List Int) (b : Nat) (va : Value) (e : Ending) (w' : World) : Prop := match getL xs 0 with
  | some (a, q) => if 4096 < a then e = .returned (.int .i64 0) ∧ RdrS w' b va q true else e = .returned (.int .i64 a) ∧ RdrS w' b va q false
  | none => e = .returned (.int .i64 0) ∧ RdrS w' b va 0 true

set_option maxHeartbeats 400000 in
theorem count_any (C b : Nat) (w : World) (va : Value) (xs : List Int) (hx : Bytes xs) (hl : xs.length ≤ 1048576) (hr : Rd C w va (xs.map (Value.int .u8))) (hR : RdrS w b va 0 false) :
    Calls Tryz.prog 35 #[.pointer (some ⟨b, 0, none⟩)] w fun e w' => countS xs b va e w' ∧ w.grownBy w' (some b) := by
  go_enter Tryz.func35, Tryz.ntmps35
  go_wp2_with fail
  refine (num_good C b 0 w va xs hx hl (Nat.zero_le _) hr hR).mono ?_
  rintro e w1 ⟨hn, hg⟩
  unfold numS at hn
  cases hG : getL xs 0 with
  | none =>
    rw [hG] at hn
    obtain ⟨rfl, hR1⟩ := hn
    have HG : Hid _ := hG
    clear hG
    go_wp2_with fail
    go_ret
    exact ⟨by rw [countS, HG.out]; exact ⟨rfl, hR1⟩, hg⟩
  | some z =>
    obtain ⟨a, q⟩ := z
    rw [hG] at hn
    obtain ⟨rfl, hR1⟩ := hn
    have HG : Hid _ := hG
    clear hG
    by_cases h4 : 4096 < a
    · have r2 := hR1.c2
      have f2 := hR1.f 2
      have HC : Hid (countS xs b va (.returned (.int .i64 0)) (w1.setCell ⟨b, 2, none⟩ (.bool true))) := by
        unfold Hid countS
        rw [HG.out]
        simp only
        rw [if_pos h4]
        exact ⟨by trivial, hR1.set2 true⟩
      go_wp2_with fail
      go_ret
      exact ⟨HC.out, grownBy_trans hg (grownBy_set w1 b 2 _)⟩
    · have HC : Hid (countS xs b va (.returned (.int .i64 a)) w1) := by
        unfold Hid countS
        rw [HG.out]
        simp only
        rw [if_neg h4]
        exact ⟨by trivial, hR1⟩
      go_wp2_with fail
      go_ret
      exact ⟨HC.out, hg⟩

set_option maxHeartbeats 1000000 in
set_option maxRecDepth 100000 in
theorem takeS_bad (b p : Nat) (n : Int) (w : World) (va : Value) (hR : RdrS w b va p true) :
    Calls Tryz.prog 37 #[.pointer (some ⟨b, 0, none⟩), .int .i64 n] w fun e w' => e = .returned (.string ByteArray.empty) ∧ RdrS w' b va p true ∧ w.grownBy w' (some b) := by
  have r2 := hR.c2
  have f2 := hR.f 2
  go_enter Tryz.func37, Tryz.ntmps37
  go_wp2_with fail
  go_quiet (fail)
  go_wp2_with fail
  go_ret
  exact ⟨rfl, RdrS.set2 (w := w.drewN nq) hR true, grownBy_trans (grownBy_drewN w nq _) (grownBy_set (w.drewN nq) b 2 _)⟩

set_option maxHeartbeats 1000000 in
set_option maxRecDepth 100000 in
theorem takeS_long (b p : Nat) (n : Int) (w : World) (ao : Option Addr) (len cap : Nat) (hl : len ≤ 1048576) (hp : p ≤ len) (hn : (len : Int) - (p : Int) < n) (hR : RdrS w b (.slice ao len cap) p false) :
    Calls Tryz.prog 37 #[.pointer (some ⟨b, 0, none⟩), .int .i64 n] w fun e w' => e = .returned (.string ByteArray.empty) ∧ RdrS w' b (.slice ao len cap) p true ∧ w.grownBy w' (some b) := by
  have r0 := hR.c0
  have r1 := hR.c1
  have r2 := hR.c2
  have f2 := hR.f 2
  go_enter Tryz.func37, Tryz.ntmps37
  go_wp2_with fail
  go_quiet (fail)
  go_wp2_with fail
  go_ret
  exact ⟨rfl, RdrS.set2 (w := w.drewN nq) hR true, grownBy_trans (grownBy_drewN w nq _) (grownBy_set (w.drewN nq) b 2 _)⟩

set_option maxHeartbeats 1000000 in
set_option maxRecDepth 100000 in
theorem takeS_ok (C b p n : Nat) (w : World) (va : Value) (xs : List Int) (hl : xs.length ≤ 1048576) (hp : p ≤ xs.length) (hn : n ≤ xs.length - p) (hC : C ≤ b) (hr : Rd C w va (xs.map (Value.int .u8))) (hR : RdrS w b va p false) :
    Calls Tryz.prog 37 #[.pointer (some ⟨b, 0, none⟩), .int .i64 (n : Int)] w fun e w' => e = .returned (.string (bytesAt xs p n)) ∧ RdrS w' b va (p + n) false ∧ w.grownBy w' (some b) := by
  have hr0 := hr
  obtain ⟨ao, cap, rfl, hcap, hmax, hnil, hr⟩ := hr
  clear hr
  rw [List.length_map] at hcap hr0 hR ⊢
  have r0 := hR.c0
  have r1 := hR.c1
  have r2 := hR.c2
  have f1 := hR.f 1
  have hle : ¬ (xs.length : Int) - (p : Int) < (n : Int) := by omega
  have hled : decide ((xs.length : Int) - (p : Int) < (n : Int)) = false := by simpa using hle
  go_enter Tryz.func37, Tryz.ntmps37
  go_wp2_with fail
  go_quiet (fail)
  go_wp2_with fail
  have hR1 : RdrS ((w.drewN nq).setCell { block := b, off := 1 } (Value.int IntKind.i64 ((p : Int) + (n : Int)))) b _ (p + n) false := RdrS.set1 (w := w.drewN nq) hR (p + n)
  have hg1 : w.grownBy ((w.drewN nq).setCell { block := b, off := 1 } (Value.int IntKind.i64 ((p : Int) + (n : Int)))) (some b) := grownBy_trans (grownBy_drewN w nq _) (grownBy_set (w.drewN nq) b 1 _)
  generalize (w.drewN nq).setCell { block := b, off := 1 } (Value.int IntKind.i64 ((p : Int) + (n : Int))) = w1 at hR1 hg1 ⊢
  clear r0 r1 r2 f1 hR
  have r0 := hR1.c0
  have r1 := hR1.c1
  have hr1 := hr0.grown hg1 (fun k hk => by cases hk; exact hC)
  clear hr0 hle hled
  cases ao with
  | none =>
    have hz := hnil rfl
    subst hz
    have hl0 : xs.length = 0 := by omega
    obtain rfl : n = 0 := by omega
    obtain rfl : p = 0 := by omega
    have hr2 := hr1.cut 0 0 (Nat.zero_le _) (Nat.zero_le _) (ao' := none) (by simp)
    rw [← List.map_drop, ← List.map_take] at hr2
    have hst : ∀ nq, (convert 22 9 (.slice none 0 0)).run Tryz.prog (w1.drewN nq) = .ok (.string (bytesAt xs 0 0)) (w1.drewN nq) := fun nq => run_string_of (hr2.drewN nq)
    have HL : Hid _ := hl0
    rw [hl0] at r0 ⊢
    clear hl0
    go_quiet (fail)
    go_wp2_with fail
    go_ret
    exact ⟨rfl, hR1, grownBy_trans hg1 (grownBy_drewN w1 _ _)⟩
  | some ad =>
    by_cases hcp : cap = p
    · have hr2 := hr1.cut p n (by simpa using hp) (by simpa using hn) (ao' := some ad) (by rw [if_pos hcp])
      rw [← List.map_drop, ← List.map_take] at hr2
      have hst : ∀ nq, (convert 22 9 (.slice (some ad) n (cap - p))).run Tryz.prog (w1.drewN nq) = .ok (.string (bytesAt xs p n)) (w1.drewN nq) := fun nq => run_string_of (hr2.drewN nq)
      subst hcp
      rw [Nat.sub_self] at hst
      go_quiet (fail)
      go_wp2_with fail
      go_ret
      exact ⟨rfl, hR1, grownBy_trans hg1 (grownBy_drewN w1 _ _)⟩
    · have hr2 := hr1.cut p n (by simpa using hp) (by simpa using hn) (ao' := some (ad.add p)) (by rw [if_neg hcp]; rfl)
      rw [← List.map_drop, ← List.map_take] at hr2
      have hst : ∀ nq, (convert 22 9 (.slice (some (ad.add p)) n (cap - p))).run Tryz.prog (w1.drewN nq) = .ok (.string (bytesAt xs p n)) (w1.drewN nq) := fun nq => run_string_of (hr2.drewN nq)
      go_quiet (fail)
      go_wp2_with fail
      go_ret
      exact ⟨rfl, hR1, grownBy_trans hg1 (grownBy_drewN w1 _ _)⟩

theorem num_any (C b p : Nat) (bad : Bool) (w : World) (va : Value) (xs : List Int) (hx : Bytes xs) (hl : xs.length ≤ 1048576) (hp : p ≤ xs.length) (hr : Rd C w va (xs.map (Value.int .u8))) (hR : RdrS w b va p bad) :
    Calls Tryz.prog 36 #[.pointer (some ⟨b, 0, none⟩)] w fun e w' => ∃ (a p' : Nat) (bad' : Bool), e = .returned (.int .i64 (a : Int)) ∧ RdrS w' b va p' bad' ∧ p' ≤ xs.length ∧ a ≤ 4611686018427387903 ∧
      ((bad = false ∧ getL xs p = some ((a : Int), p') ∧ bad' = false) ∨ (bad' = true ∧ a = 0 ∧ (bad = true ∨ getL xs p = none))) ∧ w.grownBy w' (some b) := by
  cases bad with
  | true =>
    refine (num_bad b p w va hR).mono ?_
    rintro e w' ⟨rfl, rfl⟩
    exact ⟨0, p, true, rfl, hR, hp, by omega, .inr ⟨rfl, rfl, .inl rfl⟩, World.grownBy.refl _ _⟩
  | false =>
    refine (num_good C b p w va xs hx hl hp hr hR).mono ?_
    rintro e w' ⟨hn, hg⟩
    unfold numS at hn
    cases hG : getL xs p with
    | none =>
      rw [hG] at hn
      exact ⟨0, p, true, hn.1, hn.2, hp, by omega, .inr ⟨rfl, rfl, .inr rfl⟩, hg⟩
    | some z =>
      obtain ⟨a, q⟩ := z
      rw [hG] at hn
      have := getL_ok hx hG
      obtain ⟨n, rfl⟩ := Int.eq_ofNat_of_zero_le this.1
      exact ⟨n, q, false, hn.1, hn.2, this.2.2.2, by omega, .inl ⟨rfl, rfl, rfl⟩, hg⟩

theorem takeS_any (C b p n : Nat) (bad : Bool) (w : World) (va : Value) (xs : List Int) (hl : xs.length ≤ 1048576) (hp : p ≤ xs.length) (hn : n ≤ 4611686018427387903) (hC : C ≤ b) (hr : Rd C w va (xs.map (Value.int .u8))) (hR : RdrS w b va p bad) :
    Calls Tryz.prog 37 #[.pointer (some ⟨b, 0, none⟩), .int .i64 (n : Int)] w fun e w' => ∃ (s : ByteArray) (p' : Nat) (bad' : Bool), e = .returned (.string s) ∧ RdrS w' b va p' bad' ∧ p' ≤ xs.length ∧ s.size ≤ 1048576 ∧
      ((bad = false ∧ n ≤ xs.length - p ∧ s = bytesAt xs p n ∧ p' = p + n ∧ bad' = false) ∨ (bad' = true ∧ s = ByteArray.empty ∧ (bad = true ∨ xs.length - p < n))) ∧ w.grownBy w' (some b) := by
  cases bad with
  | true =>
    refine (takeS_bad b p n w va hR).mono ?_
    rintro e w' ⟨rfl, hR1, hg⟩
    exact ⟨_, p, true, rfl, hR1, hp, by simp, .inr ⟨rfl, rfl, .inl rfl⟩, hg⟩
  | false =>
    by_cases hlen : n ≤ xs.length - p
    · refine (takeS_ok C b p n w va xs hl hp hlen hC hr hR).mono ?_
      rintro e w' ⟨rfl, hR1, hg⟩
      exact ⟨_, p + n, false, rfl, hR1, by omega, by rw [bytesAt_size hlen]; omega, .inl ⟨rfl, hlen, rfl, rfl, rfl⟩, hg⟩
    · obtain ⟨ao, cap, rfl, _⟩ := hr
      refine (takeS_long b p n w ao _ cap (by simpa using hl) (by simpa using hp) (by simp; omega) hR).mono ?_
      rintro e w' ⟨rfl, hR1, hg⟩
      exact ⟨_, p, true, rfl, hR1, hp, by simp, .inr ⟨rfl, rfl, .inr (by omega)⟩, hg⟩

/-- What one round of reading texts comes to. -/
theorem texts_round {xs : List Int} {p p1 p2 p3 k m all : Nat} {last s : ByteArray} {bad1 bad2 bad3 : Bool}
    (h1 : (false = false ∧ getL xs p = some ((k : Int), p1) ∧ bad1 = false) ∨ (bad1 = true ∧ k = 0 ∧ (false = true ∨ getL xs p = none)))
    (h2 : (bad1 = false ∧ getL xs p1 = some ((m : Int), p2) ∧ bad2 = false) ∨ (bad2 = true ∧ m = 0 ∧ (bad1 = true ∨ getL xs p1 = none)))
    (h3 : (bad2 = false ∧ m ≤ xs.length - p2 ∧ s = bytesAt xs p2 m ∧ p3 = p2 + m ∧ bad3 = false) ∨ (bad3 = true ∧ s = ByteArray.empty ∧ (bad2 = true ∨ xs.length - p2 < m))) (hk : k ≤ last.size) :
    (bad3 = true → oneText xs p last all = none) ∧ (bad3 = false → oneText xs p last all = if k ≠ alike last (last.extract 0 k ++ s) ∨ 1048576 < all + (last.extract 0 k ++ s).size then none else some (last.extract 0 k ++ s, p3)) := by
  constructor
  · rintro rfl
    rcases h3 with ⟨_, _, _, _, h⟩ | ⟨_, _, h3⟩
    · cases h
    rcases h2 with ⟨hb1, hg1, hb2⟩ | ⟨_, _, h2⟩
    · subst hb1 hb2
      rcases h1 with ⟨_, hg0, _⟩ | ⟨h, _⟩
      · rcases h3 with h | h
        · cases h
        · exact one_none4 hg0 hg1 (by simpa using h)
      · cases h
    · rcases h1 with ⟨_, hg0, hb1⟩ | ⟨_, _, h1⟩
      · subst hb1
        rcases h2 with h | h
        · cases h
        · exact one_none3 hg0 h
      · rcases h1 with h | h
        · cases h
        · exact one_none1 h
  · rintro rfl
    rcases h3 with ⟨hb2, hm, rfl, rfl, _⟩ | ⟨h, _⟩
    · subst hb2
      rcases h2 with ⟨hb1, hg1, _⟩ | ⟨h, _⟩
      · subst hb1
        rcases h1 with ⟨_, hg0, _⟩ | ⟨h, _⟩
        · have hsz := mkText_size (bs := xs) (last := last) (p := p2) hk hm
          unfold mkText at hsz
          rw [hsz]
          split
          · rename_i hb
            exact one_none5 hg0 hg1 (by simpa [mkText] using hb)
          · rename_i hb
            have := one_some (last := last) (all := all) hg0 (by simp; omega) hg1 (by simp; omega) (by simpa [mkText] using hb)
            simpa [mkText] using this
        · cases h
      · cases h
    · cases h
end Go.Proofs.YtcjlihfkibpgoaaGreatDoor

namespace Go.Proofs.YtcjlihfkibpgoaaGreatDoor
open Go.RowKit Go.Lib
set_option linter.unusedVariables false

theorem addTo_end {xs : List Int} {out : List Int} {f p : Nat} : addTo out (parseS xs f 0 p) = some (out, p) := by
  cases f <;> simp [parseS, addTo]
theorem addTo_none {xs : List Int} {out : List Int} {f left p : Nat} (h0 : 0 < left) (h : oneRun xs p left = none) : addTo out (parseS xs f left p) = none := by
  cases f with
  | zero => simp only [parseS]; rw [if_neg (by omega)]; rfl
  | succ f => simp only [parseS]; rw [if_neg (by omega), h]; rfl
theorem addTo_some {xs : List Int} {out : List Int} {f left p k q : Nat} {v d : Int} (h0 : 0 < left) (hf : left ≤ f) (hk : 1 ≤ k) (h : oneRun xs p left = some (v, k, d, q)) :
    ∃ f', left - k ≤ f' ∧ addTo out (parseS xs f left p) = addTo (out ++ valsF k v d) (parseS xs f' (left - k) q) := by
  obtain ⟨f, rfl⟩ : ∃ f', f = f' + 1 := ⟨f - 1, by omega⟩
  refine ⟨f, by omega, ?_⟩
  simp only [parseS]
  rw [if_neg (by omega), h]
  simp only
  cases parseS xs f (left - k) q with
  | none => rfl
  | some z => simp [addTo]

/-- What runs answers. -/
def runsS (xs : List Int) (N b : Nat) (va : Value) (e : Ending) (w' : World) : Prop := match runsL xs with
  | some (T, q) => ∃ r, e = .returned r ∧ Own 3 w' N r (T.map (Value.int .i64)) ∧ RdrS w' b va q false
  | none => ∃ r q, e = .returned r ∧ RdrS w' b va q true

theorem runsS_none {xs : List Int} {N b q : Nat} {va r : Value} {w' : World} (h : runsL xs = none) (hR : RdrS w' b va q true) : runsS xs N b va (.returned r) w' := by
  unfold runsS
  rw [h]
  exact ⟨r, q, rfl, hR⟩

/-- Where the reading stands: it goes on well, or it has gone wrong. -/
def runsAt (xs : List Int) (N b n : Nat) (va to : Value) (wr : World) : Prop :=
  ∃ (p : Nat) (out : List Int) (bad : Bool), RdrS wr b va p bad ∧ p ≤ xs.length ∧ Own 3 wr N to (out.map (Value.int .i64)) ∧ out.length ≤ n ∧
    ((bad = false ∧ Hid (∃ f, n - out.length ≤ f ∧ runsL xs = addTo out (parseS xs f (n - out.length) p))) ∨ (bad = true ∧ Hid (runsL xs = none)))

/-- What the three numbers of a run come to. -/
theorem run_head {xs : List Int} {p p1 p2 v k left : Nat} {bad1 bad2 : Bool}
    (h1 : (false = false ∧ getL xs p = some ((v : Int), p1) ∧ bad1 = false) ∨ (bad1 = true ∧ v = 0 ∧ (false = true ∨ getL xs p = none)))
    (h2 : (bad1 = false ∧ getL xs p1 = some ((k : Int), p2) ∧ bad2 = false) ∨ (bad2 = true ∧ k = 0 ∧ (bad1 = true ∨ getL xs p1 = none))) :
    (bad2 = true ∨ k < 1 ∨ left < k ∨ 1152921504606846975 < v → oneRun xs p left = none) ∧ (bad2 = false → getL xs p = some ((v : Int), p1) ∧ getL xs p1 = some ((k : Int), p2)) := by
  constructor
  · intro h
    unfold oneRun
    rcases h1 with ⟨_, e1, rfl⟩ | ⟨rfl, _, e1⟩
    · rw [e1]
      simp only
      rcases h2 with ⟨_, e2, rfl⟩ | ⟨rfl, _, e2⟩
      · rw [e2]
        simp only
        rw [if_pos (by simp only [Int.toNat_natCast]; rcases h with h | h <;> first | (cases h; done) | omega)]
      · rcases e2 with e2 | e2
        · cases e2
        · rw [e2]
    · rcases e1 with e1 | e1
      · cases e1
      · rw [e1]
  · rintro rfl
    rcases h2 with ⟨rfl, e2, _⟩ | ⟨h, _⟩
    · rcases h1 with ⟨_, e1, _⟩ | ⟨h, _⟩
      · exact ⟨e1, e2⟩
      · cases h
    · cases h
theorem run_one {xs : List Int} {p p1 p2 v left : Nat} (e1 : getL xs p = some ((v : Int), p1)) (e2 : getL xs p1 = some (((1 : Nat) : Int), p2)) (hl : 1 ≤ left) (hv : v ≤ 1152921504606846975) : oneRun xs p left = some ((v : Int), 1, 0, p2) := by
  unfold oneRun
  rw [e1]
  simp only
  rw [e2]
  simp only
  rw [if_neg (by simp only [Int.toNat_natCast]; omega), if_pos (show ((1 : Nat) : Int).toNat = 1 from rfl)]
theorem run_more {xs : List Int} {p p1 p2 p3 v k x left : Nat} {bad3 : Bool} (e1 : getL xs p = some ((v : Int), p1)) (e2 : getL xs p1 = some ((k : Int), p2)) (hk : 1 < k) (hl : k ≤ left) (hv : v ≤ 1152921504606846975)
    (h3 : (false = false ∧ getL xs p2 = some ((x : Int), p3) ∧ bad3 = false) ∨ (bad3 = true ∧ x = 0 ∧ (false = true ∨ getL xs p2 = none))) :
    (bad3 = true ∨ okV k v (unf x) = false → oneRun xs p left = none) ∧ (bad3 = false → okV k v (unf x) = true → oneRun xs p left = some ((v : Int), k, unf x, p3)) := by
  unfold oneRun
  rw [e1]
  simp only
  rw [e2]
  simp only
  rw [if_neg (by simp only [Int.toNat_natCast]; omega), if_neg (by simp only [Int.toNat_natCast]; omega)]
  rcases h3 with ⟨_, e3, rfl⟩ | ⟨rfl, _, e3⟩
  · rw [e3]
    simp only [Int.toNat_natCast]
    refine ⟨fun h => ?_, fun _ h => by rw [if_pos h]⟩
    rcases h with h | h
    · cases h
    · rw [if_neg (by rw [h]; decide)]
  · rcases e3 with e3 | e3
    · cases e3
    · rw [e3]
      exact ⟨fun _ => rfl, fun h => by cases h⟩

/-- What a run that was read says. -/
def RunN (xs : List Int) (p k q left : Nat) (v d : Int) (bad : Bool) : Prop :=
  (bad = true ∨ okV k v d = false → oneRun xs p left = none) ∧ (bad = false → okV k v d = true → oneRun xs p left = some (v, k, d, q))
theorem runs_next {xs : List Int} {p k q n : Nat} {v d : Int} {bad : Bool} {out : List Int} (h0 : 0 < n - out.length) (hk1 : 1 ≤ k) (hk2 : k ≤ n - out.length)
    (HT : ∃ f, n - out.length ≤ f ∧ runsL xs = addTo out (parseS xs f (n - out.length) p)) (HO : RunN xs p k q (n - out.length) v d bad) (hok : okV k v d = true) :
    (bad = false ∧ Hid (∃ f, n - (out ++ valsF k v d).length ≤ f ∧ runsL xs = addTo (out ++ valsF k v d) (parseS xs f (n - (out ++ valsF k v d).length) q))) ∨ (bad = true ∧ Hid (runsL xs = none)) := by
  obtain ⟨f, hf, hT⟩ := HT
  have e : n - (out ++ valsF k v d).length = n - out.length - k := by rw [List.length_append, valsF_len]; omega
  cases bad with
  | true => exact .inr ⟨rfl, by unfold Hid; rw [hT, addTo_none h0 (HO.1 (.inl rfl))]⟩
  | false =>
    refine .inl ⟨rfl, ?_⟩
    obtain ⟨f', hf', h⟩ := addTo_some (out := out) h0 hf hk1 (HO.2 rfl hok)
    exact ⟨f', by omega, by rw [hT, h, e]⟩
theorem okV_stop {k j : Nat} {v cur d : Int} (h : okV k v d = okV j cur d) (hj : 1 < j) (hc : ¬ (0 ≤ cur + d ∧ cur + d ≤ 1152921504606846975)) : okV k v d = false := by
  obtain ⟨j, rfl⟩ : ∃ j', j = j' + 2 := ⟨j - 2, by omega⟩
  rw [h]
  simp only [okV]
  rw [decide_eq_false hc]
  simp
theorem okV_step {k j : Nat} {v cur d : Int} (h : okV k v d = okV j cur d) (hj : 0 < j) (h1 : 0 ≤ cur) (h2 : cur ≤ 1152921504606846975) : okV k v d = okV (j - 1) (cur + d) d := by
  obtain ⟨j, rfl⟩ : ∃ j', j = j' + 1 := ⟨j - 1, by omega⟩
  rw [h]
  simp only [okV, Nat.add_sub_cancel]
  rw [decide_eq_true ⟨h1, h2⟩]
  simp
theorem valsF_step {j : Nat} {cur d : Int} {acc X : List Int} (h : acc ++ valsF j cur d = X) (hj : 0 < j) : (acc ++ [cur]) ++ valsF (j - 1) (cur + d) d = X := by
  obtain ⟨j, rfl⟩ : ∃ j', j = j' + 1 := ⟨j - 1, by omega⟩
  rw [← h]
  simp [valsF]

set_option maxHeartbeats 4000000 in
set_option maxRecDepth 100000 in
theorem runsS_any (C b : Nat) (w : World) (va : Value) (xs : List Int) (hx : Bytes xs) (hl : xs.length ≤ 1048576) (hC : C ≤ b) (hb : b < w.heap.size) (hr : Rd C w va (xs.map (Value.int .u8))) (hR : RdrS w b va 0 false) :
    Calls Tryz.prog 26 #[.pointer (some ⟨b, 0, none⟩)] w fun e w' => runsS xs w.heap.size b va e w' ∧ w.grownBy w' (some b) := by
  obtain ⟨i0, hi, hz0, hz1, hz2⟩ := info_parts info3
  have hR0 : RdrS (w.alloc (.cells #[] 3)) b va 0 false := hR.grown (World.grownBy_alloc w _ none) (fun k hk => by cases hk)
  have hr0 : Rd C (w.alloc (.cells #[] 3)) va _ := hr.grown (World.grownBy_alloc w _ none) (fun k hk => by cases hk)
  have ho0 : Own 3 (w.alloc (.cells #[] 3)) w.heap.size (.slice (some ⟨w.heap.size, 0, none⟩) 0 0) [] := own_lit w 3 [] 0 rfl (by decide)
  have hg0 : w.grownBy (w.alloc (.cells #[] 3)) (some b) := World.grownBy_alloc w _ _
  go_enter Tryz.func26, Tryz.ntmps26
  go_wp2_with fail
  refine (count_any C b _ va xs hx hl hr0 hR0).mono ?_
  rintro e w1 ⟨hcn, hg1⟩
  have hgw1 : w.grownBy w1 (some b) := grownBy_trans hg0 hg1
  have ho1 : Own 3 w1 w.heap.size (.slice (some ⟨w.heap.size, 0, none⟩) 0 0) [] := ho0.apart hg1 (fun k hk => by cases hk; exact hb)
  obtain ⟨n, hn4, rfl, hst⟩ : ∃ n : Nat, n ≤ 4096 ∧ e = .returned (.int .i64 (n : Int)) ∧ runsAt xs w.heap.size b n va (.slice (some ⟨w.heap.size, 0, none⟩) 0 0) w1 := by
    unfold countS at hcn
    cases hG : getL xs 0 with
    | none =>
      rw [hG] at hcn
      obtain ⟨rfl, hR1⟩ := hcn
      exact ⟨0, by omega, rfl, 0, [], true, hR1, by omega, ho1, by simp, .inr ⟨rfl, by unfold Hid runsL; rw [hG]⟩⟩
    | some z =>
      obtain ⟨a, q⟩ := z
      rw [hG] at hcn
      simp only at hcn
      have hok := getL_ok hx hG
      split at hcn
      · rename_i h4
        obtain ⟨rfl, hR1⟩ := hcn
        exact ⟨0, by omega, rfl, q, [], true, hR1, hok.2.2.2, ho1, by simp, .inr ⟨rfl, by unfold Hid runsL; rw [hG]; simp only; rw [if_pos h4]⟩⟩
      · rename_i h4
        obtain ⟨rfl, hR1⟩ := hcn
        obtain ⟨n, rfl⟩ := Int.eq_ofNat_of_zero_le hok.1
        refine ⟨n, by omega, rfl, q, [], false, hR1, hok.2.2.2, ho1, by simp, .inl ⟨rfl, n, by simp, ?_⟩⟩
        unfold runsL
        rw [hG]
        simp only
        rw [if_neg h4, Int.toNat_natCast]
        simp only [List.length_nil, Nat.sub_zero]
        cases parseS xs n n q with
        | none => rfl
        | some z => rfl
  clear hcn ho0 hR0 hr0 hg0 hg1 ho1 hR
  go_wp2_with fail
  go_loopw [3] (fun to wr => runsAt xs w.heap.size b n va to wr ∧ w.grownBy wr (some b)) (fun to _ => n - lenOf to)
  case atStart => exact ⟨hst, hgw1⟩
  case round =>
    clear hst hgw1
    obtain ⟨⟨p, out, bad, hRr, hp, how, hon, hst⟩, hgw⟩ := hrel
    have hszw := hgw.size
    obtain ⟨ao, cap, rfl, hsh⟩ := how.slice
    rw [List.length_map] at how hsh ⊢
    clear hsh
    by_cases hj0 : out.length = n
    · have hjb : ¬ (out.length : Int) < (n : Int) := by omega
      have hjd : decide ((out.length : Int) < (n : Int)) = false := by simpa using hjb
      have hres : Hid (runsS xs w.heap.size b va (.returned (.slice ao out.length cap)) wr) := by
        unfold Hid
        rcases hst with ⟨rfl, HT⟩ | ⟨rfl, HT⟩
        · obtain ⟨f, _, hT⟩ := HT.out
          rw [hj0, Nat.sub_self, addTo_end] at hT
          unfold runsS
          rw [hT]
          exact ⟨_, rfl, how, hRr⟩
        · exact runsS_none HT.out hRr
      clear hst how hj0
      go_wp2_with fail
      go_ret
      exact ⟨hres.out, hgw⟩
    · have hjb : (out.length : Int) < (n : Int) := by omega
      rcases hst with ⟨rfl, HT⟩ | ⟨rfl, HT⟩
      · have r2 := hRr.c2
        have hrr : Rd C wr va (xs.map (Value.int .u8)) := hr.grown hgw (fun k hk => by cases hk; exact hC)
        go_wp2_with fail
        refine (num_any C b p false wr va xs hx hl hp hrr hRr).mono ?_
        rintro e w2 ⟨v, p1, bad1, rfl, hR2, hp1, hv, h1, hg2⟩
        have how2 := how.apart hg2 (fun k hk => by cases hk; exact hb)
        have hgw2 := grownBy_trans hgw hg2
        have hr2 := hr.grown hgw2 (fun k hk => by cases hk; exact hC)
        clear r2 hRr how hrr hg2
        go_wp2_with fail
        refine (num_any C b p1 bad1 w2 va xs hx hl hp1 hr2 hR2).mono ?_
        rintro e w3 ⟨k, p2, bad2, rfl, hR3, hp2, hk, h2, hg3⟩
        have how3 := how2.apart hg3 (fun k hk => by cases hk; exact hb)
        have hgw3 := grownBy_trans hgw2 hg3
        have hr3 := hr.grown hgw3 (fun k hk => by cases hk; exact hC)
        have hhead := run_head (left := n - out.length) (by simpa using h1) h2
        clear h1 h2 hR2 how2 hr2 hg3 hgw2 hgw
        have r2 := hR3.c2
        have f2 := hR3.f 2
        have hsub : (n : Int) - (out.length : Int) = ((n - out.length : Nat) : Int) := by omega
        by_cases hbd : bad2 = true ∨ k < 1 ∨ n - out.length < k ∨ 1152921504606846975 < v
        · have hres : Hid (runsS xs w.heap.size b va (.returned (.slice ao out.length cap)) (w3.setCell ⟨b, 2, none⟩ (.bool true))) := by
            obtain ⟨f, hf, hT⟩ := HT.out
            exact runsS_none (by rw [hT, addTo_none (by omega) (hhead.1 hbd)]) (hR3.set2 true)
          have hgf := grownBy_trans hgw3 (grownBy_set w3 b 2 (.bool true))
          clear hhead HT
          cases bad2 with
          | true =>
            clear hbd
            go_wp2_with fail
            go_ret
            exact ⟨hres.out, hgf⟩
          | false =>
            have hbd' : k < 1 ∨ n - out.length < k ∨ 1152921504606846975 < v := by simpa using hbd
            clear hbd
            by_cases hk1 : (k : Int) < 1
            · go_wp2_with fail
              go_ret
              exact ⟨hres.out, hgf⟩
            · by_cases hk2 : (n : Int) - (out.length : Int) < (k : Int)
              · go_wp2_with fail
                go_ret
                exact ⟨hres.out, hgf⟩
              · have hk3 : 1152921504606846975 < (v : Int) := by omega
                go_wp2_with fail
                go_ret
                exact ⟨hres.out, hgf⟩
        · obtain rfl : bad2 = false := by cases bad2 <;> simp_all
          obtain ⟨e1, e2⟩ := hhead.2 rfl
          have hk1 : 1 ≤ k := by omega
          have hk2 : k ≤ n - out.length := by omega
          have hv3 : v ≤ 1152921504606846975 := by omega
          have hi1 : ¬ (k : Int) < 1 := by omega
          have hi2 : ¬ (n : Int) - (out.length : Int) < (k : Int) := by omega
          have hi3 : ¬ 1152921504606846975 < (v : Int) := by omega
          clear hhead hbd
          by_cases hk : k = 1
          case' pos =>
            obtain ⟨d, hd⟩ : ∃ d : Int, 0 = d := ⟨0, rfl⟩
            have HO : Hid (RunN xs p k p2 (n - out.length) v d false) := by
              subst hk hd
              have h1 := run_one e1 e2 (show 1 ≤ n - out.length by omega) hv3
              refine ⟨fun h => ?_, fun _ _ => h1⟩
              rcases h with h | h
              · cases h
              · simp [okV] at h; omega
            have hki : ¬ 1 < (k : Int) := by omega
            have hd1 : -2305843009213693952 ≤ d := by omega
            have hd2 : d ≤ 2305843009213693952 := by omega
            have HD : Hid _ := hd
            have HKK : Hid _ := hk
            clear e1 e2 hk hd
            obtain ⟨bad3, hb3⟩ : ∃ b3 : Bool, b3 = false := ⟨false, rfl⟩
            rw [← hb3] at HO
            rw [← hb3] at hR3
            have hR4 := hR3
            have hgw4 := hgw3
            have how4 := how3
            have hp4 := hp2
            clear hR3 hgw3 how3 hp2 hb3
            go_wp2_with fail
            clear r2 f2
            conv => arg 4; rw [show Value.int .i64 0 = Value.int .i64 d from congrArg _ HD.out]
          case' neg =>
            have hki : 1 < (k : Int) := by omega
            have E1 : Hid _ := e1
            have E2 : Hid _ := e2
            clear e1 e2
            go_wp2_with fail
            refine (num_any C b p2 false w3 va xs hx hl hp2 hr3 hR3).mono ?_
            rintro e w4 ⟨x, p3, bad3, rfl, hR4, hp4, hxx, h3, hg4⟩
            obtain ⟨d, hd⟩ : ∃ d : Int, unf x = d := ⟨_, rfl⟩
            have hbd := unf_bd (x := (x : Int)) (by omega) (by omega)
            have hd1 : -2305843009213693952 ≤ d := by omega
            have hd2 : d ≤ 2305843009213693952 := by omega
            have HO : Hid (RunN xs p k p3 (n - out.length) v d bad3) := by
              have := run_more E1.out E2.out (show 1 < k by omega) hk2 hv3 (by simpa using h3)
              rw [hd] at this
              exact this
            have hgw4 := grownBy_trans hgw3 hg4
            have how4 := how3.apart hg4 (fun k hk => by cases hk; exact hb)
            have HKK : Hid _ := hk
            clear h3 hbd hR3 hgw3 how3 hp2 r2 f2 hg4 E1 E2 hk
            by_cases hodd : x % 2 = 1
            case' pos =>
              have hod : ((x : Int) % 2 == 1) = true := by simp; omega
              have HD : Hid (wrap64 (-((x : Int) + 1).tdiv 2) = d) := by
                unfold Hid
                rw [← hd]
                unfold unf
                rw [if_pos (by omega), Int.tdiv_eq_ediv_of_nonneg (by omega)]
                exact IntWalk.wrap64_in _ ⟨by omega, by omega⟩
              clear hd
              go_wp2_with fail
              rw [HD.out]
            case' neg =>
              have hod : ((x : Int) % 2 == 1) = false := by simp; omega
              have HD : Hid ((x : Int) / 2 = d) := by
                unfold Hid
                rw [← hd]
                unfold unf
                rw [if_neg (by omega)]
              clear hd
              go_wp2_with fail
              rw [HD.out]
          all_goals
            go_loopw [3, 5, 6] (fun to tv tk wi => ∃ (j : Nat) (cur : Int) (acc : List Int), tv = .int .i64 cur ∧ tk = .int .i64 (j : Int) ∧ j ≤ k ∧ RdrS wi b va _ bad3 ∧ Own 3 wi w.heap.size to (acc.map (Value.int .i64)) ∧ acc.length + j = out.length + k ∧ (0 < j → 0 ≤ cur ∧ cur ≤ 1152921504606846975) ∧ Hid (acc ++ valsF j cur d = out ++ valsF k v d) ∧ Hid (okV k v d = okV j cur d) ∧ w.grownBy wi (some b)) (fun _ _ tk _ => (intOf tk).toNat)
            case atStart => exact ⟨k, v, out, rfl, rfl, Nat.le_refl _, hR4, how4, rfl, fun _ => ⟨by omega, by omega⟩, rfl, rfl, hgw4⟩
            case round =>
              clear hR4 how4 hgw4
              obtain ⟨j, cur, acc, rfl, rfl, hj, hRj, howj, hlen, hcur, HV, HK, hgwj⟩ := hrel
              by_cases hj0 : j = 0
              · have hjb' : ¬ (0 : Int) < (j : Int) := by omega
                have hjd' : decide ((0 : Int) < (j : Int)) = false := by simpa using hjb'
                obtain ⟨acc2, hacc, HN, hlen2⟩ : ∃ acc2, acc = acc2 ∧ ((bad3 = false ∧ Hid (∃ f, n - acc2.length ≤ f ∧ runsL xs = addTo acc2 (parseS xs f (n - acc2.length) _))) ∨ (bad3 = true ∧ Hid (runsL xs = none))) ∧ acc2.length = out.length + k := by
                  have hv : acc = out ++ valsF k v d := by have := HV.out; rw [hj0] at this; simpa [valsF] using this
                  refine ⟨_, hv, runs_next (show 0 < n - out.length by omega) hk1 hk2 HT.out HO.out (by rw [HK.out, hj0]; rfl), ?_⟩
                  rw [List.length_append, valsF_len]
                subst hacc
                clear HK HV hcur HO HT HKK hlen
                go_wp2_with fail
                go_roundw
                case rel => exact ⟨⟨_, _, bad3, hRj, hp4, howj, by omega, HN⟩, hgwj⟩
                case measure =>
                  obtain ⟨ao2, cap2, e2, _⟩ := howj.slice
                  rw [List.length_map] at e2
                  simp [lenOf, e2]
                  omega
              · have hjb' : (0 : Int) < (j : Int) := by omega
                have hc1 := (hcur (by omega)).1
                have hc2 := (hcur (by omega)).2
                clear hcur
                have hbj : ∀ g, u3.ownBlock = some g → w.heap.size ≤ g := howj.lt
                have hszj := hgwj.size
                have hcn : ∀ (j : Nat) (u : Value), [Value.int .i64 cur][j]? = some u → (wr.alloc (.cells #[.int .i64 cur] 3)).cell? ((⟨wr.heap.size, 0, none⟩ : Addr).add j) = some u := cell_one_new _ _ _
                have hal : acc.length ≤ 4096 := by omega
                have HO2 : Hid _ := HO.out
                have hcase : ((¬ 1 < (j : Int)) ∨ (1 < (j : Int) ∧ ¬ cur + d < 0 ∧ ¬ 1152921504606846975 < cur + d)) ∨ (Hid (runsL xs = none) ∧ ((1 < (j : Int) ∧ cur + d < 0) ∨ (1 < (j : Int) ∧ ¬ cur + d < 0 ∧ 1152921504606846975 < cur + d))) := by
                  by_cases h1 : 1 < j
                  · by_cases h2 : 0 ≤ cur + d ∧ cur + d ≤ 1152921504606846975
                    · exact .inl (.inr (by omega))
                    · refine .inr ⟨?_, by omega⟩
                      obtain ⟨f, hf, hT⟩ := HT.out
                      unfold Hid
                      rw [hT, addTo_none (by omega) (HO.out.1 (.inr (okV_stop HK.out h1 h2)))]
                  · exact .inl (.inl (by omega))
                have HR : Hid (((acc ++ [cur]) ++ valsF (j - 1) (cur + d) d = out ++ valsF k v d) ∧ okV k v d = okV (j - 1) (cur + d) d) := ⟨valsF_step HV.out (by omega), okV_step HK.out (by omega) hc1 hc2⟩
                clear HK HV HO
                rcases hcase with hcase | ⟨HT', hcase⟩
                · rcases hcase with h1 | ⟨h1, h2, h3⟩
                  all_goals
                    first
                    | (exfalso; omega)
                    | (go_wp2_with (at_builtin; refine wpList_append_own _ rfl _ _ 35 rfl w.heap.size 3 i0 (.int .i64 0) 1 8 Tryz.underlying35 hi hz0 hz1 hz2 rfl (by decide) _ _ _ rfl (World.ownsRow.alloc howj _) ⟨wr.heap.size, 0, none⟩ 1 1 [.int .i64 cur] rfl rfl hcn (by simp [Value.oneCell']) (by simp [maxLen]; omega) (by simp; omega) (by simp; omega) ?_)
                       intro v6 w6 ho6 hg6 _
                       have hR6 := (hRj.grown (World.grownBy_alloc wr (.cells #[.int .i64 cur] 3) none) (fun k hk => by cases hk)).grown hg6 (fun k hk => by have := hbj k hk; omega)
                       have hg7 := grownBy_own (grownBy_trans hgwj (World.grownBy_alloc _ _ _)) hg6 hbj
                       have ho7 : Own 3 w6 w.heap.size v6 ((acc ++ [cur]).map (Value.int .i64)) := by simpa using own_of ho6
                       clear ho6 hg6 howj hRj hgwj hcn
                       go_wp2_with fail
                       go_roundw
                       case rel => first | exact ⟨j - 1, cur + d, acc ++ [cur], rfl, by congr 1; omega, by omega, hR6, ho7, by simp; omega, fun h => by omega, HR.out.1, HR.out.2, hg7⟩ | exact ⟨_, _, _, _, ⟨j - 1, cur + d, rfl, by congr 1; omega, by omega, acc ++ [cur], ho7, by simp; omega, fun h => by omega, HR.out.1, HR.out.2⟩, rfl, rfl, rfl, rfl⟩
                       case measure => simp [intOf]; omega)
                · rcases hcase with ⟨h1, h2⟩ | ⟨h1, h2, h3⟩
                  all_goals
                    first
                    | (exfalso; omega)
                    | (go_wp2_with (at_builtin; refine wpList_append_own _ rfl _ _ 35 rfl w.heap.size 3 i0 (.int .i64 0) 1 8 Tryz.underlying35 hi hz0 hz1 hz2 rfl (by decide) _ _ _ rfl (World.ownsRow.alloc howj _) ⟨wr.heap.size, 0, none⟩ 1 1 [.int .i64 cur] rfl rfl hcn (by simp [Value.oneCell']) (by simp [maxLen]; omega) (by simp; omega) (by simp; omega) ?_)
                       intro v6 w6 ho6 hg6 _
                       have hR6 := (hRj.grown (World.grownBy_alloc wr (.cells #[.int .i64 cur] 3) none) (fun k hk => by cases hk)).grown hg6 (fun k hk => by have := hbj k hk; omega)
                       have hg7 := grownBy_own (grownBy_trans hgwj (World.grownBy_alloc _ _ _)) hg6 hbj
                       have r6 := hR6.c2
                       have f6 := hR6.f 2
                       have hres : Hid (∀ r, runsS xs w.heap.size b va (.returned r) (w6.setCell ⟨b, 2, none⟩ (.bool true))) := fun r => runsS_none HT'.out (hR6.set2 true)
                       have hg8 := grownBy_trans hg7 (grownBy_set w6 b 2 (.bool true))
                       clear ho6 hg6 howj hRj hgwj hcn hR6 hg7 HT'
                       go_wp2_with fail
                       go_ret
                       exact ⟨hres.out _, hg8⟩)
      · have r2 := hRr.c2
        have hres : Hid (runsS xs w.heap.size b va (.returned (.slice ao out.length cap)) wr) := runsS_none HT.out hRr
        go_wp2_with fail
        go_ret
        exact ⟨hres.out, hgw⟩
end Go.Proofs.YtcjlihfkibpgoaaGreatDoor

namespace Go.Proofs.YtcjlihfkibpgoaaGreatDoor
open Go.RowKit Go.Lib
set_option linter.unusedVariables false

/-- What texts answers. -/
def textsS (xs : List Int) (N b : Nat) (va : Value) (e : Ending) (w' : World) : Prop := match textsL xs with
  | some (out, q) => ∃ r, e = .returned r ∧ Own 9 w' N r (out.map Value.string) ∧ RdrS w' b va q false ∧ out.length ≤ 4096
  | none => ∃ r q, e = .returned r ∧ RdrS w' b va q true

/-- Where the reading stands: it goes on well, or it has gone wrong. -/
def textsAt (xs : List Int) (N b : Nat) (va to tl ta tn : Value) (wr : World) : Prop :=
  ∃ (j p all : Nat) (last : ByteArray) (bad : Bool), tn = .int .i64 (j : Int) ∧ tl = .string last ∧ ta = .int .i64 (all : Int) ∧ RdrS wr b va p bad ∧ p ≤ xs.length ∧ j ≤ 4096 ∧ all ≤ 9000000 ∧ last.size ≤ 9000000 ∧
    ((bad = false ∧ ∃ out : List ByteArray, Own 9 wr N to (out.map Value.string) ∧ j + out.length ≤ 4096 ∧ all ≤ 1048576 ∧ last.size ≤ 1048576 ∧ Hid (textsL xs = textsF xs j p last all out)) ∨ (bad = true ∧ Hid (textsL xs = none)))

theorem texts_next {xs : List Int} {j p p3 k al all : Nat} {last t : ByteArray} {out : List ByteArray} {bad3 : Bool} (hj : ¬ j = 0) (HT : textsL xs = textsF xs j p last all out)
    (HO : (bad3 = true → oneText xs p last all = none) ∧ (bad3 = false → oneText xs p last all = if k ≠ al ∨ 1048576 < all + t.size then none else some (t, p3))) :
    (bad3 = false → k = al → all + t.size ≤ 1048576 → textsL xs = textsF xs (j - 1) p3 t (all + t.size) (out ++ [t])) ∧ (bad3 = true ∨ k ≠ al ∨ 1048576 < all + t.size → textsL xs = none) := by
  obtain ⟨j, rfl⟩ : ∃ j', j = j' + 1 := ⟨j - 1, by omega⟩
  rw [Nat.add_sub_cancel]
  constructor
  · intro hb hk ha
    have := HO.2 hb
    rw [if_neg (by omega)] at this
    rw [HT, textsF_some this]
  · intro h
    rw [HT]
    apply textsF_none
    cases bad3 with
    | true => exact HO.1 rfl
    | false =>
      rcases h with h | h
      · cases h
      · rw [HO.2 rfl, if_pos h]

/-- What a round leaves: it goes on well, or has gone wrong. -/
def NextT (xs : List Int) (j p3 all : Nat) (t : ByteArray) (out : List ByteArray) (bad : Bool) : Prop :=
  (bad = false ∧ all + t.size ≤ 1048576 ∧ textsL xs = textsF xs (j - 1) p3 t (all + t.size) (out ++ [t])) ∨ (bad = true ∧ textsL xs = none)

set_option maxHeartbeats 4000000 in
set_option maxRecDepth 100000 in
theorem textsS_any (C b : Nat) (w : World) (va : Value) (xs : List Int) (hx : Bytes xs) (hl : xs.length ≤ 1048576) (hC : C ≤ b) (hb : b < w.heap.size) (hr : Rd C w va (xs.map (Value.int .u8))) (hR : RdrS w b va 0 false) :
    Calls Tryz.prog 27 #[.pointer (some ⟨b, 0, none⟩)] w fun e w' => textsS xs w.heap.size b va e w' ∧ w.grownBy w' (some b) := by
  obtain ⟨i0, hi, hz0, hz1, hz2⟩ := info_parts info9
  have hR0 : RdrS (w.alloc (.cells #[] 9)) b va 0 false := hR.grown (World.grownBy_alloc w _ none) (fun k hk => by cases hk)
  have hr0 : Rd C (w.alloc (.cells #[] 9)) va _ := hr.grown (World.grownBy_alloc w _ none) (fun k hk => by cases hk)
  have ho0 : Own 9 (w.alloc (.cells #[] 9)) w.heap.size (.slice (some ⟨w.heap.size, 0, none⟩) 0 0) [] := own_lit w 9 [] 0 rfl (by decide)
  have hg0 : w.grownBy (w.alloc (.cells #[] 9)) (some b) := World.grownBy_alloc w _ _
  go_enter Tryz.func27, Tryz.ntmps27
  go_wp2_with fail
  refine (count_any C b _ va xs hx hl hr0 hR0).mono ?_
  rintro e w1 ⟨hcn, hg1⟩
  have hgw1 : w.grownBy w1 (some b) := grownBy_trans hg0 hg1
  have ho1 : Own 9 w1 w.heap.size (.slice (some ⟨w.heap.size, 0, none⟩) 0 0) [] := ho0.apart hg1 (fun k hk => by cases hk; exact hb)
  obtain ⟨n, rfl, hst⟩ : ∃ n : Nat, e = .returned (.int .i64 (n : Int)) ∧ textsAt xs w.heap.size b va (.slice (some ⟨w.heap.size, 0, none⟩) 0 0) (.string ByteArray.empty) (.int .i64 0) (.int .i64 (n : Int)) w1 := by
    unfold countS at hcn
    cases hG : getL xs 0 with
    | none =>
      rw [hG] at hcn
      obtain ⟨rfl, hR1⟩ := hcn
      exact ⟨0, rfl, 0, 0, 0, ByteArray.empty, true, rfl, rfl, rfl, hR1, by omega, by omega, by omega, by simp, .inr ⟨rfl, by unfold Hid textsL; rw [hG]⟩⟩
    | some z =>
      obtain ⟨a, q⟩ := z
      rw [hG] at hcn
      simp only at hcn
      have hok := getL_ok hx hG
      split at hcn
      · rename_i h4
        obtain ⟨rfl, hR1⟩ := hcn
        exact ⟨0, rfl, 0, q, 0, ByteArray.empty, true, rfl, rfl, rfl, hR1, hok.2.2.2, by omega, by omega, by simp, .inr ⟨rfl, by unfold Hid textsL; rw [hG]; simp only; rw [if_pos h4]⟩⟩
      · rename_i h4
        obtain ⟨rfl, hR1⟩ := hcn
        obtain ⟨n, rfl⟩ := Int.eq_ofNat_of_zero_le hok.1
        exact ⟨n, rfl, n, q, 0, ByteArray.empty, false, rfl, rfl, rfl, hR1, hok.2.2.2, by omega, by omega, by simp, .inl ⟨rfl, [], ho1, by simp; omega, by omega, by simp, by unfold Hid textsL; rw [hG]; simp only; rw [if_neg h4, Int.toNat_natCast]⟩⟩
  clear hcn ho0 hR0 hr0 hg0 hg1 ho1 hR
  go_wp2_with fail
  go_loopw [3, 4, 5, 6] (fun to tl ta tn wr => textsAt xs w.heap.size b va to tl ta tn wr ∧ w.grownBy wr (some b)) (fun _ _ _ tn _ => (intOf tn).toNat)
  case atStart => exact ⟨hst, hgw1⟩
  case round =>
    clear hst hgw1
    obtain ⟨⟨j, p, all, last, bad, rfl, rfl, rfl, hRr, hp, hj, hall, hlast, hst⟩, hgw⟩ := hrel
    have hszw := hgw.size
    by_cases hj0 : j = 0
    · have hjb : ¬ (0 : Int) < (j : Int) := by omega
      have hjd : decide ((0 : Int) < (j : Int)) = false := by simpa using hjb
      have hres : ∃ v', Hid (textsS xs w.heap.size b va (.returned u3) wr) ∨ v' = u3 ∧ False := by
        refine ⟨u3, .inl ?_⟩
        unfold Hid textsS
        rcases hst with ⟨rfl, out, how, hjo, _, _, HT⟩ | ⟨rfl, HT⟩
        · rw [HT.out, hj0]
          exact ⟨_, rfl, how, hRr, by omega⟩
        · rw [HT.out]
          exact ⟨_, p, rfl, hRr⟩
      obtain ⟨_, hres | ⟨_, hF⟩⟩ := hres
      · clear hst
        go_wp2_with fail
        go_ret
        exact ⟨hres.out, hgw⟩
      · cases hF
    · rcases hst with ⟨rfl, out, how, hjo, hall', hlast', HT⟩ | ⟨rfl, HT⟩
      · have r2 := hRr.c2
        have f2 := hRr.f 2
        have hjb : (0 : Int) < (j : Int) := by omega
        have hrr : Rd C wr va (xs.map (Value.int .u8)) := hr.grown hgw (fun k hk => by cases hk; exact hC)
        have hbr : b < wr.heap.size := by omega
        go_wp2_with fail
        refine (num_any C b p false wr va xs hx hl hp hrr hRr).mono ?_
        rintro e w2 ⟨k, p1, bad1, rfl, hR2, hp1, hk, h1, hg2⟩
        have how2 := how.apart hg2 (fun k hk => by cases hk; exact hb)
        have hgw2 := grownBy_trans hgw hg2
        have hr2 := hr.grown hgw2 (fun k hk => by cases hk; exact hC)
        clear r2 f2 hRr how hrr hg2
        have r2 := hR2.c2
        have f2 := hR2.f 2
        by_cases hkl : last.size < k
        · have hres : Hid (textsS xs w.heap.size b va (.returned u3) (w2.setCell ⟨b, 2, none⟩ (.bool true))) := by
            have hno : textsL xs = none := by
              rw [HT.out]
              obtain ⟨j, rfl⟩ : ∃ j', j = j' + 1 := ⟨j - 1, by omega⟩
              apply textsF_none
              rcases h1 with ⟨_, hG, _⟩ | ⟨_, hk0, _⟩
              · exact one_none2 hG (by simpa using hkl)
              · omega
            unfold Hid textsS
            rw [hno]
            exact ⟨_, p1, rfl, hR2.set2 true⟩
          have hgf := grownBy_trans hgw2 (grownBy_set w2 b 2 (.bool true))
          clear h1
          go_wp2_with fail
          go_ret
          exact ⟨hres.out, hgf⟩
        · have hH1 : Hid _ := h1
          clear h1
          have hkI0 : (0 : Int) ≤ (k : Int) := by omega
          have hkI : (k : Int) ≤ (last.size : Int) := by omega
          go_wp2_with fail
          go_region_held2 (fun _ => True) (trivial) (first | (go_at_call 36; refine (num_any C b p1 bad1 w2.drew va xs hx hl hp1 (show Rd C w2.drew va _ from hr2) (show RdrS w2.drew b va p1 bad1 from hR2)).mono ?_; rintro e w3 ⟨m, p2, bad2, rfl, hR3, hp2, hm, h2, hg3⟩) | (go_at_call 37; refine (takeS_any C b p2 m bad2 w3 va xs hl hp2 hm hC ((show Rd C w2.drew va _ from hr2).grown hg3 (fun k hk => by cases hk; exact hC)) hR3).mono ?_; rintro e w4 ⟨s, p3, bad3, rfl, hR4, hp3, hs, h3, hg4⟩; have hcat : ¬ 9223372036854775807 < min k last.size + s.size := by omega))
          have HO : Hid _ := texts_round (all := all) (last := last) (by simpa using hH1.out) h2 h3 (by omega)
          have hgw4 := grownBy_trans (grownBy_trans hgw2 (grownBy_trans (grownBy_drewN w2 1 _) hg3)) hg4
          have how4 := (how2.apart (grownBy_trans (grownBy_drewN w2 1 _) hg3) (fun k hk => by cases hk; exact hb)).apart hg4 (fun k hk => by cases hk; exact hb)
          have hts : (last.extract 0 k ++ s).size ≤ 2097152 := by rw [ByteArray.size_append, ByteArray.size_extract]; omega
          clear h2 h3 hg3 hg4 hR3 hR2 how2 hgw2 hr2 r2 f2 hcat hH1 hkI hkI0 hgw
          generalize last.extract 0 k ++ s = t at HO hts ⊢
          clear hs
          go_wp2_with fail
          refine (l01Alike_any last t _ (by omega) (by omega)).mono ?_
          rintro e w5 ⟨rfl, n5, rfl⟩
          have hal := alike_le last t
          generalize alike last t = al at hal HO ⊢
          have HX : Hid _ := texts_next hj0 HT.out HO.out
          clear HO HT
          have r2 := hR4.c2
          have f2 := hR4.f 2
          have hR0 : RdrS (w4.drewN n5) b va p3 bad3 := hR4
          have hg0 : w.grownBy (w4.drewN n5) (some b) := grownBy_trans hgw4 (grownBy_drewN _ _ _)
          have ho0 : Own 9 (w4.drewN n5) w.heap.size u3 (out.map Value.string) := how4
          clear hR4 hgw4 how4
          have hR1 : RdrS ((w4.drewN n5).setCell ⟨b, 2, none⟩ (.bool true)) b va p3 true := hR0.set2 true
          have hg1 := grownBy_trans hg0 (grownBy_set (w4.drewN n5) b 2 (.bool true))
          have ho1 := ho0.apart (grownBy_set (w4.drewN n5) b 2 (.bool true)) (fun k hk => by cases hk; exact hb)
          obtain ⟨bad5, W5, hW5, how5, hR5, hgw5, HN, hcase⟩ : ∃ bad5 W5, W5.heap.size = w4.heap.size ∧ Own 9 W5 w.heap.size u3 (out.map Value.string) ∧ RdrS W5 b va p3 bad5 ∧ w.grownBy W5 (some b) ∧ Hid (NextT xs j p3 all t out bad5) ∧
              ((((k : Int) != (al : Int)) = false ∧ ¬ 1048576 < (all : Int) + (t.size : Int) ∧ W5 = w4.drewN n5) ∨
               (((k : Int) != (al : Int)) = true ∧ ¬ 1048576 < (all : Int) + (t.size : Int) ∧ W5 = (w4.drewN n5).setCell ⟨b, 2, none⟩ (.bool true)) ∨
               (((k : Int) != (al : Int)) = false ∧ 1048576 < (all : Int) + (t.size : Int) ∧ W5 = (w4.drewN n5).setCell ⟨b, 2, none⟩ (.bool true)) ∨
               (((k : Int) != (al : Int)) = true ∧ 1048576 < (all : Int) + (t.size : Int) ∧ W5 = ((w4.drewN n5).setCell ⟨b, 2, none⟩ (.bool true)).setCell ⟨b, 2, none⟩ (.bool true))) := by
            by_cases hka : k = al
            · have e1 : ((k : Int) != (al : Int)) = false := by simp [hka]
              by_cases hbig : 1048576 < all + t.size
              · exact ⟨true, _, by simp, ho1, hR1, hg1, .inr ⟨rfl, HX.out.2 (.inr (.inr hbig))⟩, .inr (.inr (.inl ⟨e1, by omega, rfl⟩))⟩
              · refine ⟨bad3, w4.drewN n5, rfl, ho0, hR0, hg0, ?_, .inl ⟨e1, by omega, rfl⟩⟩
                cases bad3 with
                | true => exact .inr ⟨rfl, HX.out.2 (.inl rfl)⟩
                | false => exact .inl ⟨rfl, by omega, HX.out.1 rfl hka (by omega)⟩
            · have e1 : ((k : Int) != (al : Int)) = true := by simp; omega
              by_cases hbig : 1048576 < all + t.size
              · exact ⟨true, _, by simp, ho1.apart (grownBy_set _ b 2 (.bool true)) (fun k hk => by cases hk; exact hb), hR1.set2 true, grownBy_trans hg1 (grownBy_set _ b 2 (.bool true)), .inr ⟨rfl, HX.out.2 (.inr (.inr hbig))⟩, .inr (.inr (.inr ⟨e1, by omega, rfl⟩))⟩
              · exact ⟨true, _, by simp, ho1, hR1, hg1, .inr ⟨rfl, HX.out.2 (.inr (.inl hka))⟩, .inr (.inl ⟨e1, by omega, rfl⟩)⟩
          clear hR0 hg0 ho0 hR1 hg1 ho1 HX
          have hsz5 := hgw5.size
          rw [hW5] at hsz5
          have hb5 : ∀ g, u3.ownBlock = some g → w.heap.size ≤ g := how5.lt
          have hcn : ∀ (j : Nat) (u : Value), [Value.string t][j]? = some u → (W5.alloc (.cells #[.string t] 9)).cell? ((⟨w4.heap.size, 0, none⟩ : Addr).add j) = some u := by rw [← hW5]; exact cell_one_new _ _ _
          clear hW5
          rcases hcase with ⟨e1, e2, rfl⟩ | ⟨e1, e2, rfl⟩ | ⟨e1, e2, rfl⟩ | ⟨e1, e2, rfl⟩
          all_goals
            go_wp2_with (at_builtin; refine wpList_append_own _ rfl _ _ 61 rfl w.heap.size 9 i0 (.string ByteArray.empty) 1 16 Tryz.underlying61 hi hz0 hz1 hz2 rfl (by decide) _ _ _ rfl (World.ownsRow.alloc how5 _) ⟨w4.heap.size, 0, none⟩ 1 1 [.string t] rfl rfl hcn (by simp [Value.oneCell']) (by simp [maxLen]; omega) (by simp; omega) (by simp; omega) ?_)
            intro v6 w6 ho6 hg6 _
            have hfin : textsAt xs w.heap.size b va v6 (.string t) (.int .i64 ((all : Int) + (t.size : Int))) (.int .i64 ((j : Int) - 1)) w6 ∧ w.grownBy w6 (some b) := by
              have hR6 : RdrS w6 b va p3 bad5 := (hR5.grown (World.grownBy_alloc _ _ none) (fun k hk => by cases hk)).grown hg6 (fun k hk => by have := hb5 k hk; omega)
              refine ⟨⟨j - 1, p3, all + t.size, t, bad5, ?_, rfl, ?_, hR6, hp3, by omega, by omega, by omega, ?_⟩, grownBy_own (grownBy_trans hgw5 (World.grownBy_alloc _ _ _)) hg6 hb5⟩
              · congr 1; omega
              · congr 1
              · rcases HN.out with ⟨h1, h2, h3⟩ | ⟨h1, h2⟩
                · exact .inl ⟨h1, out ++ [t], by simpa using own_of ho6, by simp; omega, h2, by omega, h3⟩
                · exact .inr ⟨h1, h2⟩
            clear ho6 hg6 how5 hR5 hgw5 hcn HN
            go_wp2_with fail
            go_roundw
            case rel => exact hfin
            case measure => simp [intOf]; omega
      · have r2 := hRr.c2
        have hjb : (0 : Int) < (j : Int) := by omega
        have hres : Hid (textsS xs w.heap.size b va (.returned u3) wr) := by
          unfold Hid textsS
          rw [HT.out]
          exact ⟨_, p, rfl, hRr⟩
        go_wp2_with fail
        go_ret
        exact ⟨hres.out, hgw⟩
end Go.Proofs.YtcjlihfkibpgoaaGreatDoor
