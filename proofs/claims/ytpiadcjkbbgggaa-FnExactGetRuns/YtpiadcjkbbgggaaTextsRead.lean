/- What the specification's reader does: num, count, take. -/
import Derived.Test.YtpiadcjkbbgggaaGetsSpec
import Derived.Test.YtpiadcjkbbgggaaTextsGet
import Derived.Deep.RegionHeld2
namespace Go.Proofs.Ytpiadcjkbbgggaa
open Go.RowKit Go.Lib
set_option linter.unusedVariables false

/-- The block b holds the specification's reader: its bytes, its place, whether they were bad. -/
def RdrS (w : World) (b : Nat) (va : Value) (p : Nat) (bad : Bool) : Prop := w.heap[b]? = some (.cells #[va, .int .i64 (p : Int), .bool bad] 57 (0, 0))
theorem RdrS.c0 {w : World} {b p : Nat} {va : Value} {bad : Bool} (h : RdrS w b va p bad) : w.cell? ⟨b, 0, none⟩ = some va := by unfold RdrS at h; simp [World.cell?, h]
theorem RdrS.c1 {w : World} {b p : Nat} {va : Value} {bad : Bool} (h : RdrS w b va p bad) : w.cell? ⟨b, 1, none⟩ = some (.int .i64 (p : Int)) := by unfold RdrS at h; simp [World.cell?, h]
theorem RdrS.c2 {w : World} {b p : Nat} {va : Value} {bad : Bool} (h : RdrS w b va p bad) : w.cell? ⟨b, 2, none⟩ = some (.bool bad) := by unfold RdrS at h; simp [World.cell?, h]
theorem RdrS.f {w : World} {b p : Nat} {va : Value} {bad : Bool} (h : RdrS w b va p bad) (j : Nat) : w.frozen? ⟨b, j, none⟩ = false := by unfold RdrS at h; simp [World.frozen?, h]
theorem RdrS.set1 {w : World} {b p : Nat} {va : Value} {bad : Bool} (h : RdrS w b va p bad) (q : Nat) : RdrS (w.setCell ⟨b, 1, none⟩ (.int .i64 (q : Int))) b va q bad := by
  unfold RdrS at h ⊢
  rw [heap_setCell_same w b 1 _ _ _ h]
  rfl
theorem RdrS.set2 {w : World} {b p : Nat} {va : Value} {bad : Bool} (h : RdrS w b va p bad) (t : Bool) : RdrS (w.setCell ⟨b, 2, none⟩ (.bool t)) b va p t := by
  unfold RdrS at h ⊢
  rw [heap_setCell_same w b 2 _ _ _ h]
  rfl
theorem RdrS.grown {w w' : World} {b p : Nat} {va : Value} {bad : Bool} {row : Option Nat} (h : RdrS w b va p bad) (hg : w.grownBy w' row) (hr : ∀ k, row = some k → b ≠ k) : RdrS w' b va p bad := by
  unfold RdrS at h ⊢
  rw [hg.block b (Array.getElem?_eq_some_iff.1 h).1 (fun e => hr b e.symm rfl), h]

/-- What num answers. -/
def numS (xs : List Int) (b : Nat) (va : Value) (p : Nat) (e : Ending) (w' : World) : Prop := match getL xs p with
  | some (a, q) => e = .returned (.int .i64 a) ∧ RdrS w' b va q false
  | none => e = .returned (.int .i64 0) ∧ RdrS w' b va p true

set_option maxHeartbeats 1000000 in
set_option maxRecDepth 100000 in
theorem num_good (C b p : Nat) (w : World) (va : Value) (xs : List Int) (hx : Bytes xs) (hl : xs.length ≤ 1048576) (hp : p ≤ xs.length) (hr : Rd C w va (xs.map (Value.int .u8))) (hR : RdrS w b va p false) :
    Calls Try.prog 49 #[.pointer (some ⟨b, 0, none⟩)] w fun e w' => numS xs b va p e w' ∧ w.grownBy w' (some b) := by
  have r0 := hR.c0
  have r1 := hR.c1
  have r2 := hR.c2
  have f1 := hR.f 1
  have f2 := hR.f 2
  have hS : ∀ w2 : World, w2 = w.drew → w2.cell? ⟨b, 0, none⟩ = some va ∧ w2.cell? ⟨b, 1, none⟩ = some (.int .i64 (p : Int)) := fun w2 e => by subst e; exact ⟨r0, r1⟩
  have HS : Hid _ := hS
  clear hS
  cases hG : getL xs p with
  | none =>
    have HG : Hid _ := hG
    clear hG
    go_enter Try.func49, Try.ntmps49
    go_wp2_with fail
    go_region_held2 (fun w' => w'.cell? ⟨b, 0, none⟩ = some va ∧ w'.cell? ⟨b, 1, none⟩ = some (.int .i64 (p : Int))) (first | exact HS.out _ rfl) (first | (go_at_call 86; refine (l01Get_any C _ va xs p hx hl hp (show Rd C w.drew va _ from hr)).mono ?_; rintro e w' ⟨hge, rfl⟩; rw [getR, HG.out] at hge; obtain ⟨x, y, rfl⟩ := hge))
    have hg : w.grownBy (w.drew.setCell ⟨b, 2, none⟩ (.bool true)) (some b) := grownBy_trans (show w.grownBy w.drew (some b) from grownBy_drewN w 1 _) (grownBy_set w.drew b 2 _)
    go_wp2_with fail
    go_ret
    exact ⟨by rw [numS, HG.out]; exact ⟨rfl, RdrS.set2 (w := w.drew) hR true⟩, hg⟩
  | some z =>
    obtain ⟨x, q⟩ := z
    have HG : Hid _ := hG
    clear hG
    go_enter Try.func49, Try.ntmps49
    go_wp2_with fail
    go_region_held2 (fun w' => w'.cell? ⟨b, 0, none⟩ = some va ∧ w'.cell? ⟨b, 1, none⟩ = some (.int .i64 (p : Int))) (first | exact HS.out _ rfl) (first | (go_at_call 86; refine (l01Get_any C _ va xs p hx hl hp (show Rd C w.drew va _ from hr)).mono ?_; rintro e w' ⟨hge, rfl⟩; rw [getR, HG.out] at hge; subst hge))
    have hg : w.grownBy (w.drew.setCell ⟨b, 1, none⟩ (.int .i64 (q : Int))) (some b) := grownBy_trans (show w.grownBy w.drew (some b) from grownBy_drewN w 1 _) (grownBy_set w.drew b 1 _)
    go_wp2_with fail
    go_ret
    exact ⟨by rw [numS, HG.out]; exact ⟨rfl, RdrS.set1 (w := w.drew) hR q⟩, hg⟩

set_option maxHeartbeats 400000 in
theorem num_bad (b p : Nat) (w : World) (va : Value) (hR : RdrS w b va p true) :
    Calls Try.prog 49 #[.pointer (some ⟨b, 0, none⟩)] w fun e w' => e = .returned (.int .i64 0) ∧ w' = w := by
  have r2 := hR.c2
  go_enter Try.func49, Try.ntmps49
  go_wp2_with fail
  go_ret
  exact ⟨rfl, rfl⟩

/-- What count answers. -/
def countS (xs : List Int) (b : Nat) (va : Value) (e : Ending) (w' : World) : Prop := match getL xs 0 with
  | some (a, q) => if 4096 < a then e = .returned (.int .i64 0) ∧ RdrS w' b va q true else e = .returned (.int .i64 a) ∧ RdrS w' b va q false
  | none => e = .returned (.int .i64 0) ∧ RdrS w' b va 0 true

set_option maxHeartbeats 400000 in
theorem count_any (C b : Nat) (w : World) (va : Value) (xs : List Int) (hx : Bytes xs) (hl : xs.length ≤ 1048576) (hr : Rd C w va (xs.map (Value.int .u8))) (hR : RdrS w b va 0 false) :
    Calls Try.prog 74 #[.pointer (some ⟨b, 0, none⟩)] w fun e w' => countS xs b va e w' ∧ w.grownBy w' (some b) := by
  go_enter Try.func74, Try.ntmps74
  go_wp2_with fail
  refine (num_good C b 0 w va xs hx hl (Nat.zero_le _) hr hR).mono ?_
  rintro e w1 ⟨hn, hg⟩
  unfold numS at hn
  cases hG : getL xs 0 with
  | none =>
    rw [hG] at hn
    obtain ⟨rfl, hR1⟩ := hn
    have HG : Hid _ := hG
    clear hG
    go_wp2_with fail
    go_ret
    exact ⟨by rw [countS, HG.out]; exact ⟨rfl, hR1⟩, hg⟩
  | some z =>
    obtain ⟨a, q⟩ := z
    rw [hG] at hn
    obtain ⟨rfl, hR1⟩ := hn
    have HG : Hid _ := hG
    clear hG
    by_cases h4 : 4096 < a
    · have r2 := hR1.c2
      have f2 := hR1.f 2
      have HC : Hid (countS xs b va (.returned (.int .i64 0)) (w1.setCell ⟨b, 2, none⟩ (.bool true))) := by
        unfold Hid countS
        rw [HG.out]
        simp only
        rw [if_pos h4]
        exact ⟨by trivial, hR1.set2 true⟩
      go_wp2_with fail
      go_ret
      exact ⟨HC.out, grownBy_trans hg (grownBy_set w1 b 2 _)⟩
    · have HC : Hid (countS xs b va (.returned (.int .i64 a)) w1) := by
        unfold Hid countS
        rw [HG.out]
        simp only
        rw [if_neg h4]
        exact ⟨by trivial, hR1⟩
      go_wp2_with fail
      go_ret
      exact ⟨HC.out, hg⟩

set_option maxHeartbeats 1000000 in
set_option maxRecDepth 100000 in
theorem takeS_bad (b p : Nat) (n : Int) (w : World) (va : Value) (hR : RdrS w b va p true) :
    Calls Try.prog 75 #[.pointer (some ⟨b, 0, none⟩), .int .i64 n] w fun e w' => e = .returned (.string ByteArray.empty) ∧ RdrS w' b va p true ∧ w.grownBy w' (some b) := by
  have r2 := hR.c2
  have f2 := hR.f 2
  go_enter Try.func75, Try.ntmps75
  go_wp2_with fail
  go_quiet (fail)
  go_wp2_with fail
  go_ret
  exact ⟨rfl, RdrS.set2 (w := w.drewN nq) hR true, grownBy_trans (grownBy_drewN w nq _) (grownBy_set (w.drewN nq) b 2 _)⟩

set_option maxHeartbeats 1000000 in
set_option maxRecDepth 100000 in
theorem takeS_long (b p : Nat) (n : Int) (w : World) (ao : Option Addr) (len cap : Nat) (hl : len ≤ 1048576) (hp : p ≤ len) (hn : (len : Int) - (p : Int) < n) (hR : RdrS w b (.slice ao len cap) p false) :
    Calls Try.prog 75 #[.pointer (some ⟨b, 0, none⟩), .int .i64 n] w fun e w' => e = .returned (.string ByteArray.empty) ∧ RdrS w' b (.slice ao len cap) p true ∧ w.grownBy w' (some b) := by
  have r0 := hR.c0
  have r1 := hR.c1
  have r2 := hR.c2
  have f2 := hR.f 2
  go_enter Try.func75, Try.ntmps75
  go_wp2_with fail
  go_quiet (fail)
  go_wp2_with fail
  go_ret
  exact ⟨rfl, RdrS.set2 (w := w.drewN nq) hR true, grownBy_trans (grownBy_drewN w nq _) (grownBy_set (w.drewN nq) b 2 _)⟩

set_option maxHeartbeats 1000000 in
set_option maxRecDepth 100000 in
theorem takeS_ok (C b p n : Nat) (w : World) (va : Value) (xs : List Int) (hl : xs.length ≤ 1048576) (hp : p ≤ xs.length) (hn : n ≤ xs.length - p) (hC : C ≤ b) (hr : Rd C w va (xs.map (Value.int .u8))) (hR : RdrS w b va p false) :
    Calls Try.prog 75 #[.pointer (some ⟨b, 0, none⟩), .int .i64 (n : Int)] w fun e w' => e = .returned (.string (bytesAt xs p n)) ∧ RdrS w' b va (p + n) false ∧ w.grownBy w' (some b) := by
  have hr0 := hr
  obtain ⟨ao, cap, rfl, hcap, hmax, hnil, hr⟩ := hr
  clear hr
  rw [List.length_map] at hcap hr0 hR ⊢
  have r0 := hR.c0
  have r1 := hR.c1
  have r2 := hR.c2
  have f1 := hR.f 1
  have hle : ¬ (xs.length : Int) - (p : Int) < (n : Int) := by omega
  have hled : decide ((xs.length : Int) - (p : Int) < (n : Int)) = false := by simpa using hle
  go_enter Try.func75, Try.ntmps75
  go_wp2_with fail
  go_quiet (fail)
  go_wp2_with fail
  have hR1 : RdrS ((w.drewN nq).setCell { block := b, off := 1 } (Value.int IntKind.i64 ((p : Int) + (n : Int)))) b _ (p + n) false := RdrS.set1 (w := w.drewN nq) hR (p + n)
  have hg1 : w.grownBy ((w.drewN nq).setCell { block := b, off := 1 } (Value.int IntKind.i64 ((p : Int) + (n : Int)))) (some b) := grownBy_trans (grownBy_drewN w nq _) (grownBy_set (w.drewN nq) b 1 _)
  generalize (w.drewN nq).setCell { block := b, off := 1 } (Value.int IntKind.i64 ((p : Int) + (n : Int))) = w1 at hR1 hg1 ⊢
  clear r0 r1 r2 f1 hR
  have r0 := hR1.c0
  have r1 := hR1.c1
  have hr1 := hr0.grown hg1 (fun k hk => by cases hk; exact hC)
  clear hr0 hle hled
  cases ao with
  | none =>
    have hz := hnil rfl
    subst hz
    have hl0 : xs.length = 0 := by omega
    obtain rfl : n = 0 := by omega
    obtain rfl : p = 0 := by omega
    have hr2 := hr1.cut 0 0 (Nat.zero_le _) (Nat.zero_le _) (ao' := none) (by simp)
    rw [← List.map_drop, ← List.map_take] at hr2
    have hst : ∀ nq, (convert 22 9 (.slice none 0 0)).run Try.prog (w1.drewN nq) = .ok (.string (bytesAt xs 0 0)) (w1.drewN nq) := fun nq => run_string_of (hr2.drewN nq)
    have HL : Hid _ := hl0
    rw [hl0] at r0 ⊢
    clear hl0
    go_quiet (fail)
    go_wp2_with fail
    go_ret
    exact ⟨rfl, hR1, grownBy_trans hg1 (grownBy_drewN w1 _ _)⟩
  | some ad =>
    by_cases hcp : cap = p
    · have hr2 := hr1.cut p n (by simpa using hp) (by simpa using hn) (ao' := some ad) (by rw [if_pos hcp])
      rw [← List.map_drop, ← List.map_take] at hr2
      have hst : ∀ nq, (convert 22 9 (.slice (some ad) n (cap - p))).run Try.prog (w1.drewN nq) = .ok (.string (bytesAt xs p n)) (w1.drewN nq) := fun nq => run_string_of (hr2.drewN nq)
      subst hcp
      rw [Nat.sub_self] at hst
      go_quiet (fail)
      go_wp2_with fail
      go_ret
      exact ⟨rfl, hR1, grownBy_trans hg1 (grownBy_drewN w1 _ _)⟩
    · have hr2 := hr1.cut p n (by simpa using hp) (by simpa using hn) (ao' := some (ad.add p)) (by rw [if_neg hcp]; rfl)
      rw [← List.map_drop, ← List.map_take] at hr2
      have hst : ∀ nq, (convert 22 9 (.slice (some (ad.add p)) n (cap - p))).run Try.prog (w1.drewN nq) = .ok (.string (bytesAt xs p n)) (w1.drewN nq) := fun nq => run_string_of (hr2.drewN nq)
      go_quiet (fail)
      go_wp2_with fail
      go_ret
      exact ⟨rfl, hR1, grownBy_trans hg1 (grownBy_drewN w1 _ _)⟩

theorem num_any (C b p : Nat) (bad : Bool) (w : World) (va : Value) (xs : List Int) (hx : Bytes xs) (hl : xs.length ≤ 1048576) (hp : p ≤ xs.length) (hr : Rd C w va (xs.map (Value.int .u8))) (hR : RdrS w b va p bad) :
    Calls Try.prog 49 #[.pointer (some ⟨b, 0, none⟩)] w fun e w' => ∃ (a p' : Nat) (bad' : Bool), e = .returned (.int .i64 (a : Int)) ∧ RdrS w' b va p' bad' ∧ p' ≤ xs.length ∧ a ≤ 4611686018427387903 ∧
      ((bad = false ∧ getL xs p = some ((a : Int), p') ∧ bad' = false) ∨ (bad' = true ∧ a = 0 ∧ (bad = true ∨ getL xs p = none))) ∧ w.grownBy w' (some b) := by
  cases bad with
  | true =>
    refine (num_bad b p w va hR).mono ?_
    rintro e w' ⟨rfl, rfl⟩
    exact ⟨0, p, true, rfl, hR, hp, by omega, .inr ⟨rfl, rfl, .inl rfl⟩, World.grownBy.refl _ _⟩
  | false =>
    refine (num_good C b p w va xs hx hl hp hr hR).mono ?_
    rintro e w' ⟨hn, hg⟩
    unfold numS at hn
    cases hG : getL xs p with
    | none =>
      rw [hG] at hn
      exact ⟨0, p, true, hn.1, hn.2, hp, by omega, .inr ⟨rfl, rfl, .inr rfl⟩, hg⟩
    | some z =>
      obtain ⟨a, q⟩ := z
      rw [hG] at hn
      have := getL_ok hx hG
      obtain ⟨n, rfl⟩ := Int.eq_ofNat_of_zero_le this.1
      exact ⟨n, q, false, hn.1, hn.2, this.2.2.2, by omega, .inl ⟨rfl, rfl, rfl⟩, hg⟩

theorem takeS_any (C b p n : Nat) (bad : Bool) (w : World) (va : Value) (xs : List Int) (hl : xs.length ≤ 1048576) (hp : p ≤ xs.length) (hn : n ≤ 4611686018427387903) (hC : C ≤ b) (hr : Rd C w va (xs.map (Value.int .u8))) (hR : RdrS w b va p bad) :
    Calls Try.prog 75 #[.pointer (some ⟨b, 0, none⟩), .int .i64 (n : Int)] w fun e w' => ∃ (s : ByteArray) (p' : Nat) (bad' : Bool), e = .returned (.string s) ∧ RdrS w' b va p' bad' ∧ p' ≤ xs.length ∧ s.size ≤ 1048576 ∧
      ((bad = false ∧ n ≤ xs.length - p ∧ s = bytesAt xs p n ∧ p' = p + n ∧ bad' = false) ∨ (bad' = true ∧ s = ByteArray.empty ∧ (bad = true ∨ xs.length - p < n))) ∧ w.grownBy w' (some b) := by
  cases bad with
  | true =>
    refine (takeS_bad b p n w va hR).mono ?_
    rintro e w' ⟨rfl, hR1, hg⟩
    exact ⟨_, p, true, rfl, hR1, hp, by simp, .inr ⟨rfl, rfl, .inl rfl⟩, hg⟩
  | false =>
    by_cases hlen : n ≤ xs.length - p
    · refine (takeS_ok C b p n w va xs hl hp hlen hC hr hR).mono ?_
      rintro e w' ⟨rfl, hR1, hg⟩
      exact ⟨_, p + n, false, rfl, hR1, by omega, by rw [bytesAt_size hlen]; omega, .inl ⟨rfl, hlen, rfl, rfl, rfl⟩, hg⟩
    · obtain ⟨ao, cap, rfl, _⟩ := hr
      refine (takeS_long b p n w ao _ cap (by simpa using hl) (by simpa using hp) (by simp; omega) hR).mono ?_
      rintro e w' ⟨rfl, hR1, hg⟩
      exact ⟨_, p, true, rfl, hR1, hp, by simp, .inr ⟨rfl, rfl, .inr (by omega)⟩, hg⟩

/-- What one round of reading texts comes to. -/
theorem texts_round {xs : List Int} {p p1 p2 p3 k m all : Nat} {last s : ByteArray} {bad1 bad2 bad3 : Bool}
    (h1 : (false = false ∧ getL xs p = some ((k : Int), p1) ∧ bad1 = false) ∨ (bad1 = true ∧ k = 0 ∧ (false = true ∨ getL xs p = none)))
    (h2 : (bad1 = false ∧ getL xs p1 = some ((m : Int), p2) ∧ bad2 = false) ∨ (bad2 = true ∧ m = 0 ∧ (bad1 = true ∨ getL xs p1 = none)))
    (h3 : (bad2 = false ∧ m ≤ xs.length - p2 ∧ s = bytesAt xs p2 m ∧ p3 = p2 + m ∧ bad3 = false) ∨ (bad3 = true ∧ s = ByteArray.empty ∧ (bad2 = true ∨ xs.length - p2 < m))) (hk : k ≤ last.size) :
    (bad3 = true → oneText xs p last all = none) ∧ (bad3 = false → oneText xs p last all = if k ≠ alike last (last.extract 0 k ++ s) ∨ 1048576 < all + (last.extract 0 k ++ s).size then none else some (last.extract 0 k ++ s, p3)) := by
  constructor
  · rintro rfl
    rcases h3 with ⟨_, _, _, _, h⟩ | ⟨_, _, h3⟩
    · cases h
    rcases h2 with ⟨hb1, hg1, hb2⟩ | ⟨_, _, h2⟩
    · subst hb1 hb2
      rcases h1 with ⟨_, hg0, _⟩ | ⟨h, _⟩
      · rcases h3 with h | h
        · cases h
        · exact one_none4 hg0 hg1 (by simpa using h)
      · cases h
    · rcases h1 with ⟨_, hg0, hb1⟩ | ⟨_, _, h1⟩
      · subst hb1
        rcases h2 with h | h
        · cases h
        · exact one_none3 hg0 h
      · rcases h1 with h | h
        · cases h
        · exact one_none1 h
  · rintro rfl
    rcases h3 with ⟨hb2, hm, rfl, rfl, _⟩ | ⟨h, _⟩
    · subst hb2
      rcases h2 with ⟨hb1, hg1, _⟩ | ⟨h, _⟩
      · subst hb1
        rcases h1 with ⟨_, hg0, _⟩ | ⟨h, _⟩
        · have hsz := mkText_size (bs := xs) (last := last) (p := p2) hk hm
          unfold mkText at hsz
          rw [hsz]
          split
          · rename_i hb
            exact one_none5 hg0 hg1 (by simpa [mkText] using hb)
          · rename_i hb
            have := one_some (last := last) (all := all) hg0 (by simp; omega) hg1 (by simp; omega) (by simpa [mkText] using hb)
            simpa [mkText] using this
        · cases h
      · cases h
    · cases h
end Go.Proofs.Ytpiadcjkbbgggaa
