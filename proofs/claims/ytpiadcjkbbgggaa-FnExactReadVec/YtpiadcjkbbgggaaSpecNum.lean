/- What the specification's reader does: num. -/
import Derived.Test.YtpiadcjkbbgggaaGetsSpec
import Derived.Test.YtpiadcjkbbgggaaTextsGet
import Derived.Deep.RegionHeld2
namespace Go.Proofs.Ytpiadcjkbbgggaa
open Go.RowKit Go.Lib
set_option linter.unusedVariables false

/-- The block b holds the specification's reader: its bytes, its place, whether they were bad. -/
def RdrS (w : World) (b : Nat) (va : Value) (p : Nat) (bad : Bool) : Prop := w.heap[b]? = some (.cells #[va, .int .i64 (p : Int), .bool bad] 57 (0, 0))
theorem RdrS.c0 {w : World} {b p : Nat} {va : Value} {bad : Bool} (h : RdrS w b va p bad) : w.cell? ⟨b, 0, none⟩ = some va := by unfold RdrS at h; simp [World.cell?, h]
theorem RdrS.c1 {w : World} {b p : Nat} {va : Value} {bad : Bool} (h : RdrS w b va p bad) : w.cell? ⟨b, 1, none⟩ = some (.int .i64 (p : Int)) := by unfold RdrS at h; simp [World.cell?, h]
theorem RdrS.c2 {w : World} {b p : Nat} {va : Value} {bad : Bool} (h : RdrS w b va p bad) : w.cell? ⟨b, 2, none⟩ = some (.bool bad) := by unfold RdrS at h; simp [World.cell?, h]
theorem RdrS.f {w : World} {b p : Nat} {va : Value} {bad : Bool} (h : RdrS w b va p bad) (j : Nat) : w.frozen? ⟨b, j, none⟩ = false := by unfold RdrS at h; simp [World.frozen?, h]
theorem RdrS.set1 {w : World} {b p : Nat} {va : Value} {bad : Bool} (h : RdrS w b va p bad) (q : Nat) : RdrS (w.setCell ⟨b, 1, none⟩ (.int .i64 (q : Int))) b va q bad := by
  unfold RdrS at h ⊢
  rw [heap_setCell_same w b 1 _ _ _ h]
  rfl
theorem RdrS.set2 {w : World} {b p : Nat} {va : Value} {bad : Bool} (h : RdrS w b va p bad) (t : Bool) : RdrS (w.setCell ⟨b, 2, none⟩ (.bool t)) b va p t := by
  unfold RdrS at h ⊢
  rw [heap_setCell_same w b 2 _ _ _ h]
  rfl
theorem RdrS.grown {w w' : World} {b p : Nat} {va : Value} {bad : Bool} {row : Option Nat} (h : RdrS w b va p bad) (hg : w.grownBy w' row) (hr : ∀ k, row = some k → b ≠ k) : RdrS w' b va p bad := by
  unfold RdrS at h ⊢
  rw [hg.block b (Array.getElem?_eq_some_iff.1 h).1 (fun e => hr b e.symm rfl), h]

/-- What num answers. -/
def numS (xs : List Int) (b : Nat) (va : Value) (p : Nat) (e : Ending) (w' : World) : Prop := match getL xs p with
  | some (a, q) => e = .returned (.int .i64 a) ∧ RdrS w' b va q false
  | none => e = .returned (.int .i64 0) ∧ RdrS w' b va p true

set_option maxHeartbeats 1000000 in
set_option maxRecDepth 100000 in
theorem num_good (C b p : Nat) (w : World) (va : Value) (xs : List Int) (hx : Bytes xs) (hl : xs.length ≤ 1048576) (hp : p ≤ xs.length) (hr : Rd C w va (xs.map (Value.int .u8))) (hR : RdrS w b va p false) :
    Calls Try.prog 49 #[.pointer (some ⟨b, 0, none⟩)] w fun e w' => numS xs b va p e w' ∧ w.grownBy w' (some b) := by
  have r0 := hR.c0
  have r1 := hR.c1
  have r2 := hR.c2
  have f1 := hR.f 1
  have f2 := hR.f 2
  have hS : ∀ w2 : World, w2 = w.drew → w2.cell? ⟨b, 0, none⟩ = some va ∧ w2.cell? ⟨b, 1, none⟩ = some (.int .i64 (p : Int)) := fun w2 e => by subst e; exact ⟨r0, r1⟩
  have HS : Hid _ := hS
  clear hS
  cases hG : getL xs p with
  | none =>
    have HG : Hid _ := hG
    clear hG
    go_enter Try.func49, Try.ntmps49
    go_wp2_with fail
    go_region_held2 (fun w' => w'.cell? ⟨b, 0, none⟩ = some va ∧ w'.cell? ⟨b, 1, none⟩ = some (.int .i64 (p : Int))) (first | exact HS.out _ rfl) (first | (go_at_call 86; refine (l01Get_any C _ va xs p hx hl hp (show Rd C w.drew va _ from hr)).mono ?_; rintro e w' ⟨hge, rfl⟩; rw [getR, HG.out] at hge; obtain ⟨x, y, rfl⟩ := hge))
    have hg : w.grownBy (w.drew.setCell ⟨b, 2, none⟩ (.bool true)) (some b) := grownBy_trans (show w.grownBy w.drew (some b) from grownBy_drewN w 1 _) (grownBy_set w.drew b 2 _)
    go_wp2_with fail
    go_ret
    exact ⟨by rw [numS, HG.out]; exact ⟨rfl, RdrS.set2 (w := w.drew) hR true⟩, hg⟩
  | some z =>
    obtain ⟨x, q⟩ := z
    have HG : Hid _ := hG
    clear hG
    go_enter Try.func49, Try.ntmps49
    go_wp2_with fail
    go_region_held2 (fun w' => w'.cell? ⟨b, 0, none⟩ = some va ∧ w'.cell? ⟨b, 1, none⟩ = some (.int .i64 (p : Int))) (first | exact HS.out _ rfl) (first | (go_at_call 86; refine (l01Get_any C _ va xs p hx hl hp (show Rd C w.drew va _ from hr)).mono ?_; rintro e w' ⟨hge, rfl⟩; rw [getR, HG.out] at hge; subst hge))
    have hg : w.grownBy (w.drew.setCell ⟨b, 1, none⟩ (.int .i64 (q : Int))) (some b) := grownBy_trans (show w.grownBy w.drew (some b) from grownBy_drewN w 1 _) (grownBy_set w.drew b 1 _)
    go_wp2_with fail
    go_ret
    exact ⟨by rw [numS, HG.out]; exact ⟨rfl, RdrS.set1 (w := w.drew) hR q⟩, hg⟩

set_option maxHeartbeats 400000 in
theorem num_bad (b p : Nat) (w : World) (va : Value) (hR : RdrS w b va p true) :
    Calls Try.prog 49 #[.pointer (some ⟨b, 0, none⟩)] w fun e w' => e = .returned (.int .i64 0) ∧ w' = w := by
  have r2 := hR.c2
  go_enter Try.func49, Try.ntmps49
  go_wp2_with fail
  go_ret
  exact ⟨rfl, rfl⟩

theorem num_any (C b p : Nat) (bad : Bool) (w : World) (va : Value) (xs : List Int) (hx : Bytes xs) (hl : xs.length ≤ 1048576) (hp : p ≤ xs.length) (hr : Rd C w va (xs.map (Value.int .u8))) (hR : RdrS w b va p bad) :
    Calls Try.prog 49 #[.pointer (some ⟨b, 0, none⟩)] w fun e w' => ∃ (a p' : Nat) (bad' : Bool), e = .returned (.int .i64 (a : Int)) ∧ RdrS w' b va p' bad' ∧ p' ≤ xs.length ∧ a ≤ 4611686018427387903 ∧
      ((bad = false ∧ getL xs p = some ((a : Int), p') ∧ bad' = false) ∨ (bad' = true ∧ a = 0 ∧ (bad = true ∨ getL xs p = none))) ∧ w.grownBy w' (some b) := by
  cases bad with
  | true =>
    refine (num_bad b p w va hR).mono ?_
    rintro e w' ⟨rfl, rfl⟩
    exact ⟨0, p, true, rfl, hR, hp, by omega, .inr ⟨rfl, rfl, .inl rfl⟩, World.grownBy.refl _ _⟩
  | false =>
    refine (num_good C b p w va xs hx hl hp hr hR).mono ?_
    rintro e w' ⟨hn, hg⟩
    unfold numS at hn
    cases hG : getL xs p with
    | none =>
      rw [hG] at hn
      exact ⟨0, p, true, hn.1, hn.2, hp, by omega, .inr ⟨rfl, rfl, .inr rfl⟩, hg⟩
    | some z =>
      obtain ⟨a, q⟩ := z
      rw [hG] at hn
      have := getL_ok hx hG
      obtain ⟨n, rfl⟩ := Int.eq_ofNat_of_zero_le this.1
      exact ⟨n, q, false, hn.1, hn.2, this.2.2.2, by omega, .inl ⟨rfl, rfl, rfl⟩, hg⟩

end Go.Proofs.Ytpiadcjkbbgggaa
