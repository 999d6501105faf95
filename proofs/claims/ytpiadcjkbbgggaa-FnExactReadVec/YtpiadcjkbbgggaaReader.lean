/- What require and take do: a reader's place, and the fault with which it panics. -/
import Derived.Test.YtpiadcjkbbgggaaNums
import Derived.Test.YtpiadcjkbbgggaaGets
import Derived.Defers
import Derived.Recover
import Derived.Deep.RegionHeld2
namespace Go.Proofs.Ytpiadcjkbbgggaa
open Go.RowKit
set_option linter.unusedVariables false

/-- The block b holds a reader: its bytes, its place. -/
def Rdr (w : World) (b : Nat) (va : Value) (p : Nat) : Prop := w.heap[b]? = some (.cells #[va, .int .i64 (p : Int)] 80 (0, 0))
/-- What a reader panics with. -/
def Bad (e : Ending) : Prop := e = .panicked [{ v := .iface 108 (.int .i64 3), recovered := false }]

theorem Rdr.c0 {w : World} {b p : Nat} {va : Value} (h : Rdr w b va p) : w.cell? ⟨b, 0, none⟩ = some va := by
  unfold Rdr at h; simp [World.cell?, h]
theorem Rdr.c1 {w : World} {b p : Nat} {va : Value} (h : Rdr w b va p) : w.cell? ⟨b, 1, none⟩ = some (.int .i64 (p : Int)) := by
  unfold Rdr at h; simp [World.cell?, h]
theorem Rdr.f {w : World} {b p : Nat} {va : Value} (h : Rdr w b va p) (j : Nat) : w.frozen? ⟨b, j, none⟩ = false := by
  unfold Rdr at h; simp [World.frozen?, h]
theorem Rdr.set {w : World} {b p : Nat} {va : Value} (h : Rdr w b va p) (q : Nat) : Rdr (w.setCell ⟨b, 1, none⟩ (.int .i64 (q : Int))) b va q := by
  unfold Rdr at h ⊢
  rw [heap_setCell_same w b 1 _ _ _ h]
  rfl
theorem Rdr.grow {w : World} {b p : Nat} {va : Value} (_h : Rdr w b va p) (u : Value) : w.grownBy (w.setCell ⟨b, 1, none⟩ u) (some b) :=
  ⟨rfl, rfl, rfl, by simp, fun k _ hk => heap_setCell_other w ⟨b, 1, none⟩ k u (fun e => hk (by simp [e]))⟩

theorem Rdr.alloc {w : World} {b p : Nat} {va : Value} (h : Rdr w b va p) (o : Obj) : Rdr (w.alloc o) b va p := by
  unfold Rdr at h ⊢
  rw [Below.heap_alloc w o b (Array.getElem?_eq_some_iff.1 h).1, h]
theorem Rdr.other {w : World} {b p k : Nat} {va : Value} (h : Rdr w b va p) (hk : b ≠ k) (u : Value) : Rdr (w.setCell ⟨k, 0, none⟩ u) b va p := by
  unfold Rdr at h ⊢
  rw [heap_setCell_other w ⟨k, 0, none⟩ b u hk, h]
theorem Rdr.lt {w : World} {b p : Nat} {va : Value} (h : Rdr w b va p) : b < w.heap.size := (Array.getElem?_eq_some_iff.1 h).1

set_option maxHeartbeats 400000 in
theorem require_yes (r : Value) (w : World) : Calls Try.prog 79 #[r, .bool true] w fun e w' => e = .returned (.tuple #[]) ∧ w' = w := by
  go_enter Try.func79, Try.ntmps79
  go_wp2
  go_end0
  exact ⟨rfl, rfl⟩
set_option maxHeartbeats 400000 in
theorem require_no (r : Value) (w : World) : Calls Try.prog 79 #[r, .bool false] w fun e w' => Bad e ∧ w' = w := by
  go_enter Try.func79, Try.ntmps79
  go_wp2
  exact ⟨rfl, rfl, rfl⟩

theorem require_y (r : Value) (t : Bool) (w : World) (h : t = true) : Calls Try.prog 79 #[r, .bool t] w fun e w' => e = .returned (.tuple #[]) ∧ w' = w := by
  subst h
  exact require_yes r w
theorem require_n (r : Value) (t : Bool) (w : World) (h : t = false) : Calls Try.prog 79 #[r, .bool t] w fun e w' => e = .panicked [{ v := .iface 108 (.int .i64 3), recovered := false }] ∧ w' = w := by
  subst h
  exact require_no r w
/-- The same, with a way that is none: for a region that wants one. -/
theorem require_none (r : Value) (w : World) : Calls Try.prog 79 #[r, .bool false] w fun e w' => (e = .returned (.tuple #[]) ∧ w' = w ∧ Hid False) ∨ (e = .panicked [{ v := .iface 108 (.int .i64 3), recovered := false }] ∧ w' = w) :=
  (require_no r w).mono fun _ _ h => .inr h

set_option maxHeartbeats 400000 in
theorem take_ok (C b p n : Nat) (w : World) (va : Value) (cs : List Value) (hl : cs.length ≤ 1048576) (hp : p ≤ cs.length) (hn : n ≤ cs.length - p) (hC : C ≤ b) (hr : Rd C w va cs) (hR : Rdr w b va p) :
    Calls Try.prog 91 #[.pointer (some ⟨b, 0, none⟩), .int .i64 (n : Int)] w fun e w' => ∃ r, e = .returned r ∧ Rd C w' r ((cs.drop p).take n) ∧ Rdr w' b va (p + n) ∧ w.grownBy w' (some b) := by
  have hr0 := hr
  obtain ⟨ao, cap, rfl, hcap, hmax, hnil, hr⟩ := hr
  clear hr
  have r0 := hR.c0
  have r1 := hR.c1
  have f1 := hR.f 1
  have hle : (n : Int) ≤ (cs.length : Int) - (p : Int) := by omega
  go_enter Try.func91, Try.ntmps91
  go_wp2
  go_quiet ((go_at_call 79; exact Calls.quiet_of_same (require_yes _ _)))
  go_wp2
  have hR1 : Rdr ((w.drewN nq).setCell { block := b, off := 1 } (Value.int IntKind.i64 ((p : Int) + (n : Int)))) b _ (p + n) := Rdr.set (w := w.drewN nq) hR (p + n)
  have hg1 : w.grownBy ((w.drewN nq).setCell { block := b, off := 1 } (Value.int IntKind.i64 ((p : Int) + (n : Int)))) (some b) := grownBy_trans (grownBy_drewN w nq _) (Rdr.grow (w := w.drewN nq) hR _)
  generalize (w.drewN nq).setCell { block := b, off := 1 } (Value.int IntKind.i64 ((p : Int) + (n : Int))) = w1 at hR1 hg1 ⊢
  clear r0 r1 f1 hR
  have r0 := hR1.c0
  have r1 := hR1.c1
  have hr1 := hr0.grown hg1 (fun k hk => by cases hk; exact hC)
  clear hr0
  cases ao with
  | none =>
    have hz := hnil rfl
    subst hz
    have hl0 : cs.length = 0 := by omega
    have hr2 := hr1.cut p n hp hn (ao' := none) (by simp)
    have hRq : ∀ nq, Rdr (w1.drewN nq) b (Value.slice none 0 0) (p + n) := fun nq => by have h : Rdr (w1.drewN nq) b _ (p + n) := hR1; rwa [hl0] at h
    go_quiet (fail)
    go_wp2
    go_ret
    exact ⟨_, rfl, by simpa using hr2.drewN nq, hRq nq, grownBy_trans hg1 (grownBy_drewN w1 _ _)⟩
  | some ad =>
    by_cases hcp : cap = p
    · have hr2 := hr1.cut p n hp hn (ao' := some ad) (by rw [if_pos hcp])
      subst hcp
      go_quiet (fail)
      go_wp2
      go_ret
      exact ⟨_, rfl, by simpa using hr2.drewN nq, hR1, grownBy_trans hg1 (grownBy_drewN w1 _ _)⟩
    · have hr2 := hr1.cut p n hp hn (ao' := some (ad.add p)) (by rw [if_neg hcp]; rfl)
      go_quiet (fail)
      go_wp2
      go_ret
      exact ⟨_, rfl, by simpa using hr2.drewN nq, hR1, grownBy_trans hg1 (grownBy_drewN w1 _ _)⟩

set_option maxHeartbeats 400000 in
theorem take_no (b p : Nat) (n : Int) (w : World) (ao : Option Addr) (len cap : Nat) (hl : len ≤ 1048576) (hp : p ≤ len) (hn : (len : Int) - (p : Int) < n) (hR : Rdr w b (.slice ao len cap) p) :
    Calls Try.prog 91 #[.pointer (some ⟨b, 0, none⟩), .int .i64 n] w fun e w' => Bad e ∧ ∃ n, w' = w.drewN n := by
  have r0 := hR.c0
  have r1 := hR.c1
  have hle : decide (n ≤ IntKind.i64.wrap ((len : Int) - (p : Int))) = false := by rw [IntKind.wrap_i64]; simp; omega
  go_enter Try.func91, Try.ntmps91
  go_wp2
  go_region_held2 (fun w' => w'.cell? ⟨b, 0, none⟩ = some (.slice ao len cap) ∧ w'.cell? ⟨b, 1, none⟩ = some (.int .i64 (p : Int))) (go_keep) (first | (go_at_call 79; refine (require_none _ _).mono ?_; rintro e w' (⟨rfl, rfl, hF⟩ | ⟨rfl, rfl⟩); rotate_left; exact ⟨rfl, rfl, 1, rfl⟩))
  all_goals exact (hF.out).elim

theorem take_one (C b p : Nat) (w : World) (va : Value) (cs : List Value) (hl : cs.length ≤ 1048576) (hp : p < cs.length) (hC : C ≤ b) (hr : Rd C w va cs) (hR : Rdr w b va p) :
    Calls Try.prog 91 #[.pointer (some ⟨b, 0, none⟩), .int .i64 1] w fun e w' => ∃ g off cap, e = .returned (.slice (some ⟨g, off, none⟩) 1 cap) ∧ w'.cell? ⟨g, off, none⟩ = some cs[p] ∧ Rdr w' b va (p + 1) ∧ w.grownBy w' (some b) := by
  refine (take_ok C b p 1 w va cs hl (by omega) (by omega) hC hr hR).mono ?_
  rintro e w' ⟨r, rfl, hr1, hR1, hg1⟩
  rw [List.drop_eq_getElem_cons hp, List.take_succ_cons, List.take_zero] at hr1
  obtain ⟨ao, cap, rfl, _, _, _, hr1⟩ := hr1
  obtain ⟨g, off, rfl, _, hc⟩ := hr1 (by simp)
  exact ⟨g, off, cap, rfl, hc 0 _ rfl, hR1, hg1⟩
end Go.Proofs.Ytpiadcjkbbgggaa
