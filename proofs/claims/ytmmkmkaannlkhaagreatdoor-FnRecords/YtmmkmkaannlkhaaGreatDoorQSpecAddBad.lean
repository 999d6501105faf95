/- The specification's LogAdd: where it refuses at once (too many; a log that is not valid; an operation that is not valid). -/
import Derived.Test.YtmmkmkaannlkhaaGreatDoorQLogOKSpec
import Derived.Test.YtmmkmkaannlkhaaGreatDoorQOpNumsToRdCut
import Derived.Test.YtmmkmkaannlkhaaGreatDoorQGrowOpsToAddFind
namespace Go.Proofs.YtmmkmkaannlkhaaGreatDoor
open Go.RowKit
set_option linter.unusedVariables false

theorem rdO_empty (w0 w : World) (h : w0.heap.size < w.heap.size) : RdO w.heap.size w (.slice (some ⟨w0.heap.size, 0, none⟩) 0 0) [] :=
  ⟨⟨_, 0, rfl, Nat.le_refl _, by unfold maxLen; omega, fun e => (by cases e), fun hp => absurd hp (by simp)⟩, fun x hx => absurd hx (by simp)⟩

set_option maxHeartbeats 2000000 in
set_option maxRecDepth 100000 in
theorem specAdd_long (C : Nat) (w : World) (v vm : Value) (L M : List Ov) (hC : C ≤ w.heap.size) (hr : RdO C w v L) (hrm : RdO C w vm M) (hlong : 1024 < M.length) :
    Calls Tryz.prog 45 #[v, vm] w fun e w' => ∃ r, e = .returned (.tuple #[r, r, .int .i64 2]) ∧ RdO w'.heap.size w' r [] ∧ Below w.heap.size w w' := by
  obtain ⟨ao, cap, rfl⟩ : ∃ ao cap, v = .slice ao L.length cap := by obtain ⟨⟨ao, cap, h, _⟩, _⟩ := hr; exact ⟨_, _, h⟩
  obtain ⟨am, cam, rfl⟩ : ∃ ao cap, vm = .slice ao M.length cap := by obtain ⟨⟨ao, cap, h, _⟩, _⟩ := hrm; exact ⟨_, _, h⟩
  have hi : (1024 : Int) < (M.length : Int) := by omega
  have hE := rdO_empty w (w.alloc (.cells #[] 29)) (by rw [World.size_alloc]; omega)
  have hB : Below w.heap.size w (w.alloc (.cells #[] 29)) := below_alloc _ _
  clear hr hrm
  go_enter Tryz.func45, Tryz.ntmps45
  go_wp2_with fail
  go_ret3
  exact ⟨_, rfl, hE, hB⟩

set_option maxHeartbeats 2000000 in
set_option maxRecDepth 100000 in
theorem specAdd_log (C : Nat) (w : World) (v vm : Value) (L M : List Ov) (hC : C ≤ w.heap.size) (hr : RdO C w v L) (hrm : RdO C w vm M) (hlong : ¬ 1024 < M.length) (hlog : logI L = false) :
    Calls Tryz.prog 45 #[v, vm] w fun e w' => ∃ r, e = .returned (.tuple #[r, r, .int .i64 1]) ∧ RdO w'.heap.size w' r [] ∧ Below w.heap.size w w' := by
  obtain ⟨am, cam, rfl⟩ : ∃ ao cap, vm = .slice ao M.length cap := by obtain ⟨⟨ao, cap, h, _⟩, _⟩ := hrm; exact ⟨_, _, h⟩
  have hi : ¬ (1024 : Int) < (M.length : Int) := by omega
  have hB : Below w.heap.size w (w.alloc (.cells #[] 29)) := below_alloc _ _
  have hLK := specLogOK_any C (w.alloc (.cells #[] 29)) v L (by have := hB.size; omega) (hr.below (hB.mono hC))
  rw [hlog] at hLK
  obtain ⟨ao, cap, rfl⟩ : ∃ ao cap, v = .slice ao L.length cap := by obtain ⟨⟨ao, cap, h, _⟩, _⟩ := hr; exact ⟨_, _, h⟩
  clear hr hrm
  go_enter Tryz.func45, Tryz.ntmps45
  go_wp2_with (first | (go_at_call 67; refine hLK.mono ?_; rintro e w1 ⟨rfl, hb1⟩; have hE := rdO_empty w w1 (by have := hb1.size; rw [World.size_alloc] at this; omega); have hB1 := below_seq hB hb1))
  go_ret3
  exact ⟨_, rfl, hE, hB1⟩

set_option maxHeartbeats 4000000 in
set_option maxRecDepth 100000 in
theorem specAdd_op (C : Nat) (w : World) (v vm : Value) (L M : List Ov) (hC : C ≤ w.heap.size) (hr : RdO C w v L) (hrm : RdO C w vm M) (hlong : ¬ 1024 < M.length) (hlog : logI L = true) (p : Nat) (hp : p < M.length) (hbad : (ovAt M p).ok = false) (HGD : Hid (∀ q, q < p → (ovAt M q).ok = true)) :
    Calls Tryz.prog 45 #[v, vm] w fun e w' => ∃ r, e = .returned (.tuple #[r, r, .int .i64 1]) ∧ RdO w'.heap.size w' r [] ∧ Below w.heap.size w w' := by
  have hi : ¬ (1024 : Int) < (M.length : Int) := by omega
  have hB : Below w.heap.size w (w.alloc (.cells #[] 29)) := below_alloc _ _
  have hLK := specLogOK_any C (w.alloc (.cells #[] 29)) v L (by have := hB.size; omega) (hr.below (hB.mono hC))
  rw [hlog] at hLK
  obtain ⟨ao, cap, rfl⟩ : ∃ ao cap, v = .slice ao L.length cap := by obtain ⟨⟨ao, cap, h, _⟩, _⟩ := hr; exact ⟨_, _, h⟩
  obtain ⟨⟨am, cam, rfl, hcap, hmax, hnil, hrow⟩, hdv⟩ := hrm
  obtain ⟨g, off, rfl, hg, hcs⟩ := hrow (by omega)
  clear hr hrow
  go_enter Tryz.func45, Tryz.ntmps45
  go_wp2_with (first | (go_at_call 67; refine hLK.mono ?_; rintro e w1 ⟨rfl, hb1⟩; have hsz1 : w.heap.size < w1.heap.size := (by have := hb1.size; rw [World.size_alloc] at this; omega); have hB1 := below_seq hB hb1))
  clear hLK hB hb1
  go_loopw [8] (fun ti wr => ∃ (i : Nat), i ≤ p ∧ ti = .int .i64 (i : Int) ∧ w.heap.size < wr.heap.size ∧ Below w.heap.size w wr) (fun ti _ => p + 1 - (intOf ti).toNat)
  case atStart => exact ⟨0, Nat.zero_le _, rfl, hsz1, hB1⟩
  case round =>
    obtain ⟨i, hip, rfl, hsz, hBw⟩ := hrel
    clear hB1 hsz1
    have hlt : i < M.length := by omega
    have hki : (i : Int) < (M.length : Int) := by omega
    have hx := (hcs i hlt).below (hBw.mono hC) hg
    have hxd := (hdv _ (ovAt_mem hlt)).below (hBw.mono hC)
    have hOK := specOpOK_any C (ovAt M i).a (ovAt M i).s (ovAt M i).t (ovAt M i).k (ovAt M i).o (ovAt M i).n (ovAt M i).u (ovAt M i).pt (ovAt M i).pa (ovAt M i).dv (ovAt M i).ky (ovAt M i).tx (ovAt M i).ds wr (by omega) hxd
    change Calls _ _ _ _ (fun e w' => e = .returned (.bool (ovAt M i).ok) ∧ Below wr.heap.size wr w') at hOK
    obtain ⟨c0, c1, c2, c3, c4, c5, c6, c7, c8, c9, c10, c11⟩ := hx
    by_cases e : i = p
    · rw [e, hbad, ← e] at hOK
      generalize ovAt M i = x at *
      obtain ⟨xa, xs, xt, xdv, xk, xo, xn, xu, xpt, xpa, xky, xtx, xds⟩ := x
      simp only at c0 c1 c2 c3 c4 c5 c6 c7 c8 c9 c10 c11 hOK
      clear hcs hxd e
      go_wp2_with (first | (go_at_call 12; refine hOK.mono ?_; clear c0 c1 c2 c3 c4 c5 c6 c7 c8 c9 c10 c11; rintro e w2 ⟨rfl, hb2⟩; have hs2 := hb2.size; have hE := rdO_empty w w2 (by omega); have hB2 := below_seq hBw hb2))
      go_ret3
      exact ⟨_, rfl, hE, hB2⟩
    · have hip2 : i < p := by omega
      rw [HGD.out i hip2] at hOK
      generalize ovAt M i = x at *
      obtain ⟨xa, xs, xt, xdv, xk, xo, xn, xu, xpt, xpa, xky, xtx, xds⟩ := x
      simp only at c0 c1 c2 c3 c4 c5 c6 c7 c8 c9 c10 c11 hOK
      clear hcs hxd e
      go_wp2_with (first | (go_at_call 12; refine hOK.mono ?_; clear c0 c1 c2 c3 c4 c5 c6 c7 c8 c9 c10 c11; rintro e w2 ⟨rfl, hb2⟩; have hs2 := hb2.size; have hB2 := below_seq hBw hb2))
      go_roundw
      case rel => exact ⟨i + 1, by omega, by go_num, by omega, hB2⟩
      case measure => simp [intOf]; omega
end Go.Proofs.YtmmkmkaannlkhaaGreatDoor
