/- What toStringS, eqStringS, markText, markStringS and heldStringS do. -/
import Derived.Test.YtlncfeakcgjioaaTexts
import Derived.Test.YtlncfeakcgjioaaStr
import Derived.Deep.RegionHeld2
namespace Go.Proofs.Ytlncfeakcgjioaa
open Go.RowKit Go.Lib
set_option linter.unusedVariables false

set_option maxHeartbeats 400000 in
theorem toStringS_any (C : Nat) (w : World) (v : Value) (ss : List ByteArray) (hl : ss.length ≤ 1048576) (hC : C ≤ w.heap.size) (hr : Rd C w v (ss.map Value.string)) :
    Calls Try.prog 35 #[v] w fun e w' => ∃ r, e = .returned r ∧ Own 9 w' w.heap.size r (ss.map Value.string) ∧ Below w.heap.size w w' := by
  obtain ⟨i0, hi, hz0, hz1, hz2⟩ := info_parts info9
  obtain ⟨ao, cap, rfl, hcap, hmax, hnil, hr⟩ := hr
  rw [List.length_map] at hr ⊢
  go_enter Try.func35, Try.ntmps35
  go_wp2_with (at_make; refine wpList_make_full _ rfl _ _ 44 rfl w.heap.size 9 i0 (.string ByteArray.empty) 1 Try.underlying44 hi hz0 hz1 _ _ _ _ ss.length rfl rfl rfl rfl (by rw [hz2]; omega) (by unfold maxLen; omega) (Nat.le_refl _) ?_)
  intro w1 hown hgrow
  have ho1 := own_of hown
  rw [toList_madeCells_one] at ho1
  have hb1 : Below w.heap.size w w1 := (Below.refl _ _).grown hgrow (Nat.le_refl _) (fun k hk => by cases hk)
  clear hown hgrow
  go_wp2
  go_loopw [4] (fun i wr => ∃ k : Nat, k ≤ ss.length ∧ i = .int .i64 k ∧ Own 9 wr w.heap.size (.slice (some ⟨w.heap.size, 0, none⟩) ss.length ss.length) ((ss.take k).map Value.string ++ (List.replicate (ss.length - k) (Value.string ByteArray.empty))) ∧ Below w.heap.size w wr) (fun i _ => ss.length - (intOf i).toNat)
  case atStart => exact ⟨0, Nat.zero_le _, rfl, ho1, hb1⟩
  case round =>
    clear ho1 hb1
    obtain ⟨k, hk, rfl, how, hbel⟩ := hrel
    by_cases hlt : k < ss.length
    · obtain ⟨g, off, rfl, hg, hc⟩ := hr (by omega)
      have c1 : wr.cell? ⟨g, off + k, none⟩ = some (.string ss[k]) := (hbel.cell (p := ⟨g, off + k, none⟩) (by show g < _; omega)).trans (hc k _ (by simp [hlt]))
      have c2 := own_cell how (k := k) (by simp; omega)
      have f1 := own_free how k
      have R := own_set how k (Value.string ss[k])
      rw [copy_step Value.string ss k hlt] at R
      have R2 : Below w.heap.size w (wr.setCell ⟨w.heap.size, k, none⟩ (Value.string ss[k])) := hbel.setCell (Nat.le_refl _) _
      clear hc hr
      go_wp2
      go_roundw
      case rel => exact ⟨k + 1, by omega, by go_num, R, R2⟩
      case measure => simp [intOf]; omega
    · go_wp2
      go_ret
      exact ⟨_, rfl, by rw [show k = ss.length by omega] at how; simpa using how, hbel⟩

set_option maxHeartbeats 400000 in
theorem eqStringS_same (C C' : Nat) (w : World) (va vb : Value) (xs : List ByteArray) (hl : xs.length ≤ 140737488355328)
    (ha : Rd C w va (xs.map Value.string)) (hb : Rd C' w vb (xs.map Value.string)) :
    Calls Try.prog 39 #[va, vb] w fun e w' => e = .returned (.bool true) ∧ ∃ n, w' = w.drewN n := by
  obtain ⟨ao, ca, rfl, _, _, _, ha⟩ := ha
  obtain ⟨bo, cb, rfl, _, _, _, hb⟩ := hb
  rw [List.length_map] at ha hb ⊢
  go_enter Try.func39, Try.ntmps39
  go_wp2
  go_loopw [5] (fun i wr => ∃ k : Nat, k ≤ xs.length ∧ i = .int .i64 k ∧ ∃ n, wr = w.drewN n) (fun i _ => xs.length - (intOf i).toNat)
  case atStart => exact ⟨0, Nat.zero_le _, rfl, 0, rfl⟩
  case round =>
    obtain ⟨k, hk, rfl, n, rfl⟩ := hrel
    by_cases hlt : k < xs.length
    · obtain ⟨g, off, rfl, _, hc⟩ := ha (by omega)
      obtain ⟨g', off', rfl, _, hc'⟩ := hb (by omega)
      have c1 := hc k (.string xs[k]) (by simp [hlt])
      have c2 := hc' k (.string xs[k]) (by simp [hlt])
      clear hc hc' ha hb
      go_wp2
      go_quiet (fail)
      go_wp2
      go_roundw
      case rel => exact ⟨k + 1, by omega, by go_num, n + nq, by simp⟩
      case measure => simp [intOf]; omega
    · go_wp2
      go_ret
      exact ⟨rfl, n, rfl⟩

/-- The decimal digits of a number, ahead of a text. -/
def digs : Nat → Nat → List UInt8 → List UInt8
  | 0, _, l => l
  | f + 1, k, l => if k = 0 then l else digs f (k / 10) (UInt8.ofNat (48 + k % 10) :: l)
/-- What markText answers. -/
def mt (k : Nat) : ByteArray := if k = 0 then ⟨#[109, 48]⟩ else ⟨(109 :: digs k k []).toArray⟩

theorem digs_zero (f : Nat) (l : List UInt8) : digs f 0 l = l := by cases f <;> simp [digs]
theorem bytes_cons (x : Int) (l : List UInt8) : ofInts [x] ++ (⟨l.toArray⟩ : ByteArray) = ⟨(UInt8.ofNat x.toNat :: l).toArray⟩ := by
  apply ByteArray.ext
  simp [ofInts]

set_option maxHeartbeats 1000000 in
set_option maxRecDepth 100000 in
theorem markText_any (k : Nat) (hk : k ≤ 140737488355328) (w : World) : Calls Try.prog 30 #[.int .i64 (k : Int)] w fun e w' => e = .returned (.string (mt k)) ∧ Below w.heap.size w w' := by
  by_cases hz : k = 0
  · subst hz
    go_enter Try.func30, Try.ntmps30
    go_wp2
    go_ret
    exact ⟨rfl, Below.refl _ _⟩
  · have hpos : (0 : Int) < (k : Int) := by omega
    go_enter Try.func30, Try.ntmps30
    go_wp2
    go_loopw [0, 3] (fun t s wr => ∃ (j f : Nat) (l : List UInt8), j ≤ f ∧ l.length + j ≤ k ∧ t = .int .i64 j ∧ s = .string ⟨l.toArray⟩ ∧ Hid (digs k k [] = digs f j l) ∧ Below w.heap.size w wr) (fun t _ _ => (intOf t).toNat)
    case atStart => exact ⟨k, k, [], Nat.le_refl _, by simp, rfl, rfl, rfl, Below.refl _ _⟩
    case round =>
      obtain ⟨j, f, l, hf, hj, rfl, rfl, H, hbel⟩ := hrel
      by_cases h0 : j = 0
      · subst h0
        have HR : Hid (mt k = (⟨#[109]⟩ : ByteArray) ++ ⟨l.toArray⟩) := by
          unfold Hid
          unfold mt
          rw [if_neg hz, H.out, digs_zero]
          apply ByteArray.ext
          simp
        go_wp2
        go_ret
        exact ⟨by rw [HR.out]; rfl, hbel⟩
      · have hst := run_string_of (own_lit wr 5 [.int .u8 (48 + (j : Int) % 10)] 1 rfl (by decide)).rd (xs := [48 + (j : Int) % 10])
        have hcat := bytes_cons (48 + (j : Int) % 10) l
        have HD : Hid (digs k k [] = digs (f - 1) (j / 10) (UInt8.ofNat (48 + j % 10) :: l)) := by
          unfold Hid
          rw [H.out]
          obtain ⟨f, rfl⟩ : ∃ f', f = f' + 1 := ⟨f - 1, by omega⟩
          rw [digs, if_neg h0, Nat.add_sub_cancel]
        have hb2 : Below w.heap.size w (wr.alloc (.cells #[.int .u8 (48 + (j : Int) % 10)] 5)) := hbel.alloc hbel.size _
        have hlen : (ofInts [48 + (j : Int) % 10]).size = 1 := rfl
        clear H
        go_wp2
        go_roundw
        case rel => exact ⟨j / 10, f - 1, UInt8.ofNat (48 + j % 10) :: l, by omega, by simp; omega, by go_num, rfl, HD, hb2⟩
        case measure => simp [intOf]; omega

/-- What is written over m texts, from q on. -/
def marksT (q m : Nat) : List ByteArray := (List.range m).map fun i => mt (q + i)
theorem marksT_cells (q m : Nat) : (marksT q m).map Value.string = (List.range m).map fun i => Value.string (mt (q + i)) := by simp [marksT]

set_option maxHeartbeats 400000 in
theorem markStringS_any (B : Nat) (w : World) (v : Value) (cs : List Value) (q : Nat) (hm : cs.length ≤ 1048576) (hq : q ≤ 70368744177664) (hB : B ≤ w.heap.size)
    (ho : Own 9 w B v cs) :
    Calls Try.prog 31 #[v, .int .i64 (q : Int)] w fun e w' => e = .returned (.int .i64 ((q + cs.length : Nat) : Int)) ∧ Own 9 w' B v ((marksT q cs.length).map Value.string) ∧ Below B w w' ∧ w.grownBy w' v.ownBlock := by
  rw [marksT_cells]
  obtain ⟨ao, cap, rfl, hsh⟩ := ho.slice
  go_enter Try.func31, Try.ntmps31
  go_wp2_with fail
  go_loopw [1, 5] (fun t i wr => ∃ k : Nat, k ≤ cs.length ∧ i = .int .i64 k ∧ t = .int .i64 ((q + k : Nat) : Int) ∧ Own 9 wr B (.slice ao cs.length cap) ((List.range k).map (fun i => Value.string (mt (q + i))) ++ cs.drop k) ∧ Below B w wr ∧ w.grownBy wr (Value.slice ao cs.length cap).ownBlock) (fun _ i _ => cs.length - (intOf i).toNat)
  case atStart => exact ⟨0, Nat.zero_le _, rfl, rfl, ho, Below.refl _ _, World.grownBy.refl _ _⟩
  case round =>
    obtain ⟨k, hk, rfl, rfl, how, hbel, hgr⟩ := hrel
    by_cases hlt : k < cs.length
    · obtain ⟨g, rfl⟩ := hsh (by omega)
      go_wp2_with fail
      rw [show ((q : Int) + (k : Int)) = ((q + k : Nat) : Int) by omega]
      refine (markText_any (q + k) (by omega) wr).mono ?_
      rintro e w1 ⟨rfl, hb1⟩
      have how1 := how.below hb1 (Nat.le_refl _)
      have c1 := own_cell how1 (k := k) (by simp; omega)
      have f1 := own_free how1 k
      have R := own_set how1 k (Value.string (mt (q + k)))
      rw [range_step (fun i => Value.string (mt (q + i))) k cs hlt] at R
      have hB1 := own_lt how1
      have R2 : Below B w (w1.setCell ⟨g, k, none⟩ (Value.string (mt (q + k)))) := (hbel.trans (hb1.mono (by have := hbel.size; omega))).setCell (by exact hB1) _
      have R3 := grownBy_trans (grownBy_trans hgr (grownBy_below hb1 (Nat.le_refl _) _)) (grownBy_set w1 g k (Value.string (mt (q + k))))
      clear how hgr
      go_wp2_with fail
      go_roundw
      case rel => exact ⟨k + 1, by omega, by go_num, by go_num, R, R2, R3⟩
      case measure => simp [intOf]; omega
    · go_wp2_with fail
      go_ret
      exact ⟨by rw [show k = cs.length by omega]; rfl, by rw [show k = cs.length by omega] at how; simpa using how, hbel, hgr⟩

set_option maxHeartbeats 400000 in
theorem heldStringS_same (C : Nat) (w : World) (va : Value) (q : Nat) (m : Nat) (hm : m ≤ 1048576) (hq : q ≤ 70368744177664) (hC : C ≤ w.heap.size)
    (ha : Rd C w va ((marksT q m).map Value.string)) :
    Calls Try.prog 32 #[va, .int .i64 (q : Int)] w fun e w' => e = .returned (.int .i64 ((q + m : Nat) : Int)) ∧ Below w.heap.size w w' := by
  rw [marksT_cells] at ha
  have ha0 := ha
  obtain ⟨ao, ca, rfl, _, _, _, ha⟩ := ha
  rw [List.length_map, List.length_range] at ha ha0 ⊢
  go_enter Try.func32, Try.ntmps32
  go_wp2_with fail
  go_loopw [1, 5] (fun t i wr => ∃ k : Nat, k ≤ m ∧ i = .int .i64 k ∧ t = .int .i64 ((q + k : Nat) : Int) ∧ Below w.heap.size w wr) (fun _ i _ => m - (intOf i).toNat)
  case atStart => exact ⟨0, Nat.zero_le _, rfl, rfl, Below.refl _ _⟩
  case round =>
    obtain ⟨k, hk, rfl, rfl, hbel⟩ := hrel
    by_cases hlt : k < m
    · obtain ⟨g, off, rfl, hg, hc⟩ := ha (by omega)
      have c1 : wr.cell? ⟨g, off + k, none⟩ = some (.string (mt (q + k))) := (hbel.cell (p := ⟨g, off + k, none⟩) (by show g < _; omega)).trans (hc k _ (by simp [hlt]))
      have hgw : g < wr.heap.size := by have := hbel.size; omega
      clear hc ha ha0
      go_wp2_with fail
      go_region_held2 (fun w' => w'.cell? ⟨g, off + k, none⟩ = some (.string (mt (q + k)))) (first | go_keep | exact (hb1.cell (p := ⟨g, off + k, none⟩) (by exact hgw)).trans c1) (first | (go_at_call 30; refine (markText_any (q + k) (by omega) _).mono ?_; rintro e w1 ⟨rfl, hb1⟩))
      have hb2 : Below w.heap.size w w1 := (hbel.drew).trans (hb1.mono hbel.size)
      go_wp2_with fail
      go_roundw
      case rel => exact ⟨k + 1, by omega, by go_num, by go_num, hb2⟩
      case measure => simp [intOf]; omega
    · go_wp2_with fail
      go_ret
      exact ⟨by rw [show k = m by omega]; rfl, hbel⟩
end Go.Proofs.Ytlncfeakcgjioaa
