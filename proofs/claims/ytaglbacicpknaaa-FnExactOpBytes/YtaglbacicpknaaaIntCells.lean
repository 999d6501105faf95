/- What toIntS, eqIntS, markIntS and heldIntS do. -/
import Derived.Test.YtaglbacicpknaaaInfo
namespace Go.Proofs.Ytaglbacicpknaaa
open Go.RowKit
set_option linter.unusedVariables false

theorem info3 : (Try.prog.info? 3).map (fun i => (i.zero, i.size, i.bytes)) = some (some (.int .i64 0), 1, 8) := by kernel_rfl
/-- What is written over m numbers, from q on. -/
def marksI (q m : Nat) : List Int := (List.range m).map fun i => ((q + i : Nat) : Int)
theorem marksI_len (q m : Nat) : (marksI q m).length = m := by simp [marksI]
theorem marksI_get {q m k : Nat} (h : k < m) : (marksI q m)[k]? = some ((q + k : Nat) : Int) := by simp [marksI, h]
theorem markI_step (q k : Nat) (cs : List Value) (h : k < cs.length) : ((marksI q k).map (Value.int .i64) ++ cs.drop k).set k (Value.int .i64 ((q + k : Nat) : Int)) = (marksI q (k + 1)).map (Value.int .i64) ++ cs.drop (k + 1) := by
  have e : ∀ m, (marksI q m).map (Value.int .i64) = (List.range m).map (fun i => Value.int .i64 ((q + i : Nat) : Int)) := fun m => by simp [marksI]
  rw [e, e]
  exact range_step (fun i => Value.int .i64 ((q + i : Nat) : Int)) k cs h

set_option maxHeartbeats 400000 in
theorem eqIntS_same (C C' : Nat) (w : World) (va vb : Value) (xs : List Int) (hl : xs.length ≤ 140737488355328)
    (ha : Rd C w va (xs.map (Value.int .i64))) (hb : Rd C' w vb (xs.map (Value.int .i64))) :
    Calls Try.prog 44 #[va, vb] w fun e w' => e = .returned (.bool true) ∧ ∃ n, w' = w.drewN n := by
  obtain ⟨ao, ca, rfl, _, _, _, ha⟩ := ha
  obtain ⟨bo, cb, rfl, _, _, _, hb⟩ := hb
  rw [List.length_map] at ha hb ⊢
  go_enter Try.func44, Try.ntmps44
  go_wp2
  go_loopw [5] (fun i wr => ∃ k : Nat, k ≤ xs.length ∧ i = .int .i64 k ∧ ∃ n, wr = w.drewN n) (fun i _ => xs.length - (intOf i).toNat)
  case atStart => exact ⟨0, Nat.zero_le _, rfl, 0, rfl⟩
  case round =>
    obtain ⟨k, hk, rfl, n, rfl⟩ := hrel
    by_cases hlt : k < xs.length
    · obtain ⟨g, off, rfl, _, hc⟩ := ha (by omega)
      obtain ⟨g', off', rfl, _, hc'⟩ := hb (by omega)
      have c1 := hc k (.int .i64 xs[k]) (by simp [hlt])
      have c2 := hc' k (.int .i64 xs[k]) (by simp [hlt])
      clear hc hc' ha hb
      go_wp2
      go_quiet (fail)
      go_wp2
      go_roundw
      case rel => exact ⟨k + 1, by omega, by go_num, _, rfl⟩
      case measure => simp [intOf]; omega
    · go_wp2
      go_ret
      exact ⟨rfl, n, rfl⟩

set_option maxHeartbeats 400000 in
theorem markIntS_any {e : TypeId} (B : Nat) (w : World) (v : Value) (cs : List Value) (q : Nat) (hm : cs.length ≤ 140737488355328) (hq : q ≤ 140737488355328)
    (ho : Own e w B v cs) :
    Calls Try.prog 45 #[v, .int .i64 (q : Int)] w fun e0 w' => e0 = .returned (.int .i64 ((q + cs.length : Nat) : Int)) ∧ Own e w' B v ((marksI q cs.length).map (Value.int .i64)) ∧ Below B w w' ∧ w.grownBy w' v.ownBlock := by
  obtain ⟨ao, cap, rfl, hsh⟩ := ho.slice
  go_enter Try.func45, Try.ntmps45
  go_wp2
  go_loopw [1, 5] (fun t i wr => ∃ k : Nat, k ≤ cs.length ∧ i = .int .i64 k ∧ t = .int .i64 ((q + k : Nat) : Int) ∧ Own e wr B (.slice ao cs.length cap) ((marksI q k).map (Value.int .i64) ++ cs.drop k) ∧ Below B w wr ∧ w.grownBy wr (Value.slice ao cs.length cap).ownBlock) (fun _ i _ => cs.length - (intOf i).toNat)
  case atStart => exact ⟨0, Nat.zero_le _, rfl, rfl, ho, Below.refl _ _, World.grownBy.refl _ _⟩
  case round =>
    obtain ⟨k, hk, rfl, rfl, how, hbel, hgr⟩ := hrel
    by_cases hlt : k < cs.length
    · obtain ⟨g, rfl⟩ := hsh (by omega)
      have c1 := own_cell how (k := k) (by simp [marksI_len]; omega)
      have f1 := own_free how k
      have R := own_set how k (Value.int .i64 ((q + k : Nat) : Int))
      rw [markI_step q k cs hlt] at R
      have hB := own_lt how
      have R2 : Below B w (wr.setCell ⟨g, k, none⟩ (Value.int .i64 ((q + k : Nat) : Int))) := hbel.setCell (by exact hB) _
      have R3 := grownBy_trans hgr (grownBy_set wr g k (Value.int .i64 ((q + k : Nat) : Int)))
      clear hgr
      go_wp2
      go_roundw
      case rel => exact ⟨k + 1, by omega, by go_num, by go_num, R, R2, R3⟩
      case measure => simp [intOf]; omega
    · go_wp2
      go_ret
      exact ⟨by rw [show k = cs.length by omega]; rfl, by rw [show k = cs.length by omega] at how; simpa using how, hbel, hgr⟩

set_option maxHeartbeats 400000 in
theorem toIntS_any (C : Nat) (w : World) (v : Value) (xs : List Int) (hl : xs.length ≤ 1048576) (hC : C ≤ w.heap.size) (hr : Rd C w v (xs.map (Value.int .i64))) :
    Calls Try.prog 33 #[v] w fun e w' => ∃ r, e = .returned r ∧ Own 3 w' w.heap.size r (xs.map (Value.int .i64)) ∧ Below w.heap.size w w' := by
  obtain ⟨i0, hi, hz0, hz1, hz2⟩ := info_parts info3
  obtain ⟨ao, cap, rfl, hcap, hmax, hnil, hr⟩ := hr
  rw [List.length_map] at hr ⊢
  go_enter Try.func33, Try.ntmps33
  go_wp2_with (at_make; refine wpList_make_full _ rfl _ _ 22 rfl w.heap.size 3 i0 (.int .i64 0) 1 Try.underlying22 hi hz0 hz1 _ _ _ _ xs.length rfl rfl rfl rfl (by rw [hz2]; omega) (by unfold maxLen; omega) (Nat.le_refl _) ?_)
  intro w1 hown hgrow
  have ho1 := own_of hown
  rw [toList_madeCells_one] at ho1
  have hb1 : Below w.heap.size w w1 := (Below.refl _ _).grown hgrow (Nat.le_refl _) (fun k hk => by cases hk)
  clear hown hgrow
  go_wp2
  go_loopw [4] (fun i wr => ∃ k : Nat, k ≤ xs.length ∧ i = .int .i64 k ∧ Own 3 wr w.heap.size (.slice (some ⟨w.heap.size, 0, none⟩) xs.length xs.length) ((xs.take k).map (Value.int .i64) ++ (List.replicate (xs.length - k) (Value.int .i64 0))) ∧ Below w.heap.size w wr) (fun i _ => xs.length - (intOf i).toNat)
  case atStart => exact ⟨0, Nat.zero_le _, rfl, ho1, hb1⟩
  case round =>
    clear ho1 hb1
    obtain ⟨k, hk, rfl, how, hbel⟩ := hrel
    by_cases hlt : k < xs.length
    · obtain ⟨g, off, rfl, hg, hc⟩ := hr (by omega)
      have c1 : wr.cell? ⟨g, off + k, none⟩ = some (.int .i64 xs[k]) := (hbel.cell (p := ⟨g, off + k, none⟩) (by show g < _; omega)).trans (hc k _ (by simp [hlt]))
      have c2 := own_cell how (k := k) (by simp; omega)
      have f1 := own_free how k
      have R := own_set how k (Value.int .i64 xs[k])
      rw [copy_step (Value.int .i64) xs k hlt] at R
      have R2 : Below w.heap.size w (wr.setCell ⟨w.heap.size, k, none⟩ (Value.int .i64 xs[k])) := hbel.setCell (Nat.le_refl _) _
      clear hc hr
      go_wp2
      go_roundw
      case rel => exact ⟨k + 1, by omega, by go_num, R, R2⟩
      case measure => simp [intOf]; omega
    · go_wp2
      go_ret
      exact ⟨_, rfl, by rw [show k = xs.length by omega] at how; simpa using how, hbel⟩
end Go.Proofs.Ytaglbacicpknaaa
