/- What toByteS does: a new row with the same bytes. -/
import Derived.Test.YtnomplfnblmciaaInfo
namespace Go.Proofs.Ytnomplfnblmciaa
open Go.RowKit
set_option linter.unusedVariables false

set_option maxHeartbeats 400000 in
theorem toByteS_any (C : Nat) (w : World) (v : Value) (xs : List Int) (hl : xs.length ≤ 1048576) (hC : C ≤ w.heap.size) (hr : Rd C w v (xs.map (Value.int .u8))) :
    Calls Try.prog 12 #[v] w fun e w' => ∃ r, e = .returned r ∧ Own 5 w' w.heap.size r (xs.map (Value.int .u8)) ∧ Below w.heap.size w w' := by
  obtain ⟨i0, hi, hz0, hz1, hz2⟩ := info_parts info5
  obtain ⟨ao, cap, rfl, hcap, hmax, hnil, hr⟩ := hr
  rw [List.length_map] at hr ⊢
  go_enter Try.func12, Try.ntmps12
  go_wp2_with (at_make; refine wpList_make_full _ rfl _ _ 22 rfl w.heap.size 5 i0 (.int .u8 0) 1 Try.underlying22 hi hz0 hz1 _ _ _ _ xs.length rfl rfl rfl rfl (by rw [hz2]; omega) (by unfold maxLen; omega) (Nat.le_refl _) ?_)
  intro w1 hown hgrow
  have ho1 := own_of hown
  rw [toList_madeCells_one] at ho1
  have hb1 : Below w.heap.size w w1 := (Below.refl _ _).grown hgrow (Nat.le_refl _) (fun k hk => by cases hk)
  clear hown hgrow
  go_wp2
  go_loopw [4] (fun i wr => ∃ k : Nat, k ≤ xs.length ∧ i = .int .i64 k ∧ Own 5 wr w.heap.size (.slice (some ⟨w.heap.size, 0, none⟩) xs.length xs.length) ((xs.take k).map (Value.int .u8) ++ (List.replicate (xs.length - k) (Value.int .u8 0))) ∧ Below w.heap.size w wr) (fun i _ => xs.length - (intOf i).toNat)
  case atStart => exact ⟨0, Nat.zero_le _, rfl, ho1, hb1⟩
  case round =>
    clear ho1 hb1
    obtain ⟨k, hk, rfl, how, hbel⟩ := hrel
    by_cases hlt : k < xs.length
    · obtain ⟨g, off, rfl, hg, hc⟩ := hr (by omega)
      have c1 : wr.cell? ⟨g, off + k, none⟩ = some (.int .u8 xs[k]) := (hbel.cell (p := ⟨g, off + k, none⟩) (by show g < _; omega)).trans (hc k _ (by simp [hlt]))
      have c2 := own_cell how (k := k) (by simp; omega)
      have f1 := own_free how k
      have R := own_set how k (Value.int .u8 xs[k])
      rw [copy_step (Value.int .u8) xs k hlt] at R
      have R2 : Below w.heap.size w (wr.setCell ⟨w.heap.size, k, none⟩ (Value.int .u8 xs[k])) := hbel.setCell (Nat.le_refl _) _
      clear hc hr
      go_wp2
      go_roundw
      case rel => exact ⟨k + 1, by omega, by go_num, R, R2⟩
      case measure => simp [intOf]; omega
    · go_wp2
      go_ret
      exact ⟨_, rfl, by rw [show k = xs.length by omega] at how; simpa using how, hbel⟩
end Go.Proofs.Ytnomplfnblmciaa
