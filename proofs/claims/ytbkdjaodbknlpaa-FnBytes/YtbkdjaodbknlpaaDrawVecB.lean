/- What the draw of VecBytes answers; and what the laws' sameTexts and sameInts say of two lists that are alike. -/
import Derived.Test.YtbkdjaodbknlpaaSrcVec2
import Derived.Test.YtbkdjaodbknlpaaTextsBase
namespace Go.Proofs.Ytbkdjaodbknlpaa
open Go.RowKit
set_option linter.unusedVariables false

set_option maxHeartbeats 2000000 in
set_option maxRecDepth 100000 in
theorem drawVecBytes_any (C : Nat) (w : World) (v : Value) (xs : List Int) (hC : C ≤ w.heap.size) (hr : Rd C w v (xs.map (Value.int .u8))) (hX : ∀ x ∈ xs, 0 ≤ x ∧ x ≤ 255) (hl : xs.length ≤ 1048576) :
    Calls Try.prog 20 #[v] w fun e w' => ∃ (g n c : Nat) (ls : List Int), e = .returned (.agg #[.slice (some ⟨g, 0, none⟩) n c]) ∧ n = ls.length ∧ ls.length ≤ 17 ∧ Own 3 w' w.heap.size (.slice (some ⟨g, 0, none⟩) n c) (ls.map (Value.int .i64)) ∧ Below w.heap.size w w' := by
  have hr1 := Rd.alloc hr (.cells #[.slice none 0 0] 41) hC
  have hs := source_any C (w.alloc (.cells #[.slice none 0 0] 41)) v xs (by rw [World.size_alloc]; omega) hr1 hX hl
  clear hr1
  obtain ⟨ao, la, ca, rfl⟩ : ∃ ao len cap, v = .slice ao len cap := by
    obtain ⟨ao, cap, rfl, _⟩ := hr
    exact ⟨_, _, _, rfl⟩
  clear hr
  go_enter Try.func20, Try.ntmps20
  go_wp2_with fail
  refine hs.mono ?_
  rintro e w1 ⟨rfl, hS, hb1⟩
  rw [World.size_alloc] at hS hb1 ⊢
  go_wp2_with fail
  refine (oddVector_any C _ _ _ hS (by omega)).mono ?_
  rintro e w2 ⟨g, n, c, ls, rfl, hn, hl2, _, ho2, hS2, hG2⟩
  have hk : w2.heap[w.heap.size]? = some (.cells #[.slice none 0 0] 41 (0, 0)) := blk_on ((hb1.block w.heap.size (by omega)).trans (heap_alloc_new w _)) hG2 (by omega)
  have c0 := cell_blk hk 0 rfl
  have f0 := free_blk hk 0
  have hz1 := hb1.size
  rw [World.size_alloc] at hz1
  have q0 : (w2.setCell ⟨w.heap.size, 0, none⟩ (.slice (some ⟨g, 0, none⟩) n c)).cell? ⟨w.heap.size, 0, none⟩ = some (.slice (some ⟨g, 0, none⟩) n c) := World.cell?_setCell_same _ _ _ c0
  have hlt := own_lt ho2
  have ho3 := own_beside (m := w.heap.size) (k := 0) ho2 (by omega) (.slice (some ⟨g, 0, none⟩) n c)
  have hB : Below w.heap.size w w2 := (below_seq (below_alloc w (.cells #[.slice none 0 0] 41)) (by rw [World.size_alloc]; exact hb1)).grown hG2 (by omega) (fun k hk => by cases hk; omega)
  have hB2 := hB.setCell (p := ⟨w.heap.size, 0, none⟩) (Nat.le_refl _) (.slice (some ⟨g, 0, none⟩) n c)
  have HN : Hid _ := hn
  clear hS hS2 hG2 hb1 hB ho2 hn
  go_wp2_with fail
  refine bodyPost_ret (v := .agg #[.slice (some ⟨g, 0, none⟩) n c]) ?_ rfl ⟨_, _, _, ls, rfl, HN.out, hl2, ho3.mono (by omega), hB2⟩
  simp [results, Try.results20, go_sem, q0]

set_option maxHeartbeats 1000000 in
set_option maxRecDepth 100000 in
theorem sameInts_same (C C' : Nat) (w : World) (va vb : Value) (xs : List Int) (hl : xs.length ≤ 140737488355328) (ha : Rd C w va (xs.map (Value.int .i64))) (hb : Rd C' w vb (xs.map (Value.int .i64))) :
    Calls Try.prog 19 #[va, vb] w fun e w' => e = .returned (.bool true) ∧ ∃ n, w' = w.drewN n := by
  obtain ⟨ao, ca, rfl, _, _, _, ha⟩ := ha
  obtain ⟨bo, cb, rfl, _, _, _, hb⟩ := hb
  simp only [List.length_map] at ha hb ⊢
  go_enter Try.func19, Try.ntmps19
  go_wp2_with fail
  go_loopw [5] (fun i wr => ∃ k : Nat, k ≤ xs.length ∧ i = .int .i64 k ∧ ∃ n, wr = w.drewN n) (fun i _ => xs.length - (intOf i).toNat)
  case atStart => exact ⟨0, Nat.zero_le _, rfl, 0, rfl⟩
  case round =>
    obtain ⟨k, hk, rfl, n, rfl⟩ := hrel
    by_cases hlt : k < xs.length
    · obtain ⟨g, off, rfl, _, hc⟩ := ha (by omega)
      obtain ⟨g', off', rfl, _, hc'⟩ := hb (by omega)
      have c1 : w.cell? ⟨g, off + k, none⟩ = some (.int .i64 xs[k]) := hc k _ (by simp [hlt])
      have c2 : w.cell? ⟨g', off' + k, none⟩ = some (.int .i64 xs[k]) := hc' k _ (by simp [hlt])
      generalize xs[k] = x at c1 c2
      have q1 : (k : Int) < (xs.length : Int) := by omega
      clear hc hc' ha hb
      go_wp2_with fail
      go_quiet (fail)
      go_wp2_with fail
      go_roundw
      case rel => exact ⟨k + 1, by omega, by go_num, n + nq, by simp⟩
      case measure => simp [intOf]; omega
    · have q1 : ¬ (k : Int) < (xs.length : Int) := by omega
      go_wp2_with fail
      go_ret
      exact ⟨rfl, n, rfl⟩

set_option maxHeartbeats 1000000 in
set_option maxRecDepth 100000 in
theorem sameTexts_same (C C' : Nat) (w : World) (va vb : Value) (xs : List ByteArray) (hl : xs.length ≤ 140737488355328) (ha : Rd C w va (xs.map Value.string)) (hb : Rd C' w vb (xs.map Value.string)) :
    Calls Try.prog 14 #[va, vb] w fun e w' => e = .returned (.bool true) ∧ ∃ n, w' = w.drewN n := by
  obtain ⟨ao, ca, rfl, _, _, _, ha⟩ := ha
  obtain ⟨bo, cb, rfl, _, _, _, hb⟩ := hb
  simp only [List.length_map] at ha hb ⊢
  go_enter Try.func14, Try.ntmps14
  go_wp2_with fail
  go_loopw [5] (fun i wr => ∃ k : Nat, k ≤ xs.length ∧ i = .int .i64 k ∧ ∃ n, wr = w.drewN n) (fun i _ => xs.length - (intOf i).toNat)
  case atStart => exact ⟨0, Nat.zero_le _, rfl, 0, rfl⟩
  case round =>
    obtain ⟨k, hk, rfl, n, rfl⟩ := hrel
    by_cases hlt : k < xs.length
    · obtain ⟨g, off, rfl, _, hc⟩ := ha (by omega)
      obtain ⟨g', off', rfl, _, hc'⟩ := hb (by omega)
      have c1 : w.cell? ⟨g, off + k, none⟩ = some (.string xs[k]) := hc k _ (by simp [hlt])
      have c2 : w.cell? ⟨g', off' + k, none⟩ = some (.string xs[k]) := hc' k _ (by simp [hlt])
      generalize xs[k] = x at c1 c2
      have q1 : (k : Int) < (xs.length : Int) := by omega
      clear hc hc' ha hb
      go_wp2_with fail
      go_quiet (fail)
      go_wp2_with fail
      go_roundw
      case rel => exact ⟨k + 1, by omega, by go_num, n + nq, by simp⟩
      case measure => simp [intOf]; omega
    · have q1 : ¬ (k : Int) < (xs.length : Int) := by omega
      go_wp2_with fail
      go_ret
      exact ⟨rfl, n, rfl⟩

end Go.Proofs.Ytbkdjaodbknlpaa
