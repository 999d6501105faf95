/- What the specification's l03Write does. -/
import Derived.Test.YtdbipcmfolgjgaaMultiWrImpl
import Derived.Test.YtdbipcmfolgjgaaVecCopy
import Derived.Test.YtdbipcmfolgjgaaEntriesOK
import Derived.Deep.RegionHeld3
namespace Go.Proofs.Ytdbipcmfolgjgaa
open Go.RowKit
set_option linter.unusedVariables false

/-- What l03Write answers. -/
def LwAns (xs : List Int) (c : Int) (s : ByteArray) (w : World) (e : Ending) (w' : World) : Prop :=
  (¬ ((0 ≤ c ∧ c < 16) ∧ s.size ≤ 200) ∧ e = .returned (.tuple #[.agg #[.slice none 0 0], .agg #[.int .i64 0, .int .i64 0, .string ByteArray.empty], .int .i64 4]) ∧ Below w.heap.size w w') ∨
  (((0 ≤ c ∧ c < 16) ∧ s.size ≤ 200) ∧ xs.getD c.toNat 0 = 1000000000000 ∧ e = .returned (.tuple #[.agg #[.slice none 0 0], .agg #[.int .i64 0, .int .i64 0, .string ByteArray.empty], .int .i64 11]) ∧ Below w.heap.size w w') ∨
  (((0 ≤ c ∧ c < 16) ∧ s.size ≤ 200) ∧ ¬ xs.getD c.toNat 0 = 1000000000000 ∧ ∃ g cap, e = .returned (.tuple #[.agg #[.slice (some ⟨g, 0, none⟩) 16 cap], .agg #[.int .i64 (xs.getD c.toNat 0 + 1), .int .i64 c, .string s], .int .i64 0]) ∧ Own 3 w' w.heap.size (.slice (some ⟨g, 0, none⟩) 16 cap) ((xs.set c.toNat (xs.getD c.toNat 0 + 1)).map (Value.int .i64)) ∧ Below w.heap.size w w')

set_option maxHeartbeats 4000000 in
set_option maxRecDepth 100000 in
theorem l03Write_any (C : Nat) (w : World) (v : Value) (xs : List Int) (c : Int) (s : ByteArray) (hs : s.size ≤ 9223372036854775807) (hC : C ≤ w.heap.size) (hvk : vecOK xs = true) (hv : Rd C w v (xs.map (Value.int .i64))) :
    Calls Try.prog 41 #[.agg #[v], .int .i64 c, .string s] w (LwAns xs c s w) := by
  obtain ⟨h16, hxb⟩ := vecOK_get hvk
  have hB0 : Below w.heap.size w (((w.alloc (.cells #[v] 29)).alloc (.cells #[.slice none 0 0] 29)).alloc (.cells #[.int .i64 0, .int .i64 0, .string ⟨#[]⟩] 72)) := below_then (below_then (below_alloc _ _) _) _
  have hv0 := hv
  obtain ⟨ao, cap, rfl, hcap, hmax, hnil, hrd⟩ := hv0
  have e16 : (List.map (Value.int .i64) xs).length = 16 := by simp [h16]
  rw [e16] at hv hB0 hcap hrd ⊢
  clear e16
  obtain ⟨g, off, rfl, hgC, hcell⟩ := hrd (by omega)
  by_cases hin : (0 ≤ c ∧ c < 16) ∧ s.size ≤ 200
  · have hin' := hin
    obtain ⟨hc, hs200⟩ := hin
    obtain ⟨k, rfl⟩ : ∃ k : Nat, c = (k : Int) := ⟨c.toNat, by omega⟩
    have hk : k < 16 := by omega
    have hgd : xs.getD k 0 = xs[k] := by simp [List.getD, h16, hk]
    have hxk := hxb k (by omega)
    have cK := hcell k (.int .i64 xs[k]) (by simp [h16, hk])
    have cK0 := (hB0.cell (p := ⟨g, off + k, none⟩) (by show g < w.heap.size; omega)).trans cK
    have HQ : Hid (∀ e w', LwAns xs (k : Int) s w e w' ↔ (xs[k] = 1000000000000 ∧ e = .returned (.tuple #[.agg #[.slice none 0 0], .agg #[.int .i64 0, .int .i64 0, .string ByteArray.empty], .int .i64 11]) ∧ Below w.heap.size w w') ∨ (¬ xs[k] = 1000000000000 ∧ ∃ g cap, e = .returned (.tuple #[.agg #[.slice (some ⟨g, 0, none⟩) 16 cap], .agg #[.int .i64 (xs[k] + 1), .int .i64 (k : Int), .string s], .int .i64 0]) ∧ Own 3 w' w.heap.size (.slice (some ⟨g, 0, none⟩) 16 cap) ((xs.set k (xs[k] + 1)).map (Value.int .i64)) ∧ Below w.heap.size w w')) := by
      intro e w'
      unfold LwAns
      rw [Int.toNat_natCast, hgd]
      simp only [hin', not_true_eq_false, false_and, false_or, true_and]
    have i0 : ¬ (k : Int) < 0 := by omega
    have i1 : ¬ (16 : Int) ≤ (k : Int) := by omega
    have i2 : ¬ (200 : Int) < (s.size : Int) := by omega
    have j0 : (0 : Int) ≤ (k : Int) := by omega
    have j1 : (k : Int) < 16 := by omega
    have hcp := l02Copy_any C _ _ xs (by omega : xs.length ≤ 1048576) (Nat.le_trans hC hB0.size) (hv.belowW hB0 hC)
    rw [h16] at hcp
    have hget : xs[k]? = some xs[k] := List.getElem?_eq_getElem (by omega)
    generalize xs[k] = x at *
    by_cases hx : x = 1000000000000
    · subst hx
      clear hcp
      go_enter Try.func41, Try.ntmps41
      go_wp2_with fail
      refine bodyPost_ret (v := .tuple #[.agg #[.slice none 0 0], .agg #[.int .i64 0, .int .i64 0, .string ByteArray.empty], .int .i64 11]) ?_ rfl ((HQ.out _ _).2 (.inl ⟨by first | rfl | trivial, rfl, hB0⟩))
      simp [results, Try.results41, go_sem]; rfl
    · have hxd : decide (x = 1000000000000) = false := by simp [hx]
      have hxw : IntKind.i64.wrap (x + 1) = x + 1 := by rw [IntKind.wrap_i64]; omega
      go_enter Try.func41, Try.ntmps41
      go_wp2_with fail
      refine hcp.mono ?_
      rintro e w3 ⟨a3, k3, rfl, ho3, hb3⟩
      obtain ⟨g3, qq, hq3, hbg, hlg, hc3⟩ := ho3.some (by simp [h16])
      simp only [Value.slice.injEq] at hq3
      obtain ⟨rfl, -, rfl⟩ := hq3
      have ck3 := hc3 k (.int .i64 x) (by simp [hget])
      rw [Addr.add_lit, Nat.zero_add] at ck3
      have fk3 := own_free ho3 k
      have hz3 := hb3.size
      simp only [World.size_alloc] at hz3 hbg

      clear hcp cK0 hc3
      have hT0 : (((w.alloc (.cells #[.slice (some ⟨g, off, none⟩) 16 cap] 29)).alloc (.cells #[.slice none 0 0] 29)).alloc (.cells #[.int .i64 0, .int .i64 0, .string ⟨#[]⟩] 72)).heap[w.heap.size + 1 + 1]? = some (.cells #[.int .i64 0, .int .i64 0, .string ⟨#[]⟩] 72 (0, 0)) := by
        have := heap_alloc_new ((w.alloc (.cells #[.slice (some ⟨g, off, none⟩) 16 cap] 29)).alloc (.cells #[.slice none 0 0] 29)) (.cells #[.int .i64 0, .int .i64 0, .string ⟨#[]⟩] 72)
        rw [World.size_alloc, World.size_alloc] at this
        exact this
      have hV0 : (((w.alloc (.cells #[.slice (some ⟨g, off, none⟩) 16 cap] 29)).alloc (.cells #[.slice none 0 0] 29)).alloc (.cells #[.int .i64 0, .int .i64 0, .string ⟨#[]⟩] 72)).heap[w.heap.size + 1]? = some (.cells #[.slice none 0 0] 29 (0, 0)) := by
        rw [(below_alloc _ _).block _ (by simp)]
        have := heap_alloc_new (w.alloc (.cells #[.slice (some ⟨g, off, none⟩) 16 cap] 29)) (.cells #[.slice none 0 0] 29)
        rw [World.size_alloc] at this
        exact this
      have hT3 := (hb3.block (w.heap.size + 1 + 1) (by simp)).trans hT0
      have hV3 := (hb3.block (w.heap.size + 1) (by simp)).trans hV0
      go_upto_region 7 with fail
      have hgen : ∃ w5, (w3.setCell ⟨g3, k, none⟩ (.int .i64 (x + 1))).alloc (.cells #[.slice (some ⟨g3, 0, none⟩) 16 k3] 29) = w5 := ⟨_, rfl⟩
      obtain ⟨w5, hw5⟩ := hgen
      have hbx : w5.cell? ⟨w3.heap.size, 0, none⟩ = some (.slice (some ⟨g3, 0, none⟩) 16 k3) := by
        rw [← hw5]
        have := cell_made1 (Below.refl ((w3.setCell ⟨g3, k, none⟩ (.int .i64 (x + 1))).alloc (.cells #[.slice (some ⟨g3, 0, none⟩) 16 k3] 29)).heap.size ((w3.setCell ⟨g3, k, none⟩ (.int .i64 (x + 1))).alloc (.cells #[.slice (some ⟨g3, 0, none⟩) 16 k3] 29)))
        simpa using this
      have hck : w5.cell? ⟨g3, k, none⟩ = some (.int .i64 (x + 1)) := by
        rw [← hw5]
        exact alloc_keep (World.cell?_setCell_same' w3 ⟨g3, k, none⟩ (.int .i64 (x + 1)) (by rw [ck3]; rfl)) _
      have ho5 : Own 3 w5 (w.heap.size + 1 + 1 + 1) (.slice (some ⟨g3, 0, none⟩) 16 k3) ((xs.set k (x + 1)).map (Value.int .i64)) := by
        rw [← hw5, List.map_set]
        exact World.ownsRow.alloc (own_set (ho3.mono (B' := w.heap.size + 1 + 1 + 1) (by simp)) k (.int .i64 (x + 1))) _
      have hT5 : Tr w5 (w.heap.size + 1 + 1) (.int .i64 0) (.int .i64 0) (.string ⟨#[]⟩) := by
        have hE5 : w5.heap[w.heap.size + 1 + 1]? = some (.cells #[.int .i64 0, .int .i64 0, .string ⟨#[]⟩] 72 (0, 0)) := by
          rw [← hw5]
          exact ((below_alloc _ _).block _ (by simp; omega)).trans ((heap_setCell_other w3 ⟨g3, k, none⟩ (w.heap.size + 1 + 1) _ (by show w.heap.size + 1 + 1 ≠ g3; omega)).trans hT3)
        exact ⟨⟨by simp [World.cell?, hE5], by simp [World.cell?, hE5], by simp [World.cell?, hE5]⟩, fun j => by simp [World.frozen?, hE5]⟩
      have hV5 : w5.heap[w.heap.size + 1]? = some (.cells #[.slice none 0 0] 29 (0, 0)) := by
        rw [← hw5]
        exact ((below_alloc _ _).block _ (by simp; omega)).trans ((heap_setCell_other w3 ⟨g3, k, none⟩ (w.heap.size + 1) _ (by show w.heap.size + 1 ≠ g3; omega)).trans hV3)
      have hB5 : Below w.heap.size w w5 := by
        rw [← hw5]
        exact below_then ((below_seq hB0 hb3).setCell (p := ⟨g3, k, none⟩) (by show w.heap.size ≤ g3; omega) _) _
      change Code.wp _ _ _ _ ((w3.setCell ⟨g3, k, none⟩ (.int .i64 (x + 1))).alloc (.cells #[.slice (some ⟨g3, 0, none⟩) 16 k3] 29))
      rw [hw5]
      have hz5 : w3.heap.size < w5.heap.size := cell_lt hbx
      clear hw5 ck3 fk3 hT0 hV0 hT3 hV3 ho3 hb3
      refine wp_region_held_drew (S := fun w' => w'.cell? ⟨w3.heap.size, 0, none⟩ = some (.slice (some ⟨g3, 0, none⟩) 16 k3) ∧ w'.cell? ⟨g3, k, none⟩ = some (.int .i64 (x + 1))) (by kernel_rfl) ⟨hbx, hck⟩ (fun hHeld => ?_)
      refine wpAnyH_take (i := 0) (v := (.agg #[.slice (some ⟨g3, 0, none⟩) 16 k3])) rfl (by kernel_rfl) (by kernel_rfl) (by kernel_rfl) (fun _ _ _ h => h) (Or.inl ⟨by rfl, by intro w hSw; obtain ⟨s0, s1⟩ := hSw; go_simp⟩) hHeld ?_
      simp only [List.getElem_toArray, List.getElem_cons_zero, Act.put, List.setIfInBounds_toArray, List.set_cons_zero, List.set_cons_succ]
      refine wpAnyH_take (i := 1) (v := (.pointer (some ⟨w3.heap.size, 0, none⟩))) rfl (by kernel_rfl) (by kernel_rfl) (by kernel_rfl) (fun _ _ _ h => h) (Or.inl ⟨by rfl, by intro w hSw; obtain ⟨s0, s1⟩ := hSw; go_simp⟩) hHeld ?_
      simp only [List.getElem_toArray, List.getElem_cons_succ, List.getElem_cons_zero, Act.put, List.setIfInBounds_toArray, List.set_cons_zero, List.set_cons_succ]
      refine wpAnyH_take (i := 2) (v := (.slice (some ⟨g3, 0, none⟩) 16 k3)) rfl (by kernel_rfl) (by kernel_rfl) (by kernel_rfl) (fun _ _ _ h => h) (Or.inl ⟨by rfl, by intro w hSw; obtain ⟨s0, s1⟩ := hSw; go_simp⟩) hHeld ?_
      simp only [List.getElem_toArray, List.getElem_cons_succ, List.getElem_cons_zero, Act.put, List.setIfInBounds_toArray, List.set_cons_zero, List.set_cons_succ]
      refine wpAnyH_take (i := 3) (v := (.int .i64 (k : Int))) rfl (by kernel_rfl) (by kernel_rfl) (by kernel_rfl) (fun _ _ _ h => h) (Or.inl ⟨by rfl, by intro w hSw; obtain ⟨s0, s1⟩ := hSw; go_simp⟩) hHeld ?_
      simp only [List.getElem_toArray, List.getElem_cons_succ, List.getElem_cons_zero, Act.put, List.setIfInBounds_toArray, List.set_cons_zero, List.set_cons_succ]
      refine wpAnyH_take (i := 4) (v := (.pointer (some ⟨g3, k, none⟩))) rfl (by kernel_rfl) (by kernel_rfl) (by kernel_rfl) (fun _ _ _ h => h) (Or.inl ⟨by rfl, by intro w hSw; obtain ⟨s0, s1⟩ := hSw; go_simp⟩) hHeld ?_
      simp only [List.getElem_toArray, List.getElem_cons_succ, List.getElem_cons_zero, Act.put, List.setIfInBounds_toArray, List.set_cons_zero, List.set_cons_succ]
      refine wpAnyH_take (i := 5) (v := (.int .i64 (x + 1))) rfl (by kernel_rfl) (by kernel_rfl) (by kernel_rfl) (fun _ _ _ h => h) (Or.inl ⟨by rfl, by intro w hSw; obtain ⟨s0, s1⟩ := hSw; go_simp⟩) hHeld ?_
      simp only [List.getElem_toArray, List.getElem_cons_succ, List.getElem_cons_zero, Act.put, List.setIfInBounds_toArray, List.set_cons_zero, List.set_cons_succ]
      refine wpAnyH_take (i := 6) (v := (.int .i64 (k : Int))) rfl (by kernel_rfl) (by kernel_rfl) (by kernel_rfl) (fun _ _ _ h => h) (Or.inl ⟨by rfl, by intro w hSw; obtain ⟨s0, s1⟩ := hSw; go_simp⟩) hHeld ?_
      simp only [List.getElem_toArray, List.getElem_cons_succ, List.getElem_cons_zero, Act.put, List.setIfInBounds_toArray, List.set_cons_zero, List.set_cons_succ]
      refine wpAnyH_take (i := 7) (v := (.agg #[.int .i64 (x + 1), .int .i64 (k : Int)])) rfl (by kernel_rfl) (by kernel_rfl) (by kernel_rfl) (fun _ _ _ h => h) (Or.inl ⟨by rfl, by intro w hSw; obtain ⟨s0, s1⟩ := hSw; go_simp⟩) hHeld ?_
      simp only [List.getElem_toArray, List.getElem_cons_succ, List.getElem_cons_zero, Act.put, List.setIfInBounds_toArray, List.set_cons_zero, List.set_cons_succ]
      refine wpAnyH_take (i := 8) (v := (.string s)) rfl (by kernel_rfl) (by kernel_rfl) (by kernel_rfl) (fun _ _ _ h => h) (Or.inl ⟨by rfl, by intro w hSw; obtain ⟨s0, s1⟩ := hSw; go_simp⟩) hHeld ?_
      simp only [List.getElem_toArray, List.getElem_cons_succ, List.getElem_cons_zero, Act.put, List.setIfInBounds_toArray, List.set_cons_zero, List.set_cons_succ]
      refine wpAnyH_take (i := 9) (v := (.agg #[.int .i64 (x + 1), .int .i64 (k : Int), .string s])) rfl (by kernel_rfl) (by kernel_rfl) (by kernel_rfl) (fun _ _ _ h => h) (Or.inl ⟨by rfl, by intro w hSw; obtain ⟨s0, s1⟩ := hSw; go_simp⟩) hHeld ?_
      simp only [List.getElem_toArray, List.getElem_cons_succ, List.getElem_cons_zero, Act.put, List.setIfInBounds_toArray, List.set_cons_zero, List.set_cons_succ]
      have hvc : w5.drew.cell? ⟨w.heap.size + 1, 0, none⟩ = some (.slice none 0 0) := by
        show w5.cell? _ = _
        simp [World.cell?, hV5]
      have hvf : w5.drew.frozen? ⟨w.heap.size + 1, 0, none⟩ = false := by
        show w5.frozen? _ = _
        simp [World.frozen?, hV5]
      refine wpAnyH_ready (rs := [10]) (by kernel_rfl) (by simp) ?_
      refine AllReadyH.cons rfl (fun K hK => ?_) AllReadyH.nil
      go_simp
      have hset : ∀ (z : World) (m j p q : Nat) (u y : Value), m ≠ p → z.cell? ⟨m, j, none⟩ = some y → (z.setCell ⟨p, q, none⟩ u).cell? ⟨m, j, none⟩ = some y := fun z m j p q u y hne h => by
        rw [← h]
        exact World.cell?_of_block (a := ⟨m, j, none⟩) (heap_setCell_other z ⟨p, q, none⟩ m u hne)
      refine hK.out _ _ ⟨hset _ _ _ _ _ _ _ (by omega) hHeld.1, hset _ _ _ _ _ _ _ (by omega) hHeld.2⟩ (fun hHeld1 => ?_)
      clear hK K
      have hT6 : Tr (w5.setCell ⟨w.heap.size + 1, 0, none⟩ (.slice (some ⟨g3, 0, none⟩) 16 k3)).drew (w.heap.size + 1 + 1) (.int .i64 0) (.int .i64 0) (.string ⟨#[]⟩) := ⟨⟨hset _ _ _ _ _ _ _ (by omega) hT5.1.1, hset _ _ _ _ _ _ _ (by omega) hT5.1.2.1, hset _ _ _ _ _ _ _ (by omega) hT5.1.2.2⟩, fun j => by show (w5.setCell _ _).frozen? _ = false; rw [World.frozen?_setCell]; exact hT5.2 j⟩
      have hv6 : (w5.setCell ⟨w.heap.size + 1, 0, none⟩ (.slice (some ⟨g3, 0, none⟩) 16 k3)).drew.cell? ⟨w.heap.size + 1, 0, none⟩ = some (.slice (some ⟨g3, 0, none⟩) 16 k3) := World.cell?_setCell_same' w5 ⟨w.heap.size + 1, 0, none⟩ _ (by rw [show w5.cell? ⟨w.heap.size + 1, 0, none⟩ = _ from hvc]; rfl)
      have ho6 : Own 3 (w5.setCell ⟨w.heap.size + 1, 0, none⟩ (.slice (some ⟨g3, 0, none⟩) 16 k3)).drew (w.heap.size + 1 + 1 + 1) (.slice (some ⟨g3, 0, none⟩) 16 k3) ((xs.set k (x + 1)).map (Value.int .i64)) := Own.setK ho5 0 _ (by omega)
      have hB6 : Below w.heap.size w (w5.setCell ⟨w.heap.size + 1, 0, none⟩ (.slice (some ⟨g3, 0, none⟩) 16 k3)).drew := (hB5.setCell (p := ⟨w.heap.size + 1, 0, none⟩) (by show w.heap.size ≤ w.heap.size + 1; omega) _).drew
      clear hT5 ho5 hB5 hV5 hvc hvf hbx hck
      change wpAnyH _ _ _ _ _ _ _ _ (w5.setCell ⟨w.heap.size + 1, 0, none⟩ (.slice (some ⟨g3, 0, none⟩) 16 k3)).drew
      generalize (w5.setCell ⟨w.heap.size + 1, 0, none⟩ (.slice (some ⟨g3, 0, none⟩) 16 k3)).drew = w6 at *
      obtain ⟨⟨t0, t1, t2⟩, tf⟩ := hT6
      have tf0 := tf 0
      have tf1 := tf 1
      have tf2 := tf 2
      refine wpAnyH_ready (rs := [11]) (by kernel_rfl) (by simp) ?_
      refine AllReadyH.cons rfl (fun K hK => ?_) AllReadyH.nil
      go_simp
      refine hK.out _ _ ⟨hset _ _ _ _ _ _ _ (by omega) (hset _ _ _ _ _ _ _ (by omega) (hset _ _ _ _ _ _ _ (by omega) hHeld1.1)), hset _ _ _ _ _ _ _ (by omega) (hset _ _ _ _ _ _ _ (by omega) (hset _ _ _ _ _ _ _ (by omega) hHeld1.2))⟩ (fun hHeld2 => ?_)
      clear hK K
      refine wpAnyH_take (i := 12) (v := .int .i64 0) rfl (by kernel_rfl) (by kernel_rfl) (by kernel_rfl) (fun _ _ _ h => h) (Or.inl ⟨by rfl, by intro w hSw; go_simp⟩) hHeld2 ?_
      simp only [List.getElem_toArray, List.getElem_cons_succ, List.getElem_cons_zero, Act.put, List.setIfInBounds_toArray, List.set_cons_zero, List.set_cons_succ]
      refine wpAnyH_done (by kernel_rfl) ?_ _
      have hT7 := Tr.put (show Tr w6 (w.heap.size + 1 + 1) _ _ _ from ⟨⟨t0, t1, t2⟩, tf⟩) (.int .i64 (x + 1)) (.int .i64 (k : Int)) (.string s)
      have HT7 : Hid _ := hT7.1
      have hv7 : (((w6.setCell ⟨w.heap.size + 1 + 1, 0, none⟩ (.int .i64 (x + 1))).setCell ⟨w.heap.size + 1 + 1, 1, none⟩ (.int .i64 (k : Int))).setCell ⟨w.heap.size + 1 + 1, 2, none⟩ (.string s)).cell? ⟨w.heap.size + 1, 0, none⟩ = some (.slice (some ⟨g3, 0, none⟩) 16 k3) := hset _ _ _ _ _ _ _ (by omega) (hset _ _ _ _ _ _ _ (by omega) (hset _ _ _ _ _ _ _ (by omega) hv6))
      have ho7 : Own 3 (((w6.setCell ⟨w.heap.size + 1 + 1, 0, none⟩ (.int .i64 (x + 1))).setCell ⟨w.heap.size + 1 + 1, 1, none⟩ (.int .i64 (k : Int))).setCell ⟨w.heap.size + 1 + 1, 2, none⟩ (.string s)) w.heap.size (.slice (some ⟨g3, 0, none⟩) 16 k3) ((xs.set k (x + 1)).map (Value.int .i64)) := (Own.setK (Own.setK (Own.setK ho6 0 _ (by omega)) 1 _ (by omega)) 2 _ (by omega)).mono (by omega)
      have hB7 : Below w.heap.size w (((w6.setCell ⟨w.heap.size + 1 + 1, 0, none⟩ (.int .i64 (x + 1))).setCell ⟨w.heap.size + 1 + 1, 1, none⟩ (.int .i64 (k : Int))).setCell ⟨w.heap.size + 1 + 1, 2, none⟩ (.string s)) := below_put hB6 (by omega) _ _ _
      clear hT7 ho6 hB6 hv6 t0 t1 t2 tf tf0 tf1 tf2 hHeld hHeld1 hHeld2 hset
      generalize (((w6.setCell ⟨w.heap.size + 1 + 1, 0, none⟩ (.int .i64 (x + 1))).setCell ⟨w.heap.size + 1 + 1, 1, none⟩ (.int .i64 (k : Int))).setCell ⟨w.heap.size + 1 + 1, 2, none⟩ (.string s)) = w7 at *
      obtain ⟨u0, u1, u2⟩ := HT7.out
      go_wp2_with fail
      refine bodyPost_ret (v := .tuple #[.agg #[.slice (some ⟨g3, 0, none⟩) 16 k3], .agg #[.int .i64 (x + 1), .int .i64 (k : Int), .string s], .int .i64 0]) ?_ rfl ((HQ.out _ _).2 (.inr ⟨hx, g3, k3, rfl, ho7, hB7⟩))
      simp [results, Try.results41, go_sem, hv7, u0, u1, u2]
  · have HQ : Hid (∀ e w', e = .returned (.tuple #[.agg #[.slice none 0 0], .agg #[.int .i64 0, .int .i64 0, .string ByteArray.empty], .int .i64 4]) → Below w.heap.size w w' → LwAns xs c s w e w') := fun e w' h1 h2 => .inl ⟨hin, h1, h2⟩
    by_cases h0 : c < 0
    · clear hin
      go_enter Try.func41, Try.ntmps41
      go_wp2_with fail
      refine bodyPost_ret (v := .tuple #[.agg #[.slice none 0 0], .agg #[.int .i64 0, .int .i64 0, .string ByteArray.empty], .int .i64 4]) ?_ rfl (HQ.out _ _ rfl hB0)
      simp [results, Try.results41, go_sem]; rfl
    · by_cases h1 : (16 : Int) ≤ c
      · clear hin
        go_enter Try.func41, Try.ntmps41
        go_wp2_with fail
        refine bodyPost_ret (v := .tuple #[.agg #[.slice none 0 0], .agg #[.int .i64 0, .int .i64 0, .string ByteArray.empty], .int .i64 4]) ?_ rfl (HQ.out _ _ rfl hB0)
        simp [results, Try.results41, go_sem]; rfl
      · have h2 : (200 : Int) < (s.size : Int) := by
          have : ¬ s.size ≤ 200 := fun e => hin ⟨⟨by omega, by omega⟩, e⟩
          omega
        clear hin
        go_enter Try.func41, Try.ntmps41
        go_wp2_with fail
        refine bodyPost_ret (v := .tuple #[.agg #[.slice none 0 0], .agg #[.int .i64 0, .int .i64 0, .string ByteArray.empty], .int .i64 4]) ?_ rfl (HQ.out _ _ rfl hB0)
        simp [results, Try.results41, go_sem]; rfl

end Go.Proofs.Ytdbipcmfolgjgaa
