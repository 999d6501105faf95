/- Entries: their stamps and texts, and whether one is valid; a map of entries that are joined: what saw and put do. What the code's greater answers of two entries. -/
import Derived.Deep.RegionHeld2
import Derived.Test.YtfnlnigeaioocaaGreatQTakeKit
import Derived.Test.YtfnlnigeaioocaaGreatQWordOKsToRegGreater
import Derived.Test.YtfnlnigeaioocaaGreatQMapBaseToStKey
import Derived.Test.YtfnlnigeaioocaaGreatQVecArrToVecJoinSpec
import Derived.Test.YtfnlnigeaioocaaGreatQStampLessWalkToStampNextEq
namespace Go.Proofs.YtfnlnigeaioocaaGreat
open Go.RowKit
set_option linter.unusedVariables false

set_option maxHeartbeats 400000 in
theorem entStamp_any (t a : Int) (s : ByteArray) (w : World) :
    Calls Tryz.prog 127 #[.agg #[.int .i64 t, .int .i64 a, .string s]] w fun e w' => e = .returned (.agg #[.int .i64 t, .int .i64 a]) ∧ Below w.heap.size w w' := by
  go_enter Tryz.func127, Tryz.ntmps127
  go_wp2_with fail
  exact bodyPost_ret (v := .agg #[.int .i64 t, .int .i64 a]) (by simp [results, Tryz.results127, go_sem]) rfl ⟨rfl, below_then (below_alloc _ _) _⟩

set_option maxHeartbeats 400000 in
theorem entText_any (t a : Int) (s : ByteArray) (w : World) :
    Calls Tryz.prog 128 #[.agg #[.int .i64 t, .int .i64 a, .string s]] w fun e w' => e = .returned (.string s) ∧ Below w.heap.size w w' := by
  go_enter Tryz.func128, Tryz.ntmps128
  go_wp2_with fail
  go_ret
  exact ⟨rfl, below_alloc _ _⟩

set_option maxHeartbeats 1000000 in
set_option maxRecDepth 100000 in
theorem entOK_any (t a : Int) (s : ByteArray) (w : World) :
    Calls Tryz.prog 48 #[.agg #[.int .i64 t, .int .i64 a, .string s]] w fun e w' => e = .returned (.bool (stOK t a && decide (s.size ≤ 200))) ∧ Below w.heap.size w w' := by
  cases ho : stOK t a with
  | true =>
    have hO := fun w => ho ▸ implStampOK_any t a w
    clear ho
    go_enter Tryz.func48, Tryz.ntmps48
    go_wp2_with ((first | (go_at_call 127; refine (entStamp_any t a s _).mono ?_; rintro e w1 ⟨rfl, hB⟩) | (go_at_call 75; refine (hO _).mono ?_; rintro e w2 ⟨rfl, hb2⟩; replace hB := below_seq hB hb2; obtain ⟨c0, c1, c2⟩ := three_cells hB) | (go_at_call 128; refine (entText_any t a s _).mono ?_; clear c0 c1 c2; rintro e w3 ⟨rfl, hb3⟩; replace hB := below_seq hB hb3) | (go_at_call 15; refine (isWord_any s _).mono ?_; rintro e w4 ⟨rfl, hw⟩; obtain rfl := hw.symm)))
    go_ret
    exact ⟨by simp, below_seq (below_alloc _ _) hB⟩
  | false =>
    have hO := fun w => ho ▸ implStampOK_any t a w
    clear ho
    go_enter Tryz.func48, Tryz.ntmps48
    go_wp2_with ((first | (go_at_call 127; refine (entStamp_any t a s _).mono ?_; rintro e w1 ⟨rfl, hB⟩) | (go_at_call 75; refine (hO _).mono ?_; rintro e w2 ⟨rfl, hb2⟩; replace hB := below_seq hB hb2)))
    go_ret
    exact ⟨by simp, below_seq (below_alloc _ _) hB⟩

/-- The block n holds a map of entries that are joined, and can be written: sixteen counts, and where the map lies. -/
def Jm (w : World) (n : Nat) (X : List Int) (b : Nat) : Prop := w.rangeAt n 0 (arrC X ++ [Value.map (some b)]) ∧ w.there n 0 17
theorem some_lt {w : World} {a : Addr} (h : (w.cell? a).isSome = true) : a.block < w.heap.size := by
  obtain ⟨v, hv⟩ := Option.isSome_iff_exists.1 h
  exact cell_lt hv
/-- Cells that can be written, behind what leaves them as they were. -/
theorem there_on {w w' : World} {b o n : Nat} (h : w.there b o n) (hb : Below w.heap.size w w') (hl : b < w.heap.size) : w'.there b o n := fun j hj => by
  rw [hb.cell (p := ⟨b, o + j, none⟩) hl, hb.frozen (p := ⟨b, o + j, none⟩) hl]
  exact h j hj
theorem there_grown {w w' : World} {b o n : Nat} {row : Option Nat} (h : w.there b o n) (hg : w.grownBy w' row) (hl : b < w.heap.size) (hr : row ≠ some b) : w'.there b o n := fun j hj => by
  have e : w'.heap[b]? = w.heap[b]? := hg.block b hl (fun e => hr e.symm)
  have h1 := h j hj
  unfold World.cell? World.frozen? at h1 ⊢
  rw [show w'.heap[(⟨b, o + j, none⟩ : Addr).block]? = w.heap[(⟨b, o + j, none⟩ : Addr).block]? from e]
  exact h1
theorem Jm.lt {w : World} {n b : Nat} {X : List Int} (h : Jm w n X b) : n < w.heap.size := some_lt (h.2 0 (by omega)).1
theorem Jm.on {w w' : World} {n b : Nat} {X : List Int} (h : Jm w n X b) (hb : Below w.heap.size w w') : Jm w' n X b := ⟨range_below hb h.lt h.1, there_on h.2 hb h.lt⟩
theorem Jm.kept {w w' : World} {n b : Nat} {X : List Int} {row : Option Nat} (h : Jm w n X b) (hg : w.grownBy w' row) (hn : row ≠ some n) : Jm w' n X b :=
  ⟨fun j v hj => hg.cell (a := ⟨n, 0 + j, none⟩) (h.1 j v hj) (fun e => hn e.symm), there_grown h.2 hg h.lt hn⟩
theorem Jm.cnt {w : World} {n b : Nat} {X : List Int} (h : Jm w n X b) {k : Nat} (hk : k < X.length) : w.cell? ⟨n, k, none⟩ = some (.int .i64 X[k]) := by
  have := h.1 k (.int .i64 X[k]) (by simp [arrC, hk, List.getElem?_append])
  rwa [Nat.zero_add] at this
theorem Jm.map {w : World} {n b : Nat} {X : List Int} (h : Jm w n X b) (hX : X.length = 16) : w.cell? ⟨n, 16, none⟩ = some (.map (some b)) := by
  have := h.1 16 (.map (some b)) (by simp [arrC, hX])
  rwa [Nat.zero_add] at this
theorem jm_ne {P : Program} {k : TypeId} {w : World} {n b b' : Nat} {X : List Int} {L : List (Value × Value)} (h : Jm w n X b') (hM : Mp P k w b L) : n ≠ b := by
  rintro rfl
  obtain ⟨es, clock, hb, _⟩ := hM
  have h1 := (h.2 0 (by omega)).1
  unfold World.cell? at h1
  rw [show w.heap[(⟨n, 0 + 0, none⟩ : Addr).block]? = _ from hb] at h1
  simp at h1

set_option maxHeartbeats 1000000 in
set_option maxRecDepth 100000 in
theorem saw_any (w : World) (n b : Nat) (X : List Int) (t : Int) (a : Nat) (hJ : Jm w n X b) (hX : X.length = 16) (ha : a < 16) :
    Calls Tryz.prog 50 #[.pointer (some ⟨n, 0, none⟩), .agg #[.int .i64 t, .int .i64 (a : Int)]] w fun e w' => e = .returned (.bool (decide (t ≤ X.getD a 0))) ∧ Below w.heap.size w w' := by
  have hJ1 := hJ.on (below_alloc w (.cells #[.int .i64 t, .int .i64 (a : Int)] 56))
  have c0 := hJ1.cnt (k := a) (by omega)
  have hg : X.getD a 0 = X[a] := by simp [List.getD, hX, ha]
  rw [hg]
  have b0 : (0 : Int) ≤ (a : Int) := by omega
  have b1 : (a : Int) < 16 := by omega
  generalize X[a] = x at c0 ⊢
  clear hg hJ1
  go_enter Tryz.func50, Tryz.ntmps50
  go_wp2_with fail
  go_quiet (fail)
  go_wp2_with fail
  go_ret
  exact ⟨rfl, below_drewN (below_alloc _ _) nq⟩

set_option maxHeartbeats 2000000 in
set_option maxRecDepth 100000 in
theorem put_any (w : World) (n b : Nat) (X : List Int) (L L' : List (Value × Value)) (t a : Int) (s : ByteArray) (hJ : Jm w n X b) (hX : X.length = 16) (hM : Mp Tryz.prog 56 w b L)
    (hP : ∀ w1, Mp Tryz.prog 56 w1 b L → ∃ w', (Instr.mapUpdate 46 (.map (some b)) (.agg #[.int .i64 t, .int .i64 a]) (.agg #[.int .i64 t, .int .i64 a, .string s])).run Tryz.prog w1 = .ok () w' ∧ Mp Tryz.prog 56 w' b L' ∧ w1.grownBy w' (some b)) :
    Calls Tryz.prog 18 #[.pointer (some ⟨n, 0, none⟩), .agg #[.int .i64 t, .int .i64 a, .string s]] w fun e w' => e = .returned (.tuple #[]) ∧ Mp Tryz.prog 56 w' b L' ∧ w.grownBy w' (some b) := by
  have hB0 := below_alloc w (.cells #[.int .i64 t, .int .i64 a, .string s] 60)
  have hM0 := hM.on hB0
  have m0 := (hJ.on hB0).map hX
  have c0 := cell_made (Below.refl (w.alloc (.cells #[.int .i64 t, .int .i64 a, .string s] 60)).heap.size (w.alloc (.cells #[.int .i64 t, .int .i64 a, .string s] 60))) (k := 0) rfl
  have c1 := cell_made (Below.refl (w.alloc (.cells #[.int .i64 t, .int .i64 a, .string s] 60)).heap.size (w.alloc (.cells #[.int .i64 t, .int .i64 a, .string s] 60))) (k := 1) rfl
  have c2 := cell_made (Below.refl (w.alloc (.cells #[.int .i64 t, .int .i64 a, .string s] 60)).heap.size (w.alloc (.cells #[.int .i64 t, .int .i64 a, .string s] 60))) (k := 2) rfl
  have hE := fun w => entStamp_any t a s w
  go_enter Tryz.func18, Tryz.ntmps18
  go_wp2_with fail
  refine wp_region_held_drew (S := fun w' => w'.cell? ⟨n, 16, none⟩ = some (.map (some b)) ∧ w'.cell? ⟨w.heap.size, 0, none⟩ = some (.int .i64 t) ∧ w'.cell? ⟨w.heap.size, 1, none⟩ = some (.int .i64 a) ∧ w'.cell? ⟨w.heap.size, 2, none⟩ = some (.string s)) (by kernel_rfl) ⟨m0, c0, c1, c2⟩ (fun hHeld => ?_)
  refine tkH 0 ((.pointer (some ⟨n, 0, none⟩))) rfl (Or.inl ⟨by rfl, by intro w hSw; obtain ⟨s0, s1, s2, s3⟩ := hSw; go_simp⟩) hHeld ?_
  simp only [tkS, Act.put]
  refine tkH 1 ((.pointer (some ⟨n, 0, none⟩))) rfl (Or.inl ⟨by rfl, by intro w hSw; obtain ⟨s0, s1, s2, s3⟩ := hSw; go_simp⟩) hHeld ?_
  simp only [tkS, Act.put]
  refine tkH 2 ((.pointer (some ⟨n, 16, none⟩))) rfl (Or.inl ⟨by rfl, by intro w hSw; obtain ⟨s0, s1, s2, s3⟩ := hSw; go_simp⟩) hHeld ?_
  simp only [tkS, Act.put]
  refine tkH 3 ((.map (some b))) rfl (Or.inl ⟨by rfl, by intro w hSw; obtain ⟨s0, s1, s2, s3⟩ := hSw; go_simp⟩) hHeld ?_
  simp only [tkS, Act.put]
  refine tkH 4 ((.agg #[.int .i64 t, .int .i64 a, .string s])) rfl (Or.inl ⟨by rfl, by intro w hSw; obtain ⟨s0, s1, s2, s3⟩ := hSw; go_simp⟩) hHeld ?_
  simp only [tkS, Act.put]
  refine tkH 5 ((.iface 60 (.agg #[.int .i64 t, .int .i64 a, .string s]))) rfl (Or.inl ⟨by rfl, by intro w hSw; obtain ⟨s0, s1, s2, s3⟩ := hSw; go_simp⟩) hHeld ?_
  simp only [tkS, Act.put]
  refine tkH 7 ((.agg #[.int .i64 t, .int .i64 a, .string s])) rfl (Or.inl ⟨by rfl, by intro w hSw; obtain ⟨s0, s1, s2, s3⟩ := hSw; go_simp⟩) hHeld ?_
  simp only [tkS, Act.put]
  refine wpAnyH_ready (rs := [6]) (by kernel_rfl) (by simp) ?_
  refine AllReadyH.cons rfl (fun K hK => ?_) AllReadyH.nil
  go_simp
  refine (hE _).mono ?_
  rintro e w2 ⟨rfl, hb2⟩
  go_wp2_with fail
  have hM2 : Mp Tryz.prog 56 w2 b L := (show Mp Tryz.prog 56 (w.alloc (.cells #[.int .i64 t, .int .i64 a, .string s] 60)).drew b L from hM0).on hb2
  refine hK.out _ _ ⟨cell_on hb2 hHeld.1, cell_on hb2 hHeld.2.1, cell_on hb2 hHeld.2.2.1, cell_on hb2 hHeld.2.2.2⟩ (fun hHeld => ?_)
  clear hK K
  obtain ⟨w3, hrun, hM3, hg3⟩ := hP w2 hM2
  refine wpAnyH_ready (rs := [8]) (by kernel_rfl) (by simp) ?_
  refine AllReadyH.cons rfl (fun K hK => ?_) AllReadyH.nil
  go_simp
  have hg : w.grownBy w3 (some b) := grownBy_trans ⟨hb2.os.trans hB0.os, hb2.tape.trans hB0.tape, hb2.output.trans hB0.output, Nat.le_trans hB0.size hb2.size, fun i hi _ => (hb2.block i (Nat.lt_of_lt_of_le hi hB0.size)).trans (hB0.block i hi)⟩ hg3
  have hlb := hM2.lt
  have hln := cell_lt hHeld.1
  have hbw := hM.lt
  have hc : ∀ m j v, m ≠ b → w2.cell? ⟨m, j, none⟩ = some v → w3.cell? ⟨m, j, none⟩ = some v := fun m j v hm h => hg3.cell (a := ⟨m, j, none⟩) h (fun e => hm (by simpa using e))
  refine hK.out _ _ ⟨hc _ _ _ (jm_ne hJ hM) hHeld.1, hc _ _ _ (by omega) hHeld.2.1, hc _ _ _ (by omega) hHeld.2.2.1, hc _ _ _ (by omega) hHeld.2.2.2⟩ (fun hHeld => ?_)
  clear hK K
  refine wpAnyH_done (by kernel_rfl) ?_ _
  go_wp2_with fail
  refine bodyPost_end (v := .tuple #[]) ?_ rfl ⟨rfl, hM3, hg⟩
  simp [results, Tryz.results18, go_sem]

end Go.Proofs.YtfnlnigeaioocaaGreat

namespace Go.Proofs.YtfnlnigeaioocaaGreat
open Go.RowKit
set_option linter.unusedVariables false

set_option maxHeartbeats 4000000 in
set_option maxRecDepth 100000 in
theorem greaterE_any (t a : Int) (s : ByteArray) (t' a' : Int) (s' : ByteArray) (w : World) :
    Calls Tryz.prog 55 #[.agg #[.int .i64 t, .int .i64 a, .string s], .agg #[.int .i64 t', .int .i64 a', .string s']] w fun e w' =>
      e = .returned (if lessR t a s t' a' s' = true then .agg #[.int .i64 t', .int .i64 a', .string s'] else .agg #[.int .i64 t, .int .i64 a, .string s]) ∧ Below w.heap.size w w' := by
  have hB := Below.refl (((w.alloc (.cells #[.int .i64 t, .int .i64 a, .string s] 60)).alloc (.cells #[.int .i64 t', .int .i64 a', .string s'] 60)).alloc (.cells #[.int .i64 0, .int .i64 0, .string ⟨#[]⟩] 60)).heap.size (((w.alloc (.cells #[.int .i64 t, .int .i64 a, .string s] 60)).alloc (.cells #[.int .i64 t', .int .i64 a', .string s'] 60)).alloc (.cells #[.int .i64 0, .int .i64 0, .string ⟨#[]⟩] 60))
  replace hB := hB.drew
  have hQ := fun w g h0 h1 => or_two (cmpS t a t' a') (cmpT s s') w g h0 h1
  unfold lessR
  generalize orI (cmpS t a t' a') (cmpT s s') = r at hQ
  obtain ⟨b, hb, HL⟩ : ∃ b : Bool, decide (r < 0) = b ∧ Hid (decide (r < 0) = b) := ⟨_, rfl, rfl⟩
  rw [hb]
  clear hb
  cases b
  all_goals
    go_enter Tryz.func55, Tryz.ntmps55
    go_wp2_with fail
    go_region_held2 (fun w' => w'.cell? ⟨w.heap.size, 0, none⟩ = some (.int .i64 t) ∧ w'.cell? ⟨w.heap.size, 1, none⟩ = some (.int .i64 a) ∧ w'.cell? ⟨w.heap.size, 2, none⟩ = some (.string s) ∧ w'.cell? ⟨w.heap.size + 1, 0, none⟩ = some (.int .i64 t') ∧ w'.cell? ⟨w.heap.size + 1, 1, none⟩ = some (.int .i64 a') ∧ w'.cell? ⟨w.heap.size + 1, 2, none⟩ = some (.string s')) (first | exact (nine_cells hB).1 | exact (nine_cells (below_then hB _)).1) (first | (go_at_call 127; refine (entStamp_any _ _ _ _).mono ?_; rintro e w1 ⟨rfl, hb⟩; replace hB := below_seq hB hb; clear hb) | (go_at_call 53; refine (order_any _ _ _ _ _).mono ?_; rintro e w1 ⟨rfl, hb⟩; replace hB := below_seq hB hb; clear hb) | (go_at_call 128; refine (entText_any _ _ _ _).mono ?_; rintro e w1 ⟨rfl, hb⟩; replace hB := below_seq hB hb; clear hb) | (go_at_call 81; refine (cmpText_any _ _ _).mono ?_; rintro e w1 ⟨rfl, rfl⟩) | (go_at_call 79; refine (hQ _ _ (last_two _ _ _ _).1 (last_two _ _ _ _).2).mono ?_; rintro e w2 ⟨rfl, hw⟩; obtain rfl := hw.symm; clear hw; replace hB := below_then hB (.cells #[.int .i64 (cmpS t a t' a'), .int .i64 (cmpT s s')] 3)))
    obtain ⟨⟨c0, c1, c2, d0, d1, d2⟩, ⟨e0, e1, e2⟩, hf⟩ := nine_cells hB
    have HT : Hid (Tr _ _ _ _ _) := ⟨⟨e0, e1, e2⟩, hf⟩
    have f0 := hf 0
    have f1 := hf 1
    have f2 := hf 2
    have hl := HL.out
    go_wp2_with fail
    first
    | (have hp := (HT.out.put (.int .i64 t') (.int .i64 a') (.string s')).1
       refine bodyPost_ret (v := .agg #[.int .i64 t', .int .i64 a', .string s']) ?_ rfl ⟨rfl, below_put (below_seq (below_then (below_then (below_alloc _ _) _) _) hB) (by omega) _ _ _⟩
       simp [results, Tryz.results55, go_sem, hp.1, hp.2.1, hp.2.2])
    | (have hp := (HT.out.put (.int .i64 t) (.int .i64 a) (.string s)).1
       refine bodyPost_ret (v := .agg #[.int .i64 t, .int .i64 a, .string s]) ?_ rfl ⟨rfl, below_put (below_seq (below_then (below_then (below_alloc _ _) _) _) hB) (by omega) _ _ _⟩
       simp [results, Tryz.results55, go_sem, hp.1, hp.2.1, hp.2.2])

end Go.Proofs.YtfnlnigeaioocaaGreat
