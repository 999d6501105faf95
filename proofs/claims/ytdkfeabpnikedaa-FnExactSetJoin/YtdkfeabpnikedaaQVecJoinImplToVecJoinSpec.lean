/- What the code's VecJoin does. What the specification's l02Join does. -/
import Derived.Test.YtdkfeabpnikedaaQVecArrToVecJoins
import Derived.Test.YtdkfeabpnikedaaQTakeKit
namespace Go.Proofs.Ytdkfeabpnikedaa
open Go.RowKit
set_option linter.unusedVariables false

/-- What VecJoin (or VecMeet) answers: counts and a code. -/
def zipB (f : Int → Int → Int) (xs ys : List Int) : List Int := if (vecOK xs && vecOK ys) = true then List.zipWith f xs ys else []
def zipC (xs ys : List Int) : Int := if (vecOK xs && vecOK ys) = true then 0 else 1
theorem zipB_len (f : Int → Int → Int) (xs ys : List Int) : (zipB f xs ys).length ≤ 16 := by
  unfold zipB
  split
  · rename_i h
    rw [Bool.and_eq_true] at h
    simp [(vecOK_get h.1).1, (vecOK_get h.2).1]
  · simp
theorem zip_yes {f : Int → Int → Int} {xs ys : List Int} (h : (vecOK xs && vecOK ys) = true) : zipB f xs ys = List.zipWith f (cnt xs) (cnt ys) ∧ zipC xs ys = 0 := by
  have h2 := h
  rw [Bool.and_eq_true] at h2
  unfold zipB zipC cnt
  rw [if_pos h, if_pos h, if_pos h2.1, if_pos h2.2]
  exact ⟨rfl, rfl⟩
theorem zip_no {f : Int → Int → Int} {xs ys : List Int} (h : (vecOK xs && vecOK ys) = false) : zipB f xs ys = [] ∧ zipC xs ys = 1 := by
  unfold zipB zipC
  rw [if_neg (by rw [h]; decide), if_neg (by rw [h]; decide)]
  exact ⟨rfl, rfl⟩
/-- Two new arrays, written. -/
theorem arr_two {B : Nat} {a w : World} (h : Below B a w) (hB : B ≤ w.heap.size) (Z : Array Value) (hZ : Z.size = 16) (T : TypeId) (X Y : List Int) (hx : X.length = 16) (hy : Y.length = 16) :
    ((w.alloc (.cells Z T)).alloc (.cells Z T)).there w.heap.size 0 (arrC X).toArray.size ∧ (((w.alloc (.cells Z T)).alloc (.cells Z T)).setCells w.heap.size 0 (arrC X)).there (w.heap.size + 1) 0 (arrC Y).toArray.size ∧
    Below B a ((((w.alloc (.cells Z T)).alloc (.cells Z T)).setCells w.heap.size 0 (arrC X)).setCells (w.heap.size + 1) 0 (arrC Y)) ∧
    ((((w.alloc (.cells Z T)).alloc (.cells Z T)).setCells w.heap.size 0 (arrC X)).setCells (w.heap.size + 1) 0 (arrC Y)).rangeAt w.heap.size 0 (arrC X) ∧
    ((((w.alloc (.cells Z T)).alloc (.cells Z T)).setCells w.heap.size 0 (arrC X)).setCells (w.heap.size + 1) 0 (arrC Y)).rangeAt (w.heap.size + 1) 0 (arrC Y) := by
  have sx : (arrC X).toArray.size = 16 := by simp [arrC_len, hx]
  have sy : (arrC Y).toArray.size = 16 := by simp [arrC_len, hy]
  have t1 : ((w.alloc (.cells Z T)).alloc (.cells Z T)).there w.heap.size 0 16 := there_made (below_alloc _ _) (by omega)
  have t2 : ((w.alloc (.cells Z T)).alloc (.cells Z T)).there (w.heap.size + 1) 0 16 := by
    have := there_made (n := 16) (w := w.alloc (.cells Z T)) (cs := Z) (T := T) (Below.refl _ _) (by omega)
    rw [World.size_alloc] at this
    exact this
  have t3 := World.there_setCells t2 w.heap.size 0 (arrC X)
  refine ⟨by rw [sx]; exact t1, by rw [sy]; exact t3, ?_, ?_, ?_⟩
  · exact below_setCells (by omega) _ _ _ (below_setCells hB _ _ _ ((h.alloc hB _).alloc (by rw [World.size_alloc]; omega) _))
  · exact World.rangeAt_setCells_apart (World.rangeAt_setCells_same _ _ _ _ (by rw [arrC_len, hx]; exact t1)) _ _ _ (.inl (by omega))
  · exact World.rangeAt_setCells_same _ _ _ _ (by rw [arrC_len, hy]; exact t3)

end Go.Proofs.Ytdkfeabpnikedaa

namespace Go.Proofs.Ytdkfeabpnikedaa
open Go.RowKit
set_option linter.unusedVariables false

theorem keepG {w w' : World} {row : Option Nat} {N : Nat} {a : Addr} {v : Value} (hg : w.grownBy w' row) (hc : w.cell? a = some v) (hr : ∀ k, row = some k → N ≤ k) (ha : a.block < N) : w'.cell? a = some v :=
  hg.cell hc (fun e => by have := hr _ e.symm; omega)
theorem keepF {w w' : World} {row : Option Nat} {N : Nat} {a : Addr} (hg : w.grownBy w' row) (hc : w.frozen? a = false) (hr : ∀ k, row = some k → N ≤ k) (ha : a.block < N) (hs : a.block < w.heap.size) : w'.frozen? a = false := by
  rw [World.frozen?_of_block (w := w) (hg.block a.block hs (fun e => by have := hr _ e.symm; omega))]
  exact hc
theorem frozen_alloc {w : World} {a : Addr} (hc : w.frozen? a = false) (hs : a.block < w.heap.size) (o : Obj) : (w.alloc o).frozen? a = false := by
  rw [World.frozen?_of_block (w := w) (Below.heap_alloc w o a.block hs)]
  exact hc
theorem setO {w : World} {a : Addr} {v : Value} (hc : w.cell? a = some v) (b o : Nat) (u : Value) (h : a.block ≠ b) : (w.setCell ⟨b, o, none⟩ u).cell? a = some v := by
  rw [World.cell?_of_block (w := w) (heap_setCell_other w ⟨b, o, none⟩ a.block u h)]
  exact hc
theorem zip_take {f : Int → Int → Int} {xs ys : List Int} {k : Nat} (hx : k < xs.length) (hy : k < ys.length) : (List.zipWith f xs ys).take (k + 1) = (List.zipWith f xs ys).take k ++ [f xs[k] ys[k]] := by
  rw [List.take_succ_eq_append_getElem (by simp; omega), List.getElem_zipWith]

set_option maxHeartbeats 4000000 in
set_option maxRecDepth 100000 in
theorem l02Join_any (C D : Nat) (w : World) (va vb : Value) (xs ys : List Int) (hx : xs.length = 16) (hy : ys.length = 16) (hC : C ≤ w.heap.size) (hD : D ≤ w.heap.size) (ha : Rd C w va (xs.map (Value.int .i64))) (hb : Rd D w vb (ys.map (Value.int .i64))) :
    Calls Try.prog 47 #[.agg #[va], .agg #[vb]] w fun e w' => ∃ a n c, e = .returned (.agg #[.slice a n c]) ∧ Own 3 w' w.heap.size (.slice a n c) ((List.zipWith mxI xs ys).map (Value.int .i64)) ∧ Below w.heap.size w w' := by
  obtain ⟨i0, hi, hz0, hz1, hz2⟩ := info_parts info3
  obtain ⟨ao, ca, rfl, _, _, _, ha⟩ := ha
  obtain ⟨bo, cb, rfl, _, _, _, hb⟩ := hb
  rw [List.length_map] at ha hb ⊢
  rw [List.length_map]
  obtain ⟨ga, oa, rfl, hga, hca⟩ := ha (by omega)
  obtain ⟨gb, ob, rfl, hgb, hcb⟩ := hb (by omega)
  have HA : Hid (∀ k (hk : k < xs.length) (w' : World), Below w.heap.size w w' → w'.cell? ⟨ga, oa + k, none⟩ = some (.int .i64 xs[k])) := fun k hk w' h => (h.cell (p := ⟨ga, oa + k, none⟩) (by show ga < _; omega)).trans (hca k _ (by simp [hk]))
  have HB : Hid (∀ k (hk : k < ys.length) (w' : World), Below w.heap.size w w' → w'.cell? ⟨gb, ob + k, none⟩ = some (.int .i64 ys[k])) := fun k hk w' h => (h.cell (p := ⟨gb, ob + k, none⟩) (by show gb < _; omega)).trans (hcb k _ (by simp [hk]))
  have H16 : Hid _ := hx
  have J16 : Hid _ := hy
  rw [hx, hy]
  clear ha hb hca hcb
  have hB0 := below_alloc (((w.alloc (.cells #[.slice (some ⟨ga, oa, none⟩) 16 ca] 29)).alloc (.cells #[.slice (some ⟨gb, ob, none⟩) 16 cb] 29)).alloc (.cells #[.slice none 0 0] 29)) (.cells #[.slice none 0 0] 29)
  have cO0 := cell_made1 (Below.refl ((((w.alloc (.cells #[.slice (some ⟨ga, oa, none⟩) 16 ca] 29)).alloc (.cells #[.slice (some ⟨gb, ob, none⟩) 16 cb] 29)).alloc (.cells #[.slice none 0 0] 29)).alloc (.cells #[.slice none 0 0] 29)).heap.size _)
  have fO0 := frozen_made (Below.refl ((((w.alloc (.cells #[.slice (some ⟨ga, oa, none⟩) 16 ca] 29)).alloc (.cells #[.slice (some ⟨gb, ob, none⟩) 16 cb] 29)).alloc (.cells #[.slice none 0 0] 29)).alloc (.cells #[.slice none 0 0] 29)).heap.size _) 0
  have hs0 : w.heap.size + 4 ≤ ((((w.alloc (.cells #[.slice (some ⟨ga, oa, none⟩) 16 ca] 29)).alloc (.cells #[.slice (some ⟨gb, ob, none⟩) 16 cb] 29)).alloc (.cells #[.slice none 0 0] 29)).alloc (.cells #[.slice none 0 0] 29)).heap.size := by simp
  simp only [World.size_alloc] at cO0 fO0
  go_enter Try.func47, Try.ntmps47
  go_wp2_with fail
  go_loopw [6] (fun ti wr => ∃ (k : Nat) (to : Option Addr) (tc : Nat), k ≤ 16 ∧ ti = .int .i64 (k : Int) ∧ Below (((w.alloc (.cells #[.slice (some ⟨ga, oa, none⟩) 16 ca] 29)).alloc (.cells #[.slice (some ⟨gb, ob, none⟩) 16 cb] 29)).alloc (.cells #[.slice none 0 0] 29)).heap.size (((w.alloc (.cells #[.slice (some ⟨ga, oa, none⟩) 16 ca] 29)).alloc (.cells #[.slice (some ⟨gb, ob, none⟩) 16 cb] 29)).alloc (.cells #[.slice none 0 0] 29)) wr ∧ wr.cell? ⟨w.heap.size + 1 + 1 + 1, 0, none⟩ = some (.slice to k tc) ∧ wr.frozen? ⟨w.heap.size + 1 + 1 + 1, 0, none⟩ = false ∧ Own 3 wr (w.heap.size + 4) (.slice to k tc) (((List.zipWith mxI xs ys).take k).map (Value.int .i64)) ∧ w.heap.size + 4 ≤ wr.heap.size) (fun ti _ => 16 - (intOf ti).toNat)
  case atStart => exact ⟨0, none, 0, by omega, rfl, hB0, cO0, fO0, World.ownsRow_nil _ _ _ _, hs0⟩
  case round =>
    clear hB0 cO0 fO0 hs0
    obtain ⟨k, to, tc, hk, rfl, hB, cO, fO, ho, hsz⟩ := hrel
    have hBw := below_seq (below_alloc _ _) (below_seq (below_alloc _ _) (below_seq (below_alloc _ _) hB))
    have cA := cell_made1 (below_seq (below_alloc _ _) (below_seq (below_alloc _ _) hB))
    have cB := cell_made1 (below_seq (below_alloc _ _) hB)
    rw [World.size_alloc] at cB
    by_cases hlt : k < 16
    · have cX := HA.out k (by rw [H16.out]; exact hlt) wr hBw
      have cY := HB.out k (by rw [J16.out]; exact hlt) wr hBw
      have HZ : Hid _ := zip_take (f := mxI) (xs := xs) (ys := ys) (k := k) (by rw [H16.out]; exact hlt) (by rw [J16.out]; exact hlt)
      have i1 : (0 : Int) ≤ (k : Int) := by omega
      have i2 : (k : Int) < 16 := by omega
      generalize xs[k]'(by rw [H16.out]; exact hlt) = x at cX HZ
      generalize ys[k]'(by rw [J16.out]; exact hlt) = y at cY HZ
      clear hBw
      go_wp2_with fail
      refine wp_region_held_drew (S := fun w' => w'.cell? ⟨w.heap.size, 0, none⟩ = some (.slice (some ⟨ga, oa, none⟩) 16 ca) ∧ w'.cell? ⟨w.heap.size + 1, 0, none⟩ = some (.slice (some ⟨gb, ob, none⟩) 16 cb) ∧ w'.cell? ⟨ga, oa + k, none⟩ = some (.int .i64 x) ∧ w'.cell? ⟨gb, ob + k, none⟩ = some (.int .i64 y)) (by kernel_rfl) ⟨cA, cB, cX, cY⟩ (fun hHeld => ?_)
      · skip
        refine tkH 0 (.pointer (some ⟨w.heap.size + 1 + 1 + 1, 0, none⟩)) rfl (Or.inl ⟨by rfl, fun w' hw => by (obtain ⟨s1, s2, s3, s4⟩ := hw; go_simp)⟩) hHeld ?_
        simp only [tkS, Act.put]
        refine tkH 2 (.pointer (some ⟨w.heap.size, 0, none⟩)) rfl (Or.inl ⟨by rfl, fun w' hw => by (obtain ⟨s1, s2, s3, s4⟩ := hw; go_simp)⟩) hHeld ?_
        simp only [tkS, Act.put]
        refine tkH 3 (.slice (some ⟨ga, oa, none⟩) 16 ca) rfl (Or.inl ⟨by rfl, fun w' hw => by (obtain ⟨s1, s2, s3, s4⟩ := hw; go_simp)⟩) hHeld ?_
        simp only [tkS, Act.put]
        refine tkH 4 (.int .i64 (k : Int)) rfl (Or.inl ⟨by rfl, fun w' hw => by (obtain ⟨s1, s2, s3, s4⟩ := hw; go_simp)⟩) hHeld ?_
        simp only [tkS, Act.put]
        refine tkH 5 (.pointer (some ⟨ga, oa + k, none⟩)) rfl (Or.inl ⟨by rfl, fun w' hw => by (obtain ⟨s1, s2, s3, s4⟩ := hw; go_simp)⟩) hHeld ?_
        simp only [tkS, Act.put]
        refine tkH 6 (.int .i64 x) rfl (Or.inl ⟨by rfl, fun w' hw => by (obtain ⟨s1, s2, s3, s4⟩ := hw; go_simp)⟩) hHeld ?_
        simp only [tkS, Act.put]
        refine tkH 7 (.pointer (some ⟨w.heap.size + 1, 0, none⟩)) rfl (Or.inl ⟨by rfl, fun w' hw => by (obtain ⟨s1, s2, s3, s4⟩ := hw; go_simp)⟩) hHeld ?_
        simp only [tkS, Act.put]
        refine tkH 8 (.slice (some ⟨gb, ob, none⟩) 16 cb) rfl (Or.inl ⟨by rfl, fun w' hw => by (obtain ⟨s1, s2, s3, s4⟩ := hw; go_simp)⟩) hHeld ?_
        simp only [tkS, Act.put]
        refine tkH 9 (.int .i64 (k : Int)) rfl (Or.inl ⟨by rfl, fun w' hw => by (obtain ⟨s1, s2, s3, s4⟩ := hw; go_simp)⟩) hHeld ?_
        simp only [tkS, Act.put]
        refine tkH 10 (.pointer (some ⟨gb, ob + k, none⟩)) rfl (Or.inl ⟨by rfl, fun w' hw => by (obtain ⟨s1, s2, s3, s4⟩ := hw; go_simp)⟩) hHeld ?_
        simp only [tkS, Act.put]
        refine tkH 11 (.int .i64 y) rfl (Or.inl ⟨by rfl, fun w' hw => by (obtain ⟨s1, s2, s3, s4⟩ := hw; go_simp)⟩) hHeld ?_
        simp only [tkS, Act.put]
        refine tkH 12 (.int .i64 (if x < y then y else x)) rfl (Or.inl ⟨by rfl, fun w' hw => by go_simp⟩) hHeld ?_
        simp only [tkS, Act.put]
        generalize hmx : (if x < y then y else x) = m
        have cO1 := alloc_keep cO (.cells #[.int .i64 m] 3)
        have S1 := And.intro (alloc_keep cA (.cells #[.int .i64 m] 3)) (And.intro (alloc_keep cB (.cells #[.int .i64 m] 3)) (And.intro (alloc_keep cX (.cells #[.int .i64 m] 3)) (alloc_keep cY (.cells #[.int .i64 m] 3))))
        refine wpAnyH_ready (rs := [1, 13]) (by kernel_rfl) (by simp) ?_
        refine AllReadyH.cons rfl (fun K hK => ?wayA) (AllReadyH.cons rfl (fun K hK => ?wayB) AllReadyH.nil)
        case' wayA =>
          go_simp
          refine hK.out _ _ hHeld (fun hHeld1 => ?_)
          clear hK K
          refine wpAnyH_ready (rs := [13]) (by kernel_rfl) (by simp) ?_
          refine AllReadyH.cons rfl (fun K hK => ?_) AllReadyH.nil
          go_simp
          refine hK.out _ _ S1 (fun hHeld2 => ?_)
          clear hK K
        case' wayB =>
          go_simp
          refine hK.out _ _ S1 (fun hHeld1 => ?_)
          clear hK K
          refine wpAnyH_ready (rs := [1]) (by kernel_rfl) (by simp) ?_
          refine AllReadyH.cons rfl (fun K hK => ?_) AllReadyH.nil
          go_simp
          refine hK.out _ _ S1 (fun hHeld2 => ?_)
          clear hK K
        all_goals
          have hown : Own 3 (wr.alloc (.cells #[.int .i64 m] 3)).drew (w.heap.size + 4) (.slice to k tc) (((List.zipWith mxI xs ys).take k).map (Value.int .i64)) := World.ownsRow.alloc ho _
          have hlen : ((List.zipWith mxI xs ys).take k).length = k := by simp [hx, hy]; omega
          refine wpAnyH_ready (rs := [14]) (by kernel_rfl) (by simp) ?_
          refine AllReadyH.cons rfl (fun K hK => ?_) AllReadyH.nil
          refine step_append_rd rfl (.tmp 13) (.tmp 25) 22 rfl (w.heap.size + 4) 3 i0 (.int .i64 0) 8 Try.underlying22 hi hz0 hz1 hz2 rfl _ _ rfl hown _ _ [.int .i64 m] rfl (show Rd (wr.alloc (.cells #[.int .i64 m] 3)).heap.size (wr.alloc (.cells #[.int .i64 m] 3)).drew _ _ from (own_lit wr 3 [.int .i64 m] 1 rfl (by decide)).rd) (by simp) (by simp [Value.oneCell']) (by simp [maxLen]; omega) (by simp; omega) (by show w.heap.size + 4 ≤ (wr.alloc _).heap.size; rw [World.size_alloc]; omega) ?_
          intro v7 w7 ho7 hg7
          obtain ⟨a7, c7, e7, _⟩ := ho7.slice
          have hl7 : ((((List.zipWith mxI xs ys).take k).map (Value.int .i64)) ++ [Value.int .i64 m]).length = k + 1 := by rw [List.length_append, List.length_map, hlen]; rfl
          rw [hl7] at e7
          subst e7
          have hlt7 := ho.lt
          have hb1 : w.heap.size < w.heap.size + 4 := by omega
          have hS7 := And.intro (keepG hg7 (show (wr.alloc (.cells #[.int .i64 m] 3)).drew.cell? _ = _ from S1.1) hlt7 (show w.heap.size < w.heap.size + 4 by omega)) (And.intro (keepG hg7 (show (wr.alloc (.cells #[.int .i64 m] 3)).drew.cell? _ = _ from S1.2.1) hlt7 (show w.heap.size + 1 < w.heap.size + 4 by omega)) (And.intro (keepG hg7 (show (wr.alloc (.cells #[.int .i64 m] 3)).drew.cell? _ = _ from S1.2.2.1) hlt7 (show ga < w.heap.size + 4 by omega)) (keepG hg7 (show (wr.alloc (.cells #[.int .i64 m] 3)).drew.cell? _ = _ from S1.2.2.2) hlt7 (show gb < w.heap.size + 4 by omega))))
          have cO7 := keepG hg7 (show (wr.alloc (.cells #[.int .i64 m] 3)).drew.cell? _ = _ from cO1) hlt7 (show w.heap.size + 1 + 1 + 1 < w.heap.size + 4 by omega)
          have fO7 := keepF hg7 (show (wr.alloc (.cells #[.int .i64 m] 3)).drew.frozen? ⟨w.heap.size + 1 + 1 + 1, 0, none⟩ = false from frozen_alloc fO (by show w.heap.size + 1 + 1 + 1 < wr.heap.size; omega) _) hlt7 (show w.heap.size + 1 + 1 + 1 < w.heap.size + 4 by omega) (show w.heap.size + 1 + 1 + 1 < (wr.alloc (.cells #[.int .i64 m] 3)).heap.size by rw [World.size_alloc]; omega)
          refine hK.out _ _ hS7 (fun hHeld7 => ?_)
          clear hK K
          simp only [tkS, Act.put]
          refine wpAnyH_take (i := 15) (v := .pointer (some ⟨w.heap.size + 1 + 1 + 1, 0, none⟩)) rfl (by kernel_rfl) (by kernel_rfl) (by kernel_rfl) (fun _ _ _ h => h) (Or.inl ⟨by rfl, fun w' hw => by go_simp⟩) hHeld7 ?_
          simp only [tkS, Act.put]
          refine wpAnyH_ready (rs := [16]) (by kernel_rfl) (by simp) ?_
          refine AllReadyH.cons rfl (fun K hK => ?_) AllReadyH.nil
          go_simp
          have hS8 := And.intro (setO hS7.1 (w.heap.size + 1 + 1 + 1) 0 (.slice a7 (k + 1) c7) (show w.heap.size ≠ w.heap.size + 1 + 1 + 1 by omega)) (And.intro (setO hS7.2.1 (w.heap.size + 1 + 1 + 1) 0 (.slice a7 (k + 1) c7) (show w.heap.size + 1 ≠ w.heap.size + 1 + 1 + 1 by omega)) (And.intro (setO hS7.2.2.1 (w.heap.size + 1 + 1 + 1) 0 (.slice a7 (k + 1) c7) (show ga ≠ w.heap.size + 1 + 1 + 1 by omega)) (setO hS7.2.2.2 (w.heap.size + 1 + 1 + 1) 0 (.slice a7 (k + 1) c7) (show gb ≠ w.heap.size + 1 + 1 + 1 by omega))))
          refine hK.out _ _ hS8 (fun hHeld8 => ?_)
          clear hK K
          refine wpAnyH_done (by kernel_rfl) ?_ _
          have R1 : Below (((w.alloc (.cells #[.slice (some ⟨ga, oa, none⟩) 16 ca] 29)).alloc (.cells #[.slice (some ⟨gb, ob, none⟩) 16 cb] 29)).alloc (.cells #[.slice none 0 0] 29)).heap.size (((w.alloc (.cells #[.slice (some ⟨ga, oa, none⟩) 16 ca] 29)).alloc (.cells #[.slice (some ⟨gb, ob, none⟩) 16 cb] 29)).alloc (.cells #[.slice none 0 0] 29)) (w7.setCell ⟨w.heap.size + 1 + 1 + 1, 0, none⟩ (.slice a7 (k + 1) c7)) := by
            refine Below.setCell ?_ (by show _ ≤ w.heap.size + 1 + 1 + 1; simp) _
            exact ((hB.alloc hB.size _).drew).grown hg7 (by show _ ≤ (wr.alloc _).heap.size; have := hB.size; rw [World.size_alloc wr]; omega) (fun k hk => by have := hlt7 k hk; simp only [World.size_alloc]; omega)
          have R2 := World.cell?_setCell_same w7 ⟨w.heap.size + 1 + 1 + 1, 0, none⟩ (.slice a7 (k + 1) c7) cO7
          have R3 : (w7.setCell ⟨w.heap.size + 1 + 1 + 1, 0, none⟩ (.slice a7 (k + 1) c7)).frozen? ⟨w.heap.size + 1 + 1 + 1, 0, none⟩ = false := by rw [World.frozen?_setCell]; exact fO7
          have R4 : Own 3 (w7.setCell ⟨w.heap.size + 1 + 1 + 1, 0, none⟩ (.slice a7 (k + 1) c7)) (w.heap.size + 4) (.slice a7 (k + 1) c7) (((List.zipWith mxI xs ys).take (k + 1)).map (Value.int .i64)) := by
            rw [HZ.out, List.map_append]
            have := ho7.apart (grownBy_set w7 (w.heap.size + 1 + 1 + 1) 0 (.slice a7 (k + 1) c7)) (fun k hk => by cases hk; omega)
            rw [← hmx] at this
            exact this
          have R5 : w.heap.size + 4 ≤ (w7.setCell ⟨w.heap.size + 1 + 1 + 1, 0, none⟩ (.slice a7 (k + 1) c7)).heap.size := by
            have h8 := (grownBy_set w7 (w.heap.size + 1 + 1 + 1) 0 (.slice a7 (k + 1) c7)).size
            have h9 : (wr.alloc (.cells #[.int .i64 m] 3)).heap.size ≤ w7.heap.size := hg7.size
            rw [World.size_alloc] at h9
            omega
          clear hHeld hHeld2 hHeld7 hHeld8 hS7 hS8 S1 cO1 cO7 fO7 hown ho7 hg7 hlt7 hl7 cA cB cX cY cO fO ho hB
          go_wp2_with fail
          go_roundw
          case rel => exact ⟨k + 1, a7, c7, by omega, by go_num, R1, R2, R3, R4, R5⟩
          case measure => simp [intOf]; omega
    · obtain rfl : k = 16 := by omega
      have c2 := cell_made1 hB
      have f2 := frozen_made hB 0
      simp only [World.size_alloc] at c2 f2
      have hbf := hBw.setCell (p := ⟨w.heap.size + 1 + 1, 0, none⟩) (by show w.heap.size ≤ w.heap.size + 1 + 1; omega) (.slice to 16 tc)
      have hof : Own 3 (wr.setCell ⟨w.heap.size + 1 + 1, 0, none⟩ (.slice to 16 tc)) w.heap.size (.slice to 16 tc) ((List.zipWith mxI xs ys).map (Value.int .i64)) := by
        have h := (ho.apart (grownBy_set wr (w.heap.size + 1 + 1) 0 (.slice to 16 tc)) (fun k hk => by cases hk; omega)).mono (show w.heap.size ≤ w.heap.size + 4 by omega)
        rw [List.take_of_length_le (by simp [hx, hy])] at h
        exact h
      clear ho hB hBw cA cB
      go_wp2_with fail
      exact bodyPost_ret (v := .agg #[.slice to 16 tc]) (by simp [results, Try.results47, go_sem, c2]) rfl ⟨_, _, _, rfl, hof, hbf⟩

end Go.Proofs.Ytdkfeabpnikedaa
