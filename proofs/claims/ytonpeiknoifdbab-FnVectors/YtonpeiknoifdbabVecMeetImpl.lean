/- What the code's VecMeet does. -/
import Derived.Test.YtonpeiknoifdbabVecMeets
import Derived.Test.YtonpeiknoifdbabVecJoinImpl
namespace Go.Proofs.Ytonpeiknoifdbab
open Go.RowKit
set_option linter.unusedVariables false

set_option maxHeartbeats 1000000 in
set_option maxRecDepth 100000 in
theorem implVecMeet_any (C D : Nat) (w : World) (va vb : Value) (xs ys : List Int) (hC : C ≤ w.heap.size) (hD : D ≤ w.heap.size) (ha : Rd C w va (xs.map (Value.int .i64))) (hb : Rd D w vb (ys.map (Value.int .i64))) :
    Calls Try.prog 29 #[.agg #[va], .agg #[vb]] w fun e w' => ∃ a n c T, e = .returned (.tuple #[.agg #[.slice a n c], .int .i64 (zipC xs ys)]) ∧ Own T w' w.heap.size (.slice a n c) ((zipB mnI xs ys).map (Value.int .i64)) ∧ Below w.heap.size w w' := by
  have hlx := cnt_len xs
  have hly := cnt_len ys
  have h1 := fun w' (h : Rd C w' va (xs.map (Value.int .i64))) (h' : C ≤ w'.heap.size) (k : Rd D w' vb (ys.map (Value.int .i64))) (k' : D ≤ w'.heap.size) => countsOfBoth_any C D w' va vb xs ys h' k' h k
  obtain ⟨ao, la, ca, rfl⟩ : ∃ ao len cap, va = .slice ao len cap := by
    obtain ⟨ao, cap, rfl, _⟩ := ha
    exact ⟨_, _, _, rfl⟩
  obtain ⟨bo, lb, cb, rfl⟩ : ∃ ao len cap, vb = .slice ao len cap := by
    obtain ⟨ao, cap, rfl, _⟩ := hb
    exact ⟨_, _, _, rfl⟩
  have ha3 := ((ha.alloc (.cells #[.slice ao la ca] 34) hC).alloc (.cells #[.slice bo lb cb] 34) (by simp; omega)).alloc (.cells #[.slice none 0 0] 34) (by simp; omega)
  have hb3 := ((hb.alloc (.cells #[.slice ao la ca] 34) hD).alloc (.cells #[.slice bo lb cb] 34) (by simp; omega)).alloc (.cells #[.slice none 0 0] 34) (by simp; omega)
  obtain ⟨ok, hok⟩ : ∃ ok, (vecOK xs && vecOK ys) = ok := ⟨_, rfl⟩
  rw [hok] at h1
  have HP : Hid ((ok = true → zipB mnI xs ys = List.zipWith mnI (cnt xs) (cnt ys) ∧ zipC xs ys = 0) ∧ (ok = false → zipB mnI xs ys = [] ∧ zipC xs ys = 1)) := ⟨fun h => zip_yes (hok.trans h), fun h => zip_no (hok.trans h)⟩
  clear hok
  generalize cnt xs = X at hlx h1 HP
  generalize cnt ys = Y at hly h1 HP
  have HI : Hid _ := arr_info hlx
  have HJ : Hid _ := arr_info hly
  have HI' : Hid _ := arr_info' hlx
  have HJ' : Hid _ := arr_info' hly
  go_enter Try.func29, Try.ntmps29
  go_wp2_with fail
  refine (h1 _ ha3 (by simp; omega) hb3 (by simp; omega)).mono ?_
  rintro e w1 ⟨rfl, hB⟩
  obtain ⟨t1, t2, hB1, r1, r2⟩ := arr_two hB hB.size #[.int .i64 0, .int .i64 0, .int .i64 0, .int .i64 0, .int .i64 0, .int .i64 0, .int .i64 0, .int .i64 0, .int .i64 0, .int .i64 0, .int .i64 0, .int .i64 0, .int .i64 0, .int .i64 0, .int .i64 0, .int .i64 0] rfl 68 X Y hlx hly
  clear h1 ha3 hb3 ha hb
  cases ok with
  | true =>
    obtain ⟨e1, e2⟩ := HP.out.1 rfl
    have E1 : Hid _ := e1
    have E2 : Hid _ := e2
    clear e1 e2 HP
    go_wp2_with (first | (refine wpList_store_mid rfl 68 _ _ rfl w1.heap.size 0 (arrC X).toArray rfl rfl t1 HI'.out (arrC_all X) ?_) | (refine wpList_store_mid rfl 68 _ _ rfl (w1.heap.size + 1) 0 (arrC Y).toArray rfl rfl t2 HJ'.out (arrC_all Y) ?_) | (refine wpList_load_mid rfl 68 _ rfl w1.heap.size 0 rfl (arrC X) _ r1 Try.underlying68 rfl HI.out ?_) | (refine wpList_load_mid rfl 68 _ rfl (w1.heap.size + 1) 0 rfl (arrC Y) _ r2 Try.underlying68 rfl HJ.out ?_))
    refine (meet_any _ X Y hlx hly).mono ?_
    rintro e w4 ⟨rfl, hb4⟩
    have hB4 := below_seq hB1 hb4
    clear hB1 hb4 t1 t2 r1 r2
    have hlz : (List.zipWith mnI X Y).length = 16 := by simp [hlx, hly]
    go_wp2_with fail
    refine (vector_any w4 _ hlz).mono ?_
    rintro e w5 ⟨a5, rfl, ho5, hb5⟩
    have hB5 := below_seq hB4 hb5
    have c5 := cell_made1 hB5
    have f5 := frozen_made hB5 0
    have hs4 := hB4.size
    have hbw := below_seq (below_alloc _ _) (below_seq (below_alloc _ _) (below_seq (below_alloc _ _) hB5))
    simp only [World.size_alloc] at c5 f5 hs4
    have hbf := hbw.setCell (p := ⟨w.heap.size + 1 + 1, 0, none⟩) (by show w.heap.size ≤ w.heap.size + 1 + 1; omega) (.slice a5 16 16)
    have hof : Own 68 (w5.setCell ⟨w.heap.size + 1 + 1, 0, none⟩ (.slice a5 16 16)) w.heap.size (.slice a5 16 16) ((List.zipWith mnI X Y).map (Value.int .i64)) := (ho5.apart (grownBy_set w5 (w.heap.size + 1 + 1) 0 _) (fun k hk => by cases hk; omega)).mono (by omega)
    clear ho5 hb5 hB4 hB5 hbw
    go_wp2_with fail
    exact bodyPost_ret (v := .tuple #[.agg #[.slice a5 16 16], .int .i64 0]) (by simp [results, Try.results29, go_sem, c5]) rfl ⟨_, _, _, _, by rw [E2.out], by rw [E1.out]; exact hof, hbf⟩
  | false =>
    obtain ⟨e1, e2⟩ := HP.out.2 rfl
    have E1 : Hid _ := e1
    have E2 : Hid _ := e2
    clear e1 e2 HP r1 r2
    have c5 := cell_made1 hB1
    have f5 := frozen_made hB1 0
    have hbw := below_seq (below_alloc _ _) (below_seq (below_alloc _ _) (below_seq (below_alloc _ _) hB1))
    simp only [World.size_alloc] at c5 f5
    have hbf := hbw.setCell (p := ⟨w.heap.size + 1 + 1, 0, none⟩) (by show w.heap.size ≤ w.heap.size + 1 + 1; omega) (.slice none 0 0)
    clear hB hB1 hbw
    go_wp2_with (first | (refine wpList_store_mid rfl 68 _ _ rfl w1.heap.size 0 (arrC X).toArray rfl rfl t1 HI'.out (arrC_all X) ?_) | (refine wpList_store_mid rfl 68 _ _ rfl (w1.heap.size + 1) 0 (arrC Y).toArray rfl rfl t2 HJ'.out (arrC_all Y) ?_))
    exact bodyPost_ret (v := .tuple #[.agg #[.slice none 0 0], .int .i64 1]) (by simp [results, Try.results29, go_sem, c5]) rfl ⟨_, _, _, 3, by rw [E2.out], by rw [E1.out]; exact World.ownsRow_nil _ _ _ _, hbf⟩

end Go.Proofs.Ytonpeiknoifdbab
