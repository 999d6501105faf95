/- What the code's CounterAdd does: the walk. -/
import Derived.Test.YtonpeiknoifdbabCtrAddImpl
namespace Go.Proofs.Ytonpeiknoifdbab
open Go.RowKit
set_option linter.unusedVariables false

set_option maxHeartbeats 4000000 in
set_option maxRecDepth 100000 in
theorem implAdd_bad (C D : Nat) (w : World) (va vb : Value) (xs ys : List Int) (c n : Int) (hC : C ≤ w.heap.size) (hD : D ≤ w.heap.size) (ha : Rd C w va (xs.map (Value.int .i64))) (hb : Rd D w vb (ys.map (Value.int .i64))) (hok : (vecOK xs && vecOK ys) = false) :
    Calls Try.prog 16 #[.agg #[va, vb], .int .i64 c, .int .i64 n] w (AddAns xs ys c n w) := by
  have hlx := cnt_len xs
  have hly := cnt_len ys
  have h1 := countsOfBoth_any C D ((w.alloc (.cells #[va, vb] 36)).alloc (.cells #[.slice none 0 0, .slice none 0 0] 36)) va vb xs ys (by simp; omega) (by simp; omega) ((ha.alloc _ hC).alloc _ (by simp; omega)) ((hb.alloc _ hD).alloc _ (by simp; omega))
  have HR : Hid (Dy ((w.alloc (.cells #[va, vb] 36)).alloc (.cells #[.slice none 0 0, .slice none 0 0] 36)) (w.heap.size + 1) (.slice none 0 0) (.slice none 0 0)) := by
    have := Dy.made (w.alloc (.cells #[va, vb] 36)) (.slice none 0 0) (.slice none 0 0) 36
    rw [World.size_alloc] at this
    exact this
  have hB0 : Below w.heap.size w ((w.alloc (.cells #[va, vb] 36)).alloc (.cells #[.slice none 0 0, .slice none 0 0] 36)) := below_then (below_alloc _ _) _
  have HA : Hid (addC xs ys c n = 1 ∧ addA xs ys c n = [] ∧ addB xs ys c n = []) := addC_bad hok
  rw [hok] at h1
  generalize cnt xs = X at hlx h1
  generalize cnt ys = Y at hly h1
  have HI : Hid _ := arr_info' hlx
  have HJ : Hid _ := arr_info' hly
  go_enter Try.func16, Try.ntmps16
  go_wp2_with fail
  refine h1.mono ?_
  rintro e w1 ⟨rfl, hb1⟩
  have hB1 := below_seq hB0 hb1
  replace HR : Hid (Dy w1 (w.heap.size + 1) (.slice none 0 0) (.slice none 0 0)) := HR.out.on hb1
  obtain ⟨t1, t2, hK, r1, r2⟩ := arr_two (Below.refl w1.heap.size w1) (Nat.le_refl _) #[.int .i64 0, .int .i64 0, .int .i64 0, .int .i64 0, .int .i64 0, .int .i64 0, .int .i64 0, .int .i64 0, .int .i64 0, .int .i64 0, .int .i64 0, .int .i64 0, .int .i64 0, .int .i64 0, .int .i64 0, .int .i64 0] rfl 68 X Y hlx hly
  have hB3 := below_seq hB1 hK
  replace HR : Hid (Dy ((((w1.alloc (.cells #[.int .i64 0, .int .i64 0, .int .i64 0, .int .i64 0, .int .i64 0, .int .i64 0, .int .i64 0, .int .i64 0, .int .i64 0, .int .i64 0, .int .i64 0, .int .i64 0, .int .i64 0, .int .i64 0, .int .i64 0, .int .i64 0] 68)).alloc (.cells #[.int .i64 0, .int .i64 0, .int .i64 0, .int .i64 0, .int .i64 0, .int .i64 0, .int .i64 0, .int .i64 0, .int .i64 0, .int .i64 0, .int .i64 0, .int .i64 0, .int .i64 0, .int .i64 0, .int .i64 0, .int .i64 0] 68)).setCells w1.heap.size 0 (arrC X)).setCells (w1.heap.size + 1) 0 (arrC Y)) (w.heap.size + 1) (.slice none 0 0) (.slice none 0 0)) := HR.out.on hK
  have hR1 := HR.out.lt
  have hs3 : w.heap.size + 1 < w1.heap.size := by
    have := hb1.size
    simp only [World.size_alloc] at this
    omega
  clear hb1 hB1 h1
  obtain ⟨⟨u0, u1⟩, hf⟩ := HR.out
  have f0 := hf 0
  have f1 := hf 1
  go_wp2_with (first | (refine wpList_store_mid rfl 68 _ _ rfl w1.heap.size 0 (arrC X).toArray rfl rfl t1 HI.out (arrC_all _) ?_) | (refine wpList_store_mid rfl 68 _ _ rfl (w1.heap.size + 1) 0 (arrC Y).toArray rfl rfl t2 HJ.out (arrC_all _) ?_))
  have hp := (Dy.set1 (Dy.set0 HR.out (.slice none 0 0)) (.slice none 0 0)).1
  refine bodyPost_ret (v := .tuple #[.agg #[.slice none 0 0, .slice none 0 0], .int .i64 1]) ?_ rfl (addNone HA.out ((hB3.setCell (p := ⟨w.heap.size + 1, 0, none⟩) (by show w.heap.size ≤ w.heap.size + 1; omega) _).setCell (p := ⟨w.heap.size + 1, 1, none⟩) (by show w.heap.size ≤ w.heap.size + 1; omega) _))
  simp [results, Try.results16, go_sem, hp.1, hp.2]

set_option maxHeartbeats 4000000 in
set_option maxRecDepth 100000 in
theorem implAdd_range (C D : Nat) (w : World) (va vb : Value) (xs ys : List Int) (c n : Int) (hC : C ≤ w.heap.size) (hD : D ≤ w.heap.size) (ha : Rd C w va (xs.map (Value.int .i64))) (hb : Rd D w vb (ys.map (Value.int .i64))) (hok : (vecOK xs && vecOK ys) = true) (hi : ¬ inB c n) :
    Calls Try.prog 16 #[.agg #[va, vb], .int .i64 c, .int .i64 n] w (AddAns xs ys c n w) := by
  have hlx := cnt_len xs
  have hly := cnt_len ys
  have h1 := countsOfBoth_any C D ((w.alloc (.cells #[va, vb] 36)).alloc (.cells #[.slice none 0 0, .slice none 0 0] 36)) va vb xs ys (by simp; omega) (by simp; omega) ((ha.alloc _ hC).alloc _ (by simp; omega)) ((hb.alloc _ hD).alloc _ (by simp; omega))
  have HR : Hid (Dy ((w.alloc (.cells #[va, vb] 36)).alloc (.cells #[.slice none 0 0, .slice none 0 0] 36)) (w.heap.size + 1) (.slice none 0 0) (.slice none 0 0)) := by
    have := Dy.made (w.alloc (.cells #[va, vb] 36)) (.slice none 0 0) (.slice none 0 0) 36
    rw [World.size_alloc] at this
    exact this
  have hB0 : Below w.heap.size w ((w.alloc (.cells #[va, vb] 36)).alloc (.cells #[.slice none 0 0, .slice none 0 0] 36)) := below_then (below_alloc _ _) _
  have HA : Hid (addC xs ys c n = 4 ∧ addA xs ys c n = [] ∧ addB xs ys c n = []) := addC_range hok hi
  rw [hok] at h1
  rw [Bool.and_eq_true] at hok
  obtain ⟨okx, oky⟩ := hok
  rw [show cnt xs = xs from if_pos okx] at h1 hlx
  rw [show cnt ys = ys from if_pos oky] at h1 hly
  have hAct := fun w => isActor_any c w
  obtain ⟨b, hb', hcs⟩ : ∃ b, decide (0 ≤ c ∧ c < 16) = b ∧ (b = false ∨ (b = true ∧ n < -1000000000000) ∨ (b = true ∧ -1000000000000 ≤ n ∧ 1000000000000 < n)) := by
    refine ⟨_, rfl, ?_⟩
    unfold inB at hi
    by_cases q : 0 ≤ c ∧ c < 16
    · rw [decide_eq_true q]; simp; omega
    · rw [decide_eq_false q]; simp
  rw [hb'] at hAct
  clear hb' hi okx oky
  have HI : Hid _ := arr_info' hlx
  have HJ : Hid _ := arr_info' hly
  rcases hcs with rfl | ⟨rfl, q1⟩ | ⟨rfl, q1, q2⟩
  all_goals
    go_enter Try.func16, Try.ntmps16
    go_wp2_with fail
    refine h1.mono ?_
    rintro e w1 ⟨rfl, hb1⟩
    have hB1 := below_seq hB0 hb1
    replace HR : Hid (Dy w1 (w.heap.size + 1) (.slice none 0 0) (.slice none 0 0)) := HR.out.on hb1
    obtain ⟨t1, t2, hK, r1, r2⟩ := arr_two (Below.refl w1.heap.size w1) (Nat.le_refl _) #[.int .i64 0, .int .i64 0, .int .i64 0, .int .i64 0, .int .i64 0, .int .i64 0, .int .i64 0, .int .i64 0, .int .i64 0, .int .i64 0, .int .i64 0, .int .i64 0, .int .i64 0, .int .i64 0, .int .i64 0, .int .i64 0] rfl 68 xs ys hlx hly
    have hB3 := below_seq hB1 hK
    replace HR : Hid (Dy ((((w1.alloc (.cells #[.int .i64 0, .int .i64 0, .int .i64 0, .int .i64 0, .int .i64 0, .int .i64 0, .int .i64 0, .int .i64 0, .int .i64 0, .int .i64 0, .int .i64 0, .int .i64 0, .int .i64 0, .int .i64 0, .int .i64 0, .int .i64 0] 68)).alloc (.cells #[.int .i64 0, .int .i64 0, .int .i64 0, .int .i64 0, .int .i64 0, .int .i64 0, .int .i64 0, .int .i64 0, .int .i64 0, .int .i64 0, .int .i64 0, .int .i64 0, .int .i64 0, .int .i64 0, .int .i64 0, .int .i64 0] 68)).setCells w1.heap.size 0 (arrC xs)).setCells (w1.heap.size + 1) 0 (arrC ys)) (w.heap.size + 1) (.slice none 0 0) (.slice none 0 0)) := HR.out.on hK
    have hR1 := HR.out.lt
    have hs3 : w.heap.size + 1 < w1.heap.size := by
      have := hb1.size
      simp only [World.size_alloc] at this
      omega
    clear hb1 hB1 h1
    obtain ⟨⟨u0, u1⟩, hf⟩ := HR.out
    have f0 := hf 0
    have f1 := hf 1
    go_wp2_with (first | (refine wpList_store_mid rfl 68 _ _ rfl w1.heap.size 0 (arrC xs).toArray rfl rfl t1 HI.out (arrC_all _) ?_) | (refine wpList_store_mid rfl 68 _ _ rfl (w1.heap.size + 1) 0 (arrC ys).toArray rfl rfl t2 HJ.out (arrC_all _) ?_) | (go_at_call 44; refine (hAct _).mono ?_; rintro e w5 ⟨rfl, rfl⟩))
    have hp := (Dy.set1 (Dy.set0 HR.out (.slice none 0 0)) (.slice none 0 0)).1
    refine bodyPost_ret (v := .tuple #[.agg #[.slice none 0 0, .slice none 0 0], .int .i64 4]) ?_ rfl (addNone HA.out ((hB3.setCell (p := ⟨w.heap.size + 1, 0, none⟩) (by show w.heap.size ≤ w.heap.size + 1; omega) _).setCell (p := ⟨w.heap.size + 1, 1, none⟩) (by show w.heap.size ≤ w.heap.size + 1; omega) _))
    simp [results, Try.results16, go_sem, hp.1, hp.2]

end Go.Proofs.Ytonpeiknoifdbab
