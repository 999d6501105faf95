/- What the code's CounterAdd does: the walk within the bounds. -/
import Derived.Test.YtonpeiknoifdbabCtrAddCode
import Derived.Test.YtonpeiknoifdbabCtrVal
namespace Go.Proofs.Ytonpeiknoifdbab
open Go.RowKit
set_option linter.unusedVariables false

set_option maxHeartbeats 4000000 in
set_option maxRecDepth 100000 in
theorem implAdd_in (C D : Nat) (w : World) (va vb : Value) (xs ys : List Int) (c n : Int) (hC : C ≤ w.heap.size) (hD : D ≤ w.heap.size) (ha : Rd C w va (xs.map (Value.int .i64))) (hb : Rd D w vb (ys.map (Value.int .i64))) (hok : (vecOK xs && vecOK ys) = true) (hi : inB c n) :
    Calls Try.prog 16 #[.agg #[va, vb], .int .i64 c, .int .i64 n] w (AddAns xs ys c n w) := by
  have hlx := cnt_len xs
  have hly := cnt_len ys
  have h1 := countsOfBoth_any C D ((w.alloc (.cells #[va, vb] 36)).alloc (.cells #[.slice none 0 0, .slice none 0 0] 36)) va vb xs ys (by simp; omega) (by simp; omega) ((ha.alloc _ hC).alloc _ (by simp; omega)) ((hb.alloc _ hD).alloc _ (by simp; omega))
  have HR : Hid (Dy ((w.alloc (.cells #[va, vb] 36)).alloc (.cells #[.slice none 0 0, .slice none 0 0] 36)) (w.heap.size + 1) (.slice none 0 0) (.slice none 0 0)) := by
    have := Dy.made (w.alloc (.cells #[va, vb] 36)) (.slice none 0 0) (.slice none 0 0) 36
    rw [World.size_alloc] at this
    exact this
  have hB0 : Below w.heap.size w ((w.alloc (.cells #[va, vb] 36)).alloc (.cells #[.slice none 0 0, .slice none 0 0] 36)) := below_then (below_alloc _ _) _
  have hCb := fun hm => addC_many hok hi hm
  have hCg := fun hm => addC_good hok hi hm
  rw [hok] at h1
  rw [Bool.and_eq_true] at hok
  obtain ⟨okx, oky⟩ := hok
  rw [show cnt xs = xs from if_pos okx] at h1 hlx
  rw [show cnt ys = ys from if_pos oky] at h1 hly
  have HX := okGet okx c.toNat
  have HY := okGet oky c.toNat
  have hAct := fun w => isActor_any c w
  rw [decide_eq_true (show 0 ≤ c ∧ c < 16 from ⟨hi.1, hi.2.1⟩)] at hAct
  obtain ⟨k, rfl⟩ : ∃ k : Nat, c = (k : Int) := ⟨c.toNat, by have := hi.1; omega⟩
  have hk : k < 16 := by have := hi.2.1; omega
  have n0 := hi.2.2.1
  have n1 := hi.2.2.2
  rw [Int.toNat_natCast] at HX HY
  have hP : addP xs (k : Int) n = if 0 ≤ n then xs.set k (xs.getD k 0 + n) else xs := by unfold addP; rw [Int.toNat_natCast]
  have hM : addM ys (k : Int) n = if 0 ≤ n then ys else ys.set k (ys.getD k 0 - n) := by unfold addM; rw [Int.toNat_natCast]
  have hMany : addMany xs ys (k : Int) n = decide (1000000000000 < (addP xs (k : Int) n).getD k 0 ∨ 1000000000000 < (addM ys (k : Int) n).getD k 0) := by unfold addMany; rw [Int.toNat_natCast]
  clear hi okx oky
  have HI : Hid _ := arr_info' hlx
  have HJ : Hid _ := arr_info' hly
  go_enter Try.func16, Try.ntmps16
  go_wp2_with fail
  refine h1.mono ?_
  rintro e w1 ⟨rfl, hb1⟩
  have hB1 := below_seq hB0 hb1
  replace HR : Hid (Dy w1 (w.heap.size + 1) (.slice none 0 0) (.slice none 0 0)) := HR.out.on hb1
  obtain ⟨t1, t2, hK, r1, r2⟩ := arr_two (Below.refl w1.heap.size w1) (Nat.le_refl _) #[.int .i64 0, .int .i64 0, .int .i64 0, .int .i64 0, .int .i64 0, .int .i64 0, .int .i64 0, .int .i64 0, .int .i64 0, .int .i64 0, .int .i64 0, .int .i64 0, .int .i64 0, .int .i64 0, .int .i64 0, .int .i64 0] rfl 68 xs ys hlx hly
  have hB3 := below_seq hB1 hK
  replace HR : Hid (Dy ((((w1.alloc (.cells #[.int .i64 0, .int .i64 0, .int .i64 0, .int .i64 0, .int .i64 0, .int .i64 0, .int .i64 0, .int .i64 0, .int .i64 0, .int .i64 0, .int .i64 0, .int .i64 0, .int .i64 0, .int .i64 0, .int .i64 0, .int .i64 0] 68)).alloc (.cells #[.int .i64 0, .int .i64 0, .int .i64 0, .int .i64 0, .int .i64 0, .int .i64 0, .int .i64 0, .int .i64 0, .int .i64 0, .int .i64 0, .int .i64 0, .int .i64 0, .int .i64 0, .int .i64 0, .int .i64 0, .int .i64 0] 68)).setCells w1.heap.size 0 (arrC xs)).setCells (w1.heap.size + 1) 0 (arrC ys)) (w.heap.size + 1) (.slice none 0 0) (.slice none 0 0)) := HR.out.on hK
  have hR1 := HR.out.lt
  have hs3 : w.heap.size + 1 < w1.heap.size := by
    have := hb1.size
    simp only [World.size_alloc] at this
    omega
  clear hb1 hB1 h1
  obtain ⟨⟨u0, u1⟩, hf⟩ := HR.out
  have f0 := hf 0
  have f1 := hf 1
  go_wp2_with (first | (refine wpList_store_mid rfl 68 _ _ rfl w1.heap.size 0 (arrC xs).toArray rfl rfl t1 HI.out (arrC_all _) ?_) | (refine wpList_store_mid rfl 68 _ _ rfl (w1.heap.size + 1) 0 (arrC ys).toArray rfl rfl t2 HJ.out (arrC_all _) ?_))
  have t1' := World.there_setCells (World.there_setCells t1 w1.heap.size 0 (arrC xs)) (w1.heap.size + 1) 0 (arrC ys)
  have t2' := World.there_setCells t2 (w1.heap.size + 1) 0 (arrC ys)
  rw [show (arrC xs).toArray.size = 16 by simp [arrC_len, hlx]] at t1'
  rw [show (arrC ys).toArray.size = 16 by simp [arrC_len, hly]] at t2'
  clear t1 t2 hK u0 u1 hf f0 f1
  generalize (((w1.alloc (.cells #[.int .i64 0, .int .i64 0, .int .i64 0, .int .i64 0, .int .i64 0, .int .i64 0, .int .i64 0, .int .i64 0, .int .i64 0, .int .i64 0, .int .i64 0, .int .i64 0, .int .i64 0, .int .i64 0, .int .i64 0, .int .i64 0] 68)).alloc (.cells #[.int .i64 0, .int .i64 0, .int .i64 0, .int .i64 0, .int .i64 0, .int .i64 0, .int .i64 0, .int .i64 0, .int .i64 0, .int .i64 0, .int .i64 0, .int .i64 0, .int .i64 0, .int .i64 0, .int .i64 0, .int .i64 0] 68)).setCells w1.heap.size 0 (arrC xs)).setCells (w1.heap.size + 1) 0 (arrC ys) = w3 at *
  have c1 := r1 k (.int .i64 (xs.getD k 0)) (by simp [arrC, hlx, hk])
  have c2 := r2 k (.int .i64 (ys.getD k 0)) (by simp [arrC, hly, hk])
  have g1 := (t1' k hk).2
  have g2 := (t2' k hk).2
  rw [Nat.zero_add] at c1 c2 g1 g2
  have j0 : (0 : Int) ≤ (k : Int) := by omega
  have j1 : (k : Int) < 16 := by omega
  have gx : xs.getD k 0 = xs[k]'(by omega) := by simp [hlx, hk]
  refine (hAct _).mono ?_
  rintro e w5 ⟨rfl, hw⟩
  obtain rfl := hw.symm
  clear hw hAct
  by_cases hn : 0 ≤ n
  · rw [if_pos hn] at hP hM
    rw [hP, hM, show (xs.set k (xs.getD k 0 + n)).getD k 0 = xs.getD k 0 + n by simp [hlx, hk]] at hMany
    rw [hP, hM] at hCg
    have r1' := range_put r1 (k := k) (by omega) (xs.getD k 0 + n)
    have r2' := range_else r2 (show w1.heap.size + 1 ≠ w1.heap.size by omega) (k := k) (.int .i64 (xs.getD k 0 + n))
    have hx' : (xs.set k (xs.getD k 0 + n)).length = 16 := by simp [hlx]
    have hK4 := hB3.setCell (p := ⟨w1.heap.size, k, none⟩) (show w.heap.size ≤ w1.heap.size by omega) (.int .i64 (xs.getD k 0 + n))
    have HR4 : Hid (Dy (w3.setCell ⟨w1.heap.size, k, none⟩ (.int .i64 (xs.getD k 0 + n))) (w.heap.size + 1) (.slice none 0 0) (.slice none 0 0)) := HR.out.aside (by omega) _ _
    generalize hX' : xs.set k (xs.getD k 0 + n) = X' at *
    clear hX' gx
    generalize xs.getD k 0 = x at *
    generalize ys.getD k 0 = y at *
    have a0 : x + n < 9223372036854775808 := by omega
    have a1 : -9223372036854775808 ≤ x + n := by omega
    have d1 : (w3.setCell ⟨w1.heap.size, k, none⟩ (.int .i64 (x + n))).cell? ⟨w1.heap.size, k, none⟩ = some (.int .i64 (x + n)) := World.cell?_setCell_same _ _ _ c1
    have d2 : (w3.setCell ⟨w1.heap.size, k, none⟩ (.int .i64 (x + n))).cell? ⟨w1.heap.size + 1, k, none⟩ = some (.int .i64 y) := (World.cell?_setCells_out w1.heap.size [.int .i64 (x + n)] k w3 _ (fun e => absurd e (by show w1.heap.size + 1 ≠ _; omega))).trans c2
    by_cases hm : 1000000000000 < x + n
    · have HA : Hid _ := hCb (by rw [hMany]; simp [hm])
      clear hMany hCb hCg
      obtain ⟨⟨u0, u1⟩, hf⟩ := HR4.out
      have f0 := hf 0
      have f1 := hf 1
      go_wp2_with fail
      have hp := (Dy.set1 (Dy.set0 HR4.out (.slice none 0 0)) (.slice none 0 0)).1
      refine bodyPost_ret (v := .tuple #[.agg #[.slice none 0 0, .slice none 0 0], .int .i64 11]) ?_ rfl (addNone HA.out ((hK4.setCell (p := ⟨w.heap.size + 1, 0, none⟩) (by show w.heap.size ≤ w.heap.size + 1; omega) _).setCell (p := ⟨w.heap.size + 1, 1, none⟩) (by show w.heap.size ≤ w.heap.size + 1; omega) _))
      simp [results, Try.results16, go_sem, hp.1, hp.2]
    · have HA : Hid _ := hCg (by rw [hMany]; simp; omega)
      replace hm : x + n ≤ 1000000000000 := by omega
      have hy2 := HY.2
      clear hMany hCb hCg
      have HI4 : Hid _ := arr_info hx'
      have HJ4 : Hid _ := arr_info hly
      have hs4 := HR4.out.lt
      go_wp2_with (first | (refine wpList_load_mid rfl 68 _ rfl w1.heap.size 0 rfl (arrC X') _ r1' Try.underlying68 rfl HI4.out ?_) | (refine wpList_load_mid rfl 68 _ rfl (w1.heap.size + 1) 0 rfl (arrC ys) _ r2' Try.underlying68 rfl HJ4.out ?_))
      refine (counterOf_any _ X' ys hx' hly).mono ?_
      rintro e w6 ⟨a6, b6, rfl, ho6, hp6, hap, hb6⟩
      have hB6 := below_seq hK4 hb6
      have hR6 := HR4.out.on hb6
      have hR7 := (Dy.set1 (Dy.set0 hR6 (.slice a6 16 16)) (.slice b6 16 16)).1
      obtain ⟨⟨u0, u1⟩, hf⟩ := hR6
      have f0 := hf 0
      have f1 := hf 1
      have k1 := Own.setK (Own.setK ho6 (P := w.heap.size + 1) 0 (.slice a6 16 16) (by omega)) (P := w.heap.size + 1) 1 (.slice b6 16 16) (by omega)
      have k2 := Own.setK (Own.setK hp6 (P := w.heap.size + 1) 0 (.slice a6 16 16) (by omega)) (P := w.heap.size + 1) 1 (.slice b6 16 16) (by omega)
      have hB7 := (hB6.setCell (p := ⟨w.heap.size + 1, 0, none⟩) (by show w.heap.size ≤ w.heap.size + 1; omega) (.slice a6 16 16)).setCell (p := ⟨w.heap.size + 1, 1, none⟩) (by show w.heap.size ≤ w.heap.size + 1; omega) (.slice b6 16 16)
      clear ho6 hp6 hb6 hB6
      go_wp2_with fail
      refine bodyPost_ret (v := .tuple #[.agg #[.slice a6 16 16, .slice b6 16 16], .int .i64 0]) ?_ rfl ⟨a6, 16, 16, b6, 16, 16, 68, by rw [HA.out.1], by rw [HA.out.2.1]; exact k1.mono (by omega), by rw [HA.out.2.2]; exact k2.mono (by omega), hap, hB7⟩
      simp [results, Try.results16, go_sem, hR7.1, hR7.2]
  · rw [if_neg hn] at hP hM
    rw [hP, hM, show (ys.set k (ys.getD k 0 - n)).getD k 0 = ys.getD k 0 - n by simp [hly, hk]] at hMany
    rw [hP, hM] at hCg
    replace hn : n < 0 := by omega
    have r2' := range_put r2 (k := k) (by omega) (ys.getD k 0 - n)
    have r1' := range_else r1 (show w1.heap.size ≠ w1.heap.size + 1 by omega) (k := k) (.int .i64 (ys.getD k 0 - n))
    have hy' : (ys.set k (ys.getD k 0 - n)).length = 16 := by simp [hly]
    have hK4 := hB3.setCell (p := ⟨w1.heap.size + 1, k, none⟩) (show w.heap.size ≤ w1.heap.size + 1 by omega) (.int .i64 (ys.getD k 0 - n))
    have HR4 : Hid (Dy (w3.setCell ⟨w1.heap.size + 1, k, none⟩ (.int .i64 (ys.getD k 0 - n))) (w.heap.size + 1) (.slice none 0 0) (.slice none 0 0)) := HR.out.aside (by omega) _ _
    generalize hY' : ys.set k (ys.getD k 0 - n) = Y' at *
    clear hY' gx
    generalize xs.getD k 0 = x at *
    generalize ys.getD k 0 = y at *
    have a0 : y - n < 9223372036854775808 := by omega
    have a1 : -9223372036854775808 ≤ y - n := by omega
    have d1 : (w3.setCell ⟨w1.heap.size + 1, k, none⟩ (.int .i64 (y - n))).cell? ⟨w1.heap.size + 1, k, none⟩ = some (.int .i64 (y - n)) := World.cell?_setCell_same _ _ _ c2
    have d2 : (w3.setCell ⟨w1.heap.size + 1, k, none⟩ (.int .i64 (y - n))).cell? ⟨w1.heap.size, k, none⟩ = some (.int .i64 x) := (World.cell?_setCells_out (w1.heap.size + 1) [.int .i64 (y - n)] k w3 _ (fun e => absurd e (by show w1.heap.size ≠ _; omega))).trans c1
    have hx2 := HX.2
    by_cases hm : 1000000000000 < y - n
    · have HA : Hid _ := hCb (by rw [hMany]; simp [hm])
      clear hMany hCb hCg
      obtain ⟨⟨u0, u1⟩, hf⟩ := HR4.out
      have f0 := hf 0
      have f1 := hf 1
      go_wp2_with fail
      have hp := (Dy.set1 (Dy.set0 HR4.out (.slice none 0 0)) (.slice none 0 0)).1
      refine bodyPost_ret (v := .tuple #[.agg #[.slice none 0 0, .slice none 0 0], .int .i64 11]) ?_ rfl (addNone HA.out ((hK4.setCell (p := ⟨w.heap.size + 1, 0, none⟩) (by show w.heap.size ≤ w.heap.size + 1; omega) _).setCell (p := ⟨w.heap.size + 1, 1, none⟩) (by show w.heap.size ≤ w.heap.size + 1; omega) _))
      simp [results, Try.results16, go_sem, hp.1, hp.2]
    · have HA : Hid _ := hCg (by rw [hMany]; simp; omega)
      replace hm : y - n ≤ 1000000000000 := by omega
      clear hMany hCb hCg
      have HI4 : Hid _ := arr_info hlx
      have HJ4 : Hid _ := arr_info hy'
      have hs4 := HR4.out.lt
      go_wp2_with (first | (refine wpList_load_mid rfl 68 _ rfl w1.heap.size 0 rfl (arrC xs) _ r1' Try.underlying68 rfl HI4.out ?_) | (refine wpList_load_mid rfl 68 _ rfl (w1.heap.size + 1) 0 rfl (arrC Y') _ r2' Try.underlying68 rfl HJ4.out ?_))
      refine (counterOf_any _ xs Y' hlx hy').mono ?_
      rintro e w6 ⟨a6, b6, rfl, ho6, hp6, hap, hb6⟩
      have hB6 := below_seq hK4 hb6
      have hR6 := HR4.out.on hb6
      have hR7 := (Dy.set1 (Dy.set0 hR6 (.slice a6 16 16)) (.slice b6 16 16)).1
      obtain ⟨⟨u0, u1⟩, hf⟩ := hR6
      have f0 := hf 0
      have f1 := hf 1
      have k1 := Own.setK (Own.setK ho6 (P := w.heap.size + 1) 0 (.slice a6 16 16) (by omega)) (P := w.heap.size + 1) 1 (.slice b6 16 16) (by omega)
      have k2 := Own.setK (Own.setK hp6 (P := w.heap.size + 1) 0 (.slice a6 16 16) (by omega)) (P := w.heap.size + 1) 1 (.slice b6 16 16) (by omega)
      have hB7 := (hB6.setCell (p := ⟨w.heap.size + 1, 0, none⟩) (by show w.heap.size ≤ w.heap.size + 1; omega) (.slice a6 16 16)).setCell (p := ⟨w.heap.size + 1, 1, none⟩) (by show w.heap.size ≤ w.heap.size + 1; omega) (.slice b6 16 16)
      clear ho6 hp6 hb6 hB6
      go_wp2_with fail
      refine bodyPost_ret (v := .tuple #[.agg #[.slice a6 16 16, .slice b6 16 16], .int .i64 0]) ?_ rfl ⟨a6, 16, 16, b6, 16, 16, 68, by rw [HA.out.1], by rw [HA.out.2.1]; exact k1.mono (by omega), by rw [HA.out.2.2]; exact k2.mono (by omega), hap, hB7⟩
      simp [results, Try.results16, go_sem, hR7.1, hR7.2]

set_option maxHeartbeats 400000 in
theorem implCounterAdd_any (C D : Nat) (w : World) (va vb : Value) (xs ys : List Int) (c n : Int) (hC : C ≤ w.heap.size) (hD : D ≤ w.heap.size) (ha : Rd C w va (xs.map (Value.int .i64))) (hb : Rd D w vb (ys.map (Value.int .i64))) :
    Calls Try.prog 16 #[.agg #[va, vb], .int .i64 c, .int .i64 n] w (AddAns xs ys c n w) := by
  cases hok : (vecOK xs && vecOK ys) with
  | false => exact implAdd_bad C D w va vb xs ys c n hC hD ha hb hok
  | true =>
    by_cases hi : inB c n
    · exact implAdd_in C D w va vb xs ys c n hC hD ha hb hok hi
    · exact implAdd_range C D w va vb xs ys c n hC hD ha hb hok hi

end Go.Proofs.Ytonpeiknoifdbab
