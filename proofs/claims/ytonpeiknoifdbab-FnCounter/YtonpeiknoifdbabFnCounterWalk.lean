/- What the law FnCounter does. -/
import Derived.Test.YtonpeiknoifdbabFrame
import Derived.Test.YtonpeiknoifdbabSrcCtr
import Derived.Test.YtonpeiknoifdbabFnCounterMath
import Derived.Test.YtonpeiknoifdbabCtrJoinSpec
import Derived.Test.YtonpeiknoifdbabCtrAddIn
namespace Go.Proofs.Ytonpeiknoifdbab
open Go.RowKit
set_option linter.unusedVariables false

set_option maxHeartbeats 8000000 in
set_option maxRecDepth 100000 in
theorem lawCounter_walk (a0 : Option Addr) (l0 c0 : Nat) (z0 : List Int) (w : World) (h0 : IsRow .u8 w a0 l0 c0 z0) :
    Calls Try.prog 4 #[.slice a0 l0 c0] w fun e w' => e = .returned (.bool true) ∧ Below w.heap.size w w' := by
  obtain ⟨hr0, hl0⟩ := h0.rd
  have hX0 := h0.bytes
  generalize z0.take l0 = zs at hr0 hl0 hX0
  clear h0
  subst hl0
  by_cases q0 : zs.length ≤ 1048576
  · have i0 : ¬ (1048576 : Int) < (zs.length : Int) := by omega
    have HR0 : Hid (Rd w.heap.size w (.slice a0 zs.length c0) (zs.map (Value.int .u8))) := hr0
    go_enter Try.func4, Try.ntmps4
    go_wp2_with fail
    refine (drawCounterJoin_any w.heap.size w _ zs (Nat.le_refl _) hr0 hX0 q0).mono ?_
    clear hr0
    rintro e w1 ⟨va, vb, vc, vd, xs, ys, us, vs, rfl, R, R', hB⟩
    have oa := R.oa
    have ob := R.ob
    have oc := R'.oa
    have od := R'.ob
    obtain ⟨aa, ca, rfl, _⟩ := oa.slice
    obtain ⟨ab, cb, rfl, _⟩ := ob.slice
    obtain ⟨ac, cc, rfl, _⟩ := oc.slice
    obtain ⟨ad, cd, rfl, _⟩ := od.slice
    simp only [List.length_map] at oa ob oc od ⊢
    have ra := oa.rd
    have rb := ob.rd
    have rc := oc.rd
    have rd := od.rd
    clear oa ob oc od R R'
    generalize hva : Value.slice aa xs.length ca = va at ra ⊢
    generalize hvb : Value.slice ab ys.length cb = vb at rb ⊢
    generalize hvc : Value.slice ac us.length cc = vc at rc ⊢
    generalize hvd : Value.slice ad vs.length cd = vd at rd ⊢
    have hW : Below w1.heap.size w1 ((w1.alloc (.cells #[va, vb] 36)).alloc (.cells #[vc, vd] 36)) := below_then (below_alloc _ _) _
    have hZ := Below.refl ((w1.alloc (.cells #[va, vb] 36)).alloc (.cells #[vc, vd] 36)).heap.size ((w1.alloc (.cells #[va, vb] 36)).alloc (.cells #[vc, vd] 36))
    have hI := fun w' (h : Below w1.heap.size w1 w') => implCounterJoin_any w1.heap.size w1.heap.size w1.heap.size w1.heap.size w' va vb vc vd xs ys us vs h.size h.size h.size h.size (ra.belowW h (Nat.le_refl _)) (rb.belowW h (Nat.le_refl _)) (rc.belowW h (Nat.le_refl _)) (rd.belowW h (Nat.le_refl _))
    have hP := fun w' (h : Below w1.heap.size w1 w') => specCounterJoin_any w1.heap.size w1.heap.size w1.heap.size w1.heap.size w' va vb vc vd xs ys us vs h.size h.size h.size h.size (ra.belowW h (Nat.le_refl _)) (rb.belowW h (Nat.le_refl _)) (rc.belowW h (Nat.le_refl _)) (rd.belowW h (Nat.le_refl _))
    have hI2 := fun w' (h : Below w1.heap.size w1 w') => implCounterJoin_any w1.heap.size w1.heap.size w1.heap.size w1.heap.size w' vc vd va vb us vs xs ys h.size h.size h.size h.size (rc.belowW h (Nat.le_refl _)) (rd.belowW h (Nat.le_refl _)) (ra.belowW h (Nat.le_refl _)) (rb.belowW h (Nat.le_refl _))
    have HRA : Hid (Rd w1.heap.size w1 va (xs.map (Value.int .i64))) := ra
    have HRB : Hid (Rd w1.heap.size w1 vb (ys.map (Value.int .i64))) := rb
    clear ra rb rc rd
    obtain ⟨⟨d0, d1⟩, d2, d3⟩ := vars4 hZ
    cases hok : jnOK xs ys us vs with
    | false =>
      rw [hok] at hI hP
      replace hI : ∀ w' (h : Below w1.heap.size w1 w'), Calls Try.prog 11 #[.agg #[va, vb], .agg #[vc, vd]] w' (TwoAns [] [] 1 w') := hI
      replace hP : ∀ w' (h : Below w1.heap.size w1 w'), Calls Try.prog 12 #[.agg #[va, vb], .agg #[vc, vd]] w' (TwoAns [] [] 1 w') := hP
      clear hI2 HRA HRB hok
      subst hva hvb hvc hvd
      go_wp2_with fail
      refine (hI _ hW).mono ?_
      rintro e w2 ⟨a2, l2, k2, b2, m2, n2, T2, rfl, o2, p2, _, hb2⟩
      have hW2 := below_then (below_seq hW hb2) (.cells #[.slice a2 l2 k2, .slice b2 m2 n2] 36)
      have hZ2 := below_then (below_seq hZ hb2) (.cells #[.slice a2 l2 k2, .slice b2 m2 n2] 36)
      obtain ⟨⟨d0, d1⟩, d2, d3⟩ := vars4 hZ2
      clear hI hb2 o2 p2
      go_wp2_with fail
      refine (hP _ hW2).mono ?_
      rintro e w3 ⟨a3, l3, k3, b3, m3, n3, T3, rfl, o3, p3, _, hb3⟩
      have hW3 := below_then (below_seq hW2 hb3) (.cells #[.slice a3 l3 k3, .slice b3 m3 n3] 36)
      have hBQ := below_seq hB hW3
      clear hP hb3 o3 p3 hW hW2 hW3 hZ hZ2
      go_wp2_with fail
      refine (drawCounterAdd_any w.heap.size _ _ zs hBQ.size (HR0.out.belowW hBQ (Nat.le_refl _)) hX0 q0).mono ?_
      rintro e v1 ⟨va, vb, xs, ys, c, n, rfl, R, hbv⟩
      have hBv := below_seq hBQ hbv
      have oa := R.oa
      have ob := R.ob
      obtain ⟨aa, ca, rfl, _⟩ := oa.slice
      obtain ⟨ab, cb, rfl, _⟩ := ob.slice
      simp only [List.length_map] at oa ob ⊢
      have ra := oa.rd
      have rb := ob.rd
      clear oa ob R hbv
      generalize hva : Value.slice aa xs.length ca = va at ra ⊢
      generalize hvb : Value.slice ab ys.length cb = vb at rb ⊢
      have hV := below_alloc v1 (.cells #[va, vb] 36)
      have hY := Below.refl (v1.alloc (.cells #[va, vb] 36)).heap.size (v1.alloc (.cells #[va, vb] 36))
      have hI := fun w' (h : Below v1.heap.size v1 w') => implCounterAdd_any v1.heap.size v1.heap.size w' va vb xs ys c n h.size h.size (ra.belowW h (Nat.le_refl _)) (rb.belowW h (Nat.le_refl _))
      have hP := fun w' (h : Below v1.heap.size v1 w') => specCounterAdd_any v1.heap.size v1.heap.size w' va vb xs ys c n h.size h.size (ra.belowW h (Nat.le_refl _)) (rb.belowW h (Nat.le_refl _))
      have hQ := fun w' (h : Below v1.heap.size v1 w') => implCounterValue_any v1.heap.size v1.heap.size w' va vb xs ys h.size h.size (ra.belowW h (Nat.le_refl _)) (rb.belowW h (Nat.le_refl _))
      clear ra rb
      obtain ⟨d0, d1⟩ := two_cells hY
      subst hva hvb
      go_wp2_with fail
      refine (hI _ hV).mono ?_
      rintro e v2 ⟨a2, l2, k2, b2, m2, n2, T2, rfl, o2, p2, _, hb2⟩
      have hV2 := below_then (below_seq hV hb2) (.cells #[.slice a2 l2 k2, .slice b2 m2 n2] 36)
      have hY2 := below_then (below_seq hY hb2) (.cells #[.slice a2 l2 k2, .slice b2 m2 n2] 36)
      obtain ⟨d0, d1⟩ := two_cells hY2
      clear hI hb2
      go_wp2_with fail
      refine (hP _ hV2).mono ?_
      rintro e v3 ⟨a3, l3, k3, b3, m3, n3, T3, rfl, o3, p3, _, hb3⟩
      have hV3 := below_then (below_seq hV2 hb3) (.cells #[.slice a3 l3 k3, .slice b3 m3 n3] 36)
      have hY3 := below_then (below_seq hY2 hb3) (.cells #[.slice a3 l3 k3, .slice b3 m3 n3] 36)
      have hD3 := below_then hb3 (.cells #[.slice a3 l3 k3, .slice b3 m3 n3] 36)
      obtain ⟨d0, d1⟩ := two_cells hY3
      obtain ⟨e0, e1⟩ := two_cells hD3
      clear hP hb3 o3 p3
      rcases add_parts xs ys c n with hc | ⟨hc, okx, oky, hi, ea, eb, okp, okm⟩
      · generalize addC xs ys c n = k at hc ⊢
        have hk : (k == 0) = false := by simpa using hc
        have hk' : (k != 0) = true := by simpa using hc
        clear hQ o2 p2
        go_wp2_with fail
        go_ret
        exact ⟨rfl, below_seq hBv hV3⟩
      · rw [hc]
        rw [ea] at o2
        rw [eb] at p2
        have hval := val_add okx oky hi
        have bd := valTo_bd okx oky 16
        have bn := hi.2.2
        have hQ2 := fun w' (h : Below v2.heap.size v2 w') => implCounterValue_any v2.heap.size v2.heap.size w' _ _ _ _ h.size h.size (o2.rd.belowW h (Nat.le_refl _)) (p2.rd.belowW h (Nat.le_refl _))
        rw [cVal_ok okp okm, hval] at hQ2
        rw [cVal_ok okx oky] at hQ
        generalize valTo xs ys 16 = u at hQ hQ2 bd
        have b0 : u + n < 9223372036854775808 := by omega
        have b1 : -9223372036854775808 ≤ u + n := by omega
        clear hc ea eb okp okm hval bd bn hi okx oky o2 p2
        go_wp2_with fail
        refine (hQ _ hV3).mono ?_
        rintro e v4 ⟨rfl, hb4⟩
        have hV4 := below_seq hV3 hb4
        have hD4 := below_seq hD3 hb4
        obtain ⟨e0, e1⟩ := two_cells hD4
        clear hQ
        go_wp2_with fail
        refine (hQ2 _ (below_seq (below_alloc v2 _) hD4)).mono ?_
        rintro e v5 ⟨rfl, hb5⟩
        have hV5 := below_seq hV4 hb5
        clear hQ2
        go_wp2_with fail
        go_ret
        exact ⟨rfl, below_seq hBv hV5⟩
    | true =>
      have hk := hok
      unfold jnOK at hk
      simp only [Bool.and_eq_true] at hk
      obtain ⟨⟨okx, oky⟩, oku, okv⟩ := hk
      have hok2 : jnOK us vs xs ys = true := by unfold jnOK; simp [okx, oky, oku, okv]
      rw [hok] at hI hP
      rw [hok2] at hI2
      have okj := zip_ok okx oku
      have okk := zip_ok oky okv
      have hid1 := zip_idem xs us (by rw [(vecOK_get okx).1, (vecOK_get oku).1])
      have hid2 := zip_idem ys vs (by rw [(vecOK_get oky).1, (vecOK_get okv).1])
      replace hI : ∀ w' (h : Below w1.heap.size w1 w'), Calls Try.prog 11 #[.agg #[va, vb], .agg #[vc, vd]] w' (TwoAns (List.zipWith mxI xs us) (List.zipWith mxI ys vs) 0 w') := hI
      replace hP : ∀ w' (h : Below w1.heap.size w1 w'), Calls Try.prog 12 #[.agg #[va, vb], .agg #[vc, vd]] w' (TwoAns (List.zipWith mxI xs us) (List.zipWith mxI ys vs) 0 w') := hP
      replace hI2 : ∀ w' (h : Below w1.heap.size w1 w'), Calls Try.prog 11 #[.agg #[vc, vd], .agg #[va, vb]] w' (TwoAns (List.zipWith mxI us xs) (List.zipWith mxI vs ys) 0 w') := hI2
      rw [zip_comm us xs, zip_comm vs ys] at hI2
      have hok3 : jnOK (List.zipWith mxI xs us) (List.zipWith mxI ys vs) xs ys = true := by unfold jnOK; simp [okx, oky, okj, okk]
      have HV : Hid (cVal (List.zipWith mxI xs us) (List.zipWith mxI ys vs) = .tuple #[.int .i64 (valTo (List.zipWith mxI xs us) (List.zipWith mxI ys vs) 16), .int .i64 0]) := cVal_ok okj okk
      have HJ : Hid (∀ (C D : Nat) (w' : World) (vj vk : Value), C ≤ w'.heap.size → Below w1.heap.size w1 w' → Rd C w' vj ((List.zipWith mxI xs us).map (Value.int .i64)) → Rd C w' vk ((List.zipWith mxI ys vs).map (Value.int .i64)) → Calls Try.prog 11 #[.agg #[vj, vk], .agg #[va, vb]] w' (TwoAns (List.zipWith mxI xs us) (List.zipWith mxI ys vs) 0 w')) := by
        intro C D w' vj vk hC h h1 h2
        have := implCounterJoin_any C C w1.heap.size w1.heap.size w' vj vk va vb _ _ xs ys hC hC h.size h.size h1 h2 (HRA.out.belowW h (Nat.le_refl _)) (HRB.out.belowW h (Nat.le_refl _))
        rw [hok3] at this
        have t2 : Calls Try.prog 11 #[.agg #[vj, vk], .agg #[va, vb]] w' (TwoAns (List.zipWith mxI (List.zipWith mxI xs us) xs) (List.zipWith mxI (List.zipWith mxI ys vs) ys) 0 w') := this
        rw [hid1, hid2] at t2
        exact t2
      generalize List.zipWith mxI xs us = J1 at *
      generalize List.zipWith mxI ys vs = J2 at *
      generalize valTo J1 J2 16 = u at HV
      clear hok hok2 hok3 okx oky oku okv okj okk hid1 hid2 HRA HRB
      subst hva hvb hvc hvd
      go_wp2_with fail
      refine (hI _ hW).mono ?_
      rintro e w2 ⟨a2, l2, k2, b2, m2, n2, T2, rfl, o2, p2, _, hb2⟩
      have hW2 := below_then (below_seq hW hb2) (.cells #[.slice a2 l2 k2, .slice b2 m2 n2] 36)
      have hZ2 := below_then (below_seq hZ hb2) (.cells #[.slice a2 l2 k2, .slice b2 m2 n2] 36)
      have hJ2 := Below.refl (w2.alloc (.cells #[.slice a2 l2 k2, .slice b2 m2 n2] 36)).heap.size (w2.alloc (.cells #[.slice a2 l2 k2, .slice b2 m2 n2] 36))
      have HO2 : Hid (∀ w', Below (w2.alloc (.cells #[.slice a2 l2 k2, .slice b2 m2 n2] 36)).heap.size (w2.alloc (.cells #[.slice a2 l2 k2, .slice b2 m2 n2] 36)) w' → w2.heap.size ≤ w'.heap.size ∧ Rd w2.heap.size w' (.slice a2 l2 k2) (J1.map (Value.int .i64)) ∧ Rd w2.heap.size w' (.slice b2 m2 n2) (J2.map (Value.int .i64))) := fun w' h => ⟨(below_seq (below_alloc w2 _) h).size, o2.rd.belowW (below_seq (below_alloc w2 _) h) (Nat.le_refl _), p2.rd.belowW (below_seq (below_alloc w2 _) h) (Nat.le_refl _)⟩
      obtain ⟨⟨d0, d1⟩, d2, d3⟩ := vars4 hZ2
      clear hI hb2 o2 p2
      go_wp2_with fail
      refine (hP _ hW2).mono ?_
      rintro e w3 ⟨a3, l3, k3, b3, m3, n3, T3, rfl, o3, p3, _, hb3⟩
      have hW3 := below_then (below_seq hW2 hb3) (.cells #[.slice a3 l3 k3, .slice b3 m3 n3] 36)
      have hZ3 := below_then (below_seq hZ2 hb3) (.cells #[.slice a3 l3 k3, .slice b3 m3 n3] 36)
      have hJ3 := below_then (below_seq hJ2 hb3) (.cells #[.slice a3 l3 k3, .slice b3 m3 n3] 36)
      obtain ⟨⟨d0, d1⟩, d2, d3⟩ := vars4 hZ3
      clear hP hb3 o3 p3
      go_wp2_with fail
      refine (hI2 _ hW3).mono ?_
      rintro e w4 ⟨a4, l4, k4, b4, m4, n4, T4, rfl, o4, p4, _, hb4⟩
      have hW4 := below_then (below_seq hW3 hb4) (.cells #[.slice a4 l4 k4, .slice b4 m4 n4] 36)
      have hZ4 := below_then (below_seq hZ3 hb4) (.cells #[.slice a4 l4 k4, .slice b4 m4 n4] 36)
      have hJ4 := below_then (below_seq hJ3 hb4) (.cells #[.slice a4 l4 k4, .slice b4 m4 n4] 36)
      have hK4 := Below.refl (w4.alloc (.cells #[.slice a4 l4 k4, .slice b4 m4 n4] 36)).heap.size (w4.alloc (.cells #[.slice a4 l4 k4, .slice b4 m4 n4] 36))
      have HO4 : Hid (∀ w', Below (w4.alloc (.cells #[.slice a4 l4 k4, .slice b4 m4 n4] 36)).heap.size (w4.alloc (.cells #[.slice a4 l4 k4, .slice b4 m4 n4] 36)) w' → w4.heap.size ≤ w'.heap.size ∧ Rd w4.heap.size w' (.slice a4 l4 k4) (J1.map (Value.int .i64)) ∧ Rd w4.heap.size w' (.slice b4 m4 n4) (J2.map (Value.int .i64))) := fun w' h => ⟨(below_seq (below_alloc w4 _) h).size, o4.rd.belowW (below_seq (below_alloc w4 _) h) (Nat.le_refl _), p4.rd.belowW (below_seq (below_alloc w4 _) h) (Nat.le_refl _)⟩
      obtain ⟨⟨d0, d1⟩, d2, d3⟩ := vars4 hZ4
      obtain ⟨e0, e1⟩ := two_cells hJ4
      obtain ⟨r1, r2, r3⟩ := HO2.out _ hJ4
      have hJ := HJ.out w2.heap.size 0 _ _ _ r1 hW4 r2 r3
      clear hI2 hb4 o4 p4 r1 r2 r3
      go_wp2_with fail
      refine hJ.mono ?_
      rintro e w5 ⟨a5, l5, k5, b5, m5, n5, T5, rfl, o5, p5, _, hb5⟩
      have hW5 := below_then (below_seq hW4 hb5) (.cells #[.slice a5 l5 k5, .slice b5 m5 n5] 36)
      have hJ5 := below_then (below_seq hJ4 hb5) (.cells #[.slice a5 l5 k5, .slice b5 m5 n5] 36)
      have hK5 := below_then (below_seq hK4 hb5) (.cells #[.slice a5 l5 k5, .slice b5 m5 n5] 36)
      have hL5 := Below.refl (w5.alloc (.cells #[.slice a5 l5 k5, .slice b5 m5 n5] 36)).heap.size (w5.alloc (.cells #[.slice a5 l5 k5, .slice b5 m5 n5] 36))
      have HO5 : Hid (∀ w', Below (w5.alloc (.cells #[.slice a5 l5 k5, .slice b5 m5 n5] 36)).heap.size (w5.alloc (.cells #[.slice a5 l5 k5, .slice b5 m5 n5] 36)) w' → w5.heap.size ≤ w'.heap.size ∧ Rd w5.heap.size w' (.slice a5 l5 k5) (J1.map (Value.int .i64)) ∧ Rd w5.heap.size w' (.slice b5 m5 n5) (J2.map (Value.int .i64))) := fun w' h => ⟨(below_seq (below_alloc w5 _) h).size, o5.rd.belowW (below_seq (below_alloc w5 _) h) (Nat.le_refl _), p5.rd.belowW (below_seq (below_alloc w5 _) h) (Nat.le_refl _)⟩
      obtain ⟨e0, e1⟩ := two_cells hJ5
      obtain ⟨r1, r2, r3⟩ := HO2.out _ hJ5
      have hQ := implCounterValue_any _ _ _ _ _ _ _ r1 r1 r2 r3
      rw [HV.out] at hQ
      clear hJ hb5 o5 p5 r1 r2 r3 hZ hZ2 hZ3 hZ4 hW hW2 hW3 hW4 d0 d1 d2 d3
      go_wp2_with fail
      refine hQ.mono ?_
      rintro e w6 ⟨rfl, hb6⟩
      have hW6 := below_seq hW5 hb6
      have hJ6 := below_seq hJ5 hb6
      have hK6 := below_seq hK5 hb6
      have hL6 := below_seq hL5 hb6
      obtain ⟨e2, e3⟩ := two_cells hK6
      obtain ⟨r1, r2, r3⟩ := HO4.out _ hK6
      have hQ6 := implCounterValue_any _ _ _ _ _ _ _ r1 r1 r2 r3
      rw [HV.out] at hQ6
      clear hQ hb6 r1 r2 r3 hW5 hJ5 hK5 hL5
      go_wp2_with fail
      refine hQ6.mono ?_
      rintro e w7 ⟨rfl, hb7⟩
      have hW7 := below_seq hW6 hb7
      have hJ7 := below_seq hJ6 hb7
      have hL7 := below_seq hL6 hb7
      obtain ⟨e4, e5⟩ := two_cells hL7
      obtain ⟨r1, r2, r3⟩ := HO5.out _ hL7
      have hQ7 := implCounterValue_any _ _ _ _ _ _ _ r1 r1 r2 r3
      rw [HV.out] at hQ7
      clear hQ6 hb7 r1 r2 r3 hW6 hJ6 hK6 hL6 e2 e3
      go_wp2_with fail
      refine hQ7.mono ?_
      rintro e w8 ⟨rfl, hb8⟩
      have hW8 := below_seq hW7 hb8
      have hJ8 := below_seq hJ7 hb8
      obtain ⟨e0, e1⟩ := two_cells hJ8
      obtain ⟨r1, r2, r3⟩ := HO2.out _ hJ8
      have hQ8 := specCounterValue_any _ _ _ _ _ _ _ r1 r1 r2 r3
      rw [HV.out] at hQ8
      clear hQ7 hb8 r1 r2 r3 hW7 hJ7 hL7 e4 e5
      go_wp2_with fail
      refine hQ8.mono ?_
      rintro e w9 ⟨rfl, hb9⟩
      have hBQ := below_seq hB (below_seq hW8 hb9)
      clear hQ8 hb9 hW8 hJ8 HO2 HO4 HO5 HV HJ
      go_wp2_with fail
      refine (drawCounterAdd_any w.heap.size _ _ zs hBQ.size (HR0.out.belowW hBQ (Nat.le_refl _)) hX0 q0).mono ?_
      rintro e v1 ⟨va, vb, xs, ys, c, n, rfl, R, hbv⟩
      have hBv := below_seq hBQ hbv
      have oa := R.oa
      have ob := R.ob
      obtain ⟨aa, ca, rfl, _⟩ := oa.slice
      obtain ⟨ab, cb, rfl, _⟩ := ob.slice
      simp only [List.length_map] at oa ob ⊢
      have ra := oa.rd
      have rb := ob.rd
      clear oa ob R hbv
      generalize hva : Value.slice aa xs.length ca = va at ra ⊢
      generalize hvb : Value.slice ab ys.length cb = vb at rb ⊢
      have hV := below_alloc v1 (.cells #[va, vb] 36)
      have hY := Below.refl (v1.alloc (.cells #[va, vb] 36)).heap.size (v1.alloc (.cells #[va, vb] 36))
      have hI := fun w' (h : Below v1.heap.size v1 w') => implCounterAdd_any v1.heap.size v1.heap.size w' va vb xs ys c n h.size h.size (ra.belowW h (Nat.le_refl _)) (rb.belowW h (Nat.le_refl _))
      have hP := fun w' (h : Below v1.heap.size v1 w') => specCounterAdd_any v1.heap.size v1.heap.size w' va vb xs ys c n h.size h.size (ra.belowW h (Nat.le_refl _)) (rb.belowW h (Nat.le_refl _))
      have hQ := fun w' (h : Below v1.heap.size v1 w') => implCounterValue_any v1.heap.size v1.heap.size w' va vb xs ys h.size h.size (ra.belowW h (Nat.le_refl _)) (rb.belowW h (Nat.le_refl _))
      clear ra rb
      obtain ⟨d0, d1⟩ := two_cells hY
      subst hva hvb
      go_wp2_with fail
      refine (hI _ hV).mono ?_
      rintro e v2 ⟨a2, l2, k2, b2, m2, n2, T2, rfl, o2, p2, _, hb2⟩
      have hV2 := below_then (below_seq hV hb2) (.cells #[.slice a2 l2 k2, .slice b2 m2 n2] 36)
      have hY2 := below_then (below_seq hY hb2) (.cells #[.slice a2 l2 k2, .slice b2 m2 n2] 36)
      obtain ⟨d0, d1⟩ := two_cells hY2
      clear hI hb2
      go_wp2_with fail
      refine (hP _ hV2).mono ?_
      rintro e v3 ⟨a3, l3, k3, b3, m3, n3, T3, rfl, o3, p3, _, hb3⟩
      have hV3 := below_then (below_seq hV2 hb3) (.cells #[.slice a3 l3 k3, .slice b3 m3 n3] 36)
      have hY3 := below_then (below_seq hY2 hb3) (.cells #[.slice a3 l3 k3, .slice b3 m3 n3] 36)
      have hD3 := below_then hb3 (.cells #[.slice a3 l3 k3, .slice b3 m3 n3] 36)
      obtain ⟨d0, d1⟩ := two_cells hY3
      obtain ⟨e0, e1⟩ := two_cells hD3
      clear hP hb3 o3 p3
      rcases add_parts xs ys c n with hc | ⟨hc, okx, oky, hi, ea, eb, okp, okm⟩
      · generalize addC xs ys c n = k at hc ⊢
        have hk : (k == 0) = false := by simpa using hc
        have hk' : (k != 0) = true := by simpa using hc
        clear hQ o2 p2
        go_wp2_with fail
        go_ret
        exact ⟨rfl, below_seq hBv hV3⟩
      · rw [hc]
        rw [ea] at o2
        rw [eb] at p2
        have hval := val_add okx oky hi
        have bd := valTo_bd okx oky 16
        have bn := hi.2.2
        have hQ2 := fun w' (h : Below v2.heap.size v2 w') => implCounterValue_any v2.heap.size v2.heap.size w' _ _ _ _ h.size h.size (o2.rd.belowW h (Nat.le_refl _)) (p2.rd.belowW h (Nat.le_refl _))
        rw [cVal_ok okp okm, hval] at hQ2
        rw [cVal_ok okx oky] at hQ
        generalize valTo xs ys 16 = u at hQ hQ2 bd
        have b0 : u + n < 9223372036854775808 := by omega
        have b1 : -9223372036854775808 ≤ u + n := by omega
        clear hc ea eb okp okm hval bd bn hi okx oky o2 p2
        go_wp2_with fail
        refine (hQ _ hV3).mono ?_
        rintro e v4 ⟨rfl, hb4⟩
        have hV4 := below_seq hV3 hb4
        have hD4 := below_seq hD3 hb4
        obtain ⟨e0, e1⟩ := two_cells hD4
        clear hQ
        go_wp2_with fail
        refine (hQ2 _ (below_seq (below_alloc v2 _) hD4)).mono ?_
        rintro e v5 ⟨rfl, hb5⟩
        have hV5 := below_seq hV4 hb5
        clear hQ2
        go_wp2_with fail
        go_ret
        exact ⟨rfl, below_seq hBv hV5⟩
  · have i0 : (1048576 : Int) < (zs.length : Int) := by omega
    go_enter Try.func4, Try.ntmps4
    go_wp2_with fail
    go_ret
    exact ⟨rfl, Below.refl _ _⟩

end Go.Proofs.Ytonpeiknoifdbab
