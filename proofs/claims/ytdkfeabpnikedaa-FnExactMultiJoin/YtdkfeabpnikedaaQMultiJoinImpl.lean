/- What the code's MultiJoin does. -/
import Derived.Test.YtdkfeabpnikedaaQSetRemImplToFindMath
import Derived.Test.YtdkfeabpnikedaaQSetToldToMultiTold
import Derived.Test.YtdkfeabpnikedaaQNextImplToMultiOf
namespace Go.Proofs.Ytdkfeabpnikedaa
open Go.RowKit
set_option linter.unusedVariables false

set_option maxHeartbeats 8000000 in
set_option maxRecDepth 100000 in
theorem implMultiJoin_any (C : Nat) (w : World) (v ve v' ve' : Value) (xs ys : List Int) (ls ms : List En) (hC : C ≤ w.heap.size) (hv : Rd C w v (xs.map (Value.int .i64))) (he : RdE C w ve ls) (hv' : Rd C w v' (ys.map (Value.int .i64))) (he' : RdE C w ve' ms) :
    Calls Try.prog 16 #[.agg #[v, ve], .agg #[v', ve']] w (SvAns (jnV xs ls ys ms) (jnE xs ls ys ms) (jnC xs ls ys ms) w) := by
  have hxx : xs.length = 16 ∨ okJ xs ls = false := by
    cases hk : vecOK xs with
    | true => exact .inl (vecOK_get hk).1
    | false => exact .inr (okJ_vec hk)
  have hyy : ys.length = 16 ∨ okJ ys ms = false := by
    cases hk : vecOK ys with
    | true => exact .inl (vecOK_get hk).1
    | false => exact .inr (okJ_vec hk)
  have hsl : ∃ ao len cap, v = .slice ao len cap := by
    obtain ⟨ao, cap, rfl, _⟩ := hv
    exact ⟨_, _, _, rfl⟩
  obtain ⟨ao, la, ca, rfl⟩ := hsl
  have hsl : ∃ ao len cap, v' = .slice ao len cap := by
    obtain ⟨ao, cap, rfl, _⟩ := hv'
    exact ⟨_, _, _, rfl⟩
  obtain ⟨bo, lb, cb, rfl⟩ := hsl
  have he0 := he
  obtain ⟨eo, ec, rfl, _⟩ := he0
  have he0 := he'
  obtain ⟨fo, fc, rfl, _⟩ := he0
  obtain ⟨W, hW⟩ : ∃ W, ((w.alloc (.cells #[.slice ao la ca, .slice eo ls.length ec] 32)).alloc (.cells #[.slice bo lb cb, .slice fo ms.length fc] 32)).alloc (.cells #[.slice none 0 0, .slice none 0 0] 32) = W := ⟨_, rfl⟩
  have hB0 : Below w.heap.size w W := by rw [← hW]; exact below_then (below_then (below_alloc _ _) _) _
  have hz0 : W.heap.size = w.heap.size + 1 + 1 + 1 := by rw [← hW]; simp
  have hD0 : Dy W w.heap.size (.slice ao la ca) (.slice eo ls.length ec) := by rw [← hW]; exact ((Dy.made w (.slice ao la ca) (.slice eo ls.length ec) 32).on (below_alloc _ _)).on (below_alloc _ _)
  have hE0 : Dy W (w.heap.size + 1) (.slice bo lb cb) (.slice fo ms.length fc) := by
    have := (Dy.made (w.alloc (.cells #[.slice ao la ca, .slice eo ls.length ec] 32)) (.slice bo lb cb) (.slice fo ms.length fc) 32).on (below_alloc _ (.cells #[.slice none 0 0, .slice none 0 0] 32))
    rw [World.size_alloc, hW] at this
    exact this
  have hR0 : Dy W (w.heap.size + 1 + 1) (.slice none 0 0) (.slice none 0 0) := by
    have := Dy.made ((w.alloc (.cells #[.slice ao la ca, .slice eo ls.length ec] 32)).alloc (.cells #[.slice bo lb cb, .slice fo ms.length fc] 32)) (.slice none 0 0) (.slice none 0 0) 32
    rw [World.size_alloc, World.size_alloc, hW] at this
    exact this
  have hS1 := multiOf_any C W (.slice ao la ca) (.slice eo ls.length ec) xs ls (Nat.le_trans hC hB0.size) (hv.belowW hB0 hC) (he.below (hB0.mono hC))
  obtain ⟨⟨e0, e1⟩, _⟩ := hD0
  go_enter Try.func16, Try.ntmps16
  go_upto_region 1 with fail
  clear hW
  have HZ0 : Hid _ := hz0
  clear hz0
  go_wp2_with fail
  refine hS1.mono ?_
  intro e w2 hA1
  obtain ⟨Z1, rfl, hZ1, hone1, hb1, hfin1⟩ := hA1.out (w := W) hxx (Nat.le_refl _)
  have hsz1 : Z1.toArray.size = 17 := by rw [List.size_toArray]; exact hZ1
  have hi1 : (Try.prog.info? 71).map (·.size) = some Z1.toArray.size := by rw [hsz1]; exact multiMap_info
  have h3 : (w2.alloc (.cells zeroJ.toArray 71)).there w2.heap.size 0 Z1.toArray.size := by rw [hsz1]; exact there_new (n := 17) (by rw [zeroJ_size]; exact Nat.le_refl _)
  have hT3 : (w2.alloc (.cells zeroJ.toArray 71)).there w2.heap.size 0 17 := by rw [← hsz1]; exact h3
  have hb3 : Below w2.heap.size w2 ((w2.alloc (.cells zeroJ.toArray 71)).setCells w2.heap.size 0 Z1) := below_setCells (Nat.le_refl _) _ _ _ (below_alloc _ _)
  have hr3 : ((w2.alloc (.cells zeroJ.toArray 71)).setCells w2.heap.size 0 Z1).rangeAt w2.heap.size 0 Z1 := World.rangeAt_setCells_same _ _ _ _ (by rw [hZ1]; exact hT3)
  have ht3 : ((w2.alloc (.cells zeroJ.toArray 71)).setCells w2.heap.size 0 Z1).there w2.heap.size 0 17 := World.there_setCells hT3 _ _ _
  have hE2 := (hE0.on hb1).on hb3
  have hR3 := (hR0.on hb1).on hb3
  have hBW3 := below_seq hb1 hb3
  have z2 := hb1.size
  clear hA1 hS1 e0 e1 hT3
  obtain ⟨k1, hk1⟩ : ∃ k1, okJ xs ls = k1 := ⟨_, rfl⟩
  rw [hk1] at hfin1 ⊢
  have HK1 : Hid _ := hk1
  clear hk1
  go_upto_region 2 with (first | (refine wpList_store_mid rfl 71 _ _ rfl w2.heap.size 0 Z1.toArray rfl rfl h3 hi1 hone1 ?_))
  obtain ⟨w3, hw3⟩ : ∃ w3, ((w2.alloc (.cells zeroJ.toArray 71)).setCells w2.heap.size 0 Z1) = w3 := ⟨_, rfl⟩
  rw [hw3] at hb3 hr3 ht3 hE2 hR3 hBW3
  change Code.wp _ _ _ _ ((w2.alloc (.cells zeroJ.toArray 71)).setCells w2.heap.size 0 Z1)
  rw [hw3]
  clear hw3 h3 hi1 hone1
  have hS2 := multiOf_any C w3 (.slice bo lb cb) (.slice fo ms.length fc) ys ms (Nat.le_trans hC (below_seq hB0 hBW3).size) (hv'.belowW (below_seq hB0 hBW3) hC) (he'.below ((below_seq hB0 hBW3).mono hC))
  obtain ⟨⟨e0, e1⟩, _⟩ := hE2
  go_wp2_with fail
  refine hS2.mono ?_
  intro e w4 hA2
  obtain ⟨Z2, rfl, hZ2, hone2, hb4, hfin2⟩ := hA2.out (w := w3) hyy (Nat.le_refl _)
  have hsz2 : Z2.toArray.size = 17 := by rw [List.size_toArray]; exact hZ2
  have hi2 : (Try.prog.info? 71).map (·.size) = some Z2.toArray.size := by rw [hsz2]; exact multiMap_info
  have h5 : (w4.alloc (.cells zeroJ.toArray 71)).there w4.heap.size 0 Z2.toArray.size := by rw [hsz2]; exact there_new (n := 17) (by rw [zeroJ_size]; exact Nat.le_refl _)
  have hT5 : (w4.alloc (.cells zeroJ.toArray 71)).there w4.heap.size 0 17 := by rw [← hsz2]; exact h5
  have hb5 : Below w4.heap.size w4 ((w4.alloc (.cells zeroJ.toArray 71)).setCells w4.heap.size 0 Z2) := below_setCells (Nat.le_refl _) _ _ _ (below_alloc _ _)
  have hr5 : ((w4.alloc (.cells zeroJ.toArray 71)).setCells w4.heap.size 0 Z2).rangeAt w4.heap.size 0 Z2 := World.rangeAt_setCells_same _ _ _ _ (by rw [hZ2]; exact hT5)
  have ht5 : ((w4.alloc (.cells zeroJ.toArray 71)).setCells w4.heap.size 0 Z2).there w4.heap.size 0 17 := World.there_setCells hT5 _ _ _
  have hR5 := (hR3.on hb4).on hb5
  have hb35 := below_seq hb4 hb5
  have z4 := hb4.size
  clear hA2 hS2 e0 e1 hT5
  obtain ⟨k2, hk2⟩ : ∃ k2, okJ ys ms = k2 := ⟨_, rfl⟩
  rw [hk2] at hfin2 ⊢
  have HK2 : Hid _ := hk2
  clear hk2
  go_upto_region 3 with (first | (refine wpList_store_mid rfl 71 _ _ rfl w4.heap.size 0 Z2.toArray rfl rfl h5 hi2 hone2 ?_))
  obtain ⟨w5, hw5⟩ : ∃ w5, ((w4.alloc (.cells zeroJ.toArray 71)).setCells w4.heap.size 0 Z2) = w5 := ⟨_, rfl⟩
  rw [hw5] at hb5 hr5 ht5 hR5 hb35
  change Code.wp _ _ _ _ ((w4.alloc (.cells zeroJ.toArray 71)).setCells w4.heap.size 0 Z2)
  rw [hw5]
  clear hw5 h5 hi2 hone2
  have hBw5 := below_seq hB0 (below_seq hBW3 hb35)
  by_cases hboth : k1 = true ∧ k2 = true
  · obtain ⟨rfl, rfl⟩ := hboth
    have hA1 := hfin1 w5 (fun i _ h2 => (below_seq hb3 hb35).block i h2) (below_seq hBW3 hb35)
    have hA2 := hfin2 w5 (fun i _ h2 => hb5.block i h2) hb35
    rcases hA1 with ⟨_, b1, hq1, hbb1, hM1, _⟩ | ⟨_, hq1, _⟩
    · rcases hA2 with ⟨_, b2, hq2, hbb2, hM2, _⟩ | ⟨_, hq2, _⟩
      · have hZ1e : Z1 = arrC xs ++ [Value.map (some b1)] := by simpa using hq1
        have hZ2e : Z2 = arrC ys ++ [Value.map (some b2)] := by simpa using hq2
        subst hZ1e hZ2e
        have x16 := (vecOK_get (vecOK_ofS HK1.out).1).1
        have y16 := (vecOK_get (vecOK_ofS HK2.out).1).1
        have hJ1 : Jm w5 w2.heap.size xs b1 := Jm.on ⟨hr3, ht3⟩ hb35
        have hJ2 : Jm w5 w4.heap.size ys b2 := ⟨hr5, ht5⟩
        have ap1 := okJ_apart HK1.out
        have ap2 := okJ_apart HK2.out
        have hJn := joined_any w5 w2.heap.size b1 w4.heap.size b2 xs ys ls ms hJ1 x16 hM1 hJ2 y16 hM2 (okJ_act HK1.out) (okJ_act HK2.out) (same_both ap1 ap2)
        have hl1 := (vecOK_ofS HK1.out).2
        have hl2 := (vecOK_ofS HK2.out).2
        obtain ⟨Z, hZZ⟩ : ∃ Z, List.zipWith mxI xs ys = Z := ⟨_, rfl⟩
        have hZ : Z.length = 16 := by rw [← hZZ]; simp [x16, y16]
        have HZZ : Hid _ := hZZ
        unfold JnAns at hJn
        rw [hZZ] at hJn
        clear hZZ hq1 hq2 hfin1 hfin2 hr3 ht3 hr5 ht5 hsz1 hsz2 hZ1 hZ2
        go_wp2_with fail
        refine hJn.mono ?_
        rintro e w6 ⟨bj, out1, out, rfl, hbj, hM6, hKp1, hKp2, hb6⟩
        have hperm := jn_mem ap1 ap2 hKp1 hKp2 hM6.apart
        have hlen := hperm.length_eq
        have hjl := jnL_len (X := xs) (Y := ys) ap1 ap2
        obtain ⟨hJ7, hM7⟩ := jm_laidS (T := 71) hZ hM6
        have hb7 : Below w6.heap.size w6 ((w6.alloc (.cells zeroJ.toArray 71)).setCells w6.heap.size 0 (arrC Z ++ [Value.map (some bj)])) := below_setCells (Nat.le_refl _) _ _ _ (below_alloc _ _)
        have hV17 : (arrC Z ++ [Value.map (some bj)]).length = 17 := by simp [arrC_len, hZ]
        have honeV : (arrC Z ++ [Value.map (some bj)]).toArray.all (·.oneCell') = true := all_oneCell_toArray (fun v hv => by rcases List.mem_append.1 hv with h | h; exact arrC_one Z v h; rw [List.mem_singleton.1 h]; rfl)
        have hans : ∀ (w7 : World) (e : Ending) (w8 : World), ToMulti Z out w7 e w8 → SvAns (jnV xs ls ys ms) (jnE xs ls ys ms) (jnC xs ls ys ms) w7 e w8 := by
          rintro w7 e w8 (⟨h256, es, hpe, hue, h⟩ | ⟨hnot, h⟩)
          · obtain ⟨q1, q2, q3⟩ := jn_done ⟨HK1.out, HK2.out⟩ (by omega)
            rw [q1, q2, q3, ← jn_out ap1 ap2 hKp1 hKp2 hpe hue, HZZ.out]
            exact h
          · obtain ⟨q1, q2, q3⟩ := jn_many ⟨HK1.out, HK2.out⟩ (by omega)
            rw [q1, q2, q3]
            exact h
        have hout : out.length ≤ 512 := by omega
        have hR6 := hR5.on hb6
        have hB6 := below_seq hBw5 hb6
        clear hperm hlen hjl hKp1 hKp2 hM6 hJ1 hJ2 hM1 hM2 ap1 ap2 hJn
        obtain ⟨V, hVV⟩ : ∃ V, arrC Z ++ [Value.map (some bj)] = V := ⟨_, rfl⟩
        rw [hVV] at hJ7 hM7 hb7 hV17 honeV
        have hE : (Value.agg (arrC Z ++ [Value.map (some bj)]).toArray) = .agg V.toArray := by rw [hVV]
        rw [hE]
        clear hE hVV
        have hszV : V.toArray.size = 17 := by rw [List.size_toArray]; exact hV17
        have hiV : (Try.prog.info? 71).map (·.size) = some V.toArray.size := by rw [hszV]; exact multiMap_info
        have h7 : (w6.alloc (.cells zeroJ.toArray 71)).there w6.heap.size 0 V.toArray.size := by rw [hszV]; exact there_new (n := 17) (by rw [zeroJ_size]; exact Nat.le_refl _)
        have hbs := built_multi V hV17
        go_upto_region 6 with (first | (refine wpList_build rfl _ _ rfl #[(0, .agg V.toArray)] (by simp; rfl) _ (hbs _) ?_) | (refine wpList_store_mid rfl 71 _ _ rfl w6.heap.size 0 V.toArray rfl rfl h7 hiV honeV ?_))
        obtain ⟨w7, hw7⟩ : ∃ w7, ((w6.alloc (.cells zeroJ.toArray 71)).setCells w6.heap.size 0 V) = w7 := ⟨_, rfl⟩
        rw [hw7] at hb7 hJ7 hM7
        change Code.wp _ _ _ _ ((w6.alloc (.cells zeroJ.toArray 71)).setCells w6.heap.size 0 V)
        rw [hw7]
        clear hw7 h7 hiV honeV hbs hszV hV17
        have hR7 := hR6.on hb7
        have hB7 := below_seq hB6 hb7
        have hT := toldMulti_any out.length (sortsAll.le (by omega)) (by omega) w7 w6.heap.size bj Z out hJ7 hZ hM7 (.inl rfl)
        clear hR6 hB6 hb7 hb6
        go_wp2_with fail
        refine hT.mono ?_
        intro e w8 hto
        obtain ⟨u, v, rfl, hSv, hb8⟩ := hans w7 e w8 hto
        have hR8 := hR7.on hb8
        have hB8 := below_seq hB7 hb8
        have hlt8 := hR7.lt
        obtain ⟨ua, un, uc, va, vn, vc, rfl, rfl⟩ := hSv.shape
        obtain ⟨⟨r0, r1⟩, rf⟩ := hR8
        have f0 := rf 0
        have f1 := rf 1
        have HR : Hid _ := (Dy.set1 (Dy.set0 (show Dy w8 (w.heap.size + 1 + 1) _ _ from ⟨⟨r0, r1⟩, rf⟩) (.slice ua un uc)) (.slice va vn vc)).1
        have hBf := (hB8.setCell (p := ⟨w.heap.size + 1 + 1, 0, none⟩) (by show w.heap.size ≤ w.heap.size + 1 + 1; omega) (.slice ua un uc)).setCell (p := ⟨w.heap.size + 1 + 1, 1, none⟩) (by show w.heap.size ≤ w.heap.size + 1 + 1; omega) (.slice va vn vc)
        have hSf := (sv_put hSv (w.heap.size + 1 + 1) hlt8 (.slice ua un uc) (.slice va vn vc)).mono (B' := w.heap.size) (E' := ((w8.setCell ⟨w.heap.size + 1 + 1, 0, none⟩ (.slice ua un uc)).setCell ⟨w.heap.size + 1 + 1, 1, none⟩ (.slice va vn vc)).heap.size) (by omega) (by simp)
        clear hT hM7 hJ7 hR7 hB7 hb8 hSv hans hto
        go_wp2_with fail
        refine bodyPost_ret (v := .tuple #[.agg #[.slice ua un uc, .slice va vn vc], .int .i64 (jnC xs ls ys ms)]) ?_ rfl ⟨_, _, rfl, hSf, hBf⟩
        simp [results, Try.results16, go_sem, HR.out.1, HR.out.2]
      · simp at hq2
    · simp at hq1
  · have HA : Hid (jnC xs ls ys ms = 1 ∧ jnV xs ls ys ms = [] ∧ jnE xs ls ys ms = []) := jn_bad (by rw [HK1.out, HK2.out]; exact hboth)
    obtain ⟨⟨r0, r1⟩, rf⟩ := hR5
    have f0 := rf 0
    have f1 := rf 1
    have HR : Hid _ := (Dy.set1 (Dy.set0 (show Dy w5 (w.heap.size + 1 + 1) _ _ from ⟨⟨r0, r1⟩, rf⟩) (.slice none 0 0)) (.slice none 0 0)).1
    have hBf := (hBw5.setCell (p := ⟨w.heap.size + 1 + 1, 0, none⟩) (by show w.heap.size ≤ w.heap.size + 1 + 1; omega) (.slice none 0 0)).setCell (p := ⟨w.heap.size + 1 + 1, 1, none⟩) (by show w.heap.size ≤ w.heap.size + 1 + 1; omega) (.slice none 0 0)
    clear hfin1 hfin2 hr3 ht3 hr5 ht5
    cases k1
    · clear hboth
      go_wp2_with fail
      refine bodyPost_ret (v := .tuple #[.agg #[.slice none 0 0, .slice none 0 0], .int .i64 1]) ?_ rfl ⟨_, _, by rw [HA.out.1], by rw [HA.out.2.1, HA.out.2.2]; exact svNone _ _ _, hBf⟩
      simp [results, Try.results16, go_sem, HR.out.1, HR.out.2]
    · cases k2
      · clear hboth
        go_wp2_with fail
        refine bodyPost_ret (v := .tuple #[.agg #[.slice none 0 0, .slice none 0 0], .int .i64 1]) ?_ rfl ⟨_, _, by rw [HA.out.1], by rw [HA.out.2.1, HA.out.2.2]; exact svNone _ _ _, hBf⟩
        simp [results, Try.results16, go_sem, HR.out.1, HR.out.2]
      · exact absurd ⟨rfl, rfl⟩ hboth

end Go.Proofs.Ytdkfeabpnikedaa
