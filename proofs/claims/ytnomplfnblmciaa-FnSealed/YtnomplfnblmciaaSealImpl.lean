/- The code's SealText, whole. -/
import Derived.Test.YtnomplfnblmciaaSealTurned
import Derived.Test.YtnomplfnblmciaaSealSpec
namespace Go.Proofs.Ytnomplfnblmciaa
open Go.RowKit
set_option linter.unusedVariables false

theorem isCountS_any (n : Int) (w : World) : Calls Try.prog 30 #[.int .i64 n] w fun e w' => e = .returned (.bool (decide (0 ≤ n ∧ n ≤ 1000000000000))) ∧ w' = w := by
  by_cases h : 0 ≤ n
  · by_cases h2 : n ≤ 1000000000000
    · rw [decide_eq_true ⟨h, h2⟩]
      go_enter Try.func30, Try.ntmps30
      go_wp2
      go_ret
      exact ⟨rfl, rfl⟩
    · rw [decide_eq_false (fun k => h2 k.2)]
      go_enter Try.func30, Try.ntmps30
      go_wp2
      go_ret
      exact ⟨rfl, rfl⟩
  · rw [decide_eq_false (fun k => h k.1)]
    go_enter Try.func30, Try.ntmps30
    go_wp2
    go_ret
    exact ⟨rfl, rfl⟩
theorem canSeal_any (ao : Option Addr) (l c : Nat) (n : Int) (w : World) : Calls Try.prog 20 #[.slice ao l c, .int .i64 n] w fun e w' => e = .returned (.bool (decide (l = 8 ∧ 0 ≤ n ∧ n ≤ 1000000000000))) ∧ w' = w := by
  by_cases h : l = 8
  · subst h
    have h1 := fun w => isCountS_any n w
    rw [show decide (8 = 8 ∧ 0 ≤ n ∧ n ≤ 1000000000000) = decide (0 ≤ n ∧ n ≤ 1000000000000) by simp]
    generalize decide (0 ≤ n ∧ n ≤ 1000000000000) = d at *
    go_enter Try.func20, Try.ntmps20
    go_wp2_with (go_at_call 30; refine (h1 _).mono ?_; rintro e w' ⟨rfl, hw⟩; obtain rfl := hw.symm)
    go_ret
    exact ⟨rfl, rfl⟩
  · rw [decide_eq_false (fun k => h k.1)]
    have h2 : ¬ (l : Int) = 8 := by omega
    clear h
    go_enter Try.func20, Try.ntmps20
    go_wp2_with fail
    go_ret
    exact ⟨rfl, rfl⟩
theorem isWordS_any (s : ByteArray) (w : World) : Calls Try.prog 21 #[.string s] w fun e w' => e = .returned (.bool (decide (s.size ≤ 200))) ∧ w' = w := by
  go_enter Try.func21, Try.ntmps21
  go_wp2
  go_ret
  exact ⟨by simp; try omega, rfl⟩
theorem arr8_put (w : World) (X : List Int) (hX : X.length = 8) (Z : Array Value) (hZ : Z.size = 8) (T : TypeId) :
    (w.alloc (.cells Z T)).there w.heap.size 0 (arr8 X).toArray.size ∧ ((w.alloc (.cells Z T)).setCells w.heap.size 0 (arr8 X)).rangeAt w.heap.size 0 (arr8 X) ∧ ((w.alloc (.cells Z T)).setCells w.heap.size 0 (arr8 X)).heap.size = w.heap.size + 1 ∧ Below w.heap.size w ((w.alloc (.cells Z T)).setCells w.heap.size 0 (arr8 X)) := by
  have ht : (w.alloc (.cells Z T)).there w.heap.size 0 8 := there_made (Below.refl _ _) (by omega)
  have e8 : (arr8 X).toArray.size = 8 := by rw [List.size_toArray, arr8_len, hX]
  exact ⟨by rw [e8]; exact ht, World.rangeAt_setCells_same _ _ _ _ (by rw [arr8_len, hX]; exact ht), by rw [size_setCells8]; simp, below_setCells8 (Nat.le_refl _) _ _ _ (below_alloc _ _)⟩

set_option maxHeartbeats 4000000 in
set_option maxRecDepth 100000 in
theorem implSeal_any (C : Nat) (w : World) (vk : Value) (key : List Int) (n : Int) (s : ByteArray) (hC : C ≤ w.heap.size) (hk : ∀ c ∈ key, 0 ≤ c ∧ c ≤ 255) (hkl : key.length ≤ 1048576) (hsl : s.size ≤ 1048576)
    (hra : Rd C w vk (key.map (Value.int .u8))) :
    Calls Try.prog 8 #[vk, .int .i64 n, .string s] w fun e w' => ∃ r, e = .returned (.tuple #[r, .int .i64 (sealC key n (strInts s))]) ∧ Own 5 w' w.heap.size r ((sealB key n (strInts s)).map (Value.int .u8)) ∧ Below w.heap.size w w' := by
  obtain ⟨i0, hi, hz0, hz1, hz2⟩ := info_parts info5
  have hra0 := hra
  obtain ⟨ao, ca, rfl, _, _, _, hrc⟩ := hra
  rw [List.length_map] at hra0 ⊢
  have hls := strInts_lenS s
  have hbs := strInts_byteS s
  have hcS := fun (w : World) => canSeal_any ao key.length ca n w
  have hwS := fun (w : World) => isWordS_any s w
  by_cases h1 : key.length = 8 ∧ 0 ≤ n ∧ n ≤ 1000000000000
  · rw [decide_eq_true h1] at hcS
    obtain ⟨hk8, hn0, hn1⟩ := h1
    by_cases h4 : s.size ≤ 200
    · rw [decide_eq_true h4] at hwS
      obtain ⟨m, rfl⟩ := Int.eq_ofNat_of_zero_le hn0
      have hm : m ≤ 1000000000000 := by omega
      obtain ⟨e1, e2⟩ := seal_yes (key := key) (n := m) (text := strInts s) hk8 hm (by omega)
      rw [e1, e2]
      obtain ⟨g, off, rfl, hgC, _⟩ := hrc (by rw [List.length_map]; omega)
      clear e1 e2 hrc
      have hrg : w.rangeAt g off (arr8 key) := range8_rd hra0
      have hX := maskL_bytes key m hbs
      have hXl := maskL_len key m (strInts s)
      have HT := fun (wz : World) (v : Value) (h : Rd wz.heap.size wz v ((strInts s).map (Value.int .u8))) => turned_any wz.heap.size wz v key (strInts s) m (Nat.le_refl _) hk hk8 hm hbs (by omega) h
      rw [hls] at HT
      generalize maskL key m (strInts s) = X at *
      have HSL := fun (wz : World) (g : Nat) (h : Rd wz.heap.size wz (.slice (some ⟨g, 0, none⟩) X.length s.size) (X.map (Value.int .u8))) => seal_any wz.heap.size wz ⟨g, 0, none⟩ s.size key X m (Nat.le_refl _) hk hk8 hm hX (by omega) h
      have hY8 : (sealL key m X).length = 8 := rfl
      generalize sealL key m X = Y at *
      rw [hXl, hls] at HSL
      rw [hk8] at hcS ⊢
      have HI : Hid _ := arr8_info hk8
      have HI' : Hid _ := arr8_info' hk8
      have HJ' : Hid _ := arr8_info' hY8
      have hat := fun (w : World) => run_arrayAt8 w (some ⟨g, off, none⟩) ca
      obtain ⟨ht0, hr0, hz0', hb0⟩ := arr8_put w key hk8 #[.int .u8 0, .int .u8 0, .int .u8 0, .int .u8 0, .int .u8 0, .int .u8 0, .int .u8 0, .int .u8 0] rfl 41
      obtain ⟨vb, w2, hcv, ⟨ab, cb, rfl⟩, hrb, hb2⟩ := run_bytes_rd ((w.alloc (.cells #[.int .u8 0, .int .u8 0, .int .u8 0, .int .u8 0, .int .u8 0, .int .u8 0, .int .u8 0, .int .u8 0] 41)).setCells w.heap.size 0 (arr8 key)) s hsl
      have hb02 := below_seq hb0 hb2
      have hk2 : Below (w.heap.size + 1) _ w2 := hb2.mono (by omega)
      have hrK : ∀ wz, Below (w.heap.size + 1) w2 wz → wz.rangeAt w.heap.size 0 (arr8 key) := fun wz hz => range8_below (hk2.trans hz) (by omega) hr0
      have z2 : w.heap.size + 1 ≤ w2.heap.size := by have := hk2.size; omega
      have HXL : Hid (X.length = s.size) := by unfold Hid; omega
      clear hXl hls hra0 hgC
      go_enter Try.func8, Try.ntmps8
      go_wp2_with (first | (go_at_call 20; refine (hcS _).mono ?_; rintro e w' ⟨rfl, hw⟩; obtain rfl := hw.symm) | (go_at_call 21; refine (hwS _).mono ?_; rintro e w' ⟨rfl, hw⟩; obtain rfl := hw.symm) | (refine wpList_load_mid rfl 41 _ rfl g off rfl (arr8 key) _ hrg Try.underlying41 rfl HI.out ?_) | (refine wpList_store_mid rfl 41 _ _ rfl w.heap.size 0 (arr8 key).toArray rfl rfl ht0 HI'.out (arr8_all key) ?_) | (refine wpList_load_mid rfl 41 _ rfl w.heap.size 0 rfl (arr8 key) _ hr0 Try.underlying41 rfl HI.out ?_) | (refine wpList_convertB rfl _ _ _ rfl _ _ rfl hcv ?_))
      refine (HT w2 _ hrb).mono ?_
      rintro e w3 ⟨g3, rfl, ho3, hb3⟩
      have hb03 := below_seq hb02 hb3
      have hk3 : Below (w.heap.size + 1) w2 w3 := hb3.mono z2
      have hr3 := hrK w3 hk3
      have z3 := hb3.size
      have HS3 := HSL w3 g3 (by have := ho3.rd; exact this)
      clear hcv HT hrb hb2 hb3 hcS hwS hrg hr0 ht0
      go_wp2_with (refine wpList_load_mid rfl 41 _ rfl w.heap.size 0 rfl (arr8 key) _ hr3 Try.underlying41 rfl HI.out ?_)
      refine HS3.mono ?_
      rintro e w4 ⟨rfl, hb4⟩
      have hb04 := below_seq hb03 hb4
      have z4 := hb4.size
      obtain ⟨ht5, hr5, hz5, hb5⟩ := arr8_put w4 Y hY8 #[.int .u8 0, .int .u8 0, .int .u8 0, .int .u8 0, .int .u8 0, .int .u8 0, .int .u8 0, .int .u8 0] rfl 41
      have ho5 := ((ho3.below hb4 (Nat.le_refl _)).below hb5 (Nat.le_refl _)).mono (show w.heap.size ≤ w2.heap.size by omega)
      have hb05 := below_seq hb04 hb5
      clear HS3 HSL hr3 ho3 hb4
      have hrY : Rd (w4.heap.size + 1) _ (.slice (some ⟨w4.heap.size, 0, none⟩) 8 8) (Y.map (Value.int .u8)) := rd_range8 hr5 hY8 (Nat.lt_succ_self _) (Nat.le_refl _) (by decide)
      have HYL : Hid ((Y.map (Value.int .u8)).length = 8) := by unfold Hid; rw [List.length_map, hY8]
      go_wp2_with (first | (refine wpList_store_mid rfl 41 _ _ rfl w4.heap.size 0 (arr8 Y).toArray rfl rfl ht5 HJ'.out (arr8_all Y) ?_) | (at_builtin; refine wpList_append_rd rfl _ _ 22 rfl w.heap.size 5 i0 (.int .u8 0) 1 Try.underlying22 hi hz0 hz1 hz2 rfl _ _ rfl ho5 (w4.heap.size + 1) _ (Y.map (Value.int .u8)) rfl hrY (ints_oneCell _ _) (by rw [HYL.out, List.length_map, HXL.out]; unfold maxLen; omega) (by rw [HYL.out, List.length_map, HXL.out]; omega) hb05.size ?_))
      intro v6 w6 ho6 hg6
      have hb06 : Below w.heap.size w w6 := hb05.grown hg6 hb05.size ho5.lt
      clear hg6 ho5 hrY
      go_wp2_with fail
      go_ret2
      exact ⟨_, rfl, by rw [List.map_append]; exact ho6, hb06⟩
    · rw [decide_eq_false h4] at hwS
      obtain ⟨e1, e2⟩ := seal_no (key := key) (n := n) (text := strInts s) (by omega)
      rw [e1, e2]
      rw [hk8] at hcS ⊢
      clear e1 e2 hk8 hrc hra0 h4
      go_enter Try.func8, Try.ntmps8
      go_wp2_with (first | (go_at_call 20; refine (hcS _).mono ?_; rintro e w' ⟨rfl, hw⟩; obtain rfl := hw.symm) | (go_at_call 21; refine (hwS _).mono ?_; rintro e w' ⟨rfl, hw⟩; obtain rfl := hw.symm))
      go_ret2
      exact ⟨_, rfl, World.ownsRow_nil _ _ _ _, Below.refl _ _⟩
  · rw [decide_eq_false h1] at hcS
    obtain ⟨e1, e2⟩ := seal_no (key := key) (n := n) (text := strInts s) (fun h => h1 ⟨h.1, h.2.1, h.2.2.1⟩)
    rw [e1, e2]
    clear e1 e2 h1 hrc hra0
    go_enter Try.func8, Try.ntmps8
    go_wp2_with (first | (go_at_call 20; refine (hcS _).mono ?_; rintro e w' ⟨rfl, hw⟩; obtain rfl := hw.symm))
    go_ret2
    exact ⟨_, rfl, World.ownsRow_nil _ _ _ _, Below.refl _ _⟩
end Go.Proofs.Ytnomplfnblmciaa
