/- The code's OpenText, whole. -/
import Derived.Test.YtnomplfnblmciaaSealImpl
import Derived.Test.YtnomplfnblmciaaOpenSpec
import Derived.Test.YtnomplfnblmciaaOpenEq
namespace Go.Proofs.Ytnomplfnblmciaa
open Go.RowKit Go.Lib
set_option linter.unusedVariables false

theorem arr8_putD (w : World) (X : List Int) (hX : X.length = 8) (Z : Array Value) (hZ : Z.size = 8) (T : TypeId) :
    (w.alloc (.cells Z T)).drew.there w.heap.size 0 (arr8 X).toArray.size ∧ ((w.alloc (.cells Z T)).drew.setCells w.heap.size 0 (arr8 X)).rangeAt w.heap.size 0 (arr8 X) ∧ ((w.alloc (.cells Z T)).drew.setCells w.heap.size 0 (arr8 X)).heap.size = w.heap.size + 1 ∧ Below w.heap.size w ((w.alloc (.cells Z T)).drew.setCells w.heap.size 0 (arr8 X)) := by
  have ht : (w.alloc (.cells Z T)).drew.there w.heap.size 0 8 := there_made (Below.refl _ _).drew (by omega)
  have e8 : (arr8 X).toArray.size = 8 := by rw [List.size_toArray, arr8_len, hX]
  exact ⟨by rw [e8]; exact ht, World.rangeAt_setCells_same _ _ _ _ (by rw [arr8_len, hX]; exact ht), by rw [size_setCells8]; simp, below_setCells8 (Nat.le_refl _) _ _ _ (below_alloc _ _).drew⟩

set_option maxHeartbeats 4000000 in
set_option maxRecDepth 100000 in
theorem implOpen_any (C : Nat) (w : World) (vk vb : Value) (key xs : List Int) (n : Int) (hC : C ≤ w.heap.size) (hk : ∀ c ∈ key, 0 ≤ c ∧ c ≤ 255) (hx : ∀ c ∈ xs, 0 ≤ c ∧ c ≤ 255) (hkl : key.length ≤ 1048576) (hxl : xs.length ≤ 1048576)
    (hra : Rd C w vk (key.map (Value.int .u8))) (hrb : Rd C w vb (xs.map (Value.int .u8))) :
    Calls Try.prog 9 #[vk, .int .i64 n, vb] w fun e w' => e = .returned (.tuple #[.string (ofInts (openR key n xs).1), .int .i64 (openR key n xs).2]) ∧ Below w.heap.size w w' := by
  have hra0 := hra
  have hrb0 := hrb
  obtain ⟨ao, ca, rfl, _, _, _, hrc⟩ := hra
  obtain ⟨bo, cb, rfl, hcb, hcm, _, hrd⟩ := hrb
  rw [List.length_map] at hra0 hrb0 hcb hrd ⊢
  rw [List.length_map]
  have hcS := fun (w : World) => canSeal_any ao key.length ca n w
  by_cases h1 : key.length = 8 ∧ 0 ≤ n ∧ n ≤ 1000000000000
  · rw [decide_eq_true h1] at hcS
    have h1' := h1
    obtain ⟨hk8, hn0, hn1⟩ := h1
    rw [hk8] at hcS ⊢
    by_cases h4 : xs.length < 8
    · rw [open_form h1' (by omega)]
      have hw : IntKind.i64.wrap ((xs.length : Int) - 8) = (xs.length : Int) - 8 := by rw [IntKind.wrap_i64]; omega
      have hd : decide ((xs.length : Int) - 8 < 0) = true := by simp; omega
      clear hrc hrd hra0 hrb0 hk8 h1' h4
      go_enter Try.func9, Try.ntmps9
      go_wp2_with (go_at_call 20; refine (hcS _).mono ?_; rintro e w' ⟨rfl, hw⟩; obtain rfl := hw.symm)
      all_goals go_ret2
      all_goals exact ⟨rfl, Below.refl _ _⟩
    · by_cases h5 : 208 < xs.length
      · rw [open_form h1' (by omega)]
        have hw : IntKind.i64.wrap ((xs.length : Int) - 8) = (xs.length : Int) - 8 := by rw [IntKind.wrap_i64]; omega
        have hd : decide ((xs.length : Int) - 8 < 0) = false := by simp; omega
        have hd2 : decide ((200 : Int) < (xs.length : Int) - 8) = true := by simp; omega
        clear hrc hrd hra0 hrb0 hk8 h1' h4 h5
        go_enter Try.func9, Try.ntmps9
        go_wp2_with (go_at_call 20; refine (hcS _).mono ?_; rintro e w' ⟨rfl, hw⟩; obtain rfl := hw.symm)
        all_goals go_ret2
        all_goals exact ⟨rfl, Below.refl _ _⟩
      · obtain ⟨m, rfl⟩ := Int.eq_ofNat_of_zero_le hn0
        have hm : m ≤ 1000000000000 := by omega
        obtain ⟨p, hp⟩ : ∃ p, xs.length = p + 8 := ⟨xs.length - 8, by omega⟩
        have hp200 : p ≤ 200 := by omega
        obtain ⟨g, off, rfl, hgC, _⟩ := hrd (by omega)
        obtain ⟨gk, ko, rfl, hgk, _⟩ := hrc (by rw [List.length_map]; omega)
        have hbody : ∀ (wz : World), Below w.heap.size w wz → Rd wz.heap.size wz (.slice (some ⟨g, off, none⟩) p cb) ((xs.take p).map (Value.int .u8)) := fun wz hz => by
          have h := (Rd.cut ((hrb0.below (hz.mono hC)).mono (show C ≤ wz.heap.size by have := hz.size; omega)) 0 p (Nat.zero_le _) (by rw [List.length_map]; omega) (ao' := some ⟨g, off, none⟩) (by split <;> simp [Addr.add]))
          rwa [Nat.sub_zero, List.drop_zero, ← List.map_take] at h
        have htail : ∀ (wz : World), Below w.heap.size w wz → wz.rangeAt g (off + p) (arr8 (xs.drop p)) := fun wz hz => by
          have h := (Rd.cut ((hrb0.below (hz.mono hC)).mono (show C ≤ wz.heap.size by have := hz.size; omega)) p 8 (by rw [List.length_map]; omega) (by rw [List.length_map]; omega) (ao' := some ⟨g, off + p, none⟩) (by rw [if_neg (by omega)]; simp [Addr.add]))
          rw [List.take_of_length_le (by rw [List.length_drop, List.length_map]; omega), ← List.map_drop] at h
          exact range8_rd h
        have hrg : ∀ (wz : World), Below w.heap.size w wz → wz.rangeAt gk ko (arr8 key) := fun wz hz => range8_below hz (by omega) (range8_rd hra0)
        have hB1 : ∀ c ∈ xs.take p, 0 ≤ c ∧ c ≤ 255 := fun c hc => hx c (List.mem_of_mem_take hc)
        have hBl : (xs.take p).length = p := by rw [List.length_take]; omega
        have hT8 : (xs.drop p).length = 8 := by rw [List.length_drop]; omega
        have hp8 : xs.length - 8 = p := by omega
        have HR : Hid (openR key (m : Int) xs = if sealL key m (xs.take p) = xs.drop p then (maskL key m (xs.take p), 0) else ([], 10)) := by
          unfold Hid
          split
          · rename_i h; rw [open_ok ⟨hk8, hm⟩ ⟨by omega, by omega⟩ (by rw [hp8]; exact h), hp8]
          · rename_i h; rw [open_sum ⟨hk8, hm⟩ ⟨by omega, by omega⟩ (by rw [hp8]; exact h)]
        have HT := fun (wz : World) (hz : Below w.heap.size w wz) => turned_any wz.heap.size wz (.slice (some ⟨g, off, none⟩) p cb) key (xs.take p) m (Nat.le_refl _) hk hk8 hm hB1 (by omega) (hbody wz hz)
        have HSL := fun (wz : World) (hz : Below w.heap.size w wz) => seal_any wz.heap.size wz ⟨g, off, none⟩ cb key (xs.take p) m (Nat.le_refl _) hk hk8 hm hB1 (by omega) (by rw [hBl]; exact hbody wz hz)
        rw [hBl] at HSL HT
        rw [HR.out]
        have hY8 : (sealL key m (xs.take p)).length = 8 := rfl
        rw [hp]
        generalize sealL key m (xs.take p) = Y at *
        generalize xs.drop p = T at *
        generalize hans : (if Y = T then (maskL key m (xs.take p), 0) else (([] : List Int), (10 : Int))) = ANS
        have HANS : Hid _ := hans
        have HI : Hid _ := arr8_info hk8
        have HI' : Hid _ := arr8_info' hk8
        have HJ : Hid _ := arr8_info hT8
        have hq : ∀ w', (Op.equalIn 10000 41 (.agg (arr8 T).toArray) (.agg (arr8 Y).toArray)).run Try.prog w' = .ok (decide (T = Y)) w' := fun w' => run_equal8 9998 w' T Y hT8 hY8
        have q1 : decide ((p : Int) < 0) = false := by simp
        have q2 : decide ((200 : Int) < (p : Int)) = false := by simp; omega
        have q4 : (p : Int) + 8 - 8 = (p : Int) := by omega
        have q5 : IntKind.i64.wrap ((p : Int) + 8 - 8) = (p : Int) := by rw [IntKind.wrap_i64]; omega
        have hpc : p + 8 ≤ cb := by omega
        have HS : Hid (∀ wz, Below w.heap.size w wz → wz.rangeAt gk ko (arr8 key)) := hrg
        obtain ⟨ht0, hr0, hz0, hb0⟩ := arr8_putD w key hk8 #[.int .u8 0, .int .u8 0, .int .u8 0, .int .u8 0, .int .u8 0, .int .u8 0, .int .u8 0, .int .u8 0] rfl 41
        have hat := fun (w : World) => run_arrayAt8 w (some ⟨gk, ko, none⟩) ca
        have hat2 := fun (w : World) => run_arrayAt8 w (some ⟨g, off + p, none⟩) (cb - p)
        clear hans hp8 hrb0 hra0 HR hrd hrc h4 h5 h1' hp hbody hrg hxl
        go_enter Try.func9, Try.ntmps9
        go_wp2_with (go_at_call 20; refine (hcS _).mono ?_; rintro e w' ⟨rfl, hw⟩; obtain rfl := hw.symm)
        refine wp_region_held_drew (S := fun w' => w'.rangeAt gk ko (arr8 key)) (by kernel_rfl) (HS.out _ (Below.refl _ _).drew) (fun hS => ?_)
        refine tkH 0 (.slice (some ⟨gk, ko, none⟩) 8 ca) rfl (Or.inl ⟨by rfl, by intro w' hSw; clear hSw; go_simp⟩) hS ?_
        simp only [tkS, Act.put]
        refine tkH 1 (.pointer (some ⟨gk, ko, none⟩)) rfl (Or.inl ⟨by rfl, by intro w' hSw; clear hSw; go_simp⟩) hS ?_
        simp only [tkS, Act.put]
        refine tkH 2 (.agg (arr8 key).toArray) rfl (yieldsIf_load_mid rfl _ _ rfl gk ko rfl (arr8 key) _ (fun w h => h) Try.underlying41 rfl HI.out) hS ?_
        simp only [tkS, Act.put]
        refine tkH 3 (.slice (some ⟨g, off, none⟩) (p + 8) cb) rfl (Or.inl ⟨by rfl, by intro w' hSw; clear hSw; go_simp⟩) hS ?_
        simp only [tkS, Act.put]
        refine tkH 4 (.int .i64 (p : Int)) rfl (Or.inl ⟨by rfl, by intro w' hSw; clear hSw; go_simp⟩) hS ?_
        simp only [tkS, Act.put]
        refine tkH 5 (.slice (some ⟨g, off, none⟩) p cb) rfl (Or.inl ⟨by rfl, by intro w' hSw; clear hSw; (have q6 : (p : Int) ≤ (p : Int) + 8 := by omega); (have q9 : ¬ cb < p := by omega); (have q10 : (p : Int) ≤ (cb : Int) := by omega); clear q1 q2 q4 q5; go_simp⟩) hS ?_
        simp only [tkS, Act.put]
        refine wpAnyH_ready (rs := [6]) (by kernel_rfl) (by simp) ?_
        refine AllReadyH.cons rfl (fun K hK => ?_) AllReadyH.nil
        go_simp
        refine hK.out _ _ (HS.out _ ((below_alloc w _).drew)) (fun hS => ?_)
        clear hK K
        refine wpAnyH_ready (rs := [7]) (by kernel_rfl) (by simp) ?_
        refine AllReadyH.cons rfl (fun K hK => ?_) AllReadyH.nil
        rw [if_pos (by rfl)]
        refine wp_store_mid _ _ _ rfl w.heap.size 0 (arr8 key).toArray rfl rfl ht0 HI'.out (arr8_all key) ?_
        generalize (w.alloc (.cells #[.int .u8 0, .int .u8 0, .int .u8 0, .int .u8 0, .int .u8 0, .int .u8 0, .int .u8 0, .int .u8 0] 41)).drew.setCells w.heap.size 0 (arr8 key) = w1 at *
        refine hK.out _ _ (HS.out _ hb0) (fun hS => ?_)
        clear hK K
        refine wpAnyH_ready (rs := [8]) (by kernel_rfl) (by simp) ?_
        refine AllReadyH.cons rfl (fun K hK => ?_) AllReadyH.nil
        go_simp
        refine hK.out _ _ (HS.out _ hb0) (fun hS => ?_)
        clear hK K
        refine wpAnyH_done (by kernel_rfl) ?_ _
        have hk1 : ∀ wz, Below w1.heap.size w1 wz → wz.rangeAt g (off + p) (arr8 T) ∧ wz.rangeAt w.heap.size 0 (arr8 key) := fun wz hz => ⟨htail wz (below_seq hb0 hz), range8_below hz (by omega) hr0⟩
        have HK1 : Hid _ := hk1
        have HBW : Hid (∀ wz, Below w1.heap.size w1 wz → Below w.heap.size w wz) := fun wz hz => below_seq hb0 hz
        clear hk1 htail hr0 hb0 ht0 hS HS
        go_wp2_with fail
        refine wp_region_held_drew (S := fun w' => w'.rangeAt g (off + p) (arr8 T) ∧ w'.rangeAt w.heap.size 0 (arr8 key)) (by kernel_rfl) (HK1.out _ (Below.refl _ _).drew) (fun hS => ?_)
        refine tkH 0 (.slice (some ⟨g, off, none⟩) (p + 8) cb) rfl (Or.inl ⟨by rfl, by intro w' hSw; clear hSw; go_simp⟩) hS ?_
        simp only [tkS, Act.put]
        refine tkH 1 (.int .i64 (p : Int)) rfl (Or.inl ⟨by rfl, by intro w' hSw; clear hSw; go_simp⟩) hS ?_
        simp only [tkS, Act.put]
        refine tkH 2 (.slice (some ⟨g, off + p, none⟩) 8 (cb - p)) rfl (Or.inl ⟨by rfl, by intro w' hSw; clear hSw; (have q6 : (p : Int) ≤ (p : Int) + 8 := by omega); (have q7 : p + 8 - p = 8 := by omega); (have q8 : ¬ cb = p := by omega); clear q1 q2 q4 q5; go_simp⟩) hS ?_
        simp only [tkS, Act.put]
        refine tkH 3 (.pointer (some ⟨g, off + p, none⟩)) rfl (Or.inl ⟨by rfl, by intro w' hSw; clear hSw; go_simp⟩) hS ?_
        simp only [tkS, Act.put]
        refine tkH 4 (.agg (arr8 T).toArray) rfl (yieldsIf_load_mid rfl _ _ rfl g (off + p) rfl (arr8 T) _ (fun w h => h.1) Try.underlying41 rfl HJ.out) hS ?_
        simp only [tkS, Act.put]
        refine tkH 5 (.agg (arr8 key).toArray) rfl (yieldsIf_load_mid rfl _ _ rfl w.heap.size 0 rfl (arr8 key) _ (fun w h => h.2) Try.underlying41 rfl HI.out) hS ?_
        simp only [tkS, Act.put]
        refine tkH 6 (.int .i64 (m : Int)) rfl (Or.inl ⟨by rfl, by intro w' hSw; clear hSw; go_simp⟩) hS ?_
        simp only [tkS, Act.put]
        refine tkH 7 (.slice (some ⟨g, off, none⟩) p cb) rfl (Or.inl ⟨by rfl, by intro w' hSw; clear hSw; go_simp⟩) hS ?_
        simp only [tkS, Act.put]
        refine wpAnyH_ready (rs := [8]) (by kernel_rfl) (by simp) ?_
        refine AllReadyH.cons rfl (fun K hK => ?_) AllReadyH.nil
        go_simp
        refine (HSL w1.drew (HBW.out _ (Below.refl _ _).drew)).mono ?_
        rintro e w5 ⟨rfl, hb5⟩
        have hB5 : Below w1.heap.size w1 w5 := below_seq (Below.refl _ _).drew hb5
        go_wp2_with fail
        refine hK.out _ _ (HK1.out _ hB5) (fun hS => ?_)
        clear hK K
        by_cases hYT : Y = T
        · obtain rfl : ANS = (maskL key m (xs.take p), 0) := by rw [← HANS.out, if_pos hYT]
          have hd : decide (T = Y) = true := decide_eq_true hYT.symm
          simp only [hd] at hq
          have hrk5 := (HK1.out w5 hB5).2
          clear HANS hYT hd
          refine wpAnyH_ready (rs := [9]) (by kernel_rfl) (by simp) ?_
          refine AllReadyH.cons rfl (fun K hK => ?_) AllReadyH.nil
          go_simp
          refine hK.out _ _ (HK1.out _ hB5) (fun hS => ?_)
          clear hK K
          refine wpAnyH_done (by kernel_rfl) ?_ _
          have HT5 := HT w5 (HBW.out _ hB5)
          clear HK1 HSL HT hS
          go_wp2_with (refine wpList_load_mid rfl 41 _ rfl w.heap.size 0 rfl (arr8 key) _ hrk5 Try.underlying41 rfl HI.out ?_)
          refine HT5.mono ?_
          rintro e w6 ⟨g6, rfl, ho6, hb6⟩
          have hB6 := below_seq (HBW.out _ hB5) hb6
          have hst6 := run_string_of ho6.rd
          clear HT5
          go_wp2_with fail
          go_ret2
          exact ⟨rfl, hB6⟩
        · obtain rfl : ANS = (([] : List Int), (10 : Int)) := by rw [← HANS.out, if_neg hYT]
          have hd : decide (T = Y) = false := decide_eq_false (fun e => hYT e.symm)
          simp only [hd] at hq
          have hB5w := HBW.out _ hB5
          clear HANS hYT hd
          refine wpAnyH_ready (rs := [9]) (by kernel_rfl) (by simp) ?_
          refine AllReadyH.cons rfl (fun K hK => ?_) AllReadyH.nil
          go_simp
          refine hK.out _ _ (HK1.out _ hB5) (fun hS => ?_)
          clear hK K
          refine wpAnyH_done (by kernel_rfl) ?_ _
          clear HK1 HSL HT hS
          go_wp2_with fail
          go_ret2
          exact ⟨rfl, hB5w⟩
  · rw [open_range h1]
    rw [decide_eq_false h1] at hcS
    clear h1 hrc hrd hra0 hrb0
    go_enter Try.func9, Try.ntmps9
    go_wp2_with (go_at_call 20; refine (hcS _).mono ?_; rintro e w' ⟨rfl, hw⟩; obtain rfl := hw.symm)
    go_ret2
    exact ⟨rfl, Below.refl _ _⟩
end Go.Proofs.Ytnomplfnblmciaa
