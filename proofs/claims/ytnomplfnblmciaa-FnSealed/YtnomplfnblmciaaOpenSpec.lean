/- The specification's OpenText, whole. -/
import Derived.Test.YtnomplfnblmciaaSealSpec
namespace Go.Proofs.Ytnomplfnblmciaa
open Go.RowKit Go.Lib
set_option linter.unusedVariables false

theorem ofInts_injS {a b : List Int} (ha : ∀ c ∈ a, 0 ≤ c ∧ c ≤ 255) (hb : ∀ c ∈ b, 0 ≤ c ∧ c ≤ 255) (h : ofInts a = ofInts b) : a = b := by
  have h1 : (a.map fun n => UInt8.ofNat n.toNat) = (b.map fun n => UInt8.ofNat n.toNat) := by
    have := congrArg (fun s : ByteArray => s.data.toList) h
    simpa [ofInts] using this
  clear h
  induction a generalizing b with
  | nil => cases b with
    | nil => rfl
    | cons y b => simp at h1
  | cons x a ih => cases b with
    | nil => simp at h1
    | cons y b =>
      simp only [List.map_cons, List.cons.injEq] at h1
      have hx := ha x (by simp)
      have hy := hb y (by simp)
      have e : x = y := by
        have e1 := congrArg UInt8.toNat h1.1
        rw [UInt8.toNat_ofNat_of_lt' (by show x.toNat < 256; omega), UInt8.toNat_ofNat_of_lt' (by show y.toNat < 256; omega)] at e1
        omega
      rw [e, ih (fun c hc => ha c (by simp [hc])) (fun c hc => hb c (by simp [hc])) h1.2]
theorem ofInts_decS {xs ys : List Int} (hx : ∀ c ∈ xs, 0 ≤ c ∧ c ≤ 255) (hy : ∀ c ∈ ys, 0 ≤ c ∧ c ≤ 255) : ((ofInts xs).toList == (ofInts ys).toList) = decide (xs = ys) := by
  by_cases h : xs = ys
  · subst h
    simp
  · rw [decide_eq_false h]
    refine beq_eq_false_iff_ne.2 (fun e => h (ofInts_injS hx hy ?_))
    rw [Lib.toList_data, Lib.toList_data] at e
    exact ByteArray.ext (Array.toList_inj.1 e)
theorem ofInts_strInts (s : ByteArray) : ofInts (strInts s) = s := by
  apply ByteArray.ext
  apply Array.toList_inj.1
  simp only [ofInts, strInts, List.map_map]
  conv => rhs; rw [← List.map_id s.data.toList]
  apply List.map_congr_left
  intro b _
  simp
theorem strInts_ofInts {xs : List Int} (h : ∀ c ∈ xs, 0 ≤ c ∧ c ≤ 255) : strInts (ofInts xs) = xs := by
  unfold strInts ofInts
  simp only [List.map_map]
  conv => rhs; rw [← List.map_id xs]
  apply List.map_congr_left
  intro c hc
  have := h c hc
  simp only [Function.comp, id]
  rw [UInt8.toNat_ofNat_of_lt' (by show c.toNat < 256; omega)]
  omega

set_option maxHeartbeats 4000000 in
set_option maxRecDepth 100000 in
theorem specOpen_any (C : Nat) (w : World) (vk vb : Value) (key xs : List Int) (n : Int) (hC : C ≤ w.heap.size) (hk : ∀ c ∈ key, 0 ≤ c ∧ c ≤ 255) (hx : ∀ c ∈ xs, 0 ≤ c ∧ c ≤ 255) (hkl : key.length ≤ 1048576) (hxl : xs.length ≤ 1048576)
    (hra : Rd C w vk (key.map (Value.int .u8))) (hrb : Rd C w vb (xs.map (Value.int .u8))) :
    Calls Try.prog 11 #[vk, .int .i64 n, vb] w fun e w' => e = .returned (.tuple #[.string (ofInts (openR key n xs).1), .int .i64 (openR key n xs).2]) ∧ Below w.heap.size w w' := by
  obtain ⟨i0, hi, hz0, hz1, hz2⟩ := info_parts info5
  have hra0 := hra
  have hrb0 := hrb
  obtain ⟨ao, ca, rfl, _, _, _, hrc⟩ := hra
  obtain ⟨bo, cb, rfl, hcb, _, _, hrd⟩ := hrb
  rw [List.length_map] at hra0 hrb0 hcb hrd ⊢
  rw [List.length_map]
  clear hrc
  by_cases h1 : key.length = 8
  · rw [h1] at hra0 ⊢
    have H1 : Hid (key.length = 8) := h1
    by_cases h2 : n < 0
    · rw [open_range (by omega)]
      clear h1
      go_enter Try.func11, Try.ntmps11
      go_wp2_with fail
      go_ret2
      exact ⟨rfl, Below.refl _ _⟩
    · by_cases h3 : 1000000000000 < n
      · rw [open_range (by omega)]
        clear h1
        go_enter Try.func11, Try.ntmps11
        go_wp2_with fail
        go_ret2
        exact ⟨rfl, Below.refl _ _⟩
      · obtain ⟨m, rfl⟩ := Int.eq_ofNat_of_zero_le (show 0 ≤ n by omega)
        have hm : m ≤ 1000000000000 := by omega
        by_cases h4 : xs.length < 8
        · rw [open_form ⟨h1, by omega, by omega⟩ (by omega)]
          clear h1
          go_enter Try.func11, Try.ntmps11
          go_wp2_with fail
          go_ret2
          exact ⟨rfl, Below.refl _ _⟩
        · by_cases h5 : 208 < xs.length
          · rw [open_form ⟨h1, by omega, by omega⟩ (by omega)]
            clear h1
            go_enter Try.func11, Try.ntmps11
            go_wp2_with fail
            go_ret2
            exact ⟨rfl, Below.refl _ _⟩
          · obtain ⟨p, hp⟩ : ∃ p, xs.length = p + 8 := ⟨xs.length - 8, by omega⟩
            obtain ⟨g, off, rfl, hgC, _⟩ := hrd (by omega)
            have hbody : ∀ (wz : World), Below w.heap.size w wz → Rd wz.heap.size wz (.slice (some ⟨g, off, none⟩) p cb) ((xs.take p).map (Value.int .u8)) := fun wz hz => by
              have h := (Rd.cut ((hrb0.below (hz.mono hC)).mono (show C ≤ wz.heap.size by have := hz.size; omega)) 0 p (Nat.zero_le _) (by rw [List.length_map]; omega) (ao' := some ⟨g, off, none⟩) (by split <;> simp [Addr.add]))
              rwa [Nat.sub_zero, List.drop_zero, ← List.map_take] at h
            have htail : ∀ (wz : World), Below w.heap.size w wz → Rd wz.heap.size wz (.slice (some ⟨g, off + p, none⟩) 8 (cb - p)) ((xs.drop p).map (Value.int .u8)) := fun wz hz => by
              have h := (Rd.cut ((hrb0.below (hz.mono hC)).mono (show C ≤ wz.heap.size by have := hz.size; omega)) p 8 (by rw [List.length_map]; omega) (by rw [List.length_map]; omega) (ao' := some ⟨g, off + p, none⟩) (by rw [if_neg (by omega)]; simp [Addr.add]))
              rwa [List.take_of_length_le (by rw [List.length_drop, List.length_map]; omega), ← List.map_drop] at h
            have hB1 : ∀ c ∈ xs.take p, 0 ≤ c ∧ c ≤ 255 := fun c hc => hx c (List.mem_of_mem_take hc)
            have hT1 : ∀ c ∈ xs.drop p, 0 ≤ c ∧ c ≤ 255 := fun c hc => hx c (List.mem_of_mem_drop hc)
            have hBl : (xs.take p).length = p := by rw [List.length_take]; omega
            have hp8 : xs.length - 8 = p := by omega
            have HR : Hid (openR key (m : Int) xs = if sealL key m (xs.take p) = xs.drop p then (maskL key m (xs.take p), 0) else ([], 10)) := by
              unfold Hid
              split
              · rename_i h; rw [open_ok ⟨h1, hm⟩ ⟨by omega, by omega⟩ (by rw [hp8]; exact h), hp8]
              · rename_i h; rw [open_sum ⟨h1, hm⟩ ⟨by omega, by omega⟩ (by rw [hp8]; exact h)]
            have HSE : Hid (sealL key m (xs.take p) = ksum key (wide m ++ xs.take p)) := rfl
            have HM := fun (wz : World) (hz : Below w.heap.size w wz) => l16Mask_any wz.heap.size wz (.slice ao 8 ca) (.slice (some ⟨g, off, none⟩) p cb) key (xs.take p) m (Nat.le_refl _) hk h1 hm hB1 (by omega) ((hra0.below (hz.mono hC)).mono (by have := hz.size; omega)) (hbody wz hz)
            have HSUM : Hid (∀ (wz : World) (v : Value), Below w.heap.size w wz → Rd wz.heap.size wz v ((wide m ++ xs.take p).map (Value.int .u8)) → Calls Try.prog 18 #[.slice ao 8 ca, v] wz fun e w' => ∃ r, e = .returned r ∧ Own 5 w' wz.heap.size r ((sealL key m (xs.take p)).map (Value.int .u8)) ∧ Below wz.heap.size wz w') := fun wz v hz h3 => l16Sum_any wz.heap.size wz (.slice ao 8 ca) v key (wide m ++ xs.take p) (Nat.le_refl _) hk (fun c hc => (List.mem_append.1 hc).elim (wide_bytes hm c) (hB1 c)) ⟨by omega, by omega⟩ (by rw [List.length_append, wide_len]; omega) ((hra0.below (hz.mono hC)).mono (by have := hz.size; omega)) h3
            have hSb := sealL_bytes key m (xs.take p)
            rw [HR.out]
            have hdec := ofInts_decS hSb hT1
            rw [hp]
            generalize sealL key m (xs.take p) = Y at *
            generalize xs.drop p = T at *
            have HX : Hid (∀ wz, Below w.heap.size w wz → (convert 22 9 (.slice (some ⟨g, off + p, none⟩) 8 (cb - p))).run Try.prog wz = .ok (.string (ofInts T)) wz) := fun wz hz => run_string_of (htail wz hz)
            have hp200 : p ≤ 200 := by omega
            clear h1 h2 h3 h4 h5 hp8 hrb0 hra0 htail HR hrd
            generalize hans : (if Y = T then (maskL key m (xs.take p), 0) else (([] : List Int), (10 : Int))) = ANS
            have HANS : Hid _ := hans
            clear hans
            have q1 : decide ((p : Int) + 8 < 8) = false := by simp; omega
            have q2 : decide ((208 : Int) < (p : Int) + 8) = false := by simp; omega
            have q3 : decide ((1048576 : Int) < (p : Int) + 8) = false := by simp; omega
            have q4 : (p : Int) + 8 - 8 = (p : Int) := by omega
            have q5 : IntKind.i64.wrap ((p : Int) + 8 - 8) = (p : Int) := by rw [IntKind.wrap_i64]; omega
            have hpc : p + 8 ≤ cb := by omega
            have HL : Hid (((xs.take p).map (Value.int .u8)).length = p) := by unfold Hid; rw [List.length_map]; exact hBl
            have HM1 : Hid (((wide m).map (Value.int .u8)).length + p ≤ maxLen) := by unfold Hid maxLen; rw [List.length_map, wide_len]; omega
            have HM2 : Hid ((((wide m).map (Value.int .u8)).length + p) * 1 ≤ 140737488355328) := by unfold Hid; rw [List.length_map, wide_len]; omega
            go_enter Try.func11, Try.ntmps11
            go_wp2_with fail
            refine wp_region_held_drew (S := fun w' => Below w.heap.size w w') (by kernel_rfl) (Below.refl _ _).drew (fun hS => ?_)
            refine tkH 0 (.slice ao 8 ca) rfl (Or.inl ⟨by rfl, by intro w' hSw; go_simp⟩) hS ?_
            simp only [tkS, Act.put]
            refine tkH 1 (.int .i64 (m : Int)) rfl (Or.inl ⟨by rfl, by intro w' hSw; go_simp⟩) hS ?_
            simp only [tkS, Act.put]
            refine tkH 3 (.slice (some ⟨g, off, none⟩) p cb) rfl (Or.inl ⟨by rfl, by intro w' hSw; go_simp⟩) hS ?_
            simp only [tkS, Act.put]
            refine tkH 7 (.slice (some ⟨g, off, none⟩) (p + 8) cb) rfl (Or.inl ⟨by rfl, by intro w' hSw; go_simp⟩) hS ?_
            simp only [tkS, Act.put]
            refine tkH 8 (.slice (some ⟨g, off, none⟩) p cb) rfl (Or.inl ⟨by rfl, by intro w' hSw; go_simp⟩) hS ?_
            simp only [tkS, Act.put]
            refine tkH 9 (.int .i64 (p : Int)) rfl (Or.inl ⟨by rfl, by intro w' hSw; go_simp⟩) hS ?_
            simp only [tkS, Act.put]
            refine tkH 10 (.slice (some ⟨g, off + p, none⟩) 8 (cb - p)) rfl (Or.inl ⟨by rfl, by intro w' hSw; (have q6 : (p : Int) ≤ (p : Int) + 8 := by omega); (have q7 : p + 8 - p = 8 := by omega); (have q8 : ¬ cb = p := by omega); clear hSw q1 q2 q3 q5; go_simp⟩) hS ?_
            simp only [tkS, Act.put]
            refine tkH 11 (.string (ofInts T)) rfl (Or.inl ⟨by rfl, by intro w' hSw; have hh := HX.out w' hSw; clear hSw; go_simp⟩) hS ?_
            simp only [tkS, Act.put]
            refine wpAnyH_ready (rs := [2]) (by kernel_rfl) (by simp) ?_
            refine AllReadyH.cons rfl (fun K hK => ?_) AllReadyH.nil
            go_simp
            refine (l16Eight_any m hm _).mono ?_
            rintro e w3 ⟨r3, rfl, ho3, hb3⟩
            have hB3 : Below w.heap.size w w3 := below_seq (Below.refl _ _).drew hb3
            have z3 := hB3.size
            go_wp2_with fail
            refine hK.out _ _ hB3 (fun hS => ?_)
            clear hK K
            refine wpAnyH_ready (rs := [4]) (by kernel_rfl) (by simp) ?_
            refine AllReadyH.cons rfl (fun K hK => ?_) AllReadyH.nil
            refine step_append_at rfl (.tmp 43) (.tmp 44) 22 rfl w.heap.size 5 i0 (.int .u8 0) 1 Try.underlying22 hi hz0 hz1 hz2 rfl r3 _ rfl ho3 ⟨g, off, none⟩ p cb ((xs.take p).map (Value.int .u8)) rfl HL.out (rd_add (hbody w3 hB3)) (ints_oneCell _ _) HM1.out HM2.out z3 ?_
            intro v4 w4 ho4 hg4
            have hB4 : Below w.heap.size w w4 := hB3.grown hg4 z3 ho3.lt
            have z4 := hB4.size
            rw [← List.map_append] at ho4
            clear hg4 ho3 hb3
            refine hK.out _ _ hB4 (fun hS => ?_)
            clear hK K
            simp only [tkS, Act.put]
            refine wpAnyH_ready (rs := [5]) (by kernel_rfl) (by simp) ?_
            refine AllReadyH.cons rfl (fun K hK => ?_) AllReadyH.nil
            go_simp
            refine (HSUM.out w4 v4 hB4 ho4.rd).mono ?_
            rintro e w5 ⟨r5, rfl, ho5, hb5⟩
            have hB5 := below_seq hB4 hb5
            have z5 := hB5.size
            have hst := run_string_of ho5.rd
            clear ho4 hb5 ho5
            go_wp2_with fail
            refine hK.out _ _ hB5 (fun hS => ?_)
            clear hK K
            refine wpAnyH_ready (rs := [6]) (by kernel_rfl) (by simp) ?_
            refine AllReadyH.cons rfl (fun K hK => ?_) AllReadyH.nil
            go_simp
            refine hK.out _ _ hB5 (fun hS => ?_)
            clear hK K
            by_cases hYT : Y = T
            · have hd : ((ofInts Y).toList == (ofInts T).toList) = true := by rw [hdec]; exact decide_eq_true hYT
              obtain rfl : ANS = (maskL key m (xs.take p), 0) := by rw [← HANS.out, if_pos hYT]
              clear HANS
              clear hdec hYT HSUM HX
              refine wpAnyH_ready (rs := [12]) (by kernel_rfl) (by simp) ?_
              refine AllReadyH.cons rfl (fun K hK => ?_) AllReadyH.nil
              go_simp
              refine hK.out _ _ hB5 (fun hS => ?_)
              clear hK K
              refine wpAnyH_done (by kernel_rfl) ?_ _
              go_wp2_with fail
              refine (HM w5 hB5).mono ?_
              rintro e w6 ⟨r6, rfl, ho6, hb6⟩
              have hB6 := below_seq hB5 hb6
              have hst6 := run_string_of ho6.rd
              go_wp2_with fail
              go_ret2
              exact ⟨rfl, hB6⟩
            · have hd : ((ofInts Y).toList == (ofInts T).toList) = false := by rw [hdec]; exact decide_eq_false hYT
              obtain rfl : ANS = (([] : List Int), (10 : Int)) := by rw [← HANS.out, if_neg hYT]
              clear HANS
              clear hdec hYT HSUM HX HM
              refine wpAnyH_ready (rs := [12]) (by kernel_rfl) (by simp) ?_
              refine AllReadyH.cons rfl (fun K hK => ?_) AllReadyH.nil
              go_simp
              refine hK.out _ _ hB5 (fun hS => ?_)
              clear hK K
              refine wpAnyH_done (by kernel_rfl) ?_ _
              go_wp2_with fail
              go_ret2
              exact ⟨rfl, hB5⟩
  · have hk8 : ¬ (key.length : Int) = 8 := by omega
    rw [open_range (by omega)]
    have a1 : (key.length : Int) ≤ 1048576 := by omega
    have a2 : (xs.length : Int) ≤ 1048576 := by omega
    clear h1
    go_enter Try.func11, Try.ntmps11
    go_wp2_with fail
    go_ret2
    exact ⟨rfl, Below.refl _ _⟩
end Go.Proofs.Ytnomplfnblmciaa
