/- The law FnSealed, walked. -/
import Derived.Test.YtnomplfnblmciaaOpenImpl
import Derived.Test.YtnomplfnblmciaaDrawSeal
import Derived.Test.YtnomplfnblmciaaLawAt
import Derived.Test.YtnomplfnblmciaaFrame
namespace Go.Proofs.Ytnomplfnblmciaa
open Go.RowKit Go.Lib
set_option linter.unusedVariables false

theorem rd_keep {w wz : World} {v : Value} {cs : List Value} (h : Rd w.heap.size w v cs) (hz : Below w.heap.size w wz) : Rd wz.heap.size wz v cs := (h.below hz).mono hz.size

set_option maxHeartbeats 8000000 in
set_option maxRecDepth 100000 in
theorem lawSealed_walk (a0 : Option Addr) (len0 cap0 : Nat) (z0 : List Int) (a1 : Option Addr) (len1 cap1 : Nat) (z1 : List Int) (w : World) (h0 : IsRow .u8 w a0 len0 cap0 z0) (h1 : IsRow .u8 w a1 len1 cap1 z1) :
    Calls Try.prog 3 #[.slice a0 len0 cap0, .slice a1 len1 cap1] w fun e w' => e = .returned (.bool true) ∧ Below w.heap.size w w' := by
  obtain ⟨i0, hi, hz0, hz1, hz2⟩ := info_parts info5
  obtain ⟨hra, hlen0⟩ := h0.rd
  obtain ⟨hrb, hlen1⟩ := h1.rd
  have hcode := h0.bytes
  have hmore := h1.bytes
  have hmx0 : len0 ≤ maxLen := by rcases h0 with ⟨_, rfl, _⟩ | ⟨_, _, h1, h2, _⟩ <;> omega
  have hmx1 : len1 ≤ maxLen := by rcases h1 with ⟨_, rfl, _⟩ | ⟨_, _, h1, h2, _⟩ <;> omega
  clear h0 h1
  unfold maxLen at hmx0 hmx1
  generalize z0.take len0 = code at hra hlen0 hcode
  generalize z1.take len1 = more at hrb hlen1 hmore
  subst hlen0 hlen1
  by_cases hl0 : (1048576 : Int) < (code.length : Int)
  · go_enter Try.func3, Try.ntmps3
    go_wp2_with fail
    all_goals go_ret
    all_goals exact ⟨rfl, Below.refl _ _⟩
  by_cases hl1 : (1048576 : Int) < (more.length : Int)
  · go_enter Try.func3, Try.ntmps3
    go_wp2_with fail
    all_goals go_ret
    all_goals exact ⟨rfl, Below.refl _ _⟩
  have hkl : code.length ≤ 1048576 := by omega
  have hbl : more.length ≤ 1048576 := by omega
  have hDR := drawSealText_any w.heap.size w _ code (Nat.le_refl _) hra hcode hkl
  have hAT := fun (wz : World) (hz : Below w.heap.size w wz) (i n : Nat) (hi : i ≤ 1000) (hn : 1 ≤ n) (hn' : n ≤ 1048576) => at_any wz.heap.size wz _ more i n hi hn hn' hmore hbl (rd_keep hrb hz)
  have HAT : Hid (∀ (wz : World) (hz : Below w.heap.size w wz) (i n : Nat) (hi : i ≤ 1000) (hn : 1 ≤ n) (hn' : n ≤ 1048576), Calls Try.prog 10 #[.slice a1 more.length cap1, .int .i64 (i : Int), .int .i64 (n : Int)] wz fun e w' => ∃ r : Nat, e = .returned (.int .i64 (r : Int)) ∧ r < n ∧ ∃ q, w' = wz.drewN q) := hAT
  clear hAT
  go_enter Try.func3, Try.ntmps3
  go_wp2_with fail
  refine hDR.mono ?_
  rintro e w1 ⟨vk, K, n, s, rfl, hKb, hKl, hsl, hRK, hb1⟩
  have hSb := strInts_byteS s
  clear hDR hra
  go_wp2_with fail
  refine (specSeal_any w1.heap.size w1 vk K n s (Nat.le_refl _) hKb (by omega) (by omega) hRK).mono ?_
  rintro e w2 ⟨r0, rfl, ho2, hb2⟩
  have hRK2 := rd_keep hRK hb2
  go_wp2_with fail
  refine (implSeal_any w2.heap.size w2 vk K n s (Nat.le_refl _) hKb (by omega) (by omega) hRK2).mono ?_
  rintro e w3 ⟨r1, rfl, ho3, hb3⟩
  have hRK3 := rd_keep hRK2 hb3
  have hb03 := below_seq hb1 (below_seq hb2 hb3)
  have hst0 := run_string_of (ho2.rd.below hb3)
  have hst1 := run_string_of ho3.rd
  have hBb := sealB_bytes K n hSb
  have hBl := sealB_len K n (strInts s)
  by_cases hok : sealOK K n (strInts s) = true
  · obtain ⟨hK8, hn0, hn1, hs200⟩ := of_decide_eq_true hok
    have hcc : sealC K n (strInts s) = 0 := by unfold sealC; rw [if_pos hok]
    obtain ⟨m, rfl⟩ := Int.eq_ofNat_of_zero_le hn0
    have hop := open_seal hK8 (show m ≤ 1000000000000 by omega) hs200 hSb
    have hBL : (sealB K (m : Int) (strInts s)).length = s.size + 8 := by
      rw [(seal_yes hK8 (show m ≤ 1000000000000 by omega) hs200).1, List.length_append, maskL_len, sealL_len, strInts_lenS]
    rw [hcc]
    generalize sealB K (m : Int) (strInts s) = B at *
    have HIO : Hid (∀ (wz : World) (v kv : Value) (X KK : List Int), Below w3.heap.size w3 wz → (∀ c ∈ X, 0 ≤ c ∧ c ≤ 255) → X.length ≤ 1048576 → Rd wz.heap.size wz v (X.map (Value.int .u8)) → (∀ c ∈ KK, 0 ≤ c ∧ c ≤ 255) → KK.length ≤ 16 → Rd wz.heap.size wz kv (KK.map (Value.int .u8)) → Calls Try.prog 9 #[kv, .int .i64 (m : Int), v] wz fun e w' => e = .returned (.tuple #[.string (ofInts (openR KK (m : Int) X).1), .int .i64 (openR KK (m : Int) X).2]) ∧ Below wz.heap.size wz w') := fun wz v kv X KK hz h1 h2 h3 h4 h5 h6 => implOpen_any wz.heap.size wz kv v KK X m (Nat.le_refl _) h4 h1 (by omega) h2 h6 h3
    have HSO : Hid (∀ (wz : World) (v kv : Value) (X KK : List Int), Below w3.heap.size w3 wz → (∀ c ∈ X, 0 ≤ c ∧ c ≤ 255) → X.length ≤ 1048576 → Rd wz.heap.size wz v (X.map (Value.int .u8)) → (∀ c ∈ KK, 0 ≤ c ∧ c ≤ 255) → KK.length ≤ 16 → Rd wz.heap.size wz kv (KK.map (Value.int .u8)) → Calls Try.prog 11 #[kv, .int .i64 (m : Int), v] wz fun e w' => e = .returned (.tuple #[.string (ofInts (openR KK (m : Int) X).1), .int .i64 (openR KK (m : Int) X).2]) ∧ Below wz.heap.size wz w') := fun wz v kv X KK hz h1 h2 h3 h4 h5 h6 => specOpen_any wz.heap.size wz kv v KK X m (Nat.le_refl _) h4 h1 (by omega) h2 h6 h3
    have hRB : ∀ wz, Below w3.heap.size w3 wz → Rd wz.heap.size wz r1 (B.map (Value.int .u8)) := fun wz hz => rd_keep ho3.rd hz
    have hRKz : ∀ wz, Below w3.heap.size w3 wz → Rd wz.heap.size wz vk (K.map (Value.int .u8)) := fun wz hz => rd_keep hRK3 hz
    obtain ⟨rao, rcap, hr1, _⟩ := ho3.slice
    rw [List.length_map, hBL] at hr1
    subst hr1
    obtain ⟨kao, kcap, hvk, _⟩ := id hRK
    rw [List.length_map, hK8] at hvk
    subst hvk
    have HRB : Hid _ := hRB
    have HRK : Hid _ := hRKz
    have hBml : (B.map (Value.int .u8)).length = s.size + 8 := by rw [List.length_map]; exact hBL
    have HBL : Hid (B.length = s.size + 8) := hBL
    have HK8 : Hid (K.length = 8) := hK8
    have HM1 : Hid ((B.map (Value.int .u8)).length ≤ maxLen) := by unfold Hid maxLen; rw [hBml]; omega
    have hoA : Own 5 (w3.alloc (.cells #[] 5)) w3.heap.size (.slice (some ⟨w3.heap.size, 0, none⟩) 0 0) [] := own_lit w3 5 [] 0 rfl (by decide)
    have hbA := below_alloc w3 (.cells #[] 5)
    clear ho2 ho3 hRK hRK2 hRK3 hRB hRKz hb2 hb3 hok hcc hBL hK8
    have HBM : Hid _ := hBml
    clear hBml
    go_wp2_with (at_builtin; refine wpList_append_rd rfl _ _ 22 rfl w3.heap.size 5 i0 (.int .u8 0) 1 Try.underlying22 hi hz0 hz1 hz2 rfl _ _ rfl hoA _ _ (B.map (Value.int .u8)) rfl (HRB.out _ hbA) (ints_oneCell _ _) (by rw [HBM.out]; unfold maxLen; simp; omega) (by rw [HBM.out]; simp; omega) (by rw [World.size_alloc]; omega) ?_)
    intro v4 w4 ho4 hg4
    have hb4 : Below w3.heap.size w3 w4 := hbA.grown hg4 hbA.size hoA.lt
    clear hg4 hoA hbA
    have c1 := HIO.out w4 v4 (.slice kao 8 kcap) B K hb4 hBb (by omega) ho4.rd hKb hKl (HRK.out w4 hb4)
    rw [hop, ofInts_strInts] at c1
    clear ho4
    go_wp2_with fail
    refine c1.mono ?_
    rintro e w5 ⟨rfl, hb5⟩
    have hb35 := below_seq hb4 hb5
    have hbA := below_seq hb35 (below_alloc w5 (.cells #[] 5))
    have hoA : Own 5 (w5.alloc (.cells #[] 5)) w5.heap.size (.slice (some ⟨w5.heap.size, 0, none⟩) 0 0) [] := own_lit w5 5 [] 0 rfl (by decide)
    have z5 := hb35.size
    clear c1 hb4 hb5 hst0 hst1 hop
    go_wp2_with (at_builtin; refine wpList_append_rd rfl _ _ 22 rfl w5.heap.size 5 i0 (.int .u8 0) 1 Try.underlying22 hi hz0 hz1 hz2 rfl _ _ rfl hoA _ _ (B.map (Value.int .u8)) rfl (HRB.out _ hbA) (ints_oneCell _ _) (by rw [HBM.out]; unfold maxLen; simp; omega) (by rw [HBM.out]; simp; omega) (by rw [World.size_alloc]; omega) ?_)
    intro v6 w6 ho6 hg6
    have hb6 : Below w3.heap.size w3 w6 := hbA.grown hg6 hbA.size (fun k hk => by have := hoA.lt k hk; omega)
    obtain ⟨g, cap, rfl, hgb, hglt, hgc⟩ := ho6.some (by rw [HBM.out]; omega)
    rw [HBM.out] at ho6 ⊢
    have hbw6 := below_seq hb03 hb6
    have c2 := HAT.out w6 hbw6 0 (s.size + 8) (by omega) (by omega) (by omega)
    clear hg6 hoA hbA hgc
    go_wp2_with fail
    refine c2.mono ?_
    rintro e w7 ⟨k, rfl, hk, q7, rfl⟩
    have hkB : k < B.length := by rw [HBL.out]; exact hk
    have HX : Hid (B[k]? = some B[k]) := by unfold Hid; simp [hkB]
    obtain ⟨hx0, hx1⟩ := hBb B[k] (List.getElem_mem hkB)
    generalize B[k] = x at HX hx0 hx1
    have ho7 : Own 5 (w6.drewN q7) w5.heap.size (.slice (some ⟨g, 0, none⟩) (s.size + 8) cap) (B.map (Value.int .u8)) := ho6
    have hb7 : Below w3.heap.size w3 (w6.drewN q7) := below_drewN hb6 q7
    have hglt7 : g < (w6.drewN q7).heap.size := hglt
    generalize w6.drewN q7 = w7 at *
    have hbw7 := below_seq hb03 hb7
    have cx : w7.cell? ⟨g, k, none⟩ = some (.int .u8 x) := by
      have hkm : k < (B.map (Value.int .u8)).length := by rw [List.length_map]; exact hkB
      rw [own_cell ho7 hkm, List.getElem_map]
      have := HX.out
      rw [List.getElem?_eq_getElem hkB] at this
      rw [Option.some.inj this]
    have fx := own_free ho7 k
    have c3 := fun (wz : World) (hz : Below w.heap.size w wz) => HAT.out wz hz 1 255 (by omega) (by omega) (by omega)
    have k0 : (0 : Int) ≤ (k : Int) := by omega
    have k1 : decide ((k : Int) < (s.size : Int) + 8) = true := by simp; omega
    have k2 : (k : Int) < (s.size : Int) + 8 := by omega
    have e255 : ((255 : Nat) : Int) = 255 := rfl
    have e1 : ((1 : Nat) : Int) = 1 := rfl
    simp only [e255, e1] at c3
    have HCX : Hid (∀ q, (w7.drewN q).cell? ⟨g, k, none⟩ = some (.int .u8 x)) := fun q => cx
    have HFX : Hid (∀ q, (w7.drewN q).frozen? ⟨g, k, none⟩ = false) := fun q => fx
    clear ho6 hb6 hglt c2 e255 e1
    go_wp2_with fail
    refine wp_region_held_drew (S := fun _ => True) (by kernel_rfl) trivial (fun hS => ?_)
    refine tkH 0 (.slice (some ⟨g, 0, none⟩) (s.size + 8) cap) rfl (Or.inl ⟨by rfl, by intro w' hSw; clear hSw; go_simp⟩) hS ?_
    simp only [tkS, Act.put]
    refine tkH 1 (.int .i64 (k : Int)) rfl (Or.inl ⟨by rfl, by intro w' hSw; clear hSw; go_simp⟩) hS ?_
    simp only [tkS, Act.put]
    refine tkH 2 (.slice (some ⟨g, 0, none⟩) (s.size + 8) cap) rfl (Or.inl ⟨by rfl, by intro w' hSw; clear hSw; go_simp⟩) hS ?_
    simp only [tkS, Act.put]
    refine tkH 3 (.int .i64 (k : Int)) rfl (Or.inl ⟨by rfl, by intro w' hSw; clear hSw; go_simp⟩) hS ?_
    simp only [tkS, Act.put]
    refine tkH 4 (.pointer (some ⟨g, k, none⟩)) rfl (Or.inl ⟨by rfl, by intro w' hSw; clear hSw; go_simp⟩) hS ?_
    simp only [tkS, Act.put]
    refine tkH 6 (.slice a1 more.length cap1) rfl (Or.inl ⟨by rfl, by intro w' hSw; clear hSw; go_simp⟩) hS ?_
    simp only [tkS, Act.put]
    refine wpAnyH_ready (rs := [5, 7]) (by kernel_rfl) (by simp) ?_
    refine AllReadyH.cons rfl (fun K hK => ?wayA) (AllReadyH.cons rfl (fun K hK => ?wayB) AllReadyH.nil)
    case' wayA =>
      have cxA : w7.drew.cell? ⟨g, k, none⟩ = some (.int .u8 x) := cx
      go_simp
      refine hK.out _ _ trivial (fun hS => ?_)
      clear hK K
      refine wpAnyH_ready (rs := [7]) (by kernel_rfl) (by simp) ?_
      refine AllReadyH.cons rfl (fun K hK => ?_) AllReadyH.nil
      go_simp
      refine (c3 w7.drew hbw7.drew).mono ?_
      rintro e wq ⟨r, rfl, hr, q8, rfl⟩
      go_wp2_with fail
      refine hK.out _ _ trivial (fun hS => ?_)
      clear hK K
      have hw8 : IntKind.i64.wrap (1 + (r : Int)) = 1 + (r : Int) := by rw [IntKind.wrap_i64]; omega
      have hw9 : IntKind.u8.wrap (1 + (r : Int)) = 1 + (r : Int) := by rw [IntKind.wrap_u8]; omega
      refine tkH 8 (.int .i64 (1 + (r : Int))) rfl (Or.inl ⟨by rfl, by intro w' hSw; clear hSw; go_simp⟩) hS ?_
      simp only [tkS, Act.put]
      refine tkH 9 (.int .u8 (1 + (r : Int))) rfl (Or.inl ⟨by rfl, by intro w' hSw; clear hSw; go_simp⟩) hS ?_
      simp only [tkS, Act.put]
      clear cxA
      have ho8 : Own 5 (w7.drewN (1 + q8)) w5.heap.size (.slice (some ⟨g, 0, none⟩) (s.size + 8) cap) (B.map (Value.int .u8)) := ho7
      have cx8 : (w7.drewN (1 + q8)).cell? ⟨g, k, none⟩ = some (.int .u8 x) := cx
      have fx8 : (w7.drewN (1 + q8)).frozen? ⟨g, k, none⟩ = false := fx
      have hb8 : Below w3.heap.size w3 (w7.drewN (1 + q8)) := below_drewN hb7 (1 + q8)
      generalize w7.drewN (1 + q8) = w8 at *
    case' wayB =>
      go_simp
      refine (c3 w7.drew hbw7.drew).mono ?_
      rintro e wq ⟨r, rfl, hr, q8, rfl⟩
      go_wp2_with fail
      refine hK.out _ _ trivial (fun hS => ?_)
      clear hK K
      have hw8 : IntKind.i64.wrap (1 + (r : Int)) = 1 + (r : Int) := by rw [IntKind.wrap_i64]; omega
      have hw9 : IntKind.u8.wrap (1 + (r : Int)) = 1 + (r : Int) := by rw [IntKind.wrap_u8]; omega
      refine tkH 8 (.int .i64 (1 + (r : Int))) rfl (Or.inl ⟨by rfl, by intro w' hSw; clear hSw; go_simp⟩) hS ?_
      simp only [tkS, Act.put]
      refine tkH 9 (.int .u8 (1 + (r : Int))) rfl (Or.inl ⟨by rfl, by intro w' hSw; clear hSw; go_simp⟩) hS ?_
      simp only [tkS, Act.put]
      have cxB : (w7.drewN (1 + q8)).cell? ⟨g, k, none⟩ = some (.int .u8 x) := cx
      refine wpAnyH_ready (rs := [5]) (by kernel_rfl) (by simp) ?_
      refine AllReadyH.cons rfl (fun K hK => ?_) AllReadyH.nil
      go_simp
      refine hK.out _ _ trivial (fun hS => ?_)
      clear hK K cxB
      have ho8 : Own 5 (w7.drewN (1 + q8)) w5.heap.size (.slice (some ⟨g, 0, none⟩) (s.size + 8) cap) (B.map (Value.int .u8)) := ho7
      have cx8 : (w7.drewN (1 + q8)).cell? ⟨g, k, none⟩ = some (.int .u8 x) := cx
      have fx8 : (w7.drewN (1 + q8)).frozen? ⟨g, k, none⟩ = false := fx
      have hb8 : Below w3.heap.size w3 (w7.drewN (1 + q8)) := below_drewN hb7 (1 + q8)
      generalize w7.drewN (1 + q8) = w8 at *
    all_goals
      have hxr := xor_u8 ⟨hx0, hx1⟩ (show 0 ≤ 1 + (r : Int) ∧ 1 + (r : Int) ≤ 255 by omega)
      have hyb := xorI_byte ⟨hx0, hx1⟩ (show 0 ≤ 1 + (r : Int) ∧ 1 + (r : Int) ≤ 255 by omega)
      generalize xorI x (1 + (r : Int)) = y at *
      refine tkH 10 (.int .u8 y) rfl (Or.inl ⟨by rfl, by intro w' hSw; clear hSw; go_simp⟩) hS ?_
      simp only [tkS, Act.put]
      refine tkH 11 (.pointer (some ⟨g, k, none⟩)) rfl (Or.inl ⟨by rfl, by intro w' hSw; clear hSw; go_simp⟩) hS ?_
      simp only [tkS, Act.put]
      refine wpAnyH_ready (rs := [12]) (by kernel_rfl) (by simp) ?_
      refine AllReadyH.cons rfl (fun K hK => ?_) AllReadyH.nil
      go_simp
      refine hK.out _ _ trivial (fun hS => ?_)
      clear hK K
      refine wpAnyH_done (by kernel_rfl) ?_ _
      have ho9 : Own 5 (w8.setCell ⟨g, k, none⟩ (.int .u8 y)) w5.heap.size (.slice (some ⟨g, 0, none⟩) (s.size + 8) cap) ((B.set k y).map (Value.int .u8)) := by
        have h := own_set ho8 k (.int .u8 y)
        rw [← List.map_set] at h
        exact h
      have hb9 : Below w3.heap.size w3 (w8.setCell ⟨g, k, none⟩ (.int .u8 y)) := hb8.setCell (p := ⟨g, k, none⟩) (show w3.heap.size ≤ g by omega) _
      have hB2 : ∀ c ∈ B.set k y, 0 ≤ c ∧ c ≤ 255 := fun c hc => by
        rcases List.mem_or_eq_of_mem_set hc with h | h
        · exact hBb c h
        · rw [h]; exact hyb
      have hB2l : (B.set k y).length ≤ 208 := by rw [List.length_set]; omega
      generalize B.set k y = B2 at *
      generalize w8.setCell ⟨g, k, none⟩ (.int .u8 y) = w9 at *
      have c5 := HIO.out w9 (.slice (some ⟨g, 0, none⟩) (s.size + 8) cap) (.slice kao 8 kcap) B2 K hb9 hB2 (by omega) ho9.rd hKb hKl (HRK.out w9 hb9)
      have c6 := fun (wz : World) (hz : Below w9.heap.size w9 wz) => HSO.out wz (.slice (some ⟨g, 0, none⟩) (s.size + 8) cap) (.slice kao 8 kcap) B2 K (below_seq hb9 hz) hB2 (by omega) (rd_keep ho9.rd hz) hKb hKl (HRK.out wz (below_seq hb9 hz))
      generalize (openR K (m : Int) B2).1 = A1 at *
      generalize (openR K (m : Int) B2).2 = A2 at *
      clear ho8 cx8 fx8 hb8 hxr hw8 hw9 HCX HFX c3 ho7 cx fx hS
      go_wp2_with fail
      refine c5.mono ?_
      rintro e wA ⟨rfl, hbA⟩
      go_wp2_with fail
      refine (c6 wA hbA).mono ?_
      rintro e wB ⟨rfl, hbB⟩
      have hb3B := below_seq hb9 (below_seq hbA hbB)
      have hbC := below_seq hb3B (below_alloc wB (.cells #[] 5))
      have hoC : Own 5 (wB.alloc (.cells #[] 5)) wB.heap.size (.slice (some ⟨wB.heap.size, 0, none⟩) 0 0) [] := own_lit wB 5 [] 0 rfl (by decide)
      have zB := hb3B.size
      have HKM : Hid ((K.map (Value.int .u8)).length = 8) := by unfold Hid; rw [List.length_map]; exact HK8.out
      clear c5 c6 hbA hbB ho9
      go_wp2_with (at_builtin; refine wpList_append_rd rfl _ _ 22 rfl wB.heap.size 5 i0 (.int .u8 0) 1 Try.underlying22 hi hz0 hz1 hz2 rfl _ _ rfl hoC _ _ (K.map (Value.int .u8)) rfl (HRK.out _ hbC) (ints_oneCell _ _) (by rw [HKM.out]; unfold maxLen; simp) (by rw [HKM.out]; simp) (by rw [World.size_alloc]; omega) ?_)
      intro vC wC hoC2 hgC
      have hbC2 : Below w3.heap.size w3 wC := hbC.grown hgC hbC.size (fun k hk => by have := hoC.lt k hk; omega)
      obtain ⟨gC, capC, rfl, hgbC, hgltC, hgcC⟩ := hoC2.some (by rw [HKM.out]; omega)
      rw [HKM.out] at hoC2 ⊢
      have cD := HAT.out wC (below_seq hb03 hbC2) 2 8 (by omega) (by omega) (by omega)
      clear hgC hoC hbC hgcC
      go_wp2_with fail
      refine cD.mono ?_
      rintro e wD ⟨j, rfl, hj, qD, rfl⟩
      have hjK : j < K.length := by rw [HK8.out]; exact hj
      obtain ⟨hu0, hu1⟩ := hKb K[j] (List.getElem_mem hjK)
      have hoD : Own 5 (wC.drewN qD) wB.heap.size (.slice (some ⟨gC, 0, none⟩) 8 capC) (K.map (Value.int .u8)) := hoC2
      have hbD : Below w3.heap.size w3 (wC.drewN qD) := below_drewN hbC2 qD
      have hjm : j < (K.map (Value.int .u8)).length := by rw [List.length_map]; exact hjK
      have cE := own_cell hoD hjm
      rw [List.getElem_map] at cE
      have fE := own_free hoD j
      generalize K[j] = u at *
      generalize wC.drewN qD = wD at *
      have j0 : (0 : Int) ≤ (j : Int) := by omega
      have j1 : (j : Int) < 8 := by omega
      clear cD hoC2 hbC2 hjm
      go_wp2_with fail
      have hoE : Own 5 (wD.setCell ⟨gC, j, none⟩ (.int .u8 ((u + 1) % 256))) wB.heap.size (.slice (some ⟨gC, 0, none⟩) 8 capC) ((K.set j ((u + 1) % 256)).map (Value.int .u8)) := by
        have h := own_set hoD j (.int .u8 ((u + 1) % 256))
        rw [← List.map_set] at h
        exact h
      have hbE : Below w3.heap.size w3 (wD.setCell ⟨gC, j, none⟩ (.int .u8 ((u + 1) % 256))) := hbD.setCell (p := ⟨gC, j, none⟩) (show w3.heap.size ≤ gC by omega) _
      have hK2 : ∀ c ∈ K.set j ((u + 1) % 256), 0 ≤ c ∧ c ≤ 255 := fun c hc => by
        rcases List.mem_or_eq_of_mem_set hc with h | h
        · exact hKb c h
        · rw [h]; omega
      have hK2l : (K.set j ((u + 1) % 256)).length ≤ 16 := by rw [List.length_set]; exact hKl
      generalize K.set j ((u + 1) % 256) = K2 at *
      generalize wD.setCell ⟨gC, j, none⟩ (.int .u8 ((u + 1) % 256)) = wE at *
      have c8 := HIO.out wE (.slice rao (s.size + 8) rcap) (.slice (some ⟨gC, 0, none⟩) 8 capC) B K2 hbE hBb (by omega) (HRB.out wE hbE) hK2 hK2l hoE.rd
      have c9 := fun (wz : World) (hz : Below wE.heap.size wE wz) => HSO.out wz (.slice rao (s.size + 8) rcap) (.slice (some ⟨gC, 0, none⟩) 8 capC) B K2 (below_seq hbE hz) hBb (by omega) (HRB.out wz (below_seq hbE hz)) hK2 hK2l (rd_keep hoE.rd hz)
      generalize (openR K2 (m : Int) B).1 = E1 at *
      generalize (openR K2 (m : Int) B).2 = E2 at *
      clear hoD hbD cE fE hoE
      refine c8.mono ?_
      rintro e wF ⟨rfl, hbF⟩
      go_wp2_with fail
      refine (c9 wF hbF).mono ?_
      rintro e wG ⟨rfl, hbG⟩
      have hbZ := below_seq hb03 (below_seq hbE (below_seq hbF hbG))
      clear c8 c9 hbF hbG
      go_wp2_with fail
      go_ret
      exact ⟨rfl, hbZ⟩
  · have hcc : sealC K n (strInts s) = 4 := by unfold sealC; rw [if_neg hok]
    rw [hcc]
    clear ho2 ho3 hok
    go_wp2_with fail
    go_ret
    exact ⟨rfl, hb03⟩
end Go.Proofs.Ytnomplfnblmciaa
