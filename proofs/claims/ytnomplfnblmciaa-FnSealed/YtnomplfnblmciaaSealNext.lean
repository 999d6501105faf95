/- What a call of the stream's closure does: the next byte. -/
import Derived.Test.YtnomplfnblmciaaSealStream
namespace Go.Proofs.Ytnomplfnblmciaa
open Go.RowKit
set_option linter.unusedVariables false

set_option maxHeartbeats 4000000 in
set_option maxRecDepth 100000 in
theorem next_any (w : World) (B : Nat) (key cur : List Int) (n k : Nat) (hk : ∀ c ∈ key, 0 ≤ c ∧ c ≤ 255) (hk8 : key.length = 8) (hn : n ≤ 1000000000000) (hkk : k ≤ 4096) (hS : Strm w B key n k cur) (hcur : k % 8 ≠ 0 → cur = blkL key n (k / 8)) :
    Calls Try.prog 37 #[.pointer (some ⟨B + 3, 0, none⟩), .pointer (some ⟨B, 0, none⟩), .pointer (some ⟨B + 1, 0, none⟩), .pointer (some ⟨B + 2, 0, none⟩)] w fun e w' => e = .returned (.int .u8 (strmAt key n k)) ∧ Strm w' B key n (k + 1) (blkL key n (k / 8)) ∧ KpS B w w' := by
  have hct := hS.ct
  have hcn := hS.cn
  have hlt := hS.lt
  have hsg := strmAt_get key n k
  have hkm : (k : Int) % 8 = ((k % 8 : Nat) : Int) := by omega
  have hm8 : k % 8 < 8 := by omega
  have HX8 : Hid ((blkL key n (k / 8)).length = 8) := rfl
  have HI : Hid _ := arr8_info (xs := blkL key n (k / 8)) rfl
  have HI' : Hid _ := arr8_info' (xs := blkL key n (k / 8)) rfl
  have HK : Hid _ := arr8_info hk8
  by_cases h8 : k % 8 = 0
  case' pos =>
    have hd : ((k : Int) % 8 == 0) = true := by simp; omega
    have hcw := hS.ck
    have hW1 := fun (wz : World) => appendWide_any wz.heap.size wz (.slice none 0 0) [] n hn (by simp) (Nat.le_refl _) (World.ownsRow_nil _ _ _ _)
    have hW2 := fun (wz : World) (B' : Nat) (v : Value) (hB' : B' ≤ wz.heap.size) (ho : Own 5 wz B' v ((([] : List Int) ++ wide n).map (Value.int .u8))) => appendWide_any B' wz v ([] ++ wide n) (k / 8) (by omega) (by simp [wide_len]) hB' ho
    rw [show ((k / 8 : Nat) : Int) = (k : Int) / 8 by omega] at hW2
    have hSU := fun (wz : World) (v : Value) (h : Rd wz.heap.size wz v ((([] : List Int) ++ wide n ++ wide (k / 8)).map (Value.int .u8))) => eightSum_any wz.heap.size wz v key ([] ++ wide n ++ wide (k / 8)) (Nat.le_refl _) hk hk8 (fun c hc => by
      rw [List.nil_append] at hc
      rcases List.mem_append.1 hc with h1 | h1
      · exact wide_bytes hn c h1
      · exact wide_bytes (by omega) c h1) (by simp [wide_len]) h
    rw [show ksum key (([] : List Int) ++ wide n ++ wide (k / 8)) = blkL key n (k / 8) from rfl] at hSU
    have HS : Hid (∀ wz, Below w.heap.size w wz → wz.rangeAt B 0 (arr8 key) ∧ wz.cell? ⟨B + 1, 0, none⟩ = some (.int .i64 (n : Int)) ∧ wz.cell? ⟨B + 3, 0, none⟩ = some (.int .i64 (k : Int))) := fun wz hz => ⟨(hS.below hz).ck, (hS.below hz).cn, (hS.below hz).ct⟩
    have HST := hS
    clear hcw
    go_enter Try.func37, Try.ntmps37
    go_wp2_with fail
    refine wp_region_held_drew (S := fun w' => w'.rangeAt B 0 (arr8 key) ∧ w'.cell? ⟨B + 1, 0, none⟩ = some (.int .i64 (n : Int)) ∧ w'.cell? ⟨B + 3, 0, none⟩ = some (.int .i64 (k : Int))) (by kernel_rfl) (HS.out _ (Below.refl _ _).drew) (fun hH => ?_)
    refine tkH 0 (.agg (arr8 key).toArray) rfl (yieldsIf_load_mid rfl _ _ rfl B 0 rfl (arr8 key) _ (fun w h => h.1) Try.underlying41 rfl HK.out) hH ?_
    simp only [tkS, Act.put]
    refine tkH 1 (.int .i64 (n : Int)) rfl (Or.inl ⟨by rfl, by intro w' hSw; have h1 := hSw.2.1; clear hSw; go_simp⟩) hH ?_
    simp only [tkS, Act.put]
    refine tkH 3 (.int .i64 (k : Int)) rfl (Or.inl ⟨by rfl, by intro w' hSw; have h1 := hSw.2.2; clear hSw; go_simp⟩) hH ?_
    simp only [tkS, Act.put]
    refine tkH 4 (.int .i64 ((k : Int) / 8)) rfl (Or.inl ⟨by rfl, by intro w' hSw; clear hSw; go_simp; rw [IntKind.wrap_i64]; omega⟩) hH ?_
    simp only [tkS, Act.put]
    refine wpAnyH_ready (rs := [2]) (by kernel_rfl) (by simp) ?_
    refine AllReadyH.cons rfl (fun K hK => ?_) AllReadyH.nil
    go_simp
    refine (hW1 w.drew).mono ?_
    rintro e w3 ⟨r3, rfl, ho3, hb3⟩
    have hB3 : Below w.heap.size w w3 := below_seq (Below.refl _ _).drew hb3
    have z3 := hB3.size
    go_wp2_with fail
    refine hK.out _ _ (HS.out _ hB3) (fun hH => ?_)
    clear hK K
    refine wpAnyH_ready (rs := [5]) (by kernel_rfl) (by simp) ?_
    refine AllReadyH.cons rfl (fun K hK => ?_) AllReadyH.nil
    go_simp
    refine (hW2 w3 w.heap.size r3 z3 ho3).mono ?_
    rintro e w4 ⟨r4, rfl, ho4, hb4⟩
    have hB4 : Below w.heap.size w w4 := hB3.trans hb4
    have z4 := hB4.size
    clear ho3 hb3 hb4
    go_wp2_with fail
    refine hK.out _ _ (HS.out _ hB4) (fun hH => ?_)
    clear hK K
    refine wpAnyH_ready (rs := [6]) (by kernel_rfl) (by simp) ?_
    refine AllReadyH.cons rfl (fun K hK => ?_) AllReadyH.nil
    go_simp
    refine (hSU w4 r4 ho4.rd).mono ?_
    rintro e w5 ⟨rfl, hb5⟩
    have hB5 : Below w.heap.size w w5 := below_seq hB4 hb5
    clear ho4 hb5
    go_wp2_with fail
    refine hK.out _ _ (HS.out _ hB5) (fun hH => ?_)
    clear hK K
    obtain ⟨hS6, hK6⟩ := (HST.below hB5).block (X := blkL key n (k / 8)) rfl
    have hK6 : KpS B w (w5.setCells (B + 2) 0 (arr8 (blkL key n (k / 8)))) := (KpS.of hB5 (by omega)).trans hK6
    have ht5 : w5.there (B + 2) 0 (arr8 (blkL key n (k / 8))).toArray.size := by
      rw [List.size_toArray, arr8_len, HX8.out]
      exact (HST.below hB5).tb
    refine wpAnyH_ready (rs := [7]) (by kernel_rfl) (by simp) ?_
    refine AllReadyH.cons rfl (fun K hK => ?_) AllReadyH.nil
    rw [if_pos (by rfl)]
    refine wp_store_mid _ _ _ rfl _ _ (arr8 (blkL key n (k / 8))).toArray rfl rfl ht5 HI'.out (arr8_all _) ?_
    refine hK.out _ _ ⟨hS6.ck, hS6.cn, hS6.ct⟩ (fun hH => ?_)
    clear hK K
    refine wpAnyH_done (by kernel_rfl) ?_ _
    simp only [tkS, Act.put]
    generalize w5.setCells (B + 2) 0 (arr8 (blkL key n (k / 8))) = w6 at *
    clear hW1 hW2 hSU HS HST hH hB5 hB4 hB3 ht5 hd hS hcn hct
    rw [h8] at hsg
    have c6 := hS6.cb 0 (.int .u8 (strmAt key n k)) (by unfold arr8; rw [List.getElem?_map, hsg]; rfl)
    rw [Nat.zero_add] at c6
    clear hkm hm8 h8
  case' neg =>
    have hd : ((k : Int) % 8 == 0) = false := by simp; omega
    have hS6 := hS
    rw [hcur h8] at hS6
    have hK6 := KpS.refl B w
    obtain ⟨w6, hw6⟩ : ∃ w6 : World, w6 = w := ⟨w, rfl⟩
    subst hw6
    clear hS hcn
    have c6 := hS6.cb (k % 8) (.int .u8 (strmAt key n k)) (by unfold arr8; rw [List.getElem?_map, hsg]; rfl)
    rw [Nat.zero_add] at c6
    generalize k % 8 = m at *
    have m0 : (0 : Int) ≤ (m : Int) := by omega
    have m1 : (m : Int) < 8 := by omega
    go_enter Try.func37, Try.ntmps37
  all_goals
    have hct6 := hS6.ct
    have hft6 := hS6.ft
    obtain ⟨hS7, hK7⟩ := hS6.tick
    have hK67 := hK6.trans hK7
    clear hS6 hK6 hK7 hsg hcur HI HI' HK HX8
    go_wp2_with fail
    go_ret
    exact ⟨rfl, hS7, hK67⟩
end Go.Proofs.Ytnomplfnblmciaa
