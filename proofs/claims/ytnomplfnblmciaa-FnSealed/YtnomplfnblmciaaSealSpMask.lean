/- The specification's l16Eight, l16Sum and l16Mask: a number in eight bytes, a sum of what fits, bytes xored with the stream. -/
import Derived.Test.YtnomplfnblmciaaSealMath
import Derived.Test.YtnomplfnblmciaaTakeKit
import Derived.Test.YtnomplfnblmciaaStampBase
import Derived.Deep.RegionHeld
import Derived.Deep.AppendLies
namespace Go.Proofs.Ytnomplfnblmciaa
open Go.RowKit
set_option linter.unusedVariables false

set_option maxHeartbeats 1000000 in
set_option maxRecDepth 100000 in
theorem l16Eight_any (n : Nat) (hn : n ≤ 1000000000000) (w : World) :
    Calls Try.prog 19 #[.int .i64 (n : Int)] w fun e w' => ∃ r, e = .returned r ∧ Own 5 w' w.heap.size r ((wide n).map (Value.int .u8)) ∧ Below w.heap.size w w' := by
  obtain ⟨i0, hi, hz0, hz1, hz2⟩ := info_parts info5
  have h1 := fun w => l01Four_any (n / 4294967296) (by omega) w
  have h2 := fun w => l01Four_any (n % 4294967296) (by omega) w
  rw [show ((n / 4294967296 : Nat) : Int) = (n : Int) / 4294967296 by omega] at h1
  rw [show ((n % 4294967296 : Nat) : Int) = (n : Int) % 4294967296 by omega] at h2
  have l1 : (four (n / 4294967296)).length = 4 := rfl
  have l2 : (four (n % 4294967296)).length = 4 := rfl
  have hw : wide n = four (n / 4294967296) ++ four (n % 4294967296) := rfl
  rw [hw, List.map_append]
  generalize four (n / 4294967296) = f1 at *
  generalize four (n % 4294967296) = f2 at *
  clear hw
  go_enter Try.func19, Try.ntmps19
  go_wp2_with fail
  refine (h1 w).mono ?_
  rintro e w1 ⟨r1, rfl, ho1, hb1⟩
  have z1 := hb1.size
  go_wp2_with fail
  refine (h2 w1).mono ?_
  rintro e w2 ⟨r2, rfl, ho2, hb2⟩
  have z2 := hb2.size
  have hb02 : Below w.heap.size w w2 := hb1.trans (hb2.mono z1)
  have ho12 := ho1.below hb2 (Nat.le_refl _)
  go_wp2_with (at_builtin; refine wpList_append_rd rfl _ _ 22 rfl w.heap.size 5 i0 (.int .u8 0) 1 Try.underlying22 hi hz0 hz1 hz2 rfl _ _ rfl ho12 _ _ (f2.map (Value.int .u8)) rfl ho2.rd (ints_oneCell _ _) (by simp [maxLen]; omega) (by simp; omega) hb02.size ?_)
  intro v5 w5 ho5 hg5
  have hb05 : Below w.heap.size w w5 := hb02.grown hg5 hb02.size ho12.lt
  clear hg5
  go_wp2_with fail
  go_ret
  exact ⟨_, rfl, ho5, hb05⟩

set_option maxHeartbeats 1000000 in
set_option maxRecDepth 100000 in
theorem l16Sum_any (C : Nat) (w : World) (va vb : Value) (ks bs : List Int) (hC : C ≤ w.heap.size) (hk : ∀ c ∈ ks, 0 ≤ c ∧ c ≤ 255) (hb : ∀ c ∈ bs, 0 ≤ c ∧ c ≤ 255) (hkl : 1 ≤ ks.length ∧ ks.length ≤ 64) (hbl : bs.length ≤ 4096)
    (hra : Rd C w va (ks.map (Value.int .u8))) (hrb : Rd C w vb (bs.map (Value.int .u8))) :
    Calls Try.prog 18 #[va, vb] w fun e w' => ∃ r, e = .returned r ∧ Own 5 w' w.heap.size r ((ksum ks bs).map (Value.int .u8)) ∧ Below w.heap.size w w' := by
  have h1 := specKeySum_any C w va vb ks bs hC hk hb (by omega) (by omega) hra hrb
  rw [(keyB_ksum hkl hbl).1, (keyB_ksum hkl hbl).2] at h1
  go_enter Try.func18, Try.ntmps18
  go_wp2_with fail
  refine h1.mono ?_
  rintro e w1 ⟨r1, rfl, ho1, hb1⟩
  go_wp2_with fail
  go_ret
  exact ⟨_, rfl, ho1, hb1⟩

/-- The block at hand, beside the bytes that were written. -/
def BlkAt (w : World) (g : Nat) (t : Value) (bs : List Int) : Prop := ∃ gb cb, t = .slice (some ⟨gb, 0, none⟩) 8 cb ∧ gb ≠ g ∧ gb < w.heap.size ∧ ∀ (j : Nat) (x : Int), bs[j]? = some x → w.cell? ⟨gb, j, none⟩ = some (.int .u8 x)
theorem blkAt_of {w : World} {B g : Nat} {t : Value} {bs : List Int} (h : Own 5 w B t (bs.map (Value.int .u8))) (h8 : bs.length = 8) (hg : g < B) : BlkAt w g t bs := by
  obtain ⟨gb, cap, rfl, hb, hlt, hc⟩ := h.some (by rw [List.length_map]; omega)
  rw [List.length_map, h8]
  refine ⟨gb, cap, rfl, by omega, hlt, fun j x hx => ?_⟩
  have := hc j (.int .u8 x) (by rw [List.getElem?_map, hx]; rfl)
  rwa [Addr.add_lit, Nat.zero_add] at this
theorem BlkAt.on {w w' : World} {g : Nat} {t : Value} {bs : List Int} (h : BlkAt w g t bs) {g' : Nat} (hg : w.grownBy w' (some g)) (hl : g' = g ∨ w.heap.size ≤ g') : BlkAt w' g' t bs := by
  obtain ⟨gb, cb, rfl, hne, hlt, hc⟩ := h
  refine ⟨gb, cb, rfl, by omega, Nat.lt_of_lt_of_le hlt hg.size, fun j x hx => hg.cell (a := ⟨gb, j, none⟩) (hc j x hx) (fun e => hne (by simpa using e))⟩
theorem mask_snoc (key : List Int) (n : Nat) (b : List Int) (k : Nat) : ((List.range k).map (maskAt key n b)).map (Value.int .u8) ++ [.int .u8 (maskAt key n b k)] = ((List.range (k + 1)).map (maskAt key n b)).map (Value.int .u8) := by simp [List.range_succ]

set_option maxHeartbeats 4000000 in
set_option maxRecDepth 100000 in
theorem l16Mask_any (C : Nat) (w : World) (vk vb : Value) (key b : List Int) (n : Nat) (hC : C ≤ w.heap.size) (hk : ∀ c ∈ key, 0 ≤ c ∧ c ≤ 255) (hk8 : key.length = 8) (hn : n ≤ 1000000000000) (hb : ∀ c ∈ b, 0 ≤ c ∧ c ≤ 255) (hbl : b.length ≤ 4096)
    (hra : Rd C w vk (key.map (Value.int .u8))) (hrb : Rd C w vb (b.map (Value.int .u8))) :
    Calls Try.prog 17 #[vk, .int .i64 (n : Int), vb] w fun e w' => ∃ r, e = .returned r ∧ Own 5 w' w.heap.size r ((maskL key n b).map (Value.int .u8)) ∧ Below w.heap.size w w' := by
  obtain ⟨i0, hi, hz0, hz1, hz2⟩ := info_parts info5
  obtain ⟨bo, cb, rfl, _, _, _, hrc⟩ := hrb
  rw [List.length_map] at hrc ⊢
  have HSUM : Hid (∀ (wz : World) (v : Value) (bs : List Int), Below w.heap.size w wz → (∀ c ∈ bs, 0 ≤ c ∧ c ≤ 255) → bs.length ≤ 4096 → Rd wz.heap.size wz v (bs.map (Value.int .u8)) → Calls Try.prog 18 #[vk, v] wz fun e w' => ∃ r, e = .returned r ∧ Own 5 w' wz.heap.size r ((ksum key bs).map (Value.int .u8)) ∧ Below wz.heap.size wz w') := fun wz v bs hz h1 h2 h3 => l16Sum_any wz.heap.size wz vk v key bs (Nat.le_refl _) hk h1 ⟨by omega, by omega⟩ h2 ((hra.below (hz.mono hC)).mono (by have := hz.size; omega)) h3
  have HE := fun (wz : World) => l16Eight_any n hn wz
  have ho0 : Own 5 (w.alloc (.cells #[] 5)) w.heap.size (.slice (some ⟨w.heap.size, 0, none⟩) 0 0) [] := own_lit w 5 [] 0 rfl (by decide)
  go_enter Try.func17, Try.ntmps17
  go_wp2_with fail
  go_loopw [7, 8, 9] (fun to tb ti wr => ∃ (k g c : Nat), k ≤ b.length ∧ ti = .int .i64 k ∧ to = .slice (some ⟨g, 0, none⟩) k c ∧ Hid (Own 5 wr w.heap.size to (((List.range k).map (maskAt key n b)).map (Value.int .u8))) ∧ g < wr.heap.size ∧ w.heap.size ≤ g ∧ Hid (k % 8 ≠ 0 → BlkAt wr g tb (blkL key n (k / 8))) ∧ Below w.heap.size w wr) (fun _ _ ti _ => b.length - (intOf ti).toNat)
  case atStart =>
    refine ⟨0, w.heap.size, 0, Nat.zero_le _, rfl, rfl, ?_, by simp; omega, Nat.le_refl _, fun h => absurd rfl h, below_then (below_alloc w _) _⟩
    exact Own.below ho0 (below_alloc _ _) (Nat.le_refl _)
  case round =>
    obtain ⟨k, g, c, hk0, rfl, rfl, HO, hg, hgw, HB, hbel⟩ := hrel
    have z0 := hbel.size
    by_cases hlt : k < b.length
    · obtain ⟨gb, off, rfl, hgb, hcb⟩ := hrc (by omega)
      have cB := fun (wz : World) (hz : Below w.heap.size w wz) => (hz.cell (p := ⟨gb, off + k, none⟩) (by show gb < w.heap.size; omega)).trans (hcb k (.int .u8 b[k]) (by simp [hlt]))
      have hbk := hb b[k] (List.getElem_mem hlt)
      have hmk : maskAt key n b k = xorI b[k] (strmAt key n k) := by unfold maskAt; rw [List.getD_eq_getElem?_getD, List.getElem?_eq_getElem hlt]; rfl
      have HSN : Hid _ := mask_snoc key n b k
      have hxr := xor_u8 hbk (strmAt_byte key n k)
      have hsg := strmAt_get key n k
      rw [hmk] at HSN
      generalize b[k] = x at *
      generalize strmAt key n k = y at *
      have H5 : ∃ (w5 : World) (tb : Value), True := ⟨w, .slice none 0 0, trivial⟩
      have j0 : (0 : Int) ≤ (k : Int) := by omega
      have j1 : (k : Int) < (b.length : Int) := by omega
      clear hcb hrc H5
      by_cases h8 : k % 8 = 0
      case' pos =>
        have hd : ((k : Int) % 8 == 0) = true := by simp; omega
        have HEk := fun (wz : World) => l16Eight_any (k / 8) (by omega) wz
        rw [show ((k / 8 : Nat) : Int) = (k : Int) / 8 by omega] at HEk
        clear HB
        go_wp2_with fail
        refine (HE wr).mono ?_
        rintro e w1 ⟨r1, rfl, ho1, hb1⟩
        have z1 := hb1.size
        go_wp2_with fail
        refine (HEk w1).mono ?_
        rintro e w2 ⟨r2, rfl, ho2, hb2⟩
        have z2 := hb2.size
        have hb02 := below_seq hb1 hb2
        have ho12 := ho1.below hb2 (Nat.le_refl _)
        clear ho1 hd
        go_wp2_with (at_builtin; refine wpList_append_rd rfl _ _ 22 rfl wr.heap.size 5 i0 (.int .u8 0) 1 Try.underlying22 hi hz0 hz1 hz2 rfl _ _ rfl ho12 _ _ ((wide (k / 8)).map (Value.int .u8)) rfl ho2.rd (ints_oneCell _ _) (by simp [maxLen, wide_len]) (by simp [wide_len]) hb02.size ?_)
        intro v3 w3 ho3 hg3
        have hb03 : Below wr.heap.size wr w3 := hb02.grown hg3 hb02.size ho12.lt
        have z3 := hb03.size
        rw [← List.map_append] at ho3
        clear hg3
        go_wp2_with fail
        refine (HSUM.out w3 v3 _ (below_seq hbel hb03) (fun c hc => (List.mem_append.1 hc).elim (wide_bytes hn c) (wide_bytes (by omega) c)) (by rw [List.length_append, wide_len, wide_len]; omega) ho3.rd).mono ?_
        rintro e w5 ⟨r5, rfl, ho5, hb5⟩
        have hb05 := below_seq hb03 hb5
        have HO5 : Hid (Own 5 w5 w.heap.size (.slice (some ⟨g, 0, none⟩) k c) _) := HO.out.below hb05 (Nat.le_refl _)
        have z5 := hb05.size
        obtain ⟨g8, c8, rfl, hne8, hlt8, hc8⟩ := blkAt_of ho5 rfl (show g < w3.heap.size by omega)
        have hg5 : g < w5.heap.size := by omega
        have hbel5 := below_seq hbel hb05
        clear ho5 ho3 ho2 ho12 hb5 hb1 hb2 hb02 hb03 hb05 HEk
      case' neg =>
        have hd : ((k : Int) % 8 == 0) = false := by simp; omega
        obtain ⟨g8, c8, rfl, hne8, hlt8, hc8⟩ := HB.out h8
        obtain ⟨w5, hw5⟩ : ∃ w5 : World, w5 = wr := ⟨wr, rfl⟩
        subst hw5
        have HO5 := HO
        have hg5 := hg
        have hbel5 := hbel
        have z5 : w5.heap.size ≤ w5.heap.size := Nat.le_refl _
        clear HB
      all_goals
        have z05 := hbel5.size
        have c1 := cB w5 hbel5
        have c2 := hc8 (k % 8) y hsg
        have hkm : (k : Int) % 8 = ((k % 8 : Nat) : Int) := by omega
        have hm8 : k % 8 < 8 := by omega
        have htm : (k : Int).tmod 8 = ((k % 8 : Nat) : Int) := by rw [Int.tmod_eq_emod_of_nonneg (by omega)]; exact hkm
        generalize k % 8 = m at hkm htm hm8 c2
        have m0 : (0 : Int) ≤ (m : Int) := by omega
        have m1 : (m : Int) < 8 := by omega
        have HOA : Hid (World.ownsRow (w5.alloc (.cells #[.int .u8 (xorI x y)] 5)).drew w.heap.size 5 1 (.slice (some ⟨g, 0, none⟩) k c) k (((List.range k).map (maskAt key n b)).map (Value.int .u8))) := by
          have h : Own 5 (w5.alloc (.cells #[.int .u8 (xorI x y)] 5)) w.heap.size (.slice (some ⟨g, 0, none⟩) k c) (((List.range k).map (maskAt key n b)).map (Value.int .u8)) := World.ownsRow.alloc HO5.out _
          have h2 : World.ownsRow (w5.alloc (.cells #[.int .u8 (xorI x y)] 5)) w.heap.size 5 1 (.slice (some ⟨g, 0, none⟩) k c) (((List.range k).map (maskAt key n b)).map (Value.int .u8)).length (((List.range k).map (maskAt key n b)).map (Value.int .u8)) := h
          rw [List.length_map, List.length_map, List.length_range] at h2
          exact h2
        have HN : Hid (∀ j u, ([Value.int .u8 (xorI x y)] : List Value)[j]? = some u → (w5.alloc (.cells #[.int .u8 (xorI x y)] 5)).drew.cell? ((⟨w5.heap.size, 0, none⟩ : Addr).add j) = some u) := fun j u hj => by
          cases j with
          | zero => simp at hj; subst hj; exact cell_made1 (w := w5) (T := 5) (w1 := (w5.alloc (.cells #[.int .u8 (xorI x y)] 5)).drew) (Below.refl _ _).drew
          | succ j => simp at hj
        have HON : Hid (∀ u ∈ ([Value.int .u8 (xorI x y)] : List Value), u.oneCell' = true) := fun u hu => by simp at hu; subst hu; rfl
        have HM1 : Hid (k + 1 ≤ maxLen) := by unfold Hid maxLen; omega
        have HM2 : Hid ((k + 1) * 1 ≤ 140737488355328) := by unfold Hid; omega
        have HM3 : Hid (w.heap.size ≤ (w5.alloc (.cells #[.int .u8 (xorI x y)] 5)).drew.heap.size) := by unfold Hid; rw [World.size_drew, World.size_alloc]; omega
        have S0 : w5.drew.cell? ⟨gb, off + k, none⟩ = some (.int .u8 x) ∧ w5.drew.cell? ⟨g8, m, none⟩ = some (.int .u8 y) := ⟨c1, c2⟩
        have HS1 : Hid (∀ (wz : World), w5.grownBy wz (some g) → wz.cell? ⟨gb, off + k, none⟩ = some (.int .u8 x) ∧ wz.cell? ⟨g8, m, none⟩ = some (.int .u8 y)) := fun wz hz => ⟨hz.cell (a := ⟨gb, off + k, none⟩) c1 (fun e => by simp at e; omega), hz.cell (a := ⟨g8, m, none⟩) c2 (fun e => hne8 (by simpa using e))⟩
        have HBK : Hid (BlkAt w5 g (.slice (some ⟨g8, 0, none⟩) 8 c8) (blkL key n (k / 8))) := ⟨g8, c8, rfl, hne8, hlt8, hc8⟩
        clear c1 c2 hc8 hsg HO5 HSUM HE cB
        go_wp2_with fail
        refine wp_region_held_drew (S := fun w' => w'.cell? ⟨gb, off + k, none⟩ = some (.int .u8 x) ∧ w'.cell? ⟨g8, m, none⟩ = some (.int .u8 y)) (by kernel_rfl) S0 (fun hS => ?_)
        refine tkH 0 (.slice (some ⟨g, 0, none⟩) k c) rfl (Or.inl ⟨by rfl, by intro w' hSw; have h1 := hSw.1; have h2 := hSw.2; clear hSw; go_simp⟩) hS ?_
        simp only [tkS, Act.put]
        refine tkH 1 (.slice (some ⟨gb, off, none⟩) b.length cb) rfl (Or.inl ⟨by rfl, by intro w' hSw; have h1 := hSw.1; have h2 := hSw.2; clear hSw; go_simp⟩) hS ?_
        simp only [tkS, Act.put]
        refine tkH 2 (.int .i64 (k : Int)) rfl (Or.inl ⟨by rfl, by intro w' hSw; have h1 := hSw.1; have h2 := hSw.2; clear hSw; go_simp⟩) hS ?_
        simp only [tkS, Act.put]
        refine tkH 3 (.pointer (some ⟨gb, off + k, none⟩)) rfl (Or.inl ⟨by rfl, by intro w' hSw; have h1 := hSw.1; have h2 := hSw.2; clear hSw; go_simp⟩) hS ?_
        simp only [tkS, Act.put]
        refine tkH 4 (.int .u8 x) rfl (Or.inl ⟨by rfl, by intro w' hSw; have h1 := hSw.1; have h2 := hSw.2; clear hSw; go_simp⟩) hS ?_
        simp only [tkS, Act.put]
        refine tkH 5 (.slice (some ⟨g8, 0, none⟩) 8 c8) rfl (Or.inl ⟨by rfl, by intro w' hSw; have h1 := hSw.1; have h2 := hSw.2; clear hSw; go_simp⟩) hS ?_
        simp only [tkS, Act.put]
        refine tkH 6 (.int .i64 (k : Int)) rfl (Or.inl ⟨by rfl, by intro w' hSw; have h1 := hSw.1; have h2 := hSw.2; clear hSw; go_simp⟩) hS ?_
        simp only [tkS, Act.put]
        refine tkH 7 (.int .i64 (m : Int)) rfl (Or.inl ⟨by rfl, by intro w' hSw; have h1 := hSw.1; have h2 := hSw.2; clear hSw; go_simp⟩) hS ?_
        simp only [tkS, Act.put]
        refine tkH 8 (.pointer (some ⟨g8, m, none⟩)) rfl (Or.inl ⟨by rfl, by intro w' hSw; have h1 := hSw.1; have h2 := hSw.2; clear hSw; go_simp⟩) hS ?_
        simp only [tkS, Act.put]
        refine tkH 9 (.int .u8 y) rfl (Or.inl ⟨by rfl, by intro w' hSw; have h1 := hSw.1; have h2 := hSw.2; clear hSw; go_simp⟩) hS ?_
        simp only [tkS, Act.put]
        refine tkH 10 (.int .u8 (xorI x y)) rfl (Or.inl ⟨by rfl, by intro w' hSw; have h1 := hSw.1; have h2 := hSw.2; clear hSw; go_simp⟩) hS ?_
        simp only [tkS, Act.put]
        refine wpAnyH_ready (rs := [11]) (by kernel_rfl) (by simp) ?_
        refine AllReadyH.cons rfl (fun K hK => ?_) AllReadyH.nil
        go_simp
        refine hK.out _ _ (HS1.out _ (grownBy_trans (World.grownBy_alloc w5 _ _) (grownBy_drewN _ 1 _))) (fun hS => ?_)
        clear hK K
        refine wpAnyH_ready (rs := [12]) (by kernel_rfl) (by simp) ?_
        refine AllReadyH.cons rfl (fun K hK => ?_) AllReadyH.nil
        refine step_append_lies _ rfl (.tmp 29) (.tmp 40) 22 rfl w.heap.size 5 i0 (.int .u8 0) 1 1 Try.underlying22 hi hz0 hz1 hz2 rfl (by decide) (.slice (some ⟨g, 0, none⟩) k c) k _ rfl HOA.out ⟨w5.heap.size, 0, none⟩ 1 1 [.int .u8 (xorI x y)] rfl rfl HN.out HON.out (by decide) HM1.out HM2.out HM3.out _ rfl ?_
        intro g7 c7 w7 ho7 hg7 hat hlt7
        have hg57 : w5.grownBy w7 (some g) := grownBy_trans (grownBy_trans (World.grownBy_alloc w5 _ _) (grownBy_drewN _ 1 _)) hg7
        refine hK.out _ _ (HS1.out _ hg57) (fun hS => ?_)
        clear hK K
        simp only [tkS, Act.put]
        refine wpAnyH_ready (rs := [13]) (by kernel_rfl) (by simp) ?_
        refine AllReadyH.cons rfl (fun K hK => ?_) AllReadyH.nil
        go_simp
        refine hK.out _ _ (HS1.out _ hg57) (fun hS => ?_)
        clear hK K
        refine wpAnyH_done (by kernel_rfl) ?_ _
        have HO7 : Hid (Own 5 w7 w.heap.size (.slice (some ⟨g7, 0, none⟩) (k + 1) c7) (((List.range (k + 1)).map (maskAt key n b)).map (Value.int .u8))) := by
          have h := own_of ho7
          rw [HSN.out] at h
          exact h
        have hl7 : g7 = g ∨ w5.heap.size ≤ g7 := by
          rcases hat with h | h
          · left; simp [Value.ownBlock] at h; exact h.symm
          · right; rw [h, World.size_drew, World.size_alloc]; omega
        have HB7 : Hid ((k + 1) % 8 ≠ 0 → BlkAt w7 g7 (.slice (some ⟨g8, 0, none⟩) 8 c8) (blkL key n ((k + 1) / 8))) := fun h9 => by
          rw [show (k + 1) / 8 = k / 8 by omega]
          exact HBK.out.on hg57 hl7
        have hgw7 : w.heap.size ≤ g7 := by rcases hl7 with h | h <;> omega
        have hbel7 : Below w.heap.size w w7 := hbel5.grown hg57 hbel5.size (fun k hk => by simp at hk; omega)
        clear ho7 hg7 hat hg57 HSN HBK HS1 HOA HN HON hS S0
        go_wp2_with fail
        go_roundw
        case rel => exact ⟨k + 1, g7, c7, by omega, by go_num, rfl, HO7, hlt7, hgw7, HB7, hbel7⟩
        case measure => simp [intOf]; omega
    · clear HB
      go_wp2_with fail
      go_ret
      refine ⟨_, rfl, ?_, hbel⟩
      have hkb : k = b.length := by omega
      subst hkb
      exact HO.out
end Go.Proofs.Ytnomplfnblmciaa
