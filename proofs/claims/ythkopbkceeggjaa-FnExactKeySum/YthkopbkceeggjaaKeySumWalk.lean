/- What the two functions KeySum do, and the walk of the law over both: it answers true whatever key and bytes it is given. -/
import Derived.Test.YthkopbkceeggjaaSums
import Derived.Test.YthkopbkceeggjaaCells
import Derived.Test.YthkopbkceeggjaaCopies
import Derived.Test.YthkopbkceeggjaaFrame
namespace Go.Proofs.Ythkopbkceeggjaa
open Go.RowKit
set_option linter.unusedVariables false

/-- The first sum, the second one. -/
def keyX (ks bs : List Int) : Nat := sumF 2166136261 (ks ++ bs ++ ks)
def keyY (ks bs : List Int) : Nat := sumF 2166136261 (four (keyX ks bs) ++ ks ++ bs)
def keyFits (ks bs : List Int) : Bool := decide (bs.length + 2 * ks.length ≤ 1048576 ∧ bs.length + ks.length + 4 ≤ 1048576)
def keyLen (ks : List Int) : Bool := decide (1 ≤ ks.length ∧ ks.length ≤ 64)
/-- What KeySum answers, of at most MaxBytes bytes: bytes and a code. -/
def keyB (ks bs : List Int) : List Int := if keyLen ks && keyFits ks bs then four (keyX ks bs) ++ four (keyY ks bs) else []
def keyC (ks bs : List Int) : Int := if keyLen ks then (if keyFits ks bs then 0 else 2) else 4
theorem keyB_len (ks bs : List Int) : (keyB ks bs).length ≤ 8 := by
  unfold keyB
  split <;> simp [four]
theorem key_bad {ks bs : List Int} (h : ¬ (1 ≤ ks.length ∧ ks.length ≤ 64)) : keyB ks bs = [] ∧ keyC ks bs = 4 := by simp [keyB, keyC, keyLen, h]
theorem key_long {ks bs : List Int} (h : 1 ≤ ks.length ∧ ks.length ≤ 64) (h2 : ¬ (bs.length + 2 * ks.length ≤ 1048576 ∧ bs.length + ks.length + 4 ≤ 1048576)) : keyB ks bs = [] ∧ keyC ks bs = 2 := by
  have h3 : keyFits ks bs = false := by unfold keyFits; simpa using h2
  simp [keyB, keyC, keyLen, h, h3]
theorem key_ok {ks bs : List Int} (h : 1 ≤ ks.length ∧ ks.length ≤ 64) (h2 : bs.length + 2 * ks.length ≤ 1048576 ∧ bs.length + ks.length + 4 ≤ 1048576) : keyB ks bs = four (keyX ks bs) ++ four (keyY ks bs) ∧ keyC ks bs = 0 := by
  have h3 : keyFits ks bs = true := by unfold keyFits; simpa using h2
  simp [keyB, keyC, keyLen, h, h3]
theorem keyX_lt (ks bs : List Int) : keyX ks bs < 4294967296 := sumF_lt _ (by decide)
theorem keyY_lt (ks bs : List Int) : keyY ks bs < 4294967296 := sumF_lt _ (by decide)

set_option maxHeartbeats 1000000 in
set_option maxRecDepth 100000 in
theorem specKeySum_any (C : Nat) (w : World) (va vb : Value) (ks bs : List Int) (hC : C ≤ w.heap.size) (hk : ∀ c ∈ ks, 0 ≤ c ∧ c ≤ 255) (hb : ∀ c ∈ bs, 0 ≤ c ∧ c ≤ 255) (hkl : ks.length ≤ 1048576) (hbl : bs.length ≤ 1048576)
    (hra : Rd C w va (ks.map (Value.int .u8))) (hrb : Rd C w vb (bs.map (Value.int .u8))) :
    Calls Try.prog 28 #[va, vb] w fun e w' => ∃ r, e = .returned (.tuple #[r, .int .i64 (keyC ks bs)]) ∧ Own 5 w' w.heap.size r ((keyB ks bs).map (Value.int .u8)) ∧ Below w.heap.size w w' := by
  obtain ⟨i0, hi, hz0, hz1, hz2⟩ := info_parts info5
  have hra0 := hra
  have hrb0 := hrb
  obtain ⟨ao, ca, rfl, _, _, _, hra⟩ := hra
  obtain ⟨bo, cb, rfl, _, _, _, hrb⟩ := hrb
  rw [List.length_map] at hra0 hrb0 ⊢
  rw [List.length_map]
  clear hra hrb
  by_cases h1 : 1 ≤ ks.length
  · by_cases h2 : ks.length ≤ 64
    · by_cases h3 : bs.length + 2 * ks.length ≤ 1048576
      · by_cases h4 : bs.length + ks.length + 4 ≤ 1048576
        · obtain ⟨e1, e2⟩ := key_ok (ks := ks) (bs := bs) ⟨h1, h2⟩ ⟨h3, h4⟩
          rw [e1, e2]
          clear e1 e2
          go_enter Try.func28, Try.ntmps28
          go_wp2_with fail
          refine (l01Join_any C w _ _ _ ks bs ks hC (by omega) hra0 hrb0 hra0).mono ?_
          rintro e w1 ⟨r1, rfl, ho1, hb1⟩
          have hz1' := hb1.size
          have hby1 : ∀ c ∈ ks ++ bs ++ ks, 0 ≤ c ∧ c ≤ 255 := by
            intro c hc
            simp only [List.mem_append] at hc
            rcases hc with (h | h) | h
            · exact hk c h
            · exact hb c h
            · exact hk c h
          go_wp2_with fail
          refine (sum32_any _ w1 r1 (ks ++ bs ++ ks) hby1 (by simp; omega) ho1.rd).mono ?_
          rintro e w1' ⟨rfl, rfl⟩
          rw [show sumF 2166136261 (ks ++ bs ++ ks) = keyX ks bs from rfl]
          have hX := keyX_lt ks bs
          have hY := keyY_lt ks bs
          go_wp2_with fail
          refine (l01Four_any (keyX ks bs) hX w1').mono ?_
          rintro e w2 ⟨r2, rfl, ho2, hb2⟩
          have hz2' := hb2.size
          have hb02 : Below w.heap.size w w2 := hb1.trans (hb2.mono hz1')
          have hf4 : (four (keyX ks bs)).length = 4 := rfl
          go_wp2_with fail
          refine (l01Join_any w2.heap.size w2 _ _ _ (four (keyX ks bs)) ks bs (Nat.le_refl _) (by omega) ho2.rd ((hra0.below (hb02.mono hC)).mono (by omega)) ((hrb0.below (hb02.mono hC)).mono (by omega))).mono ?_
          rintro e w3 ⟨r3, rfl, ho3, hb3⟩
          have hz3' := hb3.size
          have hby3 : ∀ c ∈ four (keyX ks bs) ++ ks ++ bs, 0 ≤ c ∧ c ≤ 255 := by
            intro c hc
            simp only [List.mem_append] at hc
            rcases hc with (h | h) | h
            · exact four_bytes hX c h
            · exact hk c h
            · exact hb c h
          go_wp2_with fail
          refine (sum32_any _ w3 r3 (four (keyX ks bs) ++ ks ++ bs) hby3 (by simp; omega) ho3.rd).mono ?_
          rintro e w3' ⟨rfl, rfl⟩
          rw [show sumF 2166136261 (four (keyX ks bs) ++ ks ++ bs) = keyY ks bs from rfl]
          go_wp2_with fail
          refine (l01Four_any (keyY ks bs) hY w3').mono ?_
          rintro e w4 ⟨r4, rfl, ho4, hb4⟩
          have hz4' := hb4.size
          have ho24 : Own 5 w4 w.heap.size r2 _ := ((ho2.below hb3 (Nat.le_refl _)).below hb4 (by omega)).mono hz1'
          have hb04 : Below w.heap.size w w4 := (hb02.trans (hb3.mono hb02.size)).trans (hb4.mono (by omega))
          have hf4' : (four (keyY ks bs)).length = 4 := rfl
          clear ho1 ho2 ho3
          go_wp2_with (at_builtin; refine wpList_append_rd rfl (.tmp 55) (.tmp 56) 22 rfl w.heap.size 5 i0 (.int .u8 0) 1 Try.underlying22 hi hz0 hz1 hz2 rfl _ _ rfl ho24 _ _ ((four (keyY ks bs)).map (Value.int .u8)) rfl ho4.rd (ints_oneCell _ _) (by simp [maxLen]; omega) (by simp; omega) hb04.size ?_)
          intro v5 w5 ho5 hg5
          have hb05 : Below w.heap.size w w5 := hb04.grown hg5 hb04.size ho24.lt
          clear hg5
          go_wp2_with fail
          go_ret2
          exact ⟨_, rfl, by simpa using ho5, hb05⟩
        · obtain ⟨e1, e2⟩ := key_long (ks := ks) (bs := bs) ⟨h1, h2⟩ (by omega)
          rw [e1, e2]
          clear e1 e2
          go_enter Try.func28, Try.ntmps28
          go_wp2_with fail
          go_ret2
          exact ⟨_, rfl, own_lit _ 5 [] 0 rfl (by decide), (Below.refl _ _).alloc (Nat.le_refl _) _⟩
      · obtain ⟨e1, e2⟩ := key_long (ks := ks) (bs := bs) ⟨h1, h2⟩ (by omega)
        rw [e1, e2]
        clear e1 e2
        go_enter Try.func28, Try.ntmps28
        go_wp2_with fail
        go_ret2
        exact ⟨_, rfl, own_lit _ 5 [] 0 rfl (by decide), (Below.refl _ _).alloc (Nat.le_refl _) _⟩
    · obtain ⟨e1, e2⟩ := key_bad (ks := ks) (bs := bs) (by omega)
      rw [e1, e2]
      clear e1 e2
      go_enter Try.func28, Try.ntmps28
      go_wp2_with fail
      go_ret2
      exact ⟨_, rfl, own_lit _ 5 [] 0 rfl (by decide), (Below.refl _ _).alloc (Nat.le_refl _) _⟩
  · obtain ⟨e1, e2⟩ := key_bad (ks := ks) (bs := bs) (by omega)
    rw [e1, e2]
    clear e1 e2
    go_enter Try.func28, Try.ntmps28
    go_wp2_with fail
    go_ret2
    exact ⟨_, rfl, own_lit _ 5 [] 0 rfl (by decide), (Below.refl _ _).alloc (Nat.le_refl _) _⟩

set_option maxHeartbeats 1000000 in
set_option maxRecDepth 100000 in
theorem implKeySum_any (C : Nat) (w : World) (va vb : Value) (ks bs : List Int) (hC : C ≤ w.heap.size) (hk : ∀ c ∈ ks, 0 ≤ c ∧ c ≤ 255) (hb : ∀ c ∈ bs, 0 ≤ c ∧ c ≤ 255) (hkl : ks.length ≤ 1048576) (hbl : bs.length ≤ 1048576)
    (hra : Rd C w va (ks.map (Value.int .u8))) (hrb : Rd C w vb (bs.map (Value.int .u8))) :
    Calls Try.prog 29 #[va, vb] w fun e w' => ∃ r, e = .returned (.tuple #[r, .int .i64 (keyC ks bs)]) ∧ Own 5 w' w.heap.size r ((keyB ks bs).map (Value.int .u8)) ∧ Below w.heap.size w w' := by
  have hra0 := hra
  have hrb0 := hrb
  obtain ⟨ao, ca, rfl, _, _, _, hra⟩ := hra
  obtain ⟨bo, cb, rfl, _, _, _, hrb⟩ := hrb
  rw [List.length_map] at hra0 hrb0 ⊢
  rw [List.length_map]
  clear hra hrb
  by_cases h1 : 1 ≤ ks.length
  · by_cases h2 : ks.length ≤ 64
    · by_cases h3 : bs.length + 2 * ks.length ≤ 1048576 ∧ bs.length + ks.length + 4 ≤ 1048576
      · obtain ⟨e1, e2⟩ := key_ok (ks := ks) (bs := bs) ⟨h1, h2⟩ h3
        rw [e1, e2]
        clear e1 e2
        have hX := keyX_lt ks bs
        have hY := keyY_lt ks bs
        have hs1 := sumF_lt ks (h := 2166136261) (by decide)
        have hs2 := sumF_lt bs hs1
        have EX : Hid (sumF (sumF (sumF 2166136261 ks) bs) ks = keyX ks bs) := by unfold Hid keyX; rw [sumF_append, sumF_append]
        have hf4 : (four (keyX ks bs)).length = 4 := rfl
        have ht1 := sumF_lt (four (keyX ks bs)) (h := 2166136261) (by decide)
        have ht2 := sumF_lt ks ht1
        have EY : Hid (sumF (sumF (sumF 2166136261 (four (keyX ks bs))) ks) bs = keyY ks bs) := by unfold Hid keyY; rw [sumF_append, sumF_append]
        go_enter Try.func29, Try.ntmps29
        go_wp2_with fail
        all_goals
          refine (sumOn_start C w _ ks hk (by omega) hra0).mono ?_
          rintro e w1 ⟨rfl, rfl⟩
          go_wp2_with fail
          refine (sumOn_any C w1 _ bs _ hs1 hb (by omega) hrb0).mono ?_
          rintro e w1' ⟨rfl, rfl⟩
          go_wp2_with fail
          refine (sumOn_any C w1' _ ks _ hs2 hk (by omega) hra0).mono ?_
          rintro e w1 ⟨rfl, rfl⟩
          rw [EX.out]
          go_wp2_with fail
          refine (appendSum_any w1.heap.size w1 _ [] (keyX ks bs) hX (by simp) (Nat.le_refl _) (World.ownsRow_nil _ _ _ _)).mono ?_
          rintro e w2 ⟨r2, rfl, ho2, hb2⟩
          rw [List.nil_append] at ho2
          have hz2 := hb2.size
          go_wp2_with fail
          refine (sumOn_start _ w2 r2 (four (keyX ks bs)) (four_bytes hX) (by omega) ho2.rd).mono ?_
          rintro e w2' ⟨rfl, rfl⟩
          go_wp2_with fail
          refine (sumOn_any C w2' _ ks _ ht1 hk (by omega) (hra0.below (hb2.mono hC))).mono ?_
          rintro e w2 ⟨rfl, rfl⟩
          go_wp2_with fail
          refine (sumOn_any C w2 _ bs _ ht2 hb (by omega) (hrb0.below (hb2.mono hC))).mono ?_
          rintro e w2' ⟨rfl, rfl⟩
          rw [EY.out]
          go_wp2_with fail
          refine (appendSum_any w1.heap.size w2' r2 (four (keyX ks bs)) (keyY ks bs) hY (by omega) hz2 ho2).mono ?_
          rintro e w3 ⟨r3, rfl, ho3, hb3⟩
          go_wp2_with fail
          go_ret2
          exact ⟨_, rfl, ho3, hb2.trans hb3⟩
      · obtain ⟨e1, e2⟩ := key_long (ks := ks) (bs := bs) ⟨h1, h2⟩ h3
        rw [e1, e2]
        clear e1 e2
        go_enter Try.func29, Try.ntmps29
        go_wp2_with fail
        all_goals
          go_ret2
          exact ⟨_, rfl, World.ownsRow_nil _ _ _ _, Below.refl _ _⟩
    · obtain ⟨e1, e2⟩ := key_bad (ks := ks) (bs := bs) (by omega)
      rw [e1, e2]
      clear e1 e2
      go_enter Try.func29, Try.ntmps29
      go_wp2_with fail
      go_ret2
      exact ⟨_, rfl, World.ownsRow_nil _ _ _ _, Below.refl _ _⟩
  · obtain ⟨e1, e2⟩ := key_bad (ks := ks) (bs := bs) (by omega)
    rw [e1, e2]
    clear e1 e2
    go_enter Try.func29, Try.ntmps29
    go_wp2_with fail
    go_ret2
    exact ⟨_, rfl, World.ownsRow_nil _ _ _ _, Below.refl _ _⟩

set_option maxHeartbeats 2000000 in
set_option maxRecDepth 100000 in
theorem lawKeySum_walk (a0 : Option Addr) (len0 cap0 : Nat) (z0 : List Int) (a1 : Option Addr) (len1 cap1 : Nat) (z1 : List Int) (w : World) (h0 : IsRow .u8 w a0 len0 cap0 z0) (h1 : IsRow .u8 w a1 len1 cap1 z1) :
    Calls Try.prog 7 #[.slice a0 len0 cap0, .slice a1 len1 cap1] w fun e w' => e = .returned (.bool true) ∧ Below w.heap.size w w' := by
  obtain ⟨hra, hlen0⟩ := h0.rd
  obtain ⟨hrb, hlen1⟩ := h1.rd
  have hk := h0.bytes
  have hb := h1.bytes
  have hmx0 : len0 ≤ maxLen := by rcases h0 with ⟨_, rfl, _⟩ | ⟨_, _, h1, h2, _⟩ <;> omega
  have hmx1 : len1 ≤ maxLen := by rcases h1 with ⟨_, rfl, _⟩ | ⟨_, _, h1, h2, _⟩ <;> omega
  clear h0 h1
  unfold maxLen at hmx0 hmx1
  generalize z0.take len0 = ks at hra hlen0 hk
  generalize z1.take len1 = bs at hrb hlen1 hb
  subst hlen0 hlen1
  by_cases hl0 : (1048576 : Int) < (ks.length : Int)
  · go_enter Try.func7, Try.ntmps7
    go_wp2_with fail
    go_ret
    exact ⟨rfl, Below.refl _ _⟩
  by_cases hl1 : (1048576 : Int) < (bs.length : Int)
  · go_enter Try.func7, Try.ntmps7
    go_wp2_with fail
    go_ret
    exact ⟨rfl, Below.refl _ _⟩
  have hkl : ks.length ≤ 1048576 := by omega
  have hbl : bs.length ≤ 1048576 := by omega
  have hB := keyB_len ks bs
  go_enter Try.func7, Try.ntmps7
  go_wp2_with fail
  refine (toByteS_any w.heap.size w _ ks hkl (Nat.le_refl _) hra).mono ?_
  rintro e w1 ⟨t1, rfl, ho1, hb1⟩
  have hz1 := hb1.size
  go_wp2_with fail
  refine (toByteS_any w.heap.size w1 _ bs hbl hz1 (hrb.below hb1)).mono ?_
  rintro e w2 ⟨t2, rfl, ho2, hb2⟩
  have hz2 := hb2.size
  have hb02 : Below w.heap.size w w2 := hb1.trans (hb2.mono hz1)
  go_wp2_with fail
  refine (specKeySum_any w2.heap.size w2 t1 t2 ks bs (Nat.le_refl _) hk hb hkl hbl (ho1.below hb2 (Nat.le_refl _)).rd ho2.rd).mono ?_
  rintro e w3 ⟨r0, rfl, hor0, hb3⟩
  have hz3 := hb3.size
  have hb03 : Below w.heap.size w w3 := hb02.trans (hb3.mono hb02.size)
  clear ho1 ho2
  go_wp2_with fail
  refine (toByteS_any w.heap.size w3 _ ks hkl hb03.size (hra.below hb03)).mono ?_
  rintro e w4 ⟨x0, rfl, hox0, hb4⟩
  have hz4 := hb4.size
  have hb04 : Below w.heap.size w w4 := hb03.trans (hb4.mono hb03.size)
  go_wp2_with fail
  refine (toByteS_any w.heap.size w4 _ bs hbl hb04.size (hrb.below hb04)).mono ?_
  rintro e w5 ⟨x1, rfl, hox1, hb5⟩
  have hz5 := hb5.size
  have hb05 : Below w.heap.size w w5 := hb04.trans (hb5.mono hb04.size)
  have hox0_5 := hox0.below hb5 (Nat.le_refl _)
  go_wp2_with fail
  refine (implKeySum_any w5.heap.size w5 x0 x1 ks bs (Nat.le_refl _) hk hb hkl hbl hox0_5.rd hox1.rd).mono ?_
  rintro e w6 ⟨r1, rfl, hor1, hb6⟩
  have hz6 := hb6.size
  have hb06 : Below w.heap.size w w6 := hb05.trans (hb6.mono hb05.size)
  have ro0 : Rd w3.heap.size w6 r0 _ := ((hor0.rd.below hb4).below (hb5.mono hz4)).below (hb6.mono (by omega))
  have hox0_6 := hox0_5.below hb6 (Nat.le_refl _)
  have hox1_6 := hox1.below hb6 (Nat.le_refl _)
  have hblk0 := hox0.blk
  have hblk1 := hox1.blk
  clear hor0 hox0 hox1 hox0_5
  go_wp2_with fail
  refine (eqByteS_same _ _ w6 r1 r0 (keyB ks bs) (by omega) hor1.rd ro0).mono ?_
  rintro e w7 ⟨rfl, n7, rfl⟩
  go_wp2_with fail
  refine (toByteS_any w.heap.size (w6.drewN n7) _ ks hkl hb06.size ((hra.below hb06).drewN n7)).mono ?_
  rintro e w8 ⟨t8, rfl, ho8, hb8⟩
  have hz8 : w6.heap.size ≤ w8.heap.size := hb8.size
  have hb08 : Below w.heap.size w w8 := (below_drewN hb06 n7).trans (hb8.mono hb06.size)
  have hox0_8 : Own 5 w8 w3.heap.size x0 _ := (show Own 5 (w6.drewN n7) _ _ _ from hox0_6).below hb8 (Nat.le_refl _)
  have hox1_8 : Own 5 w8 w4.heap.size x1 _ := (show Own 5 (w6.drewN n7) _ _ _ from hox1_6).below hb8 (Nat.le_refl _)
  have hor1_8 : Own 5 w8 w5.heap.size r1 _ := (show Own 5 (w6.drewN n7) _ _ _ from hor1).below hb8 (Nat.le_refl _)
  have ro0_8 : Rd w3.heap.size w8 r0 _ := (ro0.drewN n7).below (hb8.mono (by show w3.heap.size ≤ w6.heap.size; omega))
  clear hox0_6 hox1_6 hor1 ro0
  go_wp2_with fail
  refine (eqByteS_same _ _ w8 x0 t8 ks (by omega) hox0_8.rd ho8.rd).mono ?_
  rintro e w9 ⟨rfl, n9, rfl⟩
  go_wp2_with fail
  refine (toByteS_any w.heap.size (w8.drewN n9) _ bs hbl hb08.size ((hrb.below hb08).drewN n9)).mono ?_
  rintro e w10 ⟨t10, rfl, ho10, hb10⟩
  have hz10 : w8.heap.size ≤ w10.heap.size := hb10.size
  have hb0a : Below w.heap.size w w10 := (below_drewN hb08 n9).trans (hb10.mono hb08.size)
  have hox0_a : Own 5 w10 w3.heap.size x0 _ := (show Own 5 (w8.drewN n9) _ _ _ from hox0_8).below hb10 (Nat.le_refl _)
  have hox1_a : Own 5 w10 w4.heap.size x1 _ := (show Own 5 (w8.drewN n9) _ _ _ from hox1_8).below hb10 (Nat.le_refl _)
  have hor1_a : Own 5 w10 w5.heap.size r1 _ := (show Own 5 (w8.drewN n9) _ _ _ from hor1_8).below hb10 (Nat.le_refl _)
  have ro0_a : Rd w3.heap.size w10 r0 _ := (ro0_8.drewN n9).below (hb10.mono (by show w3.heap.size ≤ w8.heap.size; omega))
  clear hox0_8 hox1_8 hor1_8 ro0_8 ho8
  go_wp2_with fail
  refine (eqByteS_same _ _ w10 x1 t10 bs (by omega) hox1_a.rd ho10.rd).mono ?_
  rintro e w11 ⟨rfl, n11, rfl⟩
  go_wp2_with fail
  refine (markByteS_any w3.heap.size (w10.drewN n11) x0 _ 1 (by simp; omega) (by omega) hox0_a).mono ?_
  rintro e w12 ⟨rfl, ho12, hb12, hg12⟩
  rw [List.length_map]
  have hz12 : w10.heap.size ≤ w12.heap.size := hb12.size
  have hox1_c : Own 5 w12 w4.heap.size x1 _ := (show Own 5 (w10.drewN n11) _ _ _ from hox1_a).apart hg12 hblk0
  have hor1_c : Own 5 w12 w5.heap.size r1 _ := (show Own 5 (w10.drewN n11) _ _ _ from hor1_a).apart hg12 (fun k hk => by have := hblk0 k hk; omega)
  have ro0_c : Rd w3.heap.size w12 r0 _ := (ro0_a.drewN n11).below hb12
  have hb0c : Below w.heap.size w w12 := (below_drewN hb0a n11).trans (hb12.mono (by omega))
  clear ho12 hg12 hox0_a hox1_a hor1_a ro0_a ho10
  go_wp2_with fail
  refine (markByteS_any w4.heap.size w12 x1 _ (1 + ks.length) (by simp; omega) (by omega) hox1_c).mono ?_
  rintro e w13 ⟨rfl, ho13, hb13, hg13⟩
  rw [List.length_map]
  have hz13 := hb13.size
  have hor1_d : Own 5 w13 w5.heap.size r1 _ := hor1_c.apart hg13 hblk1
  have ro0_d : Rd w3.heap.size w13 r0 _ := ro0_c.below (hb13.mono hz4)
  have hb0d : Below w.heap.size w w13 := hb0c.trans (hb13.mono (by omega))
  clear ho13 hg13 hox1_c hor1_c ro0_c
  go_wp2_with fail
  refine (eqByteS_same _ _ w13 r1 r0 (keyB ks bs) (by omega) hor1_d.rd ro0_d).mono ?_
  rintro e w14 ⟨rfl, n14, rfl⟩
  go_wp2_with fail
  refine (markByteS_any w5.heap.size (w13.drewN n14) r1 _ 1 (by simp; omega) (by omega) hor1_d).mono ?_
  rintro e w15 ⟨rfl, ho15, hb15, _⟩
  rw [List.length_map] at ho15 ⊢
  have hz15 : w13.heap.size ≤ w15.heap.size := hb15.size
  have ro0_f : Rd w3.heap.size w15 r0 _ := (ro0_d.drewN n14).below (hb15.mono (by omega))
  have hb0f : Below w.heap.size w w15 := (below_drewN hb0d n14).trans (hb15.mono (by omega))
  go_wp2_with fail
  refine (heldByteS_same _ w15 r1 1 (keyB ks bs).length (by omega) (by omega) ho15.rd).mono ?_
  rintro e w15' ⟨rfl, rfl⟩
  go_wp2_with fail
  refine (toByteS_any w.heap.size w15' _ ks hkl hb0f.size (hra.below hb0f)).mono ?_
  rintro e w16 ⟨t16, rfl, ho16, hb16⟩
  have hz16 := hb16.size
  have hb0g : Below w.heap.size w w16 := hb0f.trans (hb16.mono hb0f.size)
  go_wp2_with fail
  refine (toByteS_any w.heap.size w16 _ bs hbl hb0g.size (hrb.below hb0g)).mono ?_
  rintro e w17 ⟨t17, rfl, ho17, hb17⟩
  have hz17 := hb17.size
  have hb0h : Below w.heap.size w w17 := hb0g.trans (hb17.mono hb0g.size)
  go_wp2_with fail
  refine (implKeySum_any w17.heap.size w17 t16 t17 ks bs (Nat.le_refl _) hk hb hkl hbl (ho16.below hb17 (Nat.le_refl _)).rd ho17.rd).mono ?_
  rintro e w18 ⟨r2, rfl, hor2, hb18⟩
  have hz18 := hb18.size
  have ro0_i : Rd w3.heap.size w18 r0 _ := ((ro0_f.below (hb16.mono (by omega))).below (hb17.mono (by omega))).below (hb18.mono (by omega))
  have ho18 := ((ho15.below hb16 (Nat.le_refl _)).below hb17 (Nat.le_refl _)).below hb18 (Nat.le_refl _)
  have hb0i : Below w.heap.size w w18 := hb0h.trans (hb18.mono hb0h.size)
  go_wp2_with fail
  refine (eqByteS_same _ _ w18 r2 r0 (keyB ks bs) (by omega) hor2.rd ro0_i).mono ?_
  rintro e w19 ⟨rfl, n19, rfl⟩
  go_wp2_with fail
  refine (heldByteS_same _ (w18.drewN n19) r1 1 (keyB ks bs).length (by omega) (by omega) ho18.rd).mono ?_
  rintro e w20 ⟨rfl, rfl⟩
  go_wp2_with fail
  go_ret
  exact ⟨rfl, below_drewN hb0i n19⟩
end Go.Proofs.Ythkopbkceeggjaa
