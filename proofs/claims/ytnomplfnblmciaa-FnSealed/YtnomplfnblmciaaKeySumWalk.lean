/- What the two functions KeySum do, and the walk of the law over both: it answers true whatever key and bytes it is given. -/
import Derived.Test.YtnomplfnblmciaaSums
import Derived.Test.YtnomplfnblmciaaCells
import Derived.Test.YtnomplfnblmciaaCopies
import Derived.Test.YtnomplfnblmciaaFrame
namespace Go.Proofs.Ytnomplfnblmciaa
open Go.RowKit
set_option linter.unusedVariables false

/-- The first sum, the second one. -/
def keyX (ks bs : List Int) : Nat := sumF 2166136261 (ks ++ bs ++ ks)
def keyY (ks bs : List Int) : Nat := sumF 2166136261 (four (keyX ks bs) ++ ks ++ bs)
def keyFits (ks bs : List Int) : Bool := decide (bs.length + 2 * ks.length ≤ 1048576 ∧ bs.length + ks.length + 4 ≤ 1048576)
def keyLen (ks : List Int) : Bool := decide (1 ≤ ks.length ∧ ks.length ≤ 64)
/-- What KeySum answers, of at most MaxBytes bytes: bytes and a code. -/
def keyB (ks bs : List Int) : List Int := if keyLen ks && keyFits ks bs then four (keyX ks bs) ++ four (keyY ks bs) else []
def keyC (ks bs : List Int) : Int := if keyLen ks then (if keyFits ks bs then 0 else 2) else 4
theorem keyB_len (ks bs : List Int) : (keyB ks bs).length ≤ 8 := by
  unfold keyB
  split <;> simp [four]
theorem key_bad {ks bs : List Int} (h : ¬ (1 ≤ ks.length ∧ ks.length ≤ 64)) : keyB ks bs = [] ∧ keyC ks bs = 4 := by simp [keyB, keyC, keyLen, h]
theorem key_long {ks bs : List Int} (h : 1 ≤ ks.length ∧ ks.length ≤ 64) (h2 : ¬ (bs.length + 2 * ks.length ≤ 1048576 ∧ bs.length + ks.length + 4 ≤ 1048576)) : keyB ks bs = [] ∧ keyC ks bs = 2 := by
  have h3 : keyFits ks bs = false := by unfold keyFits; simpa using h2
  simp [keyB, keyC, keyLen, h, h3]
theorem key_ok {ks bs : List Int} (h : 1 ≤ ks.length ∧ ks.length ≤ 64) (h2 : bs.length + 2 * ks.length ≤ 1048576 ∧ bs.length + ks.length + 4 ≤ 1048576) : keyB ks bs = four (keyX ks bs) ++ four (keyY ks bs) ∧ keyC ks bs = 0 := by
  have h3 : keyFits ks bs = true := by unfold keyFits; simpa using h2
  simp [keyB, keyC, keyLen, h, h3]
theorem keyX_lt (ks bs : List Int) : keyX ks bs < 4294967296 := sumF_lt _ (by decide)
theorem keyY_lt (ks bs : List Int) : keyY ks bs < 4294967296 := sumF_lt _ (by decide)

set_option maxHeartbeats 1000000 in
set_option maxRecDepth 100000 in
theorem specKeySum_any (C : Nat) (w : World) (va vb : Value) (ks bs : List Int) (hC : C ≤ w.heap.size) (hk : ∀ c ∈ ks, 0 ≤ c ∧ c ≤ 255) (hb : ∀ c ∈ bs, 0 ≤ c ∧ c ≤ 255) (hkl : ks.length ≤ 1048576) (hbl : bs.length ≤ 1048576)
    (hra : Rd C w va (ks.map (Value.int .u8))) (hrb : Rd C w vb (bs.map (Value.int .u8))) :
    Calls Try.prog 28 #[va, vb] w fun e w' => ∃ r, e = .returned (.tuple #[r, .int .i64 (keyC ks bs)]) ∧ Own 5 w' w.heap.size r ((keyB ks bs).map (Value.int .u8)) ∧ Below w.heap.size w w' := by
  obtain ⟨i0, hi, hz0, hz1, hz2⟩ := info_parts info5
  have hra0 := hra
  have hrb0 := hrb
  obtain ⟨ao, ca, rfl, _, _, _, hra⟩ := hra
  obtain ⟨bo, cb, rfl, _, _, _, hrb⟩ := hrb
  rw [List.length_map] at hra0 hrb0 ⊢
  rw [List.length_map]
  clear hra hrb
  by_cases h1 : 1 ≤ ks.length
  · by_cases h2 : ks.length ≤ 64
    · by_cases h3 : bs.length + 2 * ks.length ≤ 1048576
      · by_cases h4 : bs.length + ks.length + 4 ≤ 1048576
        · obtain ⟨e1, e2⟩ := key_ok (ks := ks) (bs := bs) ⟨h1, h2⟩ ⟨h3, h4⟩
          rw [e1, e2]
          clear e1 e2
          go_enter Try.func28, Try.ntmps28
          go_wp2_with fail
          refine (l01Join_any C w _ _ _ ks bs ks hC (by omega) hra0 hrb0 hra0).mono ?_
          rintro e w1 ⟨r1, rfl, ho1, hb1⟩
          have hz1' := hb1.size
          have hby1 : ∀ c ∈ ks ++ bs ++ ks, 0 ≤ c ∧ c ≤ 255 := by
            intro c hc
            simp only [List.mem_append] at hc
            rcases hc with (h | h) | h
            · exact hk c h
            · exact hb c h
            · exact hk c h
          go_wp2_with fail
          refine (sum32_any _ w1 r1 (ks ++ bs ++ ks) hby1 (by simp; omega) ho1.rd).mono ?_
          rintro e w1' ⟨rfl, rfl⟩
          rw [show sumF 2166136261 (ks ++ bs ++ ks) = keyX ks bs from rfl]
          have hX := keyX_lt ks bs
          have hY := keyY_lt ks bs
          go_wp2_with fail
          refine (l01Four_any (keyX ks bs) hX w1').mono ?_
          rintro e w2 ⟨r2, rfl, ho2, hb2⟩
          have hz2' := hb2.size
          have hb02 : Below w.heap.size w w2 := hb1.trans (hb2.mono hz1')
          have hf4 : (four (keyX ks bs)).length = 4 := rfl
          go_wp2_with fail
          refine (l01Join_any w2.heap.size w2 _ _ _ (four (keyX ks bs)) ks bs (Nat.le_refl _) (by omega) ho2.rd ((hra0.below (hb02.mono hC)).mono (by omega)) ((hrb0.below (hb02.mono hC)).mono (by omega))).mono ?_
          rintro e w3 ⟨r3, rfl, ho3, hb3⟩
          have hz3' := hb3.size
          have hby3 : ∀ c ∈ four (keyX ks bs) ++ ks ++ bs, 0 ≤ c ∧ c ≤ 255 := by
            intro c hc
            simp only [List.mem_append] at hc
            rcases hc with (h | h) | h
            · exact four_bytes hX c h
            · exact hk c h
            · exact hb c h
          go_wp2_with fail
          refine (sum32_any _ w3 r3 (four (keyX ks bs) ++ ks ++ bs) hby3 (by simp; omega) ho3.rd).mono ?_
          rintro e w3' ⟨rfl, rfl⟩
          rw [show sumF 2166136261 (four (keyX ks bs) ++ ks ++ bs) = keyY ks bs from rfl]
          go_wp2_with fail
          refine (l01Four_any (keyY ks bs) hY w3').mono ?_
          rintro e w4 ⟨r4, rfl, ho4, hb4⟩
          have hz4' := hb4.size
          have ho24 : Own 5 w4 w.heap.size r2 _ := ((ho2.below hb3 (Nat.le_refl _)).below hb4 (by omega)).mono hz1'
          have hb04 : Below w.heap.size w w4 := (hb02.trans (hb3.mono hb02.size)).trans (hb4.mono (by omega))
          have hf4' : (four (keyY ks bs)).length = 4 := rfl
          clear ho1 ho2 ho3
          go_wp2_with (at_builtin; refine wpList_append_rd rfl (.tmp 55) (.tmp 56) 22 rfl w.heap.size 5 i0 (.int .u8 0) 1 Try.underlying22 hi hz0 hz1 hz2 rfl _ _ rfl ho24 _ _ ((four (keyY ks bs)).map (Value.int .u8)) rfl ho4.rd (ints_oneCell _ _) (by simp [maxLen]; omega) (by simp; omega) hb04.size ?_)
          intro v5 w5 ho5 hg5
          have hb05 : Below w.heap.size w w5 := hb04.grown hg5 hb04.size ho24.lt
          clear hg5
          go_wp2_with fail
          go_ret2
          exact ⟨_, rfl, by simpa using ho5, hb05⟩
        · obtain ⟨e1, e2⟩ := key_long (ks := ks) (bs := bs) ⟨h1, h2⟩ (by omega)
          rw [e1, e2]
          clear e1 e2
          go_enter Try.func28, Try.ntmps28
          go_wp2_with fail
          go_ret2
          exact ⟨_, rfl, own_lit _ 5 [] 0 rfl (by decide), (Below.refl _ _).alloc (Nat.le_refl _) _⟩
      · obtain ⟨e1, e2⟩ := key_long (ks := ks) (bs := bs) ⟨h1, h2⟩ (by omega)
        rw [e1, e2]
        clear e1 e2
        go_enter Try.func28, Try.ntmps28
        go_wp2_with fail
        go_ret2
        exact ⟨_, rfl, own_lit _ 5 [] 0 rfl (by decide), (Below.refl _ _).alloc (Nat.le_refl _) _⟩
    · obtain ⟨e1, e2⟩ := key_bad (ks := ks) (bs := bs) (by omega)
      rw [e1, e2]
      clear e1 e2
      go_enter Try.func28, Try.ntmps28
      go_wp2_with fail
      go_ret2
      exact ⟨_, rfl, own_lit _ 5 [] 0 rfl (by decide), (Below.refl _ _).alloc (Nat.le_refl _) _⟩
  · obtain ⟨e1, e2⟩ := key_bad (ks := ks) (bs := bs) (by omega)
    rw [e1, e2]
    clear e1 e2
    go_enter Try.func28, Try.ntmps28
    go_wp2_with fail
    go_ret2
    exact ⟨_, rfl, own_lit _ 5 [] 0 rfl (by decide), (Below.refl _ _).alloc (Nat.le_refl _) _⟩

set_option maxHeartbeats 1000000 in
set_option maxRecDepth 100000 in
theorem implKeySum_any (C : Nat) (w : World) (va vb : Value) (ks bs : List Int) (hC : C ≤ w.heap.size) (hk : ∀ c ∈ ks, 0 ≤ c ∧ c ≤ 255) (hb : ∀ c ∈ bs, 0 ≤ c ∧ c ≤ 255) (hkl : ks.length ≤ 1048576) (hbl : bs.length ≤ 1048576)
    (hra : Rd C w va (ks.map (Value.int .u8))) (hrb : Rd C w vb (bs.map (Value.int .u8))) :
    Calls Try.prog 40 #[va, vb] w fun e w' => ∃ r, e = .returned (.tuple #[r, .int .i64 (keyC ks bs)]) ∧ Own 5 w' w.heap.size r ((keyB ks bs).map (Value.int .u8)) ∧ Below w.heap.size w w' := by
  have hra0 := hra
  have hrb0 := hrb
  obtain ⟨ao, ca, rfl, _, _, _, hra⟩ := hra
  obtain ⟨bo, cb, rfl, _, _, _, hrb⟩ := hrb
  rw [List.length_map] at hra0 hrb0 ⊢
  rw [List.length_map]
  clear hra hrb
  by_cases h1 : 1 ≤ ks.length
  · by_cases h2 : ks.length ≤ 64
    · by_cases h3 : bs.length + 2 * ks.length ≤ 1048576 ∧ bs.length + ks.length + 4 ≤ 1048576
      · obtain ⟨e1, e2⟩ := key_ok (ks := ks) (bs := bs) ⟨h1, h2⟩ h3
        rw [e1, e2]
        clear e1 e2
        have hX := keyX_lt ks bs
        have hY := keyY_lt ks bs
        have hs1 := sumF_lt ks (h := 2166136261) (by decide)
        have hs2 := sumF_lt bs hs1
        have EX : Hid (sumF (sumF (sumF 2166136261 ks) bs) ks = keyX ks bs) := by unfold Hid keyX; rw [sumF_append, sumF_append]
        have hf4 : (four (keyX ks bs)).length = 4 := rfl
        have ht1 := sumF_lt (four (keyX ks bs)) (h := 2166136261) (by decide)
        have ht2 := sumF_lt ks ht1
        have EY : Hid (sumF (sumF (sumF 2166136261 (four (keyX ks bs))) ks) bs = keyY ks bs) := by unfold Hid keyY; rw [sumF_append, sumF_append]
        go_enter Try.func40, Try.ntmps40
        go_wp2_with fail
        all_goals
          refine (sumOn_start C w _ ks hk (by omega) hra0).mono ?_
          rintro e w1 ⟨rfl, rfl⟩
          go_wp2_with fail
          refine (sumOn_any C w1 _ bs _ hs1 hb (by omega) hrb0).mono ?_
          rintro e w1' ⟨rfl, rfl⟩
          go_wp2_with fail
          refine (sumOn_any C w1' _ ks _ hs2 hk (by omega) hra0).mono ?_
          rintro e w1 ⟨rfl, rfl⟩
          rw [EX.out]
          go_wp2_with fail
          refine (appendSum_any w1.heap.size w1 _ [] (keyX ks bs) hX (by simp) (Nat.le_refl _) (World.ownsRow_nil _ _ _ _)).mono ?_
          rintro e w2 ⟨r2, rfl, ho2, hb2⟩
          rw [List.nil_append] at ho2
          have hz2 := hb2.size
          go_wp2_with fail
          refine (sumOn_start _ w2 r2 (four (keyX ks bs)) (four_bytes hX) (by omega) ho2.rd).mono ?_
          rintro e w2' ⟨rfl, rfl⟩
          go_wp2_with fail
          refine (sumOn_any C w2' _ ks _ ht1 hk (by omega) (hra0.below (hb2.mono hC))).mono ?_
          rintro e w2 ⟨rfl, rfl⟩
          go_wp2_with fail
          refine (sumOn_any C w2 _ bs _ ht2 hb (by omega) (hrb0.below (hb2.mono hC))).mono ?_
          rintro e w2' ⟨rfl, rfl⟩
          rw [EY.out]
          go_wp2_with fail
          refine (appendSum_any w1.heap.size w2' r2 (four (keyX ks bs)) (keyY ks bs) hY (by omega) hz2 ho2).mono ?_
          rintro e w3 ⟨r3, rfl, ho3, hb3⟩
          go_wp2_with fail
          go_ret2
          exact ⟨_, rfl, ho3, hb2.trans hb3⟩
      · obtain ⟨e1, e2⟩ := key_long (ks := ks) (bs := bs) ⟨h1, h2⟩ h3
        rw [e1, e2]
        clear e1 e2
        go_enter Try.func40, Try.ntmps40
        go_wp2_with fail
        all_goals
          go_ret2
          exact ⟨_, rfl, World.ownsRow_nil _ _ _ _, Below.refl _ _⟩
    · obtain ⟨e1, e2⟩ := key_bad (ks := ks) (bs := bs) (by omega)
      rw [e1, e2]
      clear e1 e2
      go_enter Try.func40, Try.ntmps40
      go_wp2_with fail
      go_ret2
      exact ⟨_, rfl, World.ownsRow_nil _ _ _ _, Below.refl _ _⟩
  · obtain ⟨e1, e2⟩ := key_bad (ks := ks) (bs := bs) (by omega)
    rw [e1, e2]
    clear e1 e2
    go_enter Try.func40, Try.ntmps40
    go_wp2_with fail
    go_ret2
    exact ⟨_, rfl, World.ownsRow_nil _ _ _ _, Below.refl _ _⟩

end Go.Proofs.Ytnomplfnblmciaa
