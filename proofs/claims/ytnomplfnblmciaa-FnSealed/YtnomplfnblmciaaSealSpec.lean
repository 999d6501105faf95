/- The specification's SealText, whole. -/
import Derived.Test.YtnomplfnblmciaaSealSpMask
import Derived.Test.YtnomplfnblmciaaTextsBase
import Derived.Laws.IdiomStrings
namespace Go.Proofs.Ytnomplfnblmciaa
open Go.RowKit
set_option linter.unusedVariables false

theorem strInts_lenS (s : ByteArray) : (strInts s).length = s.size := strInts_len s
theorem strInts_byteS (s : ByteArray) : ∀ c ∈ strInts s, 0 ≤ c ∧ c ≤ 255 := by
  intro c hc
  obtain ⟨b, _, rfl⟩ := List.mem_map.1 hc
  have := b.toNat_lt
  omega
/-- A text made bytes. -/
theorem run_bytes_rd (w : World) (s : ByteArray) (hs : s.size ≤ 1048576) : ∃ v w1, (convert 9 22 (.string s)).run Try.prog w = .ok v w1 ∧ (∃ a c, v = .slice a s.size c) ∧ Rd w1.heap.size w1 v ((strInts s).map (Value.int .u8)) ∧ Below w.heap.size w w1 := by
  have h := run_bytes_of_string (P := Try.prog) w 9 22 5 s Try.underlying9 Try.underlying22 Try.underlying5
  refine ⟨_, _, h, ⟨_, _, rfl⟩, ?_, (Below.refl _ _).drew.alloc (Nat.le_refl _) _⟩
  have hl : ((strInts s).map (Value.int .u8)).length = s.size := by rw [List.length_map, strInts_lenS]
  refine ⟨_, _, by rw [hl], by rw [hl]; exact grownCap_ge _ _ _ _, grownCap_le_maxLen _ _ _ _ (by unfold maxLen; omega), (fun h => by cases h), fun _ => ⟨w.heap.size, 0, rfl, by rw [World.size_alloc, World.size_drew]; omega, fun j u hj => ?_⟩⟩
  rw [Nat.zero_add]
  have hc := World.cell?_alloc_mark w.drew (bytesRow s (grownCap w s.size 0 5)) 5 ((bytesRow s (grownCap w s.size 0 5)).size, (bytesRow s (grownCap w s.size 0 5)).size + 1) j
  rw [World.size_drew] at hc
  rw [hc]
  have hj1 := (List.getElem?_eq_some_iff.1 hj).1
  rw [hl] at hj1
  unfold bytesRow
  rw [Array.getElem?_append_left (by rw [Array.size_map]; exact hj1)]
  rw [← hj]
  simp [strInts]
  rfl
/-- A conversion whose run is known. -/
theorem wpList_convertB {P : Program} {w w1 : World} {ops : Array Oper} {rest : List Oper} {o : Oper} {a : Act} {Q : Exit → Act → World → Prop} (hg : o.guard = none) (f t : TypeId) (x : Operand) (hop : o.op = Op.convert f t x) (v u : Value) (hx : a.eval x = v) (hrun : (convert f t v).run P w = .ok u w1)
    (hK : wpList P ops Q rest (a.put o.dst u) w1) : wpList P ops Q (o :: rest) a w := by
  refine wpList_plain hg fun K' hK' => ?_
  unfold Oper.wp
  simp [execOp, hop, hx, hrun, Result.andThen]
  exact hK' _ _ hK

set_option maxHeartbeats 4000000 in
set_option maxRecDepth 100000 in
theorem specSeal_any (C : Nat) (w : World) (vk : Value) (key : List Int) (n : Int) (s : ByteArray) (hC : C ≤ w.heap.size) (hk : ∀ c ∈ key, 0 ≤ c ∧ c ≤ 255) (hkl : key.length ≤ 1048576) (hsl : s.size ≤ 1048576)
    (hra : Rd C w vk (key.map (Value.int .u8))) :
    Calls Try.prog 7 #[vk, .int .i64 n, .string s] w fun e w' => ∃ r, e = .returned (.tuple #[r, .int .i64 (sealC key n (strInts s))]) ∧ Own 5 w' w.heap.size r ((sealB key n (strInts s)).map (Value.int .u8)) ∧ Below w.heap.size w w' := by
  obtain ⟨i0, hi, hz0, hz1, hz2⟩ := info_parts info5
  have hra0 := hra
  obtain ⟨ao, ca, rfl, _, _, _, hrc⟩ := hra
  rw [List.length_map] at hra0 ⊢
  clear hrc
  have hls := strInts_lenS s
  have hbs := strInts_byteS s
  obtain ⟨vb, w1, hcv, ⟨ab, cb, rfl⟩, hrb, hb1⟩ := run_bytes_rd w s hsl
  by_cases h1 : key.length = 8
  · rw [h1] at hra0 ⊢
    have H1 : Hid (key.length = 8) := h1
    by_cases h2 : n < 0
    · obtain ⟨e1, e2⟩ := seal_no (key := key) (n := n) (text := strInts s) (by omega)
      rw [e1, e2]
      clear e1 e2 hcv h1
      go_enter Try.func7, Try.ntmps7
      go_wp2_with fail
      go_ret2
      exact ⟨_, rfl, own_lit _ 5 [] 0 rfl (by decide), (Below.refl _ _).alloc (Nat.le_refl _) _⟩
    · by_cases h3 : 1000000000000 < n
      · obtain ⟨e1, e2⟩ := seal_no (key := key) (n := n) (text := strInts s) (by omega)
        rw [e1, e2]
        clear e1 e2 hcv h1
        go_enter Try.func7, Try.ntmps7
        go_wp2_with fail
        go_ret2
        exact ⟨_, rfl, own_lit _ 5 [] 0 rfl (by decide), (Below.refl _ _).alloc (Nat.le_refl _) _⟩
      · by_cases h4 : 200 < s.size
        · obtain ⟨e1, e2⟩ := seal_no (key := key) (n := n) (text := strInts s) (by omega)
          rw [e1, e2]
          clear e1 e2 hcv h1
          go_enter Try.func7, Try.ntmps7
          go_wp2_with fail
          go_ret2
          exact ⟨_, rfl, own_lit _ 5 [] 0 rfl (by decide), (Below.refl _ _).alloc (Nat.le_refl _) _⟩
        · obtain ⟨m, rfl⟩ := Int.eq_ofNat_of_zero_le (show 0 ≤ n by omega)
          have hm : m ≤ 1000000000000 := by omega
          obtain ⟨e1, e2⟩ := seal_yes (key := key) (n := m) (text := strInts s) h1 hm (by omega)
          rw [e1, e2]
          have HM := fun (wz : World) (hz : Below w1.heap.size w1 wz) => l16Mask_any wz.heap.size wz (.slice ao 8 ca) (.slice ab s.size cb) key (strInts s) m (Nat.le_refl _) hk h1 hm hbs (by omega) (((hra0.below (hb1.mono hC)).mono (by have := hb1.size; omega)).below hz |>.mono hz.size) ((hrb.below hz).mono hz.size)
          have hX := maskL_bytes key m hbs
          have hXl := maskL_len key m (strInts s)
          generalize maskL key m (strInts s) = X at *
          have z1 := hb1.size
          clear h1
          have HSE : Hid (sealL key m X = ksum key (wide m ++ X)) := rfl
          have hSl := sealL_len key m X
          generalize sealL key m X = Y at *
          go_enter Try.func7, Try.ntmps7
          go_wp2_with (refine wpList_convertB rfl _ _ _ rfl _ _ rfl hcv ?_)
          refine (HM w1 (Below.refl _ _)).mono ?_
          rintro e w2 ⟨r2, rfl, ho2, hb2⟩
          have z2 := hb2.size
          have hb02 := below_seq hb1 hb2
          clear hcv HM
          go_wp2_with fail
          refine (l16Eight_any m hm w2).mono ?_
          rintro e w3 ⟨r3, rfl, ho3, hb3⟩
          have z3 := hb3.size
          have hb03 := below_seq hb02 hb3
          have ho23 := ho2.below hb3 (Nat.le_refl _)
          go_wp2_with (at_builtin; refine wpList_append_rd rfl _ _ 22 rfl w2.heap.size 5 i0 (.int .u8 0) 1 Try.underlying22 hi hz0 hz1 hz2 rfl _ _ rfl ho3 _ _ (X.map (Value.int .u8)) rfl ho23.rd (ints_oneCell _ _) (by simp [maxLen, wide_len]; omega) (by simp [wide_len]; omega) z3 ?_)
          intro v4 w4 ho4 hg4
          have hb24 : Below w2.heap.size w2 w4 := hb3.grown hg4 z3 ho3.lt
          have z4 := hb24.size
          have hb04 := below_seq hb02 hb24
          have ho24 := ho2.below hb24 (Nat.le_refl _)
          rw [← List.map_append] at ho4
          clear hg4 ho3 ho23
          go_wp2_with fail
          refine (l16Sum_any w4.heap.size w4 (.slice ao 8 ca) v4 key (wide m ++ X) (Nat.le_refl _) hk (fun c hc => (List.mem_append.1 hc).elim (wide_bytes hm c) (hX c)) ⟨by rw [H1.out]; omega, by rw [H1.out]; omega⟩ (by rw [List.length_append, wide_len]; omega) ((hra0.below (hb04.mono hC)).mono (by omega)) ho4.rd).mono ?_
          rintro e w5 ⟨r5, rfl, ho5, hb5⟩
          rw [← HSE.out] at ho5
          have hb05 := below_seq hb04 hb5
          have z5 := hb5.size
          have ho25 := (ho24.below hb5 (Nat.le_refl _)).mono z1
          clear ho4 ho24 ho2
          go_wp2_with (at_builtin; refine wpList_append_rd rfl _ _ 22 rfl w.heap.size 5 i0 (.int .u8 0) 1 Try.underlying22 hi hz0 hz1 hz2 rfl _ _ rfl ho25 _ _ (Y.map (Value.int .u8)) rfl ho5.rd (ints_oneCell _ _) (by simp [maxLen]; omega) (by simp; omega) hb05.size ?_)
          intro v6 w6 ho6 hg6
          have hb06 : Below w.heap.size w w6 := hb05.grown hg6 hb05.size ho25.lt
          clear hg6
          go_wp2_with fail
          go_ret2
          exact ⟨_, rfl, by rw [List.map_append]; exact ho6, hb06⟩
  · have hk8 : ((key.length : Int) == 8) = false := by simp; omega
    obtain ⟨e1, e2⟩ := seal_no (key := key) (n := n) (text := strInts s) (by omega)
    rw [e1, e2]
    clear e1 e2 hcv
    go_enter Try.func7, Try.ntmps7
    go_wp2_with fail
    go_ret2
    exact ⟨_, rfl, own_lit _ 5 [] 0 rfl (by decide), (Below.refl _ _).alloc (Nat.le_refl _) _⟩
end Go.Proofs.Ytnomplfnblmciaa
