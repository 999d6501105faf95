/- Numbers and texts come back from their bytes, with a byte less or more texts do not: plain facts. -/
import Derived.Test.YtbkdjaodbknlpaaTextsGet
namespace Go.Proofs.Ytbkdjaodbknlpaa
open Go.RowKit Go.Lib
set_option linter.unusedVariables false

theorem drop_first {xs r : List Int} {p : Nat} {c : Int} (h : xs.drop p = c :: r) : ∃ hp : p < xs.length, xs[p] = c ∧ xs.drop (p + 1) = r := by
  have hp : p < xs.length := by
    rcases Nat.lt_or_ge p xs.length with h1 | h1
    · exact h1
    · rw [List.drop_of_length_le h1] at h; simp at h
  rw [List.drop_eq_getElem_cons hp] at h
  simp only [List.cons.injEq] at h
  exact ⟨hp, h.1, h.2⟩
theorem drop_more {xs a r : List Int} {p : Nat} (h : xs.drop p = a ++ r) : xs.drop (p + a.length) = r := by
  rw [← List.drop_drop, h, List.drop_left]
theorem drop_room {xs a r : List Int} {p : Nat} (hp : p ≤ xs.length) (h : xs.drop p = a ++ r) : p + a.length ≤ xs.length := by
  have := congrArg List.length h
  simp only [List.length_drop, List.length_append] at this
  omega

theorem getF_back (k : Nat) : ∀ n, n ≤ k → ∀ (xs : List Int) f i p (v : Int) r, f + i = 9 → (n : Int) * 128 ^ i ≤ 4611686018427387903 → (0 < i → 0 < n) → xs.drop p = enc n ++ r → getF xs f i p v = some (v + (n : Int) * 128 ^ i, p + (enc n).length) := by
  induction k with
  | zero =>
    intro n hn xs f i p v r hf hb hi hd
    obtain rfl : n = 0 := by omega
    obtain rfl : i = 0 := by omega
    obtain rfl : f = 8 + 1 := by omega
    rw [enc_small (by omega)] at hd ⊢
    obtain ⟨hp, h1, _⟩ := drop_first hd
    rw [getF_last hp (by rw [h1]; decide), if_neg (by omega), h1]
    simp
  | succ k ih =>
    intro n hn xs f i p v r hf hb hi hd
    have hpw := pow_pos i
    have hi8 : i ≤ 8 := by
      rcases Nat.lt_or_ge 8 i with h | h
      · have h9 := pow_le (i := 9) (j := i) (by omega)
        have e9 : (128 : Int) ^ 9 = 9223372036854775808 := by decide
        have h1 : (1 : Int) ≤ (n : Int) := by have := hi (by omega); omega
        have := Int.mul_le_mul_of_nonneg_right h1 (Int.le_of_lt hpw)
        omega
      · exact h
    obtain ⟨g, rfl⟩ : ∃ g, f = g + 1 := ⟨f - 1, by omega⟩
    by_cases hs : n < 128
    · rw [enc_small hs] at hd ⊢
      obtain ⟨hp, h1, _⟩ := drop_first hd
      rw [getF_last hp (by rw [h1]; omega), if_neg, h1]
      · simp
      · rw [h1]
        rintro (⟨rfl, h⟩ | ⟨h2, h3⟩)
        · have e8 : (128 : Int) ^ 8 = 72057594037927936 := by decide
          rw [e8] at hb
          omega
        · have := hi (by omega); omega
    · rw [enc_big (by omega)] at hd ⊢
      obtain ⟨hp, h1, h2⟩ := drop_first hd
      have h4 : ((n / 128 : Nat) : Int) * 128 ^ (i + 1) ≤ (n : Int) * 128 ^ i := by
        rw [pow_step, ← Int.mul_assoc, Int.mul_assoc _ _ 128, Int.mul_comm _ 128, ← Int.mul_assoc]
        exact Int.mul_le_mul_of_nonneg_right (by omega) (Int.le_of_lt hpw)
      rw [getF_more hp (by rw [h1]; omega), ih (n / 128) (by omega) xs g (i + 1) (p + 1) _ r (by omega) (by omega) (fun _ => by omega) h2, h1]
      simp only [Option.some.injEq, Prod.mk.injEq, List.length_cons]
      refine ⟨?_, by omega⟩
      have e1 : (((n % 128 + 128 : Nat) : Int)) % 128 = ((n % 128 : Nat) : Int) := by omega
      rw [e1, pow_step, Int.add_assoc]
      congr 1
      have e2 : (n : Int) = ((n % 128 : Nat) : Int) + ((n / 128 : Nat) : Int) * 128 := by omega
      conv => rhs; rw [e2, Int.add_mul]
      congr 1
      rw [Int.mul_assoc, Int.mul_comm (128 ^ i) 128]
theorem getL_back {xs r : List Int} {p n : Nat} (hn : n ≤ 4611686018427387903) (h : xs.drop p = enc n ++ r) : getL xs p = some ((n : Int), p + (enc n).length) := by
  unfold getL
  rw [getF_back n n (Nat.le_refl _) xs 9 0 p 0 r (by omega) (by simp; omega) (by omega) h]
  simp

theorem getF_mono {xs t : List Int} : ∀ f i p v a, getF xs f i p v = some a → getF (xs ++ t) f i p v = some a := by
  intro f
  induction f with
  | zero => intro i p v a h; simp [getF] at h
  | succ f ih =>
    intro i p v a h
    by_cases hp : p < xs.length
    · have hp' : p < (xs ++ t).length := by simp; omega
      have e : (xs ++ t)[p] = xs[p] := List.getElem_append_left hp
      by_cases hc : xs[p] < 128
      · rw [getF_last hp hc] at h
        rw [getF_last hp' (by rw [e]; exact hc), e]
        exact h
      · rw [getF_more hp hc] at h
        rw [getF_more hp' (by rw [e]; exact hc), e]
        exact ih _ _ _ _ h
    · rw [getF_end (by omega)] at h; simp at h
theorem getL_mono {xs t : List Int} {p : Nat} {a : Int × Nat} (h : getL xs p = some a) : getL (xs ++ t) p = some a := getF_mono _ _ _ _ _ h

theorem alikeL_same (a b : List UInt8) : a.take (alikeL a b) = b.take (alikeL a b) := by
  induction a generalizing b with
  | nil => simp [alikeL]
  | cons x a ih =>
    cases b with
    | nil => simp [alikeL]
    | cons y b =>
      simp only [alikeL]
      split
      · rename_i h
        subst h
        rw [List.take_succ_cons, List.take_succ_cons, ih b]
      · simp
theorem ba_ext {a b : ByteArray} (h : a.data.toList = b.data.toList) : a = b := by
  cases a; cases b
  simp at h
  subst h
  rfl
/-- A text is made again of what it shares with the one ahead and of its own bytes. -/
theorem mkText_back {bs r : List Int} {last t : ByteArray} {p : Nat} (h : bs.drop p = (strInts t).drop (alike last t) ++ r) : mkText bs last (alike last t) p (t.size - alike last t) = t := by
  apply ba_ext
  rw [mkText_list, h]
  have hl : ((strInts t).drop (alike last t)).length = t.size - alike last t := by rw [List.length_drop, strInts_len]
  rw [List.take_append_of_le_length (by omega), List.take_of_length_le (l := (strInts t).drop (alike last t)) (by omega)]
  unfold alike
  rw [alikeL_same]
  conv => rhs; rw [← List.take_append_drop (alikeL last.data.toList t.data.toList) t.data.toList]
  congr 1
  unfold strInts
  rw [List.map_drop, List.map_map]
  have e : ((fun n : Int => UInt8.ofNat n.toNat) ∘ fun b : UInt8 => (b.toNat : Int)) = id := by
    funext b
    simp
  rw [e, List.map_id]
/-- What is written from the k-th text on. -/
def fromN (ss : List ByteArray) : Nat → Nat → List Int
  | _, 0 => []
  | k, m + 1 => piece ss k ++ fromN ss (k + 1) m
theorem putN_from (ss : List ByteArray) : ∀ m k, putN ss (k + m) = putN ss k ++ fromN ss k m := by
  intro m
  induction m with
  | zero => intro k; simp [fromN]
  | succ m ih =>
    intro k
    rw [show k + (m + 1) = (k + 1) + m by omega, ih (k + 1), putN, fromN, List.append_assoc]
theorem oneText_back {ss : List ByteArray} {bs r : List Int} {k p : Nat} (hk : k < ss.length) (ht : tot ss ss.length ≤ 1048576) (hp : p ≤ bs.length) (h : bs.drop p = piece ss k ++ r) :
    oneText bs p (ahead ss k) (tot ss k) = some (txt ss k, p + (piece ss k).length) := by
  have hs := tot_size ss hk
  have hm1 := tot_mono ss (show k + 1 ≤ ss.length from hk)
  simp only [tot] at hm1
  have ha := alike_le (ahead ss k) (txt ss k)
  have h0 := h
  unfold piece at h
  rw [List.append_assoc, List.append_assoc] at h
  have g1 := getL_back (by omega) h
  have h1 := drop_more h
  have r1 := drop_room hp h
  have g2 := getL_back (by omega) h1
  have h2 := drop_more h1
  have r2 := drop_room r1 h1
  have e := mkText_back h2
  have r3 := drop_room r2 h2
  rw [List.length_drop, strInts_len] at r3
  rw [one_some g1 (by rw [Int.toNat_natCast]; omega) g2 (by rw [Int.toNat_natCast]; omega) (by rw [Int.toNat_natCast, Int.toNat_natCast, e]; omega), Int.toNat_natCast, Int.toNat_natCast, e]
  simp only [Option.some.injEq, Prod.mk.injEq, true_and]
  unfold piece
  simp only [List.length_append, List.length_drop, strInts_len]
  omega
theorem textsF_back {ss : List ByteArray} {bs r : List Int} (ht : tot ss ss.length ≤ 1048576) : ∀ m k p, k + m = ss.length → p ≤ bs.length → bs.drop p = fromN ss k m ++ r → textsF bs m p (ahead ss k) (tot ss k) (ss.take k) = some (ss, p + (fromN ss k m).length) := by
  intro m
  induction m with
  | zero =>
    intro k p hk hp h
    simp only [textsF, fromN, List.length_nil, Nat.add_zero]
    rw [List.take_of_length_le (by omega)]
  | succ m ih =>
    intro k p hk hp h
    rw [fromN, List.append_assoc] at h
    have hlt : k < ss.length := by omega
    rw [textsF_some (oneText_back hlt ht hp h)]
    have h1 := ih (k + 1) (p + (piece ss k).length) (by omega) (drop_room hp h) (drop_more h)
    rw [show ahead ss (k + 1) = txt ss k from rfl, show tot ss (k + 1) = tot ss k + (txt ss k).size from rfl] at h1
    rw [show ss.take k ++ [txt ss k] = ss.take (k + 1) by rw [txt_get hlt]; simp, h1, fromN, List.length_append, Nat.add_assoc]
theorem textsL_back {ss : List ByteArray} {r : List Int} (h4 : ss.length ≤ 4096) (ht : tot ss ss.length ≤ 1048576) : textsL (putN ss ss.length ++ r) = some (ss, (putN ss ss.length).length) := by
  have e := putN_from ss ss.length 0
  rw [Nat.zero_add] at e
  have h0 : (putN ss ss.length ++ r).drop 0 = enc ss.length ++ (fromN ss 0 ss.length ++ r) := by
    rw [List.drop_zero, e, List.append_assoc]
    rfl
  unfold textsL
  rw [getL_back (by omega) h0]
  simp only
  rw [if_neg (by omega), Int.toNat_natCast]
  have h1 := textsF_back (ss := ss) (r := r) ht ss.length 0 _ (by omega) (drop_room (Nat.zero_le _) h0) (drop_more h0)
  rw [show ahead ss 0 = ByteArray.empty from rfl, show tot ss 0 = 0 from rfl, List.take_zero] at h1
  rw [h1, e]
  simp [putN]
theorem getTexts_back {ss : List ByteArray} (h4 : ss.length ≤ 4096) (ht : tot ss ss.length ≤ 1048576) : getTexts (putN ss ss.length) = some ss := by
  have h := textsL_back (r := []) h4 ht
  rw [List.append_nil] at h
  unfold getTexts
  rw [h]
  simp
theorem getTexts_much {ss : List ByteArray} (h4 : ss.length ≤ 4096) (ht : tot ss ss.length ≤ 1048576) (c : Int) : getTexts (putN ss ss.length ++ [c]) = none := by
  unfold getTexts
  rw [textsL_back h4 ht]
  simp
theorem oneText_mono {bs t : List Int} {p all : Nat} {last : ByteArray} {a : ByteArray × Nat} (h : oneText bs p last all = some a) : oneText (bs ++ t) p last all = some a := by
  unfold oneText at h
  cases h1 : getL bs p with
  | none => rw [h1] at h; simp at h
  | some z =>
    obtain ⟨k, p1⟩ := z
    rw [h1] at h
    simp only at h
    split at h
    · simp at h
    · rename_i hk
      cases h2 : getL bs p1 with
      | none => rw [h2] at h; simp at h
      | some z =>
        obtain ⟨m, p2⟩ := z
        rw [h2] at h
        simp only at h
        split at h
        · simp at h
        · rename_i hm
          split at h
          · simp at h
          · rename_i hb
            have e : mkText (bs ++ t) last k.toNat p2 m.toNat = mkText bs last k.toNat p2 m.toNat := by
              unfold mkText bytesAt
              congr 2
              by_cases hp : p2 ≤ bs.length
              · rw [List.drop_append_of_le_length hp, List.take_append_of_le_length (by rw [List.length_drop]; omega)]
              · rw [show m.toNat = 0 by omega]
                simp
            rw [← e] at h hb
            rw [one_some (getL_mono h1) hk (getL_mono h2) (by simp; omega) hb]
            exact h
theorem textsF_mono {bs t : List Int} : ∀ n p last all out a, textsF bs n p last all out = some a → textsF (bs ++ t) n p last all out = some a := by
  intro n
  induction n with
  | zero => intro p last all out a h; exact h
  | succ n ih =>
    intro p last all out a h
    cases h1 : oneText bs p last all with
    | none => rw [textsF_none h1] at h; simp at h
    | some z =>
      obtain ⟨x, q⟩ := z
      rw [textsF_some h1] at h
      rw [textsF_some (oneText_mono h1)]
      exact ih _ _ _ _ _ h
theorem textsL_mono {bs t : List Int} {a : List ByteArray × Nat} (h : textsL bs = some a) : textsL (bs ++ t) = some a := by
  unfold textsL at h ⊢
  cases h1 : getL bs 0 with
  | none => rw [h1] at h; simp at h
  | some z =>
    obtain ⟨n, p⟩ := z
    rw [h1] at h
    rw [getL_mono h1]
    simp only at h ⊢
    split
    · rename_i h4; rw [if_pos h4] at h; simp at h
    · rename_i h4; rw [if_neg h4] at h; exact textsF_mono _ _ _ _ _ _ h
/-- With the last byte gone nothing comes back. -/
theorem getTexts_less {ss : List ByteArray} (h4 : ss.length ≤ 4096) (ht : tot ss ss.length ≤ 1048576) {xs : List Int} {c : Int} (he : putN ss ss.length = xs ++ [c]) : getTexts xs = none := by
  have hb := textsL_back (r := []) h4 ht
  rw [List.append_nil] at hb
  unfold getTexts
  cases h : textsL xs with
  | none => rfl
  | some z =>
    obtain ⟨out, q⟩ := z
    have h1 := textsL_mono (t := [c]) h
    rw [← he, hb] at h1
    simp only [Option.some.injEq, Prod.mk.injEq] at h1
    have h2 := congrArg List.length he
    simp at h2
    simp only
    rw [if_neg (by omega)]
theorem putN_pos (ss : List ByteArray) : 0 < (putN ss ss.length).length := by
  have := putN_mono ss (Nat.zero_le ss.length)
  have h := enc_pos ss.length
  rw [show putN ss 0 = enc ss.length from rfl] at this
  omega
end Go.Proofs.Ytbkdjaodbknlpaa
