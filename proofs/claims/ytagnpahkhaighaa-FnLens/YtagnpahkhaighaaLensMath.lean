/- A lens and its way back, a lens in two halves: plain facts. -/
import Derived.Test.YtagnpahkhaighaaLensBackSpec
import Derived.Test.YtagnpahkhaighaaLensJoinImpl
namespace Go.Proofs.Ytagnpahkhaighaa
open Go.RowKit
set_option linter.unusedVariables false

theorem toListL_inj {a b : ByteArray} (h : a.toList = b.toList) : a = b := by
  rw [ByteArray.toList_eq, ByteArray.toList_eq] at h
  cases a with
  | mk x =>
    cases b with
    | mk y =>
      congr 1
      exact Array.toList_inj.1 h
theorem eqN_eq {a b : ByteArray} : eqN a b = true ↔ a = b := by
  unfold eqN
  constructor
  · intro h; exact toListL_inj (by simpa using h)
  · rintro rfl; simp
theorem eqN_self (a : ByteArray) : eqN a a = true := eqN_eq.2 rfl

/-- The names of a form. -/
def nm (ls : List Pr) : List ByteArray := ls.map fun p => p.1
theorem nm_len {ls ms : List Pr} (h : nm ls = nm ms) : ls.length = ms.length := by
  have := congrArg List.length h
  simpa [nm] using this
theorem nm_at {ls ms : List Pr} (h : nm ls = nm ms) {k : Nat} (hk : k < ls.length) : (prAt ls k).1 = (prAt ms k).1 := by
  have h1 : (nm ls)[k]? = (nm ms)[k]? := by rw [h]
  have hk2 : k < ms.length := by rw [← nm_len h]; exact hk
  rw [prAt_get hk, prAt_get hk2]
  unfold nm at h1
  rw [List.getElem?_map, List.getElem?_map, List.getElem?_eq_getElem hk, List.getElem?_eq_getElem hk2] at h1
  simpa using h1
theorem nm_pos (n : ByteArray) : ∀ {ls ms : List Pr}, nm ls = nm ms → posP n ls = posP n ms
  | [], [], _ => rfl
  | [], _ :: _, h => by simp [nm] at h
  | _ :: _, [], h => by simp [nm] at h
  | p :: r, q :: s, h => by
    have h1 : p.1 = q.1 ∧ nm r = nm s := by simpa [nm] using h
    have ih := nm_pos n h1.2
    unfold posP
    rw [h1.1, ih]
theorem nm_has (n : ByteArray) {ls ms : List Pr} (h : nm ls = nm ms) : hasP n ls = hasP n ms := by
  have hp := nm_pos n h
  have hl := nm_len h
  unfold hasP
  rw [hp, hl]
  by_cases hk : posP n ms < ms.length
  · rw [nm_at h (by rw [hl]; exact hk)]
  · simp [hk]
theorem nm_put (n : ByteArray) (x y : ByteArray) {ls ms : List Pr} (h : nm ls = nm ms) : nm (putP (n, x) ls) = nm (putP (n, y) ms) := by
  have hp := nm_pos n h
  have e : ∀ (z : ByteArray) (us : List Pr), nm (putP (n, z) us) = (nm us).take (posP n us) ++ n :: (nm us).drop (posP n us) := fun z us => by
    unfold putP nm
    simp [List.map_take, List.map_drop]
  rw [e, e, h, hp]
theorem nm_drop (n : ByteArray) {ls ms : List Pr} (h : nm ls = nm ms) : nm (dropP n ls) = nm (dropP n ms) := by
  have hp := nm_pos n h
  have e : ∀ (us : List Pr), nm (dropP n us) = (nm us).take (posP n us) ++ (nm us).drop (posP n us + 1) := fun us => by
    unfold dropP nm
    simp [List.map_take, List.map_drop]
  rw [e, e, h, hp]
theorem withP_nm (n x : ByteArray) {ls ms : List Pr} (h : nm ls = nm ms) : (withP (n, x) ls).1 = (withP (n, x) ms).1 ∧ nm (withP (n, x) ls).2 = nm (withP (n, x) ms).2 := by
  unfold withP
  simp only
  rw [nm_has n h, nm_len h]
  cases hasP n ms with
  | true => exact ⟨rfl, rfl⟩
  | false =>
    simp only [Bool.false_eq_true, if_false]
    by_cases h64 : ms.length = 64
    · rw [if_pos h64, if_pos h64]; exact ⟨rfl, rfl⟩
    · rw [if_neg h64, if_neg h64]; exact ⟨rfl, nm_put n x x h⟩
theorem doP_nm (e : St) {ls ms : List Pr} (h : nm ls = nm ms) : (doP e ls).1 = (doP e ms).1 ∧ nm (doP e ls).2 = nm (doP e ms).2 := by
  obtain ⟨k, n, t, x⟩ := e
  unfold doP
  simp only
  by_cases h1 : k = 1
  · rw [if_pos h1, if_pos h1, nm_has n h, nm_has t h]
    by_cases hb : (hasP n ms && !hasP t ms) = true
    · rw [if_pos hb, if_pos hb]
      exact ⟨rfl, nm_put t _ _ (nm_drop n h)⟩
    · rw [if_neg hb, if_neg hb]; exact ⟨rfl, rfl⟩
  · rw [if_neg h1, if_neg h1]
    by_cases h2 : k = 2
    · rw [if_pos h2, if_pos h2]; exact withP_nm n x h
    · rw [if_neg h2, if_neg h2, nm_has n h]
      by_cases hb : hasP n ms = true
      · rw [if_pos hb, if_pos hb]; exact ⟨rfl, nm_drop n h⟩
      · rw [if_neg hb, if_neg hb]; exact ⟨rfl, rfl⟩
theorem fwdP_nm : ∀ (L : List St) {ls ms : List Pr}, nm ls = nm ms → (fwdP L ls).1 = (fwdP L ms).1 ∧ nm (fwdP L ls).2 = nm (fwdP L ms).2
  | [], ls, ms, h => ⟨rfl, h⟩
  | e :: r, ls, ms, h => by
    have h1 := doP_nm e h
    unfold fwdP
    rw [h1.1]
    by_cases h0 : (doP e ms).1 = 0
    · rw [if_pos h0, if_pos h0]
      exact fwdP_nm r h1.2
    · rw [if_neg h0, if_neg h0]; exact ⟨rfl, rfl⟩
theorem fwdP_cons (e : St) (r : List St) (ls : List Pr) : fwdP (e :: r) ls = if (doP e ls).1 = 0 then fwdP r (doP e ls).2 else ((doP e ls).1, []) := by rw [fwdP]
theorem fwdP_append : ∀ (a b : List St) (ls : List Pr), fwdP (a ++ b) ls = if (fwdP a ls).1 = 0 then fwdP b (fwdP a ls).2 else ((fwdP a ls).1, [])
  | [], b, ls => by simp [fwdP]
  | e :: r, b, ls => by
    rw [List.cons_append, fwdP_cons, fwdP_cons]
    by_cases h0 : (doP e ls).1 = 0
    · rw [if_pos h0, if_pos h0]
      exact fwdP_append r b _
    · rw [if_neg h0, if_neg h0, if_neg h0]

/-- A name's place among the others does not change when its pair comes or goes. -/
theorem pos_put {n x : ByteArray} {ls : List Pr} (h : Rises ls) (hn : hasP n ls = false) : posP n (putP (n, x) ls) = posP n ls ∧ hasP n (putP (n, x) ls) = true := by
  have hr : Rises (putP (n, x) ls) := putP_rises h hn
  have hle := posP_le n ls
  have hl := putP_len (n, x) ls
  have he : eqN (prAt (putP (n, x) ls) (posP n ls)).1 n = true := by
    rw [putP_at (by omega)]
    simp only [Nat.lt_irrefl, if_false, if_true]
    exact eqN_self n
  have := eqN_pos hr (k := posP n ls) (by omega) he
  exact ⟨this.1.symm, this.2⟩
theorem drop_put {n x : ByteArray} {ls : List Pr} (h : Rises ls) (hn : hasP n ls = false) : dropP n (putP (n, x) ls) = ls := by
  have hp := (pos_put (x := x) h hn).1
  have hle := posP_le n ls
  unfold dropP
  rw [hp]
  unfold putP
  simp only
  have hlen : (ls.take (posP n ls)).length = posP n ls := by rw [List.length_take]; omega
  rw [List.take_append_of_le_length (by omega), List.take_take, Nat.min_self]
  rw [show posP n ls + 1 = (ls.take (posP n ls)).length + 1 by rw [hlen], List.drop_append, List.drop_eq_nil_of_le (by omega), List.nil_append, Nat.add_sub_cancel_left, List.drop_succ_cons, List.drop_zero, List.take_append_drop]
theorem pos_drop {n : ByteArray} {ls : List Pr} (h : Rises ls) (hn : hasP n ls = true) : posP n (dropP n ls) = posP n ls ∧ hasP n (dropP n ls) = false := by
  have hr := dropP_rises h hn
  have hl := dropP_len hn
  have hq := hasP_lt hn
  have hp := posP_is (n := n) h
  have hpos : IsPos (dropP n ls) n (posP n ls) := by
    refine ⟨by omega, fun k hk => ?_, fun k hk hkl => ?_⟩
    · rw [dropP_at, if_pos hk]; exact hp.2.1 k hk
    · rw [dropP_at, if_neg (by omega)]; exact hp.2.2 (k + 1) (by omega) (by omega)
  have e := hpos.uniq (posP_is hr)
  refine ⟨e.symm, ?_⟩
  cases hb : hasP n (dropP n ls) with
  | false => rfl
  | true =>
    have h2 := hasP_lt hb
    rw [← e, dropP_at, if_neg (by omega)] at h2
    have h3 := eqN_pos h (k := posP n ls + 1) (by omega) h2.2
    omega
theorem put_drop {n x : ByteArray} {ls : List Pr} (h : Rises ls) (hn : hasP n ls = true) : nm (putP (n, x) (dropP n ls)) = nm ls ∧ (x = (prAt ls (posP n ls)).2 → putP (n, x) (dropP n ls) = ls) := by
  have hp := (pos_drop h hn).1
  have hq := hasP_lt hn
  have hle := posP_le n ls
  have hlen : (ls.take (posP n ls)).length = posP n ls := by rw [List.length_take]; omega
  have e : putP (n, x) (dropP n ls) = ls.take (posP n ls) ++ (n, x) :: ls.drop (posP n ls + 1) := by
    unfold putP
    simp only
    rw [hp]
    unfold dropP
    rw [List.take_append_of_le_length (by omega), List.take_take, Nat.min_self]
    congr 2
    have : ((ls.take (posP n ls)) ++ ls.drop (posP n ls + 1)).drop (ls.take (posP n ls)).length = ls.drop (posP n ls + 1) := List.drop_left
    rwa [hlen] at this
  have hn1 : (prAt ls (posP n ls)).1 = n := eqN_eq.1 hq.2
  have hsp : ls.take (posP n ls) ++ prAt ls (posP n ls) :: ls.drop (posP n ls + 1) = ls := by
    rw [prAt_get hq.1, List.getElem_cons_drop, List.take_append_drop]
  have h2 : ∀ y, x = y → (prAt ls (posP n ls)).2 = y → putP (n, x) (dropP n ls) = ls := fun y hx hy => by
    rw [e]
    have : prAt ls (posP n ls) = (n, x) := Prod.ext hn1 (hy.trans hx.symm)
    rw [this] at hsp
    exact hsp
  refine ⟨?_, fun hx => h2 _ hx rfl⟩
  rw [e]
  conv => rhs; rw [← hsp]
  unfold nm
  simp [hn1]

/-- One step and its way back. -/
theorem doP_back {e : St} {ls : List Pr} (h : Rises ls) (hl : ls.length ≤ 64) (he : okSt e = true) (hc : (doP e ls).1 = 0) :
    (doP (flipE e) (doP e ls).2).1 = 0 ∧ nm (doP (flipE e) (doP e ls).2).2 = nm ls ∧ (e.1 ≠ 3 → (doP (flipE e) (doP e ls).2).2 = ls) := by
  obtain ⟨k, n, t, x⟩ := e
  rcases flipE_ok he with ⟨rfl, hf⟩ | ⟨rfl, hf⟩ | ⟨rfl, hf⟩
  · rw [hf]
    have hne : eqN n t = false := by
      unfold okSt at he
      simp only [if_true, Bool.and_eq_true, Bool.not_eq_true'] at he
      exact he.1.2
    unfold doP at hc ⊢
    simp only [if_true] at hc ⊢
    by_cases hb : (hasP n ls && !hasP t ls) = true
    · rw [if_pos hb]
      rw [Bool.and_eq_true, Bool.not_eq_true'] at hb
      obtain ⟨hn, ht⟩ := hb
      have hr1 := dropP_rises h hn
      have ht1 : hasP t (dropP n ls) = false := by rw [hasP_drop h hn hne]; exact ht
      have hr2 : Rises (putP (t, (prAt ls (posP n ls)).2) (dropP n ls)) := putP_rises hr1 ht1
      have hp2 := pos_put (x := (prAt ls (posP n ls)).2) hr1 ht1
      have hd := drop_put (x := (prAt ls (posP n ls)).2) hr1 ht1
      have hn1 := (pos_drop h hn).2
      have hne' : eqN t n = false := by
        cases hb : eqN t n with
        | false => rfl
        | true => rw [eqN_eq.1 hb, eqN_self] at hne; cases hne
      have hn2 : hasP n (putP (t, (prAt ls (posP n ls)).2) (dropP n ls)) = false := by
        rw [← hasP_drop hr2 hp2.2 hne', hd]; exact hn1
      simp only
      rw [hp2.2, hn2]
      simp only [Bool.not_false, Bool.and_self, if_true]
      have hx : (prAt (putP (t, (prAt ls (posP n ls)).2) (dropP n ls)) (posP t (putP (t, (prAt ls (posP n ls)).2) (dropP n ls)))).2 = (prAt ls (posP n ls)).2 := by
        rw [hp2.1, putP_at (by have := posP_le t (dropP n ls); omega)]
        simp
      rw [hd, hx]
      have hpd := put_drop (x := (prAt ls (posP n ls)).2) h hn
      exact ⟨by first | rfl | trivial, hpd.1, fun _ => hpd.2 rfl⟩
    · rw [if_neg hb] at hc; cases hc
  · rw [hf]
    unfold doP at hc ⊢
    simp only [show ¬ (2 : Int) = 1 by decide, show ¬ (3 : Int) = 1 by decide, show ¬ (3 : Int) = 2 by decide, if_true, if_false] at hc ⊢
    unfold withP at hc ⊢
    simp only at hc ⊢
    cases hn : hasP n ls with
    | true => rw [hn] at hc; simp at hc
    | false =>
      rw [hn] at hc
      simp only [Bool.false_eq_true, if_false] at hc ⊢
      by_cases h64 : ls.length = 64
      · rw [if_pos h64] at hc; simp at hc
      · rw [if_neg h64]
        simp only
        rw [(pos_put (x := x) h hn).2, if_pos rfl, drop_put h hn]
        exact ⟨by first | rfl | trivial, by first | rfl | trivial, fun _ => by first | rfl | trivial⟩
  · rw [hf]
    unfold doP at hc ⊢
    simp only [show ¬ (3 : Int) = 1 by decide, show ¬ (3 : Int) = 2 by decide, show ¬ (2 : Int) = 1 by decide, if_true, if_false] at hc ⊢
    cases hn : hasP n ls with
    | false => rw [hn] at hc; simp at hc
    | true =>
      simp only [if_true]
      unfold withP
      simp only
      have hd := dropP_len hn
      rw [(pos_drop h hn).2]
      simp only [Bool.false_eq_true, if_false]
      rw [if_neg (by omega)]
      exact ⟨by first | rfl | trivial, (put_drop (x := x) h hn).1, fun h => absurd rfl h⟩
theorem fwdP_back : ∀ (L : List St) {ls : List Pr}, Rises ls → ls.length ≤ 64 → (∀ e ∈ L, okSt e = true) → (fwdP L ls).1 = 0 →
    (fwdP ((L.map flipE).reverse) (fwdP L ls).2).1 = 0 ∧ nm (fwdP ((L.map flipE).reverse) (fwdP L ls).2).2 = nm ls ∧ ((∀ e ∈ L, e.1 ≠ 3) → (fwdP ((L.map flipE).reverse) (fwdP L ls).2).2 = ls)
  | [], ls, _, _, _, _ => ⟨rfl, rfl, fun _ => rfl⟩
  | e :: r, ls, h, hl, hok, hc => by
    unfold fwdP at hc
    by_cases h0 : (doP e ls).1 = 0
    · rw [if_pos h0] at hc
      have hd := doP_rises h hl (hok e (by simp)) h0
      have hb := doP_back h hl (hok e (by simp)) h0
      obtain ⟨i1, i2, i3⟩ := fwdP_back r hd.1 hd.2 (fun x hx => hok x (by simp [hx])) hc
      have hE : fwdP (e :: r) ls = fwdP r (doP e ls).2 := by conv => lhs; unfold fwdP; rw [if_pos h0]
      rw [hE, List.map_cons, List.reverse_cons, fwdP_append, if_pos i1]
      have hn := doP_nm (flipE e) i2
      have h1 : (doP (flipE e) (fwdP ((r.map flipE).reverse) (fwdP r (doP e ls).2).2).2).1 = 0 := hn.1.trans hb.1
      have hS : ∀ ms : List Pr, (doP (flipE e) ms).1 = 0 → fwdP [flipE e] ms = (0, (doP (flipE e) ms).2) := fun ms hm => by unfold fwdP; rw [if_pos hm]; rfl
      rw [hS _ h1]
      refine ⟨rfl, hn.2.trans hb.2.1, fun hu => ?_⟩
      have := i3 (fun x hx => hu x (by simp [hx]))
      show (doP (flipE e) (fwdP ((r.map flipE).reverse) (fwdP r (doP e ls).2).2).2).2 = ls
      rw [this]
      exact hb.2.2 (hu e (by simp))
    · rw [if_neg h0] at hc
      exact absurd hc h0

/-- A valid form by its pairs. -/
theorem prAt_memL {ls : List Pr} {k : Nat} (h : k < ls.length) : prAt ls k ∈ ls := by rw [prAt_get h]; exact List.getElem_mem h
theorem okForm_iff (ls : List Pr) : okForm ls = true ↔ ls.length ≤ 64 ∧ Rises ls ∧ ∀ p ∈ ls, keyB p.1 = true ∧ p.2.size ≤ 200 := by
  constructor
  · intro h
    refine ⟨okForm_len h, okForm_rises h, fun p hp => ?_⟩
    obtain ⟨k, hk, rfl⟩ := List.getElem_of_mem hp
    have := okForm_at h hk
    unfold okPr at this
    rw [prAt_get hk] at this
    simp only [Bool.and_eq_true, decide_eq_true_eq] at this
    exact this.1
  · rintro ⟨h1, h2, h3⟩
    refine okForm_of h1 fun k hk => ?_
    have := h3 _ (prAt_memL hk)
    unfold okPr
    simp only [Bool.and_eq_true, Bool.or_eq_true, decide_eq_true_eq]
    refine ⟨this, ?_⟩
    by_cases h0 : k = 0
    · exact .inl h0
    · exact .inr (h2 (k - 1) k (by omega) hk)
theorem mem_put {p q : Pr} {ls : List Pr} (h : q ∈ putP p ls) : q = p ∨ q ∈ ls := by
  unfold putP at h
  rw [List.mem_append, List.mem_cons] at h
  rcases h with h | h | h
  · exact .inr (List.mem_of_mem_take h)
  · exact .inl h
  · exact .inr (List.mem_of_mem_drop h)
theorem mem_drop {n : ByteArray} {q : Pr} {ls : List Pr} (h : q ∈ dropP n ls) : q ∈ ls := by
  unfold dropP at h
  rw [List.mem_append] at h
  rcases h with h | h
  · exact List.mem_of_mem_take h
  · exact List.mem_of_mem_drop h
theorem okSt_parts {k : Int} {n t x : ByteArray} (h : okSt (k, n, t, x) = true) : (k = 1 ∧ keyB n = true ∧ keyB t = true) ∨ ((k = 2 ∨ k = 3) ∧ keyB n = true ∧ x.size ≤ 200) := by
  unfold okSt at h
  by_cases h1 : k = 1
  · simp only [h1, if_true, Bool.and_eq_true] at h
    exact .inl ⟨h1, h.1.1.1, h.1.1.2⟩
  · simp only [h1, if_false] at h
    by_cases h2 : k = 2 ∨ k = 3
    · simp only [h2, if_true, Bool.and_eq_true, decide_eq_true_eq] at h
      exact .inr ⟨h2, h.1.1, h.2⟩
    · simp [h2] at h
theorem doP_ok {e : St} {ls : List Pr} (h : okForm ls = true) (he : okSt e = true) (hc : (doP e ls).1 = 0) : okForm (doP e ls).2 = true := by
  have h' := (okForm_iff ls).1 h
  have hd := doP_rises h'.2.1 h'.1 he hc
  refine (okForm_iff _).2 ⟨hd.2, hd.1, fun p hp => ?_⟩
  obtain ⟨k, n, t, x⟩ := e
  have hpt := okSt_parts he
  unfold doP at hp hc
  simp only at hp hc
  by_cases h1 : k = 1
  · rw [if_pos h1] at hp hc
    by_cases hb : (hasP n ls && !hasP t ls) = true
    · rw [if_pos hb] at hp
      rcases mem_put hp with rfl | hp
      · rw [Bool.and_eq_true] at hb
        have h5 := h'.2.2 _ (prAt_memL (hasP_lt hb.1).1)
        rcases hpt with ⟨_, _, h3⟩ | ⟨h3, _⟩
        · exact ⟨h3, h5.2⟩
        · omega
      · exact h'.2.2 _ (mem_drop hp)
    · rw [if_neg hb] at hc; cases hc
  · rw [if_neg h1] at hp hc
    have hk : keyB n = true ∧ x.size ≤ 200 := by
      rcases hpt with ⟨h3, _⟩ | ⟨_, h3⟩
      · exact absurd h3 h1
      · exact h3
    by_cases h2 : k = 2
    · rw [if_pos h2] at hp hc
      unfold withP at hp hc
      simp only at hp hc
      by_cases hb : hasP n ls = true
      · rw [if_pos hb] at hc; cases hc
      · rw [if_neg hb] at hp hc
        by_cases h64 : ls.length = 64
        · rw [if_pos h64] at hc; cases hc
        · rw [if_neg h64] at hp
          rcases mem_put hp with rfl | hp
          · exact hk
          · exact h'.2.2 _ hp
    · rw [if_neg h2] at hp hc
      by_cases hb : hasP n ls = true
      · rw [if_pos hb] at hp; exact h'.2.2 _ (mem_drop hp)
      · rw [if_neg hb] at hc; cases hc
theorem fwdP_ok : ∀ (L : List St) {ls : List Pr}, okForm ls = true → (∀ e ∈ L, okSt e = true) → (fwdP L ls).1 = 0 → okForm (fwdP L ls).2 = true
  | [], ls, h, _, _ => h
  | e :: r, ls, h, hok, hc => by
    unfold fwdP at hc ⊢
    by_cases h0 : (doP e ls).1 = 0
    · rw [if_pos h0] at hc ⊢
      exact fwdP_ok r (doP_ok h (hok e (by simp)) h0) (fun x hx => hok x (by simp [hx])) hc
    · rw [if_neg h0] at hc
      exact absurd hc h0

theorem okLens_iff (L : List St) : okLens L = true ↔ L.length ≤ 32 ∧ ∀ e ∈ L, okSt e = true := by
  unfold okLens
  rw [Bool.and_eq_true, decide_eq_true_eq, List.all_eq_true]
theorem flip_okSt {e : St} (h : okSt e = true) : okSt (flipE e) = true ∧ flipE (flipE e) = e := by
  obtain ⟨k, n, t, x⟩ := e
  have h0 := h
  rcases flipE_ok h with ⟨rfl, hf⟩ | ⟨rfl, hf⟩ | ⟨rfl, hf⟩
  · rw [hf]
    unfold okSt at h
    simp only [if_true, Bool.and_eq_true, Bool.not_eq_true'] at h
    have hx := empty_of h.2
    subst hx
    have hne : (t.toList == n.toList) = false := by
      cases hb : t.toList == n.toList with
      | false => rfl
      | true =>
        have : (n.toList == t.toList) = true := by simpa using (by simpa using hb : t.toList = n.toList).symm
        rw [this] at h
        exact absurd h.1.2 (by simp)
    refine ⟨?_, by unfold flipE; rfl⟩
    unfold okSt
    simp only [if_true, Bool.and_eq_true, Bool.not_eq_true']
    exact ⟨⟨⟨h.1.1.2, h.1.1.1⟩, hne⟩, h.2⟩
  · rw [hf]
    unfold okSt at h ⊢
    simp only [show ¬ (2 : Int) = 1 by decide, show ¬ (3 : Int) = 1 by decide, true_or, or_true, if_true, if_false, Bool.and_eq_true] at h ⊢
    have ht := empty_of h.1.2
    subst ht
    exact ⟨h, by unfold flipE; rfl⟩
  · rw [hf]
    unfold okSt at h ⊢
    simp only [show ¬ (2 : Int) = 1 by decide, show ¬ (3 : Int) = 1 by decide, true_or, or_true, if_true, if_false, Bool.and_eq_true] at h ⊢
    have ht := empty_of h.1.2
    subst ht
    exact ⟨h, by unfold flipE; rfl⟩
theorem flip_okL {L : List St} (h : okLens L = true) : okLens ((L.map flipE).reverse) = true ∧ (((L.map flipE).reverse).map flipE).reverse = L := by
  have h1 := (okLens_iff L).1 h
  refine ⟨(okLens_iff _).2 ⟨by simpa using h1.1, fun e he => ?_⟩, ?_⟩
  · rw [List.mem_reverse, List.mem_map] at he
    obtain ⟨x, hx, rfl⟩ := he
    exact (flip_okSt (h1.2 x hx)).1
  · rw [List.map_reverse, List.reverse_reverse, List.map_map]
    conv => rhs; rw [← List.map_id L]
    exact List.map_congr_left fun x hx => (flip_okSt (h1.2 x hx)).2
/-- What the law asks of a lens that is valid. -/
theorem lens_flip {L : List St} (h : okLens L = true) : flipC L = 0 ∧ flipC (flipL L) = 0 ∧ flipL (flipL L) = L := by
  have h2 := flip_okL h
  have e : flipL L = (L.map flipE).reverse := by unfold flipL; rw [if_pos h]
  refine ⟨by unfold flipC; rw [if_pos h], ?_, ?_⟩
  · rw [e]; unfold flipC; rw [if_pos h2.1]
  · rw [e]; unfold flipL; rw [if_pos h2.1, h2.2]
theorem okLens_sub {L M : List St} (h : okLens L = true) (hl : M.length ≤ L.length) (hm : ∀ e ∈ M, e ∈ L) : okLens M = true := by
  have h1 := (okLens_iff L).1 h
  exact (okLens_iff M).2 ⟨by omega, fun e he => h1.2 e (hm e he)⟩
theorem lens_join {L : List St} (h : okLens L = true) (k : Nat) : joinC (L.take k) (L.drop k) = 0 ∧ (joinL (L.take k) (L.drop k)).length = L.length := by
  have h1 := (okLens_iff L).1 h
  have ha : okLens (L.take k) = true := okLens_sub h (by rw [List.length_take]; omega) fun e he => List.mem_of_mem_take he
  have hb : okLens (L.drop k) = true := okLens_sub h (by rw [List.length_drop]; omega) fun e he => List.mem_of_mem_drop he
  have hn : ¬ 32 < (L.take k).length + (L.drop k).length := by rw [List.length_take, List.length_drop]; omega
  unfold joinC joinL
  rw [ha, hb]
  simp only [Bool.and_self, if_true]
  rw [if_neg hn, if_neg hn]
  refine ⟨rfl, ?_⟩
  rw [List.take_append_drop]
theorem lens_there {L : List St} {F : List Pr} (h : okLens L = true) (hc : fwdC L F = 0) (k : Nat) :
    fwdC (L.take k) F = 0 ∧ fwdC (L.drop k) (fwdL (L.take k) F) = 0 ∧ fwdL (L.drop k) (fwdL (L.take k) F) = fwdL L F
    ∧ backC L (fwdL L F) = 0 ∧ nm (backL L (fwdL L F)) = nm F ∧ ((∀ e ∈ L, e.1 ≠ 3) → backL L (fwdL L F) = F)
    ∧ fwdC L (backL L (fwdL L F)) = 0 ∧ (fwdL L (backL L (fwdL L F))).length = (fwdL L F).length := by
  have h1 := (okLens_iff L).1 h
  cases hf : okForm F with
  | false => unfold fwdC at hc; rw [h, hf] at hc; simp at hc
  | true =>
    have hv := (okForm_iff F).1 hf
    have hcl : ∀ (M : List St) (G : List Pr), okLens M = true → okForm G = true → fwdC M G = (fwdP M G).1 ∧ fwdL M G = (fwdP M G).2 := fun M G hM hG => by
      unfold fwdC fwdL; rw [hM, hG]; exact ⟨rfl, rfl⟩
    have e0 := hcl L F h hf
    rw [e0.1] at hc
    have ha : okLens (L.take k) = true := okLens_sub h (by rw [List.length_take]; omega) fun e he => List.mem_of_mem_take he
    have hb : okLens (L.drop k) = true := okLens_sub h (by rw [List.length_drop]; omega) fun e he => List.mem_of_mem_drop he
    have hsplit := fwdP_append (L.take k) (L.drop k) F
    rw [List.take_append_drop] at hsplit
    have hta : (fwdP (L.take k) F).1 = 0 := by
      by_cases h0 : (fwdP (L.take k) F).1 = 0
      · exact h0
      · rw [if_neg h0] at hsplit
        rw [hsplit] at hc
        exact hc
    rw [if_pos hta] at hsplit
    have hokA := fwdP_ok (L.take k) hf (fun e he => h1.2 e (List.mem_of_mem_take he)) hta
    have e1 := hcl _ F ha hf
    have e2 := hcl (L.drop k) (fwdP (L.take k) F).2 hb hokA
    have hokT := fwdP_ok L hf h1.2 hc
    have hB := fwdP_back L hv.2.1 hv.1 h1.2 hc
    have hfl := flip_okL h
    have eF : flipL L = (L.map flipE).reverse := by unfold flipL; rw [if_pos h]
    have e3 := hcl ((L.map flipE).reverse) (fwdP L F).2 hfl.1 hokT
    have eb : backC L (fwdL L F) = (fwdP ((L.map flipE).reverse) (fwdP L F).2).1 ∧ backL L (fwdL L F) = (fwdP ((L.map flipE).reverse) (fwdP L F).2).2 := by
      unfold backC backL
      rw [if_pos h, if_pos h, eF, e0.2, e3.1, e3.2]
      exact ⟨rfl, rfl⟩
    have hokB := fwdP_ok ((L.map flipE).reverse) hokT ((okLens_iff _).1 hfl.1).2 hB.1
    have e4 := hcl L (fwdP ((L.map flipE).reverse) (fwdP L F).2).2 h hokB
    have hN := fwdP_nm L hB.2.1
    refine ⟨e1.1.trans hta, ?_, ?_, eb.1.trans hB.1, ?_, fun hu => ?_, ?_, ?_⟩
    · rw [e1.2, e2.1, ← hsplit]; exact hc
    · rw [e1.2, e2.2, ← hsplit, e0.2]
    · rw [eb.2]; exact hB.2.1
    · rw [eb.2]; exact hB.2.2 hu
    · rw [eb.2, e4.1, hN.1]; exact hc
    · rw [eb.2, e4.2, e0.2]; exact nm_len hN.2
end Go.Proofs.Ytagnpahkhaighaa
