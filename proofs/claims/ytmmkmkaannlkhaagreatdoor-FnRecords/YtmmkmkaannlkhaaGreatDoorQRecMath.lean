/- Records and logs read from bytes: what is read as it would be written is what was written: plain facts. -/
import Derived.Test.YtmmkmkaannlkhaaGreatDoorQTextsToBackRuns
import Derived.Test.YtmmkmkaannlkhaaGreatDoorQTextsImplToAttemptRuns
import Derived.Test.YtmmkmkaannlkhaaGreatDoorQOpByMathToTreeMath
import Derived.Test.YtmmkmkaannlkhaaGreatDoorQOpComesToOpSpecBase
namespace Go.Proofs.YtmmkmkaannlkhaaGreatDoor
open Go.RowKit Go.Lib
set_option linter.unusedVariables false

/-- The numbers from a place on, with the code's own tests; and the place behind them. -/
def runsCP (xs : List Int) (p0 : Nat) : Option (List Int × Nat) := match getL xs p0 with
  | none => none
  | some (n, p) => if 4096 < n then none else parseI xs n.toNat n.toNat p none
/-- The code takes numbers just where they stand as they would be written. -/
theorem runsC_iff {xs : List Int} (hx : Bytes xs) (p0 : Nat) (T : List Int) (q : Nat) : runsCP xs p0 = some (T, q) ↔ (runsLP xs p0 = some (T, q) ∧ xs.drop p0 = putR T ++ xs.drop q) := by
  unfold runsCP runsLP
  cases h0 : getL xs p0 with
  | none => simp
  | some z =>
    obtain ⟨n, p⟩ := z
    simp only
    have o := getL_ok hx h0
    have e := getL_enc hx h0
    by_cases h4 : 4096 < n
    · rw [if_pos h4, if_pos h4]
      simp
    · rw [if_neg h4, if_neg h4]
      cases h1 : parseS xs n.toNat n.toNat p with
      | none =>
        cases h2 : parseI xs n.toNat n.toNat p none with
        | none => simp
        | some r => rw [parseI_S _ _ _ _ _ h2] at h1; simp at h1
      | some z =>
        obtain ⟨T', q'⟩ := z
        have hiff := parseI_iff hx _ _ _ none _ _ o.2.2.2 h1
        have hT := (parseS_ok hx _ _ _ _ _ o.2.2.2 h1).1
        constructor
        · intro h2
          have h3 := parseI_S _ _ _ _ _ h2
          rw [h1] at h3
          cases h3
          refine ⟨rfl, ?_⟩
          have h5 := (hiff.1 h2).1
          rw [e, h5]
          unfold putR
          rw [hT, List.append_assoc]
        · rintro ⟨h2, h3⟩
          cases h2
          refine hiff.2 ⟨?_, by simp⟩
          rw [e] at h3
          unfold putR at h3
          rw [hT, List.append_assoc] at h3
          have h6 := List.append_cancel_left h3
          rw [h6, hT]
theorem runsLP_ok {xs : List Int} (hx : Bytes xs) {p0 : Nat} {T : List Int} {q : Nat} (h : runsLP xs p0 = some (T, q)) : T.length ≤ 4096 ∧ runsOK T = true ∧ q ≤ xs.length := by
  unfold runsLP at h
  cases h0 : getL xs p0 with
  | none => rw [h0] at h; cases h
  | some z =>
    obtain ⟨n, p⟩ := z
    rw [h0] at h
    simp only at h
    have o := getL_ok hx h0
    split at h
    · cases h
    · rename_i h4
      have := parseS_ok hx _ _ _ _ _ o.2.2.2 h
      exact ⟨by omega, this.2⟩
theorem runs_nonneg {T : List Int} (h : runsOK T = true) {k : Nat} (hk : k < T.length) : 0 ≤ T.getD k 0 := by
  unfold runsOK at h
  rw [List.all_eq_true] at h
  have h1 := h _ (List.getElem_mem hk)
  rw [List.getD_eq_getElem?_getD, List.getElem?_eq_getElem hk]
  simp only [decide_eq_true_eq] at h1
  exact h1.1
/-- One text stands as it would be written. -/
theorem oneText_put {bs : List Int} (hx : Bytes bs) {p q all : Nat} {last t : ByteArray} (h : oneText bs p last all = some (t, q)) :
    bs.drop p = (enc (alike last t) ++ enc (t.size - alike last t) ++ (strInts t).drop (alike last t)) ++ bs.drop q ∧ q ≤ bs.length := by
  unfold oneText at h
  cases h1 : getL bs p with
  | none => rw [h1] at h; cases h
  | some z =>
    obtain ⟨k, p1⟩ := z
    rw [h1] at h
    simp only at h
    have e1 := getL_enc hx h1
    split at h
    · cases h
    · rename_i hk
      cases h2 : getL bs p1 with
      | none => rw [h2] at h; cases h
      | some z =>
        obtain ⟨m, p2⟩ := z
        rw [h2] at h
        simp only at h
        have e2 := getL_enc hx h2
        have o2 := getL_ok hx h2
        split at h
        · cases h
        · rename_i hm
          split at h
          · cases h
          · rename_i hc
            simp only [Option.some.injEq, Prod.mk.injEq] at h
            obtain ⟨h3, h4⟩ := h
            have hs := mkText_size (bs := bs) (last := last) (k := k.toNat) (p := p2) (m := m.toNat) (by omega) (by omega)
            have hl := mkText_list bs last k.toNat p2 m.toNat
            have ha : k.toNat = alike last (mkText bs last k.toNat p2 m.toNat) := by
              by_cases hh : k.toNat = alike last (mkText bs last k.toNat p2 m.toNat)
              · exact hh
              · exact absurd (.inl hh) hc
            rw [h3] at hs hl ha
            rw [← ha, hs, Nat.add_sub_cancel_left]
            have hd : (strInts t).drop k.toNat = (bs.drop p2).take m.toNat := by
              unfold strInts
              rw [hl, List.map_append, List.drop_append_of_le_length (by rw [List.length_map, List.length_take, Array.length_toList]; show k.toNat ≤ min k.toNat last.size; omega)]
              rw [List.drop_of_length_le (by rw [List.length_map, List.length_take]; omega), List.nil_append, List.map_map]
              refine (List.map_congr_left fun c hc => ?_).trans (List.map_id _)
              have hb := hx c (List.mem_of_mem_drop (List.mem_of_mem_take hc))
              show ((UInt8.ofNat c.toNat).toNat : Int) = c
              rw [UInt8.toNat_ofNat']
              omega
            rw [hd, e1, e2, ← h4]
            refine ⟨?_, by omega⟩
            rw [List.append_assoc, List.append_assoc, ← List.drop_drop, List.take_append_drop]
theorem ahead_app (out R : List ByteArray) : ∀ k, k ≤ out.length → ahead (out ++ R) k = ahead out k
  | 0, _ => rfl
  | k + 1, h => by
    show txt (out ++ R) k = txt out k
    unfold txt
    rw [List.getD_eq_getElem?_getD, List.getD_eq_getElem?_getD, List.getElem?_append_left (by omega)]
theorem txt_at (out R : List ByteArray) (t : ByteArray) : txt (out ++ t :: R) out.length = t := by
  unfold txt
  rw [List.getD_eq_getElem?_getD, List.getElem?_append_right (Nat.le_refl _), Nat.sub_self]
  rfl
theorem textsF_put {bs : List Int} (hx : Bytes bs) : ∀ n p all (out S : List ByteArray) q, p ≤ bs.length → textsF bs n p (ahead out out.length) all out = some (S, q) → ∃ R, S = out ++ R ∧ R.length = n ∧ bs.drop p = fromN S out.length n ++ bs.drop q ∧ q ≤ bs.length
  | 0, p, all, out, S, q, hp, h => by
    simp only [textsF, Option.some.injEq, Prod.mk.injEq] at h
    obtain ⟨rfl, rfl⟩ := h
    exact ⟨[], by simp, rfl, by simp [fromN], hp⟩
  | n + 1, p, all, out, S, q, hp, h => by
    cases h1 : oneText bs p (ahead out out.length) all with
    | none => rw [textsF_none h1] at h; cases h
    | some z =>
      obtain ⟨t, q1⟩ := z
      rw [textsF_some h1] at h
      obtain ⟨e1, hq1⟩ := oneText_put hx h1
      have ha : ahead (out ++ [t]) (out ++ [t]).length = t := by
        rw [List.length_append, List.length_singleton]
        exact txt_at out [] t
      have h' : textsF bs n q1 (ahead (out ++ [t]) (out ++ [t]).length) (all + t.size) (out ++ [t]) = some (S, q) := by rw [ha]; exact h
      obtain ⟨R, hS, hR, hd, hq⟩ := textsF_put hx n q1 (all + t.size) (out ++ [t]) S q hq1 h'
      have hS' : S = out ++ t :: R := by rw [hS, List.append_assoc]; rfl
      refine ⟨t :: R, hS', by simp [hR], ?_, hq⟩
      rw [List.length_append, List.length_singleton] at hd
      rw [e1, hd, fromN, ← List.append_assoc]
      congr 2
      unfold piece
      rw [hS', txt_at, ahead_app out (t :: R) _ (Nat.le_refl _)]
/-- Texts stand as they would be written. -/
theorem textsL_put {xs : List Int} (hx : Bytes xs) {p q : Nat} {S : List ByteArray} (h : textsLP xs p = some (S, q)) : xs.drop p = putN S S.length ++ xs.drop q ∧ q ≤ xs.length ∧ S.length ≤ 4096 := by
  unfold textsLP at h
  cases h0 : getL xs p with
  | none => rw [h0] at h; cases h
  | some z =>
    obtain ⟨n, p1⟩ := z
    rw [h0] at h
    simp only at h
    have o := getL_ok hx h0
    have e := getL_enc hx h0
    split at h
    · cases h
    · rename_i h4
      obtain ⟨R, hS, hR, hd, hq⟩ := textsF_put hx n.toNat p1 0 [] S q o.2.2.2 h
      rw [List.nil_append] at hS
      subst hS
      refine ⟨?_, hq, by omega⟩
      have hp := putN_from S S.length 0
      rw [Nat.zero_add] at hp
      rw [hp, show putN S 0 = enc S.length from rfl, e, hd, hR, List.length_nil, List.append_assoc]

/-- The operation that twenty-five numbers and two texts tell. -/
def opOfT (T : List Int) (S : List ByteArray) : Ov := ⟨T.getD 0 0, T.getD 1 0, T.getD 2 0, .slice none 0 0, T.getD 3 0, T.getD 4 0, unf (T.getD 5 0), T.getD 6 0, T.getD 7 0, T.getD 8 0, txt S 0, txt S 1, T.drop 9⟩
def opByO (x : Ov) : List Int := opBy x.a x.s x.t x.k x.o x.n x.u x.pt x.pa x.ky x.tx x.ds
theorem nums_back {T : List Int} {S : List ByteArray} (hT : T.length = 25) (h5 : 0 ≤ T.getD 5 0) : numsO (opOfT T S).a (opOfT T S).s (opOfT T S).t (opOfT T S).k (opOfT T S).o (opOfT T S).n (opOfT T S).u (opOfT T S).pt (opOfT T S).pa (opOfT T S).ds = T := by
  match T, hT with
  | [t0, t1, t2, t3, t4, t5, t6, t7, t8, t9, t10, t11, t12, t13, t14, t15, t16, t17, t18, t19, t20, t21, t22, t23, t24], _ =>
    unfold numsO opOfT
    simp only at h5 ⊢
    rw [foldS_unf h5]
    have h6 : (0 : Int) ≤ t5 := h5
    show [t0, t1, t2, t3, t4, ((t5.toNat : Nat) : Int), t6, t7, t8, t9, t10, t11, t12, t13, t14, t15, t16, t17, t18, t19, t20, t21, t22, t23, t24] = _
    rw [Int.toNat_of_nonneg h6]
/-- What the code reads of all of some bytes; and the specification. -/
def opCd (xs : List Int) : Option Ov := match runsCP xs 0 with
  | none => none
  | some (T, q) => if T.length = 25 then match textsLP xs q with
    | none => none
    | some (S, r) => if S.length = 2 ∧ r = xs.length ∧ (opOfT T S).ok = true then some (opOfT T S) else none
    else none
def opSp (xs : List Int) : Option Ov := match runsLP xs 0 with
  | none => none
  | some (T, q) => match textsLP xs q with
    | none => none
    | some (S, r) => if r = xs.length ∧ T.length = 25 ∧ S.length = 2 ∧ (opOfT T S).ok = true ∧ opByO (opOfT T S) = xs then some (opOfT T S) else none
theorem texts_two {S : List ByteArray} (h : S.length = 2) : S = [txt S 0, txt S 1] := by
  match S, h with
  | [a, b], _ => rfl
theorem opCd_S {xs : List Int} (hx : Bytes xs) : opCd xs = opSp xs := by
  have key : ∀ x, opCd xs = some x ↔ opSp xs = some x := by
    intro x
    unfold opCd opSp
    constructor
    · intro h
      cases h1 : runsCP xs 0 with
      | none => rw [h1] at h; cases h
      | some z =>
        obtain ⟨T, q⟩ := z
        rw [h1] at h
        simp only at h
        obtain ⟨h2, h3⟩ := (runsC_iff hx 0 T q).1 h1
        rw [h2]
        simp only
        split at h
        · rename_i hT
          cases h4 : textsLP xs q with
          | none => rw [h4] at h; cases h
          | some z =>
            obtain ⟨S, r⟩ := z
            rw [h4] at h
            simp only at h ⊢
            split at h
            · rename_i hc
              obtain ⟨c1, c2, c3⟩ := hc
              obtain ⟨p1, p2, p3⟩ := textsL_put hx h4
              have hok := (runsLP_ok hx h2).2.1
              have hby : opByO (opOfT T S) = xs := by
                unfold opByO opBy
                rw [nums_back hT (runs_nonneg hok (by omega))]
                rw [List.drop_zero] at h3
                rw [c2, List.drop_length, List.append_nil, c1] at p1
                rw [p1] at h3
                rw [texts_two c1] at h3
                exact h3.symm
              rw [if_pos ⟨c2, hT, c1, c3, hby⟩]
              exact h
            · cases h
        · cases h
    · intro h
      cases h2 : runsLP xs 0 with
      | none => rw [h2] at h; cases h
      | some z =>
        obtain ⟨T, q⟩ := z
        rw [h2] at h
        simp only at h
        cases h4 : textsLP xs q with
        | none => rw [h4] at h; cases h
        | some z =>
          obtain ⟨S, r⟩ := z
          rw [h4] at h
          simp only at h
          split at h
          · rename_i hc
            obtain ⟨c1, c2, c3, c4, c5⟩ := hc
            obtain ⟨p1, p2, p3⟩ := textsL_put hx h4
            have hok := (runsLP_ok hx h2).2.1
            have h1 : runsCP xs 0 = some (T, q) := by
              refine (runsC_iff hx 0 T q).2 ⟨h2, ?_⟩
              unfold opByO opBy at c5
              rw [nums_back c2 (runs_nonneg hok (by omega))] at c5
              rw [c1, List.drop_length, List.append_nil, c3, texts_two c3] at p1
              rw [List.drop_zero, p1]
              exact c5.symm
            rw [h1]
            simp only
            rw [if_pos c2, h4]
            simp only
            rw [if_pos ⟨c3, c1, c4⟩]
            exact h
          · cases h
  cases h1 : opCd xs with
  | none =>
    cases h2 : opSp xs with
    | none => rfl
    | some x => rw [(key x).2 h2] at h1; cases h1
  | some x => rw [(key x).1 h1]
end Go.Proofs.YtmmkmkaannlkhaaGreatDoor
