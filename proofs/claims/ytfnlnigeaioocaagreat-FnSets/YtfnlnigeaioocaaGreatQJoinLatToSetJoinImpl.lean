/- Joining of valid values is the same both ways, changes nothing once more, and goes together: plain facts. What the code's SetJoin does. -/
import Derived.Test.YtfnlnigeaioocaaGreatQSetRemImplToFindMath
import Derived.Test.YtfnlnigeaioocaaGreatQSetToldToMultiWrSpec
import Derived.Test.YtfnlnigeaioocaaGreatQSetOf
namespace Go.Proofs.YtfnlnigeaioocaaGreat
open Go.RowKit
set_option linter.unusedVariables false

/-- The text of a stamp among entries. -/
def look (ls : List En) (t a : Int) : Option ByteArray := (ls.find? (fun y => decide (y.1 = t ∧ y.2.1 = a))).map (fun y => y.2.2)
theorem up_apart {ls : List En} (h : ls.Pairwise upE) : (ls.map kvE).Pairwise (fun p q => p.1 ≠ q.1) := by
  rw [List.pairwise_map]
  refine h.imp fun {a b} hab e => ?_
  obtain ⟨e1, e2⟩ := (key_iff b a).1 e
  unfold upE at hab
  rw [e1, e2, lessS_irr] at hab
  cases hab
theorem look_mem {ls : List En} (h : ls.Pairwise upE) (t a : Int) (s : ByteArray) : (t, a, s) ∈ ls ↔ look ls t a = some s := by
  unfold look
  constructor
  · intro hm
    cases hf : ls.find? (fun y => decide (y.1 = t ∧ y.2.1 = a)) with
    | none =>
      have := List.find?_eq_none.1 hf _ hm
      simp at this
    | some y =>
      have hy := List.find?_some hf
      have hym := List.mem_of_find?_eq_some hf
      simp only [decide_eq_true_eq] at hy
      rw [apart_eq (up_apart h) hym hm hy]
      rfl
  · intro hl
    cases hf : ls.find? (fun y => decide (y.1 = t ∧ y.2.1 = a)) with
    | none => rw [hf] at hl; cases hl
    | some y =>
      rw [hf] at hl
      have hy := List.find?_some hf
      have hym := List.mem_of_find?_eq_some hf
      simp only [decide_eq_true_eq] at hy
      obtain ⟨y1, y2, y3⟩ := y
      simp only [Option.map_some, Option.some.injEq] at hl hy
      obtain ⟨rfl, rfl⟩ := hy
      subst hl
      exact hym
theorem look_none {ls : List En} {t a : Int} {s : ByteArray} : ls.find? (twinE (t, a, s)) = none ↔ look ls t a = none := by
  unfold look twinE
  simp only [Option.map_eq_none_iff]
theorem look_some {ls : List En} {t a : Int} {s s' : ByteArray} : ls.find? (twinE (t, a, s)) = some (t, a, s') ↔ look ls t a = some s' := by
  unfold look twinE
  constructor
  · intro h
    have : List.find? (fun y : En => decide (y.1 = t ∧ y.2.1 = a)) ls = some (t, a, s') := h
    rw [this]
    rfl
  · intro h
    show List.find? (fun y : En => decide (y.1 = t ∧ y.2.1 = a)) ls = some (t, a, s')
    cases hf : ls.find? (fun y => decide (y.1 = t ∧ y.2.1 = a)) with
    | none => rw [hf] at h; cases h
    | some y =>
      rw [hf] at h
      have hy := List.find?_some hf
      simp only [decide_eq_true_eq] at hy
      obtain ⟨y1, y2, y3⟩ := y
      simp only [Option.map_some, Option.some.injEq] at h hy
      obtain ⟨rfl, rfl⟩ := hy
      rw [h]
/-- The greater of two texts. -/
def mxT (s s' : ByteArray) : ByteArray := if Op.bytesLess s.toList s'.toList = true then s' else s
/-- What stays at a stamp, of what each has there and whether each has seen it. -/
def jnO (p q : Option ByteArray) (sx sy : Prop) [Decidable sx] [Decidable sy] : Option ByteArray :=
  match p, q with
  | some s, some s' => some (mxT s s')
  | some s, none => if sy then none else some s
  | none, some s' => if sx then none else some s'
  | none, none => none
theorem keep_look (ms : List En) (Y : List Int) (t a : Int) (s : ByteArray) : keepE ms Y (t, a, s) = (match look ms t a with | some s' => some (t, a, mxT s s') | none => if t ≤ Y.getD a.toNat 0 then none else some (t, a, s)) := by
  unfold keepE
  cases hl : look ms t a with
  | none => rw [look_none.2 hl]
  | some s' =>
    rw [look_some.2 hl]
    simp only [grE, lessR_same, mxT]
    split <;> rfl
theorem jn_look {X Y : List Int} {ls ms : List En} (h1 : ls.Pairwise upE) (h2 : ms.Pairwise upE) (t a : Int) : look (jnL X Y ls ms) t a = jnO (look ls t a) (look ms t a) (t ≤ X.getD a.toNat 0) (t ≤ Y.getD a.toNat 0) := by
  obtain ⟨u1, u2⟩ := jnL_up (X := X) (Y := Y) (up_apart h1) (up_apart h2)
  have hmem : ∀ s, look (jnL X Y ls ms) t a = some s ↔ jnO (look ls t a) (look ms t a) (t ≤ X.getD a.toNat 0) (t ≤ Y.getD a.toNat 0) = some s := by
    intro s
    rw [← look_mem u1, u2.mem_iff, List.mem_append]
    unfold jnA jnB
    rw [List.mem_filterMap, List.mem_filterMap]
    constructor
    · rintro (⟨e, he, hk⟩ | ⟨e, he, hk⟩)
      · have hst := keep_stamp hk
        obtain ⟨e1, e2, e3⟩ := e
        simp only at hst
        obtain ⟨rfl, rfl⟩ := hst
        rw [(look_mem h1 t a e3).1 he]
        rw [keep_look] at hk
        cases hl : look ms t a with
        | none =>
          rw [hl] at hk
          simp only at hk
          unfold jnO
          split at hk
          · cases hk
          · rename_i hn
            simp only [Option.some.injEq, Prod.mk.injEq] at hk
            simp only [if_neg hn, hk.2.2]
        | some s' =>
          rw [hl] at hk
          simp only [Option.some.injEq, Prod.mk.injEq] at hk
          unfold jnO
          simp only [hk.2.2]
      · obtain ⟨hk1, hk2⟩ := sole_some hk
        have hst := keep_stamp hk1
        obtain ⟨e1, e2, e3⟩ := e
        simp only at hst
        obtain ⟨rfl, rfl⟩ := hst
        rw [(look_mem h2 t a e3).1 he, look_none.1 hk2]
        rw [keep_look, look_none.1 hk2] at hk1
        simp only at hk1
        unfold jnO
        split at hk1
        · cases hk1
        · rename_i hn
          simp only [Option.some.injEq, Prod.mk.injEq] at hk1
          simp only [if_neg hn, hk1.2.2]
    · intro hj
      cases hp : look ls t a with
      | some s1 =>
        refine .inl ⟨(t, a, s1), (look_mem h1 t a s1).2 hp, ?_⟩
        rw [keep_look]
        rw [hp] at hj
        cases hq : look ms t a with
        | some s2 =>
          rw [hq] at hj
          unfold jnO at hj
          simp only [Option.some.injEq] at hj
          simp only [hj]
        | none =>
          rw [hq] at hj
          unfold jnO at hj
          simp only at hj ⊢
          split at hj
          · cases hj
          · rename_i hn
            rw [if_neg hn]
            simp only [Option.some.injEq] at hj
            rw [hj]
      | none =>
        rw [hp] at hj
        cases hq : look ms t a with
        | none => rw [hq] at hj; unfold jnO at hj; cases hj
        | some s2 =>
          rw [hq] at hj
          unfold jnO at hj
          simp only at hj
          split at hj
          · cases hj
          · rename_i hn
            simp only [Option.some.injEq] at hj
            refine .inr ⟨(t, a, s2), (look_mem h2 t a s2).2 hq, ?_⟩
            unfold soleE
            rw [look_none.2 hp]
            simp only [Option.isSome_none, Bool.false_eq_true, if_false]
            rw [keep_look, hp]
            simp only
            rw [if_neg hn, hj]
  cases hl : look (jnL X Y ls ms) t a with
  | some s => exact ((hmem s).1 hl).symm
  | none =>
    cases hr : jnO (look ls t a) (look ms t a) (t ≤ X.getD a.toNat 0) (t ≤ Y.getD a.toNat 0) with
    | none => rfl
    | some s => rw [(hmem s).2 hr] at hl; cases hl
theorem look_ext {p q : List En} (hp : p.Pairwise upE) (hq : q.Pairwise upE) (h : ∀ t a, look p t a = look q t a) : p = q := by
  refine up_ext hp hq fun x => ?_
  obtain ⟨t, a, s⟩ := x
  rw [look_mem hp, look_mem hq, h]
theorem jnL_pw {X Y : List Int} {ls ms : List En} (h1 : ls.Pairwise upE) (h2 : ms.Pairwise upE) : (jnL X Y ls ms).Pairwise upE := (jnL_up (X := X) (Y := Y) (up_apart h1) (up_apart h2)).1
theorem mxT_comm (s s' : ByteArray) : mxT s s' = mxT s' s := by
  have := gr_comm (e := (0, 0, s)) (y := (0, 0, s')) ⟨rfl, rfl⟩
  unfold grE at this
  simp only [lessR_same] at this
  unfold mxT
  split at this <;> split at this <;> simp_all
theorem mxT_idem (s s' : ByteArray) : mxT (mxT s s') s' = mxT s s' := by
  unfold mxT
  by_cases h : Op.bytesLess s.toList s'.toList = true
  · rw [if_pos h, bl_irreflK]
    simp
  · rw [if_neg h, if_neg h]
theorem mxT_assoc (s s' s'' : ByteArray) : mxT (mxT s s') s'' = mxT s (mxT s' s'') := by
  unfold mxT
  by_cases h1 : Op.bytesLess s.toList s'.toList = true
  · rw [if_pos h1]
    by_cases h2 : Op.bytesLess s'.toList s''.toList = true
    · rw [if_pos h2, if_pos (bl_transK _ _ _ h1 h2)]
    · rw [if_neg h2, if_pos h1]
  · rw [if_neg h1]
    by_cases h2 : Op.bytesLess s'.toList s''.toList = true
    · rw [if_pos h2]
    · rw [if_neg h2, if_neg h1]
      by_cases h3 : Op.bytesLess s.toList s''.toList = true
      · exfalso
        rcases bl_triK s'.toList s''.toList with h | h | h
        · exact h2 h
        · exact h1 (by rw [h]; exact h3)
        · exact h1 (bl_transK _ _ _ h3 h)
      · rw [if_neg h3]
theorem zipJ_comm (xs ys : List Int) : List.zipWith mxI xs ys = List.zipWith mxI ys xs := by
  induction xs generalizing ys with
  | nil => simp
  | cons x xs ih =>
    cases ys with
    | nil => simp
    | cons y ys =>
      rw [List.zipWith_cons_cons, List.zipWith_cons_cons, ih ys, show mxI x y = mxI y x by unfold mxI; (try split) <;> (try split) <;> omega]
theorem zipJ_idem (xs ys : List Int) (h : xs.length = ys.length) : List.zipWith mxI (List.zipWith mxI xs ys) ys = List.zipWith mxI xs ys := by
  induction xs generalizing ys with
  | nil => simp
  | cons x xs ih =>
    cases ys with
    | nil => simp
    | cons y ys =>
      simp only [List.length_cons, Nat.add_right_cancel_iff] at h
      rw [List.zipWith_cons_cons, List.zipWith_cons_cons, ih ys h, show mxI (mxI x y) y = mxI x y by unfold mxI; (try split) <;> (try split) <;> omega]
theorem zipJ_assoc (xs ys zs : List Int) : List.zipWith mxI (List.zipWith mxI xs ys) zs = List.zipWith mxI xs (List.zipWith mxI ys zs) := by
  induction xs generalizing ys zs with
  | nil => simp
  | cons x xs ih =>
    cases ys with
    | nil => simp
    | cons y ys =>
      cases zs with
      | nil => simp
      | cons z zs =>
        simp only [List.zipWith_cons_cons, ih ys zs]
        rw [show mxI (mxI x y) z = mxI x (mxI y z) by unfold mxI; (try split) <;> (try split) <;> (try split) <;> (try split) <;> (try split) <;> omega]
theorem zipJ_get {xs ys : List Int} (h : xs.length = ys.length) (k : Nat) : (List.zipWith mxI xs ys).getD k 0 = mxI (xs.getD k 0) (ys.getD k 0) := by
  by_cases hk : k < xs.length
  · have hk' : k < ys.length := by omega
    simp [List.getD, List.getElem?_zipWith, hk, hk']
  · have hk' : ¬ k < ys.length := by omega
    simp [List.getD, List.getElem?_zipWith, hk, hk', mxI]
theorem zipJ_ok {xs ys : List Int} (hx : vecOK xs = true) (hy : vecOK ys = true) : vecOK (List.zipWith mxI xs ys) = true := by
  obtain ⟨lx, gx⟩ := vecOK_get hx
  obtain ⟨ly, gy⟩ := vecOK_get hy
  refine vecOK_all (by simp [lx, ly]) fun k hk => ?_
  simp only [List.length_zipWith] at hk
  have h1 := gx k (by omega)
  have h2 := gy k (by omega)
  rw [List.getElem_zipWith]
  unfold cOK mxI
  split <;> simp only [decide_eq_true_eq] <;> omega
theorem le_mx (t x y : Int) : t ≤ mxI x y ↔ t ≤ x ∨ t ≤ y := by unfold mxI; split <;> omega

/-- What a valid value holds it has seen. -/
theorem okJ_all' {xs : List Int} {ls : List En} (h : okJ xs ls = true) : ∀ e ∈ ls, stOK e.1 e.2.1 = true ∧ e.2.2.size ≤ 200 ∧ e.1 ≤ xs.getD e.2.1.toNat 0 := by
  unfold okJ at h
  simp only [Bool.and_eq_true, decide_eq_true_eq] at h
  intro e he
  obtain ⟨j, hj, rfl⟩ := List.getElem_of_mem he
  have h1 := allOne_mono (k := j + 1) (by omega) h.2.2
  simp only [allOne, Bool.and_eq_true] at h1
  have h2 := one_parts h1.2
  rw [show enAt ls j = ls[j] by simp [enAt, hj]] at h2
  exact ⟨h2.1, h2.2.1, h2.2.2.2⟩
theorem okJ_seen {xs : List Int} {ls : List En} (h : okJ xs ls = true) {t a : Int} {s : ByteArray} (hl : look ls t a = some s) : t ≤ xs.getD a.toNat 0 := (okJ_all' h _ ((look_mem (okJ_up h) t a s).2 hl)).2.2
theorem okJ_of {xs : List Int} {ls : List En} (hv : vecOK xs = true) (hl : ls.length ≤ 256) (hu : ls.Pairwise upE) (h : ∀ e ∈ ls, stOK e.1 e.2.1 = true ∧ e.2.2.size ≤ 200 ∧ e.1 ≤ xs.getD e.2.1.toNat 0) : okJ xs ls = true := by
  refine okJ_all hv hl ?_
  have hstep : ∀ k, k ≤ ls.length → allOne xs ls k = true := by
    intro k
    induction k with
    | zero => intro _; rfl
    | succ k ih =>
      intro hk
      refine allOne_step (ih (by omega)) ?_
      have hkl : k < ls.length := by omega
      have he : enAt ls k = ls[k] := by simp [enAt, hkl]
      obtain ⟨a1, a2, a3⟩ := h ls[k] (List.getElem_mem hkl)
      have hless : lessS (prevS ls k).1 (prevS ls k).2 (enAt ls k).1 (enAt ls k).2.1 = true := by
        cases k with
        | zero =>
          rw [he]
          unfold stOK at a1
          simp only [decide_eq_true_eq] at a1
          show lessS 0 0 _ _ = true
          rw [lessS_iff]
          omega
        | succ m =>
          have := List.pairwise_iff_getElem.1 hu m (m + 1) (by omega) hkl (by omega)
          unfold upE at this
          rw [he]
          show lessS (enAt ls m).1 (enAt ls m).2.1 _ _ = true
          rw [show enAt ls m = ls[m] by simp [enAt, show m < ls.length by omega]]
          exact this
      unfold okOne
      rw [hless, he, a1, decide_eq_true a2, decide_eq_true a3]
      rfl
  exact hstep _ (Nat.le_refl _)
theorem jnL_all {X Y : List Int} {ls ms : List En} (h1 : okJ X ls = true) (h2 : okJ Y ms = true) : ∀ e ∈ jnL X Y ls ms, stOK e.1 e.2.1 = true ∧ e.2.2.size ≤ 200 ∧ e.1 ≤ (List.zipWith mxI X Y).getD e.2.1.toNat 0 := by
  intro e he
  have hX := (vecOK_get (vecOK_ofS h1).1).1
  have hY := (vecOK_get (vecOK_ofS h2).1).1
  rw [zipJ_get (by omega), le_mx]
  obtain ⟨t, a, s⟩ := e
  have hl := (look_mem (jnL_pw (okJ_up h1) (okJ_up h2)) t a s).1 he
  rw [jn_look (okJ_up h1) (okJ_up h2)] at hl
  have m1 := fun s' (h : look ls t a = some s') => okJ_all' h1 _ ((look_mem (okJ_up h1) t a s').2 h)
  have m2 := fun s' (h : look ms t a = some s') => okJ_all' h2 _ ((look_mem (okJ_up h2) t a s').2 h)
  cases hp : look ls t a with
  | some s1 =>
    have k1 := m1 s1 hp
    rw [hp] at hl
    cases hq : look ms t a with
    | some s2 =>
      have k2 := m2 s2 hq
      rw [hq] at hl
      unfold jnO mxT at hl
      simp only [Option.some.injEq] at hl
      refine ⟨k1.1, ?_, .inl k1.2.2⟩
      rw [← hl]
      split
      · exact k2.2.1
      · exact k1.2.1
    | none =>
      rw [hq] at hl
      unfold jnO at hl
      simp only at hl
      split at hl
      · cases hl
      · cases hl; exact ⟨k1.1, k1.2.1, .inl k1.2.2⟩
  | none =>
    rw [hp] at hl
    cases hq : look ms t a with
    | some s2 =>
      have k2 := m2 s2 hq
      rw [hq] at hl
      unfold jnO at hl
      simp only at hl
      split at hl
      · cases hl
      · cases hl; exact ⟨k2.1, k2.2.1, .inr k2.2.2⟩
    | none => rw [hq] at hl; unfold jnO at hl; cases hl
/-- A joined value that is not too great is valid. -/
theorem jn_valid {X Y : List Int} {ls ms : List En} (h1 : okJ X ls = true) (h2 : okJ Y ms = true) (hl : (jnL X Y ls ms).length ≤ 256) : okJ (List.zipWith mxI X Y) (jnL X Y ls ms) = true :=
  okJ_of (zipJ_ok (vecOK_ofS h1).1 (vecOK_ofS h2).1) hl (jnL_pw (okJ_up h1) (okJ_up h2)) (jnL_all h1 h2)
theorem jnO_comm (p q : Option ByteArray) (x y : Prop) [Decidable x] [Decidable y] : jnO q p y x = jnO p q x y := by
  cases p <;> cases q <;> simp [jnO, mxT_comm]
theorem mxT_same (q : ByteArray) : mxT q q = q := by unfold mxT; rw [bl_irreflK]; rfl
theorem jnO_idem (p q : Option ByteArray) (x y v : Prop) [Decidable x] [Decidable y] [Decidable v] (hv : v ↔ x ∨ y) : jnO (jnO p q x y) q v y = jnO p q x y := by
  cases p <;> cases q <;> by_cases hx : x <;> by_cases hy : y <;> simp [jnO, mxT_idem, mxT_same, hx, hy, hv]
theorem jnO_assoc (p q r : Option ByteArray) (x y z v w : Prop) [Decidable x] [Decidable y] [Decidable z] [Decidable v] [Decidable w] (hv : v ↔ x ∨ y) (hw : w ↔ y ∨ z) (s1 : p.isSome = true → x) (s2 : q.isSome = true → y) (s3 : r.isSome = true → z) : jnO (jnO p q x y) r v z = jnO p (jnO q r y z) x w := by
  cases p <;> cases q <;> cases r <;> by_cases hx : x <;> by_cases hy : y <;> by_cases hz : z <;> simp_all [jnO, mxT_assoc]
theorem jnL_comm {X Y : List Int} {ls ms : List En} (h1 : okJ X ls = true) (h2 : okJ Y ms = true) : jnL Y X ms ls = jnL X Y ls ms := by
  refine look_ext (jnL_pw (okJ_up h2) (okJ_up h1)) (jnL_pw (okJ_up h1) (okJ_up h2)) fun t a => ?_
  rw [jn_look (okJ_up h2) (okJ_up h1), jn_look (okJ_up h1) (okJ_up h2)]
  exact jnO_comm _ _ _ _
theorem jnL_idem {X Y : List Int} {ls ms : List En} (h1 : okJ X ls = true) (h2 : okJ Y ms = true) : jnL (List.zipWith mxI X Y) Y (jnL X Y ls ms) ms = jnL X Y ls ms := by
  have u1 := okJ_up h1
  have u2 := okJ_up h2
  have hX := (vecOK_get (vecOK_ofS h1).1).1
  have hY := (vecOK_get (vecOK_ofS h2).1).1
  refine look_ext (jnL_pw (jnL_pw u1 u2) u2) (jnL_pw u1 u2) fun t a => ?_
  rw [jn_look (jnL_pw u1 u2) u2, jn_look u1 u2]
  exact jnO_idem _ _ _ _ _ (by rw [zipJ_get (by omega), le_mx])
theorem look_isSome {xs : List Int} {ls : List En} (h : okJ xs ls = true) (t a : Int) (hs : (look ls t a).isSome = true) : t ≤ xs.getD a.toNat 0 := by
  cases hl : look ls t a with
  | none => rw [hl] at hs; cases hs
  | some s => exact okJ_seen h hl
theorem jnL_assoc {X Y Z : List Int} {ls ms ns : List En} (h1 : okJ X ls = true) (h2 : okJ Y ms = true) (h3 : okJ Z ns = true) : jnL (List.zipWith mxI X Y) Z (jnL X Y ls ms) ns = jnL X (List.zipWith mxI Y Z) ls (jnL Y Z ms ns) := by
  have u1 := okJ_up h1
  have u2 := okJ_up h2
  have u3 := okJ_up h3
  have hX := (vecOK_get (vecOK_ofS h1).1).1
  have hY := (vecOK_get (vecOK_ofS h2).1).1
  have hZ := (vecOK_get (vecOK_ofS h3).1).1
  refine look_ext (jnL_pw (jnL_pw u1 u2) u3) (jnL_pw u1 (jnL_pw u2 u3)) fun t a => ?_
  rw [jn_look (jnL_pw u1 u2) u3, jn_look u1 u2, jn_look u1 (jnL_pw u2 u3), jn_look u2 u3]
  exact jnO_assoc _ _ _ _ _ _ _ _ (by rw [zipJ_get (by omega), le_mx]) (by rw [zipJ_get (by omega), le_mx]) (look_isSome h1 t a) (look_isSome h2 t a) (look_isSome h3 t a)

end Go.Proofs.YtfnlnigeaioocaaGreat

namespace Go.Proofs.YtfnlnigeaioocaaGreat
open Go.RowKit
set_option linter.unusedVariables false

set_option maxHeartbeats 8000000 in
set_option maxRecDepth 100000 in
theorem implSetJoin_any (C : Nat) (w : World) (v ve v' ve' : Value) (xs ys : List Int) (ls ms : List En) (hC : C ≤ w.heap.size) (hv : Rd C w v (xs.map (Value.int .i64))) (he : RdE C w ve ls) (hv' : Rd C w v' (ys.map (Value.int .i64))) (he' : RdE C w ve' ms) :
    Calls Tryz.prog 8 #[.agg #[v, ve], .agg #[v', ve']] w (SvAns (jnV xs ls ys ms) (jnE xs ls ys ms) (jnC xs ls ys ms) w) := by
  have hxx : xs.length = 16 ∨ okJ xs ls = false := by
    cases hk : vecOK xs with
    | true => exact .inl (vecOK_get hk).1
    | false => exact .inr (okJ_vec hk)
  have hyy : ys.length = 16 ∨ okJ ys ms = false := by
    cases hk : vecOK ys with
    | true => exact .inl (vecOK_get hk).1
    | false => exact .inr (okJ_vec hk)
  have hsl : ∃ ao len cap, v = .slice ao len cap := by
    obtain ⟨ao, cap, rfl, _⟩ := hv
    exact ⟨_, _, _, rfl⟩
  obtain ⟨ao, la, ca, rfl⟩ := hsl
  have hsl : ∃ ao len cap, v' = .slice ao len cap := by
    obtain ⟨ao, cap, rfl, _⟩ := hv'
    exact ⟨_, _, _, rfl⟩
  obtain ⟨bo, lb, cb, rfl⟩ := hsl
  have he0 := he
  obtain ⟨eo, ec, rfl, _⟩ := he0
  have he0 := he'
  obtain ⟨fo, fc, rfl, _⟩ := he0
  obtain ⟨W, hW⟩ : ∃ W, ((w.alloc (.cells #[.slice ao la ca, .slice eo ls.length ec] 28)).alloc (.cells #[.slice bo lb cb, .slice fo ms.length fc] 28)).alloc (.cells #[.slice none 0 0, .slice none 0 0] 28) = W := ⟨_, rfl⟩
  have hB0 : Below w.heap.size w W := by rw [← hW]; exact below_then (below_then (below_alloc _ _) _) _
  have hz0 : W.heap.size = w.heap.size + 1 + 1 + 1 := by rw [← hW]; simp
  have hD0 : Dy W w.heap.size (.slice ao la ca) (.slice eo ls.length ec) := by rw [← hW]; exact ((Dy.made w (.slice ao la ca) (.slice eo ls.length ec) 28).on (below_alloc _ _)).on (below_alloc _ _)
  have hE0 : Dy W (w.heap.size + 1) (.slice bo lb cb) (.slice fo ms.length fc) := by
    have := (Dy.made (w.alloc (.cells #[.slice ao la ca, .slice eo ls.length ec] 28)) (.slice bo lb cb) (.slice fo ms.length fc) 28).on (below_alloc _ (.cells #[.slice none 0 0, .slice none 0 0] 28))
    rw [World.size_alloc, hW] at this
    exact this
  have hR0 : Dy W (w.heap.size + 1 + 1) (.slice none 0 0) (.slice none 0 0) := by
    have := Dy.made ((w.alloc (.cells #[.slice ao la ca, .slice eo ls.length ec] 28)).alloc (.cells #[.slice bo lb cb, .slice fo ms.length fc] 28)) (.slice none 0 0) (.slice none 0 0) 28
    rw [World.size_alloc, World.size_alloc, hW] at this
    exact this
  have hS1 := setOf_any C W (.slice ao la ca) (.slice eo ls.length ec) xs ls (Nat.le_trans hC hB0.size) (hv.belowW hB0 hC) (he.below (hB0.mono hC))
  obtain ⟨⟨e0, e1⟩, _⟩ := hD0
  go_enter Tryz.func8, Tryz.ntmps8
  go_upto_region 1 with fail
  clear hW
  have HZ0 : Hid _ := hz0
  clear hz0
  go_wp2_with fail
  refine hS1.mono ?_
  intro e w2 hA1
  obtain ⟨Z1, rfl, hZ1, hone1, hb1, hfin1⟩ := hA1.out (w := W) hxx (Nat.le_refl _)
  have hsz1 : Z1.toArray.size = 17 := by rw [List.size_toArray]; exact hZ1
  have hi1 : (Tryz.prog.info? 50).map (·.size) = some Z1.toArray.size := by rw [hsz1]; exact setMap_info
  have h3 : (w2.alloc (.cells zeroJ.toArray 50)).there w2.heap.size 0 Z1.toArray.size := by rw [hsz1]; exact there_new (n := 17) (by rw [zeroJ_size]; exact Nat.le_refl _)
  have hT3 : (w2.alloc (.cells zeroJ.toArray 50)).there w2.heap.size 0 17 := by rw [← hsz1]; exact h3
  have hb3 : Below w2.heap.size w2 ((w2.alloc (.cells zeroJ.toArray 50)).setCells w2.heap.size 0 Z1) := below_setCells (Nat.le_refl _) _ _ _ (below_alloc _ _)
  have hr3 : ((w2.alloc (.cells zeroJ.toArray 50)).setCells w2.heap.size 0 Z1).rangeAt w2.heap.size 0 Z1 := World.rangeAt_setCells_same _ _ _ _ (by rw [hZ1]; exact hT3)
  have ht3 : ((w2.alloc (.cells zeroJ.toArray 50)).setCells w2.heap.size 0 Z1).there w2.heap.size 0 17 := World.there_setCells hT3 _ _ _
  have hE2 := (hE0.on hb1).on hb3
  have hR3 := (hR0.on hb1).on hb3
  have hBW3 := below_seq hb1 hb3
  have z2 := hb1.size
  clear hA1 hS1 e0 e1 hT3
  obtain ⟨k1, hk1⟩ : ∃ k1, okJ xs ls = k1 := ⟨_, rfl⟩
  rw [hk1] at hfin1 ⊢
  have HK1 : Hid _ := hk1
  clear hk1
  go_upto_region 2 with (first | (refine wpList_store_mid rfl 50 _ _ rfl w2.heap.size 0 Z1.toArray rfl rfl h3 hi1 hone1 ?_))
  obtain ⟨w3, hw3⟩ : ∃ w3, ((w2.alloc (.cells zeroJ.toArray 50)).setCells w2.heap.size 0 Z1) = w3 := ⟨_, rfl⟩
  rw [hw3] at hb3 hr3 ht3 hE2 hR3 hBW3
  change Code.wp _ _ _ _ ((w2.alloc (.cells zeroJ.toArray 50)).setCells w2.heap.size 0 Z1)
  rw [hw3]
  clear hw3 h3 hi1 hone1
  have hS2 := setOf_any C w3 (.slice bo lb cb) (.slice fo ms.length fc) ys ms (Nat.le_trans hC (below_seq hB0 hBW3).size) (hv'.belowW (below_seq hB0 hBW3) hC) (he'.below ((below_seq hB0 hBW3).mono hC))
  obtain ⟨⟨e0, e1⟩, _⟩ := hE2
  go_wp2_with fail
  refine hS2.mono ?_
  intro e w4 hA2
  obtain ⟨Z2, rfl, hZ2, hone2, hb4, hfin2⟩ := hA2.out (w := w3) hyy (Nat.le_refl _)
  have hsz2 : Z2.toArray.size = 17 := by rw [List.size_toArray]; exact hZ2
  have hi2 : (Tryz.prog.info? 50).map (·.size) = some Z2.toArray.size := by rw [hsz2]; exact setMap_info
  have h5 : (w4.alloc (.cells zeroJ.toArray 50)).there w4.heap.size 0 Z2.toArray.size := by rw [hsz2]; exact there_new (n := 17) (by rw [zeroJ_size]; exact Nat.le_refl _)
  have hT5 : (w4.alloc (.cells zeroJ.toArray 50)).there w4.heap.size 0 17 := by rw [← hsz2]; exact h5
  have hb5 : Below w4.heap.size w4 ((w4.alloc (.cells zeroJ.toArray 50)).setCells w4.heap.size 0 Z2) := below_setCells (Nat.le_refl _) _ _ _ (below_alloc _ _)
  have hr5 : ((w4.alloc (.cells zeroJ.toArray 50)).setCells w4.heap.size 0 Z2).rangeAt w4.heap.size 0 Z2 := World.rangeAt_setCells_same _ _ _ _ (by rw [hZ2]; exact hT5)
  have ht5 : ((w4.alloc (.cells zeroJ.toArray 50)).setCells w4.heap.size 0 Z2).there w4.heap.size 0 17 := World.there_setCells hT5 _ _ _
  have hR5 := (hR3.on hb4).on hb5
  have hb35 := below_seq hb4 hb5
  have z4 := hb4.size
  clear hA2 hS2 e0 e1 hT5
  obtain ⟨k2, hk2⟩ : ∃ k2, okJ ys ms = k2 := ⟨_, rfl⟩
  rw [hk2] at hfin2 ⊢
  have HK2 : Hid _ := hk2
  clear hk2
  go_upto_region 3 with (first | (refine wpList_store_mid rfl 50 _ _ rfl w4.heap.size 0 Z2.toArray rfl rfl h5 hi2 hone2 ?_))
  obtain ⟨w5, hw5⟩ : ∃ w5, ((w4.alloc (.cells zeroJ.toArray 50)).setCells w4.heap.size 0 Z2) = w5 := ⟨_, rfl⟩
  rw [hw5] at hb5 hr5 ht5 hR5 hb35
  change Code.wp _ _ _ _ ((w4.alloc (.cells zeroJ.toArray 50)).setCells w4.heap.size 0 Z2)
  rw [hw5]
  clear hw5 h5 hi2 hone2
  have hBw5 := below_seq hB0 (below_seq hBW3 hb35)
  by_cases hboth : k1 = true ∧ k2 = true
  · obtain ⟨rfl, rfl⟩ := hboth
    have hA1 := hfin1 w5 (fun i _ h2 => (below_seq hb3 hb35).block i h2) (below_seq hBW3 hb35)
    have hA2 := hfin2 w5 (fun i _ h2 => hb5.block i h2) hb35
    rcases hA1 with ⟨_, b1, hq1, hbb1, hM1, _⟩ | ⟨_, hq1, _⟩
    · rcases hA2 with ⟨_, b2, hq2, hbb2, hM2, _⟩ | ⟨_, hq2, _⟩
      · have hZ1e : Z1 = arrC xs ++ [Value.map (some b1)] := by simpa using hq1
        have hZ2e : Z2 = arrC ys ++ [Value.map (some b2)] := by simpa using hq2
        subst hZ1e hZ2e
        have x16 := (vecOK_get (vecOK_ofS HK1.out).1).1
        have y16 := (vecOK_get (vecOK_ofS HK2.out).1).1
        have hJ1 : Jm w5 w2.heap.size xs b1 := Jm.on ⟨hr3, ht3⟩ hb35
        have hJ2 : Jm w5 w4.heap.size ys b2 := ⟨hr5, ht5⟩
        have ap1 := okJ_apart HK1.out
        have ap2 := okJ_apart HK2.out
        have hJn := joined_any w5 w2.heap.size b1 w4.heap.size b2 xs ys ls ms hJ1 x16 hM1 hJ2 y16 hM2 (okJ_act HK1.out) (okJ_act HK2.out) (same_both ap1 ap2)
        have hl1 := (vecOK_ofS HK1.out).2
        have hl2 := (vecOK_ofS HK2.out).2
        obtain ⟨Z, hZZ⟩ : ∃ Z, List.zipWith mxI xs ys = Z := ⟨_, rfl⟩
        have hZ : Z.length = 16 := by rw [← hZZ]; simp [x16, y16]
        have HZZ : Hid _ := hZZ
        unfold JnAns at hJn
        rw [hZZ] at hJn
        clear hZZ hq1 hq2 hfin1 hfin2 hr3 ht3 hr5 ht5 hsz1 hsz2 hZ1 hZ2
        go_wp2_with fail
        refine hJn.mono ?_
        rintro e w6 ⟨bj, out1, out, rfl, hbj, hM6, hKp1, hKp2, hb6⟩
        have hperm := jn_mem ap1 ap2 hKp1 hKp2 hM6.apart
        have hlen := hperm.length_eq
        have hjl := jnL_len (X := xs) (Y := ys) ap1 ap2
        obtain ⟨hJ7, hM7⟩ := jm_laidS (T := 50) hZ hM6
        have hb7 : Below w6.heap.size w6 ((w6.alloc (.cells zeroJ.toArray 50)).setCells w6.heap.size 0 (arrC Z ++ [Value.map (some bj)])) := below_setCells (Nat.le_refl _) _ _ _ (below_alloc _ _)
        have hV17 : (arrC Z ++ [Value.map (some bj)]).length = 17 := by simp [arrC_len, hZ]
        have honeV : (arrC Z ++ [Value.map (some bj)]).toArray.all (·.oneCell') = true := all_oneCell_toArray (fun v hv => by rcases List.mem_append.1 hv with h | h; exact arrC_one Z v h; rw [List.mem_singleton.1 h]; rfl)
        have hans : ∀ (w7 : World) (e : Ending) (w8 : World), ToSet Z out w7 e w8 → SvAns (jnV xs ls ys ms) (jnE xs ls ys ms) (jnC xs ls ys ms) w7 e w8 := by
          rintro w7 e w8 (⟨h256, es, hpe, hue, h⟩ | ⟨hnot, h⟩)
          · obtain ⟨q1, q2, q3⟩ := jn_done ⟨HK1.out, HK2.out⟩ (by omega)
            rw [q1, q2, q3, ← jn_out ap1 ap2 hKp1 hKp2 hpe hue, HZZ.out]
            exact h
          · obtain ⟨q1, q2, q3⟩ := jn_many ⟨HK1.out, HK2.out⟩ (by omega)
            rw [q1, q2, q3]
            exact h
        have hout : out.length ≤ 512 := by omega
        have hR6 := hR5.on hb6
        have hB6 := below_seq hBw5 hb6
        clear hperm hlen hjl hKp1 hKp2 hM6 hJ1 hJ2 hM1 hM2 ap1 ap2 hJn
        obtain ⟨V, hVV⟩ : ∃ V, arrC Z ++ [Value.map (some bj)] = V := ⟨_, rfl⟩
        rw [hVV] at hJ7 hM7 hb7 hV17 honeV
        have hE : (Value.agg (arrC Z ++ [Value.map (some bj)]).toArray) = .agg V.toArray := by rw [hVV]
        rw [hE]
        clear hE hVV
        have hszV : V.toArray.size = 17 := by rw [List.size_toArray]; exact hV17
        have hiV : (Tryz.prog.info? 50).map (·.size) = some V.toArray.size := by rw [hszV]; exact setMap_info
        have h7 : (w6.alloc (.cells zeroJ.toArray 50)).there w6.heap.size 0 V.toArray.size := by rw [hszV]; exact there_new (n := 17) (by rw [zeroJ_size]; exact Nat.le_refl _)
        have hbs := built_set V hV17
        go_upto_region 6 with (first | (refine wpList_build rfl _ _ rfl #[(0, .agg V.toArray)] (by simp; rfl) _ (hbs _) ?_) | (refine wpList_store_mid rfl 50 _ _ rfl w6.heap.size 0 V.toArray rfl rfl h7 hiV honeV ?_))
        obtain ⟨w7, hw7⟩ : ∃ w7, ((w6.alloc (.cells zeroJ.toArray 50)).setCells w6.heap.size 0 V) = w7 := ⟨_, rfl⟩
        rw [hw7] at hb7 hJ7 hM7
        change Code.wp _ _ _ _ ((w6.alloc (.cells zeroJ.toArray 50)).setCells w6.heap.size 0 V)
        rw [hw7]
        clear hw7 h7 hiV honeV hbs hszV hV17
        have hR7 := hR6.on hb7
        have hB7 := below_seq hB6 hb7
        have hT := toldSet_any out.length (sortsAll.le (by omega)) (by omega) w7 w6.heap.size bj Z out hJ7 hZ hM7 (.inl rfl)
        clear hR6 hB6 hb7 hb6
        go_wp2_with fail
        refine hT.mono ?_
        intro e w8 hto
        obtain ⟨u, v, rfl, hSv, hb8⟩ := hans w7 e w8 hto
        have hR8 := hR7.on hb8
        have hB8 := below_seq hB7 hb8
        have hlt8 := hR7.lt
        obtain ⟨ua, un, uc, va, vn, vc, rfl, rfl⟩ := hSv.shape
        obtain ⟨⟨r0, r1⟩, rf⟩ := hR8
        have f0 := rf 0
        have f1 := rf 1
        have HR : Hid _ := (Dy.set1 (Dy.set0 (show Dy w8 (w.heap.size + 1 + 1) _ _ from ⟨⟨r0, r1⟩, rf⟩) (.slice ua un uc)) (.slice va vn vc)).1
        have hBf := (hB8.setCell (p := ⟨w.heap.size + 1 + 1, 0, none⟩) (by show w.heap.size ≤ w.heap.size + 1 + 1; omega) (.slice ua un uc)).setCell (p := ⟨w.heap.size + 1 + 1, 1, none⟩) (by show w.heap.size ≤ w.heap.size + 1 + 1; omega) (.slice va vn vc)
        have hSf := (sv_put hSv (w.heap.size + 1 + 1) hlt8 (.slice ua un uc) (.slice va vn vc)).mono (B' := w.heap.size) (E' := ((w8.setCell ⟨w.heap.size + 1 + 1, 0, none⟩ (.slice ua un uc)).setCell ⟨w.heap.size + 1 + 1, 1, none⟩ (.slice va vn vc)).heap.size) (by omega) (by simp)
        clear hT hM7 hJ7 hR7 hB7 hb8 hSv hans hto
        go_wp2_with fail
        refine bodyPost_ret (v := .tuple #[.agg #[.slice ua un uc, .slice va vn vc], .int .i64 (jnC xs ls ys ms)]) ?_ rfl ⟨_, _, rfl, hSf, hBf⟩
        simp [results, Tryz.results8, go_sem, HR.out.1, HR.out.2]
      · simp at hq2
    · simp at hq1
  · have HA : Hid (jnC xs ls ys ms = 1 ∧ jnV xs ls ys ms = [] ∧ jnE xs ls ys ms = []) := jn_bad (by rw [HK1.out, HK2.out]; exact hboth)
    obtain ⟨⟨r0, r1⟩, rf⟩ := hR5
    have f0 := rf 0
    have f1 := rf 1
    have HR : Hid _ := (Dy.set1 (Dy.set0 (show Dy w5 (w.heap.size + 1 + 1) _ _ from ⟨⟨r0, r1⟩, rf⟩) (.slice none 0 0)) (.slice none 0 0)).1
    have hBf := (hBw5.setCell (p := ⟨w.heap.size + 1 + 1, 0, none⟩) (by show w.heap.size ≤ w.heap.size + 1 + 1; omega) (.slice none 0 0)).setCell (p := ⟨w.heap.size + 1 + 1, 1, none⟩) (by show w.heap.size ≤ w.heap.size + 1 + 1; omega) (.slice none 0 0)
    clear hfin1 hfin2 hr3 ht3 hr5 ht5
    cases k1
    · clear hboth
      go_wp2_with fail
      refine bodyPost_ret (v := .tuple #[.agg #[.slice none 0 0, .slice none 0 0], .int .i64 1]) ?_ rfl ⟨_, _, by rw [HA.out.1], by rw [HA.out.2.1, HA.out.2.2]; exact svNone _ _ _, hBf⟩
      simp [results, Tryz.results8, go_sem, HR.out.1, HR.out.2]
    · cases k2
      · clear hboth
        go_wp2_with fail
        refine bodyPost_ret (v := .tuple #[.agg #[.slice none 0 0, .slice none 0 0], .int .i64 1]) ?_ rfl ⟨_, _, by rw [HA.out.1], by rw [HA.out.2.1, HA.out.2.2]; exact svNone _ _ _, hBf⟩
        simp [results, Tryz.results8, go_sem, HR.out.1, HR.out.2]
      · exact absurd ⟨rfl, rfl⟩ hboth

end Go.Proofs.YtfnlnigeaioocaaGreat
