/- What a step makes of pairs, by the code: the three methods do, slices.Clone, through. -/
import Derived.Test.YtagnpahkhaighaaLensLess
import Derived.WalkSpells
namespace Go.Proofs.Ytagnpahkhaighaa
open Go.RowKit
set_option linter.unusedVariables false

theorem run_eqlP (w : World) (a : Option Addr) (n c n' c' : Nat) : (binOp .eql 62 (.slice a n c) (.slice none n' c')).run Try.prog w = .ok (.bool a.isNone) w := Lib.run_eql_slice_nil w _ _ a n c n' c' Try.underlying62

set_option maxHeartbeats 1000000 in
set_option maxRecDepth 100000 in
theorem cloneP_any (C : Nat) (w : World) (v : Value) (ls : List Pr) (hl : ls.length ≤ 64) (hC : C ≤ w.heap.size) (hr : RdM 2 C w v ls.length (prCs ls)) :
    Calls Try.prog 47 #[v] w fun e w' => ∃ r, e = .returned r ∧ OwnPr w' w.heap.size r ls ∧ Below w.heap.size w w' := by
  obtain ⟨i0, hi, hz0, hz1, hz2⟩ := info_parts infoPair
  have qT := run_eqlP
  have hr0 := hr
  obtain ⟨_, ao, cap, rfl, _, _, _, hrr⟩ := hr0
  cases ao with
  | none =>
    have h0 : ls = [] := by
      cases ls with
      | nil => rfl
      | cons p r => obtain ⟨g, off, e, _⟩ := hrr (by simp); cases e
    subst h0
    go_enter Try.func47, Try.ntmps47
    go_wp2_with fail
    go_ret
    exact ⟨_, rfl, ownM_nil _ _ _ _, Below.refl _ _⟩
  | some a =>
    have ho : (w.alloc (.cells #[] 46)).ownsRow w.heap.size 46 2 (.slice (some ⟨w.heap.size, 0, none⟩) 0 0) 0 [] := World.ownsRow_lit w #[] 0 (Nat.le_refl _) (by decide) (by simp)
    have hb0 : Below w.heap.size w (w.alloc (.cells #[] 46)) := below_alloc _ _
    have hR := hr.on hC hb0
    clear hr hrr
    go_enter Try.func47, Try.ntmps47
    go_wp2_with (first | (at_builtin; refine wpList_append_rdM rfl _ _ 62 rfl w.heap.size 46 i0 (.agg #[.string ByteArray.empty, .string ByteArray.empty]) 2 32 Try.underlying62 hi hz0 hz1 hz2 rfl (by decide) _ _ _ rfl ho C _ _ _ rfl hR (prCs_one ls) (by unfold maxLen; omega) (by omega) hb0.size ?_))
    intro v6 w6 ho6 hg6
    have hb6 : Below w.heap.size w w6 := hb0.grown hg6 hb0.size (fun q hq => (World.ownsRow.lt ho q hq).1)
    have ho7 : OwnPr w6 w.heap.size v6 ls := by
      first
        | exact ho6
        | (have := ho6; rw [Nat.zero_add, List.nil_append] at this; exact this)
    obtain ⟨ra, rn, rc, hre⟩ := own_sliceP ho7
    subst hre
    clear ho6 hg6 hR ho
    go_wp2_with fail
    go_ret
    exact ⟨_, rfl, ho7, hb6⟩

/-- What a step answers: pairs of the call's own, where there is no code. -/
def DoAns (w' : World) (B : Nat) (r : Value) (d : Int × List Pr) : Prop := (∃ a n c, r = .slice a n c) ∧ (d.1 = 0 → OwnPr w' B r d.2)

set_option maxHeartbeats 1000000 in
set_option maxRecDepth 100000 in
theorem addDo_any (C : Nat) (w : World) (v : Value) (ls : List Pr) (x y : ByteArray) (hl : ls.length ≤ 64) (hR : Rises ls) (hC : C ≤ w.heap.size) (hr : RdM 2 C w v ls.length (prCs ls)) :
    Calls Try.prog 87 #[.agg #[.string x, .string y], v] w fun e w' => ∃ r, e = .returned (.tuple #[r, .int .i64 (withP (x, y) ls).1]) ∧ DoAns w' w.heap.size r (withP (x, y) ls) ∧ Below w.heap.size w w' := by
  have hb0 : Below w.heap.size w (w.alloc (.cells #[.string x, .string y] 93)) := below_alloc _ _
  have h := withI_any C (w.alloc (.cells #[.string x, .string y] 93)) v ls x y hl hR (Nat.le_trans hC hb0.size) (hr.on hC hb0)
  obtain ⟨_, ao, cap, rfl, _⟩ := hr
  have hs := hb0.size
  generalize withP (x, y) ls = wp at *
  obtain ⟨c, pp⟩ := wp
  go_enter Try.func87, Try.ntmps87
  go_wp2_with fail
  refine h.mono ?_
  rintro e w1 ⟨r, rfl, ho, hb⟩
  obtain ⟨ra, rn, rc, hre⟩ := own_sliceP ho
  subst hre
  have ho' : OwnPr w1 w.heap.size (.slice ra rn rc) pp := ownM_mono ho hs
  have hb' := below_seq hb0 hb
  clear h ho hb
  go_wp2_with fail
  go_ret2
  exact ⟨_, rfl, ⟨⟨_, _, _, rfl⟩, fun _ => ho'⟩, hb'⟩

def dropD (x : ByteArray) (ls : List Pr) : Int × List Pr := if hasP x ls then (0, dropP x ls) else (14, [])
theorem less_ans {w1 : World} {B : Nat} {r : Value} {x b : ByteArray} {c : Int} {ls : List Pr} (h1 : hasP x ls = true → c = 0 ∧ b = (prAt ls (posP x ls)).2 ∧ OwnPr w1 B r (dropP x ls)) (h2 : hasP x ls = false → c = 14 ∧ r = .slice none 0 0) : c = (dropD x ls).1 ∧ DoAns w1 B r (dropD x ls) := by
  unfold dropD
  cases h : hasP x ls with
  | true =>
    rw [if_pos rfl]
    exact ⟨(h1 h).1, own_sliceP (h1 h).2.2, fun _ => (h1 h).2.2⟩
  | false =>
    rw [if_neg Bool.false_ne_true]
    exact ⟨(h2 h).1, ⟨_, _, _, (h2 h).2⟩, fun h0 => absurd h0 (by decide)⟩
theorem DoAns.on {w w' : World} {B B' : Nat} {r : Value} {d : Int × List Pr} (h : DoAns w B r d) (hb : Below w.heap.size w w') (hB : B' ≤ B) : DoAns w' B' r d := ⟨h.1, fun h0 => ownM_on (ownM_mono (h.2 h0) hB) hb⟩

set_option maxHeartbeats 1000000 in
set_option maxRecDepth 100000 in
theorem dropDo_any (C : Nat) (w : World) (v : Value) (ls : List Pr) (x y : ByteArray) (hl : ls.length ≤ 64) (hR : Rises ls) (hC : C ≤ w.heap.size) (hr : RdM 2 C w v ls.length (prCs ls)) :
    Calls Try.prog 74 #[.agg #[.string x, .string y], v] w fun e w' => ∃ r, e = .returned (.tuple #[r, .int .i64 (dropD x ls).1]) ∧ DoAns w' w.heap.size r (dropD x ls) ∧ Below w.heap.size w w' := by
  have hb0 : Below w.heap.size w (w.alloc (.cells #[.string x, .string y] 90)) := below_alloc _ _
  have h := withoutI_any C (w.alloc (.cells #[.string x, .string y] 90)) v ls x hl hR (Nat.le_trans hC hb0.size) (hr.on hC hb0)
  obtain ⟨_, ao, cap, rfl, _⟩ := hr
  have hs := hb0.size
  obtain ⟨dd, HD⟩ : ∃ dd, Hid (dropD x ls = dd) := ⟨_, rfl⟩
  rw [HD.out]
  obtain ⟨d1, d2⟩ := dd
  go_enter Try.func74, Try.ntmps74
  go_wp2_with fail
  refine h.mono ?_
  rintro e w1 ⟨r, a, b, c, rfl, h1, h2, hb⟩
  obtain ⟨hc, hans⟩ := less_ans h1 h2
  rw [HD.out] at hc hans
  obtain ⟨ra, rn, rc, hre⟩ := hans.1
  subst hre
  have HA : Hid (DoAns (w1.alloc (.cells #[.string a, .string b] 46)) w.heap.size (.slice ra rn rc) (d1, d2)) := hans.on (below_alloc _ _) hs
  have HC : Hid (c = d1) := hc
  have hb' := below_then (below_seq hb0 hb) (.cells #[.string a, .string b] 46)
  clear h h1 h2 hb hans hc
  go_wp2_with fail
  go_ret2
  exact ⟨_, by rw [← HC.out]; rfl, HA.out, hb'⟩

def renD (x t : ByteArray) (ls : List Pr) : Int × List Pr := if hasP x ls then withP (t, (prAt ls (posP x ls)).2) (dropP x ls) else (14, [])

set_option maxHeartbeats 2000000 in
set_option maxRecDepth 100000 in
theorem renDo_any (C : Nat) (w : World) (v : Value) (ls : List Pr) (x t : ByteArray) (hl : ls.length ≤ 64) (hR : Rises ls) (hC : C ≤ w.heap.size) (hr : RdM 2 C w v ls.length (prCs ls)) :
    Calls Try.prog 84 #[.agg #[.string x, .string t], v] w fun e w' => ∃ r, e = .returned (.tuple #[r, .int .i64 (renD x t ls).1]) ∧ DoAns w' w.heap.size r (renD x t ls) ∧ Below w.heap.size w w' := by
  have hb0 : Below w.heap.size w (w.alloc (.cells #[.string x, .string t] 92)) := below_alloc _ _
  have h := withoutI_any C (w.alloc (.cells #[.string x, .string t] 92)) v ls x hl hR (Nat.le_trans hC hb0.size) (hr.on hC hb0)
  obtain ⟨_, ao, cap, rfl, _⟩ := hr
  have hs := hb0.size
  obtain ⟨dd, HD⟩ : ∃ dd, Hid (renD x t ls = dd) := ⟨_, rfl⟩
  rw [HD.out]
  obtain ⟨d1, d2⟩ := dd
  cases hb9 : hasP x ls with
  | false =>
    have HE : Hid ((d1, d2) = (14, ([] : List Pr))) := by unfold Hid; rw [← HD.out]; unfold renD; rw [hb9]; rfl
    rw [hb9] at h
    go_enter Try.func84, Try.ntmps84
    go_wp2_with fail
    refine h.mono ?_
    rintro e w1 ⟨r, a, b, c, rfl, _, h2, hb⟩
    obtain ⟨hc, hr2⟩ := h2 (by first | rfl | trivial)
    subst hc hr2
    have hb' := below_then (below_seq hb0 hb) (.cells #[.string a, .string b] 46)
    clear h h2 hb
    go_wp2_with fail
    go_ret2
    refine ⟨.slice none 0 0, ?_, ?_, hb'⟩
    · have := congrArg Prod.fst HE.out
      simp only at this
      rw [this]
      rfl
    · rw [HE.out]
      exact ⟨⟨_, _, _, rfl⟩, fun h0 => absurd h0 (by decide)⟩
  | true =>
    have HE : Hid ((d1, d2) = withP (t, (prAt ls (posP x ls)).2) (dropP x ls)) := by unfold Hid; rw [← HD.out]; unfold renD; rw [hb9]; rfl
    have HR2 : Hid (Rises (dropP x ls) ∧ (dropP x ls).length ≤ 64) := ⟨dropP_rises hR hb9, by have := dropP_len hb9; omega⟩
    rw [hb9] at h
    obtain ⟨pt, HPT⟩ : ∃ pt, Hid ((prAt ls (posP x ls)).2 = pt) := ⟨_, rfl⟩
    rw [HPT.out] at HE
    generalize dropP x ls = dl at *
    clear HD hR
    go_enter Try.func84, Try.ntmps84
    go_wp2_with fail
    refine h.mono ?_
    rintro e w1 ⟨r, a, b, c, rfl, h1, _, hb⟩
    obtain ⟨hc, hbt, ho⟩ := h1 (by first | rfl | trivial)
    rw [HPT.out] at hbt
    subst hc hbt
    obtain ⟨ra, rn, rc, hre⟩ := own_sliceP ho
    subst hre
    have hb1 := below_seq hb0 hb
    have hb' := below_then hb1 (.cells #[.string a, .string b] 46)
    have ho2 : OwnPr (w1.alloc (.cells #[.string a, .string b] 46)) w.heap.size (.slice ra rn rc) dl := World.ownsRow.alloc (ownM_mono ho hs) _
    have hW := withI_any _ (w1.alloc (.cells #[.string a, .string b] 46)) (.slice ra rn rc) dl t b HR2.out.2 HR2.out.1 (Nat.le_refl _) (ownM_rd ho2)
    rw [← HE.out] at hW
    obtain ⟨q0, q1⟩ := two_cellsL hb
    have s1 := cell_on (below_alloc w1 (.cells #[.string a, .string b] 46)) q1
    have hsz : w.heap.size ≤ (w1.alloc (.cells #[.string a, .string b] 46)).heap.size := hb'.size
    have hbe : Hid (b = b) := rfl
    clear h h1 hb ho ho2 q0
    go_wp2_with fail
    refine hW.mono ?_
    rintro e w2 ⟨r2, rfl, ho3, hb3⟩
    obtain ⟨ra2, rn2, rc2, hre⟩ := own_sliceP ho3
    subst hre
    have ho4 : OwnPr w2 w.heap.size (.slice ra2 rn2 rc2) d2 := ownM_mono ho3 hsz
    have hb4 := below_seq hb' hb3
    clear hW ho3 hb3
    go_wp2_with fail
    go_ret2
    exact ⟨_, rfl, ⟨⟨_, _, _, rfl⟩, fun _ => ho4⟩, hb4⟩

theorem renD_doP {x t u : ByteArray} {ls : List Pr} (hR : Rises ls) (hl : ls.length ≤ 64) (hne : eqN x t = false) : renD x t ls = doP (1, x, t, u) ls := by
  unfold renD doP
  simp only [if_true]
  cases h1 : hasP x ls with
  | false => rfl
  | true =>
    have hd := dropP_len h1
    have h2 := hasP_drop hR h1 hne
    rw [if_pos rfl, Bool.true_and]
    unfold withP
    show (if hasP t (dropP x ls) then _ else _) = _
    rw [h2]
    cases hasP t ls with
    | true => rfl
    | false =>
      rw [if_neg Bool.false_ne_true, if_neg (by omega)]
      rfl
end Go.Proofs.Ytagnpahkhaighaa
