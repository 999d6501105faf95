/- What both functions RegJoin answer. -/
import Derived.Test.YtonpeiknoifdbabRegGreater
namespace Go.Proofs.Ytonpeiknoifdbab
open Go.RowKit
set_option linter.unusedVariables false

/-- The greater of two registers; what both functions RegJoin answer. -/
def rGr (t a : Int) (s : ByteArray) (t' a' : Int) (s' : ByteArray) : Value := if lessR t a s t' a' s' = true then .agg #[.int .i64 t', .int .i64 a', .string s'] else .agg #[.int .i64 t, .int .i64 a, .string s]
def rZero : Value := .tuple #[.agg #[.int .i64 0, .int .i64 0, .string ⟨#[]⟩], .int .i64 1]
def rJoin (t a : Int) (s : ByteArray) (t' a' : Int) (s' : ByteArray) : Value := if (rgOK t a s && rgOK t' a' s') = true then .tuple #[rGr t a s t' a' s', .int .i64 0] else rZero
theorem rGr_agg (t a : Int) (s : ByteArray) (t' a' : Int) (s' : ByteArray) : ∃ x y z, rGr t a s t' a' s' = .agg #[.int .i64 x, .int .i64 y, .string z] := by
  unfold rGr
  split
  · exact ⟨_, _, _, rfl⟩
  · exact ⟨_, _, _, rfl⟩
theorem lessS_def (t a t' a' : Int) : lessS t a t' a' = decide (t < t' ∨ t = t' ∧ a < a') := rfl
theorem cmpS_neg (t a t' a' : Int) : cmpS t a t' a' < 0 ↔ t < t' ∨ t = t' ∧ a < a' := by
  have := cmpS_less t a t' a'
  unfold lessS at this
  exact decide_eq_decide.1 this
theorem cmpS_zero (t a t' a' : Int) : cmpS t a t' a' = 0 ↔ t = t' ∧ a = a' := by
  unfold cmpS orI
  split
  · rename_i h
    rw [cmpI_zero] at h ⊢
    simp [h]
  · rename_i h
    rw [cmpI_zero] at h ⊢
    constructor
    · intro e; exact absurd e h
    · intro e; exact e.1
theorem cmpT_neg (x y : ByteArray) : cmpT x y < 0 ↔ Op.bytesLess x.toList y.toList = true := by
  unfold cmpT
  split
  · rename_i h; simp [h]
  · rename_i h
    split <;> simp_all
theorem lessR_iff (t a : Int) (s : ByteArray) (t' a' : Int) (s' : ByteArray) : lessR t a s t' a' s' = true ↔ (t < t' ∨ t = t' ∧ a < a') ∨ (t = t' ∧ a = a') ∧ Op.bytesLess s.toList s'.toList = true := by
  unfold lessR orI
  rw [decide_eq_true_eq]
  split
  · rename_i h
    rw [cmpT_neg]
    have := (cmpS_zero _ _ _ _).1 h
    constructor
    · intro e; exact .inr ⟨this, e⟩
    · rintro (e | e)
      · omega
      · exact e.2
  · rename_i h
    rw [cmpS_neg]
    have := mt (cmpS_zero _ _ _ _).2 h
    constructor
    · intro e; exact .inl e
    · rintro (e | e)
      · exact e
      · exact absurd e.1 this

set_option maxHeartbeats 2000000 in
set_option maxRecDepth 100000 in
theorem implRegJoin_any (t a : Int) (s : ByteArray) (t' a' : Int) (s' : ByteArray) (w : World) :
    Calls Try.prog 8 #[.agg #[.int .i64 t, .int .i64 a, .string s], .agg #[.int .i64 t', .int .i64 a', .string s']] w fun e w' => e = .returned (rJoin t a s t' a' s') ∧ Below w.heap.size w w' := by
  have hB := Below.refl (((w.alloc (.cells #[.int .i64 t, .int .i64 a, .string s] 26)).alloc (.cells #[.int .i64 t', .int .i64 a', .string s'] 26)).alloc (.cells #[.int .i64 0, .int .i64 0, .string ⟨#[]⟩] 26)).heap.size (((w.alloc (.cells #[.int .i64 t, .int .i64 a, .string s] 26)).alloc (.cells #[.int .i64 t', .int .i64 a', .string s'] 26)).alloc (.cells #[.int .i64 0, .int .i64 0, .string ⟨#[]⟩] 26))
  have h1 := fun w => regOK_any t a s w
  have h2 := fun w => regOK_any t' a' s' w
  cases e1 : rgOK t a s with
  | false =>
    have HJ : Hid (rJoin t a s t' a' s' = .tuple #[.agg #[.int .i64 0, .int .i64 0, .string ⟨#[]⟩], .int .i64 1]) := if_neg (by simp [e1])
    rw [e1] at h1
    clear e1 h2
    go_enter Try.func8, Try.ntmps8
    go_wp2_with fail
    refine (h1 _).mono ?_
    rintro e w1 ⟨rfl, hb⟩
    replace hB := below_seq hB hb
    clear hb
    obtain ⟨⟨c0, c1, c2, d0, d1, d2⟩, ⟨e0, e1, e2⟩, hf⟩ := nine_cells hB
    have HT : Hid (Tr _ _ _ _ _) := ⟨⟨e0, e1, e2⟩, hf⟩
    have f0 := hf 0
    have f1 := hf 1
    have f2 := hf 2
    go_wp2_with fail
    have hp := (HT.out.put (.int .i64 0) (.int .i64 0) (.string ⟨#[]⟩)).1
    refine bodyPost_ret (v := rJoin t a s t' a' s') ?_ rfl ⟨rfl, below_put (below_seq (below_then (below_then (below_alloc _ _) _) _) hB) (by omega) _ _ _⟩
    rw [HJ.out]
    simp [results, Try.results8, go_sem, hp.1, hp.2.1, hp.2.2]
  | true =>
    cases e2 : rgOK t' a' s' with
    | false =>
      have HJ : Hid (rJoin t a s t' a' s' = .tuple #[.agg #[.int .i64 0, .int .i64 0, .string ⟨#[]⟩], .int .i64 1]) := if_neg (by simp [e1, e2])
      rw [e1] at h1
      rw [e2] at h2
      clear e1 e2
      go_enter Try.func8, Try.ntmps8
      go_wp2_with fail
      refine (h1 _).mono ?_
      rintro e w1 ⟨rfl, hb⟩
      replace hB := below_seq hB hb
      clear hb
      obtain ⟨⟨c0, c1, c2, d0, d1, d2⟩, ⟨e0, e1, e2⟩, hf⟩ := nine_cells hB
      go_wp2_with fail
      refine (h2 _).mono ?_
      clear c0 c1 c2 d0 d1 d2 e0 e1 e2 hf
      rintro e w2 ⟨rfl, hb⟩
      replace hB := below_seq hB hb
      clear hb
      obtain ⟨⟨c0, c1, c2, d0, d1, d2⟩, ⟨e0, e1, e2⟩, hf⟩ := nine_cells hB
      have HT : Hid (Tr _ _ _ _ _) := ⟨⟨e0, e1, e2⟩, hf⟩
      have f0 := hf 0
      have f1 := hf 1
      have f2 := hf 2
      go_wp2_with fail
      have hp := (HT.out.put (.int .i64 0) (.int .i64 0) (.string ⟨#[]⟩)).1
      refine bodyPost_ret (v := rJoin t a s t' a' s') ?_ rfl ⟨rfl, below_put (below_seq (below_then (below_then (below_alloc _ _) _) _) hB) (by omega) _ _ _⟩
      rw [HJ.out]
      simp [results, Try.results8, go_sem, hp.1, hp.2.1, hp.2.2]
    | true =>
      have hj : rJoin t a s t' a' s' = .tuple #[rGr t a s t' a' s', .int .i64 0] := if_pos (by simp [e1, e2])
      have hG := fun w => greater_any t a s t' a' s' w
      replace hG : ∀ w, Calls Try.prog 33 #[.agg #[.int .i64 t, .int .i64 a, .string s], .agg #[.int .i64 t', .int .i64 a', .string s']] w fun e w' => e = .returned (rGr t a s t' a' s') ∧ Below w.heap.size w w' := hG
      obtain ⟨x, y, z, hx⟩ := rGr_agg t a s t' a' s'
      rw [hx] at hG hj
      have HJ : Hid _ := hj
      rw [e1] at h1
      rw [e2] at h2
      clear e1 e2 hx hj
      go_enter Try.func8, Try.ntmps8
      go_wp2_with fail
      refine (h1 _).mono ?_
      rintro e w1 ⟨rfl, hb⟩
      replace hB := below_seq hB hb
      clear hb
      obtain ⟨⟨c0, c1, c2, d0, d1, d2⟩, ⟨e0, e1, e2⟩, hf⟩ := nine_cells hB
      go_wp2_with fail
      refine (h2 _).mono ?_
      clear c0 c1 c2 d0 d1 d2 e0 e1 e2 hf
      rintro e w2 ⟨rfl, hb⟩
      replace hB := below_seq hB hb
      clear hb
      obtain ⟨⟨c0, c1, c2, d0, d1, d2⟩, ⟨e0, e1, e2⟩, hf⟩ := nine_cells hB
      go_wp2_with fail
      refine (hG _).mono ?_
      clear c0 c1 c2 d0 d1 d2 e0 e1 e2 hf
      rintro e w3 ⟨rfl, hb⟩
      replace hB := below_seq hB hb
      clear hb
      obtain ⟨⟨c0, c1, c2, d0, d1, d2⟩, ⟨e0, e1, e2⟩, hf⟩ := nine_cells hB
      have HT : Hid (Tr _ _ _ _ _) := ⟨⟨e0, e1, e2⟩, hf⟩
      have f0 := hf 0
      have f1 := hf 1
      have f2 := hf 2
      go_wp2_with fail
      have hp := (HT.out.put (.int .i64 x) (.int .i64 y) (.string z)).1
      refine bodyPost_ret (v := rJoin t a s t' a' s') ?_ rfl ⟨rfl, below_put (below_seq (below_then (below_then (below_alloc _ _) _) _) hB) (by omega) _ _ _⟩
      rw [HJ.out]
      simp [results, Try.results8, go_sem, hp.1, hp.2.1, hp.2.2]

set_option maxHeartbeats 2000000 in
set_option maxRecDepth 100000 in
theorem specRegJoin_any (t a : Int) (s : ByteArray) (t' a' : Int) (s' : ByteArray) (w : World) :
    Calls Try.prog 9 #[.agg #[.int .i64 t, .int .i64 a, .string s], .agg #[.int .i64 t', .int .i64 a', .string s']] w fun e w' => e = .returned (rJoin t a s t' a' s') ∧ Below w.heap.size w w' := by
  have hB := Below.refl (((w.alloc (.cells #[.int .i64 t, .int .i64 a, .string s] 26)).alloc (.cells #[.int .i64 t', .int .i64 a', .string s'] 26)).alloc (.cells #[.int .i64 0, .int .i64 0, .string ⟨#[]⟩] 26)).heap.size (((w.alloc (.cells #[.int .i64 t, .int .i64 a, .string s] 26)).alloc (.cells #[.int .i64 t', .int .i64 a', .string s'] 26)).alloc (.cells #[.int .i64 0, .int .i64 0, .string ⟨#[]⟩] 26))
  have h1 := fun w => specRegOK_any t a s w
  have h2 := fun w => specRegOK_any t' a' s' w
  cases e1 : rgOK t a s with
  | false =>
    have HJ : Hid (rJoin t a s t' a' s' = .tuple #[.agg #[.int .i64 0, .int .i64 0, .string ⟨#[]⟩], .int .i64 1]) := if_neg (by simp [e1])
    rw [e1] at h1
    clear e1 h2
    go_enter Try.func9, Try.ntmps9
    go_wp2_with fail
    refine (h1 _).mono ?_
    rintro e w1 ⟨rfl, hb⟩
    replace hB := below_seq hB hb
    clear hb
    obtain ⟨⟨c0, c1, c2, d0, d1, d2⟩, ⟨e0, e1, e2⟩, hf⟩ := nine_cells hB
    have HT : Hid (Tr _ _ _ _ _) := ⟨⟨e0, e1, e2⟩, hf⟩
    have f0 := hf 0
    have f1 := hf 1
    have f2 := hf 2
    go_wp2_with fail
    have hp := (HT.out.put (.int .i64 0) (.int .i64 0) (.string ⟨#[]⟩)).1
    refine bodyPost_ret (v := rJoin t a s t' a' s') ?_ rfl ⟨rfl, below_put (below_seq (below_then (below_then (below_alloc _ _) _) _) hB) (by omega) _ _ _⟩
    rw [HJ.out]
    simp [results, Try.results9, go_sem, hp.1, hp.2.1, hp.2.2]
  | true =>
    cases e2 : rgOK t' a' s' with
    | false =>
      have HJ : Hid (rJoin t a s t' a' s' = .tuple #[.agg #[.int .i64 0, .int .i64 0, .string ⟨#[]⟩], .int .i64 1]) := if_neg (by simp [e1, e2])
      rw [e1] at h1
      rw [e2] at h2
      clear e1 e2
      go_enter Try.func9, Try.ntmps9
      go_wp2_with fail
      refine (h1 _).mono ?_
      rintro e w1 ⟨rfl, hb⟩
      replace hB := below_seq hB hb
      clear hb
      obtain ⟨⟨c0, c1, c2, d0, d1, d2⟩, ⟨e0, e1, e2⟩, hf⟩ := nine_cells hB
      go_wp2_with fail
      refine (h2 _).mono ?_
      clear c0 c1 c2 d0 d1 d2 e0 e1 e2 hf
      rintro e w2 ⟨rfl, hb⟩
      replace hB := below_seq hB hb
      clear hb
      obtain ⟨⟨c0, c1, c2, d0, d1, d2⟩, ⟨e0, e1, e2⟩, hf⟩ := nine_cells hB
      have HT : Hid (Tr _ _ _ _ _) := ⟨⟨e0, e1, e2⟩, hf⟩
      have f0 := hf 0
      have f1 := hf 1
      have f2 := hf 2
      go_wp2_with fail
      have hp := (HT.out.put (.int .i64 0) (.int .i64 0) (.string ⟨#[]⟩)).1
      refine bodyPost_ret (v := rJoin t a s t' a' s') ?_ rfl ⟨rfl, below_put (below_seq (below_then (below_then (below_alloc _ _) _) _) hB) (by omega) _ _ _⟩
      rw [HJ.out]
      simp [results, Try.results9, go_sem, hp.1, hp.2.1, hp.2.2]
    | true =>
      have hj : rJoin t a s t' a' s' = .tuple #[rGr t a s t' a' s', .int .i64 0] := if_pos (by simp [e1, e2])
      have hI := lessR_iff t a s t' a' s'
      have hL := fun w => specStampLess_any t a t' a' w
      have hl := lessS_def t a t' a'
      rw [e1] at h1
      rw [e2] at h2
      clear e1 e2
      refine if q1 : t < t' ∨ t = t' ∧ a < a' then ?pa else ?pb
      case' pb => refine if q2 : t = t' ∧ a = a' then ?pc else ?pd
      case' pc => cases q3 : Op.bytesLess s.toList s'.toList
      case' pa => (have HJ : Hid (rJoin t a s t' a' s' = .tuple #[.agg #[.int .i64 t', .int .i64 a', .string s'], .int .i64 0]) := by show rJoin t a s t' a' s' = _; rw [hj, rGr, if_pos (hI.2 (.inl q1))]); (rw [hl, decide_eq_true q1] at hL); clear q1
      case' pc.false => (have HJ : Hid (rJoin t a s t' a' s' = .tuple #[.agg #[.int .i64 t, .int .i64 a, .string s], .int .i64 0]) := by show rJoin t a s t' a' s' = _; rw [hj, rGr, if_neg (mt hI.1 (by rintro (e | e); exact q1 e; simp [q3] at e))]); (rw [hl, decide_eq_false q1] at hL); (obtain ⟨rfl, rfl⟩ := q2); clear q1
      case' pc.true => (have HJ : Hid (rJoin t a s t' a' s' = .tuple #[.agg #[.int .i64 t', .int .i64 a', .string s'], .int .i64 0]) := by show rJoin t a s t' a' s' = _; rw [hj, rGr, if_pos (hI.2 (.inr ⟨q2, q3⟩))]); (rw [hl, decide_eq_false q1] at hL); (obtain ⟨rfl, rfl⟩ := q2); clear q1
      case' pd => (have HJ : Hid (rJoin t a s t' a' s' = .tuple #[.agg #[.int .i64 t, .int .i64 a, .string s], .int .i64 0]) := by show rJoin t a s t' a' s' = _; rw [hj, rGr, if_neg (mt hI.1 (by rintro (e | e); exact q1 e; exact q2 e.1))]); (rw [hl, decide_eq_false q1] at hL); clear q1
      case' pd => refine if q4 : t = t' then ?pe else ?pf
      case' pe => (obtain rfl := q4); (have q5 : (a == a') = false := by simpa using fun h => q2 ⟨rfl, h⟩); clear q2
      case' pf => (have q5 : (t == t') = false := by simpa using q4); clear q2 q4
      all_goals
        clear hj hI hl
        go_enter Try.func9, Try.ntmps9
        go_wp2_with fail
        refine (h1 _).mono ?_
        rintro e w1 ⟨rfl, hb⟩
        replace hB := below_seq hB hb
        clear hb
        obtain ⟨⟨c0, c1, c2, d0, d1, d2⟩, ⟨e0, e1, e2⟩, hf⟩ := nine_cells hB
        go_wp2_with fail
        refine (h2 _).mono ?_
        clear c0 c1 c2 d0 d1 d2 e0 e1 e2 hf
        rintro e w2 ⟨rfl, hb⟩
        replace hB := below_seq hB hb
        clear hb
        obtain ⟨⟨c0, c1, c2, d0, d1, d2⟩, ⟨e0, e1, e2⟩, hf⟩ := nine_cells hB
        go_wp2_with fail
        refine (hL _).mono ?_
        clear c0 c1 c2 d0 d1 d2 e0 e1 e2 hf
        rintro e w3 ⟨rfl, hb⟩
        replace hB := below_seq hB hb
        clear hb
        obtain ⟨⟨c0, c1, c2, d0, d1, d2⟩, ⟨e0, e1, e2⟩, hf⟩ := nine_cells hB
        have HT : Hid (Tr _ _ _ _ _) := ⟨⟨e0, e1, e2⟩, hf⟩
        have f0 := hf 0
        have f1 := hf 1
        have f2 := hf 2
        go_wp2_with fail
        all_goals
          first
          | (exfalso; omega)
          | (have hp := (HT.out.put (.int .i64 t') (.int .i64 a') (.string s')).1
             refine bodyPost_ret (v := rJoin t a s t' a' s') ?_ rfl ⟨rfl, below_put (below_seq (below_then (below_then (below_alloc _ _) _) _) hB) (by omega) _ _ _⟩
             rw [HJ.out]
             simp [results, Try.results9, go_sem, hp.1, hp.2.1, hp.2.2]
             done)
          | (have hp := (HT.out.put (.int .i64 t) (.int .i64 a) (.string s)).1
             refine bodyPost_ret (v := rJoin t a s t' a' s') ?_ rfl ⟨rfl, below_put (below_seq (below_then (below_then (below_alloc _ _) _) _) hB) (by omega) _ _ _⟩
             rw [HJ.out]
             simp [results, Try.results9, go_sem, hp.1, hp.2.1, hp.2.2]
             done)
          | (have hp := (HT.out.put (.int .i64 t) (.int .i64 a) (.string s)).1
             refine bodyPost_ret (v := rJoin t a s t a s') ?_ rfl ⟨rfl, below_put (below_seq (below_then (below_then (below_alloc _ _) _) _) hB) (by omega) _ _ _⟩
             rw [HJ.out]
             simp [results, Try.results9, go_sem, hp.1, hp.2.1, hp.2.2]
             done)
          | (have hp := (HT.out.put (.int .i64 t) (.int .i64 a) (.string s)).1
             refine bodyPost_ret (v := rJoin t a s t a' s') ?_ rfl ⟨rfl, below_put (below_seq (below_then (below_then (below_alloc _ _) _) _) hB) (by omega) _ _ _⟩
             rw [HJ.out]
             simp [results, Try.results9, go_sem, hp.1, hp.2.1, hp.2.2]
             done)
          | (have hp := (HT.out.put (.int .i64 t) (.int .i64 a) (.string s')).1
             refine bodyPost_ret (v := rJoin t a s t a s') ?_ rfl ⟨rfl, below_put (below_seq (below_then (below_then (below_alloc _ _) _) _) hB) (by omega) _ _ _⟩
             rw [HJ.out]
             simp [results, Try.results9, go_sem, hp.1, hp.2.1, hp.2.2]
             done)

end Go.Proofs.Ytonpeiknoifdbab
