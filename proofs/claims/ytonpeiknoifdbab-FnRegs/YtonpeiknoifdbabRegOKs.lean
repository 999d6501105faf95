/- Registers: what regOK, stampedOK and the specification's l03RegOK answer. -/
import Derived.Test.YtonpeiknoifdbabWordOKs
namespace Go.Proofs.Ytonpeiknoifdbab
open Go.RowKit
set_option linter.unusedVariables false

set_option maxHeartbeats 400000 in
theorem regStamp_any (t a : Int) (s : ByteArray) (w : World) :
    Calls Try.prog 92 #[.agg #[.int .i64 t, .int .i64 a, .string s]] w fun e w' => e = .returned (.agg #[.int .i64 t, .int .i64 a]) ∧ Below w.heap.size w w' := by
  go_enter Try.func92, Try.ntmps92
  go_wp2_with fail
  exact bodyPost_ret (v := .agg #[.int .i64 t, .int .i64 a]) (by simp [results, Try.results92, go_sem]) rfl ⟨rfl, below_then (below_alloc _ _) _⟩

set_option maxHeartbeats 400000 in
theorem regText_any (t a : Int) (s : ByteArray) (w : World) :
    Calls Try.prog 93 #[.agg #[.int .i64 t, .int .i64 a, .string s]] w fun e w' => e = .returned (.string s) ∧ Below w.heap.size w w' := by
  go_enter Try.func93, Try.ntmps93
  go_wp2_with fail
  go_ret
  exact ⟨rfl, below_alloc _ _⟩

set_option maxHeartbeats 1000000 in
set_option maxRecDepth 100000 in
theorem stampedOK_any (t a : Int) (s : ByteArray) (w : World) :
    Calls Try.prog 61 #[.agg #[.int .i64 t, .int .i64 a, .string s]] w fun e w' => e = .returned (.bool (stOK t a && decide (s.size ≤ 200))) ∧ Below w.heap.size w w' := by
  cases ho : stOK t a with
  | true =>
    have hO := fun w => ho ▸ implStampOK_any t a w
    clear ho
    go_enter Try.func61, Try.ntmps61
    go_wp2_with ((first | (go_at_call 92; refine (regStamp_any t a s _).mono ?_; rintro e w1 ⟨rfl, hB⟩) | (go_at_call 68; refine (hO _).mono ?_; rintro e w2 ⟨rfl, hb2⟩; replace hB := below_seq hB hb2; obtain ⟨c0, c1, c2⟩ := three_cells hB) | (go_at_call 93; refine (regText_any t a s _).mono ?_; clear c0 c1 c2; rintro e w3 ⟨rfl, hb3⟩; replace hB := below_seq hB hb3) | (go_at_call 70; refine (isWord_any s _).mono ?_; rintro e w4 ⟨rfl, hw⟩; obtain rfl := hw.symm)))
    go_ret
    exact ⟨by simp, below_seq (below_alloc _ _) hB⟩
  | false =>
    have hO := fun w => ho ▸ implStampOK_any t a w
    clear ho
    go_enter Try.func61, Try.ntmps61
    go_wp2_with ((first | (go_at_call 92; refine (regStamp_any t a s _).mono ?_; rintro e w1 ⟨rfl, hB⟩) | (go_at_call 68; refine (hO _).mono ?_; rintro e w2 ⟨rfl, hb2⟩; replace hB := below_seq hB hb2)))
    go_ret
    exact ⟨by simp, below_seq (below_alloc _ _) hB⟩

/-- A register is valid. -/
def rgOK (t a : Int) (s : ByteArray) : Bool := if t = 0 ∧ a = 0 then decide (s.toList = []) else stOK t a && decide (s.size ≤ 200)

set_option maxHeartbeats 1000000 in
set_option maxRecDepth 100000 in
theorem regOK_any (t a : Int) (s : ByteArray) (w : World) :
    Calls Try.prog 32 #[.agg #[.int .i64 t, .int .i64 a, .string s]] w fun e w' => e = .returned (.bool (rgOK t a s)) ∧ Below w.heap.size w w' := by
  go_enter Try.func32, Try.ntmps32
  go_wp2_with ((go_at_call 61; refine (stampedOK_any _ _ s _).mono ?_; rintro e w1 ⟨rfl, hb⟩))
  all_goals go_ret
  all_goals first | exact ⟨by simp [rgOK, *], below_alloc _ _⟩ | exact ⟨by simp [rgOK, stOK, *], below_seq (below_alloc _ _) hb⟩

set_option maxHeartbeats 400000 in
theorem noneR_any (t a : Int) (w : World) :
    Calls Try.prog 53 #[.agg #[.int .i64 t, .int .i64 a]] w fun e w' => e = .returned (.bool (decide (t = 0 ∧ a = 0))) ∧ Below w.heap.size w w' := by
  go_enter Try.func53, Try.ntmps53
  go_wp2_with fail
  all_goals go_ret
  all_goals refine ⟨?_, below_alloc _ _⟩
  all_goals first | (simp [*]; done) | (simp [*]; rw [Bool.eq_iff_iff]; simp)

set_option maxHeartbeats 1000000 in
set_option maxRecDepth 100000 in
theorem specRegOK_any (t a : Int) (s : ByteArray) (w : World) :
    Calls Try.prog 34 #[.agg #[.int .i64 t, .int .i64 a, .string s]] w fun e w' => e = .returned (.bool (rgOK t a s)) ∧ Below w.heap.size w w' := by
  by_cases h0 : t = 0 ∧ a = 0
  · have hZ := fun w => noneR_any t a w
    rw [decide_eq_true h0] at hZ
    have HR : Hid (rgOK t a s = decide (s.toList = [])) := if_pos h0
    clear h0
    go_enter Try.func34, Try.ntmps34
    go_wp2_with ((go_at_call 53; refine (hZ _).mono ?_; rintro e w1 ⟨rfl, hB⟩; obtain ⟨c0, c1, c2⟩ := three_cells hB))
    all_goals go_ret
    all_goals exact ⟨by rw [HR.out]; simp; rw [Bool.eq_iff_iff]; simp, below_seq (below_alloc _ _) hB⟩
  · have hZ := fun w => noneR_any t a w
    rw [decide_eq_false h0] at hZ
    have hO := fun w => specStampOK_any t a w
    have HR : Hid (rgOK t a s = (stOK t a && decide (s.size ≤ 200))) := if_neg h0
    clear h0
    cases ho : stOK t a
    all_goals
      rw [ho] at hO HR
      clear ho
      go_enter Try.func34, Try.ntmps34
      go_wp2_with ((first | (go_at_call 53; refine (hZ _).mono ?_; rintro e w1 ⟨rfl, hB⟩; obtain ⟨c0, c1, c2⟩ := three_cells hB) | (go_at_call 24; refine (hO _).mono ?_; clear c0 c1 c2; rintro e w2 ⟨rfl, hb2⟩; replace hB := below_seq hB hb2; obtain ⟨c0, c1, c2⟩ := three_cells hB)))
      all_goals go_ret
      all_goals exact ⟨by rw [HR.out]; simp <;> omega, below_seq (below_alloc _ _) hB⟩

set_option maxHeartbeats 1000000 in
set_option maxRecDepth 100000 in
theorem isNaNText_any (x : ByteArray) (w : World) :
    Calls Try.prog 71 #[.string x] w fun e w' => e = .returned (.bool false) ∧ w' = w := by
  go_enter Try.func71, Try.ntmps71
  go_wp2_with fail
  go_ret
  simp

/-- How two texts stand to one another. -/
def lessT (x y : ByteArray) : Bool := Op.bytesLess x.toList y.toList
def cmpT (x y : ByteArray) : Int := if Op.bytesLess x.toList y.toList = true then -1 else if (x.toList == y.toList) = true then 0 else 1

set_option maxHeartbeats 1000000 in
set_option maxRecDepth 100000 in
theorem cmpText_any (x y : ByteArray) (w : World) :
    Calls Try.prog 63 #[.string x, .string y] w fun e w' => e = .returned (.int .i64 (cmpT x y)) ∧ w' = w := by
  go_enter Try.func63, Try.ntmps63
  go_wp2_with ((go_at_call 71; refine (isNaNText_any _ _).mono ?_; rintro e w1 ⟨rfl, rfl⟩))
  all_goals go_ret
  all_goals exact ⟨by simp_all [cmpT], rfl⟩

end Go.Proofs.Ytonpeiknoifdbab
