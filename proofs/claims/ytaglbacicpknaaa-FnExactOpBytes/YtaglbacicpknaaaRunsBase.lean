/- Runs of numbers and their bytes: plain facts. -/
import Derived.Test.YtaglbacicpknaaaBase
namespace Go.Proofs.Ytaglbacicpknaaa
open Go.RowKit
set_option linter.unusedVariables false

def nth (ls : List Int) (k : Nat) : Int := ls.getD k 0
theorem nth_get {ls : List Int} {k : Nat} (h : k < ls.length) : nth ls k = ls[k] := by simp [nth, h]
/-- All numbers within their bounds. -/
def runsOK (ls : List Int) : Bool := ls.all fun v => decide (0 ≤ v ∧ v ≤ 1152921504606846975)
theorem runsOK_nth {ls : List Int} (h : runsOK ls = true) (k : Nat) : 0 ≤ nth ls k ∧ nth ls k ≤ 1152921504606846975 := by
  by_cases hk : k < ls.length
  · rw [nth_get hk]
    have := List.all_eq_true.1 h ls[k] (List.getElem_mem hk)
    simpa using this
  · have : nth ls k = 0 := by simp [nth, hk]
    rw [this]; omega
theorem runsOK_of {ls : List Int} (h : ∀ k, k < ls.length → 0 ≤ nth ls k ∧ nth ls k ≤ 1152921504606846975) : runsOK ls = true := by
  unfold runsOK
  rw [List.all_eq_true]
  intro v hv
  obtain ⟨k, hk, rfl⟩ := List.getElem_of_mem hv
  have := h k hk
  rw [nth_get hk] at this
  simpa using this
theorem runsOK_not {ls : List Int} {k : Nat} (hk : k < ls.length) (h : ¬ (0 ≤ nth ls k ∧ nth ls k ≤ 1152921504606846975)) : runsOK ls = false := by
  cases e : runsOK ls with
  | false => rfl
  | true => exact absurd (runsOK_nth e k) h

/-- Whether the run that begins at i goes on at k. -/
def goesOn (ls : List Int) (i k : Nat) : Bool := decide (k < ls.length) && (decide (k = i + 1) || decide (nth ls k - nth ls (k - 1) = nth ls (i + 1) - nth ls i))
def extF (ls : List Int) (i : Nat) : Nat → Nat → Nat
  | 0, _ => 0
  | f + 1, k => if goesOn ls i k then extF ls i f (k + 1) + 1 else 0
/-- Where the run that begins at i ends. -/
def runEnd (ls : List Int) (i : Nat) : Nat := (i + 1) + extF ls i ls.length (i + 1)
theorem goesOn_lt {ls : List Int} {i k : Nat} (h : goesOn ls i k = true) : k < ls.length := by
  simp [goesOn] at h; exact h.1
theorem ext_step {ls : List Int} {i k f E : Nat} (h : goesOn ls i k = true) (hf : ls.length - k ≤ f) (hE : E = k + extF ls i f k) : ∃ f', ls.length - (k + 1) ≤ f' ∧ E = (k + 1) + extF ls i f' (k + 1) := by
  have := goesOn_lt h
  obtain ⟨f, rfl⟩ : ∃ f', f = f' + 1 := ⟨f - 1, by omega⟩
  refine ⟨f, by omega, ?_⟩
  rw [hE, extF, if_pos h]
  omega
theorem ext_stop {ls : List Int} {i k f E : Nat} (h : goesOn ls i k = false) (hE : E = k + extF ls i f k) : E = k := by
  rw [hE]
  cases f with
  | zero => rfl
  | succ f => rw [extF, if_neg (by rw [h]; decide)]; omega
theorem ext_le (ls : List Int) (i : Nat) : ∀ f k, k ≤ ls.length → k + extF ls i f k ≤ ls.length := by
  intro f
  induction f with
  | zero => intro k hk; simpa [extF] using hk
  | succ f ih =>
    intro k hk
    simp only [extF]
    split
    · rename_i h
      have := ih (k + 1) (goesOn_lt h)
      omega
    · omega
theorem runEnd_bd {ls : List Int} {i : Nat} (h : i < ls.length) : i + 1 ≤ runEnd ls i ∧ runEnd ls i ≤ ls.length := by
  unfold runEnd
  exact ⟨by omega, ext_le ls i ls.length (i + 1) h⟩

theorem ext_enough (ls : List Int) (i : Nat) : ∀ f f' k, ls.length - k ≤ f → ls.length - k ≤ f' → extF ls i f k = extF ls i f' k := by
  intro f
  induction f with
  | zero =>
    intro f' k h h'
    have hg : goesOn ls i k = false := by simp [goesOn]; omega
    cases f' with
    | zero => rfl
    | succ f' => rw [extF, extF, if_neg (by rw [hg]; decide)]
  | succ f ih =>
    intro f' k h h'
    cases f' with
    | zero =>
      have hg : goesOn ls i k = false := by simp [goesOn]; omega
      rw [extF, extF, if_neg (by rw [hg]; decide)]
    | succ f' => rw [extF, extF, ih f' (k + 1) (by omega) (by omega)]
theorem nth_drop (ls : List Int) (i k : Nat) : nth (ls.drop i) k = nth ls (i + k) := by simp [nth]
theorem goesOn_drop (ls : List Int) (i k : Nat) (hk : 1 ≤ k) : goesOn (ls.drop i) 0 k = goesOn ls i (i + k) := by
  unfold goesOn
  rw [nth_drop, nth_drop, nth_drop, nth_drop, List.length_drop, show i + (k - 1) = i + k - 1 by omega]
  rw [show decide (k < ls.length - i) = decide (i + k < ls.length) from decide_eq_decide.2 (by omega), show decide (k = 0 + 1) = decide (i + k = i + 1) from decide_eq_decide.2 (by omega), Nat.zero_add, Nat.add_zero i]
theorem ext_drop (ls : List Int) (i : Nat) : ∀ f k, 1 ≤ k → extF (ls.drop i) 0 f k = extF ls i f (i + k) := by
  intro f
  induction f with
  | zero => intro k _; rfl
  | succ f ih =>
    intro k hk
    rw [extF, extF, goesOn_drop ls i k hk, ih (k + 1) (by omega)]
    rfl
theorem runEnd_drop (ls : List Int) (i : Nat) (h : i < ls.length) : runEnd (ls.drop i) 0 = runEnd ls i - i := by
  unfold runEnd
  rw [ext_drop ls i _ (0 + 1) (by omega), List.length_drop, ext_enough ls i (ls.length - i) ls.length (i + (0 + 1)) (by omega) (by omega), Nat.zero_add]
  omega
theorem runsOK_drop {ls : List Int} (h : runsOK ls = true) (i : Nat) : runsOK (ls.drop i) = true :=
  runsOK_of (fun k _ => by rw [nth_drop]; exact runsOK_nth h (i + k))
theorem runsOK_take {ls : List Int} (h : runsOK ls = true) (n : Nat) : runsOK (ls.take n) = true := by
  unfold runsOK at h ⊢
  rw [List.all_eq_true] at h ⊢
  intro v hv
  exact h v (List.mem_of_mem_take hv)

/-- A number for an amount. -/
def foldS (d : Int) : Nat := if d < 0 then (-2 * d - 1).toNat else (2 * d).toNat
theorem foldS_le {d : Int} (h0 : -1152921504606846975 ≤ d) (h1 : d ≤ 1152921504606846975) : foldS d ≤ 4611686018427387903 := by
  unfold foldS; split <;> omega
/-- The bytes of the run from i to e. -/
def runPiece (ls : List Int) (i e : Nat) : List Int := enc (nth ls i).toNat ++ enc (e - i) ++ (if 1 < e - i then enc (foldS (nth ls (i + 1) - nth ls i)) else [])
theorem nth_take {ls : List Int} {n k : Nat} (h : k < n) : nth (ls.take n) k = nth ls k := by simp [nth, h]
theorem piece_cut {ls : List Int} {i e : Nat} (hi : i < e) (he : e ≤ ls.length) :
    enc (nth ((ls.drop i).take (e - i)) 0).toNat ++ enc ((ls.drop i).take (e - i)).length ++ (if 1 < ((ls.drop i).take (e - i)).length then enc (foldS (nth ((ls.drop i).take (e - i)) 1 - nth ((ls.drop i).take (e - i)) 0)) else []) = runPiece ls i e := by
  have hl : ((ls.drop i).take (e - i)).length = e - i := by simp; omega
  rw [hl, nth_take (by omega), nth_drop, Nat.add_zero]
  unfold runPiece
  split
  · rw [nth_take (by omega), nth_drop]
  · rfl
def putRF (ls : List Int) : Nat → Nat → List Int
  | 0, _ => []
  | f + 1, i => if i < ls.length then runPiece ls i (runEnd ls i) ++ putRF ls f (runEnd ls i) else []
/-- What PutRuns writes. -/
def putR (ls : List Int) : List Int := enc ls.length ++ putRF ls ls.length 0
theorem runPiece_len {ls : List Int} (h : runsOK ls = true) (hl : ls.length ≤ 4096) (i : Nat) (hi : i < ls.length) : (runPiece ls i (runEnd ls i)).length ≤ 30 := by
  have h1 := runsOK_nth h i
  have h2 := runsOK_nth h (i + 1)
  have h3 := runEnd_bd hi
  have e1 := enc_len (n := (nth ls i).toNat) (by omega)
  have e2 := enc_len (n := runEnd ls i - i) (by omega)
  have e3 := enc_len (n := foldS (nth ls (i + 1) - nth ls i)) (by have := foldS_le (d := nth ls (i + 1) - nth ls i) (by omega) (by omega); omega)
  unfold runPiece
  simp only [List.length_append]
  split
  · omega
  · simp; omega
theorem putRF_len {ls : List Int} (h : runsOK ls = true) (hl : ls.length ≤ 4096) : ∀ f i, (putRF ls f i).length ≤ 30 * f := by
  intro f
  induction f with
  | zero => intro i; simp [putRF]
  | succ f ih =>
    intro i
    simp only [putRF]
    split
    · rename_i hi
      have := ih (runEnd ls i)
      have := runPiece_len h hl i hi
      simp only [List.length_append]
      omega
    · simp
theorem putR_len {ls : List Int} (h : runsOK ls = true) (hl : ls.length ≤ 4096) : (putR ls).length ≤ 122890 := by
  have := putRF_len h hl ls.length 0
  have := enc_len (n := ls.length) (by omega)
  unfold putR
  simp only [List.length_append]
  omega
theorem putR_step {ls : List Int} {i f : Nat} {X : List Int} (hi : i < ls.length) (hf : ls.length - i ≤ f) (hE : X ++ putRF ls f i = putR ls) : ∃ f', ls.length - runEnd ls i ≤ f' ∧ (X ++ runPiece ls i (runEnd ls i)) ++ putRF ls f' (runEnd ls i) = putR ls := by
  obtain ⟨f, rfl⟩ : ∃ f', f = f' + 1 := ⟨f - 1, by omega⟩
  have := runEnd_bd hi
  refine ⟨f, by omega, ?_⟩
  rw [← hE, putRF, if_pos hi, List.append_assoc]
theorem putR_stop {ls : List Int} {i f : Nat} {X : List Int} (hi : ls.length ≤ i) (hE : X ++ putRF ls f i = putR ls) : X = putR ls := by
  rw [← hE]
  cases f with
  | zero => simp [putRF]
  | succ f => rw [putRF, if_neg (by omega), List.append_nil]

/-- What PutRuns answers: bytes and a code. -/
def putRunsB (ls : List Int) : List Int := if ls.length ≤ 4096 ∧ runsOK ls = true then putR ls else []
def putRunsC (ls : List Int) : Int := if ls.length ≤ 4096 then (if runsOK ls = true then 0 else 4) else 2
theorem putRuns_long {ls : List Int} (h : ¬ ls.length ≤ 4096) : putRunsB ls = [] ∧ putRunsC ls = 2 := by simp [putRunsB, putRunsC, h]
theorem putRuns_bad {ls : List Int} (h : ls.length ≤ 4096) (h2 : runsOK ls = false) : putRunsB ls = [] ∧ putRunsC ls = 4 := by simp [putRunsB, putRunsC, h, h2]
theorem putRuns_ok {ls : List Int} (h : ls.length ≤ 4096) (h2 : runsOK ls = true) : putRunsB ls = putR ls ∧ putRunsC ls = 0 := by simp [putRunsB, putRunsC, h, h2]
theorem putRunsB_len (ls : List Int) : (putRunsB ls).length ≤ 122890 := by
  unfold putRunsB
  split
  · rename_i h; exact putR_len h.2 h.1
  · simp
end Go.Proofs.Ytaglbacicpknaaa
