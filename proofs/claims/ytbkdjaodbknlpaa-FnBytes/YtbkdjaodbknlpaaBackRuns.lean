/- Runs come back from their bytes, with a byte more they do not: plain facts. -/
import Derived.Test.YtbkdjaodbknlpaaBackTexts
import Derived.Test.YtbkdjaodbknlpaaRunsGet
import Derived.Test.YtbkdjaodbknlpaaGetsSpec
namespace Go.Proofs.Ytbkdjaodbknlpaa
open Go.RowKit Go.Lib
set_option linter.unusedVariables false

theorem unf_foldS {d : Int} : unf (foldS d : Int) = d := by
  unfold unf foldS
  split <;> split <;> omega
/-- The step of the first run. -/
def step1 (ls : List Int) : Int := if 1 < runEnd ls 0 then nth ls 1 - nth ls 0 else 0
theorem ext_all (ls : List Int) (i : Nat) : ∀ f j t, j ≤ t → t < j + extF ls i f j → goesOn ls i t = true := by
  intro f
  induction f with
  | zero => intro j t h1 h2; simp [extF] at h2; omega
  | succ f ih =>
    intro j t h1 h2
    simp only [extF] at h2
    split at h2
    · rename_i hg
      by_cases he : t = j
      · subst he; exact hg
      · exact ih (j + 1) t (by omega) (by omega)
    · omega
theorem run_nth {ls : List Int} (j : Nat) : j < runEnd ls 0 → nth ls j = nth ls 0 + (j : Int) * step1 ls := by
  induction j with
  | zero => intro _; simp
  | succ j ih =>
    intro h
    have h1 := ih (by omega)
    have hs : step1 ls = nth ls 1 - nth ls 0 := by unfold step1; rw [if_pos (by omega)]
    have hg := ext_all ls 0 ls.length 1 (j + 1) (by omega) (by unfold runEnd at h; omega)
    unfold goesOn at hg
    simp only [Bool.and_eq_true, decide_eq_true_eq, Bool.or_eq_true] at hg
    rcases hg.2 with h2 | h2
    · obtain rfl : j = 0 := by omega
      rw [hs]
      simp
      omega
    · rw [Nat.add_sub_cancel, Nat.zero_add] at h2
      have e : ((j + 1 : Nat) : Int) * step1 ls = (j : Int) * step1 ls + step1 ls := by rw [Int.natCast_succ, Int.add_mul, Int.one_mul]
      rw [e]
      generalize (j : Int) * step1 ls = x at *
      omega
theorem run_split {ls : List Int} (h : 0 < ls.length) : ls = valsF (runEnd ls 0) (nth ls 0) (step1 ls) ++ ls.drop (runEnd ls 0) := by
  have hb := runEnd_bd h
  apply List.ext_getElem
  · rw [List.length_append, valsF_len, List.length_drop]; omega
  · intro j h1 h2
    by_cases hj : j < runEnd ls 0
    · have e1 := valsF_nth (runEnd ls 0) (nth ls 0) (step1 ls) (ls.drop (runEnd ls 0)) j hj
      rw [nth_get h2] at e1
      have e2 := run_nth (ls := ls) j hj
      rw [nth_get h1] at e2
      rw [e1, e2]
    · rw [List.getElem_append_right (by rw [valsF_len]; omega)]
      simp only [List.getElem_drop, valsF_len]
      congr 1
      omega
theorem okV_of (k : Nat) : ∀ v d, (∀ j, j < k → 0 ≤ v + (j : Int) * d ∧ v + (j : Int) * d ≤ 1152921504606846975) → okV k v d = true := by
  induction k with
  | zero => intro v d _; rfl
  | succ k ih =>
    intro v d h
    have h0 := h 0 (by omega)
    simp only [okV]
    have h1 := ih (v + d) d (fun j hj => by
      have := h (j + 1) (by omega)
      rw [Int.natCast_succ, Int.add_mul, Int.one_mul] at this
      omega)
    simp at h0
    simp [h1]
    omega
theorem oneRun_back {ls xs r : List Int} {p left : Nat} (h : 0 < ls.length) (hok : runsOK ls = true) (hl : ls.length ≤ 4096) (hL : ls.length ≤ left) (hd : xs.drop p = encRun (nth ls 0) (runEnd ls 0) (step1 ls) ++ r) :
    oneRun xs p left = some (nth ls 0, runEnd ls 0, step1 ls, p + (encRun (nth ls 0) (runEnd ls 0) (step1 ls)).length) := by
  have hb := runEnd_bd h
  have hv := runsOK_nth hok 0
  have hv1 := runsOK_nth hok 1
  have hstep : -1152921504606846975 ≤ step1 ls ∧ step1 ls ≤ 1152921504606846975 := by unfold step1; split <;> omega
  have hO : okV (runEnd ls 0) (nth ls 0) (step1 ls) = true := okV_of _ _ _ (fun j hj => by rw [← run_nth j hj]; exact runsOK_nth hok j)
  have hlen : (encRun (nth ls 0) (runEnd ls 0) (step1 ls)).length = (enc (nth ls 0).toNat).length + (enc (runEnd ls 0)).length + (if 1 < runEnd ls 0 then enc (foldS (step1 ls)) else []).length := by simp [encRun, Nat.add_assoc]
  have hs1 : ¬ 1 < runEnd ls 0 → step1 ls = 0 := fun hn => by unfold step1; rw [if_neg hn]
  rw [hlen]
  unfold encRun at hd
  rw [List.append_assoc, List.append_assoc] at hd
  have g1 := getL_back (by omega) hd
  have d1 := drop_more hd
  have g2 := getL_back (by omega) d1
  have d2 := drop_more d1
  generalize step1 ls = d at *
  generalize runEnd ls 0 = k at *
  rw [Int.toNat_of_nonneg hv.1] at g1
  generalize nth ls 0 = v at *
  unfold oneRun
  rw [g1]
  simp only
  rw [g2]
  simp only
  rw [if_neg (by rw [Int.toNat_natCast]; omega), Int.toNat_natCast]
  by_cases hk1 : k = 1
  · rw [if_pos hk1, hs1 (by omega), hk1]
    simp [Nat.add_assoc]
  · rw [if_neg hk1]
    rw [if_pos (by omega)] at d2
    have g3 := getL_back (by have := foldS_le hstep.1 hstep.2; omega) d2
    rw [g3]
    simp only
    rw [unf_foldS, if_pos hO, if_pos (by omega)]
    simp [Nat.add_assoc]
theorem parseS_back {xs r : List Int} : ∀ f (ls : List Int) p, ls.length ≤ f → ls.length ≤ 4096 → runsOK ls = true → xs.drop p = putRF ls ls.length 0 ++ r → parseS xs f ls.length p = some (ls, p + (putRF ls ls.length 0).length) := by
  intro f
  induction f with
  | zero =>
    intro ls p hf _ _ hd
    obtain rfl : ls = [] := List.eq_nil_of_length_eq_zero (by omega)
    simp [parseS, putRF]
  | succ f ih =>
    intro ls p hf h4 hok hd
    by_cases h0 : ls.length = 0
    · obtain rfl : ls = [] := List.eq_nil_of_length_eq_zero h0
      simp [parseS, putRF]
    · have hpos : 0 < ls.length := by omega
      have hb := runEnd_bd hpos
      have hsp := run_split hpos
      have hput : putRF ls ls.length 0 = encRun (nth ls 0) (runEnd ls 0) (step1 ls) ++ putRF (ls.drop (runEnd ls 0)) (ls.drop (runEnd ls 0)).length 0 := by
        have h1 := putRF_run (k := runEnd ls 0) (v := nth ls 0) (d := step1 ls) (T := ls.drop (runEnd ls 0)) (by omega) (by rw [← hsp])
        rw [← hsp] at h1
        exact h1
      rw [hput, List.append_assoc] at hd
      have h1 := oneRun_back hpos hok h4 (Nat.le_refl _) hd
      have h2 := ih (ls.drop (runEnd ls 0)) (p + (encRun (nth ls 0) (runEnd ls 0) (step1 ls)).length) (by rw [List.length_drop]; omega) (by rw [List.length_drop]; omega) (runsOK_drop hok _) (drop_more hd)
      rw [hput]
      rw [List.length_drop] at h2
      simp only [parseS]
      rw [if_neg h0, h1]
      simp only
      rw [h2]
      simp only [Option.some.injEq, Prod.mk.injEq]
      refine ⟨hsp.symm, ?_⟩
      rw [List.length_append, List.length_drop]
      omega
theorem runsL_back {ls r : List Int} (h4 : ls.length ≤ 4096) (hok : runsOK ls = true) : runsL (putR ls ++ r) = some (ls, (putR ls).length) := by
  have h0 : (putR ls ++ r).drop 0 = enc ls.length ++ (putRF ls ls.length 0 ++ r) := by
    rw [List.drop_zero]
    unfold putR
    rw [List.append_assoc]
  unfold runsL
  rw [getL_back (by omega) h0]
  simp only
  rw [if_neg (by omega), Int.toNat_natCast, parseS_back ls.length ls _ (Nat.le_refl _) h4 hok (drop_more h0)]
  simp [putR]
theorem getRuns_back {ls : List Int} (h4 : ls.length ≤ 4096) (hok : runsOK ls = true) : getRuns (putR ls) = some ls := by
  have h := runsL_back (r := []) h4 hok
  rw [List.append_nil] at h
  unfold getRuns
  rw [h]
  simp
theorem getRuns_much {ls : List Int} (h4 : ls.length ≤ 4096) (hok : runsOK ls = true) (c : Int) : getRuns (putR ls ++ [c]) = none := by
  unfold getRuns
  rw [runsL_back h4 hok]
  simp
theorem Bytes.str (s : ByteArray) (k : Nat) : Bytes ((strInts s).drop k) := fun c hc => by
  have h := List.mem_of_mem_drop hc
  unfold strInts at h
  obtain ⟨b, _, rfl⟩ := List.mem_map.1 h
  have := b.toNat_lt
  omega
theorem putN_bytes (ss : List ByteArray) : ∀ k, Bytes (putN ss k) := by
  intro k
  induction k with
  | zero => exact Bytes.enc _
  | succ k ih => exact Bytes.app ih (Bytes.app (Bytes.app (Bytes.enc _) (Bytes.enc _)) (Bytes.str _ _))
theorem Bytes.take {xs : List Int} (h : Bytes xs) (n : Nat) : Bytes (xs.take n) := fun c hc => h c (List.mem_of_mem_take hc)
theorem Bytes.zero : Bytes [0] := fun c hc => by rw [List.mem_singleton.1 hc]; decide
theorem front_last {xs : List Int} (h : 0 < xs.length) : ∃ c, xs = xs.take (xs.length - 1) ++ [c] := by
  refine ⟨xs[xs.length - 1], ?_⟩
  have e := List.take_append_getElem (i := xs.length - 1) (l := xs) (by omega)
  rw [e, List.take_of_length_le (by omega)]
theorem getTexts_front {ss : List ByteArray} (h4 : ss.length ≤ 4096) (ht : tot ss ss.length ≤ 1048576) : getTexts ((putN ss ss.length).take ((putN ss ss.length).length - 1)) = none := by
  obtain ⟨c, hc⟩ := front_last (putN_pos ss)
  exact getTexts_less h4 ht hc
theorem getI_back {n : Nat} (hn : n ≤ 4611686018427387903) : getI (9 :: enc n) 1 = ((n : Int), 1 + ((enc n).length : Int), 0) := by
  have h : (9 :: enc n).drop 1 = enc n ++ [] := by simp
  have g := getL_back hn h
  have e := getI_some (xs := 9 :: enc n) (p := 1) (by simp) g
  rw [show ((1 : Nat) : Int) = 1 from rfl] at e
  rw [e]
  simp

end Go.Proofs.Ytbkdjaodbknlpaa
