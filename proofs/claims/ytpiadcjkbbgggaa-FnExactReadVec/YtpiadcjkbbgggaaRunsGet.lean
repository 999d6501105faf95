/- Runs read from bytes: plain facts. The code's own tests for the shortest form, against writing the numbers again. -/
import Derived.Test.YtpiadcjkbbgggaaRunsBase
import Derived.Test.YtpiadcjkbbgggaaGets
import Derived.Test.YtpiadcjkbbgggaaStr
namespace Go.Proofs.Ytpiadcjkbbgggaa
open Go.RowKit
set_option linter.unusedVariables false

/-- What is read is what was written. -/
theorem getF_enc (xs : List Int) (hx : Bytes xs) : ∀ f i p v a q, getF xs f i p v = some (a, q) → ∃ m : Nat, a = v + (m : Int) * 128 ^ i ∧ (0 < i → 0 < m) ∧ xs.drop p = enc m ++ xs.drop q := by
  intro f
  induction f with
  | zero => intro i p v a q h; simp [getF] at h
  | succ f ih =>
    intro i p v a q h
    by_cases hp : p < xs.length
    · have hb := hx xs[p] (List.getElem_mem hp)
      by_cases hc : xs[p] < 128
      · rw [getF_last hp hc] at h
        split at h
        · simp at h
        · rename_i hn
          simp only [Option.some.injEq, Prod.mk.injEq] at h
          obtain ⟨rfl, rfl⟩ := h
          obtain ⟨m, hm⟩ := Int.eq_ofNat_of_zero_le hb.1
          refine ⟨m, by rw [hm], fun hi => by omega, ?_⟩
          rw [enc_small (by omega), ← hm, List.drop_eq_getElem_cons hp]
          rfl
      · rw [getF_more hp hc] at h
        obtain ⟨m, hm, hpos, hd⟩ := ih _ _ _ _ _ h
        have hm0 := hpos (by omega)
        obtain ⟨c, hcn⟩ := Int.eq_ofNat_of_zero_le hb.1
        have e : 128 ≤ (c - 128) + 128 * m := by omega
        refine ⟨(c - 128) + 128 * m, ?_, fun _ => by omega, ?_⟩
        · rw [hm, pow_step]
          have e1 : xs[p] % 128 = ((c - 128 : Nat) : Int) := by omega
          rw [e1]
          have e2 : (((c - 128) + 128 * m : Nat) : Int) = ((c - 128 : Nat) : Int) + 128 * (m : Int) := by omega
          rw [e2, Int.add_mul, Int.mul_comm 128 (m : Int), Int.mul_assoc, Int.mul_comm 128 ((128 : Int) ^ i), Int.add_assoc]
        · rw [enc_big e, List.drop_eq_getElem_cons hp, hd]
          have e1 : ((c - 128) + 128 * m) / 128 = m := by omega
          have e2 : ((c - 128) + 128 * m) % 128 + 128 = c := by omega
          rw [e1, e2, ← hcn]
          rfl
    · rw [getF_end (by omega)] at h; simp at h
theorem getL_enc {xs : List Int} (hx : Bytes xs) {p q : Nat} {a : Int} (h : getL xs p = some (a, q)) : xs.drop p = enc a.toNat ++ xs.drop q := by
  obtain ⟨m, hm, _, hd⟩ := getF_enc xs hx 9 0 p 0 a q h
  have : a.toNat = m := by rw [hm]; simp
  rw [this]
  exact hd
/-- Numbers are told from what stands behind them. -/
theorem enc_inj (k : Nat) : ∀ a b x y, a ≤ k → enc a ++ x = enc b ++ y → a = b ∧ x = y := by
  induction k with
  | zero =>
    intro a b x y ha h
    obtain rfl : a = 0 := by omega
    by_cases hb : b < 128
    · rw [enc_small (by omega), enc_small hb] at h
      simp only [List.cons_append, List.nil_append, List.cons.injEq] at h
      exact ⟨by omega, h.2⟩
    · rw [enc_small (by omega), enc_big (by omega)] at h
      simp only [List.cons_append, List.nil_append, List.cons.injEq] at h
      omega
  | succ k ih =>
    intro a b x y ha h
    by_cases h1 : a < 128
    · by_cases hb : b < 128
      · rw [enc_small h1, enc_small hb] at h
        simp only [List.cons_append, List.nil_append, List.cons.injEq] at h
        exact ⟨by omega, h.2⟩
      · rw [enc_small h1, enc_big (by omega)] at h
        simp only [List.cons_append, List.nil_append, List.cons.injEq] at h
        omega
    · by_cases hb : b < 128
      · rw [enc_big (by omega), enc_small hb] at h
        simp only [List.cons_append, List.nil_append, List.cons.injEq] at h
        omega
      · rw [enc_big (n := a) (by omega), enc_big (n := b) (by omega)] at h
        simp only [List.cons_append, List.cons.injEq] at h
        obtain ⟨e1, e2⟩ := ih (a / 128) (b / 128) x y (by omega) h.2
        exact ⟨by omega, e2⟩
theorem enc_same {a b : Nat} {x y : List Int} (h : enc a ++ x = enc b ++ y) : a = b ∧ x = y := enc_inj a a b x y (Nat.le_refl _) h
theorem enc_bytes (k : Nat) : ∀ n, n ≤ k → ∀ c ∈ enc n, 0 ≤ c ∧ c ≤ 255 := by
  induction k with
  | zero =>
    intro n hn c hc
    rw [enc_small (by omega)] at hc
    simp at hc
    omega
  | succ k ih =>
    intro n hn c hc
    by_cases h : n < 128
    · rw [enc_small h] at hc
      simp at hc
      omega
    · rw [enc_big (by omega)] at hc
      rcases List.mem_cons.1 hc with rfl | hc
      · omega
      · exact ih (n / 128) (by omega) c hc
theorem Bytes.enc (n : Nat) : Bytes (enc n) := enc_bytes n n (Nat.le_refl _)
theorem Bytes.app {a b : List Int} (ha : Bytes a) (hb : Bytes b) : Bytes (a ++ b) := fun c hc => by
  rcases List.mem_append.1 hc with h | h
  · exact ha c h
  · exact hb c h
theorem putRF_bytes (ls : List Int) : ∀ f i, Bytes (putRF ls f i) := by
  intro f
  induction f with
  | zero => intro i c hc; simp [putRF] at hc
  | succ f ih =>
    intro i
    simp only [putRF]
    split
    · refine Bytes.app ?_ (ih _)
      unfold runPiece
      refine Bytes.app (Bytes.app (Bytes.enc _) (Bytes.enc _)) ?_
      split
      · exact Bytes.enc _
      · intro c hc; simp at hc
    · intro c hc; simp at hc
theorem putR_bytes (ls : List Int) : Bytes (putR ls) := Bytes.app (Bytes.enc _) (putRF_bytes ls _ _)
theorem ofInts_inj {a b : List Int} (ha : Bytes a) (hb : Bytes b) (h : ofInts a = ofInts b) : a = b := by
  have h1 : (a.map fun n => UInt8.ofNat n.toNat) = (b.map fun n => UInt8.ofNat n.toNat) := by
    have := congrArg (fun s : ByteArray => s.data.toList) h
    simpa [ofInts] using this
  induction a generalizing b with
  | nil => cases b with
    | nil => rfl
    | cons y b => simp at h1
  | cons x a ih => cases b with
    | nil => simp at h1
    | cons y b =>
      simp only [List.map_cons, List.cons.injEq] at h1
      have hx := ha x (by simp)
      have hy := hb y (by simp)
      have e : x = y := by
        have := congrArg UInt8.toNat h1.1
        simp only [UInt8.toNat_ofNat'] at this
        omega
      rw [e, ih (b := b) (fun c hc => ha c (by simp [hc])) (fun c hc => hb c (by simp [hc])) (by unfold ofInts; rw [h1.2]) h1.2]

/-- The amount that a number tells. -/
def unf (x : Int) : Int := if x % 2 = 1 then -((x + 1) / 2) else x / 2
theorem foldS_unf {x : Int} (h : 0 ≤ x) : foldS (unf x) = x.toNat := by
  unfold foldS unf
  split <;> split <;> omega
theorem unf_bd {x : Int} (h0 : 0 ≤ x) (h1 : x ≤ 4611686018427387903) : -2305843009213693952 ≤ unf x ∧ unf x ≤ 2305843009213693952 := by
  unfold unf
  split <;> omega
/-- The numbers of a run. -/
def valsF : Nat → Int → Int → List Int
  | 0, _, _ => []
  | k + 1, v, d => v :: valsF k (v + d) d
def okV : Nat → Int → Int → Bool
  | 0, _, _ => true
  | k + 1, v, d => decide (0 ≤ v ∧ v ≤ 1152921504606846975) && okV k (v + d) d
theorem valsF_len (k : Nat) : ∀ v d, (valsF k v d).length = k := by
  induction k with
  | zero => intro v d; rfl
  | succ k ih => intro v d; simp [valsF, ih]
theorem valsF_nth (k : Nat) : ∀ v d T j, j < k → nth (valsF k v d ++ T) j = v + (j : Int) * d := by
  induction k with
  | zero => intro v d T j h; omega
  | succ k ih =>
    intro v d T j h
    cases j with
    | zero => simp [valsF, nth]
    | succ j =>
      have := ih (v + d) d T j (by omega)
      unfold nth at this ⊢
      simp only [valsF, List.cons_append, List.getD_cons_succ]
      rw [this, Int.natCast_succ, Int.add_mul, Int.one_mul]
      omega
theorem okV_all (k : Nat) : ∀ v d, okV k v d = true → runsOK (valsF k v d) = true := by
  induction k with
  | zero => intro v d h; rfl
  | succ k ih =>
    intro v d h
    simp only [okV, Bool.and_eq_true] at h
    have := ih (v + d) d h.2
    unfold runsOK at this ⊢
    simp only [valsF, List.all_cons, Bool.and_eq_true]
    exact ⟨h.1, this⟩
theorem runsOK_app {a b : List Int} (ha : runsOK a = true) (hb : runsOK b = true) : runsOK (a ++ b) = true := by
  unfold runsOK at ha hb ⊢
  rw [List.all_append, ha, hb]
  rfl

/-- One run at a place: its first number, how many, the amount, the place behind it. -/
def oneRun (xs : List Int) (p left : Nat) : Option (Int × Nat × Int × Nat) := match getL xs p with
  | none => none
  | some (v, p1) => match getL xs p1 with
    | none => none
    | some (k, p2) => if k.toNat < 1 ∨ left < k.toNat ∨ 1152921504606846975 < v then none else
      if k.toNat = 1 then some (v, 1, 0, p2) else match getL xs p2 with
        | none => none
        | some (x, p3) => if okV k.toNat v (unf x) = true then some (v, k.toNat, unf x, p3) else none
/-- The bytes of a run. -/
def encRun (v : Int) (k : Nat) (d : Int) : List Int := enc v.toNat ++ enc k ++ (if 1 < k then enc (foldS d) else [])
theorem oneRun_ok {xs : List Int} (hx : Bytes xs) {p left k q : Nat} {v d : Int} (h : oneRun xs p left = some (v, k, d, q)) :
    1 ≤ k ∧ k ≤ left ∧ q ≤ xs.length ∧ okV k v d = true ∧ xs.drop p = encRun v k d ++ xs.drop q ∧ 0 ≤ v := by
  unfold oneRun at h
  cases h1 : getL xs p with
  | none => rw [h1] at h; simp at h
  | some z =>
    obtain ⟨a, p1⟩ := z
    rw [h1] at h
    simp only at h
    cases h2 : getL xs p1 with
    | none => rw [h2] at h; simp at h
    | some z =>
      obtain ⟨b, p2⟩ := z
      rw [h2] at h
      simp only at h
      have o1 := getL_ok hx h1
      have o2 := getL_ok hx h2
      have e1 := getL_enc hx h1
      have e2 := getL_enc hx h2
      split at h
      · simp at h
      · rename_i hb
        split at h
        · rename_i hk1
          simp only [Option.some.injEq, Prod.mk.injEq] at h
          obtain ⟨rfl, rfl, rfl, rfl⟩ := h
          refine ⟨by omega, by omega, o2.2.2.2, by simp [okV]; omega, ?_, o1.1⟩
          rw [e1, e2, hk1]
          simp [encRun]
        · rename_i hk1
          cases h3 : getL xs p2 with
          | none => rw [h3] at h; simp at h
          | some z =>
            obtain ⟨c, p3⟩ := z
            rw [h3] at h
            simp only at h
            have o3 := getL_ok hx h3
            have e3 := getL_enc hx h3
            split at h
            · rename_i hok
              simp only [Option.some.injEq, Prod.mk.injEq] at h
              obtain ⟨rfl, rfl, rfl, rfl⟩ := h
              refine ⟨by omega, by omega, o3.2.2.2, hok, ?_, o1.1⟩
              rw [e1, e2, e3]
              unfold encRun
              rw [if_pos (by omega), foldS_unf o3.1]
              simp
            · simp at h

/-- The numbers from a place on, as the specification reads them; and with the code's own tests. -/
def parseS (xs : List Int) : Nat → Nat → Nat → Option (List Int × Nat)
  | 0, left, p => if left = 0 then some ([], p) else none
  | f + 1, left, p => if left = 0 then some ([], p) else match oneRun xs p left with
    | none => none
    | some (v, k, d, q) => match parseS xs f (left - k) q with
      | none => none
      | some (T, r) => some (valsF k v d ++ T, r)
def oneRunI (xs : List Int) (p left : Nat) (prev : Option Int) : Option (Int × Nat × Int × Nat) := match oneRun xs p left with
  | none => none
  | some (v, k, d, q) => if (k = 1 ∧ left ≠ 1) ∨ prev = some v then none else some (v, k, d, q)
def parseI (xs : List Int) : Nat → Nat → Nat → Option Int → Option (List Int × Nat)
  | 0, left, p, _ => if left = 0 then some ([], p) else none
  | f + 1, left, p, prev => if left = 0 then some ([], p) else match oneRunI xs p left prev with
    | none => none
    | some (v, k, d, q) => match parseI xs f (left - k) q (some (v + (k : Int) * d)) with
      | none => none
      | some (T, r) => some (valsF k v d ++ T, r)

theorem parseS_ok {xs : List Int} (hx : Bytes xs) : ∀ f left p T q, p ≤ xs.length → parseS xs f left p = some (T, q) → T.length = left ∧ runsOK T = true ∧ q ≤ xs.length := by
  intro f
  induction f with
  | zero =>
    intro left p T q hp h
    simp only [parseS] at h
    split at h
    · simp only [Option.some.injEq, Prod.mk.injEq] at h
      obtain ⟨rfl, rfl⟩ := h
      exact ⟨by simp; omega, rfl, hp⟩
    · simp at h
  | succ f ih =>
    intro left p T q hp h
    simp only [parseS] at h
    split at h
    · simp only [Option.some.injEq, Prod.mk.injEq] at h
      obtain ⟨rfl, rfl⟩ := h
      exact ⟨by simp; omega, rfl, hp⟩
    · cases h1 : oneRun xs p left with
      | none => rw [h1] at h; simp at h
      | some z =>
        obtain ⟨v, k, d, q1⟩ := z
        rw [h1] at h
        simp only at h
        have ho := oneRun_ok hx h1
        cases h2 : parseS xs f (left - k) q1 with
        | none => rw [h2] at h; simp at h
        | some z =>
          obtain ⟨T1, r⟩ := z
          rw [h2] at h
          simp only [Option.some.injEq, Prod.mk.injEq] at h
          obtain ⟨rfl, rfl⟩ := h
          obtain ⟨i1, i2, i3⟩ := ih _ _ _ _ ho.2.2.1 h2
          refine ⟨by rw [List.length_append, valsF_len, i1]; omega, runsOK_app (okV_all _ _ _ ho.2.2.2.1) i2, i3⟩
theorem parseI_S {xs : List Int} : ∀ f left p prev r, parseI xs f left p prev = some r → parseS xs f left p = some r := by
  intro f
  induction f with
  | zero => intro left p prev r h; exact h
  | succ f ih =>
    intro left p prev r h
    simp only [parseI, oneRunI] at h
    simp only [parseS]
    split at h
    · rename_i h0; rw [if_pos h0]; exact h
    · rename_i h0
      rw [if_neg h0]
      cases h1 : oneRun xs p left with
      | none => rw [h1] at h; simp at h
      | some z =>
        obtain ⟨v, k, d, q1⟩ := z
        rw [h1] at h
        simp only at h ⊢
        split at h
        · simp at h
        · rename_i heq
          split at heq
          · simp at heq
          · simp only [Option.some.injEq, Prod.mk.injEq] at heq
            obtain ⟨rfl, rfl, rfl, rfl⟩ := heq
            cases h2 : parseI xs f (left - k) q1 (some (v + (k : Int) * d)) with
            | none => rw [h2] at h; simp at h
            | some z =>
              rw [h2] at h
              rw [ih _ _ _ _ h2]
              exact h

/-- Where a run of equal amounts ends. -/
theorem ext_to (ls : List Int) (m : Nat) : ∀ f j, (∀ t, j ≤ t → t < j + m → goesOn ls 0 t = true) → goesOn ls 0 (j + m) = false → ls.length - j ≤ f → extF ls 0 f j = m := by
  induction m with
  | zero =>
    intro f j _ h hf
    cases f with
    | zero => rfl
    | succ f => rw [extF, if_neg (by rw [Nat.add_zero] at h; rw [h]; decide)]
  | succ m ih =>
    intro f j ha h hf
    have h1 := ha j (Nat.le_refl _) (by omega)
    have := goesOn_lt h1
    obtain ⟨f, rfl⟩ : ∃ f', f = f' + 1 := ⟨f - 1, by omega⟩
    rw [extF, if_pos h1, ih f (j + 1) (fun t h1 h2 => ha t (by omega) (by omega)) (by rw [show j + 1 + m = j + (m + 1) by omega]; exact h) (by omega)]
theorem ext_end (ls : List Int) : ∀ f j, ls.length - j ≤ f → goesOn ls 0 (j + extF ls 0 f j) = false := by
  intro f
  induction f with
  | zero =>
    intro j h
    cases hg : goesOn ls 0 (j + extF ls 0 0 j) with
    | false => rfl
    | true => have := goesOn_lt hg; simp only [extF] at this; omega
  | succ f ih =>
    intro j h
    simp only [extF]
    split
    · have := ih (j + 1) (by omega)
      rw [show j + (extF ls 0 f (j + 1) + 1) = j + 1 + extF ls 0 f (j + 1) by omega]
      exact this
    · rename_i hg; simpa using hg
theorem runEnd_stop (ls : List Int) : goesOn ls 0 (runEnd ls 0) = false := by
  unfold runEnd
  exact ext_end ls ls.length (0 + 1) (by omega)

theorem putRF_enough (ls : List Int) : ∀ f f' i, ls.length - i ≤ f → ls.length - i ≤ f' → putRF ls f i = putRF ls f' i := by
  intro f
  induction f with
  | zero =>
    intro f' i h h'
    cases f' with
    | zero => rfl
    | succ f' => rw [putRF, putRF, if_neg (by omega)]
  | succ f ih =>
    intro f' i h h'
    cases f' with
    | zero => rw [putRF, putRF, if_neg (by omega)]
    | succ f' =>
      rw [putRF, putRF]
      split
      · rename_i hi
        have := runEnd_bd hi
        rw [ih f' (runEnd ls i) (by omega) (by omega)]
      · rfl
theorem nth_app (a b : List Int) (j : Nat) : nth (a ++ b) (a.length + j) = nth b j := by
  unfold nth
  rw [List.getD_eq_getElem?_getD, List.getD_eq_getElem?_getD, List.getElem?_append_right (by omega), Nat.add_sub_cancel_left]
theorem goesOn_shift (a b : List Int) (i k : Nat) (hk : 1 ≤ k) : goesOn (a ++ b) (a.length + i) (a.length + k) = goesOn b i k := by
  have e : ∀ j, nth (a ++ b) (a.length + j) = nth b j := nth_app a b
  unfold goesOn
  rw [show a.length + k - 1 = a.length + (k - 1) by omega, show a.length + i + 1 = a.length + (i + 1) by omega, e, e, e, e, List.length_append]
  rw [show decide (a.length + k < a.length + b.length) = decide (k < b.length) from decide_eq_decide.2 (by omega), show decide (a.length + k = a.length + (i + 1)) = decide (k = i + 1) from decide_eq_decide.2 (by omega)]
theorem ext_shift (a b : List Int) (i : Nat) : ∀ f k, 1 ≤ k → extF (a ++ b) (a.length + i) f (a.length + k) = extF b i f k := by
  intro f
  induction f with
  | zero => intro k _; rfl
  | succ f ih =>
    intro k hk
    rw [extF, extF, goesOn_shift a b i k hk, show a.length + k + 1 = a.length + (k + 1) by omega, ih (k + 1) (by omega)]
theorem runEnd_shift (a b : List Int) (i : Nat) (h : i < b.length) : runEnd (a ++ b) (a.length + i) = a.length + runEnd b i := by
  unfold runEnd
  rw [show a.length + i + 1 = a.length + (i + 1) by omega, ext_shift a b i _ (i + 1) (by omega), ext_enough b i (a ++ b).length b.length (i + 1) (by simp; omega) (by omega)]
  omega
theorem putRF_shift (a b : List Int) : ∀ f i, putRF (a ++ b) f (a.length + i) = putRF b f i := by
  intro f
  induction f with
  | zero => intro i; rfl
  | succ f ih =>
    intro i
    rw [putRF, putRF]
    by_cases hi : i < b.length
    · rw [if_pos (by simp; omega), if_pos hi, runEnd_shift a b i hi, ih]
      congr 1
      have e : ∀ j, nth (a ++ b) (a.length + j) = nth b j := nth_app a b
      unfold runPiece
      rw [show a.length + i + 1 = a.length + (i + 1) by omega, e, e, show a.length + runEnd b i - (a.length + i) = runEnd b i - i by omega]
    · rw [if_neg (by simp; omega), if_neg hi]

/-- What is written of a run and the rest, where the run ends with its numbers. -/
theorem putRF_run {k : Nat} {v d : Int} {T : List Int} (hk : 1 ≤ k) (hE : runEnd (valsF k v d ++ T) 0 = k) : putRF (valsF k v d ++ T) (valsF k v d ++ T).length 0 = encRun v k d ++ putRF T T.length 0 := by
  have hl : (valsF k v d ++ T).length = k + T.length := by rw [List.length_append, valsF_len]
  obtain ⟨f, hf⟩ : ∃ f, k + T.length = f + 1 := ⟨k + T.length - 1, by omega⟩
  rw [hl, hf, putRF, if_pos (by omega), hE]
  congr 1
  · unfold runPiece encRun
    rw [valsF_nth k v d T 0 (by omega), Nat.sub_zero]
    congr 1
    · simp
    · split
      · rename_i h1
        rw [valsF_nth k v d T 1 h1]
        congr 2
        simp
        omega
      · rfl
  · have := putRF_shift (valsF k v d) T f 0
    rw [valsF_len, Nat.add_zero] at this
    rw [this]
    exact putRF_enough T f T.length 0 (by omega) (by omega)
theorem goesOn_vals {k : Nat} {v d : Int} {T : List Int} {t : Nat} (h1 : 1 ≤ t) (h2 : t < k) : goesOn (valsF k v d ++ T) 0 t = true := by
  have hl : (valsF k v d ++ T).length = k + T.length := by rw [List.length_append, valsF_len]
  unfold goesOn
  by_cases ht : t = 1
  · simp [hl, ht]; omega
  · rw [valsF_nth k v d T t h2, valsF_nth k v d T (t - 1) (by omega), valsF_nth k v d T (0 + 1) (by omega), valsF_nth k v d T 0 (by omega), hl]
    simp only [Bool.and_eq_true, decide_eq_true_eq, Bool.or_eq_true]
    refine ⟨by omega, .inr ?_⟩
    obtain ⟨s, rfl⟩ : ∃ s, t = s + 1 := ⟨t - 1, by omega⟩
    rw [Nat.add_sub_cancel, Int.natCast_succ, Int.add_mul]
    simp
    omega
/-- The numbers are as long a run as can be, or not. -/
theorem runEnd_iff {k : Nat} {v d : Int} {T : List Int} (hk : 1 ≤ k) : runEnd (valsF k v d ++ T) 0 = k ↔ (T = [] ∨ (1 < k ∧ T.head? ≠ some (v + (k : Int) * d))) := by
  have hl : (valsF k v d ++ T).length = k + T.length := by rw [List.length_append, valsF_len]
  have hg : ∀ x T', T = x :: T' → (goesOn (valsF k v d ++ T) 0 k = true ↔ (k = 1 ∨ x = v + (k : Int) * d)) := by
    intro x T' hT
    unfold goesOn
    have e1 : nth (valsF k v d ++ T) k = x := by
      have := nth_app (valsF k v d) T 0
      rw [valsF_len, Nat.add_zero] at this
      rw [this, hT]
      rfl
    rw [e1, hl, valsF_nth k v d T (k - 1) (by omega), valsF_nth k v d T 0 (by omega)]
    by_cases h1 : k = 1
    · simp [h1, hT]
    · rw [valsF_nth k v d T (0 + 1) (by omega)]
      obtain ⟨s, rfl⟩ : ∃ s, k = s + 1 := ⟨k - 1, by omega⟩
      have e : ((s + 1 : Nat) : Int) * d = (s : Int) * d + d := by rw [Int.natCast_succ, Int.add_mul, Int.one_mul]
      rw [Nat.add_sub_cancel, e]
      simp [hT]
      omega
  constructor
  · intro h
    cases hT : T with
    | nil => exact .inl rfl
    | cons x T' =>
      right
      have h1 := runEnd_stop (valsF k v d ++ T)
      rw [h] at h1
      have h2 := hg x T' hT
      rw [h1] at h2
      simp only [Bool.false_eq_true, false_iff, not_or] at h2
      exact ⟨by omega, by simpa using h2.2⟩
  · intro h
    unfold runEnd
    have hstop : goesOn (valsF k v d ++ T) 0 k = false := by
      cases hT : T with
      | nil => unfold goesOn; rw [← hT, hl, hT]; simp
      | cons x T' =>
        have h2 := hg x T' hT
        rw [← hT]
        cases hgo : goesOn (valsF k v d ++ T) 0 k with
        | false => rfl
        | true =>
          have := h2.1 hgo
          rcases h with h | ⟨h3, h4⟩
          · rw [hT] at h; simp at h
          · rw [hT] at h4
            simp at h4
            omega
    have := ext_to (valsF k v d ++ T) (k - 1) (valsF k v d ++ T).length (0 + 1) (fun t h1 h2 => goesOn_vals (by omega) (by omega)) (by rw [show 0 + 1 + (k - 1) = k by omega]; exact hstop) (by omega)
    rw [this]
    omega

theorem parseI_iff {xs : List Int} (hx : Bytes xs) : ∀ f left p prev T q, p ≤ xs.length → parseS xs f left p = some (T, q) →
    (parseI xs f left p prev = some (T, q) ↔ (xs.drop p = putRF T T.length 0 ++ xs.drop q ∧ ∀ x, prev = some x → T.head? ≠ some x)) := by
  intro f
  induction f with
  | zero =>
    intro left p prev T q hp h
    have h' := h
    simp only [parseS] at h
    split at h
    · simp only [Option.some.injEq, Prod.mk.injEq] at h
      obtain ⟨rfl, rfl⟩ := h
      refine ⟨fun _ => ⟨by simp [putRF], by simp⟩, fun _ => h'⟩
    · simp at h
  | succ f ih =>
    intro left p prev T q hp h
    simp only [parseS] at h
    split at h
    · rename_i h0
      simp only [Option.some.injEq, Prod.mk.injEq] at h
      obtain ⟨rfl, rfl⟩ := h
      refine ⟨fun _ => ⟨by simp [putRF], by simp⟩, fun _ => by simp [parseI, h0]⟩
    · rename_i h0
      cases h1 : oneRun xs p left with
      | none => rw [h1] at h; simp at h
      | some z =>
        obtain ⟨v, k, d, q1⟩ := z
        rw [h1] at h
        simp only at h
        obtain ⟨o1, o2, o3, o4, o5, o6⟩ := oneRun_ok hx h1
        cases h2 : parseS xs f (left - k) q1 with
        | none => rw [h2] at h; simp at h
        | some z =>
          obtain ⟨T1, r⟩ := z
          rw [h2] at h
          simp only [Option.some.injEq, Prod.mk.injEq] at h
          obtain ⟨rfl, rfl⟩ := h
          have hT := (parseS_ok hx f _ _ _ _ o3 h2).1
          have hI := ih (left - k) q1 (some (v + (k : Int) * d)) T1 r o3 h2
          have hhead : (valsF k v d ++ T1).head? = some v := by
            obtain ⟨s, rfl⟩ : ∃ s, k = s + 1 := ⟨k - 1, by omega⟩
            simp [valsF]
          have hsh : parseI xs (f + 1) left p prev = some (valsF k v d ++ T1, r) ↔ (¬ ((k = 1 ∧ left ≠ 1) ∨ prev = some v) ∧ parseI xs f (left - k) q1 (some (v + (k : Int) * d)) = some (T1, r)) := by
            simp only [parseI, oneRunI, h1, if_neg h0]
            by_cases hc : (k = 1 ∧ left ≠ 1) ∨ prev = some v
            · simp [hc]
            · simp only [hc, if_false, not_false_eq_true, true_and]
              cases h3 : parseI xs f (left - k) q1 (some (v + (k : Int) * d)) with
              | none => simp
              | some z =>
                obtain ⟨T2, r2⟩ := z
                simp
          rw [hsh, hI, hhead, o5]
          constructor
          · rintro ⟨hc, hd, hh⟩
            refine ⟨?_, fun x hx' => by intro h; simp at h; exact hc (.inr (by rw [hx', h]))⟩
            have hE : runEnd (valsF k v d ++ T1) 0 = k := (runEnd_iff o1).2 (by
              by_cases hT1 : T1 = []
              · exact .inl hT1
              · refine .inr ⟨?_, hh _ rfl⟩
                have : T1.length ≠ 0 := fun h => hT1 (List.eq_nil_of_length_eq_zero h)
                omega)
            rw [putRF_run o1 hE, hd, List.append_assoc]
          · rintro ⟨hd, hh⟩
            have hE : runEnd (valsF k v d ++ T1) 0 = k := by
              have hl : (valsF k v d ++ T1).length = k + T1.length := by rw [List.length_append, valsF_len]
              obtain ⟨g, hg⟩ : ∃ g, k + T1.length = g + 1 := ⟨k + T1.length - 1, by omega⟩
              rw [hl, hg, putRF, if_pos (by omega)] at hd
              unfold runPiece encRun at hd
              simp only [List.append_assoc] at hd
              have e2 := (enc_same (enc_same hd).2).1
              omega
            rw [putRF_run o1 hE, List.append_assoc] at hd
            have hd' := List.append_cancel_left hd
            have hiff := (runEnd_iff (T := T1) o1).1 hE
            refine ⟨?_, hd', ?_⟩
            · rintro (⟨h1, h2⟩ | h1)
              · rcases hiff with h | h
                · subst h; simp at hT; omega
                · omega
              · exact hh v h1 rfl
            · intro x hx' h
              cases hx'
              rcases hiff with h3 | h3
              · subst h3; simp at h
              · exact h3.2 h

/-- The numbers, and the place behind them, as the specification reads them. -/
def runsL (xs : List Int) : Option (List Int × Nat) := match getL xs 0 with
  | none => none
  | some (n, p) => if 4096 < n then none else parseS xs n.toNat n.toNat p
/-- What the specification's GetRuns answers; and the code's. -/
def getRuns (xs : List Int) : Option (List Int) := match runsL xs with
  | none => none
  | some (T, q) => if q = xs.length ∧ putR T = xs then some T else none
def getRunsI (xs : List Int) : Option (List Int) := match getL xs 0 with
  | none => none
  | some (n, p) => if 4096 < n then none else match parseI xs n.toNat n.toNat p none with
    | none => none
    | some (T, q) => if q = xs.length then some T else none
theorem getRuns_same {xs : List Int} (hx : Bytes xs) : getRunsI xs = getRuns xs := by
  unfold getRunsI getRuns runsL
  cases h0 : getL xs 0 with
  | none => rfl
  | some z =>
    obtain ⟨n, p⟩ := z
    simp only
    have o := getL_ok hx h0
    have e := getL_enc hx h0
    rw [List.drop_zero] at e
    by_cases h4 : 4096 < n
    · rw [if_pos h4, if_pos h4]
    · rw [if_neg h4, if_neg h4]
      cases h1 : parseS xs n.toNat n.toNat p with
      | none =>
        cases h2 : parseI xs n.toNat n.toNat p none with
        | none => rfl
        | some r => rw [parseI_S _ _ _ _ _ h2] at h1; simp at h1
      | some z =>
        obtain ⟨T, q⟩ := z
        have hiff := parseI_iff hx _ _ _ none _ _ o.2.2.2 h1
        have hT := (parseS_ok hx _ _ _ _ _ o.2.2.2 h1).1
        simp only
        by_cases hq : q = xs.length
        · subst hq
          rw [List.drop_length, List.append_nil] at hiff
          by_cases hp : putR T = xs
          · rw [if_pos ⟨rfl, hp⟩]
            have : xs.drop p = putRF T T.length 0 := by
              have h3 : enc n.toNat ++ putRF T T.length 0 = enc n.toNat ++ xs.drop p := by
                rw [← e]
                unfold putR at hp
                rw [hT] at hp ⊢
                exact hp
              exact (List.append_cancel_left h3).symm
            rw [hiff.2 ⟨this, by simp⟩]
            simp
          · rw [if_neg (by simp [hp])]
            cases h2 : parseI xs n.toNat n.toNat p none with
            | none => rfl
            | some r =>
              exfalso
              have h3 := parseI_S _ _ _ _ _ h2
              rw [h1] at h3
              cases h3
              have h4 := (hiff.1 h2).1
              apply hp
              unfold putR
              rw [hT] at h4 ⊢
              rw [← h4]
              exact e.symm
        · rw [if_neg (by simp [hq])]
          cases h2 : parseI xs n.toNat n.toNat p none with
          | none => rfl
          | some r =>
            have h3 := parseI_S _ _ _ _ _ h2
            rw [h1] at h3
            cases h3
            simp [hq]
end Go.Proofs.Ytpiadcjkbbgggaa
