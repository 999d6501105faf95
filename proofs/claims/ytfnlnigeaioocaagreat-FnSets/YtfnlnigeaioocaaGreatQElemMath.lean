/- Texts put one by one in their order are the sorted texts, made compact: plain facts. -/
import Derived.Lib.SlicesCompact
import Derived.Sort.Row
namespace Go.Proofs.YtfnlnigeaioocaaGreat
abbrev TxB := List UInt8
theorem b_irr (x : TxB) : ¬ x < x := List.lt_irrefl x
theorem b_trans {x y z : TxB} (h : x < y) (k : y < z) : x < z := List.lt_trans h k
theorem b_tri {x y : TxB} (h : ¬ x < y) (k : x ≠ y) : y < x := by
  have h1 : y ≤ x := h
  rcases List.le_total x y with h2 | h2
  · exact absurd (List.le_antisymm h2 h1) k
  · by_cases h3 : y < x
    · exact h3
    · exact absurd (List.le_antisymm (h3 : x ≤ y) h1) k
theorem b_le {x y : TxB} : x ≤ y ↔ ¬ y < x := Iff.rfl
def insB : List TxB → TxB → List TxB
  | [], x => [x]
  | y :: ys, x => if y < x then y :: insB ys x else if y = x then y :: ys else x :: y :: ys
def posB : List TxB → TxB → Nat
  | [], _ => 0
  | y :: ys, x => if y < x then posB ys x + 1 else 0
theorem pos_le (out : List TxB) (x : TxB) : posB out x ≤ out.length := by
  induction out with
  | nil => simp [posB]
  | cons y ys ih => unfold posB; split <;> simp <;> omega
theorem pos_lt {out : List TxB} {x : TxB} {j : Nat} (h : j < posB out x) {y : TxB} (hy : out[j]? = some y) : y < x := by
  induction out generalizing j with
  | nil => simp [posB] at h
  | cons z ys ih =>
    unfold posB at h
    split at h
    next hz =>
      cases j with
      | zero => simp at hy; subst hy; exact hz
      | succ j => exact ih (j := j) (by omega) (by simpa using hy)
    next => omega
theorem pos_stop {out : List TxB} {x : TxB} {y : TxB} (hy : out[posB out x]? = some y) : ¬ y < x := by
  induction out with
  | nil => simp [posB] at hy
  | cons z ys ih =>
    by_cases hz : z < x
    · have e : posB (z :: ys) x = posB ys x + 1 := by simp [posB, hz]
      rw [e] at hy
      exact ih (by simpa using hy)
    · have e : posB (z :: ys) x = 0 := by simp [posB, hz]
      rw [e] at hy
      simp at hy
      subst hy
      exact hz
theorem pos_step {out : List TxB} {x y : TxB} {k : Nat} (hk : k ≤ posB out x) (hy : out[k]? = some y) (h : y < x) : k + 1 ≤ posB out x := by
  by_cases e : k = posB out x
  · subst e
    exact absurd h (pos_stop hy)
  · omega
theorem pos_end {out : List TxB} {x y : TxB} {k : Nat} (hk : k ≤ posB out x) (hy : out[k]? = some y) (h : ¬ y < x) : k = posB out x := by
  by_cases e : k = posB out x
  · exact e
  · exact absurd (pos_lt (by omega) hy) h
theorem pos_all {out : List TxB} {x : TxB} {k : Nat} (hk : k ≤ posB out x) (h : k = out.length) : k = posB out x := by
  have := pos_le out x
  omega
theorem ins_old {out : List TxB} {x : TxB} (h : out[posB out x]? = some x) : insB out x = out := by
  induction out with
  | nil => simp [posB] at h
  | cons z ys ih =>
    by_cases hz : z < x
    · have e : posB (z :: ys) x = posB ys x + 1 := by simp [posB, hz]
      rw [e] at h
      simp [insB, hz, ih (by simpa using h)]
    · have e : posB (z :: ys) x = 0 := by simp [posB, hz]
      rw [e] at h
      simp at h
      subst h
      simp [insB, hz]
theorem ins_new {out : List TxB} {x : TxB} (h : out[posB out x]? ≠ some x) : insB out x = out.take (posB out x) ++ x :: out.drop (posB out x) := by
  induction out with
  | nil => simp [insB, posB]
  | cons z ys ih =>
    by_cases hz : z < x
    · have e : posB (z :: ys) x = posB ys x + 1 := by simp [posB, hz]
      rw [e] at h ⊢
      simp [insB, hz, ih (by simpa using h)]
    · have e : posB (z :: ys) x = 0 := by simp [posB, hz]
      rw [e] at h ⊢
      have hne : z ≠ x := by simpa using h
      simp [insB, hz, hne]
theorem mem_ins {out : List TxB} {x y : TxB} : y ∈ insB out x ↔ y ∈ out ∨ y = x := by
  induction out with
  | nil => simp [insB]
  | cons z ys ih =>
    unfold insB
    split
    · simp [ih, or_assoc]
    · split
      next h => subst h; simp only [List.mem_cons]; exact ⟨.inl, fun k => k.elim id .inl⟩
      next => simp only [List.mem_cons]; exact or_comm
theorem ins_rise {out : List TxB} (h : out.Pairwise (· < ·)) (x : TxB) : (insB out x).Pairwise (· < ·) := by
  induction out with
  | nil => simp [insB]
  | cons z ys ih =>
    rw [List.pairwise_cons] at h
    unfold insB
    split
    next hz =>
      rw [List.pairwise_cons]
      refine ⟨fun y hy => ?_, ih h.2⟩
      rcases mem_ins.1 hy with hy | rfl
      · exact h.1 y hy
      · exact hz
    next hz =>
      split
      next e => exact List.pairwise_cons.2 h
      next e =>
        have hxz := b_tri hz e
        refine List.pairwise_cons.2 ⟨fun y hy => ?_, List.pairwise_cons.2 h⟩
        rcases List.mem_cons.1 hy with rfl | hy
        · exact hxz
        · exact b_trans hxz (h.1 y hy)
def insAll (T : List TxB) : List TxB := T.foldl insB []
theorem insAll_snoc (T : List TxB) (x : TxB) : insAll (T ++ [x]) = insB (insAll T) x := by simp [insAll]
theorem insAll_facts (T : List TxB) : (insAll T).Pairwise (· < ·) ∧ (∀ y, y ∈ insAll T ↔ y ∈ T) := by
  have : ∀ (T : List TxB) (o : List TxB), o.Pairwise (· < ·) → (T.foldl insB o).Pairwise (· < ·) ∧ ∀ y, y ∈ T.foldl insB o ↔ y ∈ o ∨ y ∈ T := by
    intro T
    induction T with
    | nil => intro o h; simpa using h
    | cons x T ih =>
      intro o h
      have := ih (insB o x) (ins_rise h x)
      refine ⟨this.1, fun y => ?_⟩
      rw [List.foldl_cons, this.2 y, mem_ins, List.mem_cons, or_assoc]
  have h := this T [] List.Pairwise.nil
  exact ⟨h.1, fun y => (h.2 y).trans (by simp)⟩
theorem insAll_len (T : List TxB) : (insAll T).length ≤ T.length := by
  have h1 : ∀ (o : List TxB) x, (insB o x).length ≤ o.length + 1 := by
    intro o x
    induction o with
    | nil => simp [insB]
    | cons z ys ih =>
      unfold insB
      split
      · simp; omega
      · split <;> simp
  have h2 : ∀ (T o : List TxB), (T.foldl insB o).length ≤ o.length + T.length := by
    intro T
    induction T with
    | nil => intro o; simp
    | cons x T ih => intro o; have := ih (insB o x); have := h1 o x; simp; omega
  have := h2 T []
  simpa [insAll] using this
/-- Two risen lists of the same texts are one. -/
theorem rise_one {a b : List TxB} (ha : a.Pairwise (· < ·)) (hb : b.Pairwise (· < ·)) (h : ∀ y, y ∈ a ↔ y ∈ b) : a = b := by
  induction a generalizing b with
  | nil =>
    cases b with
    | nil => rfl
    | cons z zs => exact absurd ((h z).2 (by simp)) (by simp)
  | cons x xs ih =>
    cases b with
    | nil => exact absurd ((h x).1 (by simp)) (by simp)
    | cons z zs =>
      rw [List.pairwise_cons] at ha hb
      have hxz : x = z := by
        rcases List.mem_cons.1 ((h x).1 (by simp)) with e | hx
        · exact e
        · rcases List.mem_cons.1 ((h z).2 (by simp)) with e | hz
          · exact e.symm
          · exact absurd (b_trans (hb.1 x hx) (ha.1 z hz)) (b_irr z)
      subst hxz
      congr 1
      refine ih ha.2 hb.2 fun y => ?_
      constructor
      · intro hy
        rcases List.mem_cons.1 ((h y).1 (List.mem_cons_of_mem _ hy)) with rfl | k
        · exact absurd (ha.1 y hy) (b_irr y)
        · exact k
      · intro hy
        rcases List.mem_cons.1 ((h y).2 (List.mem_cons_of_mem _ hy)) with rfl | k
        · exact absurd (hb.1 y hy) (b_irr y)
        · exact k
/-- What Compact leaves of sorted texts rises, and is the same texts. -/
theorem compact_rise {S : List TxB} (hs : S.Pairwise (· ≤ ·)) : (Lib.compact S).Pairwise (· < ·) ∧ ∀ y, y ∈ Lib.compact S ↔ y ∈ S := by
  have hget : ∀ i j (hi : i < S.length) (hj : j < S.length), i ≤ j → S[i] ≤ S[j] := by
    intro i j hi hj hij
    rcases Nat.lt_or_eq_of_le hij with h | rfl
    · exact List.pairwise_iff_getElem.1 hs i j hi hj h
    · exact List.le_refl _
  have hb : ∀ i (hi : i < S.length), S.toArray[i]! = S[i] := fun i hi => by simp [getElem!_pos, hi]
  have main : ∀ m, m ≤ S.length → (Lib.compactUpTo S.toArray m).Pairwise (· < ·) ∧ (∀ y, y ∈ Lib.compactUpTo S.toArray m ↔ y ∈ S.take m) := by
    intro m
    induction m with
    | zero => intro _; simp [Lib.compactUpTo]
    | succ m ih =>
      intro hm
      have hml : m < S.length := by omega
      obtain ⟨h1, h2⟩ := ih (by omega)
      have htk : S.take (m + 1) = S.take m ++ [S[m]] := by simp
      rw [Lib.compactUpTo_succ, hb m hml]
      by_cases hk : Lib.keeps S.toArray m = true
      · rw [if_pos hk]
        refine ⟨List.pairwise_append.2 ⟨h1, by simp, fun a ha b hb' => ?_⟩, fun y => by rw [List.mem_append, htk, List.mem_append, h2 y]⟩
        rw [List.mem_singleton] at hb'
        subst hb'
        obtain ⟨i, hi, rfl⟩ := List.getElem_of_mem ((h2 a).1 ha)
        rw [List.length_take] at hi
        have him : i < m := by omega
        rw [List.getElem_take]
        have hm0 : m ≠ 0 := by omega
        unfold Lib.keeps at hk
        simp only [hm0, false_or, decide_eq_true_eq] at hk
        rw [hb m hml, hb (m - 1) (by omega)] at hk
        have e1 := hget i (m - 1) (by omega) (by omega) (by omega)
        have e2 := hget (m - 1) m (by omega) (by omega) (by omega)
        have e3 : S[m - 1] < S[m] := b_tri e2 hk
        by_cases e4 : S[i] < S[m]
        · exact e4
        · exact absurd (List.le_trans (e4 : S[m] ≤ S[i]) e1) (fun h => h e3)
      · rw [if_neg hk]
        refine ⟨by simpa using h1, fun y => ?_⟩
        rw [List.append_nil, htk, List.mem_append, h2 y]
        constructor
        · exact .inl
        · rintro (h | h)
          · exact h
          · rw [List.mem_singleton] at h
            subst h
            unfold Lib.keeps at hk
            simp only [decide_eq_true_eq, not_or, Classical.not_not] at hk
            rw [hb m hml, hb (m - 1) (by omega)] at hk
            rw [hk.2]
            exact List.mem_of_getElem? (i := m - 1) (by rw [List.getElem?_take, if_pos (by omega)]; simp)
  have := main S.length (Nat.le_refl _)
  rw [List.take_length] at this
  exact this
theorem compact_sort (T : List TxB) : Lib.compact (T.mergeSort fun x y => decide (x ≤ y)) = insAll T := by
  have hs : (T.mergeSort fun x y => decide (x ≤ y)).Pairwise (· ≤ ·) := by
    have := List.pairwise_mergeSort (le := fun x y : TxB => decide (x ≤ y)) (fun a b c h1 h2 => by simp at *; exact List.le_trans h1 h2) (fun a b => by simpa using List.le_total a b) T
    exact this.imp (by simp)
  obtain ⟨h1, h2⟩ := compact_rise hs
  obtain ⟨h3, h4⟩ := insAll_facts T
  exact rise_one h1 h3 fun y => by rw [h2, h4, List.mem_mergeSort]
end Go.Proofs.YtfnlnigeaioocaaGreat
