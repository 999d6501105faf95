/- Operations of a log: what the specification's l08OpOK answers. -/
import Derived.Test.YtaglbacicpknaaaOpComes
import Derived.Test.YtaglbacicpknaaaBigKit
namespace Go.Proofs.Ytaglbacicpknaaa
open Go.RowKit
set_option linter.unusedVariables false

set_option maxHeartbeats 400000 in
theorem l08Stamp_any (a s t k o n u pt pa : Int) (dv : Value) (ky tx : ByteArray) (w : World) :
    Calls Try.prog 24 #[.agg #[.int .i64 a, .int .i64 s, .int .i64 t, dv, .int .i64 k, .int .i64 o, .int .i64 n, .int .i64 u, .int .i64 pt, .int .i64 pa, .string ky, .string tx]] w fun e w' => e = .returned (.agg #[.int .i64 t, .int .i64 a]) ∧ Below w.heap.size w w' := by
  go_enter Try.func24, Try.ntmps24
  go_wp2_with fail
  exact bodyPost_ret (v := .agg #[.int .i64 t, .int .i64 a]) (by simp [results, Try.results24, go_sem]) rfl ⟨rfl, below_then (below_alloc _ _) _⟩

set_option maxHeartbeats 400000 in
theorem noneO_any (t a : Int) (w : World) :
    Calls Try.prog 27 #[.agg #[.int .i64 t, .int .i64 a]] w fun e w' => e = .returned (.bool (decide (t = 0 ∧ a = 0))) ∧ Below w.heap.size w w' := by
  go_enter Try.func27, Try.ntmps27
  go_wp2_with fail
  all_goals go_ret
  all_goals refine ⟨?_, below_alloc _ _⟩
  all_goals first | (simp [*]; done) | (simp [*]; rw [Bool.eq_iff_iff]; simp)

set_option maxHeartbeats 1000000 in
theorem l04Char_any (c : Int) (w : World) :
    Calls Try.prog 29 #[.int .i64 c] w fun e w' => e = .returned (.bool (chOK c)) ∧ w' = w := by
  obtain ⟨r, hr⟩ : ∃ r, chOK c = r := ⟨_, rfl⟩
  rw [hr]
  have hc : (r = false ∧ c < 0) ∨ (r = false ∧ ¬ c < 0 ∧ 1114111 < c) ∨ (r = true ∧ ¬ c < 0 ∧ ¬ 1114111 < c ∧ c < 55296) ∨ (r = decide (57343 < c) ∧ ¬ c < 0 ∧ ¬ 1114111 < c ∧ ¬ c < 55296) := by
    subst hr
    unfold chOK
    by_cases h1 : c < 0
    · exact .inl ⟨decide_eq_false (by omega), h1⟩
    · by_cases h2 : 1114111 < c
      · exact .inr (.inl ⟨decide_eq_false (by omega), h1, h2⟩)
      · by_cases h3 : c < 55296
        · exact .inr (.inr (.inl ⟨decide_eq_true (by omega), h1, h2, h3⟩))
        · exact .inr (.inr (.inr ⟨by rw [Bool.eq_iff_iff]; simp only [decide_eq_true_eq]; omega, h1, h2, h3⟩))
  clear hr
  rcases hc with ⟨rfl, h1⟩ | ⟨rfl, h1, h2⟩ | ⟨rfl, h1, h2, h3⟩ | ⟨rfl, h1, h2, h3⟩
  all_goals
    go_enter Try.func29, Try.ntmps29
    go_wp2_with fail
    go_ret
    exact ⟨by simp, rfl⟩

/-- The specification's tests, in its own order. -/
def opS (a s t k o n u pt pa : Int) (ky tx : ByteArray) (ds : List Int) : Bool :=
  comesOK a s t ds && (decide (1 ≤ o) && (decide (o ≤ 100) && (decide (-1000000000000 ≤ n) && (decide (n ≤ 1000000000000) && (decide (0 ≤ u) && (decide (u < s) && (decide (ky.size ≤ 200) && (decide (tx.size ≤ 200) && ((decide (pt = 0 ∧ pa = 0) || (stOK pt pa && lessS pt pa t a)) &&
    (if k = 1 then decide (n = 0) && decide (pt = 0 ∧ pa = 0)
     else if k = 2 then (decide (ky.toList = []) && decide (tx.toList = [])) && chOK n
     else if k = 3 then (decide (ky.toList = []) && decide (tx.toList = [])) && (decide (n = 0) && !decide (pt = 0 ∧ pa = 0))
     else if k = 4 then (decide (ky.toList = []) && decide (tx.toList = [])) && decide (pt = 0 ∧ pa = 0)
     else false))))))))))
theorem toList_loopO (s : ByteArray) : ∀ n i r, s.size - i = n → ByteArray.toList.loop s i r = r.reverse ++ s.data.toList.drop i := by
  have hs : s.data.toList.length = s.size := by rw [Array.length_toList]; rfl
  intro n
  induction n with
  | zero =>
    intro i r h
    rw [ByteArray.toList.loop, if_neg (by omega), List.drop_of_length_le (by omega)]
    simp
  | succ n ih =>
    intro i r h
    have hi : i < s.data.toList.length := by omega
    rw [ByteArray.toList.loop, if_pos (by omega), ih (i + 1) _ (by omega), List.drop_eq_getElem_cons hi]
    have : s.get! i = s.data.toList[i] := by
      show s.data[i]! = _
      rw [getElem!_pos s.data i (by rw [← Array.length_toList]; exact hi)]
      simp
    rw [this]
    simp
theorem toList_sameO (s : ByteArray) : s.toList = s.data.toList := by
  have := toList_loopO s s.size 0 [] (by omega)
  simpa [ByteArray.toList] using this
theorem toList_inj {a b : ByteArray} (h : a.toList = b.toList) : a = b := by
  rw [toList_sameO, toList_sameO] at h
  cases a with | mk x => cases b with | mk y => 
    simp only [ByteArray.mk.injEq]
    exact Array.toList_inj.1 h
theorem size_nil {b : ByteArray} (h : b.toList = []) : b.size = 0 := by
  have h1 : b.data.toList = [] := by rw [← toList_sameO]; exact h
  have h2 := congrArg List.length h1
  rw [Array.length_toList] at h2
  exact h2
theorem opS_eq (a s t k o n u pt pa : Int) (ky tx : ByteArray) (ds : List Int) : opS a s t k o n u pt pa ky tx ds = opB a s t k o n u pt pa ky tx ds := by
  rw [Bool.eq_iff_iff]
  unfold opS opB
  simp only [Bool.and_eq_true, decide_eq_true_eq, Bool.or_eq_true]
  constructor
  · rintro ⟨h1, h2, h3, h4, h5, h6, h7, h8, h9, h10, h11⟩
    have ht : 1 ≤ t := by
      unfold comesOK at h1
      simp only [Bool.and_eq_true] at h1
      have := h1.1.1.1.1
      unfold stOK at this
      simp only [decide_eq_true_eq] at this
      exact this.1
    refine ⟨h1, h2, h3, h6, h7, ?_, ?_, ?_⟩
    · unfold okS
      rcases h10 with h | h
      · simp [h]
      · simp [h.1]
    · rcases h10 with ⟨rfl, rfl⟩ | h
      · simp [lessS]; omega
      · exact h.2
    · unfold saysOK
      by_cases k1 : k = 1
      · simp [k1] at h11 ⊢
        exact ⟨h8, h9, h11⟩
      · by_cases k2 : k = 2
        · simp [k2] at h11 ⊢
          exact ⟨h11.2, h11.1⟩
        · by_cases k3 : k = 3
          · simp [k3] at h11 ⊢
            exact ⟨h11.2.2, h11.2.1, h11.1⟩
          · by_cases k4 : k = 4
            · simp [k4] at h11 ⊢
              exact ⟨h4, h5, h11.2, h11.1⟩
            · simp [k1, k2, k3, k4] at h11
  · rintro ⟨h1, h2, h3, h6, h7, h8, h9, h10⟩
    have hat : (pt = 0 ∧ pa = 0) ∨ stOK pt pa = true ∧ lessS pt pa t a = true := by
      unfold okS at h8
      simp only [Bool.or_eq_true, decide_eq_true_eq] at h8
      rcases h8 with h | h
      · exact .inl h
      · exact .inr ⟨h, h9⟩
    unfold saysOK at h10
    by_cases k1 : k = 1
    · simp [k1] at h10 ⊢
      exact ⟨h1, h2, h3, by omega, by omega, h6, h7, h10.1, h10.2.1, hat, h10.2.2⟩
    · by_cases k2 : k = 2
      · simp [k2] at h10 ⊢
        have hn := h10.1
        unfold chOK at hn
        simp only [decide_eq_true_eq] at hn
        exact ⟨h1, h2, h3, by omega, by omega, h6, h7, by rw [size_nil h10.2.1]; omega, by rw [size_nil h10.2.2]; omega, hat, h10.2, h10.1⟩
      · by_cases k3 : k = 3
        · simp [k3] at h10 ⊢
          exact ⟨h1, h2, h3, by omega, by omega, h6, h7, by rw [size_nil h10.2.2.1]; omega, by rw [size_nil h10.2.2.2]; omega, hat, h10.2.2, h10.2.1, h10.1⟩
        · by_cases k4 : k = 4
          · simp [k4] at h10 ⊢
            exact ⟨h1, h2, h3, h10.1, h10.2.1, h6, h7, by rw [size_nil h10.2.2.2.1]; omega, by rw [size_nil h10.2.2.2.2]; omega, hat, h10.2.2.2, h10.2.2.1⟩
          · simp [k1, k2, k3, k4] at h10

end Go.Proofs.Ytaglbacicpknaaa
