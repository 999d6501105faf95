/- slices.SortFunc at stamps, by their order: rows of whatever length the program makes. -/
import Derived.Test.YtfnlnigeaioocaaGreatQSortPdq
namespace Go.Proofs.YtfnlnigeaioocaaGreat
open Go.RowKit
open Go.Sort (pdq bitsLen bitsLen_le_iff)
set_option linter.unusedVariables false

shelf_lay_g SlLaysF0.n15 Slsf 15 at Tryz 43 as YtfnlnigeaioocaaGreat.lenL
theorem len_calls (k : Nat) (hk : k < 4611686018427387904) (w : World) : Calls Tryz.prog 43 #[.int .u64 (k : Int)] w fun e w' => e = .returned (.int .i64 (bitsLen k : Nat)) ∧ w' = w := by
  have h := Any.bits_Len (SlLaysF0.n15.bits YtfnlnigeaioocaaGreat.lenL) (k : Int) w (by omega) (by omega)
  rw [Int.toNat_natCast, bitLen_eq _ (by omega)] at h
  exact h

set_option maxHeartbeats 4000000 in
theorem sortsAll : SortsTo 1048576 := by
  intro B v ss W hrow hle
  by_cases h1 : ss.length ≤ 1
  · exact sortsOne B v ss W hrow h1
  obtain ⟨ao, cap, rfl, hg⟩ := hrow.shape
  obtain ⟨g, rfl⟩ := hg (by omega)
  have hlt := hrow.lt g rfl
  have hSw : Sw W B g cap ss.toArray W := ⟨by simpa using hrow, World.grownBy.refl _ _⟩
  have hL := fun W => len_calls ss.length (by omega) W
  have hk : bitsLen ss.length ≤ 62 := (bitsLen_le_iff _ 62).2 (by omega)
  have hP := pdq_any W B g cap ss.length hle hlt.2 (ss.length + 1) 0 ss.length (bitsLen ss.length) ss.toArray W (by omega) (by simp) (by omega) (Nat.le_refl _) (by omega) (.inl rfl) hSw
  obtain ⟨p1, p2, p3⟩ := pdq_list ss.toArray (bitsLen ss.length)
  simp only [List.size_toArray] at p1 p2 p3
  have hF : ∀ w', Sw W B g cap (pdq ltS ss.toArray 0 ss.length (bitsLen ss.length) true true) w' → ∃ ss', ss'.Perm ss ∧ ss'.Pairwise leS ∧ OwnS w' B (.slice (some ⟨g, 0, none⟩) ss.length cap) ss' ∧ W.grownBy w' (Value.slice (some ⟨g, 0, none⟩) ss.length cap).ownBlock := by
    intro w' h
    have ho := h.own
    rw [p1] at ho
    exact ⟨_, p2, p3, ho, h.gr⟩
  have HF : Hid _ := hF
  have k0 : (0 : Int) ≤ (ss.length : Int) := by omega
  have k1 : (ss.length : Int) ≤ 1048576 := by omega
  clear hF p1 p2 p3 hSw hrow hg
  rw [show ((0 : Nat) : Int) = 0 from rfl] at hP
  generalize ordV = ov at hP ⊢
  generalize pdq ltS ss.toArray 0 ss.length (bitsLen ss.length) true true = dz at hP HF
  generalize bitsLen ss.length = lm at hL hP hk
  go_enter Tryz.func77, Tryz.ntmps77
  go_wp2_with (first | (go_at_call 43; refine (hL _).mono ?_; rintro e W' ⟨rfl, rfl⟩) | (go_at_call 93; refine hP.mono ?_; rintro e W1 ⟨rfl, H1⟩))
  refine bodyPost_end (v := .tuple #[]) ?_ rfl ⟨rfl, HF.out _ H1⟩
  simp [results, Tryz.results77, go_sem]

end Go.Proofs.YtfnlnigeaioocaaGreat
