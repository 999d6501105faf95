/- What the specification's l03Find answers. -/
import Derived.Test.YtdbipcmfolgjgaaEntInsert
namespace Go.Proofs.Ytdbipcmfolgjgaa
open Go.RowKit
set_option linter.unusedVariables false

/-- The first place of a stamp among entries; -1 where it is not there. -/
def isnt (t a : Int) (z : En) : Bool := !(z.1 == t && z.2.1 == a)
def findE (ls : List En) (t a : Int) : Int := if posP (isnt t a) ls < ls.length then ((posP (isnt t a) ls : Nat) : Int) else -1

set_option maxHeartbeats 2000000 in
set_option maxRecDepth 100000 in
theorem l03Find_any (C : Nat) (w : World) (ve : Value) (ls : List En) (t a : Int) (hl : ls.length ≤ 1048576) (hC : C ≤ w.heap.size) (he : RdE C w ve ls) :
    Calls Try.prog 57 #[ve, .agg #[.int .i64 t, .int .i64 a]] w fun e w' => e = .returned (.int .i64 (findE ls t a)) ∧ Below w.heap.size w w' := by
  obtain ⟨eo, ec, rfl, hE⟩ := he
  have HF : Hid (findE ls t a = if posP (isnt t a) ls < ls.length then ((posP (isnt t a) ls : Nat) : Int) else -1) := rfl
  have hpl := posP_le (isnt t a) ls
  have HST : Hid (∀ j, j ≤ posP (isnt t a) ls → j < ls.length → isnt t a (enAt ls j) = true → j + 1 ≤ posP (isnt t a) ls) := fun j h1 h2 h3 => posP_step h1 h2 h3
  have HEN : Hid (∀ j, j ≤ posP (isnt t a) ls → isnt t a (enAt ls j) = false → j = posP (isnt t a) ls) := fun j h1 h3 => posP_end h1 h3
  generalize posP (isnt t a) ls = p at hpl HF HST HEN
  generalize findE ls t a = r at HF ⊢
  have hB0 := below_alloc w (.cells #[.int .i64 t, .int .i64 a] 70)
  have d0 := cell_made (Below.refl (w.alloc (.cells #[.int .i64 t, .int .i64 a] 70)).heap.size (w.alloc (.cells #[.int .i64 t, .int .i64 a] 70))) (k := 0) rfl
  have d1 := cell_made (Below.refl (w.alloc (.cells #[.int .i64 t, .int .i64 a] 70)).heap.size (w.alloc (.cells #[.int .i64 t, .int .i64 a] 70))) (k := 1) rfl
  go_enter Try.func57, Try.ntmps57
  go_wp2_with fail
  go_loopw [5] (fun tk wr => ∃ k : Nat, k ≤ p ∧ tk = .int .i64 (k : Int) ∧ wr.cell? ⟨w.heap.size, 0, none⟩ = some (.int .i64 t) ∧ wr.cell? ⟨w.heap.size, 1, none⟩ = some (.int .i64 a) ∧ Below w.heap.size w wr) (fun tk _ => ls.length - (intOf tk).toNat)
  case atStart => exact ⟨0, Nat.zero_le _, rfl, d0, d1, hB0⟩
  case round =>
    clear d0 d1 hB0
    obtain ⟨k, hk, rfl, d0, d1, hB⟩ := hrel
    by_cases hlt : k < ls.length
    · obtain ⟨g, off, rfl, hg, hc⟩ := hE (by omega)
      obtain ⟨q0, q1, q2⟩ := hc k hlt
      rw [← hB.cell (p := ⟨g, off + k * 3, none⟩) (by show g < _; omega)] at q0
      rw [← hB.cell (p := ⟨g, off + (k * 3 + 1), none⟩) (by show g < _; omega)] at q1
      have j0 : (0 : Int) ≤ (k : Int) := by omega
      have j1 : (k : Int) < (ls.length : Int) := by omega
      have j2 : (k : Int) + 1 < 9223372036854775808 := by omega
      have HS : Hid (isnt t a (enAt ls k) = true → k + 1 ≤ p) := fun h => HST.out k hk hlt h
      have HN : Hid (isnt t a (enAt ls k) = false → k = p) := fun h => HEN.out k hk h
      obtain ⟨x0, x1, x, hee⟩ : ∃ t a x, enAt ls k = (t, a, x) := ⟨_, _, _, rfl⟩
      rw [hee] at q0 q1 HS HN
      replace q0 : wr.cell? ⟨g, off + k * 3, none⟩ = some (.int .i64 x0) := q0
      replace q1 : wr.cell? ⟨g, off + k * 3 + 1, none⟩ = some (.int .i64 x1) := q1
      clear hee hc hE q2 HST HEN
      cases hb : isnt t a (x0, x1, x) with
      | false =>
        have e0 : (x0 == t) = true := by simp [isnt] at hb; simp [hb.1]
        have e1 : (x1 == a) = true := by simp [isnt] at hb; simp [hb.2]
        have H : Hid (k = p) := HN.out hb
        clear HS HN hb
        go_wp2_with fail
        go_quiet (fail)
        go_wp2_with fail
        refine bodyPost_ret (v := .int .i64 (k : Int)) ?_ rfl ⟨by rw [HF.out, if_pos (by have := H.out; omega), ← H.out], below_drewN hB nq⟩
        simp [results, Try.results57, go_sem]
      | true =>
        have H : Hid (k + 1 ≤ p) := HS.out hb
        by_cases h0 : x0 = t
        · have e0 : (x0 == t) = true := by simp [h0]
          have e1 : (x1 == a) = false := by simpa [isnt, h0] using hb
          clear HS HN hb h0
          go_wp2_with fail
          go_quiet (fail)
          go_wp2_with fail
          go_roundw
          case rel => exact ⟨k + 1, H.out, by go_num, d0, d1, below_drewN hB nq⟩
          case measure => simp [intOf]; omega
        · have e0 : (x0 == t) = false := by simp [h0]
          clear HS HN hb h0
          go_wp2_with fail
          go_quiet (fail)
          go_wp2_with fail
          go_roundw
          case rel => exact ⟨k + 1, H.out, by go_num, d0, d1, below_drewN hB nq⟩
          case measure => simp [intOf]; omega
    · have i1 : ¬ (k : Int) < (ls.length : Int) := by omega
      have H : Hid (r = -1) := by
        unfold Hid
        rw [HF.out, if_neg (by omega)]
      go_wp2_with fail
      refine bodyPost_ret (v := .int .i64 (-1)) ?_ rfl ⟨by rw [H.out], hB⟩
      simp [results, Try.results57, go_sem]

end Go.Proofs.Ytdbipcmfolgjgaa
