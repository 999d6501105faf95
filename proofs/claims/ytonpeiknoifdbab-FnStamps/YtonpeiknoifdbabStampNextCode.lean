/- What the code's StampNext does. -/
import Derived.Test.YtonpeiknoifdbabStampNextMax
namespace Go.Proofs.Ytonpeiknoifdbab
open Go.RowKit
set_option linter.unusedVariables false

theorem nextS_long {ls : List (Int × Int)} {c : Int} (h : 4096 < ls.length) : nextS ls c = .tuple #[.agg #[.int .i64 0, .int .i64 0], .int .i64 2] := if_pos h
theorem nextS_bad {ls : List (Int × Int)} {c : Int} (h : ¬ 4096 < ls.length) (hb : ¬ (0 ≤ c ∧ c < 16) ∨ allS ls = false) : nextS ls c = .tuple #[.agg #[.int .i64 0, .int .i64 0], .int .i64 4] := by
  unfold nextS
  rw [if_neg h, if_pos hb]
theorem nextS_good {ls : List (Int × Int)} {c : Int} (h : ¬ 4096 < ls.length) (hc : 0 ≤ c ∧ c < 16) (ha : allS ls = true) : nextS ls c = above (topTo ls ls.length).1 (topTo ls ls.length).2 c := by
  unfold nextS
  rw [if_neg h, if_neg (by simp [hc, ha])]

theorem above_tuple (t a c : Int) : ∃ x y z : Int, above t a c = .tuple #[.agg #[.int .i64 x, .int .i64 y], .int .i64 z] := by
  unfold above
  split
  · exact ⟨_, _, _, rfl⟩
  · exact ⟨_, _, _, rfl⟩

set_option maxHeartbeats 1000000 in
set_option maxRecDepth 100000 in
theorem greatest_any {cap : Nat} (w : World) (g : Nat) (ls : List (Int × Int)) (hg : g < w.heap.size) (hS : SlS w g ls) (hn : ls.length < 9223372036854775807) (hall : allS ls = true) :
    Calls Try.prog 52 #[.slice (some ⟨g, 0, none⟩) ls.length cap] w fun e w' => e = .returned (.agg #[.int .i64 (topTo ls ls.length).1, .int .i64 (topTo ls ls.length).2]) ∧ Below w.heap.size w w' := by
  by_cases hz : ls.length = 0
  · obtain rfl : ls = [] := List.eq_nil_of_length_eq_zero hz
    clear hz
    go_enter Try.func52, Try.ntmps52
    go_wp2_with fail
    refine bodyPost_ret (v := .agg #[.int .i64 0, .int .i64 0]) ?_ rfl ⟨rfl, below_alloc _ _⟩
    simp [results, Try.results52, go_sem]
  · have i1 : ((ls.length : Int) == 0) = false := by rw [beq_eq_false_iff_ne]; omega
    have hM := max_any (cap := cap) (w.alloc (.cells #[.int .i64 0, .int .i64 0] 24)) g ls (by rw [World.size_alloc]; omega) (hS.of_below (below_alloc _ _) hg) hn (by omega) hall
    have HR : Hid (StAt (w.alloc (.cells #[.int .i64 0, .int .i64 0] 24)) w.heap.size 0 0) := StAt.made w 0 0 24
    generalize (topTo ls ls.length).1 = t at hM ⊢
    generalize (topTo ls ls.length).2 = a at hM ⊢
    clear hS hall hz
    go_enter Try.func52, Try.ntmps52
    go_wp2_with ((go_at_call 69; refine hM.mono ?_; rintro e w' ⟨rfl, hb⟩; replace HR : Hid (StAt w' w.heap.size 0 0) := StAt.on HR.out hb; obtain ⟨r0, r1, g0, g1⟩ := HR.out))
    have hr := StAt.put HR.out t a
    refine bodyPost_ret (v := .agg #[.int .i64 t, .int .i64 a]) ?_ rfl ⟨rfl, ?_⟩
    · simp [results, Try.results52, go_sem, hr.1, hr.2.1]
    · exact ((below_seq (below_alloc _ _) hb).setCell (Nat.le_refl _) _).setCell (Nat.le_refl _) _

set_option maxHeartbeats 2000000 in
set_option maxRecDepth 100000 in
theorem implStampNext_any {cap : Nat} (w : World) (g : Nat) (ls : List (Int × Int)) (c : Int) (hg : g < w.heap.size) (hS : SlS w g ls) (hn : ls.length < 9223372036854775807) :
    Calls Try.prog 22 #[.slice (some ⟨g, 0, none⟩) ls.length cap, .int .i64 c] w fun e w' => e = .returned (nextS ls c) ∧ Below w.heap.size w w' := by
  by_cases hl : 4096 < ls.length
  · have HN : Hid _ := nextS_long (c := c) hl
    have i0 : (4096 : Int) < (ls.length : Int) := by omega
    clear hl
    go_enter Try.func22, Try.ntmps22
    go_wp2_with fail
    refine bodyPost_ret (v := nextS ls c) ?_ rfl ⟨rfl, ?_⟩
    · rw [HN.out]
      simp [results, Try.results22, go_sem]
    · exact below_alloc _ _
  · have i0 : (ls.length : Int) ≤ 4096 := by omega
    by_cases hc : 0 ≤ c ∧ c < 16
    · have hA : ∀ w, Calls Try.prog 44 #[.int .i64 c] w fun e w' => e = .returned (.bool true) ∧ w' = w := fun w => by
        have := isActor_any c w
        rwa [decide_eq_true hc] at this
      go_enter Try.func22, Try.ntmps22
      go_wp2_with ((go_at_call 44; refine (hA _).mono ?_; rintro e w' ⟨rfl, rfl⟩))
      go_loopw [18] (fun ti wr => ∃ k : Nat, k ≤ ls.length ∧ ti = .int .i64 (k : Int) ∧ Hid (∀ j, j < k → okS (ls.getD j (0, 0)).1 (ls.getD j (0, 0)).2 = true) ∧ Hid (StAt wr w.heap.size 0 0) ∧ Below w.heap.size w wr) (fun ti _ => ls.length - (intOf ti).toNat)
      case atStart => exact ⟨0, Nat.zero_le _, rfl, fun j hj => absurd hj (Nat.not_lt_zero _), StAt.made w 0 0 24, below_alloc _ _⟩
      case round =>
        obtain ⟨k, hk, rfl, HK, HR, hB⟩ := hrel
        by_cases hlt : k < ls.length
        · have d0 := hB.cell (p := ⟨g, k * 2, none⟩) hg
          have d1 := hB.cell (p := ⟨g, k * 2 + 1, none⟩) hg
          rw [(hS k hlt).1] at d0
          rw [(hS k hlt).2] at d1
          have j0 : (0 : Int) ≤ (k : Int) := by omega
          have j1 : (k : Int) < (ls.length : Int) := by omega
          have j2 : (k : Int) + 1 < 9223372036854775808 := by omega
          cases ho : okS (ls.getD k (0, 0)).1 (ls.getD k (0, 0)).2 with
          | true =>
            have HK' : Hid (∀ j, j < k + 1 → okS (ls.getD j (0, 0)).1 (ls.getD j (0, 0)).2 = true) := fun j hj => by
              by_cases e : j = k
              · rw [e]; exact ho
              · exact HK.out j (by omega)
            have hO : ∀ w, Calls Try.prog 50 #[.agg #[.int .i64 (ls.getD k (0, 0)).1, .int .i64 (ls.getD k (0, 0)).2]] w fun e w' => e = .returned (.bool true) ∧ Below w.heap.size w w' := fun w => ho ▸ stampOrNone_any _ _ w
            clear ho HK
            generalize (ls.getD k (0, 0)).1 = t at d0 hO
            generalize (ls.getD k (0, 0)).2 = a at d1 hO
            go_wp2_with ((go_at_call 50; refine (hO _).mono ?_; rintro e w' ⟨rfl, hb⟩))
            have hb' := below_seq (below_alloc _ _) hb
            exact ⟨⟨k + 1, by omega, by go_num, HK', StAt.on HR.out hb', below_seq hB hb'⟩, by simp [intOf]; omega⟩
          | false =>
            have HN : Hid _ := nextS_bad (c := c) hl (.inr (allS_not hlt ho))
            have hO : ∀ w, Calls Try.prog 50 #[.agg #[.int .i64 (ls.getD k (0, 0)).1, .int .i64 (ls.getD k (0, 0)).2]] w fun e w' => e = .returned (.bool false) ∧ Below w.heap.size w w' := fun w => ho ▸ stampOrNone_any _ _ w
            clear ho HK
            generalize (ls.getD k (0, 0)).1 = t at d0 hO
            generalize (ls.getD k (0, 0)).2 = a at d1 hO
            go_wp2_with ((go_at_call 50; refine (hO _).mono ?_; rintro e w' ⟨rfl, hb⟩; have hb' := below_seq (below_alloc _ _) hb; replace HR : Hid (StAt w' w.heap.size 0 0) := StAt.on HR.out hb'; obtain ⟨r0, r1, g0, g1⟩ := HR.out))
            have hr := StAt.put HR.out 0 0
            refine bodyPost_ret (v := nextS ls c) ?_ rfl ⟨rfl, ?_⟩
            · rw [HN.out]
              simp [results, Try.results22, go_sem, hr.1, hr.2.1]
            · exact ((below_seq hB hb').setCell (Nat.le_refl _) _).setCell (Nat.le_refl _) _
        · obtain rfl : k = ls.length := by omega
          have hall := allS_of HK.out
          have hN := nextS_good hl hc hall
          have hbd := okS_bd (topTo_ok hall ls.length)
          have hV : ∀ w, Calls Try.prog 51 #[.agg #[.int .i64 (topTo ls ls.length).1, .int .i64 (topTo ls ls.length).2], .int .i64 c] w fun e w' => e = .returned (above (topTo ls ls.length).1 (topTo ls ls.length).2 c) ∧ Below w.heap.size w w' := fun w => stampAbove_any _ _ c (by omega) (by omega) w
          obtain ⟨x, y, z, hx⟩ := above_tuple (topTo ls ls.length).1 (topTo ls ls.length).2 c
          rw [hx] at hN hV
          have HN : Hid _ := hN
          clear hbd HK hl hx hN
          have hS' := hS.of_below hB hg
          have hlt' := Nat.lt_of_lt_of_le hg hB.size
          have hM := greatest_any (cap := cap) wr g ls hlt' hS' hn hall
          generalize (topTo ls ls.length).1 = t at hV hM
          generalize (topTo ls ls.length).2 = a at hV hM
          go_wp2_with ((first | (go_at_call 52; refine hM.mono ?_; rintro e w' ⟨rfl, hb⟩; replace hB := below_seq hB hb; replace HR : Hid (StAt w' w.heap.size 0 0) := StAt.on HR.out hb; clear hb hS') | (go_at_call 51; refine (hV _).mono ?_; rintro e w' ⟨rfl, hb⟩; replace hB := below_seq hB hb; replace HR : Hid (StAt w' w.heap.size 0 0) := StAt.on HR.out hb; clear hb; obtain ⟨r0, r1, g0, g1⟩ := HR.out)))
          have hr := StAt.put HR.out x y
          refine bodyPost_ret (v := .tuple #[.agg #[.int .i64 x, .int .i64 y], .int .i64 z]) ?_ rfl ⟨by rw [HN.out], ?_⟩
          · simp [results, Try.results22, go_sem, hr.1, hr.2.1]
          · exact (hB.setCell (Nat.le_refl _) _).setCell (Nat.le_refl _) _
    · have HN : Hid _ := nextS_bad (ls := ls) hl (.inl hc)
      have hA : ∀ w, Calls Try.prog 44 #[.int .i64 c] w fun e w' => e = .returned (.bool false) ∧ w' = w := fun w => by
        have := isActor_any c w
        rwa [decide_eq_false hc] at this
      clear hc hl
      go_enter Try.func22, Try.ntmps22
      go_wp2_with ((go_at_call 44; refine (hA _).mono ?_; rintro e w' ⟨rfl, rfl⟩))
      refine bodyPost_ret (v := nextS ls c) ?_ rfl ⟨rfl, ?_⟩
      · rw [HN.out]
        simp [results, Try.results22, go_sem]
      · exact below_alloc _ _

end Go.Proofs.Ytonpeiknoifdbab
