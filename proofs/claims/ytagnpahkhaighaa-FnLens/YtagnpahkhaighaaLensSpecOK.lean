/- What the specification's l14Name and l14LensOK answer: just whether the lens is valid. -/
import Derived.Test.YtagnpahkhaighaaLensOK
namespace Go.Proofs.Ytagnpahkhaighaa
open Go.RowKit
set_option linter.unusedVariables false

theorem empty_size (s : ByteArray) : s.toList.isEmpty = decide (s.size = 0) := by
  have : s.toList.length = s.size := by rw [ByteArray.toList_eq]; simp
  cases h : s.toList with
  | nil => rw [h] at this; simp at this; simp [this.symm]
  | cons a r => rw [h] at this; simp at this; simp [← this]
theorem keyB_eq (s : ByteArray) : keyB s = (decide (1 ≤ s.size) && decide (s.size ≤ 200)) := by
  unfold keyB
  rw [empty_size]
  by_cases h : s.size = 0
  · simp [h]
  · have : 1 ≤ s.size := by omega
    simp [h, this]

set_option maxHeartbeats 400000 in
theorem l14Name_any (s : ByteArray) (w : World) :
    Calls Try.prog 43 #[.string s] w fun e w' => e = .returned (.bool (keyB s)) ∧ w' = w := by
  have hK : Hid (keyB s = (decide (1 ≤ s.size) && decide (s.size ≤ 200))) := keyB_eq s
  by_cases h : 1 ≤ s.size
  · have j : (1 : Int) ≤ (s.size : Int) := by omega
    have j' : ¬ (s.size : Int) < 1 := by omega
    go_enter Try.func43, Try.ntmps43
    go_wp2_with fail
    go_ret
    exact ⟨by rw [hK.out, decide_eq_true h]; simp; try omega, rfl⟩
  · have j : ¬ (1 : Int) ≤ (s.size : Int) := by omega
    have j' : (s.size : Int) < 1 := by omega
    go_enter Try.func43, Try.ntmps43
    go_wp2_with fail
    go_ret
    exact ⟨by rw [hK.out, decide_eq_false h]; simp, rfl⟩

set_option maxHeartbeats 4000000 in
set_option maxRecDepth 100000 in
theorem l14LensOK_any (C : Nat) (w : World) (v : Value) (ls : List St) (hl : ls.length ≤ 1048576) (hC : C ≤ w.heap.size) (hr : RdSt C w v ls) :
    Calls Try.prog 26 #[v] w fun r w' => r = .returned (.bool (okLens ls)) ∧ Below w.heap.size w w' := by
  obtain ⟨ao, cap, rfl, hr⟩ := hr
  by_cases h32 : 32 < ls.length
  · have HO : Hid (okLens ls = false) := by unfold Hid okLens; rw [decide_eq_false (by omega), Bool.false_and]
    have j : (32 : Int) < (ls.length : Int) := by omega
    go_enter Try.func26, Try.ntmps26
    go_wp2_with fail
    go_ret
    exact ⟨by rw [HO.out]; rfl, Below.refl _ _⟩
  · have j : ¬ (32 : Int) < (ls.length : Int) := by omega
    have HL : Hid (okLens ls = ls.all okSt) := by unfold Hid okLens; rw [decide_eq_true (by omega), Bool.true_and]
    have HBAD : Hid (∀ k, k < ls.length → okSt (stAt ls k) = false → okLens ls = false) := fun k h hb => okLens_bad h hb
    go_enter Try.func26, Try.ntmps26
    go_wp2_with fail
    go_loopw [3] (fun ti wr => ∃ k : Nat, k ≤ ls.length ∧ ti = .int .i64 (k : Int) ∧ Hid ((ls.take k).all okSt = true) ∧ Below w.heap.size w wr) (fun ti _ => ls.length - (intOf ti).toNat)
    case atStart => exact ⟨0, Nat.zero_le _, rfl, by simp [Hid], Below.refl _ _⟩
    case round =>
      obtain ⟨k, hk, rfl, HA, hB⟩ := hrel
      have hsz := hB.size
      by_cases hlt : k < ls.length
      · obtain ⟨g, off, rfl, hg, hc⟩ := hr (by omega)
        have d0 : wr.cell? ⟨g, off + k * 4, none⟩ = _ := (hB.cell (p := ⟨g, off + k * 4, none⟩) (by show g < _; omega)).trans (hc k hlt).1
        have d1 : wr.cell? ⟨g, off + k * 4 + 1, none⟩ = _ := (hB.cell (p := ⟨g, off + (k * 4 + 1), none⟩) (by show g < _; omega)).trans (hc k hlt).2.1
        have d2 : wr.cell? ⟨g, off + k * 4 + 2, none⟩ = _ := (hB.cell (p := ⟨g, off + (k * 4 + 2), none⟩) (by show g < _; omega)).trans (hc k hlt).2.2.1
        have d3 : wr.cell? ⟨g, off + k * 4 + 3, none⟩ = _ := (hB.cell (p := ⟨g, off + (k * 4 + 3), none⟩) (by show g < _; omega)).trans (hc k hlt).2.2.2
        have j0 : (0 : Int) ≤ (k : Int) := by omega
        have j1 : (k : Int) < (ls.length : Int) := by omega
        have j2 : (k : Int) + 1 < 9223372036854775808 := by omega
        have HNX : Hid (okSt (stAt ls k) = true → (ls.take (k + 1)).all okSt = true) := fun h => by rw [okLens_take hlt HA.out]; exact h
        have HBk : Hid (okSt (stAt ls k) = false → okLens ls = false) := HBAD.out k hlt
        have HD : Hid (∀ e : St, okSt e = if e.1 = 1 then keyB e.2.1 && keyB e.2.2.1 && !(e.2.1.toList == e.2.2.1.toList) && e.2.2.2.toList.isEmpty else if e.1 = 2 ∨ e.1 = 3 then keyB e.2.1 && e.2.2.1.toList.isEmpty && decide (e.2.2.2.size ≤ 200) else false) := fun e => rfl
        generalize stAt ls k = e at *
        obtain ⟨x, y, z, u⟩ := e
        replace d0 : wr.cell? ⟨g, off + k * 4, none⟩ = some (.int .i64 x) := d0
        replace d1 : wr.cell? ⟨g, off + k * 4 + 1, none⟩ = some (.string y) := d1
        replace d2 : wr.cell? ⟨g, off + k * 4 + 2, none⟩ = some (.string z) := d2
        replace d3 : wr.cell? ⟨g, off + k * 4 + 3, none⟩ = some (.string u) := d3
        have HO : Hid (okSt (x, y, z, u) = if x = 1 then keyB y && keyB z && !(y.toList == z.toList) && u.toList.isEmpty else if x = 2 ∨ x = 3 then keyB y && z.toList.isEmpty && decide (u.size ≤ 200) else false) := rfl
        have hu63 : (u.size : Int) ≤ 200 ↔ u.size ≤ 200 := by omega
        have hB1 := below_then hB (.cells #[.int .i64 x, .string y, .string z, .string u] 43)
        have HEND : Hid (Below w.heap.size w (wr.alloc (.cells #[.int .i64 x, .string y, .string z, .string u] 43))) := hB1
        clear hc hr HD HBAD HL HA hB1
        generalize okSt (x, y, z, u) = ok at *
        by_cases h1 : x = 1
        · subst h1
          cases hb1 : keyB y with
          | false =>
            have HF : Hid (okLens ls = false) := HBk.out (by rw [HO.out]; simp [hb1])
            clear HO HBk HNX
            go_wp2_with (go_at_call 43; refine (l14Name_any _ _).mono ?_; rintro e w' ⟨rfl, hw⟩; obtain rfl := hw.symm; first | rw [hb1] | rw [hb2] | skip)
            go_ret
            exact ⟨by rw [HF.out]; rfl, HEND.out⟩
          | true =>
            cases hb2 : keyB z with
            | false =>
              have HF : Hid (okLens ls = false) := HBk.out (by rw [HO.out]; simp [hb1, hb2])
              clear HO HBk HNX
              go_wp2_with (go_at_call 43; refine (l14Name_any _ _).mono ?_; rintro e w' ⟨rfl, hw⟩; obtain rfl := hw.symm; first | rw [hb1] | rw [hb2] | skip)
              go_ret
              exact ⟨by rw [HF.out]; rfl, HEND.out⟩
            | true =>
              have hcm : (z.toList == y.toList) = (y.toList == z.toList) := Bool.beq_comm
              cases hq : (y.toList == z.toList) with
              | true =>
                rw [hq] at hcm
                have e1 : z.toList = y.toList := by simpa using hcm
                have HF : Hid (okLens ls = false) := HBk.out (by rw [HO.out]; simp [hb1, hb2, hq])
                clear HO HBk HNX
                go_wp2_with (go_at_call 43; refine (l14Name_any _ _).mono ?_; rintro e w' ⟨rfl, hw⟩; obtain rfl := hw.symm; first | rw [hb1] | rw [hb2] | skip)
                go_ret
                exact ⟨by rw [HF.out]; rfl, HEND.out⟩
              | false =>
                rw [hq] at hcm
                have e1 : ¬ z.toList = y.toList := by simpa using hcm
                cases hu : u.toList.isEmpty with
                | true =>
                  have e2 : u.toList = [] := by simpa using hu
                  have HG : Hid ((ls.take (k + 1)).all okSt = true) := HNX.out (by rw [HO.out]; simp [hb1, hb2, hq, hu])
                  clear HO HBk HNX
                  go_wp2_with (go_at_call 43; refine (l14Name_any _ _).mono ?_; rintro e w' ⟨rfl, hw⟩; obtain rfl := hw.symm; first | rw [hb1] | rw [hb2] | skip)
                  go_roundw
                  case rel => exact ⟨k + 1, by omega, by go_num, HG, HEND.out⟩
                  case measure => simp [intOf]; omega
                | false =>
                  have e2 : ¬ u.toList = [] := by simpa using hu
                  have HF : Hid (okLens ls = false) := HBk.out (by rw [HO.out]; simp [hb1, hb2, hq, hu])
                  clear HO HBk HNX
                  go_wp2_with (go_at_call 43; refine (l14Name_any _ _).mono ?_; rintro e w' ⟨rfl, hw⟩; obtain rfl := hw.symm; first | rw [hb1] | rw [hb2] | skip)
                  go_ret
                  exact ⟨by rw [HF.out]; rfl, HEND.out⟩
        · by_cases h23 : x = 2 ∨ x = 3
          · cases hb1 : keyB y with
            | false =>
              rcases h23 with rfl | rfl
              · skip
                have HF : Hid (okLens ls = false) := HBk.out (by rw [HO.out]; simp [hb1])
                clear HO HBk HNX
                go_wp2_with (go_at_call 43; refine (l14Name_any _ _).mono ?_; rintro e w' ⟨rfl, hw⟩; obtain rfl := hw.symm; first | rw [hb1] | rw [hb2] | skip)
                go_ret
                exact ⟨by rw [HF.out]; rfl, HEND.out⟩
              · skip
                have HF : Hid (okLens ls = false) := HBk.out (by rw [HO.out]; simp [hb1])
                clear HO HBk HNX
                go_wp2_with (go_at_call 43; refine (l14Name_any _ _).mono ?_; rintro e w' ⟨rfl, hw⟩; obtain rfl := hw.symm; first | rw [hb1] | rw [hb2] | skip)
                go_ret
                exact ⟨by rw [HF.out]; rfl, HEND.out⟩
            | true =>
              cases hz : z.toList.isEmpty with
              | false =>
                have e1 : ¬ z.toList = [] := by simpa using hz
                rcases h23 with rfl | rfl
                · skip
                  have HF : Hid (okLens ls = false) := HBk.out (by rw [HO.out]; simp [hb1, hz])
                  clear HO HBk HNX
                  go_wp2_with (go_at_call 43; refine (l14Name_any _ _).mono ?_; rintro e w' ⟨rfl, hw⟩; obtain rfl := hw.symm; first | rw [hb1] | rw [hb2] | skip)
                  go_ret
                  exact ⟨by rw [HF.out]; rfl, HEND.out⟩
                · skip
                  have HF : Hid (okLens ls = false) := HBk.out (by rw [HO.out]; simp [hb1, hz])
                  clear HO HBk HNX
                  go_wp2_with (go_at_call 43; refine (l14Name_any _ _).mono ?_; rintro e w' ⟨rfl, hw⟩; obtain rfl := hw.symm; first | rw [hb1] | rw [hb2] | skip)
                  go_ret
                  exact ⟨by rw [HF.out]; rfl, HEND.out⟩
              | true =>
                have e1 : z.toList = [] := by simpa using hz
                by_cases h2 : u.size ≤ 200
                · have e2 : (u.size : Int) ≤ 200 := by omega
                  rcases h23 with rfl | rfl
                  · skip
                    have HG : Hid ((ls.take (k + 1)).all okSt = true) := HNX.out (by rw [HO.out]; simp [hb1, hz, h2])
                    clear HO HBk HNX
                    go_wp2_with (go_at_call 43; refine (l14Name_any _ _).mono ?_; rintro e w' ⟨rfl, hw⟩; obtain rfl := hw.symm; first | rw [hb1] | rw [hb2] | skip)
                    go_roundw
                    case rel => exact ⟨k + 1, by omega, by go_num, HG, HEND.out⟩
                    case measure => simp [intOf]; omega
                  · skip
                    have HG : Hid ((ls.take (k + 1)).all okSt = true) := HNX.out (by rw [HO.out]; simp [hb1, hz, h2])
                    clear HO HBk HNX
                    go_wp2_with (go_at_call 43; refine (l14Name_any _ _).mono ?_; rintro e w' ⟨rfl, hw⟩; obtain rfl := hw.symm; first | rw [hb1] | rw [hb2] | skip)
                    go_roundw
                    case rel => exact ⟨k + 1, by omega, by go_num, HG, HEND.out⟩
                    case measure => simp [intOf]; omega
                · have e2 : ¬ (u.size : Int) ≤ 200 := by omega
                  rcases h23 with rfl | rfl
                  · skip
                    have HF : Hid (okLens ls = false) := HBk.out (by rw [HO.out]; simp [hb1, hz, h2])
                    clear HO HBk HNX
                    go_wp2_with (go_at_call 43; refine (l14Name_any _ _).mono ?_; rintro e w' ⟨rfl, hw⟩; obtain rfl := hw.symm; first | rw [hb1] | rw [hb2] | skip)
                    go_ret
                    exact ⟨by rw [HF.out]; rfl, HEND.out⟩
                  · skip
                    have HF : Hid (okLens ls = false) := HBk.out (by rw [HO.out]; simp [hb1, hz, h2])
                    clear HO HBk HNX
                    go_wp2_with (go_at_call 43; refine (l14Name_any _ _).mono ?_; rintro e w' ⟨rfl, hw⟩; obtain rfl := hw.symm; first | rw [hb1] | rw [hb2] | skip)
                    go_ret
                    exact ⟨by rw [HF.out]; rfl, HEND.out⟩
          · have h2 : ¬ x = 2 := fun e => h23 (.inl e)
            have h3 : ¬ x = 3 := fun e => h23 (.inr e)
            have HF : Hid (okLens ls = false) := HBk.out (by rw [HO.out]; simp [h1, h2, h3])
            have e1 : (x == 1) = false := by simpa using h1
            have e2 : (x == 2) = false := by simpa using h2
            have e3 : (x == 3) = false := by simpa using h3
            have hN := fun w => l14Name_any y w
            generalize keyB y = bb at hN
            clear h1 h2 h3 h23 HO HBk HNX hu63
            go_wp2_with (go_at_call 43; refine (hN _).mono ?_; rintro e w' ⟨rfl, hw⟩; obtain rfl := hw.symm)
            go_ret
            exact ⟨by rw [HF.out]; rfl, HEND.out⟩
      · obtain rfl : k = ls.length := by omega
        have HT : Hid (okLens ls = true) := by unfold Hid; rw [HL.out]; have := HA.out; rwa [List.take_length] at this
        have hn : ¬ (ls.length : Int) < (ls.length : Int) := by omega
        go_wp2_with fail
        go_ret
        exact ⟨by rw [HT.out]; rfl, hB⟩
end Go.Proofs.Ytagnpahkhaighaa
