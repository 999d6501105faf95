/- What the specification's l14Flip and LensFlip answer. -/
import Derived.Test.YtagnpahkhaighaaLensFlipImpl
import Derived.Test.YtagnpahkhaighaaLensSpecOK
namespace Go.Proofs.Ytagnpahkhaighaa
open Go.RowKit
set_option linter.unusedVariables false

theorem empty_of {s : ByteArray} (h : s.toList.isEmpty = true) : s = ⟨#[]⟩ := by
  have h1 : s.toList = [] := by simpa using h
  rw [ByteArray.toList_eq] at h1
  cases s with
  | mk d => simp at h1; subst h1; rfl
/-- The flipped step as the specification has it. -/
theorem flipE_ok {k : Int} {n t x : ByteArray} (h : okSt (k, n, t, x) = true) : (k = 1 ∧ flipE (k, n, t, x) = (1, t, n, ⟨#[]⟩)) ∨ (k = 2 ∧ flipE (k, n, t, x) = (3, n, t, x)) ∨ (k = 3 ∧ flipE (k, n, t, x) = (2, n, t, x)) := by
  unfold okSt at h
  by_cases h1 : k = 1
  · subst h1
    exact .inl ⟨rfl, rfl⟩
  · simp only [h1, if_false] at h
    by_cases h2 : k = 2
    · subst h2
      simp only [true_or, if_true, Bool.and_eq_true] at h
      have := empty_of h.1.2
      subst this
      exact .inr (.inl ⟨rfl, rfl⟩)
    · by_cases h3 : k = 3
      · subst h3
        simp only [or_true, if_true, Bool.and_eq_true] at h
        have := empty_of h.1.2
        subst this
        exact .inr (.inr ⟨rfl, rfl⟩)
      · simp [h2, h3] at h
theorem four_new1 (w : World) (X : Obj) (x y z u : Value) (t : TypeId) : ∀ j v, [x, y, z, u][j]? = some v → ((w.alloc X).alloc (.cells #[x, y, z, u] t)).cell? ((⟨w.heap.size + 1, 0, none⟩ : Addr).add j) = some v := by
  have := four_new (w.alloc X) x y z u t
  rwa [World.size_alloc] at this
theorem okLens_at {a : List St} {k : Nat} (h : okLens a = true) (hk : k < a.length) : okSt (stAt a k) = true := by
  unfold okLens at h
  rw [Bool.and_eq_true] at h
  exact List.all_eq_true.1 h.2 _ (stAt_mem hk)

set_option maxHeartbeats 4000000 in
set_option maxRecDepth 100000 in
theorem l14Flip_any (C : Nat) (w : World) (v : Value) (a : List St) (hok : okLens a = true) (hC : C ≤ w.heap.size) (hr : RdSt C w v a) :
    Calls Try.prog 39 #[v] w fun e w' => ∃ r, e = .returned r ∧ OwnSt w' w.heap.size r (flipL a) ∧ Below w.heap.size w w' := by
  obtain ⟨i0, hi, hz0, hz1, hz2⟩ := info_parts infoStep
  have HL : Hid (flipL a = flipP a (fr a.length 0)) := by unfold Hid flipL; rw [hok, flipP_all]; rfl
  have l32 : a.length ≤ 32 := by
    unfold okLens at hok
    rw [Bool.and_eq_true] at hok
    exact of_decide_eq_true hok.1
  have HOK : Hid (∀ k, k < a.length → okSt (stAt a k) = true) := fun k hk => okLens_at hok hk
  generalize flipL a = fl at *
  clear hok
  obtain ⟨ao, cap, rfl, hr⟩ := hr
  have hz : (w.alloc (.cells #[] 43)).ownsRow w.heap.size 43 4 (.slice (some ⟨w.heap.size, 0, none⟩) 0 0) 0 [] := World.ownsRow_lit w #[] 0 (Nat.le_refl _) (by decide) (by simp)
  have HZ : Hid (OwnSt (w.alloc (.cells #[] 43)) w.heap.size (.slice (some ⟨w.heap.size, 0, none⟩) 0 0) (flipP a (fr a.length a.length))) := by rw [fr_all]; exact hz
  clear hz
  go_enter Try.func39, Try.ntmps39
  go_wp2_with fail
  go_loopw [3, 4] (fun ts ti wr => ∃ m : Nat, m ≤ a.length ∧ ti = .int .i64 ((m : Int) - 1) ∧ Hid (OwnSt wr w.heap.size ts (flipP a (fr a.length m))) ∧ Below w.heap.size w wr) (fun _ ti _ => (intOf ti + 1).toNat)
  case atStart => exact ⟨a.length, Nat.le_refl _, rfl, HZ, below_alloc _ _⟩
  case round =>
    clear HZ
    obtain ⟨m, hm, rfl, HW, hB⟩ := hrel
    have hsz := hB.size
    obtain ⟨fa, fcp, hfv⟩ := own_sliceM HW.out
    subst hfv
    cases m with
    | zero =>
      have HR : Hid (OwnSt wr w.heap.size (.slice fa (flipP a (fr a.length 0)).length fcp) fl) := by rw [HL.out]; exact HW.out
      have hj : ¬ (0 : Int) ≤ ((0 : Nat) : Int) - 1 := by omega
      clear HW
      go_wp2_with fail
      go_ret
      exact ⟨_, rfl, HR.out, hB⟩
    | succ k =>
      have hlt : k < a.length := by omega
      rw [show (((k + 1 : Nat) : Int) - 1) = (k : Int) by omega]
      obtain ⟨g, off, rfl, hg, hc⟩ := hr (by omega)
      have d0 : wr.cell? ⟨g, off + k * 4, none⟩ = _ := (hB.cell (p := ⟨g, off + k * 4, none⟩) (by show g < _; omega)).trans (hc k hlt).1
      have d1 : wr.cell? ⟨g, off + k * 4 + 1, none⟩ = _ := (hB.cell (p := ⟨g, off + (k * 4 + 1), none⟩) (by show g < _; omega)).trans (hc k hlt).2.1
      have d2 : wr.cell? ⟨g, off + k * 4 + 2, none⟩ = _ := (hB.cell (p := ⟨g, off + (k * 4 + 2), none⟩) (by show g < _; omega)).trans (hc k hlt).2.2.1
      have d3 : wr.cell? ⟨g, off + k * 4 + 3, none⟩ = _ := (hB.cell (p := ⟨g, off + (k * 4 + 3), none⟩) (by show g < _; omega)).trans (hc k hlt).2.2.2
      have j0 : (0 : Int) ≤ (k : Int) := by omega
      have j1 : (k : Int) < (a.length : Int) := by omega
      have HF : Hid (flipP a (fr a.length k) = flipP a (fr a.length (k + 1)) ++ [flipE (stAt a k)]) := by unfold Hid flipP; rw [fr_step hlt, List.map_append]; rfl
      have hlen : (flipP a (fr a.length (k + 1))).length ≤ 32 := by unfold flipP; rw [List.length_map, fr_len]; omega
      have hfe := HOK.out k hlt
      generalize flipP a (fr a.length (k + 1)) = FP at *
      generalize stAt a k = e at *
      obtain ⟨x, y, z, u⟩ := e
      replace d0 : wr.cell? ⟨g, off + k * 4, none⟩ = some (.int .i64 x) := d0
      replace d1 : wr.cell? ⟨g, off + k * 4 + 1, none⟩ = some (.string y) := d1
      replace d2 : wr.cell? ⟨g, off + k * 4 + 2, none⟩ = some (.string z) := d2
      replace d3 : wr.cell? ⟨g, off + k * 4 + 3, none⟩ = some (.string u) := d3
      have hcase := flipE_ok hfe
      clear hc hr HOK hfe
      rcases hcase with ⟨rfl, hE⟩ | ⟨rfl, hE⟩ | ⟨rfl, hE⟩
      · rw [hE] at HF
        clear hE
        have hoW : ((wr.alloc (.cells #[.int .i64 1, .string z, .string y, .string ⟨#[]⟩] 43)).alloc (.cells #[.int .i64 1, .string z, .string y, .string ⟨#[]⟩] 43)).ownsRow w.heap.size 43 4 (.slice fa FP.length fcp) FP.length (stCs FP) := World.ownsRow.alloc (World.ownsRow.alloc HW.out _) _
        have hbW : Below w.heap.size w ((wr.alloc (.cells #[.int .i64 1, .string z, .string y, .string ⟨#[]⟩] 43)).alloc (.cells #[.int .i64 1, .string z, .string y, .string ⟨#[]⟩] 43)) := below_then (below_then hB _) _
        have hlo := fun q hq => (World.ownsRow.lt HW.out q hq).1
        clear HW
        go_wp2_with (at_builtin; refine wpList_append_own _ rfl _ _ 29 rfl w.heap.size 43 i0 (.agg #[.int .i64 0, .string ByteArray.empty, .string ByteArray.empty, .string ByteArray.empty]) 4 56 Try.underlying29 hi hz0 hz1 hz2 rfl (by decide) _ _ _ rfl hoW ⟨wr.heap.size + 1, 0, none⟩ 1 1 [.int .i64 1, .string z, .string y, .string ⟨#[]⟩] rfl rfl (four_new1 _ _ _ _ _ _ _) (by simp [Value.oneCell']) (by unfold maxLen; omega) (by omega) hbW.size ?_)
        intro v6 w6 ho6 hg6 _
        have hB6 : Below w.heap.size w w6 := hbW.grown hg6 hbW.size hlo
        have HO6 : Hid (OwnSt w6 w.heap.size v6 (flipP a (fr a.length k))) := by
          rw [HF.out]
          unfold OwnSt
          rw [stCs_app, List.length_append]
          show w6.ownsRow w.heap.size 43 4 v6 (FP.length + 1) (stCs FP ++ ([.int .i64 1, .string z, .string y, .string ⟨#[]⟩] ++ []))
          rw [List.append_nil]
          exact ho6
        clear ho6 hg6 hoW hbW hlo
        go_wp2_with fail
        go_roundw
        case rel => exact ⟨k, by omega, by go_num, HO6, hB6⟩
        case measure => simp [intOf]
      · rw [hE] at HF
        clear hE
        have hoW : ((wr.alloc (.cells #[.int .i64 3, .string y, .string z, .string u] 43)).alloc (.cells #[.int .i64 3, .string y, .string z, .string u] 43)).ownsRow w.heap.size 43 4 (.slice fa FP.length fcp) FP.length (stCs FP) := World.ownsRow.alloc (World.ownsRow.alloc HW.out _) _
        have hbW : Below w.heap.size w ((wr.alloc (.cells #[.int .i64 3, .string y, .string z, .string u] 43)).alloc (.cells #[.int .i64 3, .string y, .string z, .string u] 43)) := below_then (below_then hB _) _
        have hlo := fun q hq => (World.ownsRow.lt HW.out q hq).1
        clear HW
        go_wp2_with (at_builtin; refine wpList_append_own _ rfl _ _ 29 rfl w.heap.size 43 i0 (.agg #[.int .i64 0, .string ByteArray.empty, .string ByteArray.empty, .string ByteArray.empty]) 4 56 Try.underlying29 hi hz0 hz1 hz2 rfl (by decide) _ _ _ rfl hoW ⟨wr.heap.size + 1, 0, none⟩ 1 1 [.int .i64 3, .string y, .string z, .string u] rfl rfl (four_new1 _ _ _ _ _ _ _) (by simp [Value.oneCell']) (by unfold maxLen; omega) (by omega) hbW.size ?_)
        intro v6 w6 ho6 hg6 _
        have hB6 : Below w.heap.size w w6 := hbW.grown hg6 hbW.size hlo
        have HO6 : Hid (OwnSt w6 w.heap.size v6 (flipP a (fr a.length k))) := by
          rw [HF.out]
          unfold OwnSt
          rw [stCs_app, List.length_append]
          show w6.ownsRow w.heap.size 43 4 v6 (FP.length + 1) (stCs FP ++ ([.int .i64 3, .string y, .string z, .string u] ++ []))
          rw [List.append_nil]
          exact ho6
        clear ho6 hg6 hoW hbW hlo
        go_wp2_with fail
        go_roundw
        case rel => exact ⟨k, by omega, by go_num, HO6, hB6⟩
        case measure => simp [intOf]
      · rw [hE] at HF
        clear hE
        have hoW : ((wr.alloc (.cells #[.int .i64 2, .string y, .string z, .string u] 43)).alloc (.cells #[.int .i64 2, .string y, .string z, .string u] 43)).ownsRow w.heap.size 43 4 (.slice fa FP.length fcp) FP.length (stCs FP) := World.ownsRow.alloc (World.ownsRow.alloc HW.out _) _
        have hbW : Below w.heap.size w ((wr.alloc (.cells #[.int .i64 2, .string y, .string z, .string u] 43)).alloc (.cells #[.int .i64 2, .string y, .string z, .string u] 43)) := below_then (below_then hB _) _
        have hlo := fun q hq => (World.ownsRow.lt HW.out q hq).1
        clear HW
        go_wp2_with (at_builtin; refine wpList_append_own _ rfl _ _ 29 rfl w.heap.size 43 i0 (.agg #[.int .i64 0, .string ByteArray.empty, .string ByteArray.empty, .string ByteArray.empty]) 4 56 Try.underlying29 hi hz0 hz1 hz2 rfl (by decide) _ _ _ rfl hoW ⟨wr.heap.size + 1, 0, none⟩ 1 1 [.int .i64 2, .string y, .string z, .string u] rfl rfl (four_new1 _ _ _ _ _ _ _) (by simp [Value.oneCell']) (by unfold maxLen; omega) (by omega) hbW.size ?_)
        intro v6 w6 ho6 hg6 _
        have hB6 : Below w.heap.size w w6 := hbW.grown hg6 hbW.size hlo
        have HO6 : Hid (OwnSt w6 w.heap.size v6 (flipP a (fr a.length k))) := by
          rw [HF.out]
          unfold OwnSt
          rw [stCs_app, List.length_append]
          show w6.ownsRow w.heap.size 43 4 v6 (FP.length + 1) (stCs FP ++ ([.int .i64 2, .string y, .string z, .string u] ++ []))
          rw [List.append_nil]
          exact ho6
        clear ho6 hg6 hoW hbW hlo
        go_wp2_with fail
        go_roundw
        case rel => exact ⟨k, by omega, by go_num, HO6, hB6⟩
        case measure => simp [intOf]

set_option maxHeartbeats 1000000 in
set_option maxRecDepth 100000 in
theorem specFlip_any (C : Nat) (w : World) (v : Value) (a : List St) (hl : a.length ≤ 1048576) (hC : C ≤ w.heap.size) (hr : RdM 4 C w v a.length (stCs a)) :
    Calls Try.prog 22 #[v] w fun e w' => ∃ r, e = .returned (.tuple #[r, .int .i64 (flipC a)]) ∧ OwnSt w' w.heap.size r (flipL a) ∧ Below w.heap.size w w' := by
  have hA := l14LensOK_any C w v a hl hC hr.st
  have hF := fun w' (hw : Below w.heap.size w w') (h : okLens a = true) => l14Flip_any C w' v a h (Nat.le_trans hC hw.size) (hr.on hC hw).st
  have hv : ∃ va vc, v = .slice va a.length vc := by obtain ⟨_, va, vc, h, _⟩ := hr; exact ⟨_, _, h⟩
  obtain ⟨va, vc, rfl⟩ := hv
  clear hr
  cases hok : okLens a with
  | false =>
    have HE1 : Hid (flipC a = 1) := by unfold Hid flipC; rw [hok]; rfl
    have HE2 : Hid (flipL a = []) := by unfold Hid flipL; rw [hok]; rfl
    rw [hok] at hA
    clear hF hok
    go_enter Try.func22, Try.ntmps22
    go_wp2_with fail
    refine hA.mono ?_
    rintro e w1 ⟨rfl, hb1⟩
    go_wp2_with fail
    go_ret2
    exact ⟨_, by rw [HE1.out]; rfl, by rw [HE2.out]; exact ownM_mono (World.ownsRow_lit w1 #[] 0 (Nat.le_refl _) (by decide) (by simp)) hb1.size, below_then hb1 _⟩
  | true =>
    have HE1 : Hid (flipC a = 0) := by unfold Hid flipC; rw [hok]; rfl
    rw [hok] at hA
    have HFF : Hid (∀ w', Below w.heap.size w w' → Calls Try.prog 39 #[.slice va a.length vc] w' fun e w'' => ∃ r, e = .returned r ∧ OwnSt w'' w'.heap.size r (flipL a) ∧ Below w'.heap.size w' w'') := fun w' hw => hF w' hw hok
    clear hF hok
    go_enter Try.func22, Try.ntmps22
    go_wp2_with fail
    refine hA.mono ?_
    rintro e w1 ⟨rfl, hb1⟩
    have h2 := HFF.out w1 hb1
    clear HFF hA
    go_wp2_with fail
    refine h2.mono ?_
    rintro e w2 ⟨r, rfl, ho, hb2⟩
    obtain ⟨ra, rc, e⟩ := own_sliceM ho
    subst e
    have ho' : OwnSt w2 w.heap.size _ _ := ownM_mono ho hb1.size
    have hb' := below_seq hb1 hb2
    clear h2 ho hb1 hb2
    go_wp2_with fail
    go_ret2
    exact ⟨_, by rw [HE1.out]; rfl, ho', hb'⟩
end Go.Proofs.Ytagnpahkhaighaa
