/- What the specification's l03Insert answers. -/
import Derived.Test.YtdbipcmfolgjgaaEntRows
import Derived.Deep.RegionHeld2
import Derived.BigQuiet
import Derived.Deep.CutRange
import Derived.Deep.CutBlock
namespace Go.Proofs.Ytdbipcmfolgjgaa
open Go.RowKit
set_option linter.unusedVariables false

def posP (p : En → Bool) : List En → Nat
  | [] => 0
  | y :: ys => if p y = true then posP p ys + 1 else 0
theorem posP_le (p : En → Bool) (ls : List En) : posP p ls ≤ ls.length := by
  induction ls with
  | nil => simp [posP]
  | cons y ys ih => unfold posP; split <;> simp <;> omega
theorem posP_lt {p : En → Bool} {ls : List En} {j : Nat} (h : j < posP p ls) : p (enAt ls j) = true := by
  induction ls generalizing j with
  | nil => simp [posP] at h
  | cons z ys ih =>
    unfold posP at h
    split at h
    next hz =>
      cases j with
      | zero => simpa [enAt] using hz
      | succ j =>
        have := ih (j := j) (by omega)
        simpa [enAt] using this
    next => omega
theorem posP_stop {p : En → Bool} {ls : List En} (h : posP p ls < ls.length) : p (enAt ls (posP p ls)) = false := by
  induction ls with
  | nil => simp at h
  | cons z ys ih =>
    by_cases hz : p z = true
    · have e : posP p (z :: ys) = posP p ys + 1 := by simp [posP, hz]
      rw [e] at h ⊢
      have := ih (by simpa using h)
      simpa [enAt] using this
    · have e : posP p (z :: ys) = 0 := by simp [posP, hz]
      rw [e]
      simpa [enAt] using hz
theorem posP_step {p : En → Bool} {ls : List En} {k : Nat} (hk : k ≤ posP p ls) (hl : k < ls.length) (h : p (enAt ls k) = true) : k + 1 ≤ posP p ls := by
  by_cases e : k = posP p ls
  · subst e
    rw [posP_stop hl] at h
    cases h
  · omega
theorem posP_end {p : En → Bool} {ls : List En} {k : Nat} (hk : k ≤ posP p ls) (h : p (enAt ls k) = false) : k = posP p ls := by
  by_cases e : k = posP p ls
  · exact e
  · have h1 := posP_lt (p := p) (ls := ls) (j := k) (by omega)
    rw [h1] at h
    cases h
/-- An entry put among others, ahead of the first that is not before it. -/
def posE (ls : List En) (e : En) : Nat := posP (fun z => lessS z.1 z.2.1 e.1 e.2.1) ls
def insE (ls : List En) (e : En) : List En := ls.take (posE ls e) ++ e :: ls.drop (posE ls e)
theorem enCs_take {ls : List En} {p : Nat} (hp : p ≤ ls.length) {j : Nat} {u : Value} (h : (enCs (ls.take p))[j]? = some u) : (enCs ls)[j]? = some u := by
  have e : enCs ls = enCs (ls.take p) ++ enCs (ls.drop p) := by rw [← enCs_app, List.take_append_drop]
  rw [e, List.getElem?_append_left (List.getElem?_eq_some_iff.1 h).1, h]
theorem enCs_drop {ls : List En} {p : Nat} (hp : p ≤ ls.length) {j : Nat} {u : Value} (h : (enCs (ls.drop p))[j]? = some u) : (enCs ls)[p * 3 + j]? = some u := by
  have e : enCs ls = enCs (ls.take p) ++ enCs (ls.drop p) := by rw [← enCs_app, List.take_append_drop]
  have hl : (enCs (ls.take p)).length = p * 3 := by rw [enCs_len, List.length_take, Nat.min_eq_left hp]
  rw [e, List.getElem?_append_right (by omega), hl, Nat.add_sub_cancel_left, h]

set_option maxHeartbeats 4000000 in
set_option maxRecDepth 100000 in
theorem l03Insert_any (B : Nat) (w : World) (v : Value) (ls : List En) (t a : Int) (s : ByteArray) (hl : ls.length ≤ 1048576) (ho : OwnE w B v ls) (hv : v ≠ .slice none 0 0) :
    Calls Try.prog 42 #[v, .agg #[.int .i64 t, .int .i64 a, .string s]] w fun e w' => ∃ r, e = .returned r ∧ OwnE w' w.heap.size r (insE ls (t, a, s)) ∧ r ≠ .slice none 0 0 ∧ Below w.heap.size w w' := by
  obtain ⟨i0, hi, hz0, hz1, hz2⟩ := info_parts infoEnt
  obtain ⟨g, cap, rfl, _, hg, hc, hcap, _⟩ := ho.some hv
  have HI : Hid (insE ls (t, a, s) = ls.take (posE ls (t, a, s)) ++ (t, a, s) :: ls.drop (posE ls (t, a, s))) := rfl
  have hpl : posE ls (t, a, s) ≤ ls.length := posP_le _ _
  have HST : Hid (∀ j, j ≤ posE ls (t, a, s) → j < ls.length → lessS (enAt ls j).1 (enAt ls j).2.1 t a = true → j + 1 ≤ posE ls (t, a, s)) := fun j h1 h2 h3 => posP_step h1 h2 h3
  have HEN : Hid (∀ j, j ≤ posE ls (t, a, s) → lessS (enAt ls j).1 (enAt ls j).2.1 t a = false → j = posE ls (t, a, s)) := fun j h1 h3 => posP_end h1 h3
  have HCC : Hid (∀ j u, (enCs ls)[j]? = some u → w.cell? ⟨g, j, none⟩ = some u) := hc
  clear hc ho hv
  generalize posE ls (t, a, s) = p at hpl HI HST HEN
  generalize insE ls (t, a, s) = rs at HI ⊢
  have hB := Below.refl (w.alloc (.cells #[.int .i64 t, .int .i64 a, .string s] 72)).heap.size (w.alloc (.cells #[.int .i64 t, .int .i64 a, .string s] 72))
  have HR : Hid (∀ wx, Below (w.alloc (.cells #[.int .i64 t, .int .i64 a, .string s] 72)).heap.size (w.alloc (.cells #[.int .i64 t, .int .i64 a, .string s] 72)) wx → Below w.heap.size w wx) := fun wx h => below_seq (below_alloc _ _) h
  go_enter Try.func42, Try.ntmps42
  go_upto_block 0 with fail
  go_cut [5] from 7 (fun ta wx => ta = .int .i64 (p : Int) ∧ Below (w.alloc (.cells #[.int .i64 t, .int .i64 a, .string s] 72)).heap.size (w.alloc (.cells #[.int .i64 t, .int .i64 a, .string s] 72)) wx)
  case first =>
    go_wp2_with fail
    go_loopw [5] (fun ta wq => ∃ j : Nat, j ≤ p ∧ ta = .int .i64 (j : Int) ∧ Below (w.alloc (.cells #[.int .i64 t, .int .i64 a, .string s] 72)).heap.size (w.alloc (.cells #[.int .i64 t, .int .i64 a, .string s] 72)) wq) (fun ta _ => ls.length - (intOf ta).toNat)
    case atStart => exact ⟨0, Nat.zero_le _, rfl, hB⟩
    case round =>
      clear hB
      obtain ⟨j, hj, rfl, hB⟩ := hrel
      by_cases hjl : j < ls.length
      · have j0 : (0 : Int) ≤ (j : Int) := by omega
        have j1 : (j : Int) < (ls.length : Int) := by omega
        have j2 : (j : Int) + 1 < 9223372036854775808 := by omega
        have HC0 : Hid (∀ wx, Below (w.alloc (.cells #[.int .i64 t, .int .i64 a, .string s] 72)).heap.size (w.alloc (.cells #[.int .i64 t, .int .i64 a, .string s] 72)) wx → wx.cell? ⟨g, j * 3, none⟩ = some (.int .i64 (enAt ls j).1) ∧ wx.cell? ⟨g, j * 3 + 1, none⟩ = some (.int .i64 (enAt ls j).2.1) ∧ wx.cell? ⟨w.heap.size, 0, none⟩ = some (.int .i64 t) ∧ wx.cell? ⟨w.heap.size, 1, none⟩ = some (.int .i64 a)) := fun wx h => by
          have h1 := three_cells h
          have h2 := HR.out wx h
          have h3 := enCs_at hjl
          exact ⟨(h2.cell (p := ⟨g, j * 3, none⟩) hg).trans (HCC.out _ _ h3.1), (h2.cell (p := ⟨g, j * 3 + 1, none⟩) hg).trans (HCC.out _ _ h3.2.1), h1.1, h1.2.1⟩
        have hL := fun w => specStampLess_any (enAt ls j).1 (enAt ls j).2.1 t a w
        cases hb : lessS (enAt ls j).1 (enAt ls j).2.1 t a with
        | true =>
          have H : Hid (j + 1 ≤ p) := HST.out j hj hjl hb
          rw [hb] at hL
          clear hb HEN HST
          generalize (enAt ls j).1 = x0 at HC0 hL
          generalize (enAt ls j).2.1 = x1 at HC0 hL
          go_wp2_with fail
          replace hB := hB.drew
          go_region_held2 (fun w' => w'.cell? ⟨g, j * 3, none⟩ = some (.int .i64 x0) ∧ w'.cell? ⟨g, j * 3 + 1, none⟩ = some (.int .i64 x1) ∧ w'.cell? ⟨w.heap.size, 0, none⟩ = some (.int .i64 t) ∧ w'.cell? ⟨w.heap.size, 1, none⟩ = some (.int .i64 a)) (exact HC0.out _ hB) (first | (go_at_call 56; refine (hL _).mono ?_; rintro e w2 ⟨rfl, hb2⟩; replace hB := below_seq hB hb2; clear hb2))
          go_wp2_with fail
          go_roundw
          case rel => exact ⟨j + 1, H.out, by go_num, hB⟩
          case measure => simp [intOf]; omega
        | false =>
          have H : Hid (j = p) := HEN.out j hj hb
          rw [hb] at hL
          clear hb HEN HST
          generalize (enAt ls j).1 = x0 at HC0 hL
          generalize (enAt ls j).2.1 = x1 at HC0 hL
          go_wp2_with fail
          replace hB := hB.drew
          go_region_held2 (fun w' => w'.cell? ⟨g, j * 3, none⟩ = some (.int .i64 x0) ∧ w'.cell? ⟨g, j * 3 + 1, none⟩ = some (.int .i64 x1) ∧ w'.cell? ⟨w.heap.size, 0, none⟩ = some (.int .i64 t) ∧ w'.cell? ⟨w.heap.size, 1, none⟩ = some (.int .i64 a)) (exact HC0.out _ hB) (first | (go_at_call 56; refine (hL _).mono ?_; rintro e w2 ⟨rfl, hb2⟩; replace hB := below_seq hB hb2; clear hb2))
          go_wp2_with fail
          go_meet
          case rel => exact ⟨by rw [← H.out], hB⟩
      · have hd : decide ((j : Int) < (ls.length : Int)) = false := by simpa using hjl
        have i1 : ¬ (j : Int) < (ls.length : Int) := by omega
        have H : Hid (j = p) := by unfold Hid; omega
        go_wp2_with fail
        go_quiet (fail)
        go_wp2_with fail
        go_meet
        case rel => exact ⟨by rw [← H.out], below_drewN hB nq⟩
  case rest =>
    obtain ⟨rfl, hB1⟩ := hcut
    have hz01 : w.heap.size ≤ (w.alloc (.cells #[.int .i64 t, .int .i64 a, .string s] 72)).heap.size := by simp
    have HBX : Hid (∀ wx, Below (w.alloc (.cells #[.int .i64 t, .int .i64 a, .string s] 72)).heap.size (w.alloc (.cells #[.int .i64 t, .int .i64 a, .string s] 72)) wx → wx.cell? ⟨w.heap.size, 0, none⟩ = some (.int .i64 t) ∧ wx.cell? ⟨w.heap.size, 1, none⟩ = some (.int .i64 a) ∧ wx.cell? ⟨w.heap.size, 2, none⟩ = some (.string s)) := fun wx h => three_cells h
    clear hB
    obtain ⟨W1, hW1⟩ : ∃ W1, w.alloc (.cells #[.int .i64 t, .int .i64 a, .string s] 72) = W1 := ⟨_, rfl⟩
    rw [hW1] at hB1 HR hz01 HBX
    clear hW1
    have hz1' := hB1.size
    have hcell : Hid (∀ wx, Below W1.heap.size W1 wx → ∀ j u, (enCs ls)[j]? = some u → wx.cell? ⟨g, j, none⟩ = some u) := fun wx h j u hj => ((HR.out wx h).cell (p := ⟨g, j, none⟩) hg).trans (HCC.out j u hj)
    have p0 : (0 : Int) ≤ (p : Int) := by omega
    have p1 : (p : Int) ≤ (cap : Int) := by omega
    have p2 : p ≤ cap := by omega
    have p3 : (p : Int) ≤ (ls.length : Int) := by omega
    have ho0 : OwnE (wc.alloc (.cells #[] 72)) W1.heap.size (.slice (some ⟨wc.heap.size, 0, none⟩) 0 0) [] := by
      have h : OwnE (wc.alloc (.cells #[] 72)) wc.heap.size (.slice (some ⟨wc.heap.size, 0, none⟩) 0 0) [] := World.ownsRow_lit wc #[] 0 (Nat.le_refl _) (by decide) (by simp)
      exact h.mono hz1'
    have hBa := below_then hB1 (.cells #[] 72)
    go_upto_region 5 with (at_builtin; refine wpList_append_own _ rfl _ _ 30 rfl W1.heap.size 72 i0 (.agg #[.int .i64 0, .int .i64 0, .string ByteArray.empty]) 3 32 Try.underlying30 hi hz0 hz1 hz2 rfl (by decide) _ _ _ rfl ho0 ⟨g, 0, none⟩ p cap (enCs (ls.take p)) rfl (by rw [enCs_len, List.length_take]; omega) (fun j u hj => by rw [Addr.add_lit, Nat.zero_add]; exact hcell.out _ hBa j u (enCs_take hpl hj)) (enCs_one _) (by unfold maxLen; simp only [List.length_nil]; omega) (by simp only [List.length_nil]; omega) (by simp; omega) ?_)
    intro v2 w2 ho2 hg2 hv2
    have ho2' : w2.ownsRow W1.heap.size 72 3 v2 p (enCs (ls.take p)) := ho2
    have hB2 := below_grownE hBa (Nat.le_refl _) hg2 (fun k hk => (World.ownsRow.lt ho0 k hk).1)
    have hz2' := hB2.size
    obtain ⟨b0, b1, b2⟩ := HBX.out _ hB2
    clear ho2 hg2 ho0 hBa hB1 hz1' hv2
    go_upto_region 6 with (at_builtin; refine wpList_append_own _ rfl _ _ 30 rfl W1.heap.size 72 i0 (.agg #[.int .i64 0, .int .i64 0, .string ByteArray.empty]) 3 32 Try.underlying30 hi hz0 hz1 hz2 rfl (by decide) _ _ _ rfl (World.ownsRow.alloc ho2' _) ⟨w2.heap.size, 0, none⟩ 1 1 [.int .i64 t, .int .i64 a, .string s] rfl rfl (three_new _ _ _ _ _) (by simp [Value.oneCell']) (by unfold maxLen; omega) (by omega) (by first | omega | (simp; omega)) ?_)
    intro v4 w4 ho4 hg4 hv4
    have hB4 := below_grownE (below_then hB2 (.cells #[.int .i64 t, .int .i64 a, .string s] 72)) (Nat.le_refl _) hg4 (fun k hk => (World.ownsRow.lt ho2' k hk).1)
    have hz4 := hB4.size
    have HV4 : Hid (v4 ≠ .slice none 0 0) := by first | exact hv4 | exact fun h => by simpa using (hv4.1 h).2
    clear hg4 hv4 ho2' hB2 b0 b1 b2
    by_cases hcp : cap = p
    · subst hcp
      have hl0 : ls.length - cap = 0 := by omega
      go_wp2_with (at_builtin; refine wpList_append_own _ rfl _ _ 30 rfl W1.heap.size 72 i0 (.agg #[.int .i64 0, .int .i64 0, .string ByteArray.empty]) 3 32 Try.underlying30 hi hz0 hz1 hz2 rfl (by decide) _ _ _ rfl ho4 ⟨g, 0, none⟩ 0 0 (enCs (ls.drop cap)) rfl (by rw [enCs_len, List.length_drop]; omega) (fun j u hj => by rw [List.drop_eq_nil_of_le (by omega)] at hj; simp [enCs] at hj) (enCs_one _) (by unfold maxLen; omega) (by omega) (by omega) ?_)
      intro v6 w6 ho6 hg6 hv6
      have hB6 := below_grownE hB4 (Nat.le_refl _) hg6 (fun k hk => (World.ownsRow.lt ho4 k hk).1)
      have ho7 : OwnE w6 W1.heap.size v6 rs := by
        rw [HI.out]
        unfold OwnE
        rw [enCs_app, List.length_append, List.length_cons, List.length_take, List.length_drop]
        have e1 : enCs ((t, a, s) :: ls.drop cap) = [.int .i64 t, .int .i64 a, .string s] ++ enCs (ls.drop cap) := rfl
        rw [e1, ← List.append_assoc]
        have e2 : min cap ls.length + (ls.length - cap + 1) = cap + 1 + (ls.length - cap) := by omega
        rw [e2]
        first | exact ho6 | simpa using ho6 | simpa [hl0] using ho6
      have HV6 : Hid (v6 ≠ .slice none 0 0) := by first | exact hv6 | exact fun h => HV4.out (hv6.1 h) | exact fun h => HV4.out (hv6.1 h).1
      clear ho6 hg6 hv6
      go_wp2_with fail
      refine bodyPost_ret (v := v6) ?_ rfl ⟨_, rfl, ho7.mono hz01, HV6.out, HR.out _ hB6⟩
      simp [results, Try.results42, go_sem]
    · go_wp2_with (at_builtin; refine wpList_append_own _ rfl _ _ 30 rfl W1.heap.size 72 i0 (.agg #[.int .i64 0, .int .i64 0, .string ByteArray.empty]) 3 32 Try.underlying30 hi hz0 hz1 hz2 rfl (by decide) _ _ _ rfl ho4 ⟨g, p * 3, none⟩ (ls.length - p) (cap - p) (enCs (ls.drop p)) rfl (by rw [enCs_len, List.length_drop]) (fun j u hj => by rw [Addr.add_lit]; exact hcell.out _ hB4 _ u (enCs_drop hpl hj)) (enCs_one _) (by unfold maxLen; omega) (by omega) (by omega) ?_)
      intro v6 w6 ho6 hg6 hv6
      have hB6 := below_grownE hB4 (Nat.le_refl _) hg6 (fun k hk => (World.ownsRow.lt ho4 k hk).1)
      have ho7 : OwnE w6 W1.heap.size v6 rs := by
        rw [HI.out]
        unfold OwnE
        rw [enCs_app, List.length_append, List.length_cons, List.length_take, List.length_drop]
        have e1 : enCs ((t, a, s) :: ls.drop p) = [.int .i64 t, .int .i64 a, .string s] ++ enCs (ls.drop p) := rfl
        rw [e1, ← List.append_assoc]
        have e2 : min p ls.length + (ls.length - p + 1) = p + 1 + (ls.length - p) := by omega
        rw [e2]
        first | exact ho6 | simpa using ho6
      have HV6 : Hid (v6 ≠ .slice none 0 0) := by first | exact hv6 | exact fun h => HV4.out (hv6.1 h) | exact fun h => HV4.out (hv6.1 h).1
      clear ho6 hg6 hv6
      go_wp2_with fail
      refine bodyPost_ret (v := v6) ?_ rfl ⟨_, rfl, ho7.mono hz01, HV6.out, HR.out _ hB6⟩
      simp [results, Try.results42, go_sem]

end Go.Proofs.Ytdbipcmfolgjgaa
