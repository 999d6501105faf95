/- What the specification's l03Insert answers. What the specification's l03Find answers. What the specification's SetRemove does. -/
import Derived.Deep.RegionHeld2
import Derived.BigQuiet
import Derived.Deep.CutRange
import Derived.Deep.CutBlock
import Derived.Deep.RegionHeld3
import Derived.Test.YtfnlnigeaioocaaGreatQJoinedBaseToEntRows
import Derived.Test.YtfnlnigeaioocaaGreatQEntriesOK
import Derived.Test.YtfnlnigeaioocaaGreatQInfoToTrBase
namespace Go.Proofs.YtfnlnigeaioocaaGreat
open Go.RowKit
set_option linter.unusedVariables false

def posP (p : En → Bool) : List En → Nat
  | [] => 0
  | y :: ys => if p y = true then posP p ys + 1 else 0
theorem posP_le (p : En → Bool) (ls : List En) : posP p ls ≤ ls.length := by
  induction ls with
  | nil => simp [posP]
  | cons y ys ih => unfold posP; split <;> simp <;> omega
theorem posP_lt {p : En → Bool} {ls : List En} {j : Nat} (h : j < posP p ls) : p (enAt ls j) = true := by
  induction ls generalizing j with
  | nil => simp [posP] at h
  | cons z ys ih =>
    unfold posP at h
    split at h
    next hz =>
      cases j with
      | zero => simpa [enAt] using hz
      | succ j =>
        have := ih (j := j) (by omega)
        simpa [enAt] using this
    next => omega
theorem posP_stop {p : En → Bool} {ls : List En} (h : posP p ls < ls.length) : p (enAt ls (posP p ls)) = false := by
  induction ls with
  | nil => simp at h
  | cons z ys ih =>
    by_cases hz : p z = true
    · have e : posP p (z :: ys) = posP p ys + 1 := by simp [posP, hz]
      rw [e] at h ⊢
      have := ih (by simpa using h)
      simpa [enAt] using this
    · have e : posP p (z :: ys) = 0 := by simp [posP, hz]
      rw [e]
      simpa [enAt] using hz
theorem posP_step {p : En → Bool} {ls : List En} {k : Nat} (hk : k ≤ posP p ls) (hl : k < ls.length) (h : p (enAt ls k) = true) : k + 1 ≤ posP p ls := by
  by_cases e : k = posP p ls
  · subst e
    rw [posP_stop hl] at h
    cases h
  · omega
theorem posP_end {p : En → Bool} {ls : List En} {k : Nat} (hk : k ≤ posP p ls) (h : p (enAt ls k) = false) : k = posP p ls := by
  by_cases e : k = posP p ls
  · exact e
  · have h1 := posP_lt (p := p) (ls := ls) (j := k) (by omega)
    rw [h1] at h
    cases h
/-- An entry put among others, ahead of the first that is not before it. -/
def posE (ls : List En) (e : En) : Nat := posP (fun z => lessS z.1 z.2.1 e.1 e.2.1) ls
def insE (ls : List En) (e : En) : List En := ls.take (posE ls e) ++ e :: ls.drop (posE ls e)
theorem enCs_take {ls : List En} {p : Nat} (hp : p ≤ ls.length) {j : Nat} {u : Value} (h : (enCs (ls.take p))[j]? = some u) : (enCs ls)[j]? = some u := by
  have e : enCs ls = enCs (ls.take p) ++ enCs (ls.drop p) := by rw [← enCs_app, List.take_append_drop]
  rw [e, List.getElem?_append_left (List.getElem?_eq_some_iff.1 h).1, h]
theorem enCs_drop {ls : List En} {p : Nat} (hp : p ≤ ls.length) {j : Nat} {u : Value} (h : (enCs (ls.drop p))[j]? = some u) : (enCs ls)[p * 3 + j]? = some u := by
  have e : enCs ls = enCs (ls.take p) ++ enCs (ls.drop p) := by rw [← enCs_app, List.take_append_drop]
  have hl : (enCs (ls.take p)).length = p * 3 := by rw [enCs_len, List.length_take, Nat.min_eq_left hp]
  rw [e, List.getElem?_append_right (by omega), hl, Nat.add_sub_cancel_left, h]

set_option maxHeartbeats 4000000 in
set_option maxRecDepth 100000 in
theorem l03Insert_any (B : Nat) (w : World) (v : Value) (ls : List En) (t a : Int) (s : ByteArray) (hl : ls.length ≤ 1048576) (ho : OwnE w B v ls) (hv : v ≠ .slice none 0 0) :
    Calls Tryz.prog 22 #[v, .agg #[.int .i64 t, .int .i64 a, .string s]] w fun e w' => ∃ r, e = .returned r ∧ OwnE w' w.heap.size r (insE ls (t, a, s)) ∧ r ≠ .slice none 0 0 ∧ Below w.heap.size w w' := by
  obtain ⟨i0, hi, hz0, hz1, hz2⟩ := info_parts infoEnt
  obtain ⟨g, cap, rfl, _, hg, hc, hcap, _⟩ := ho.some hv
  have HI : Hid (insE ls (t, a, s) = ls.take (posE ls (t, a, s)) ++ (t, a, s) :: ls.drop (posE ls (t, a, s))) := rfl
  have hpl : posE ls (t, a, s) ≤ ls.length := posP_le _ _
  have HST : Hid (∀ j, j ≤ posE ls (t, a, s) → j < ls.length → lessS (enAt ls j).1 (enAt ls j).2.1 t a = true → j + 1 ≤ posE ls (t, a, s)) := fun j h1 h2 h3 => posP_step h1 h2 h3
  have HEN : Hid (∀ j, j ≤ posE ls (t, a, s) → lessS (enAt ls j).1 (enAt ls j).2.1 t a = false → j = posE ls (t, a, s)) := fun j h1 h3 => posP_end h1 h3
  have HCC : Hid (∀ j u, (enCs ls)[j]? = some u → w.cell? ⟨g, j, none⟩ = some u) := hc
  clear hc ho hv
  generalize posE ls (t, a, s) = p at hpl HI HST HEN
  generalize insE ls (t, a, s) = rs at HI ⊢
  have hB := Below.refl (w.alloc (.cells #[.int .i64 t, .int .i64 a, .string s] 60)).heap.size (w.alloc (.cells #[.int .i64 t, .int .i64 a, .string s] 60))
  have HR : Hid (∀ wx, Below (w.alloc (.cells #[.int .i64 t, .int .i64 a, .string s] 60)).heap.size (w.alloc (.cells #[.int .i64 t, .int .i64 a, .string s] 60)) wx → Below w.heap.size w wx) := fun wx h => below_seq (below_alloc _ _) h
  go_enter Tryz.func22, Tryz.ntmps22
  go_upto_block 0 with fail
  go_cut [5] from 7 (fun ta wx => ta = .int .i64 (p : Int) ∧ Below (w.alloc (.cells #[.int .i64 t, .int .i64 a, .string s] 60)).heap.size (w.alloc (.cells #[.int .i64 t, .int .i64 a, .string s] 60)) wx)
  case first =>
    go_wp2_with fail
    go_loopw [5] (fun ta wq => ∃ j : Nat, j ≤ p ∧ ta = .int .i64 (j : Int) ∧ Below (w.alloc (.cells #[.int .i64 t, .int .i64 a, .string s] 60)).heap.size (w.alloc (.cells #[.int .i64 t, .int .i64 a, .string s] 60)) wq) (fun ta _ => ls.length - (intOf ta).toNat)
    case atStart => exact ⟨0, Nat.zero_le _, rfl, hB⟩
    case round =>
      clear hB
      obtain ⟨j, hj, rfl, hB⟩ := hrel
      by_cases hjl : j < ls.length
      · have j0 : (0 : Int) ≤ (j : Int) := by omega
        have j1 : (j : Int) < (ls.length : Int) := by omega
        have j2 : (j : Int) + 1 < 9223372036854775808 := by omega
        have HC0 : Hid (∀ wx, Below (w.alloc (.cells #[.int .i64 t, .int .i64 a, .string s] 60)).heap.size (w.alloc (.cells #[.int .i64 t, .int .i64 a, .string s] 60)) wx → wx.cell? ⟨g, j * 3, none⟩ = some (.int .i64 (enAt ls j).1) ∧ wx.cell? ⟨g, j * 3 + 1, none⟩ = some (.int .i64 (enAt ls j).2.1) ∧ wx.cell? ⟨w.heap.size, 0, none⟩ = some (.int .i64 t) ∧ wx.cell? ⟨w.heap.size, 1, none⟩ = some (.int .i64 a)) := fun wx h => by
          have h1 := three_cells h
          have h2 := HR.out wx h
          have h3 := enCs_at hjl
          exact ⟨(h2.cell (p := ⟨g, j * 3, none⟩) hg).trans (HCC.out _ _ h3.1), (h2.cell (p := ⟨g, j * 3 + 1, none⟩) hg).trans (HCC.out _ _ h3.2.1), h1.1, h1.2.1⟩
        have hL := fun w => specStampLess_any (enAt ls j).1 (enAt ls j).2.1 t a w
        cases hb : lessS (enAt ls j).1 (enAt ls j).2.1 t a with
        | true =>
          have H : Hid (j + 1 ≤ p) := HST.out j hj hjl hb
          rw [hb] at hL
          clear hb HEN HST
          generalize (enAt ls j).1 = x0 at HC0 hL
          generalize (enAt ls j).2.1 = x1 at HC0 hL
          go_wp2_with fail
          replace hB := hB.drew
          go_region_held2 (fun w' => w'.cell? ⟨g, j * 3, none⟩ = some (.int .i64 x0) ∧ w'.cell? ⟨g, j * 3 + 1, none⟩ = some (.int .i64 x1) ∧ w'.cell? ⟨w.heap.size, 0, none⟩ = some (.int .i64 t) ∧ w'.cell? ⟨w.heap.size, 1, none⟩ = some (.int .i64 a)) (exact HC0.out _ hB) (first | (go_at_call 38; refine (hL _).mono ?_; rintro e w2 ⟨rfl, hb2⟩; replace hB := below_seq hB hb2; clear hb2))
          go_wp2_with fail
          go_roundw
          case rel => exact ⟨j + 1, H.out, by go_num, hB⟩
          case measure => simp [intOf]; omega
        | false =>
          have H : Hid (j = p) := HEN.out j hj hb
          rw [hb] at hL
          clear hb HEN HST
          generalize (enAt ls j).1 = x0 at HC0 hL
          generalize (enAt ls j).2.1 = x1 at HC0 hL
          go_wp2_with fail
          replace hB := hB.drew
          go_region_held2 (fun w' => w'.cell? ⟨g, j * 3, none⟩ = some (.int .i64 x0) ∧ w'.cell? ⟨g, j * 3 + 1, none⟩ = some (.int .i64 x1) ∧ w'.cell? ⟨w.heap.size, 0, none⟩ = some (.int .i64 t) ∧ w'.cell? ⟨w.heap.size, 1, none⟩ = some (.int .i64 a)) (exact HC0.out _ hB) (first | (go_at_call 38; refine (hL _).mono ?_; rintro e w2 ⟨rfl, hb2⟩; replace hB := below_seq hB hb2; clear hb2))
          go_wp2_with fail
          go_meet
          case rel => exact ⟨by rw [← H.out], hB⟩
      · have hd : decide ((j : Int) < (ls.length : Int)) = false := by simpa using hjl
        have i1 : ¬ (j : Int) < (ls.length : Int) := by omega
        have H : Hid (j = p) := by unfold Hid; omega
        go_wp2_with fail
        go_quiet (fail)
        go_wp2_with fail
        go_meet
        case rel => exact ⟨by rw [← H.out], below_drewN hB nq⟩
  case rest =>
    obtain ⟨rfl, hB1⟩ := hcut
    have hz01 : w.heap.size ≤ (w.alloc (.cells #[.int .i64 t, .int .i64 a, .string s] 60)).heap.size := by simp
    have HBX : Hid (∀ wx, Below (w.alloc (.cells #[.int .i64 t, .int .i64 a, .string s] 60)).heap.size (w.alloc (.cells #[.int .i64 t, .int .i64 a, .string s] 60)) wx → wx.cell? ⟨w.heap.size, 0, none⟩ = some (.int .i64 t) ∧ wx.cell? ⟨w.heap.size, 1, none⟩ = some (.int .i64 a) ∧ wx.cell? ⟨w.heap.size, 2, none⟩ = some (.string s)) := fun wx h => three_cells h
    clear hB
    obtain ⟨W1, hW1⟩ : ∃ W1, w.alloc (.cells #[.int .i64 t, .int .i64 a, .string s] 60) = W1 := ⟨_, rfl⟩
    rw [hW1] at hB1 HR hz01 HBX
    clear hW1
    have hz1' := hB1.size
    have hcell : Hid (∀ wx, Below W1.heap.size W1 wx → ∀ j u, (enCs ls)[j]? = some u → wx.cell? ⟨g, j, none⟩ = some u) := fun wx h j u hj => ((HR.out wx h).cell (p := ⟨g, j, none⟩) hg).trans (HCC.out j u hj)
    have p0 : (0 : Int) ≤ (p : Int) := by omega
    have p1 : (p : Int) ≤ (cap : Int) := by omega
    have p2 : p ≤ cap := by omega
    have p3 : (p : Int) ≤ (ls.length : Int) := by omega
    have ho0 : OwnE (wc.alloc (.cells #[] 60)) W1.heap.size (.slice (some ⟨wc.heap.size, 0, none⟩) 0 0) [] := by
      have h : OwnE (wc.alloc (.cells #[] 60)) wc.heap.size (.slice (some ⟨wc.heap.size, 0, none⟩) 0 0) [] := World.ownsRow_lit wc #[] 0 (Nat.le_refl _) (by decide) (by simp)
      exact h.mono hz1'
    have hBa := below_then hB1 (.cells #[] 60)
    go_upto_region 5 with (at_builtin; refine wpList_append_own _ rfl _ _ 26 rfl W1.heap.size 60 i0 (.agg #[.int .i64 0, .int .i64 0, .string ByteArray.empty]) 3 32 Tryz.underlying26 hi hz0 hz1 hz2 rfl (by decide) _ _ _ rfl ho0 ⟨g, 0, none⟩ p cap (enCs (ls.take p)) rfl (by rw [enCs_len, List.length_take]; omega) (fun j u hj => by rw [Addr.add_lit, Nat.zero_add]; exact hcell.out _ hBa j u (enCs_take hpl hj)) (enCs_one _) (by unfold maxLen; simp only [List.length_nil]; omega) (by simp only [List.length_nil]; omega) (by simp; omega) ?_)
    intro v2 w2 ho2 hg2 hv2
    have ho2' : w2.ownsRow W1.heap.size 60 3 v2 p (enCs (ls.take p)) := ho2
    have hB2 := below_grownE hBa (Nat.le_refl _) hg2 (fun k hk => (World.ownsRow.lt ho0 k hk).1)
    have hz2' := hB2.size
    obtain ⟨b0, b1, b2⟩ := HBX.out _ hB2
    clear ho2 hg2 ho0 hBa hB1 hz1' hv2
    go_upto_region 6 with (at_builtin; refine wpList_append_own _ rfl _ _ 26 rfl W1.heap.size 60 i0 (.agg #[.int .i64 0, .int .i64 0, .string ByteArray.empty]) 3 32 Tryz.underlying26 hi hz0 hz1 hz2 rfl (by decide) _ _ _ rfl (World.ownsRow.alloc ho2' _) ⟨w2.heap.size, 0, none⟩ 1 1 [.int .i64 t, .int .i64 a, .string s] rfl rfl (three_new _ _ _ _ _) (by simp [Value.oneCell']) (by unfold maxLen; omega) (by omega) (by first | omega | (simp; omega)) ?_)
    intro v4 w4 ho4 hg4 hv4
    have hB4 := below_grownE (below_then hB2 (.cells #[.int .i64 t, .int .i64 a, .string s] 60)) (Nat.le_refl _) hg4 (fun k hk => (World.ownsRow.lt ho2' k hk).1)
    have hz4 := hB4.size
    have HV4 : Hid (v4 ≠ .slice none 0 0) := by first | exact hv4 | exact fun h => by simpa using (hv4.1 h).2
    clear hg4 hv4 ho2' hB2 b0 b1 b2
    by_cases hcp : cap = p
    · subst hcp
      have hl0 : ls.length - cap = 0 := by omega
      go_wp2_with (at_builtin; refine wpList_append_own _ rfl _ _ 26 rfl W1.heap.size 60 i0 (.agg #[.int .i64 0, .int .i64 0, .string ByteArray.empty]) 3 32 Tryz.underlying26 hi hz0 hz1 hz2 rfl (by decide) _ _ _ rfl ho4 ⟨g, 0, none⟩ 0 0 (enCs (ls.drop cap)) rfl (by rw [enCs_len, List.length_drop]; omega) (fun j u hj => by rw [List.drop_eq_nil_of_le (by omega)] at hj; simp [enCs] at hj) (enCs_one _) (by unfold maxLen; omega) (by omega) (by omega) ?_)
      intro v6 w6 ho6 hg6 hv6
      have hB6 := below_grownE hB4 (Nat.le_refl _) hg6 (fun k hk => (World.ownsRow.lt ho4 k hk).1)
      have ho7 : OwnE w6 W1.heap.size v6 rs := by
        rw [HI.out]
        unfold OwnE
        rw [enCs_app, List.length_append, List.length_cons, List.length_take, List.length_drop]
        have e1 : enCs ((t, a, s) :: ls.drop cap) = [.int .i64 t, .int .i64 a, .string s] ++ enCs (ls.drop cap) := rfl
        rw [e1, ← List.append_assoc]
        have e2 : min cap ls.length + (ls.length - cap + 1) = cap + 1 + (ls.length - cap) := by omega
        rw [e2]
        first | exact ho6 | simpa using ho6 | simpa [hl0] using ho6
      have HV6 : Hid (v6 ≠ .slice none 0 0) := by first | exact hv6 | exact fun h => HV4.out (hv6.1 h) | exact fun h => HV4.out (hv6.1 h).1
      clear ho6 hg6 hv6
      go_wp2_with fail
      refine bodyPost_ret (v := v6) ?_ rfl ⟨_, rfl, ho7.mono hz01, HV6.out, HR.out _ hB6⟩
      simp [results, Tryz.results22, go_sem]
    · go_wp2_with (at_builtin; refine wpList_append_own _ rfl _ _ 26 rfl W1.heap.size 60 i0 (.agg #[.int .i64 0, .int .i64 0, .string ByteArray.empty]) 3 32 Tryz.underlying26 hi hz0 hz1 hz2 rfl (by decide) _ _ _ rfl ho4 ⟨g, p * 3, none⟩ (ls.length - p) (cap - p) (enCs (ls.drop p)) rfl (by rw [enCs_len, List.length_drop]) (fun j u hj => by rw [Addr.add_lit]; exact hcell.out _ hB4 _ u (enCs_drop hpl hj)) (enCs_one _) (by unfold maxLen; omega) (by omega) (by omega) ?_)
      intro v6 w6 ho6 hg6 hv6
      have hB6 := below_grownE hB4 (Nat.le_refl _) hg6 (fun k hk => (World.ownsRow.lt ho4 k hk).1)
      have ho7 : OwnE w6 W1.heap.size v6 rs := by
        rw [HI.out]
        unfold OwnE
        rw [enCs_app, List.length_append, List.length_cons, List.length_take, List.length_drop]
        have e1 : enCs ((t, a, s) :: ls.drop p) = [.int .i64 t, .int .i64 a, .string s] ++ enCs (ls.drop p) := rfl
        rw [e1, ← List.append_assoc]
        have e2 : min p ls.length + (ls.length - p + 1) = p + 1 + (ls.length - p) := by omega
        rw [e2]
        first | exact ho6 | simpa using ho6
      have HV6 : Hid (v6 ≠ .slice none 0 0) := by first | exact hv6 | exact fun h => HV4.out (hv6.1 h) | exact fun h => HV4.out (hv6.1 h).1
      clear ho6 hg6 hv6
      go_wp2_with fail
      refine bodyPost_ret (v := v6) ?_ rfl ⟨_, rfl, ho7.mono hz01, HV6.out, HR.out _ hB6⟩
      simp [results, Tryz.results22, go_sem]

end Go.Proofs.YtfnlnigeaioocaaGreat

namespace Go.Proofs.YtfnlnigeaioocaaGreat
open Go.RowKit
set_option linter.unusedVariables false

/-- The first place of a stamp among entries; -1 where it is not there. -/
def isnt (t a : Int) (z : En) : Bool := !(z.1 == t && z.2.1 == a)
def findE (ls : List En) (t a : Int) : Int := if posP (isnt t a) ls < ls.length then ((posP (isnt t a) ls : Nat) : Int) else -1

set_option maxHeartbeats 2000000 in
set_option maxRecDepth 100000 in
theorem l03Find_any (C : Nat) (w : World) (ve : Value) (ls : List En) (t a : Int) (hl : ls.length ≤ 1048576) (hC : C ≤ w.heap.size) (he : RdE C w ve ls) :
    Calls Tryz.prog 106 #[ve, .agg #[.int .i64 t, .int .i64 a]] w fun e w' => e = .returned (.int .i64 (findE ls t a)) ∧ Below w.heap.size w w' := by
  obtain ⟨eo, ec, rfl, hE⟩ := he
  have HF : Hid (findE ls t a = if posP (isnt t a) ls < ls.length then ((posP (isnt t a) ls : Nat) : Int) else -1) := rfl
  have hpl := posP_le (isnt t a) ls
  have HST : Hid (∀ j, j ≤ posP (isnt t a) ls → j < ls.length → isnt t a (enAt ls j) = true → j + 1 ≤ posP (isnt t a) ls) := fun j h1 h2 h3 => posP_step h1 h2 h3
  have HEN : Hid (∀ j, j ≤ posP (isnt t a) ls → isnt t a (enAt ls j) = false → j = posP (isnt t a) ls) := fun j h1 h3 => posP_end h1 h3
  generalize posP (isnt t a) ls = p at hpl HF HST HEN
  generalize findE ls t a = r at HF ⊢
  have hB0 := below_alloc w (.cells #[.int .i64 t, .int .i64 a] 56)
  have d0 := cell_made (Below.refl (w.alloc (.cells #[.int .i64 t, .int .i64 a] 56)).heap.size (w.alloc (.cells #[.int .i64 t, .int .i64 a] 56))) (k := 0) rfl
  have d1 := cell_made (Below.refl (w.alloc (.cells #[.int .i64 t, .int .i64 a] 56)).heap.size (w.alloc (.cells #[.int .i64 t, .int .i64 a] 56))) (k := 1) rfl
  go_enter Tryz.func106, Tryz.ntmps106
  go_wp2_with fail
  go_loopw [5] (fun tk wr => ∃ k : Nat, k ≤ p ∧ tk = .int .i64 (k : Int) ∧ wr.cell? ⟨w.heap.size, 0, none⟩ = some (.int .i64 t) ∧ wr.cell? ⟨w.heap.size, 1, none⟩ = some (.int .i64 a) ∧ Below w.heap.size w wr) (fun tk _ => ls.length - (intOf tk).toNat)
  case atStart => exact ⟨0, Nat.zero_le _, rfl, d0, d1, hB0⟩
  case round =>
    clear d0 d1 hB0
    obtain ⟨k, hk, rfl, d0, d1, hB⟩ := hrel
    by_cases hlt : k < ls.length
    · obtain ⟨g, off, rfl, hg, hc⟩ := hE (by omega)
      obtain ⟨q0, q1, q2⟩ := hc k hlt
      rw [← hB.cell (p := ⟨g, off + k * 3, none⟩) (by show g < _; omega)] at q0
      rw [← hB.cell (p := ⟨g, off + (k * 3 + 1), none⟩) (by show g < _; omega)] at q1
      have j0 : (0 : Int) ≤ (k : Int) := by omega
      have j1 : (k : Int) < (ls.length : Int) := by omega
      have j2 : (k : Int) + 1 < 9223372036854775808 := by omega
      have HS : Hid (isnt t a (enAt ls k) = true → k + 1 ≤ p) := fun h => HST.out k hk hlt h
      have HN : Hid (isnt t a (enAt ls k) = false → k = p) := fun h => HEN.out k hk h
      obtain ⟨x0, x1, x, hee⟩ : ∃ t a x, enAt ls k = (t, a, x) := ⟨_, _, _, rfl⟩
      rw [hee] at q0 q1 HS HN
      replace q0 : wr.cell? ⟨g, off + k * 3, none⟩ = some (.int .i64 x0) := q0
      replace q1 : wr.cell? ⟨g, off + k * 3 + 1, none⟩ = some (.int .i64 x1) := q1
      clear hee hc hE q2 HST HEN
      cases hb : isnt t a (x0, x1, x) with
      | false =>
        have e0 : (x0 == t) = true := by simp [isnt] at hb; simp [hb.1]
        have e1 : (x1 == a) = true := by simp [isnt] at hb; simp [hb.2]
        have H : Hid (k = p) := HN.out hb
        clear HS HN hb
        go_wp2_with fail
        go_quiet (fail)
        go_wp2_with fail
        refine bodyPost_ret (v := .int .i64 (k : Int)) ?_ rfl ⟨by rw [HF.out, if_pos (by have := H.out; omega), ← H.out], below_drewN hB nq⟩
        simp [results, Tryz.results106, go_sem]
      | true =>
        have H : Hid (k + 1 ≤ p) := HS.out hb
        by_cases h0 : x0 = t
        · have e0 : (x0 == t) = true := by simp [h0]
          have e1 : (x1 == a) = false := by simpa [isnt, h0] using hb
          clear HS HN hb h0
          go_wp2_with fail
          go_quiet (fail)
          go_wp2_with fail
          go_roundw
          case rel => exact ⟨k + 1, H.out, by go_num, d0, d1, below_drewN hB nq⟩
          case measure => simp [intOf]; omega
        · have e0 : (x0 == t) = false := by simp [h0]
          clear HS HN hb h0
          go_wp2_with fail
          go_quiet (fail)
          go_wp2_with fail
          go_roundw
          case rel => exact ⟨k + 1, H.out, by go_num, d0, d1, below_drewN hB nq⟩
          case measure => simp [intOf]; omega
    · have i1 : ¬ (k : Int) < (ls.length : Int) := by omega
      have H : Hid (r = -1) := by
        unfold Hid
        rw [HF.out, if_neg (by omega)]
      go_wp2_with fail
      refine bodyPost_ret (v := .int .i64 (-1)) ?_ rfl ⟨by rw [H.out], hB⟩
      simp [results, Tryz.results106, go_sem]

end Go.Proofs.YtfnlnigeaioocaaGreat

namespace Go.Proofs.YtfnlnigeaioocaaGreat
open Go.RowKit
set_option linter.unusedVariables false

/-- A set of the call's own, and a code. -/
def SetAns (xs : List Int) (ls : List En) (k : Int) (w : World) (e : Ending) (w' : World) : Prop :=
  ∃ a n c b m d, e = .returned (.tuple #[.agg #[.slice a n c, .slice b m d], .int .i64 k]) ∧ Own 3 w' w.heap.size (.slice a n c) (xs.map (Value.int .i64)) ∧ OwnE w' w.heap.size (.slice b m d) ls ∧ (∀ i, (Value.slice a n c).ownBlock = some i → (Value.slice b m d).ownBlock ≠ some i) ∧ Below w.heap.size w w'
theorem setNone {w w' : World} (k : Int) (h : Below w.heap.size w w') : SetAns [] [] k w (.returned (.tuple #[.agg #[.slice none 0 0, .slice none 0 0], .int .i64 k])) w' :=
  ⟨none, 0, 0, none, 0, 0, rfl, World.ownsRow_nil _ _ _ _, World.ownsRow_nil _ _ _ _, by simp [Value.ownBlock], h⟩
def remC (xs : List Int) (ls : List En) (s : ByteArray) : Int := if okJ xs ls = true then (if s.size ≤ 200 then 0 else 4) else 1
def remV (xs : List Int) (ls : List En) (s : ByteArray) : List Int := if okJ xs ls = true then (if s.size ≤ 200 then xs else []) else []
def remE (xs : List Int) (ls : List En) (s : ByteArray) : List En := if okJ xs ls = true then (if s.size ≤ 200 then without ls s else []) else []
theorem base4s {w w1 : World} {va vb : Value} {T : TypeId} (h : Below ((w.alloc (.cells #[va, vb] T)).alloc (.cells #[.slice none 0 0, .slice none 0 0] T)).heap.size ((w.alloc (.cells #[va, vb] T)).alloc (.cells #[.slice none 0 0, .slice none 0 0] T)) w1) :
    (w1.cell? ⟨w.heap.size, 0, none⟩ = some va ∧ w1.cell? ⟨w.heap.size, 1, none⟩ = some vb) ∧ Dy w1 (w.heap.size + 1) (.slice none 0 0) (.slice none 0 0) := by
  have h1 := ((Dy.made w va vb T).on (below_alloc _ (.cells #[.slice none 0 0, .slice none 0 0] T))).on h
  have h2 := (Dy.made (w.alloc (.cells #[va, vb] T)) (.slice none 0 0) (.slice none 0 0) T).on h
  rw [World.size_alloc] at h2
  exact ⟨h1.1, h2⟩

theorem OwnE.apart {w w' : World} {B : Nat} {v : Value} {ls : List En} {row : Option Nat} (h : OwnE w B v ls) (hg : w.grownBy w' row) (hr : ∀ k, row = Option.some k → k < B) : OwnE w' B v ls := by
  obtain ⟨h1, h2⟩ := h
  refine ⟨h1, ?_⟩
  rcases h2 with h2 | ⟨g, cap, cur, hv, hb, hh, r⟩
  · exact .inl h2
  · exact .inr ⟨g, cap, cur, hv, hb, by rw [hg.block g (Array.getElem?_eq_some_iff.1 hh).1 (fun e => by have := hr g e.symm; omega)]; exact hh, r⟩
theorem OwnE.setK {w : World} {B P : Nat} {v : Value} {ls : List En} (h : OwnE w B v ls) (k : Nat) (u : Value) (hp : P < B) : OwnE (w.setCell ⟨P, k, none⟩ u) B v ls := h.apart (grownBy_set w P k u) (fun k hk => by cases hk; exact hp)
theorem two_set {w : World} {n m : Nat} {x y : Value} (h : w.cell? ⟨n, 0, none⟩ = some x ∧ w.cell? ⟨n, 1, none⟩ = some y) (hne : n ≠ m) (u u' : Value) : ((w.setCell ⟨m, 0, none⟩ u).setCell ⟨m, 1, none⟩ u').cell? ⟨n, 0, none⟩ = some x ∧ ((w.setCell ⟨m, 0, none⟩ u).setCell ⟨m, 1, none⟩ u').cell? ⟨n, 1, none⟩ = some y := by
  have e : ∀ (z : World) (k j : Nat) (u : Value), (z.setCell ⟨m, k, none⟩ u).cell? ⟨n, j, none⟩ = z.cell? ⟨n, j, none⟩ := fun z k j u => by
    unfold World.cell?
    rw [heap_setCell_other z ⟨m, k, none⟩ n u hne]
  rw [e, e, e, e]
  exact h

set_option maxHeartbeats 4000000 in
set_option maxRecDepth 100000 in
theorem specSetRemove_any (C : Nat) (w : World) (v ve : Value) (xs : List Int) (ls : List En) (s : ByteArray) (hs : s.size ≤ 9223372036854775807) (hC : C ≤ w.heap.size) (hv : Rd C w v (xs.map (Value.int .i64))) (he : RdE C w ve ls) :
    Calls Tryz.prog 70 #[.agg #[v, ve], .string s] w (SetAns (remV xs ls s) (remE xs ls s) (remC xs ls s) w) := by
  have hB0 : Below w.heap.size w ((w.alloc (.cells #[v, ve] 28)).alloc (.cells #[.slice none 0 0, .slice none 0 0] 28)) := below_then (below_alloc _ _) _
  have h1 := l03EntriesOK_any C ((w.alloc (.cells #[v, ve] 28)).alloc (.cells #[.slice none 0 0, .slice none 0 0] 28)) v ve xs ls (Nat.le_trans hC hB0.size) (hv.belowW hB0 hC) (he.below (hB0.mono hC))
  have hsl : ∃ ao len cap, v = .slice ao len cap := by
    obtain ⟨ao, cap, rfl, _⟩ := hv
    exact ⟨_, _, _, rfl⟩
  obtain ⟨ao, la, ca, rfl⟩ := hsl
  have he0 := he
  obtain ⟨eo, ec, rfl, _⟩ := he0
  obtain ⟨⟨c0, c1⟩, _⟩ := base4s (w := w) (va := .slice ao la ca) (vb := .slice eo ls.length ec) (T := 28) (Below.refl _ _)
  unfold remV remE remC
  have hxl : okJ xs ls = true → xs.length = 16 ∧ ls.length ≤ 256 := fun h => by
    unfold okJ at h
    simp only [Bool.and_eq_true, decide_eq_true_eq] at h
    exact ⟨(vecOK_get h.1).1, h.2.1⟩
  cases hok : okJ xs ls with
  | false =>
    rw [hok] at h1
    go_enter Tryz.func70, Tryz.ntmps70
    go_wp2_with fail
    refine h1.mono ?_
    rintro e w1 ⟨rfl, hB⟩
    have HR : Hid (Dy w1 (w.heap.size + 1) (.slice none 0 0) (.slice none 0 0)) := (base4s hB).2
    obtain ⟨⟨u0, u1⟩, hf⟩ := HR.out
    have f0 := hf 0
    have f1 := hf 1
    have hBw := below_seq hB0 hB
    clear c0 c1
    go_wp2_with fail
    have hp := (Dy.set1 (Dy.set0 HR.out (.slice none 0 0)) (.slice none 0 0)).1
    refine bodyPost_ret (v := .tuple #[.agg #[.slice none 0 0, .slice none 0 0], .int .i64 1]) ?_ rfl (setNone 1 ((hBw.setCell (p := ⟨w.heap.size + 1, 0, none⟩) (by show w.heap.size ≤ w.heap.size + 1; omega) _).setCell (p := ⟨w.heap.size + 1, 1, none⟩) (by show w.heap.size ≤ w.heap.size + 1; omega) _))
    simp [results, Tryz.results70, go_sem, hp.1, hp.2]
  | true =>
    rw [hok] at h1
    obtain ⟨h16, h256⟩ := hxl hok
    have hxs : xs.length ≤ 1048576 := by omega
    clear h16 hxl hok
    by_cases h200 : s.size ≤ 200
    · have i0 : ¬ (200 : Int) < (s.size : Int) := by omega
      rw [if_pos rfl, if_pos h200, if_pos rfl, if_pos h200, if_pos rfl, if_pos h200]
      go_enter Tryz.func70, Tryz.ntmps70
      go_wp2_with fail
      refine h1.mono ?_
      rintro e w1 ⟨rfl, hB⟩
      clear c0 c1
      go_wp2_with fail
      replace hB := hB.drew
      have hS := (base4s hB).1
      have hz2 := hB.size
      simp only [World.size_alloc] at hz2
      go_region_held3 (fun w' => w'.cell? ⟨w.heap.size, 0, none⟩ = some (.slice ao la ca) ∧ w'.cell? ⟨w.heap.size, 1, none⟩ = some (.slice eo ls.length ec)) (first | exact hS | exact two_set hS (by omega) _ _) (first | (go_at_call 39; refine Calls.mono (l02Copy_any C _ _ xs hxs (Nat.le_trans hC (below_seq hB0 hB).size) (hv.belowW (below_seq hB0 hB) hC)) ?_; rintro e w3 ⟨a3, k3, rfl, hq3, hb3⟩; replace hB := below_seq hB hb3; replace hS := (base4s hB).1; have z3 := hb3.size; clear hb3) | (go_at_call 23; refine Calls.mono (l03Without_any C _ _ ls s (by omega) (Nat.le_trans hC (below_seq hB0 hB).size) (he.below ((below_seq hB0 hB).mono hC))) ?_; rintro e w4 ⟨r4, rfl, hq4, hn4, hb4⟩; obtain ⟨g4, d4, rfl, hg4, _⟩ := hq4.some hn4; have hblk := hq3.blk; replace hq3 := hq3.below hb4 (Nat.le_refl _); replace hB := below_seq hB hb4; replace hS := (base4s hB).1; have hR4 := (base4s hB).2; have hR4' := hR4; obtain ⟨⟨u0, u1⟩, hf⟩ := hR4'; have f0 := hf 0; have f1 := hf 1; clear hb4))
      have hR5 := (Dy.set1 (Dy.set0 hR4 (.slice a3 xs.length k3)) (.slice (some ⟨g4, 0, none⟩) (without ls s).length d4)).1
      have hz3 : w.heap.size + 1 + 1 ≤ w1.drew.heap.size := hz2
      have l3 := hq3.mono hz3
      have l4 := hq4.mono (show w.heap.size + 1 + 1 ≤ _ from Nat.le_trans hz3 z3)
      have k1 := Own.setK (Own.setK l3 (P := w.heap.size + 1) 0 (.slice a3 xs.length k3) (by omega)) (P := w.heap.size + 1) 1 (.slice (some ⟨g4, 0, none⟩) (without ls s).length d4) (by omega)
      have k2 := OwnE.setK (OwnE.setK l4 (P := w.heap.size + 1) 0 (.slice a3 xs.length k3) (by omega)) (P := w.heap.size + 1) 1 (.slice (some ⟨g4, 0, none⟩) (without ls s).length d4) (by omega)
      have hB9 := ((below_seq hB0 hB).setCell (p := ⟨w.heap.size + 1, 0, none⟩) (by show w.heap.size ≤ w.heap.size + 1; omega) (.slice a3 xs.length k3)).setCell (p := ⟨w.heap.size + 1, 1, none⟩) (by show w.heap.size ≤ w.heap.size + 1; omega) (.slice (some ⟨g4, 0, none⟩) (without ls s).length d4)
      have hap : ∀ i, (Value.slice a3 xs.length k3).ownBlock = some i → (Value.slice (some ⟨g4, 0, none⟩) (without ls s).length d4).ownBlock ≠ some i := fun i hi e => by
        have h1 := hblk i hi
        have h2 : g4 = i := by simpa [Value.ownBlock] using e
        omega
      clear hS u0 u1 hf f0 f1 hR4 l3 l4 hq3 hq4
      go_wp2_with fail
      refine bodyPost_ret (v := .tuple #[.agg #[.slice a3 xs.length k3, .slice (some ⟨g4, 0, none⟩) (without ls s).length d4], .int .i64 0]) ?_ rfl ⟨a3, xs.length, k3, _, _, d4, rfl, k1.mono (by omega), k2.mono (by omega), hap, hB9⟩
      simp [results, Tryz.results70, go_sem, hR5.1, hR5.2]
    · have i0 : (200 : Int) < (s.size : Int) := by omega
      rw [if_pos rfl, if_neg h200, if_pos rfl, if_neg h200, if_pos rfl, if_neg h200]
      go_enter Tryz.func70, Tryz.ntmps70
      go_wp2_with fail
      refine h1.mono ?_
      rintro e w1 ⟨rfl, hB⟩
      have HR : Hid (Dy w1 (w.heap.size + 1) (.slice none 0 0) (.slice none 0 0)) := (base4s hB).2
      obtain ⟨⟨u0, u1⟩, hf⟩ := HR.out
      have f0 := hf 0
      have f1 := hf 1
      have hBw := below_seq hB0 hB
      clear c0 c1
      go_wp2_with fail
      have hp := (Dy.set1 (Dy.set0 HR.out (.slice none 0 0)) (.slice none 0 0)).1
      refine bodyPost_ret (v := .tuple #[.agg #[.slice none 0 0, .slice none 0 0], .int .i64 4]) ?_ rfl (setNone 4 ((hBw.setCell (p := ⟨w.heap.size + 1, 0, none⟩) (by show w.heap.size ≤ w.heap.size + 1; omega) _).setCell (p := ⟨w.heap.size + 1, 1, none⟩) (by show w.heap.size ≤ w.heap.size + 1; omega) _))
      simp [results, Tryz.results70, go_sem, hp.1, hp.2]
end Go.Proofs.YtfnlnigeaioocaaGreat
