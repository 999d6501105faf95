/- The laws' own functions over lists of changes: what holds what was written over. No condition: they are lemmas. -/
import Derived.Test.YtlncfeakcgjioaaChangeNestM
namespace Go.Proofs.Ytlncfeakcgjioaa
open Go.RowKit
set_option linter.unusedVariables false

set_option maxHeartbeats 4000000 in
set_option maxRecDepth 100000 in
theorem heldChangeS_same (C : Nat) (w : World) (v : Value) (P : List Cg) (q : Nat) (hq : endCg q P ≤ 4398046511104) (hd : ∀ x ∈ P, x.2.1.length ≤ 1048576 ∧ x.2.2.length ≤ 1048576) (hC : C ≤ w.heap.size) (hr : RdCg C w v (mkCg q P)) :
    Calls Try.prog 16 #[v, .int .i64 (q : Int)] w fun e w' => e = .returned (.int .i64 ((endCg q P : Nat) : Int)) ∧ Below w.heap.size w w' := by
  obtain ⟨ao, cap, rfl, hcap, hmax, _, hr⟩ := hr
  rw [mkCg_len] at hcap hr ⊢
  obtain ⟨n, hn⟩ : ∃ n, P.length = n := ⟨_, rfl⟩
  rw [hn] at hcap hr ⊢
  obtain ⟨FIN, HFIN⟩ : ∃ FIN, Hid (mkCg q P = FIN) := ⟨_, rfl⟩
  obtain ⟨en, HEN⟩ : ∃ en, Hid (endCg q P = en) := ⟨_, rfl⟩
  rw [HFIN.out] at hr
  rw [HEN.out] at hq ⊢
  have HEND : Hid (en ≤ 4398046511104) := hq
  have HD0 : Hid (∀ x ∈ P, x.2.1.length ≤ 1048576 ∧ x.2.2.length ≤ 1048576) := hd
  clear hd hq
  go_enter Try.func16, Try.ntmps16
  go_wp2_with fail
  go_loopw [1, 5] (fun tq ti wr => ∃ (k cur : Nat) (X R : List Cg), ti = .int .i64 (k : Int) ∧ tq = .int .i64 (cur : Int) ∧ X.length = k ∧ k + R.length = n ∧ Hid (FIN = X ++ mkCg cur R) ∧ Hid (en = endCg cur R) ∧ Hid (∀ x ∈ R, x.2.1.length ≤ 1048576 ∧ x.2.2.length ≤ 1048576) ∧ Below w.heap.size w wr) (fun _ ti _ => n - (intOf ti).toNat)
  case atStart => exact ⟨0, q, [], P, rfl, rfl, rfl, by omega, HFIN.out.symm, HEN.out.symm, HD0, Below.refl _ _⟩
  case round =>
    clear HD0 HFIN HEN hn
    obtain ⟨k, cur, X, R, rfl, rfl, hX, hR, HF, HE, HD, hB⟩ := hrel
    by_cases hlt : k < n
    · obtain ⟨x, R, rfl⟩ : ∃ x R', R = x :: R' := by
        cases R with
        | nil => simp at hR; omega
        | cons x R' => exact ⟨x, R', rfl⟩
      obtain ⟨g, off, rfl, hg, hc⟩ := hr (by omega)
      obtain ⟨xk, a, b⟩ := x
      have hxl := HD.out _ (List.mem_cons_self ..)
      simp only at hxl
      have HD2 : Hid (∀ x ∈ R, x.2.1.length ≤ 1048576 ∧ x.2.2.length ≤ 1048576) := fun f hf => HD.out f (List.mem_cons_of_mem _ hf)
      have hget : FIN[k]? = some (mt cur, marksT (cur + 1) a.length, marksT (cur + 1 + a.length) b.length) := by
        rw [HF.out, ← hX, List.getElem?_append_right (Nat.le_refl _), Nat.sub_self]
        rfl
      have HF2 : Hid (FIN = (X ++ [(mt cur, marksT (cur + 1) a.length, marksT (cur + 1 + a.length) b.length)]) ++ mkCg (cur + 1 + a.length + b.length) R) := by
        unfold Hid
        rw [HF.out, List.append_assoc]
        rfl
      have HE2 : Hid (en = endCg (cur + 1 + a.length + b.length) R) := HE.out
      have hge := endCg_ge (cur + 1 + a.length + b.length) R
      rw [← HE2.out] at hge
      have hen := HEND.out
      have hcm : cur + 1 + a.length + b.length ≤ 4398046511104 := by omega
      have hsz := hB.size
      obtain ⟨d0, u, v, d1, d2, r1, r2⟩ := (hc k _ hget).below (hB.mono hC) hg
      have j0 : (0 : Int) ≤ (k : Int) := by omega
      have j1 : (k : Int) < (n : Int) := by omega
      have j2 : (k : Int) + 1 < 9223372036854775808 := by unfold maxLen at hmax; omega
      have jm : (cur : Int) + 1 < 9223372036854775808 := by omega
      rw [List.length_cons] at hR
      have HR : Hid (k + (R.length + 1) = n) := hR
      have hT := fun w => markText_any cur (by omega) w
      clear HF HE HD hge hen hR hget hc hr
      simp only at d0 d1 d2 r1 r2
      generalize mt cur = tx at hT HF2 d0
      go_wp2_with fail
      go_region_held2 (fun w' => w'.cell? ⟨g, off + k * 3, none⟩ = some (.string tx)) (first | exact d0 | exact cell_on hbT d0) (first | (go_at_call 30; refine (hT _).mono ?_; rintro e w3 ⟨rfl, hbT⟩))
      replace d1 := cell_on (w := _) hbT (show World.cell? _ _ = _ from d1)
      replace r1 := r1.below ((Below.refl C wr).drew.trans (hbT.mono (by show C ≤ wr.heap.size; omega)))
      replace d2 := cell_on (w := _) hbT (show World.cell? _ _ = _ from d2)
      replace r2 := r2.below ((Below.refl C wr).drew.trans (hbT.mono (by show C ≤ wr.heap.size; omega)))
      replace hB := below_seq hB.drew hbT
      have hs3 := hbT.size
      replace hs3 : wr.heap.size ≤ w3.heap.size := hs3
      clear hT d0 hbT
      have hH1 := heldStringS_same C w3 u (cur + 1) a.length (by omega) (by omega) (by omega) r1
      simp only [show ((cur + 1 : Nat) : Int) = (cur : Int) + 1 by omega, show ((cur + 1 + a.length : Nat) : Int) = (cur : Int) + 1 + (a.length : Int) by omega] at hH1
      obtain ⟨ua, uc, hue1⟩ := rd_slice r1
      rw [hue1] at d1 hH1
      go_wp2_with fail
      refine hH1.mono ?_
      rintro e v0 ⟨rfl, hb0⟩
      replace hB := below_seq hB hb0
      have hsv0 := hb0.size
      replace d2 := cell_on (w := _) hb0 (show World.cell? _ _ = _ from d2)
      replace r2 := r2.below (hb0.mono (by omega))
      have jn0 : decide ((cur : Int) + 1 + (a.length : Int) < 0) = false := by simp; omega
      clear hH1 d1 hue1
      have hH2 := heldStringS_same C v0 v (cur + 1 + a.length) b.length (by omega) (by omega) (by omega) r2
      simp only [show ((cur + 1 + a.length : Nat) : Int) = (cur : Int) + 1 + (a.length : Int) by omega, show ((cur + 1 + a.length + b.length : Nat) : Int) = (cur : Int) + 1 + (a.length : Int) + (b.length : Int) by omega] at hH2
      obtain ⟨va, vc, hue2⟩ := rd_slice r2
      rw [hue2] at d2 hH2
      go_wp2_with fail
      refine hH2.mono ?_
      rintro e v1 ⟨rfl, hb1⟩
      replace hB := below_seq hB hb1
      have hsv1 := hb1.size
      have jn1 : decide ((cur : Int) + 1 + (a.length : Int) + (b.length : Int) < 0) = false := by simp; omega
      clear hH2 d2 hue2
      go_wp2_with fail
      go_roundw
      case rel => exact ⟨k + 1, cur + 1 + a.length + b.length, _, R, by go_num, by go_num, by rw [List.length_append, hX]; rfl, by have := HR.out; omega, HF2, HE2, HD2, hB⟩
      case measure => simp [intOf]; omega
    · have hR0 : R = [] := List.eq_nil_of_length_eq_zero (by omega)
      subst hR0
      have HE2 : Hid (en = cur) := HE.out
      have j1 : ¬ (k : Int) < (n : Int) := by omega
      go_wp2_with fail
      go_ret
      exact ⟨by rw [HE2.out]; rfl, hB⟩
end Go.Proofs.Ytlncfeakcgjioaa
