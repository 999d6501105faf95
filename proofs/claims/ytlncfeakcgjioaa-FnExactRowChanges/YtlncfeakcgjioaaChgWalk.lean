/- The law on RowChanges, walked. No condition: they are lemmas. -/
import Derived.Test.YtlncfeakcgjioaaChgSpec
import Derived.Test.YtlncfeakcgjioaaColMark
import Derived.Test.YtlncfeakcgjioaaRowNestM
import Derived.Test.YtlncfeakcgjioaaChangeNestH
namespace Go.Proofs.Ytlncfeakcgjioaa
open Go.RowKit
set_option linter.unusedVariables false

theorem chgL_size (ls : List Cn) (Pa Pb : List Rw) : (chgL ls Pa Pb).length + lnCg (chgL ls Pa Pb) ≤ Pa.length + Pb.length + lnRw Pa + lnRw Pb := by
  unfold chgL
  split
  · exact chg_size _ _ _
  · exact Nat.zero_le _
theorem RdCn.low {C : Nat} {w w' : World} {v : Value} {ls : List Cn} (h : RdCn C w v ls) (hb : Below C w w') : RdCn C w' v ls := by
  obtain ⟨ao, cap, rfl, h⟩ := h
  refine ⟨ao, cap, rfl, fun hp => ?_⟩
  obtain ⟨g, off, rfl, hg, hr⟩ := h hp
  exact ⟨g, off, rfl, hg, fun k hk => ⟨(hb.cell (p := ⟨g, off + k * 3, none⟩) hg).trans (hr k hk).1, (hb.cell (p := ⟨g, off + (k * 3 + 1), none⟩) hg).trans (hr k hk).2.1, (hb.cell (p := ⟨g, off + (k * 3 + 2), none⟩) hg).trans (hr k hk).2.2⟩⟩
/-- What the law holds while it walks: the specification's answer, the arguments' copies, the code's answer. -/
structure Kc (w wX : World) (s s5 s6 s7 s8 : Nat) (r0 x0 x1 x2 r1 : Value) (ls : List Cn) (Pa Pb : List Rw) (A : List Cg) : Prop where
  bel : Below w.heap.size w wX
  r0 : RdCg s wX r0 A
  x0 : OwnCn wX s x0 ls
  x1 : OwRw wX s5 s6 x1 Pa
  x2 : OwRw wX s6 s7 x2 Pb
  g : OwCg wX s7 s8 r1 A
  z : s8 ≤ wX.heap.size
theorem Kc.below {w wX w' : World} {s s5 s6 s7 s8 : Nat} {r0 x0 x1 x2 r1 : Value} {ls : List Cn} {Pa Pb : List Rw} {A : List Cg} (h : Kc w wX s s5 s6 s7 s8 r0 x0 x1 x2 r1 ls Pa Pb A) (hs : s ≤ s8) (hb : Below wX.heap.size wX w') : Kc w w' s s5 s6 s7 s8 r0 x0 x1 x2 r1 ls Pa Pb A :=
  ⟨below_seq h.bel hb, h.r0.below (hb.mono (by have := h.z; omega)), ownM_on h.x0 hb, h.x1.below hb, h.x2.below hb, h.g.below hb, by have := h.z; have := hb.size; omega⟩
/-- What is left behind the writing over. -/
structure Kd (w wX : World) (s s7 s8 : Nat) (r0 r1 : Value) (A A' : List Cg) : Prop where
  bel : Below w.heap.size w wX
  r0 : RdCg s wX r0 A
  g : OwCg wX s7 s8 r1 A'
  z : s8 ≤ wX.heap.size
theorem Kd.below {w wX w' : World} {s s7 s8 : Nat} {r0 r1 : Value} {A A' : List Cg} (h : Kd w wX s s7 s8 r0 r1 A A') (hs : s ≤ s8) (hb : Below wX.heap.size wX w') : Kd w w' s s7 s8 r0 r1 A A' :=
  ⟨below_seq h.bel hb, h.r0.below (hb.mono (by have := h.z; omega)), h.g.below hb, by have := h.z; have := hb.size; omega⟩

set_option maxHeartbeats 8000000 in
set_option maxRecDepth 100000 in
theorem lawRowChanges_walk (w : World) (v0 v1 v2 : Value) (ls : List Cn) (Pa Pb : List Rw) (h0 : RdCn w.heap.size w v0 ls) (h1 : RdRw w.heap.size w v1 Pa) (h2 : RdRw w.heap.size w v2 Pb) (hn0 : ls.length ≤ 9223372036854775807) (ht0 : ∀ k, (cnAt ls k).1.size ≤ 9223372036854775807)
    (hn1 : Pa.length ≤ maxLen) (ht1 : ∀ x ∈ Pa, x.1.size ≤ maxLen ∧ x.2.length ≤ maxLen ∧ ∀ t ∈ x.2, t.size ≤ maxLen) (hn2 : Pb.length ≤ maxLen) (ht2 : ∀ x ∈ Pb, x.1.size ≤ maxLen ∧ x.2.length ≤ maxLen ∧ ∀ t ∈ x.2, t.size ≤ maxLen) :
    Calls Try.prog 3 #[v0, v1, v2] w fun e w' => e = .returned (.bool true) ∧ Below w.heap.size w w' := by
  have hz := szColumnS_any w.heap.size w v0 ls 1048576 (by omega) (by omega) hn0 ht0 (Nat.le_refl _) h0
  go_enter Try.func3, Try.ntmps3
  go_wp2_with fail
  refine hz.mono ?_
  rintro e w1 ⟨⟨x, rfl, hx1, hx2, hx3⟩, hb1⟩
  clear hz
  by_cases hxn : x < 0
  · go_wp2_with fail
    go_ret
    exact ⟨rfl, hb1⟩
  have dx : decide (x < 0) = false := by simp; omega
  have hl0 := hx3 (by omega)
  have hz := szRowS_any w.heap.size w1 v1 Pa x (by omega) hx2 hn1 ht1 hb1.size (h1.below hb1)
  clear hx3
  go_wp2_with fail
  refine hz.mono ?_
  rintro e w2 ⟨⟨y, rfl, hy1, hy2, hy3⟩, hb2⟩
  replace hb1 := below_seq hb1 hb2
  clear hz hb2 dx
  by_cases hyn : y < 0
  · go_wp2_with fail
    go_ret
    exact ⟨rfl, hb1⟩
  have dy : decide (y < 0) = false := by simp; omega
  have hl1 := hy3 (by omega)
  have hz := szRowS_any w.heap.size w2 v2 Pb y (by omega) (by omega) hn2 ht2 hb1.size (h2.below hb1)
  clear hy3
  go_wp2_with fail
  refine hz.mono ?_
  rintro e w3 ⟨⟨z, rfl, hz1, hz2, hz3⟩, hb2⟩
  replace hb1 := below_seq hb1 hb2
  clear hz hb2 dy
  by_cases hzn : z < 0
  · go_wp2_with fail
    go_ret
    exact ⟨rfl, hb1⟩
  have dz : decide (z < 0) = false := by simp; omega
  have hl2 := hz3 (by omega)
  have hsum : Pa.length + lnRw Pa + (Pb.length + lnRw Pb) ≤ 1048576 := by omega
  have hva : ∀ q ∈ Pa, q.2.length ≤ 1048576 := fun q hq => by have := lnRw_mem hq; omega
  have hvb : ∀ q ∈ Pb, q.2.length ≤ 1048576 := fun q hq => by have := lnRw_mem hq; omega
  have hpa : Pa.length ≤ 1048576 := by omega
  have hpb : Pb.length ≤ 1048576 := by omega
  have hA := chgL_size ls Pa Pb
  have hSP := fun (C : Nat) (w9 : World) (a b c : Value) (hC : C ≤ w9.heap.size) (q0 : RdCn C w9 a ls) (q1 : RdRw C w9 b Pa) (q2 : RdRw C w9 c Pb) => specRowChanges_any C w9 a b c ls Pa Pb hl0 hpa hpb hva hvb hC q0 q1 q2
  have hIM := fun (C : Nat) (w9 : World) (a b c : Value) (hC : C ≤ w9.heap.size) (q0 : RdCn C w9 a ls) (q1 : RdRw C w9 b Pa) (q2 : RdRw C w9 c Pb) => implRowChanges_any C w9 a b c ls Pa Pb hl0 hpa hpb hva hvb hC q0 q1 q2
  obtain ⟨A, hAe⟩ : ∃ A, chgL ls Pa Pb = A := ⟨_, rfl⟩
  obtain ⟨cd, hce⟩ : ∃ cd, chgC ls Pa Pb = cd := ⟨_, rfl⟩
  rw [hAe] at hA
  simp only [hAe, hce] at hSP hIM
  have HAL : Hid (A.length + lnCg A ≤ 1048576) := by unfold Hid; omega
  have HAD : Hid (∀ q ∈ A, q.2.1.length ≤ 1048576 ∧ q.2.2.length ≤ 1048576) := fun q hq => by have := lnCg_mem hq; exact ⟨by omega, by omega⟩
  have HAD2 : Hid (∀ q ∈ A, q.2.1.length ≤ 140737488355328 ∧ q.2.2.length ≤ 140737488355328) := fun q hq => by have := HAD.out q hq; exact ⟨by omega, by omega⟩
  have HEA : Hid (endCg 1 A = 1 + A.length + lnCg A) := endCg_eq 1 A
  have HSUM : Hid (Pa.length + lnRw Pa + (Pb.length + lnRw Pb) ≤ 1048576) := hsum
  have hT0 := fun (w9 : World) (hb : Below w.heap.size w w9) => toColumnS_any w.heap.size w9 v0 ls hl0 hb.size (h0.low hb)
  have hT1 := fun (w9 : World) (hb : Below w.heap.size w w9) => toRowS_any w.heap.size w9 v1 Pa hpa hva hb.size (h1.below hb)
  have hT2 := fun (w9 : World) (hb : Below w.heap.size w w9) => toRowS_any w.heap.size w9 v2 Pb hpb hvb hb.size (h2.below hb)
  clear hA hAe hce hsum hz3 hl1 hl2 hx1 hx2 hxn hy1 hy2 hyn hz1 hz2 hzn hn0 ht0 hn1 ht1 hn2 ht2 h0 h1 h2
  go_wp2_with fail
  refine (hT0 _ hb1).mono ?_
  rintro e u1 ⟨rfl, ho0, hb2⟩
  have q0 := OwnCn.rd ho0
  replace hb1 := below_seq hb1 hb2
  clear hb2 ho0 dz
  go_wp2_with fail
  refine (hT1 _ hb1).mono ?_
  rintro e u2 ⟨rfl, ho1, hb2⟩
  have q1 := ho1.rd
  replace q0 := (q0.low hb2).mono hb2.size
  replace hb1 := below_seq hb1 hb2
  clear hb2 ho1
  go_wp2_with fail
  refine (hT2 _ hb1).mono ?_
  rintro e u3 ⟨rfl, ho2, hb2⟩
  have q2 := ho2.rd
  replace q0 := (q0.low hb2).mono hb2.size
  replace q1 := (q1.below hb2).mono hb2.size
  replace hb1 := below_seq hb1 hb2
  clear hb2 ho2
  go_wp2_with fail
  refine (hSP _ _ _ _ _ (Nat.le_refl _) q0 q1 q2).mono ?_
  rintro e wS ⟨r0, rfl, hr0, hb2⟩
  replace hr0 := hr0.rd
  replace hb1 := below_seq hb1 hb2
  have hbS := hb1.size
  clear hb2 q0 q1 q2 hSP
  go_wp2_with fail
  refine (hT0 _ hb1).mono ?_
  rintro e w5 ⟨rfl, ho0, hb2⟩
  have hE0 : ∀ k, (Value.slice (some ⟨wS.heap.size, 0, none⟩) ls.length ls.length).ownBlock = some k → k < w5.heap.size := fun k hk => (owns_lt ho0 k hk).2
  replace hr0 := hr0.below hb2
  replace hb1 := below_seq hb1 hb2
  have s5 := hb2.size
  clear hb2
  go_wp2_with fail
  refine (hT1 _ hb1).mono ?_
  rintro e w6 ⟨rfl, ho1, hb2⟩
  replace hr0 := hr0.below (hb2.mono s5)
  replace ho0 := ownM_on ho0 hb2
  replace hb1 := below_seq hb1 hb2
  have s6 := hb2.size
  clear hb2
  go_wp2_with fail
  refine (hT2 _ hb1).mono ?_
  rintro e w7 ⟨rfl, ho2, hb2⟩
  replace hr0 := hr0.below (hb2.mono (by omega))
  replace ho0 := ownM_on ho0 hb2
  replace ho1 := ho1.below hb2
  replace hb1 := below_seq hb1 hb2
  have s7 := hb2.size
  clear hb2
  go_wp2_with fail
  refine (hIM _ _ _ _ _ (Nat.le_refl _) (OwnCn.rd ho0) ho1.rd ho2.rd).mono ?_
  rintro e w8 ⟨r1, rfl, hg, hb2⟩
  have K : Kc w w8 wS.heap.size w5.heap.size w6.heap.size w7.heap.size w8.heap.size r0 _ _ _ r1 ls Pa Pb A := ⟨below_seq hb1 hb2, hr0.below (hb2.mono (by omega)), ownM_on ho0 hb2, ho1.below hb2, ho2.below hb2, hg, Nat.le_refl _⟩
  have s8 := hb2.size
  have ss : wS.heap.size ≤ w8.heap.size := by omega
  clear hb1 hb2 hr0 ho0 ho1 ho2 hg
  go_wp2_with fail
  refine (eqChangeS_same _ _ w8 r1 r0 A (by have := HAL.out; omega) HAD2.out (Nat.le_refl _) ss K.g.rd K.r0).mono ?_
  rintro e u1 ⟨rfl, hb2⟩
  replace K := K.below ss hb2
  clear hb2
  go_wp2_with fail
  refine (hT0 _ K.bel).mono ?_
  rintro e u2 ⟨rfl, ho, hb2⟩
  replace K := K.below ss hb2
  clear hb2
  go_wp2_with fail
  refine (eqColumnS_same _ _ u2 _ _ ls (by omega) (Nat.le_refl _) (Nat.le_refl _) (OwnCn.rd K.x0) (OwnCn.rd ho)).mono ?_
  rintro e u3 ⟨rfl, hb2⟩
  replace K := K.below ss hb2
  clear hb2 ho
  go_wp2_with fail
  refine (hT1 _ K.bel).mono ?_
  rintro e u4 ⟨rfl, ho, hb2⟩
  replace K := K.below ss hb2
  clear hb2
  go_wp2_with fail
  refine (eqRowS_same _ _ u4 _ _ Pa (by omega) (fun q hq => by have := hva q hq; omega) (Nat.le_refl _) (Nat.le_refl _) K.x1.rd ho.rd).mono ?_
  rintro e u5 ⟨rfl, hb2⟩
  replace K := K.below ss hb2
  clear hb2 ho
  go_wp2_with fail
  refine (hT2 _ K.bel).mono ?_
  rintro e u6 ⟨rfl, ho, hb2⟩
  replace K := K.below ss hb2
  clear hb2
  go_wp2_with fail
  refine (eqRowS_same _ _ u6 _ _ Pb (by omega) (fun q hq => by have := hvb q hq; omega) (Nat.le_refl _) (Nat.le_refl _) K.x2.rd ho.rd).mono ?_
  rintro e u7 ⟨rfl, hb2⟩
  replace K := K.below ss hb2
  clear hb2 ho
  have hM := markColumnS_fr wS.heap.size w5.heap.size u7 _ ls 1 hl0 (by omega) hE0 K.x0
  go_wp2_with fail
  refine hM.mono ?_
  rintro e u8 ⟨rfl, hf⟩
  have z8 := K.z
  have K2 : Below w.heap.size w u8 ∧ RdCg wS.heap.size u8 r0 A ∧ OwRw u8 w5.heap.size w6.heap.size _ Pa ∧ OwRw u8 w6.heap.size w7.heap.size _ Pb ∧ OwCg u8 w7.heap.size w8.heap.size r1 A ∧ w8.heap.size ≤ u8.heap.size := ⟨K.bel.trans ((hf.below (by omega)).mono hbS), K.r0.below (hf.below (by omega)), K.x1.same (fun k h1 _ hl => hf.block k hl (.inr h1)), K.x2.same (fun k h1 _ hl => hf.block k hl (.inr (by omega))), K.g.same (fun k h1 _ hl => hf.block k hl (.inr (by omega))), by have := hf.size; omega⟩
  clear hM hf K z8 hE0
  obtain ⟨kb, k0, k1, k2, kg, kz⟩ := K2
  have hM := markRowS_any w5.heap.size w6.heap.size u8 _ Pa (1 + 3 * ls.length) (by rw [endRw_eq]; have := HSUM.out; omega) hva (by omega) k1
  go_wp2_with fail
  refine hM.mono ?_
  rintro e u9 ⟨rfl, -, hf⟩
  have K2 : Below w.heap.size w u9 ∧ RdCg wS.heap.size u9 r0 A ∧ OwRw u9 w6.heap.size w7.heap.size _ Pb ∧ OwCg u9 w7.heap.size w8.heap.size r1 A ∧ w8.heap.size ≤ u9.heap.size := ⟨kb.trans ((hf.below (by omega)).mono (by omega)), k0.below ((hf.below (by omega)).mono s5), k2.same (fun k h1 _ hl => hf.block k hl (.inr h1)), kg.same (fun k h1 _ hl => hf.block k hl (.inr (by omega))), by have := hf.size; omega⟩
  clear hM hf kb k0 k1 k2 kg kz
  obtain ⟨kb, k0, k2, kg, kz⟩ := K2
  have hM := markRowS_any w6.heap.size w7.heap.size u9 _ Pb (endRw (1 + 3 * ls.length) Pa) (by rw [endRw_eq, endRw_eq]; have := HSUM.out; omega) hvb (by omega) k2
  go_wp2_with fail
  refine hM.mono ?_
  rintro e ua ⟨rfl, -, hf⟩
  have K : Kd w ua wS.heap.size w7.heap.size w8.heap.size r0 r1 A A := ⟨kb.trans ((hf.below (by omega)).mono (by omega)), k0.below ((hf.below (by omega)).mono (by omega)), kg.same (fun k h1 _ hl => hf.block k hl (.inr h1)), by have := hf.size; omega⟩
  clear hM hf kb k0 k2 kg kz
  generalize endRw (endRw (1 + 3 * ls.length) Pa) Pb = en
  have den : decide (((en : Nat) : Int) < 0) = false := by simp
  go_wp2_with fail
  refine (eqChangeS_same _ _ ua r1 r0 A (by have := HAL.out; omega) HAD2.out (Nat.le_refl _) (by have := K.z; omega) K.g.rd K.r0).mono ?_
  rintro e ub ⟨rfl, hb2⟩
  replace K := K.below ss hb2
  clear hb2 den
  go_wp2_with fail
  have hM := markChangeS_any w7.heap.size w8.heap.size ub r1 A 1 (by rw [HEA.out]; have := HAL.out; omega) HAD.out (by have := K.z; omega) K.g
  refine hM.mono ?_
  rintro e uc ⟨rfl, hg2, hf⟩
  have K3 : Kd w uc wS.heap.size w7.heap.size w8.heap.size r0 r1 A (mkCg 1 A) := ⟨K.bel.trans ((hf.below (by have := K.z; omega)).mono (by omega)), K.r0.below ((hf.below (by have := K.z; omega)).mono (by omega)), hg2, by have := hf.size; have := K.z; omega⟩
  clear hM hf K hg2
  have hH := fun (w9 : World) (k : Kd w w9 wS.heap.size w7.heap.size w8.heap.size r0 r1 A (mkCg 1 A)) => heldChangeS_same w9.heap.size w9 r1 A 1 (by rw [HEA.out]; have := HAL.out; omega) HAD.out (Nat.le_refl _) k.g.rd
  obtain ⟨ea, HEE⟩ : ∃ ea, Hid (endCg 1 A = ea) := ⟨_, rfl⟩
  rw [HEE.out] at hH ⊢
  have dea : decide (((ea : Nat) : Int) < 0) = false := by simp
  go_wp2_with fail
  refine (hH uc K3).mono ?_
  rintro e ud ⟨rfl, hb2⟩
  replace K3 := K3.below ss hb2
  clear hb2
  go_wp2_with fail
  refine (hT0 _ K3.bel).mono ?_
  rintro e u1 ⟨rfl, ho0, hb2⟩
  have q0 := OwnCn.rd ho0
  replace K3 := K3.below ss hb2
  clear hb2 ho0
  go_wp2_with fail
  refine (hT1 _ K3.bel).mono ?_
  rintro e u2 ⟨rfl, ho1, hb2⟩
  have q1 := ho1.rd
  replace q0 := (q0.low hb2).mono hb2.size
  replace K3 := K3.below ss hb2
  clear hb2 ho1
  go_wp2_with fail
  refine (hT2 _ K3.bel).mono ?_
  rintro e u3 ⟨rfl, ho2, hb2⟩
  have q2 := ho2.rd
  replace q0 := (q0.low hb2).mono hb2.size
  replace q1 := (q1.below hb2).mono hb2.size
  replace K3 := K3.below ss hb2
  clear hb2 ho2
  go_wp2_with fail
  refine (hIM _ _ _ _ _ (Nat.le_refl _) q0 q1 q2).mono ?_
  rintro e u4 ⟨r2, rfl, hg2, hb2⟩
  replace K3 := K3.below ss hb2
  clear hb2 q0 q1 q2 hIM
  go_wp2_with fail
  refine (eqChangeS_same _ _ u4 r2 r0 A (by have := HAL.out; omega) HAD2.out (Nat.le_refl _) (by have := K3.z; omega) hg2.rd K3.r0).mono ?_
  rintro e u5 ⟨rfl, hb2⟩
  replace K3 := K3.below ss hb2
  clear hb2 hg2
  go_wp2_with fail
  refine (hH u5 K3).mono ?_
  rintro e u6 ⟨rfl, hb2⟩
  replace K3 := K3.below ss hb2
  clear hb2
  go_wp2_with fail
  go_ret
  exact ⟨rfl, K3.bel⟩
end Go.Proofs.Ytlncfeakcgjioaa
