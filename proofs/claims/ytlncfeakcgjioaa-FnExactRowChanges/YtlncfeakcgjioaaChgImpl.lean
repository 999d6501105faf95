/- What RowChanges of the code answers. No condition: they are lemmas. -/
import Derived.Test.YtlncfeakcgjioaaChgBase
import Derived.Test.YtlncfeakcgjioaaRowsOK
namespace Go.Proofs.Ytlncfeakcgjioaa
open Go.RowKit
set_option linter.unusedVariables false

theorem chg_len : ∀ (f : Nat) (a b : List Rw), (chg f a b).length ≤ a.length + b.length
  | 0, _, _ => Nat.zero_le _
  | _ + 1, [], [] => Nat.zero_le _
  | f + 1, [], y :: b => by
    have := chg_len f [] b
    simp only [chg, List.length_cons, List.length_nil] at this ⊢
    omega
  | f + 1, x :: a, [] => by
    have := chg_len f a []
    simp only [chg, List.length_cons, List.length_nil] at this ⊢
    omega
  | f + 1, x :: a, y :: b => by
    have h1 := chg_len f a (y :: b)
    have h2 := chg_len f (x :: a) b
    have h3 := chg_len f a b
    unfold chg
    split
    · simp only [List.length_cons] at h1 ⊢
      omega
    · split
      · simp only [List.length_cons] at h2 ⊢
        omega
      · split
        · simp only [List.length_cons] at h3 ⊢
          omega
        · simp only [List.length_cons] at h3 ⊢
          omega
def lenV : Value → Nat
  | .slice _ n _ => n
  | _ => 0
/-- What RowChanges answers: changes and a code. -/
def chgOK (ls : List Cn) (Pa Pb : List Rw) : Bool := colsOK ls && rowsB ls.length Pa && rowsB ls.length Pb
def chgL (ls : List Cn) (Pa Pb : List Rw) : List Cg := if chgOK ls Pa Pb then chg (Pa.length + Pb.length) Pa Pb else []
def chgC (ls : List Cn) (Pa Pb : List Rw) : Int := if chgOK ls Pa Pb then 0 else 1
/-- What the loop holds: what is still to be compared, and the changes so far. -/
structure Lp (w wr : World) (C f : Nat) (ta tb tl : Value) (A B : List Rw) (L FULL : List Cg) : Prop where
  fuel : A.length + B.length ≤ f
  la : A.length ≤ 2048
  lb : B.length ≤ 2048
  full : FULL = L ++ chg f A B
  ra : RdRw C wr ta A
  rb : RdRw C wr tb B
  own : OwCg wr w.heap.size wr.heap.size tl L
  va : ∀ x ∈ A, x.2.length ≤ 1048576
  vb : ∀ x ∈ B, x.2.length ≤ 1048576
  bel : Below w.heap.size w wr
  cw : C ≤ w.heap.size
  fl : FULL.length ≤ 4096
theorem Lp.len {w wr : World} {C f : Nat} {ta tb tl : Value} {A B : List Rw} {L FULL : List Cg} (h : Lp w wr C f ta tb tl A B L FULL) : L.length ≤ 4096 := by
  have h1 := h.full
  have h2 := h.fl
  rw [h1, List.length_append] at h2
  omega
/-- One change more, and the first row of a is done. -/
theorem Lp.stepA {w wr w' : World} {C f : Nat} {ta tb tl ta' tl' : Value} {x : Rw} {A B : List Rw} {L FULL : List Cg} {y : Cg} (h : Lp w wr C (f + 1) ta tb tl (x :: A) B L FULL) (hc : chg (f + 1) (x :: A) B = y :: chg f A B) (hb : Below w.heap.size wr w') (ho : OwCg w' w.heap.size w'.heap.size tl' (L ++ [y])) (ha : RdRw C w' ta' A) : Lp w w' C f ta' tb tl' A B (L ++ [y]) FULL :=
  ⟨by have := h.fuel; simp at this; omega, by have := h.la; simp at this; omega, h.lb, by rw [h.full, hc, List.append_assoc]; rfl, ha, h.rb.below (hb.mono h.cw), ho, fun z hz => h.va z (List.mem_cons_of_mem _ hz), h.vb, h.bel.trans hb, h.cw, h.fl⟩
theorem Lp.stepB {w wr w' : World} {C f : Nat} {ta tb tl tb' tl' : Value} {x : Rw} {A B : List Rw} {L FULL : List Cg} {y : Cg} (h : Lp w wr C (f + 1) ta tb tl A (x :: B) L FULL) (hc : chg (f + 1) A (x :: B) = y :: chg f A B) (hb : Below w.heap.size wr w') (ho : OwCg w' w.heap.size w'.heap.size tl' (L ++ [y])) (hbr : RdRw C w' tb' B) : Lp w w' C f ta tb' tl' A B (L ++ [y]) FULL :=
  ⟨by have := h.fuel; simp at this; omega, h.la, by have := h.lb; simp at this; omega, by rw [h.full, hc, List.append_assoc]; rfl, h.ra.below (hb.mono h.cw), hbr, ho, h.va, fun z hz => h.vb z (List.mem_cons_of_mem _ hz), h.bel.trans hb, h.cw, h.fl⟩
theorem Lp.stepAB {w wr w' : World} {C f : Nat} {ta tb tl ta' tb' tl' : Value} {x z : Rw} {A B : List Rw} {L FULL D : List Cg} (h : Lp w wr C (f + 1) ta tb tl (x :: A) (z :: B) L FULL) (hc : chg (f + 1) (x :: A) (z :: B) = D ++ chg f A B) (hb : Below w.heap.size wr w') (ho : OwCg w' w.heap.size w'.heap.size tl' (L ++ D)) (ha : RdRw C w' ta' A) (hbr : RdRw C w' tb' B) : Lp w w' C f ta' tb' tl' A B (L ++ D) FULL :=
  ⟨by have := h.fuel; simp at this; omega, by have := h.la; simp at this; omega, by have := h.lb; simp at this; omega, by rw [h.full, hc, List.append_assoc], ha, hbr, ho, fun y hz => h.va y (List.mem_cons_of_mem _ hz), fun y hz => h.vb y (List.mem_cons_of_mem _ hz), h.bel.trans hb, h.cw, h.fl⟩
theorem Lp.later {w wr w' : World} {C f : Nat} {ta tb tl : Value} {A B : List Rw} {L FULL : List Cg} (h : Lp w wr C f ta tb tl A B L FULL) (hb : Below wr.heap.size wr w') : Lp w w' C f ta tb tl A B L FULL := by
  have hs := h.bel.size
  exact ⟨h.fuel, h.la, h.lb, h.full, h.ra.below (hb.mono (by have := h.cw; omega)), h.rb.below (hb.mono (by have := h.cw; omega)), (h.own.below hb).now, h.va, h.vb, below_seq h.bel hb, h.cw, h.fl⟩
theorem Lp.drawn {w wr : World} {C f : Nat} {ta tb tl : Value} {A B : List Rw} {L FULL : List Cg} (h : Lp w wr C f ta tb tl A B L FULL) (n : Nat) : Lp w (wr.drewN n) C f ta tb tl A B L FULL := by
  have hb : Below wr.heap.size wr (wr.drewN n) := nest_drewN (Below.refl _ _) n
  have hs := h.bel.size
  exact ⟨h.fuel, h.la, h.lb, h.full, h.ra.below (hb.mono (by have := h.cw; omega)), h.rb.below (hb.mono (by have := h.cw; omega)), (h.own.below hb).now, h.va, h.vb, nest_drewN h.bel n, h.cw, h.fl⟩

set_option maxHeartbeats 16000000 in
set_option maxRecDepth 100000 in
theorem implRowChanges_any (C : Nat) (w : World) (vc va vb : Value) (ls : List Cn) (Pa Pb : List Rw) (hlc : ls.length ≤ 1048576) (hla : Pa.length ≤ 1048576) (hlb : Pb.length ≤ 1048576) (hda : ∀ x ∈ Pa, x.2.length ≤ 1048576) (hdb : ∀ x ∈ Pb, x.2.length ≤ 1048576) (hC : C ≤ w.heap.size) (hrc : RdCn C w vc ls) (hra : RdRw C w va Pa) (hrb : RdRw C w vb Pb) :
    Calls Try.prog 9 #[vc, va, vb] w fun e w' => ∃ r, e = .returned (.tuple #[r, .int .i64 (chgC ls Pa Pb)]) ∧ OwCg w' w.heap.size w'.heap.size r (chgL ls Pa Pb) ∧ Below w.heap.size w w' := by
  have hKA := fun (w9 : World) (h : Below w.heap.size w w9) => rowsOK_any C w9 vc va ls Pa hlc hla hda (Nat.le_trans hC h.size) (hrc.on hC h) (hra.on hC h)
  have hKB := fun (w9 : World) (h : Below w.heap.size w w9) => rowsOK_any C w9 vc vb ls Pb hlc hlb hdb (Nat.le_trans hC h.size) (hrc.on hC h) (hrb.on hC h)
  obtain ⟨co, cc, rfl⟩ : ∃ co cc, vc = .slice co ls.length cc := by
    obtain ⟨co, cc, e, _⟩ := hrc
    exact ⟨co, cc, e⟩
  obtain ⟨aa, ac, rfl⟩ := hra.slice
  obtain ⟨ba, bc, rfl⟩ := hrb.slice
  have HOK : Hid (chgOK ls Pa Pb = ((colsOK ls && rowsB ls.length Pa) && (colsOK ls && rowsB ls.length Pb))) := by
    unfold Hid chgOK
    cases colsOK ls <;> cases rowsB ls.length Pa <;> cases rowsB ls.length Pb <;> rfl
  have HLA : Hid ((colsOK ls && rowsB ls.length Pa) = true → Pa.length ≤ 2048) := fun h => rowsB_len (Bool.and_eq_true _ _ ▸ h).2
  have HLB : Hid ((colsOK ls && rowsB ls.length Pb) = true → Pb.length ≤ 2048) := fun h => rowsB_len (Bool.and_eq_true _ _ ▸ h).2
  obtain ⟨cL, HCL⟩ : ∃ x, Hid (chgL ls Pa Pb = x) := ⟨_, rfl⟩
  obtain ⟨cC, HCC⟩ : ∃ x, Hid (chgC ls Pa Pb = x) := ⟨_, rfl⟩
  rw [HCL.out, HCC.out]
  have HNO : Hid (chgOK ls Pa Pb = false → cL = [] ∧ cC = 1) := fun h => ⟨by rw [← HCL.out]; unfold chgL; rw [h]; rfl, by rw [← HCC.out]; unfold chgC; rw [h]; rfl⟩
  have HYES : Hid (chgOK ls Pa Pb = true → cL = chg (Pa.length + Pb.length) Pa Pb ∧ cC = 0) := fun h => ⟨by rw [← HCL.out]; unfold chgL; rw [h]; rfl, by rw [← HCC.out]; unfold chgC; rw [h]; rfl⟩
  generalize (colsOK ls && rowsB ls.length Pa) = ba1 at *
  generalize (colsOK ls && rowsB ls.length Pb) = bb1 at *
  generalize chgOK ls Pa Pb = ok1 at *
  clear HCL HCC hrc hlc
  generalize ls.length = nc at *
  cases ba1 with
  | false =>
    obtain ⟨e1, e2⟩ := HNO.out HOK.out
    subst e1
    subst e2
    go_enter Try.func9, Try.ntmps9
    go_wp2_with fail
    refine (hKA w (Below.refl _ _)).mono ?_
    rintro e w1 ⟨rfl, hb1⟩
    clear hKA hKB
    go_wp2_with fail
    go_ret2
    exact ⟨_, rfl, OwCg.nil _ _ _, hb1⟩
  | true =>
  cases bb1 with
  | false =>
    obtain ⟨e1, e2⟩ := HNO.out HOK.out
    subst e1
    subst e2
    go_enter Try.func9, Try.ntmps9
    go_wp2_with fail
    refine (hKA w (Below.refl _ _)).mono ?_
    rintro e w1 ⟨rfl, hb1⟩
    clear hKA
    go_wp2_with fail
    refine (hKB w1 hb1).mono ?_
    rintro e w2 ⟨rfl, hb2⟩
    have hB2 := below_seq hb1 hb2
    clear hKB
    go_wp2_with fail
    go_ret2
    exact ⟨_, rfl, OwCg.nil _ _ _, hB2⟩
  | true =>
    obtain ⟨e1, e2⟩ := HYES.out HOK.out
    subst e2
    have HL0 : Hid (∀ w2 : World, Below w.heap.size w w2 → Lp w w2 C (Pa.length + Pb.length) (.slice aa Pa.length ac) (.slice ba Pb.length bc) (.slice none 0 0) Pa Pb [] cL) := fun w2 hb => ⟨Nat.le_refl _, HLA.out rfl, HLB.out rfl, e1, hra.on hC hb, hrb.on hC hb, OwCg.nil _ _ _, hda, hdb, hb, hC, by rw [e1]; have := chg_len (Pa.length + Pb.length) Pa Pb; have := HLA.out rfl; have := HLB.out rfl; omega⟩
    clear HNO HYES HOK HLA HLB hra hrb hda hdb e1
    go_enter Try.func9, Try.ntmps9
    go_wp2_with fail
    refine (hKA w (Below.refl _ _)).mono ?_
    rintro e w1 ⟨rfl, hb1⟩
    clear hKA
    go_wp2_with fail
    refine (hKB w1 hb1).mono ?_
    rintro e w2 ⟨rfl, hb2⟩
    have HL2 : Hid _ := HL0.out w2 (below_seq hb1 hb2)
    clear hKB HL0 hb1 hb2
    go_wp2_with fail
    go_loopw [1, 2, 8] (fun ta tb tl wr => ∃ (f : Nat) (A B : List Rw) (L : List Cg), Hid (Lp w wr C f ta tb tl A B L cL)) (fun ta tb _ _ => lenV ta + lenV tb)
    case atStart => exact ⟨_, _, _, _, HL2⟩
    case round =>
      clear HL2
      obtain ⟨f, A, B, L, HL⟩ := hrel
      have hsz := HL.out.bel.size
      have hLl := HL.out.len
      obtain ⟨la, lc, rfl⟩ := HL.out.own.slice
      cases A with
      | nil =>
        cases B with
        | nil =>
          obtain ⟨xa, xc, rfl⟩ := HL.out.ra.slice
          obtain ⟨ya, yc, rfl⟩ := HL.out.rb.slice
          have HE : Hid (OwCg wr w.heap.size wr.heap.size (.slice la L.length lc) cL) := by
            unfold Hid
            have h1 := HL.out.full
            have h2 : chg f [] [] = [] := by cases f <;> rfl
            rw [h2, List.append_nil] at h1
            rw [h1]
            exact HL.out.own
          have HB := HL.out.bel
          clear HL
          simp only [List.length_nil]
          go_wp2_with fail
          go_ret2
          exact ⟨_, rfl, HE.out, HB⟩
        | cons y B =>
          obtain ⟨f, rfl⟩ : ∃ f', f = f' + 1 := ⟨f - 1, by have := HL.out.fuel; simp at this; omega⟩
          obtain ⟨gb, ob, cb, ub, rfl, hgb, b0, b1, br⟩ := HL.out.rb.head
          have hxb := HL.out.vb y (List.mem_cons_self ..)
          obtain ⟨uba, ubc, rfl⟩ := rd_slice br
          obtain ⟨xa0, xc0, hxa⟩ := HL.out.ra.slice
          subst hxa
          simp only [List.length_nil] at *
          have jB : (0 : Int) < ((B.length + 1 : Nat) : Int) := by omega
          have jB' : (0 : Int) < (B.length : Int) + 1 := by omega
          have jB2 : ¬ (B.length : Int) + 1 = 0 := by omega
          have jB3 : (1 : Int) ≤ (B.length : Int) + 1 := by omega
          go_wp2_with fail
          refine wp_region_quiet_lit (by kernel_rfl) (by kernel_rfl) ?_
          iterate 4 quiet_step (fail)
          iterate 4 quiet_step (fail)
          iterate 9 (with_reducible refine quiet_pass (by kernel_rfl) ?_)
          simp only [tkS, Act.put]
          iterate 1 quiet_step (fail)
          iterate 2 quiet_step (fail)
          refine wpQuiet_nil ?_
          rintro _ ⟨nq, rfl⟩
          have hbq : Below wr.heap.size wr (wr.drewN nq) := nest_drewN (Below.refl _ _) nq
          replace b0 := cell_on hbq b0
          replace b1 := cell_on hbq b1
          replace br := br.below (hbq.mono (Nat.le_trans HL.out.cw hsz))
          replace HL : Hid _ := HL.out.drawn nq
          replace hsz : w.heap.size ≤ (wr.drewN nq).heap.size := hsz
          clear hbq
          generalize wr.drewN nq = w4 at *
          go_wp2_with fail
          refine wp_region_quiet_lit (by kernel_rfl) (by kernel_rfl) ?_
          iterate 4 quiet_step (fail)
          iterate 9 (with_reducible refine quiet_pass (by kernel_rfl) ?_)
          simp only [tkS, Act.put]
          iterate 2 quiet_step (fail)
          refine wpQuiet_nil ?_
          rintro _ ⟨nq, rfl⟩
          have hbq : Below w4.heap.size w4 (w4.drewN nq) := nest_drewN (Below.refl _ _) nq
          replace b0 := cell_on hbq b0
          replace b1 := cell_on hbq b1
          replace br := br.below (hbq.mono (Nat.le_trans HL.out.cw hsz))
          replace HL : Hid _ := HL.out.drawn nq
          replace hsz : w.heap.size ≤ (w4.drewN nq).heap.size := hsz
          clear hbq
          generalize w4.drewN nq = w5 at *
          have hcl := fun (w9 : World) (h : Below w5.heap.size w5 w9) => cloneT_any C w9 _ y.2 hxb (by have := h.size; have := HL.out.cw; omega) (br.below (h.mono (by have := HL.out.cw; omega)))
          have hOW := HL.out.own
          have hCW := HL.out.cw
          have hgw : gb < w.heap.size := by omega
          go_wp2_with fail
          go_region_held2 (fun w' => w'.cell? ⟨gb, ob, none⟩ = some (.string y.1) ∧ w'.cell? ⟨gb, ob + 1, none⟩ = some (.slice uba y.2.length ubc)) (first | exact ⟨b0, b1⟩ | exact ⟨(hbY.cell (p := ⟨gb, ob, none⟩) hgw).trans b0, (hbY.cell (p := ⟨gb, ob + 1, none⟩) hgw).trans b1⟩ | exact ⟨cell_on hbX b0, cell_on hbX b1⟩ | go_keep) (first | (go_at_call 25; refine (hcl _ (by first | exact Below.refl _ _ | exact (Below.refl _ _).drew)).mono ?_; rintro e w6 ⟨r6, rfl, ho6, hb6⟩; obtain ⟨r6a, r6c, rfl⟩ := rd_slice ho6.rd; replace ho6 := own_up ho6 (by first | exact Nat.le_refl _ | (show w5.heap.size ≤ _; first | exact Nat.le_refl _ | (simp; done))); have hbX : Below w5.heap.size w5 w6 := below_seq (by first | exact Below.refl _ _ | exact (Below.refl _ _).drew) hb6) | (refine step_appendCg rfl (.tmp 109) (.tmp 120) rfl w5 w.heap.size w5.heap.size _ L rfl hOW (Nat.le_refl _) hsz (below_then hbX _) w6.heap.size (y.1, [], y.2) (.slice none 0 0) _ rfl (by go_simp) (by go_simp) (by go_simp) (own_none _ _) (World.ownsRow.alloc ho6 _) (none_apt _) (by omega) ?_; intro v7 w7 hO7 hb7 hv7; obtain ⟨v7a, v7c, rfl⟩ := hv7; have hbY : Below w.heap.size w5 w7 := ((below_then hbX _).mono hsz).trans hb7))
          clear hcl hOW b0 b1 br
          go_wp2_with fail
          exact ⟨⟨f, _, B, _, HL.out.stepB (rfl) hbY hO7 (RdRw.from (HL.out.rb.below (hbY.mono hCW)) rfl rfl (by by_cases h : cb = 1 <;> simp [h, Addr.add_lit]))⟩, by simp [lenV]⟩
      | cons x A =>
        cases B with
        | nil =>
          obtain ⟨f, rfl⟩ : ∃ f', f = f' + 1 := ⟨f - 1, by have := HL.out.fuel; simp at this; omega⟩
          obtain ⟨ga, oa, ca, ua, rfl, hga, a0, a1, ar⟩ := HL.out.ra.head
          have hxa := HL.out.va x (List.mem_cons_self ..)
          obtain ⟨uaa, uac, rfl⟩ := rd_slice ar
          obtain ⟨yb0, yc0, hyb⟩ := HL.out.rb.slice
          subst hyb
          simp only [List.length_nil] at *
          have jA : (0 : Int) < ((A.length + 1 : Nat) : Int) := by omega
          have jA' : (0 : Int) < (A.length : Int) + 1 := by omega
          have jA2 : ¬ (A.length : Int) + 1 = 0 := by omega
          have jA3 : (1 : Int) ≤ (A.length : Int) + 1 := by omega
          go_wp2_with fail
          refine wp_region_quiet_lit (by kernel_rfl) (by kernel_rfl) ?_
          iterate 4 quiet_step (fail)
          iterate 4 (with_reducible refine quiet_pass (by kernel_rfl) ?_)
          simp only [tkS, Act.put]
          iterate 9 (with_reducible refine quiet_pass (by kernel_rfl) ?_)
          simp only [tkS, Act.put]
          iterate 1 (with_reducible refine quiet_pass (by kernel_rfl) ?_)
          simp only [tkS, Act.put]
          iterate 2 quiet_step (fail)
          refine wpQuiet_nil ?_
          rintro _ ⟨nq, rfl⟩
          have hbq : Below wr.heap.size wr (wr.drewN nq) := nest_drewN (Below.refl _ _) nq
          replace a0 := cell_on hbq a0
          replace a1 := cell_on hbq a1
          replace ar := ar.below (hbq.mono (Nat.le_trans HL.out.cw hsz))
          replace HL : Hid _ := HL.out.drawn nq
          replace hsz : w.heap.size ≤ (wr.drewN nq).heap.size := hsz
          clear hbq
          generalize wr.drewN nq = w5 at *
          have hcl := fun (w9 : World) (h : Below w5.heap.size w5 w9) => cloneT_any C w9 _ x.2 hxa (by have := h.size; have := HL.out.cw; omega) (ar.below (h.mono (by have := HL.out.cw; omega)))
          have hOW := HL.out.own
          have hCW := HL.out.cw
          have hgw : ga < w.heap.size := by omega
          go_wp2_with fail
          go_region_held2 (fun w' => w'.cell? ⟨ga, oa, none⟩ = some (.string x.1) ∧ w'.cell? ⟨ga, oa + 1, none⟩ = some (.slice uaa x.2.length uac)) (first | exact ⟨a0, a1⟩ | exact ⟨(hbY.cell (p := ⟨ga, oa, none⟩) hgw).trans a0, (hbY.cell (p := ⟨ga, oa + 1, none⟩) hgw).trans a1⟩ | exact ⟨cell_on hbX a0, cell_on hbX a1⟩ | go_keep) (first | (go_at_call 25; refine (hcl _ (by first | exact Below.refl _ _ | exact (Below.refl _ _).drew)).mono ?_; rintro e w6 ⟨r6, rfl, ho6, hb6⟩; obtain ⟨r6a, r6c, rfl⟩ := rd_slice ho6.rd; replace ho6 := own_up ho6 (by first | exact Nat.le_refl _ | (show w5.heap.size ≤ _; first | exact Nat.le_refl _ | (simp; done))); have hbX : Below w5.heap.size w5 w6 := below_seq (by first | exact Below.refl _ _ | exact (Below.refl _ _).drew) hb6) | (refine step_appendCg rfl (.tmp 79) (.tmp 90) rfl w5 w.heap.size w5.heap.size _ L rfl hOW (Nat.le_refl _) hsz (below_then hbX _) w6.heap.size (x.1, x.2, []) _ (.slice none 0 0) rfl (by go_simp) (by go_simp) (by go_simp) (World.ownsRow.alloc ho6 _) (own_none _ _) (apt_none _) (by omega) ?_; intro v7 w7 hO7 hb7 hv7; obtain ⟨v7a, v7c, rfl⟩ := hv7; have hbY : Below w.heap.size w5 w7 := ((below_then hbX _).mono hsz).trans hb7))
          clear hcl hOW a0 a1 ar
          go_wp2_with fail
          exact ⟨⟨f, A, _, _, HL.out.stepA (rfl) hbY hO7 (RdRw.from (HL.out.ra.below (hbY.mono hCW)) rfl rfl (by by_cases h : ca = 1 <;> simp [h, Addr.add_lit]))⟩, by simp [lenV]⟩
        | cons y B =>
          obtain ⟨f, rfl⟩ : ∃ f', f = f' + 1 := ⟨f - 1, by have := HL.out.fuel; simp at this; omega⟩
          obtain ⟨ga, oa, ca, ua, rfl, hga, a0, a1, ar⟩ := HL.out.ra.head
          have hxa := HL.out.va x (List.mem_cons_self ..)
          obtain ⟨uaa, uac, rfl⟩ := rd_slice ar
          obtain ⟨gb, ob, cb, ub, rfl, hgb, b0, b1, br⟩ := HL.out.rb.head
          have hxb := HL.out.vb y (List.mem_cons_self ..)
          obtain ⟨uba, ubc, rfl⟩ := rd_slice br
          try simp only [List.length_cons] at *
          have jA : (0 : Int) < ((A.length + 1 : Nat) : Int) := by omega
          have jA' : (0 : Int) < (A.length : Int) + 1 := by omega
          have jA2 : ¬ (A.length : Int) + 1 = 0 := by omega
          have jA3 : (1 : Int) ≤ (A.length : Int) + 1 := by omega
          have jB : (0 : Int) < ((B.length + 1 : Nat) : Int) := by omega
          have jB' : (0 : Int) < (B.length : Int) + 1 := by omega
          have jB2 : ¬ (B.length : Int) + 1 = 0 := by omega
          have jB3 : (1 : Int) ≤ (B.length : Int) + 1 := by omega
          go_wp2_with fail
          cases hlt : ltN x.1 y.1 with
          | true =>
            have HCE : Hid (chg (f + 1) (x :: A) (y :: B) = (x.1, x.2, []) :: chg f A (y :: B)) := by unfold Hid; rw [chg, if_pos hlt]
            unfold ltN at hlt
            refine wp_region_quiet_lit (by kernel_rfl) (by kernel_rfl) ?_
            iterate 4 quiet_step (fail)
            iterate 4 quiet_step (fail)
            iterate 9 quiet_step (fail)
            iterate 1 quiet_step (fail)
            iterate 2 quiet_step (fail)
            refine wpQuiet_nil ?_
            rintro _ ⟨nq, rfl⟩
            have hbq : Below wr.heap.size wr (wr.drewN nq) := nest_drewN (Below.refl _ _) nq
            replace a0 := cell_on hbq a0
            replace a1 := cell_on hbq a1
            replace ar := ar.below (hbq.mono (Nat.le_trans HL.out.cw hsz))
            replace HL : Hid _ := HL.out.drawn nq
            replace hsz : w.heap.size ≤ (wr.drewN nq).heap.size := hsz
            clear hbq
            generalize wr.drewN nq = w5 at *
            clear b0 b1 br
            have hcl := fun (w9 : World) (h : Below w5.heap.size w5 w9) => cloneT_any C w9 _ x.2 hxa (by have := h.size; have := HL.out.cw; omega) (ar.below (h.mono (by have := HL.out.cw; omega)))
            have hOW := HL.out.own
            have hCW := HL.out.cw
            have hgw : ga < w.heap.size := by omega
            go_wp2_with fail
            go_region_held2 (fun w' => w'.cell? ⟨ga, oa, none⟩ = some (.string x.1) ∧ w'.cell? ⟨ga, oa + 1, none⟩ = some (.slice uaa x.2.length uac)) (first | exact ⟨a0, a1⟩ | exact ⟨(hbY.cell (p := ⟨ga, oa, none⟩) hgw).trans a0, (hbY.cell (p := ⟨ga, oa + 1, none⟩) hgw).trans a1⟩ | exact ⟨cell_on hbX a0, cell_on hbX a1⟩ | go_keep) (first | (go_at_call 25; refine (hcl _ (by first | exact Below.refl _ _ | exact (Below.refl _ _).drew)).mono ?_; rintro e w6 ⟨r6, rfl, ho6, hb6⟩; obtain ⟨r6a, r6c, rfl⟩ := rd_slice ho6.rd; replace ho6 := own_up ho6 (by first | exact Nat.le_refl _ | (show w5.heap.size ≤ _; first | exact Nat.le_refl _ | (simp; done))); have hbX : Below w5.heap.size w5 w6 := below_seq (by first | exact Below.refl _ _ | exact (Below.refl _ _).drew) hb6) | (refine step_appendCg rfl (.tmp 79) (.tmp 90) rfl w5 w.heap.size w5.heap.size _ L rfl hOW (Nat.le_refl _) hsz (below_then hbX _) w6.heap.size (x.1, x.2, []) _ (.slice none 0 0) rfl (by go_simp) (by go_simp) (by go_simp) (World.ownsRow.alloc ho6 _) (own_none _ _) (apt_none _) (by omega) ?_; intro v7 w7 hO7 hb7 hv7; obtain ⟨v7a, v7c, rfl⟩ := hv7; have hbY : Below w.heap.size w5 w7 := ((below_then hbX _).mono hsz).trans hb7))
            clear hcl hOW a0 a1 ar
            go_wp2_with fail
            exact ⟨⟨f, A, _, _, HL.out.stepA (HCE.out) hbY hO7 (RdRw.from (HL.out.ra.below (hbY.mono hCW)) rfl rfl (by by_cases h : ca = 1 <;> simp [h, Addr.add_lit]))⟩, by simp [lenV]⟩
          | false =>
            have hlt' := hlt
            unfold ltN at hlt
            refine wp_region_quiet_lit (by kernel_rfl) (by kernel_rfl) ?_
            iterate 4 quiet_step (fail)
            iterate 4 quiet_step (fail)
            iterate 9 quiet_step (fail)
            iterate 1 quiet_step (fail)
            iterate 2 quiet_step (fail)
            refine wpQuiet_nil ?_
            rintro _ ⟨nq, rfl⟩
            have hbq : Below wr.heap.size wr (wr.drewN nq) := nest_drewN (Below.refl _ _) nq
            replace a0 := cell_on hbq a0
            replace a1 := cell_on hbq a1
            replace b0 := cell_on hbq b0
            replace b1 := cell_on hbq b1
            replace ar := ar.below (hbq.mono (Nat.le_trans HL.out.cw hsz))
            replace br := br.below (hbq.mono (Nat.le_trans HL.out.cw hsz))
            replace HL : Hid _ := HL.out.drawn nq
            replace hsz : w.heap.size ≤ (wr.drewN nq).heap.size := hsz
            clear hbq
            generalize wr.drewN nq = w4 at *
            clear hlt
            go_wp2_with fail
            cases hgt : ltN y.1 x.1 with
            | true =>
              have HCE : Hid (chg (f + 1) (x :: A) (y :: B) = (y.1, [], y.2) :: chg f (x :: A) B) := by unfold Hid; rw [chg, if_neg (by rw [hlt']; exact Bool.false_ne_true), if_pos hgt]
              unfold ltN at hgt
              refine wp_region_quiet_lit (by kernel_rfl) (by kernel_rfl) ?_
              iterate 4 quiet_step (fail)
              iterate 9 quiet_step (fail)
              iterate 2 quiet_step (fail)
              refine wpQuiet_nil ?_
              rintro _ ⟨nq, rfl⟩
              have hbq : Below w4.heap.size w4 (w4.drewN nq) := nest_drewN (Below.refl _ _) nq
              replace b0 := cell_on hbq b0
              replace b1 := cell_on hbq b1
              replace br := br.below (hbq.mono (Nat.le_trans HL.out.cw hsz))
              replace HL : Hid _ := HL.out.drawn nq
              replace hsz : w.heap.size ≤ (w4.drewN nq).heap.size := hsz
              clear hbq
              generalize w4.drewN nq = w5 at *
              clear a0 a1 ar
              have hcl := fun (w9 : World) (h : Below w5.heap.size w5 w9) => cloneT_any C w9 _ y.2 hxb (by have := h.size; have := HL.out.cw; omega) (br.below (h.mono (by have := HL.out.cw; omega)))
              have hOW := HL.out.own
              have hCW := HL.out.cw
              have hgw : gb < w.heap.size := by omega
              go_wp2_with fail
              go_region_held2 (fun w' => w'.cell? ⟨gb, ob, none⟩ = some (.string y.1) ∧ w'.cell? ⟨gb, ob + 1, none⟩ = some (.slice uba y.2.length ubc)) (first | exact ⟨b0, b1⟩ | exact ⟨(hbY.cell (p := ⟨gb, ob, none⟩) hgw).trans b0, (hbY.cell (p := ⟨gb, ob + 1, none⟩) hgw).trans b1⟩ | exact ⟨cell_on hbX b0, cell_on hbX b1⟩ | go_keep) (first | (go_at_call 25; refine (hcl _ (by first | exact Below.refl _ _ | exact (Below.refl _ _).drew)).mono ?_; rintro e w6 ⟨r6, rfl, ho6, hb6⟩; obtain ⟨r6a, r6c, rfl⟩ := rd_slice ho6.rd; replace ho6 := own_up ho6 (by first | exact Nat.le_refl _ | (show w5.heap.size ≤ _; first | exact Nat.le_refl _ | (simp; done))); have hbX : Below w5.heap.size w5 w6 := below_seq (by first | exact Below.refl _ _ | exact (Below.refl _ _).drew) hb6) | (refine step_appendCg rfl (.tmp 109) (.tmp 120) rfl w5 w.heap.size w5.heap.size _ L rfl hOW (Nat.le_refl _) hsz (below_then hbX _) w6.heap.size (y.1, [], y.2) (.slice none 0 0) _ rfl (by go_simp) (by go_simp) (by go_simp) (own_none _ _) (World.ownsRow.alloc ho6 _) (none_apt _) (by omega) ?_; intro v7 w7 hO7 hb7 hv7; obtain ⟨v7a, v7c, rfl⟩ := hv7; have hbY : Below w.heap.size w5 w7 := ((below_then hbX _).mono hsz).trans hb7))
              clear hcl hOW b0 b1 br
              go_wp2_with fail
              exact ⟨⟨f, _, B, _, HL.out.stepB (HCE.out) hbY hO7 (RdRw.from (HL.out.rb.below (hbY.mono hCW)) rfl rfl (by by_cases h : cb = 1 <;> simp [h, Addr.add_lit]))⟩, by simp [lenV]⟩
            | false =>
              have hgt' := hgt
              unfold ltN at hgt
              refine wp_region_quiet_lit (by kernel_rfl) (by kernel_rfl) ?_
              iterate 4 quiet_step (fail)
              iterate 9 quiet_step (fail)
              iterate 2 quiet_step (fail)
              refine wpQuiet_nil ?_
              rintro _ ⟨nq, rfl⟩
              have hbq : Below w4.heap.size w4 (w4.drewN nq) := nest_drewN (Below.refl _ _) nq
              replace a0 := cell_on hbq a0
              replace a1 := cell_on hbq a1
              replace b0 := cell_on hbq b0
              replace b1 := cell_on hbq b1
              replace ar := ar.below (hbq.mono (Nat.le_trans HL.out.cw hsz))
              replace br := br.below (hbq.mono (Nat.le_trans HL.out.cw hsz))
              replace HL : Hid _ := HL.out.drawn nq
              replace hsz : w.heap.size ≤ (w4.drewN nq).heap.size := hsz
              clear hbq
              generalize w4.drewN nq = w5 at *
              clear hgt
              have heq := fun (w9 : World) (h : Below w5.heap.size w5 w9) => equalT_any C C w9 _ _ x.2 y.2 hxa (by have := h.size; have := HL.out.cw; omega) (by have := h.size; have := HL.out.cw; omega) (ar.below (h.mono (by have := HL.out.cw; omega))) (br.below (h.mono (by have := HL.out.cw; omega)))
              go_wp2_with fail
              go_region_held2 (fun w' => w'.cell? ⟨ga, oa + 1, none⟩ = some (.slice uaa x.2.length uac) ∧ w'.cell? ⟨gb, ob + 1, none⟩ = some (.slice uba y.2.length ubc)) (first | exact ⟨a1, b1⟩ | exact ⟨cell_on hbX a1, cell_on hbX b1⟩) ((go_at_call 26; refine (heq _ (by first | exact Below.refl _ _ | exact (Below.refl _ _).drew)).mono ?_; rintro e w6 ⟨rfl, hb6⟩; have hbX : Below w5.heap.size w5 w6 := below_seq (by first | exact Below.refl _ _ | exact (Below.refl _ _).drew) hb6))
              clear heq
              have hs6 := hbX.size
              replace a0 := cell_on hbX a0
              replace a1 := cell_on hbX a1
              replace b0 := cell_on hbX b0
              replace b1 := cell_on hbX b1
              replace ar := ar.below (hbX.mono (Nat.le_trans HL.out.cw hsz))
              replace br := br.below (hbX.mono (Nat.le_trans HL.out.cw hsz))
              replace HL : Hid (Lp w w6 C (f + 1) _ _ _ (x :: A) (y :: B) L cL) := HL.out.later hbX
              replace hsz : w.heap.size ≤ w6.heap.size := by omega
              clear hbX hb6 hs6
              cases heqT : eqT x.2 y.2 with
              | true =>
                have HCE : Hid (chg (f + 1) (x :: A) (y :: B) = [] ++ chg f A B) := by unfold Hid; rw [chg, if_neg (by rw [hlt']; exact Bool.false_ne_true), if_neg (by rw [hgt']; exact Bool.false_ne_true), if_pos heqT]; rfl
                have hCW := HL.out.cw
                clear a0 a1 b0 b1 ar br heqT hlt' hgt'
                go_wp2_with fail
                refine wp_region_quiet_lit (by kernel_rfl) (by kernel_rfl) ?_
                iterate 6 quiet_step (fail)
                refine wpQuiet_nil ?_
                rintro _ ⟨nq, rfl⟩
                have hbY : Below w.heap.size w6 (w6.drewN nq) := nest_drewN (Below.refl _ _) nq
                have hO9 : OwCg (w6.drewN nq) w.heap.size (w6.drewN nq).heap.size (.slice la L.length lc) (L ++ []) := by rw [List.append_nil]; exact (HL.out.own.below (nest_drewN (Below.refl _ _) nq)).now
                generalize w6.drewN nq = w10 at *
                go_wp2_with fail
                exact ⟨⟨f, A, B, _, HL.out.stepAB (D := []) (HCE.out) hbY hO9 (RdRw.from (HL.out.ra.below (hbY.mono hCW)) rfl rfl (by by_cases h : ca = 1 <;> simp [h, Addr.add_lit])) (RdRw.from (HL.out.rb.below (hbY.mono hCW)) rfl rfl (by by_cases h : cb = 1 <;> simp [h, Addr.add_lit]))⟩, by simp [lenV]; omega⟩
              | false =>
                have HCE : Hid (chg (f + 1) (x :: A) (y :: B) = [(x.1, x.2, y.2)] ++ chg f A B) := by unfold Hid; rw [chg, if_neg (by rw [hlt']; exact Bool.false_ne_true), if_neg (by rw [hgt']; exact Bool.false_ne_true), if_neg (by rw [heqT]; exact Bool.false_ne_true)]; rfl
                clear heqT hlt' hgt'
                generalize w6 = w7 at *
                have hcA := fun (w9 : World) (h : Below w7.heap.size w7 w9) => cloneT_any C w9 _ x.2 hxa (by have := h.size; have := HL.out.cw; omega) (ar.below (h.mono (by have := HL.out.cw; omega)))
                have hcB := fun (w9 : World) (h : Below w7.heap.size w7 w9) => cloneT_any C w9 _ y.2 hxb (by have := h.size; have := HL.out.cw; omega) (br.below (h.mono (by have := HL.out.cw; omega)))
                have hOW := HL.out.own
                have hCW := HL.out.cw
                have hgw : ga < w.heap.size := by omega
                have hgw2 : gb < w.heap.size := by omega
                go_wp2_with fail
                go_region_held2 (fun w' => w'.cell? ⟨ga, oa, none⟩ = some (.string x.1) ∧ w'.cell? ⟨ga, oa + 1, none⟩ = some (.slice uaa x.2.length uac) ∧ w'.cell? ⟨gb, ob + 1, none⟩ = some (.slice uba y.2.length ubc)) (first | exact ⟨a0, a1, b1⟩ | exact ⟨(hbY.cell (p := ⟨ga, oa, none⟩) hgw).trans a0, (hbY.cell (p := ⟨ga, oa + 1, none⟩) hgw).trans a1, (hbY.cell (p := ⟨gb, ob + 1, none⟩) hgw2).trans b1⟩ | exact ⟨cell_on hbX a0, cell_on hbX a1, cell_on hbX b1⟩ | go_keep) (first | (go_at_call 25; refine (hcA _ (by first | exact hbX | exact hbX.drew | exact Below.refl _ _ | exact (Below.refl _ _).drew)).mono ?_; rintro e wA ⟨rA, rfl, hoA, hbA⟩; obtain ⟨rAa, rAc, rfl⟩ := rd_slice hoA.rd; (try have hap : Apt (.slice rAa x.2.length rAc) (.slice rBa y.2.length rBc) := (apt_later hoB hoA (Nat.le_refl _)).symm); (try replace hoB := hoB.below hbA (Nat.le_refl _)); have hbX : Below w7.heap.size w7 wA := below_seq (by first | exact hbX | exact hbX.drew | exact Below.refl _ _ | exact (Below.refl _ _).drew) hbA; replace hoA : Own 9 wA w7.heap.size _ _ := own_up hoA (by first | exact Nat.le_refl _ | exact hbX0.size | (show w7.heap.size ≤ _; first | exact Nat.le_refl _ | (simp; done) | omega)); have hbX0 : Below w7.heap.size w7 wA := hbX) | (go_at_call 25; refine (hcB _ (by first | exact hbX | exact hbX.drew | exact Below.refl _ _ | exact (Below.refl _ _).drew)).mono ?_; rintro e wB ⟨rB, rfl, hoB, hbB⟩; obtain ⟨rBa, rBc, rfl⟩ := rd_slice hoB.rd; (try have hap : Apt (.slice rAa x.2.length rAc) (.slice rBa y.2.length rBc) := apt_later hoA hoB (Nat.le_refl _)); (try replace hoA := hoA.below hbB (Nat.le_refl _)); have hbX : Below w7.heap.size w7 wB := below_seq (by first | exact hbX | exact hbX.drew | exact Below.refl _ _ | exact (Below.refl _ _).drew) hbB; replace hoB : Own 9 wB w7.heap.size _ _ := own_up hoB (by first | exact Nat.le_refl _ | exact hbX0.size | (show w7.heap.size ≤ _; first | exact Nat.le_refl _ | (simp; done) | omega)); have hbX0 : Below w7.heap.size w7 wB := hbX) | (refine step_appendCg rfl (.tmp 37) (.tmp 53) rfl w7 w.heap.size w7.heap.size _ L rfl hOW (Nat.le_refl _) hsz (below_then hbX _) _ (x.1, x.2, y.2) _ _ rfl (by go_simp) (by go_simp) (by go_simp) (World.ownsRow.alloc hoA _) (World.ownsRow.alloc hoB _) hap (by omega) ?_; intro v9 w9 hO9 hb9 hv9; obtain ⟨v9a, v9c, rfl⟩ := hv9; have hbY : Below w.heap.size w7 w9 := ((below_then hbX _).mono hsz).trans hb9))
                all_goals
                  clear hcA hcB hOW a0 a1 b0 b1 ar br
                  go_wp2_with fail
                  refine wp_region_quiet_lit (by kernel_rfl) (by kernel_rfl) ?_
                  iterate 6 quiet_step (fail)
                  refine wpQuiet_nil ?_
                  rintro _ ⟨nq, rfl⟩
                  replace hbY := nest_drewN hbY nq
                  replace hO9 : OwCg (w9.drewN nq) w.heap.size (w9.drewN nq).heap.size _ _ := (hO9.below (nest_drewN (Below.refl _ _) nq)).now
                  generalize w9.drewN nq = w10 at *
                  go_wp2_with fail
                  exact ⟨⟨f, A, B, _, HL.out.stepAB (D := [(x.1, x.2, y.2)]) (HCE.out) hbY hO9 (RdRw.from (HL.out.ra.below (hbY.mono hCW)) rfl rfl (by by_cases h : ca = 1 <;> simp [h, Addr.add_lit])) (RdRw.from (HL.out.rb.below (hbY.mono hCW)) rfl rfl (by by_cases h : cb = 1 <;> simp [h, Addr.add_lit]))⟩, by simp [lenV]; omega⟩
end Go.Proofs.Ytlncfeakcgjioaa
