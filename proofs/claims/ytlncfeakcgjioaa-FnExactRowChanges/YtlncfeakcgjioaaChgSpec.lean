/- What RowChanges of the specification answers. No condition: they are lemmas. -/
import Derived.Test.YtlncfeakcgjioaaChgImpl
import Derived.Test.YtlncfeakcgjioaaRowSpec
import Derived.ArgAppend
namespace Go.Proofs.Ytlncfeakcgjioaa
open Go.RowKit
set_option linter.unusedVariables false

theorem rw_drop {P : List Rw} {i : Nat} (h : i < P.length) : P.drop i = rwAt P i :: P.drop (i + 1) := by
  rw [List.drop_eq_getElem_cons h]
  congr 1
  unfold rwAt
  rw [List.getD_eq_getElem?_getD, List.getElem?_eq_getElem h]
  rfl
theorem OwCg.empty {w0 w : World} (h : Below w0.heap.size w0 w) : OwCg (w.alloc (.cells #[] 51)) w0.heap.size (w.alloc (.cells #[] 51)).heap.size (.slice (some ⟨w.heap.size, 0, none⟩) 0 0) [] := by
  have h1 : Nest 51 3 (w.alloc (.cells #[] 51)) w.heap.size (w.alloc (.cells #[] 51)).heap.size (.slice (some ⟨w.heap.size, 0, none⟩) 0 0) 0 [] [] :=
    ⟨by decide, World.ownsRow_lit w #[] 0 (Nat.le_refl _) (by decide) (by simp), fun k hk => (owns_lt (World.ownsRow_lit (e := 51) (size := 3) w #[] 0 (Nat.le_refl _) (by decide) (by simp)) k hk).2, (fun p hp => absurd hp (by simp)), (fun p hp => absurd hp (by simp)), List.Pairwise.nil⟩
  exact ⟨[], rfl, h1.wide h.size⟩
/-- An append of texts onto an empty slice, as a step of a region that draws its order. -/
theorem step_append_fresh {w : World} {ops : Array Oper} {o : Oper} {a : Act} {K : Act → World → Prop} {Q : Exit → Act → World → Prop} {EE : Prop} (hgd : o.guard = none) (s x : Operand)
    (ho : o.op = .call { callee := .builtin .append, args := #[s, x], argTypes := #[44, 44] }) (ad : Addr) (hs : a.eval s = .slice (some ad) 0 0) (C : Nat) (xv : Value) (news : List ByteArray) (hx : a.eval x = xv) (hr : Rd C w xv (news.map Value.string)) (hpos : 0 < news.length) (hlen : news.length ≤ 1048576)
    (h : ∀ v' w', Own 9 w' w.heap.size v' (news.map Value.string) → Below w.heap.size w w' → K (a.put o.dst v') w') : if Region.wanted o (yielded ops a.tmps) = true then Oper.wp Try.prog o a w K Q else EE := by
  obtain ⟨i0, hi, hz0, hz1, hz2⟩ := info_parts info9
  have hw : Region.wanted o (yielded ops a.tmps) = true := by simp [Region.wanted, hgd]
  rw [if_pos hw]
  obtain ⟨ao, cap, rfl, hcap, hmax, hnil, hr⟩ := hr
  obtain ⟨g, off, rfl, hg, hc⟩ := hr (by rw [List.length_map]; exact hpos)
  obtain ⟨v', w', hrun, r1, r2⟩ := run_append_arg_grows (P := Try.prog) w 44 o.type 9 i0 (.string ByteArray.empty) 1 16 Try.underlying44 hi hz0 hz1 hz2 rfl (by decide) ad 0 0 [] rfl (fun j u hj => by simp at hj) ⟨g, off, none⟩ (news.map Value.string).length cap (news.map Value.string) (by simp) (fun j u hj => by rw [Addr.add_lit]; exact hc j u hj) (by rw [List.length_map]; omega) (by rw [List.length_map]; unfold maxLen; omega) (by rw [List.length_map]; omega)
  have ho2 : Own 9 w' w.heap.size v' (news.map Value.string) := by
    have := own_of r1
    rwa [List.nil_append] at this
  rw [List.length_map] at hrun
  unfold Oper.wp
  simp [execOp, ho, resolve, invoke, builtin, hs, hx, hrun, Result.andThen]
  exact h v' w' ho2 ((Below.refl _ _).grown r2 (Nat.le_refl _) (fun k hk => by cases hk))
/-- What the loop holds. -/
structure Ls (w wr : World) (f i k : Nat) (tl : Value) (Pa Pb : List Rw) (L FULL : List Cg) : Prop where
  fuel : (Pa.length - i) + (Pb.length - k) ≤ f
  hi : i ≤ Pa.length
  hk : k ≤ Pb.length
  full : FULL = L ++ chg f (Pa.drop i) (Pb.drop k)
  own : OwCg wr w.heap.size wr.heap.size tl L
  bel : Below w.heap.size w wr
  fl : FULL.length ≤ 4096
theorem Ls.len {w wr : World} {f i k : Nat} {tl : Value} {Pa Pb : List Rw} {L FULL : List Cg} (h : Ls w wr f i k tl Pa Pb L FULL) : L.length ≤ 4096 := by
  have h1 := h.full
  have h2 := h.fl
  rw [h1, List.length_append] at h2
  omega
theorem Ls.step {w wr w' : World} {f i k i' k' : Nat} {tl tl' : Value} {Pa Pb : List Rw} {L FULL D : List Cg} (h : Ls w wr (f + 1) i k tl Pa Pb L FULL) (hc : chg (f + 1) (Pa.drop i) (Pb.drop k) = D ++ chg f (Pa.drop i') (Pb.drop k')) (h1 : (Pa.length - i') + (Pb.length - k') + 1 ≤ (Pa.length - i) + (Pb.length - k)) (h2 : i' ≤ Pa.length) (h3 : k' ≤ Pb.length) (hb : Below w.heap.size wr w') (ho : OwCg w' w.heap.size w'.heap.size tl' (L ++ D)) : Ls w w' f i' k' tl' Pa Pb (L ++ D) FULL :=
  ⟨by have := h.fuel; omega, h2, h3, by rw [h.full, hc, List.append_assoc], ho, h.bel.trans hb, h.fl⟩
theorem Ls.later {w wr w' : World} {f i k : Nat} {tl : Value} {Pa Pb : List Rw} {L FULL : List Cg} (h : Ls w wr f i k tl Pa Pb L FULL) (hb : Below wr.heap.size wr w') : Ls w w' f i k tl Pa Pb L FULL :=
  ⟨h.fuel, h.hi, h.hk, h.full, (h.own.below hb).now, below_seq h.bel hb, h.fl⟩
theorem chg_none {f : Nat} {Pa Pb : List Rw} {i k : Nat} (hi : Pa.length ≤ i) (hk : Pb.length ≤ k) : chg f (Pa.drop i) (Pb.drop k) = [] := by
  rw [List.drop_of_length_le hi, List.drop_of_length_le hk]
  cases f <;> rfl
theorem chg_goes {f : Nat} {Pa Pb : List Rw} {i k : Nat} (hi : i < Pa.length) (h : Pb.length ≤ k ∨ (k < Pb.length ∧ ltN (rwAt Pa i).1 (rwAt Pb k).1 = true)) : chg (f + 1) (Pa.drop i) (Pb.drop k) = [((rwAt Pa i).1, (rwAt Pa i).2, [])] ++ chg f (Pa.drop (i + 1)) (Pb.drop k) := by
  rw [rw_drop hi]
  rcases h with h | ⟨h, hl⟩
  · rw [List.drop_of_length_le h]
    rfl
  · rw [rw_drop h, chg, if_pos hl]
    rfl
theorem chg_comes {f : Nat} {Pa Pb : List Rw} {i k : Nat} (hk : k < Pb.length) (h : Pa.length ≤ i ∨ (i < Pa.length ∧ ltN (rwAt Pa i).1 (rwAt Pb k).1 = false ∧ ltN (rwAt Pb k).1 (rwAt Pa i).1 = true)) : chg (f + 1) (Pa.drop i) (Pb.drop k) = [((rwAt Pb k).1, [], (rwAt Pb k).2)] ++ chg f (Pa.drop i) (Pb.drop (k + 1)) := by
  rw [rw_drop hk]
  rcases h with h | ⟨h, h1, h2⟩
  · rw [List.drop_of_length_le h]
    rfl
  · rw [rw_drop h, chg, if_neg (by rw [h1]; exact Bool.false_ne_true), if_pos h2]
    rfl
theorem chg_both {f : Nat} {Pa Pb : List Rw} {i k : Nat} (hi : i < Pa.length) (hk : k < Pb.length) (h1 : ltN (rwAt Pa i).1 (rwAt Pb k).1 = false) (h2 : ltN (rwAt Pb k).1 (rwAt Pa i).1 = false) : chg (f + 1) (Pa.drop i) (Pb.drop k) = (if eqT (rwAt Pa i).2 (rwAt Pb k).2 = true then [] else [((rwAt Pa i).1, (rwAt Pa i).2, (rwAt Pb k).2)]) ++ chg f (Pa.drop (i + 1)) (Pb.drop (k + 1)) := by
  rw [rw_drop hi, rw_drop hk, chg, if_neg (by rw [h1]; exact Bool.false_ne_true), if_neg (by rw [h2]; exact Bool.false_ne_true)]
  split
  · rfl
  · rfl

set_option maxHeartbeats 16000000 in
set_option maxRecDepth 100000 in
theorem specRowChanges_any (C : Nat) (w : World) (vc va vb : Value) (ls : List Cn) (Pa Pb : List Rw) (hlc : ls.length ≤ 1048576) (hla : Pa.length ≤ 1048576) (hlb : Pb.length ≤ 1048576) (hda : ∀ x ∈ Pa, x.2.length ≤ 1048576) (hdb : ∀ x ∈ Pb, x.2.length ≤ 1048576) (hC : C ≤ w.heap.size) (hrc : RdCn C w vc ls) (hra : RdRw C w va Pa) (hrb : RdRw C w vb Pb) :
    Calls Try.prog 6 #[vc, va, vb] w fun e w' => ∃ r, e = .returned (.tuple #[r, .int .i64 (chgC ls Pa Pb)]) ∧ OwCg w' w.heap.size w'.heap.size r (chgL ls Pa Pb) ∧ Below w.heap.size w w' := by
  have hKC := l07ColumnsOK_any C w vc ls hlc hC hrc
  obtain ⟨co, cc, rfl⟩ : ∃ co cc, vc = .slice co ls.length cc := by
    obtain ⟨co, cc, e, _⟩ := hrc
    exact ⟨co, cc, e⟩
  have hKA := fun (w9 : World) (h : Below w.heap.size w w9) => l17RowsOK_any C w9 co ls.length cc va Pa hla hda (Nat.le_trans hC h.size) (hra.on hC h)
  have hKB := fun (w9 : World) (h : Below w.heap.size w w9) => l17RowsOK_any C w9 co ls.length cc vb Pb hlb hdb (Nat.le_trans hC h.size) (hrb.on hC h)
  obtain ⟨aa, ac, rfl, -, -, -, hra⟩ := hra
  obtain ⟨ba, bc, rfl, -, -, -, hrb⟩ := hrb
  have HOK : Hid (chgOK ls Pa Pb = (colsOK ls && rowsB ls.length Pa && rowsB ls.length Pb)) := rfl
  have HLA : Hid (rowsB ls.length Pa = true → colsOK ls = true → Pa.length ≤ 2048 ∧ ∀ x ∈ Pa, 0 < x.2.length) := fun h hc => ⟨rowsB_len h, fun x hx => by rw [valsOK_len (rowsB_mem h hx)]; unfold colsOK at hc; rw [Bool.and_eq_true, Bool.and_eq_true] at hc; have := of_decide_eq_true hc.1.1; omega⟩
  have HLB : Hid (rowsB ls.length Pb = true → colsOK ls = true → Pb.length ≤ 2048 ∧ ∀ x ∈ Pb, 0 < x.2.length) := fun h hc => ⟨rowsB_len h, fun x hx => by rw [valsOK_len (rowsB_mem h hx)]; unfold colsOK at hc; rw [Bool.and_eq_true, Bool.and_eq_true] at hc; have := of_decide_eq_true hc.1.1; omega⟩
  obtain ⟨cL, HCL⟩ : ∃ x, Hid (chgL ls Pa Pb = x) := ⟨_, rfl⟩
  obtain ⟨cC, HCC⟩ : ∃ x, Hid (chgC ls Pa Pb = x) := ⟨_, rfl⟩
  rw [HCL.out, HCC.out]
  have HNO : Hid (chgOK ls Pa Pb = false → cL = [] ∧ cC = 1) := fun h => ⟨by rw [← HCL.out]; unfold chgL; rw [h]; rfl, by rw [← HCC.out]; unfold chgC; rw [h]; rfl⟩
  have HYES : Hid (chgOK ls Pa Pb = true → cL = chg (Pa.length + Pb.length) Pa Pb ∧ cC = 0) := fun h => ⟨by rw [← HCL.out]; unfold chgL; rw [h]; rfl, by rw [← HCC.out]; unfold chgC; rw [h]; rfl⟩
  generalize colsOK ls = bc1 at *
  generalize rowsB ls.length Pa = ba1 at *
  generalize rowsB ls.length Pb = bb1 at *
  generalize chgOK ls Pa Pb = ok1 at *
  clear HCL HCC hrc hlc
  generalize ls.length = nc at *
  cases bc1 with
  | false =>
    obtain ⟨e1, e2⟩ := HNO.out HOK.out
    subst e1
    subst e2
    clear hKA hKB
    go_enter Try.func6, Try.ntmps6
    go_wp2_with fail
    refine hKC.mono ?_
    rintro e w1 ⟨rfl, hb1⟩
    clear hKC
    go_wp2_with fail
    go_ret2
    exact ⟨_, rfl, OwCg.empty hb1, below_then hb1 _⟩
  | true =>
  cases ba1 with
  | false =>
    obtain ⟨e1, e2⟩ := HNO.out HOK.out
    subst e1
    subst e2
    clear hKB
    go_enter Try.func6, Try.ntmps6
    go_wp2_with fail
    refine hKC.mono ?_
    rintro e w1 ⟨rfl, hb1⟩
    clear hKC
    go_wp2_with fail
    refine (hKA w1 hb1).mono ?_
    rintro e w2 ⟨rfl, hb2⟩
    replace hb1 := below_seq hb1 hb2
    clear hKA hb2
    go_wp2_with fail
    go_ret2
    exact ⟨_, rfl, OwCg.empty hb1, below_then hb1 _⟩
  | true =>
  cases bb1 with
  | false =>
    obtain ⟨e1, e2⟩ := HNO.out HOK.out
    subst e1
    subst e2
    go_enter Try.func6, Try.ntmps6
    go_wp2_with fail
    refine hKC.mono ?_
    rintro e w1 ⟨rfl, hb1⟩
    clear hKC
    go_wp2_with fail
    refine (hKA w1 hb1).mono ?_
    rintro e w2 ⟨rfl, hb2⟩
    replace hb1 := below_seq hb1 hb2
    clear hKA hb2
    go_wp2_with fail
    refine (hKB w2 hb1).mono ?_
    rintro e w3 ⟨rfl, hb2⟩
    replace hb1 := below_seq hb1 hb2
    clear hKB hb2
    go_wp2_with fail
    go_ret2
    exact ⟨_, rfl, OwCg.empty hb1, below_then hb1 _⟩
  | true =>
    obtain ⟨e1, e2⟩ := HYES.out HOK.out
    subst e2
    obtain ⟨hA2, hAp⟩ := HLA.out rfl rfl
    obtain ⟨hB2, hBp⟩ := HLB.out rfl rfl
    have HAP : Hid (∀ x ∈ Pa, 0 < x.2.length ∧ x.2.length ≤ 1048576) := fun x hx => ⟨hAp x hx, hda x hx⟩
    have HBP : Hid (∀ x ∈ Pb, 0 < x.2.length ∧ x.2.length ≤ 1048576) := fun x hx => ⟨hBp x hx, hdb x hx⟩
    have HL0 : Hid (∀ w2 : World, Below w.heap.size w w2 → Ls w (w2.alloc (.cells #[] 51)) (Pa.length + Pb.length) 0 0 (.slice (some ⟨w2.heap.size, 0, none⟩) 0 0) Pa Pb [] cL) := fun w2 hb => ⟨by omega, Nat.zero_le _, Nat.zero_le _, e1, OwCg.empty hb, below_then hb _, by rw [e1]; have := chg_len (Pa.length + Pb.length) Pa Pb; omega⟩
    clear HNO HYES HOK HLA HLB hda hdb e1 hAp hBp
    go_enter Try.func6, Try.ntmps6
    go_wp2_with fail
    refine hKC.mono ?_
    rintro e w1 ⟨rfl, hb1⟩
    clear hKC
    go_wp2_with fail
    refine (hKA w1 hb1).mono ?_
    rintro e w2 ⟨rfl, hb2⟩
    replace hb1 := below_seq hb1 hb2
    clear hKA hb2
    go_wp2_with fail
    refine (hKB w2 hb1).mono ?_
    rintro e w3 ⟨rfl, hb2⟩
    have HL2 : Hid _ := HL0.out w3 (below_seq hb1 hb2)
    clear hKB HL0 hb1 hb2
    go_wp2_with fail
    go_loopw [9, 10, 8] (fun ti tk tl wr => ∃ (f i k : Nat) (L : List Cg), ti = .int .i64 (i : Int) ∧ tk = .int .i64 (k : Int) ∧ Hid (Ls w wr f i k tl Pa Pb L cL)) (fun ti tk _ _ => (Pa.length - (intOf ti).toNat) + (Pb.length - (intOf tk).toNat))
    case atStart => exact ⟨_, 0, 0, _, rfl, rfl, HL2⟩
    case round =>
      clear HL2
      obtain ⟨f, i, k, L, rfl, rfl, HL⟩ := hrel
      have hsz := HL.out.bel.size
      have hLl := HL.out.len
      have hik := HL.out.hi
      have hkk := HL.out.hk
      obtain ⟨la, lc, rfl⟩ := HL.out.own.slice
      have i0 : (0 : Int) ≤ (i : Int) := by omega
      have k0 : (0 : Int) ≤ (k : Int) := by omega
      have i9 : (i : Int) + 1 < 9223372036854775808 := by omega
      have k9 : (k : Int) + 1 < 9223372036854775808 := by omega
      by_cases hlti : i < Pa.length
      · have ji : (i : Int) < (Pa.length : Int) := by omega
        have jin : ((i : Int) == (Pa.length : Int)) = false := by rw [beq_eq_false_iff_ne]; omega
        obtain ⟨ga, oa, rfl, hga, hca⟩ := hra (by omega)
        obtain ⟨a0, ua, a1, ar⟩ := (hca i _ (rwAt_get hlti)).below (HL.out.bel.mono hC) hga
        obtain ⟨hxp, hxa⟩ := HAP.out _ (List.mem_of_getElem? (rwAt_get hlti))
        obtain ⟨uaa, uac, rfl⟩ := rd_slice ar
        by_cases hltk : k < Pb.length
        · have jk : (k : Int) < (Pb.length : Int) := by omega
          have jkn : ((k : Int) == (Pb.length : Int)) = false := by rw [beq_eq_false_iff_ne]; omega
          obtain ⟨gb, ob, rfl, hgb, hcb⟩ := hrb (by omega)
          obtain ⟨b0, ub, b1, br⟩ := (hcb k _ (rwAt_get hltk)).below (HL.out.bel.mono hC) hgb
          obtain ⟨hyp, hxb⟩ := HBP.out _ (List.mem_of_getElem? (rwAt_get hltk))
          obtain ⟨uba, ubc, rfl⟩ := rd_slice br
          obtain ⟨f, rfl⟩ : ∃ f', f = f' + 1 := ⟨f - 1, by have := HL.out.fuel; omega⟩
          clear hra hrb hca hcb HAP HBP hik hkk
          go_wp2_with fail
          cases hlt : ltN (rwAt Pa i).1 (rwAt Pb k).1 with
          | true =>
            have HCE : Hid _ := chg_goes (f := f) (k := k) hlti (.inr ⟨hltk, hlt⟩)
            unfold ltN at hlt
            refine wp_region_quiet_lit (by kernel_rfl) (by kernel_rfl) ?_
            iterate 5 quiet_step (fail)
            iterate 5 quiet_step (fail)
            iterate 11 quiet_step (fail)
            iterate 1 quiet_step (fail)
            iterate 2 quiet_step (fail)
            refine wpQuiet_nil ?_
            rintro _ ⟨nq, rfl⟩
            have hbq : Below wr.heap.size wr (wr.drewN nq) := nest_drewN (Below.refl _ _) nq
            replace a0 := cell_on hbq a0
            replace a1 := cell_on hbq a1
            replace ar := ar.below (hbq.mono (Nat.le_trans hC hsz))
            replace HL : Hid _ := HL.out.later hbq
            replace hsz : w.heap.size ≤ (wr.drewN nq).heap.size := hsz
            clear hbq
            generalize wr.drewN nq = w5 at *
            clear b0 b1 br
            have hOW := HL.out.own
            have hgw : ga < w.heap.size := by omega
            generalize (rwAt Pa i).1 = xk at a0 HCE
            generalize (rwAt Pa i).2 = xs at a1 ar hxp hxa HCE
            go_wp2_with fail
            go_region_held2 (fun w' => w'.cell? ⟨ga, oa + i * 2, none⟩ = some (.string xk) ∧ w'.cell? ⟨ga, oa + i * 2 + 1, none⟩ = some (.slice uaa xs.length uac)) (first | exact ⟨a0, a1⟩ | exact ⟨(hbY.cell (p := ⟨ga, oa + i * 2, none⟩) hgw).trans a0, (hbY.cell (p := ⟨ga, oa + i * 2 + 1, none⟩) hgw).trans a1⟩ | exact ⟨cell_on hbX a0, cell_on hbX a1⟩ | go_keep) (first | (refine step_append_fresh rfl (.tmp 107) (.tmp 112) rfl _ rfl C _ xs rfl (ar.below (Below.mono (show Below w5.heap.size w5 _ from (by repeat (first | exact hbX | exact Below.refl _ _ | refine Below.drew ?_ | refine below_then ?_ _))) (by omega))) hxp hxa ?_; intro v6 w6 ho6 hb6; obtain ⟨v6a, v6c, rfl⟩ := rd_slice ho6.rd; have hbX : Below w5.heap.size w5 w6 := below_seq (by repeat (first | exact hbX | exact Below.refl _ _ | refine Below.drew ?_ | refine below_then ?_ _)) hb6; replace ho6 : Own 9 w6 w5.heap.size _ _ := own_up ho6 (by show w5.heap.size ≤ _; simp)) | (refine step_appendCg rfl (.tmp 101) (.tmp 115) rfl w5 w.heap.size w5.heap.size _ L rfl hOW (Nat.le_refl _) hsz (below_then hbX _) w6.heap.size (xk, xs, []) _ (.slice none 0 0) rfl (by go_simp) (by go_simp) (by go_simp) (World.ownsRow.alloc ho6 _) (own_none _ _) (apt_none _) (by omega) ?_; intro v7 w7 hO7 hb7 hv7; obtain ⟨v7a, v7c, rfl⟩ := hv7; have hbY : Below w.heap.size w5 w7 := ((below_then hbX _).mono hsz).trans hb7))
            clear hOW a0 a1 ar
            go_wp2_with fail
            exact ⟨⟨f, i + 1, k, _, by go_num, rfl, HL.out.step HCE.out (by omega) (by omega) (by omega) hbY hO7⟩, by simp [intOf]; omega⟩
          | false =>
            have hlt' := hlt
            unfold ltN at hlt
            refine wp_region_quiet_lit (by kernel_rfl) (by kernel_rfl) ?_
            iterate 5 quiet_step (fail)
            iterate 5 quiet_step (fail)
            iterate 11 quiet_step (fail)
            iterate 1 quiet_step (fail)
            iterate 2 quiet_step (fail)
            refine wpQuiet_nil ?_
            rintro _ ⟨nq, rfl⟩
            have hbq : Below wr.heap.size wr (wr.drewN nq) := nest_drewN (Below.refl _ _) nq
            replace a0 := cell_on hbq a0
            replace a1 := cell_on hbq a1
            replace b0 := cell_on hbq b0
            replace b1 := cell_on hbq b1
            replace ar := ar.below (hbq.mono (Nat.le_trans hC hsz))
            replace br := br.below (hbq.mono (Nat.le_trans hC hsz))
            replace HL : Hid _ := HL.out.later hbq
            replace hsz : w.heap.size ≤ (wr.drewN nq).heap.size := hsz
            clear hbq
            generalize wr.drewN nq = w4 at *
            clear hlt
            go_wp2_with fail
            cases hgt : ltN (rwAt Pb k).1 (rwAt Pa i).1 with
            | true =>
              have HCE : Hid _ := chg_comes (f := f) (i := i) hltk (.inr ⟨hlti, hlt', hgt⟩)
              unfold ltN at hgt
              refine wp_region_quiet_lit (by kernel_rfl) (by kernel_rfl) ?_
              iterate 5 quiet_step (fail)
              iterate 11 quiet_step (fail)
              iterate 2 quiet_step (fail)
              refine wpQuiet_nil ?_
              rintro _ ⟨nq, rfl⟩
              have hbq : Below w4.heap.size w4 (w4.drewN nq) := nest_drewN (Below.refl _ _) nq
              replace b0 := cell_on hbq b0
              replace b1 := cell_on hbq b1
              replace br := br.below (hbq.mono (Nat.le_trans hC hsz))
              replace HL : Hid _ := HL.out.later hbq
              replace hsz : w.heap.size ≤ (w4.drewN nq).heap.size := hsz
              clear hbq
              generalize w4.drewN nq = w5 at *
              clear a0 a1 ar
              have hOW := HL.out.own
              have hgw : gb < w.heap.size := by omega
              generalize (rwAt Pb k).1 = xk at b0 HCE
              generalize (rwAt Pb k).2 = xs at b1 br hyp hxb HCE
              go_wp2_with fail
              go_region_held2 (fun w' => w'.cell? ⟨gb, ob + k * 2, none⟩ = some (.string xk) ∧ w'.cell? ⟨gb, ob + k * 2 + 1, none⟩ = some (.slice uba xs.length ubc)) (first | exact ⟨b0, b1⟩ | exact ⟨(hbY.cell (p := ⟨gb, ob + k * 2, none⟩) hgw).trans b0, (hbY.cell (p := ⟨gb, ob + k * 2 + 1, none⟩) hgw).trans b1⟩ | exact ⟨cell_on hbX b0, cell_on hbX b1⟩ | go_keep) (first | (refine step_append_fresh rfl (.tmp 143) (.tmp 148) rfl _ rfl C _ xs rfl (br.below (Below.mono (show Below w5.heap.size w5 _ from (by repeat (first | exact hbX | exact Below.refl _ _ | refine Below.drew ?_ | refine below_then ?_ _))) (by omega))) hyp hxb ?_; intro v6 w6 ho6 hb6; obtain ⟨v6a, v6c, rfl⟩ := rd_slice ho6.rd; have hbX : Below w5.heap.size w5 w6 := below_seq (by repeat (first | exact hbX | exact Below.refl _ _ | refine Below.drew ?_ | refine below_then ?_ _)) hb6; replace ho6 : Own 9 w6 w5.heap.size _ _ := own_up ho6 (by show w5.heap.size ≤ _; simp)) | (refine step_appendCg rfl (.tmp 137) (.tmp 151) rfl w5 w.heap.size w5.heap.size _ L rfl hOW (Nat.le_refl _) hsz (below_then hbX _) w6.heap.size (xk, [], xs) (.slice none 0 0) _ rfl (by go_simp) (by go_simp) (by go_simp) (own_none _ _) (World.ownsRow.alloc ho6 _) (none_apt _) (by omega) ?_; intro v7 w7 hO7 hb7 hv7; obtain ⟨v7a, v7c, rfl⟩ := hv7; have hbY : Below w.heap.size w5 w7 := ((below_then hbX _).mono hsz).trans hb7))
              clear hOW b0 b1 br
              go_wp2_with fail
              exact ⟨⟨f, i, k + 1, _, rfl, by go_num, HL.out.step HCE.out (by omega) (by omega) (by omega) hbY hO7⟩, by simp [intOf]; omega⟩
            | false =>
              have HC0 := chg_both (f := f) hlti hltk hlt' hgt
              unfold ltN at hgt
              refine wp_region_quiet_lit (by kernel_rfl) (by kernel_rfl) ?_
              iterate 5 quiet_step (fail)
              iterate 11 quiet_step (fail)
              iterate 2 quiet_step (fail)
              refine wpQuiet_nil ?_
              rintro _ ⟨nq, rfl⟩
              have hbq : Below w4.heap.size w4 (w4.drewN nq) := nest_drewN (Below.refl _ _) nq
              replace a0 := cell_on hbq a0
              replace a1 := cell_on hbq a1
              replace b0 := cell_on hbq b0
              replace b1 := cell_on hbq b1
              replace ar := ar.below (hbq.mono (Nat.le_trans hC hsz))
              replace br := br.below (hbq.mono (Nat.le_trans hC hsz))
              replace HL : Hid _ := HL.out.later hbq
              replace hsz : w.heap.size ≤ (w4.drewN nq).heap.size := hsz
              clear hbq
              generalize w4.drewN nq = w5 at *
              clear hgt
              have heq := fun (w9 : World) (h : Below w5.heap.size w5 w9) => l17Same_any C C w9 _ _ (rwAt Pa i).2 (rwAt Pb k).2 hxa (by have := h.size; omega) (by have := h.size; omega) (ar.below (h.mono (by omega))) (br.below (h.mono (by omega)))
              go_wp2_with fail
              go_region_held2 (fun w' => w'.cell? ⟨ga, oa + i * 2 + 1, none⟩ = some (.slice uaa (rwAt Pa i).2.length uac) ∧ w'.cell? ⟨gb, ob + k * 2 + 1, none⟩ = some (.slice uba (rwAt Pb k).2.length ubc)) (first | exact ⟨a1, b1⟩ | exact ⟨cell_on hbX a1, cell_on hbX b1⟩) ((go_at_call 21; refine (heq _ (by first | exact Below.refl _ _ | exact (Below.refl _ _).drew)).mono ?_; rintro e w6 ⟨rfl, hb6⟩; have hbX : Below w5.heap.size w5 w6 := below_seq (by first | exact Below.refl _ _ | exact (Below.refl _ _).drew) hb6))
              clear heq
              have hs6 := hbX.size
              replace a0 := cell_on hbX a0
              replace a1 := cell_on hbX a1
              replace b0 := cell_on hbX b0
              replace b1 := cell_on hbX b1
              replace ar := ar.below (hbX.mono (Nat.le_trans hC hsz))
              replace br := br.below (hbX.mono (Nat.le_trans hC hsz))
              replace HL : Hid (Ls w w6 (f + 1) i k _ Pa Pb L cL) := HL.out.later hbX
              replace hsz : w.heap.size ≤ w6.heap.size := by omega
              clear hbX hb6 hs6
              cases heqT : eqT (rwAt Pa i).2 (rwAt Pb k).2 with
              | true =>
                rw [if_pos heqT] at HC0
                have HCE : Hid _ := HC0
                have hO9 : OwCg w6 w.heap.size w6.heap.size (.slice la L.length lc) (L ++ []) := by rw [List.append_nil]; exact HL.out.own
                have hbY : Below w.heap.size w6 w6 := Below.refl _ _
                clear a0 a1 b0 b1 ar br heqT hlt' HC0
                simp only [Bool.not_true]
                go_wp2_with fail
                exact ⟨⟨f, i + 1, k + 1, _, by go_num, by go_num, HL.out.step HCE.out (by omega) (by omega) (by omega) hbY hO9⟩, by simp [intOf]; omega⟩
              | false =>
                rw [if_neg (by rw [heqT]; exact Bool.false_ne_true)] at HC0
                have HCE : Hid _ := HC0
                clear heqT hlt' HC0
                simp only [Bool.not_false]
                generalize w6 = w7 at *
                have hOW := HL.out.own
                have hgw : ga < w.heap.size := by omega
                have hgw2 : gb < w.heap.size := by omega
                generalize (rwAt Pa i).1 = xk at a0 HCE
                generalize (rwAt Pa i).2 = xs at a1 ar hxp hxa HCE
                generalize (rwAt Pb k).2 = ys at b1 br hyp hxb HCE
                clear b0
                go_wp2_with fail
                go_region_held2 (fun w' => w'.cell? ⟨ga, oa + i * 2, none⟩ = some (.string xk) ∧ w'.cell? ⟨ga, oa + i * 2 + 1, none⟩ = some (.slice uaa xs.length uac) ∧ w'.cell? ⟨gb, ob + k * 2 + 1, none⟩ = some (.slice uba ys.length ubc)) (first | exact ⟨a0, a1, b1⟩ | exact ⟨(hbY.cell (p := ⟨ga, oa + i * 2, none⟩) hgw).trans a0, (hbY.cell (p := ⟨ga, oa + i * 2 + 1, none⟩) hgw).trans a1, (hbY.cell (p := ⟨gb, ob + k * 2 + 1, none⟩) hgw2).trans b1⟩ | exact ⟨cell_on (w := w7) (by repeat (first | exact hbX | exact Below.refl _ _ | refine Below.drew ?_ | refine below_then ?_ _)) a0, cell_on (w := w7) (by repeat (first | exact hbX | exact Below.refl _ _ | refine Below.drew ?_ | refine below_then ?_ _)) a1, cell_on (w := w7) (by repeat (first | exact hbX | exact Below.refl _ _ | refine Below.drew ?_ | refine below_then ?_ _)) b1⟩ | go_keep) (first | (refine step_append_fresh rfl (.tmp 56) (.tmp 61) rfl _ rfl C _ xs rfl (ar.below (Below.mono (show Below w7.heap.size w7 _ from (by repeat (first | exact hbX | exact Below.refl _ _ | refine Below.drew ?_ | refine below_then ?_ _))) (by omega))) hxp hxa ?_; intro vA wA hoA hbA; obtain ⟨vAa, vAc, rfl⟩ := rd_slice hoA.rd; (try have hap : Apt (.slice vAa xs.length vAc) (.slice vBa ys.length vBc) := Apt.symm (apt_later hoB hoA (by first | exact Nat.le_refl _ | (simp; done)))); (try replace hoB : Own 9 wA w7.heap.size _ _ := hoB.below (below_seq (show Below wB.heap.size wB _ from (by repeat (first | exact Below.refl _ _ | refine Below.drew ?_ | refine below_then ?_ _))) hbA) (Nat.le_refl _)); have hbX : Below w7.heap.size w7 wA := below_seq (by repeat (first | exact hbX | exact Below.refl _ _ | refine Below.drew ?_ | refine below_then ?_ _)) hbA; replace hoA : Own 9 wA w7.heap.size _ _ := own_up hoA (Below.size (show Below w7.heap.size w7 _ from (by repeat (first | exact hbX0 | exact Below.refl _ _ | refine Below.drew ?_ | refine below_then ?_ _)))); have hbX0 : Below w7.heap.size w7 wA := hbX) | (refine step_append_fresh rfl (.tmp 63) (.tmp 68) rfl _ rfl C _ ys rfl (br.below (Below.mono (show Below w7.heap.size w7 _ from (by repeat (first | exact hbX | exact Below.refl _ _ | refine Below.drew ?_ | refine below_then ?_ _))) (by omega))) hyp hxb ?_; intro vB wB hoB hbB; obtain ⟨vBa, vBc, rfl⟩ := rd_slice hoB.rd; (try have hap : Apt (.slice vAa xs.length vAc) (.slice vBa ys.length vBc) := apt_later hoA hoB (by first | exact Nat.le_refl _ | (simp; done))); (try replace hoA : Own 9 wB w7.heap.size _ _ := hoA.below (below_seq (show Below wA.heap.size wA _ from (by repeat (first | exact Below.refl _ _ | refine Below.drew ?_ | refine below_then ?_ _))) hbB) (Nat.le_refl _)); have hbX : Below w7.heap.size w7 wB := below_seq (by repeat (first | exact hbX | exact Below.refl _ _ | refine Below.drew ?_ | refine below_then ?_ _)) hbB; replace hoB : Own 9 wB w7.heap.size _ _ := own_up hoB (Below.size (show Below w7.heap.size w7 _ from (by repeat (first | exact hbX0 | exact Below.refl _ _ | refine Below.drew ?_ | refine below_then ?_ _)))); have hbX0 : Below w7.heap.size w7 wB := hbX) | (refine step_appendCg rfl (.tmp 50) (.tmp 71) rfl w7 w.heap.size w7.heap.size _ L rfl hOW (Nat.le_refl _) hsz (by repeat (first | exact hbX | exact Below.refl _ _ | refine Below.drew ?_ | refine below_then ?_ _)) _ (xk, xs, ys) _ _ rfl (by go_simp) (by go_simp) (by go_simp) (World.ownsRow.alloc hoA _) (World.ownsRow.alloc hoB _) hap (by omega) ?_; intro v9 w9 hO9 hb9 hv9; obtain ⟨v9a, v9c, rfl⟩ := hv9; have hbY : Below w.heap.size w7 w9 := Below.trans (Below.mono (show Below w7.heap.size w7 _ from (by repeat (first | exact hbX | exact Below.refl _ _ | refine Below.drew ?_ | refine below_then ?_ _))) hsz) hb9))
                all_goals
                  clear hOW a0 a1 b1 ar br
                  go_wp2_with fail
                  exact ⟨⟨f, i + 1, k + 1, _, by go_num, by go_num, HL.out.step HCE.out (by omega) (by omega) (by omega) hbY hO9⟩, by simp [intOf]; omega⟩
        · have jk0 := hltk
          obtain ⟨f, rfl⟩ : ∃ f', f = f' + 1 := ⟨f - 1, by have := HL.out.fuel; omega⟩
          clear hra hrb hca HAP HBP
          have HCE : Hid _ := chg_goes (f := f) (k := k) hlti (.inl (Nat.le_of_not_lt hltk))
          have jkn : ¬ (k : Int) < (Pb.length : Int) := by omega
          have jke : ((k : Int) == (Pb.length : Int)) = true := by rw [beq_iff_eq]; omega
          go_wp2_with fail
          refine wp_region_quiet_lit (by kernel_rfl) (by kernel_rfl) ?_
          iterate 5 quiet_step (fail)
          iterate 5 (with_reducible refine quiet_pass (by kernel_rfl) ?_)
          simp only [tkS, Act.put]
          iterate 11 (with_reducible refine quiet_pass (by kernel_rfl) ?_)
          simp only [tkS, Act.put]
          iterate 1 (with_reducible refine quiet_pass (by kernel_rfl) ?_)
          simp only [tkS, Act.put]
          iterate 2 quiet_step (fail)
          refine wpQuiet_nil ?_
          rintro _ ⟨nq, rfl⟩
          have hbq : Below wr.heap.size wr (wr.drewN nq) := nest_drewN (Below.refl _ _) nq
          replace a0 := cell_on hbq a0
          replace a1 := cell_on hbq a1
          replace ar := ar.below (hbq.mono (Nat.le_trans hC hsz))
          replace HL : Hid _ := HL.out.later hbq
          replace hsz : w.heap.size ≤ (wr.drewN nq).heap.size := hsz
          clear hbq
          generalize wr.drewN nq = w5 at *
          have hOW := HL.out.own
          have hgw : ga < w.heap.size := by omega
          generalize (rwAt Pa i).1 = xk at a0 HCE
          generalize (rwAt Pa i).2 = xs at a1 ar hxp hxa HCE
          go_wp2_with fail
          go_region_held2 (fun w' => w'.cell? ⟨ga, oa + i * 2, none⟩ = some (.string xk) ∧ w'.cell? ⟨ga, oa + i * 2 + 1, none⟩ = some (.slice uaa xs.length uac)) (first | exact ⟨a0, a1⟩ | exact ⟨(hbY.cell (p := ⟨ga, oa + i * 2, none⟩) hgw).trans a0, (hbY.cell (p := ⟨ga, oa + i * 2 + 1, none⟩) hgw).trans a1⟩ | exact ⟨cell_on hbX a0, cell_on hbX a1⟩ | go_keep) (first | (refine step_append_fresh rfl (.tmp 107) (.tmp 112) rfl _ rfl C _ xs rfl (ar.below (Below.mono (show Below w5.heap.size w5 _ from (by repeat (first | exact hbX | exact Below.refl _ _ | refine Below.drew ?_ | refine below_then ?_ _))) (by omega))) hxp hxa ?_; intro v6 w6 ho6 hb6; obtain ⟨v6a, v6c, rfl⟩ := rd_slice ho6.rd; have hbX : Below w5.heap.size w5 w6 := below_seq (by repeat (first | exact hbX | exact Below.refl _ _ | refine Below.drew ?_ | refine below_then ?_ _)) hb6; replace ho6 : Own 9 w6 w5.heap.size _ _ := own_up ho6 (by show w5.heap.size ≤ _; simp)) | (refine step_appendCg rfl (.tmp 101) (.tmp 115) rfl w5 w.heap.size w5.heap.size _ L rfl hOW (Nat.le_refl _) hsz (below_then hbX _) w6.heap.size (xk, xs, []) _ (.slice none 0 0) rfl (by go_simp) (by go_simp) (by go_simp) (World.ownsRow.alloc ho6 _) (own_none _ _) (apt_none _) (by omega) ?_; intro v7 w7 hO7 hb7 hv7; obtain ⟨v7a, v7c, rfl⟩ := hv7; have hbY : Below w.heap.size w5 w7 := ((below_then hbX _).mono hsz).trans hb7))
          clear hOW a0 a1 ar
          go_wp2_with fail
          exact ⟨⟨f, i + 1, k, _, by go_num, rfl, HL.out.step HCE.out (by omega) (by omega) (by omega) hbY hO7⟩, by simp [intOf]; omega⟩
      · by_cases hltk : k < Pb.length
        · have jk : (k : Int) < (Pb.length : Int) := by omega
          have jkn : ((k : Int) == (Pb.length : Int)) = false := by rw [beq_eq_false_iff_ne]; omega
          obtain ⟨gb, ob, rfl, hgb, hcb⟩ := hrb (by omega)
          obtain ⟨b0, ub, b1, br⟩ := (hcb k _ (rwAt_get hltk)).below (HL.out.bel.mono hC) hgb
          obtain ⟨hyp, hxb⟩ := HBP.out _ (List.mem_of_getElem? (rwAt_get hltk))
          obtain ⟨uba, ubc, rfl⟩ := rd_slice br
          obtain ⟨f, rfl⟩ : ∃ f', f = f' + 1 := ⟨f - 1, by have := HL.out.fuel; omega⟩
          clear hra hrb hcb HAP HBP
          have HCE : Hid _ := chg_comes (f := f) (i := i) hltk (.inl (Nat.le_of_not_lt hlti))
          have jie : ((i : Int) == (Pa.length : Int)) = true := by rw [beq_iff_eq]; omega
          have jil : ¬ (i : Int) < (Pa.length : Int) := by omega
          go_wp2_with fail
          refine wp_region_quiet_lit (by kernel_rfl) (by kernel_rfl) ?_
          iterate 5 quiet_step (fail)
          iterate 5 quiet_step (fail)
          iterate 11 (with_reducible refine quiet_pass (by kernel_rfl) ?_)
          simp only [tkS, Act.put]
          iterate 1 quiet_step (fail)
          iterate 2 quiet_step (fail)
          refine wpQuiet_nil ?_
          rintro _ ⟨nq, rfl⟩
          have hbq : Below wr.heap.size wr (wr.drewN nq) := nest_drewN (Below.refl _ _) nq
          replace b0 := cell_on hbq b0
          replace b1 := cell_on hbq b1
          replace br := br.below (hbq.mono (Nat.le_trans hC hsz))
          replace HL : Hid _ := HL.out.later hbq
          replace hsz : w.heap.size ≤ (wr.drewN nq).heap.size := hsz
          clear hbq
          generalize wr.drewN nq = w4 at *
          go_wp2_with fail
          refine wp_region_quiet_lit (by kernel_rfl) (by kernel_rfl) ?_
          iterate 5 quiet_step (fail)
          iterate 11 (with_reducible refine quiet_pass (by kernel_rfl) ?_)
          simp only [tkS, Act.put]
          iterate 2 quiet_step (fail)
          refine wpQuiet_nil ?_
          rintro _ ⟨nq, rfl⟩
          have hbq : Below w4.heap.size w4 (w4.drewN nq) := nest_drewN (Below.refl _ _) nq
          replace b0 := cell_on hbq b0
          replace b1 := cell_on hbq b1
          replace br := br.below (hbq.mono (Nat.le_trans hC hsz))
          replace HL : Hid _ := HL.out.later hbq
          replace hsz : w.heap.size ≤ (w4.drewN nq).heap.size := hsz
          clear hbq
          generalize w4.drewN nq = w5 at *
          have hOW := HL.out.own
          have hgw : gb < w.heap.size := by omega
          generalize (rwAt Pb k).1 = xk at b0 HCE
          generalize (rwAt Pb k).2 = xs at b1 br hyp hxb HCE
          go_wp2_with fail
          go_region_held2 (fun w' => w'.cell? ⟨gb, ob + k * 2, none⟩ = some (.string xk) ∧ w'.cell? ⟨gb, ob + k * 2 + 1, none⟩ = some (.slice uba xs.length ubc)) (first | exact ⟨b0, b1⟩ | exact ⟨(hbY.cell (p := ⟨gb, ob + k * 2, none⟩) hgw).trans b0, (hbY.cell (p := ⟨gb, ob + k * 2 + 1, none⟩) hgw).trans b1⟩ | exact ⟨cell_on hbX b0, cell_on hbX b1⟩ | go_keep) (first | (refine step_append_fresh rfl (.tmp 143) (.tmp 148) rfl _ rfl C _ xs rfl (br.below (Below.mono (show Below w5.heap.size w5 _ from (by repeat (first | exact hbX | exact Below.refl _ _ | refine Below.drew ?_ | refine below_then ?_ _))) (by omega))) hyp hxb ?_; intro v6 w6 ho6 hb6; obtain ⟨v6a, v6c, rfl⟩ := rd_slice ho6.rd; have hbX : Below w5.heap.size w5 w6 := below_seq (by repeat (first | exact hbX | exact Below.refl _ _ | refine Below.drew ?_ | refine below_then ?_ _)) hb6; replace ho6 : Own 9 w6 w5.heap.size _ _ := own_up ho6 (by show w5.heap.size ≤ _; simp)) | (refine step_appendCg rfl (.tmp 137) (.tmp 151) rfl w5 w.heap.size w5.heap.size _ L rfl hOW (Nat.le_refl _) hsz (below_then hbX _) w6.heap.size (xk, [], xs) (.slice none 0 0) _ rfl (by go_simp) (by go_simp) (by go_simp) (own_none _ _) (World.ownsRow.alloc ho6 _) (none_apt _) (by omega) ?_; intro v7 w7 hO7 hb7 hv7; obtain ⟨v7a, v7c, rfl⟩ := hv7; have hbY : Below w.heap.size w5 w7 := ((below_then hbX _).mono hsz).trans hb7))
          clear hOW b0 b1 br
          go_wp2_with fail
          exact ⟨⟨f, i, k + 1, _, rfl, by go_num, HL.out.step HCE.out (by omega) (by omega) (by omega) hbY hO7⟩, by simp [intOf]; omega⟩
        · have ji : ¬ (i : Int) < (Pa.length : Int) := by omega
          have jk : ¬ (k : Int) < (Pb.length : Int) := by omega
          have HE : Hid (OwCg wr w.heap.size wr.heap.size (.slice la L.length lc) cL) := by
            unfold Hid
            have h1 := HL.out.full
            rw [chg_none (by omega) (by omega), List.append_nil] at h1
            rw [h1]
            exact HL.out.own
          have HB := HL.out.bel
          clear HL hra hrb HAP HBP
          go_wp2_with fail
          go_ret2
          exact ⟨_, rfl, HE.out, HB⟩
end Go.Proofs.Ytlncfeakcgjioaa
