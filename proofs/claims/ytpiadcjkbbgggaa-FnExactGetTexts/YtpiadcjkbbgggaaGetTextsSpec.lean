/- What the specification's texts and GetTexts do. -/
import Derived.Test.YtpiadcjkbbgggaaTextsRead
import Derived.Test.YtpiadcjkbbgggaaTexts
namespace Go.Proofs.Ytpiadcjkbbgggaa
open Go.RowKit Go.Lib
set_option linter.unusedVariables false

/-- What texts answers. -/
def textsS (xs : List Int) (N b : Nat) (va : Value) (e : Ending) (w' : World) : Prop := match textsL xs with
  | some (out, q) => ∃ r, e = .returned r ∧ Own 9 w' N r (out.map Value.string) ∧ RdrS w' b va q false ∧ out.length ≤ 4096
  | none => ∃ r q, e = .returned r ∧ RdrS w' b va q true

/-- Where the reading stands: it goes on well, or it has gone wrong. -/
def textsAt (xs : List Int) (N b : Nat) (va to tl ta tn : Value) (wr : World) : Prop :=
  ∃ (j p all : Nat) (last : ByteArray) (bad : Bool), tn = .int .i64 (j : Int) ∧ tl = .string last ∧ ta = .int .i64 (all : Int) ∧ RdrS wr b va p bad ∧ p ≤ xs.length ∧ j ≤ 4096 ∧ all ≤ 9000000 ∧ last.size ≤ 9000000 ∧
    ((bad = false ∧ ∃ out : List ByteArray, Own 9 wr N to (out.map Value.string) ∧ j + out.length ≤ 4096 ∧ all ≤ 1048576 ∧ last.size ≤ 1048576 ∧ Hid (textsL xs = textsF xs j p last all out)) ∨ (bad = true ∧ Hid (textsL xs = none)))

theorem texts_next {xs : List Int} {j p p3 k al all : Nat} {last t : ByteArray} {out : List ByteArray} {bad3 : Bool} (hj : ¬ j = 0) (HT : textsL xs = textsF xs j p last all out)
    (HO : (bad3 = true → oneText xs p last all = none) ∧ (bad3 = false → oneText xs p last all = if k ≠ al ∨ 1048576 < all + t.size then none else some (t, p3))) :
    (bad3 = false → k = al → all + t.size ≤ 1048576 → textsL xs = textsF xs (j - 1) p3 t (all + t.size) (out ++ [t])) ∧ (bad3 = true ∨ k ≠ al ∨ 1048576 < all + t.size → textsL xs = none) := by
  obtain ⟨j, rfl⟩ : ∃ j', j = j' + 1 := ⟨j - 1, by omega⟩
  rw [Nat.add_sub_cancel]
  constructor
  · intro hb hk ha
    have := HO.2 hb
    rw [if_neg (by omega)] at this
    rw [HT, textsF_some this]
  · intro h
    rw [HT]
    apply textsF_none
    cases bad3 with
    | true => exact HO.1 rfl
    | false =>
      rcases h with h | h
      · cases h
      · rw [HO.2 rfl, if_pos h]

/-- What a round leaves: it goes on well, or has gone wrong. -/
def NextT (xs : List Int) (j p3 all : Nat) (t : ByteArray) (out : List ByteArray) (bad : Bool) : Prop :=
  (bad = false ∧ all + t.size ≤ 1048576 ∧ textsL xs = textsF xs (j - 1) p3 t (all + t.size) (out ++ [t])) ∨ (bad = true ∧ textsL xs = none)

set_option maxHeartbeats 4000000 in
set_option maxRecDepth 100000 in
theorem textsS_any (C b : Nat) (w : World) (va : Value) (xs : List Int) (hx : Bytes xs) (hl : xs.length ≤ 1048576) (hC : C ≤ b) (hb : b < w.heap.size) (hr : Rd C w va (xs.map (Value.int .u8))) (hR : RdrS w b va 0 false) :
    Calls Try.prog 40 #[.pointer (some ⟨b, 0, none⟩)] w fun e w' => textsS xs w.heap.size b va e w' ∧ w.grownBy w' (some b) := by
  obtain ⟨i0, hi, hz0, hz1, hz2⟩ := info_parts info9
  have hR0 : RdrS (w.alloc (.cells #[] 9)) b va 0 false := hR.grown (World.grownBy_alloc w _ none) (fun k hk => by cases hk)
  have hr0 : Rd C (w.alloc (.cells #[] 9)) va _ := hr.grown (World.grownBy_alloc w _ none) (fun k hk => by cases hk)
  have ho0 : Own 9 (w.alloc (.cells #[] 9)) w.heap.size (.slice (some ⟨w.heap.size, 0, none⟩) 0 0) [] := own_lit w 9 [] 0 rfl (by decide)
  have hg0 : w.grownBy (w.alloc (.cells #[] 9)) (some b) := World.grownBy_alloc w _ _
  go_enter Try.func40, Try.ntmps40
  go_wp2_with fail
  refine (count_any C b _ va xs hx hl hr0 hR0).mono ?_
  rintro e w1 ⟨hcn, hg1⟩
  have hgw1 : w.grownBy w1 (some b) := grownBy_trans hg0 hg1
  have ho1 : Own 9 w1 w.heap.size (.slice (some ⟨w.heap.size, 0, none⟩) 0 0) [] := ho0.apart hg1 (fun k hk => by cases hk; exact hb)
  obtain ⟨n, rfl, hst⟩ : ∃ n : Nat, e = .returned (.int .i64 (n : Int)) ∧ textsAt xs w.heap.size b va (.slice (some ⟨w.heap.size, 0, none⟩) 0 0) (.string ByteArray.empty) (.int .i64 0) (.int .i64 (n : Int)) w1 := by
    unfold countS at hcn
    cases hG : getL xs 0 with
    | none =>
      rw [hG] at hcn
      obtain ⟨rfl, hR1⟩ := hcn
      exact ⟨0, rfl, 0, 0, 0, ByteArray.empty, true, rfl, rfl, rfl, hR1, by omega, by omega, by omega, by simp, .inr ⟨rfl, by unfold Hid textsL; rw [hG]⟩⟩
    | some z =>
      obtain ⟨a, q⟩ := z
      rw [hG] at hcn
      simp only at hcn
      have hok := getL_ok hx hG
      split at hcn
      · rename_i h4
        obtain ⟨rfl, hR1⟩ := hcn
        exact ⟨0, rfl, 0, q, 0, ByteArray.empty, true, rfl, rfl, rfl, hR1, hok.2.2.2, by omega, by omega, by simp, .inr ⟨rfl, by unfold Hid textsL; rw [hG]; simp only; rw [if_pos h4]⟩⟩
      · rename_i h4
        obtain ⟨rfl, hR1⟩ := hcn
        obtain ⟨n, rfl⟩ := Int.eq_ofNat_of_zero_le hok.1
        exact ⟨n, rfl, n, q, 0, ByteArray.empty, false, rfl, rfl, rfl, hR1, hok.2.2.2, by omega, by omega, by simp, .inl ⟨rfl, [], ho1, by simp; omega, by omega, by simp, by unfold Hid textsL; rw [hG]; simp only; rw [if_neg h4, Int.toNat_natCast]⟩⟩
  clear hcn ho0 hR0 hr0 hg0 hg1 ho1 hR
  go_wp2_with fail
  go_loopw [3, 4, 5, 6] (fun to tl ta tn wr => textsAt xs w.heap.size b va to tl ta tn wr ∧ w.grownBy wr (some b)) (fun _ _ _ tn _ => (intOf tn).toNat)
  case atStart => exact ⟨hst, hgw1⟩
  case round =>
    clear hst hgw1
    obtain ⟨⟨j, p, all, last, bad, rfl, rfl, rfl, hRr, hp, hj, hall, hlast, hst⟩, hgw⟩ := hrel
    have hszw := hgw.size
    by_cases hj0 : j = 0
    · have hjb : ¬ (0 : Int) < (j : Int) := by omega
      have hjd : decide ((0 : Int) < (j : Int)) = false := by simpa using hjb
      have hres : ∃ v', Hid (textsS xs w.heap.size b va (.returned u3) wr) ∨ v' = u3 ∧ False := by
        refine ⟨u3, .inl ?_⟩
        unfold Hid textsS
        rcases hst with ⟨rfl, out, how, hjo, _, _, HT⟩ | ⟨rfl, HT⟩
        · rw [HT.out, hj0]
          exact ⟨_, rfl, how, hRr, by omega⟩
        · rw [HT.out]
          exact ⟨_, p, rfl, hRr⟩
      obtain ⟨_, hres | ⟨_, hF⟩⟩ := hres
      · clear hst
        go_wp2_with fail
        go_ret
        exact ⟨hres.out, hgw⟩
      · cases hF
    · rcases hst with ⟨rfl, out, how, hjo, hall', hlast', HT⟩ | ⟨rfl, HT⟩
      · have r2 := hRr.c2
        have f2 := hRr.f 2
        have hjb : (0 : Int) < (j : Int) := by omega
        have hrr : Rd C wr va (xs.map (Value.int .u8)) := hr.grown hgw (fun k hk => by cases hk; exact hC)
        have hbr : b < wr.heap.size := by omega
        go_wp2_with fail
        refine (num_any C b p false wr va xs hx hl hp hrr hRr).mono ?_
        rintro e w2 ⟨k, p1, bad1, rfl, hR2, hp1, hk, h1, hg2⟩
        have how2 := how.apart hg2 (fun k hk => by cases hk; exact hb)
        have hgw2 := grownBy_trans hgw hg2
        have hr2 := hr.grown hgw2 (fun k hk => by cases hk; exact hC)
        clear r2 f2 hRr how hrr hg2
        have r2 := hR2.c2
        have f2 := hR2.f 2
        by_cases hkl : last.size < k
        · have hres : Hid (textsS xs w.heap.size b va (.returned u3) (w2.setCell ⟨b, 2, none⟩ (.bool true))) := by
            have hno : textsL xs = none := by
              rw [HT.out]
              obtain ⟨j, rfl⟩ : ∃ j', j = j' + 1 := ⟨j - 1, by omega⟩
              apply textsF_none
              rcases h1 with ⟨_, hG, _⟩ | ⟨_, hk0, _⟩
              · exact one_none2 hG (by simpa using hkl)
              · omega
            unfold Hid textsS
            rw [hno]
            exact ⟨_, p1, rfl, hR2.set2 true⟩
          have hgf := grownBy_trans hgw2 (grownBy_set w2 b 2 (.bool true))
          clear h1
          go_wp2_with fail
          go_ret
          exact ⟨hres.out, hgf⟩
        · have hH1 : Hid _ := h1
          clear h1
          have hkI0 : (0 : Int) ≤ (k : Int) := by omega
          have hkI : (k : Int) ≤ (last.size : Int) := by omega
          go_wp2_with fail
          go_region_held2 (fun _ => True) (trivial) (first | (go_at_call 49; refine (num_any C b p1 bad1 w2.drew va xs hx hl hp1 (show Rd C w2.drew va _ from hr2) (show RdrS w2.drew b va p1 bad1 from hR2)).mono ?_; rintro e w3 ⟨m, p2, bad2, rfl, hR3, hp2, hm, h2, hg3⟩) | (go_at_call 75; refine (takeS_any C b p2 m bad2 w3 va xs hl hp2 hm hC ((show Rd C w2.drew va _ from hr2).grown hg3 (fun k hk => by cases hk; exact hC)) hR3).mono ?_; rintro e w4 ⟨s, p3, bad3, rfl, hR4, hp3, hs, h3, hg4⟩; have hcat : ¬ 9223372036854775807 < min k last.size + s.size := by omega))
          have HO : Hid _ := texts_round (all := all) (last := last) (by simpa using hH1.out) h2 h3 (by omega)
          have hgw4 := grownBy_trans (grownBy_trans hgw2 (grownBy_trans (grownBy_drewN w2 1 _) hg3)) hg4
          have how4 := (how2.apart (grownBy_trans (grownBy_drewN w2 1 _) hg3) (fun k hk => by cases hk; exact hb)).apart hg4 (fun k hk => by cases hk; exact hb)
          have hts : (last.extract 0 k ++ s).size ≤ 2097152 := by rw [ByteArray.size_append, ByteArray.size_extract]; omega
          clear h2 h3 hg3 hg4 hR3 hR2 how2 hgw2 hr2 r2 f2 hcat hH1 hkI hkI0 hgw
          generalize last.extract 0 k ++ s = t at HO hts ⊢
          clear hs
          go_wp2_with fail
          refine (l01Alike_any last t _ (by omega) (by omega)).mono ?_
          rintro e w5 ⟨rfl, n5, rfl⟩
          have hal := alike_le last t
          generalize alike last t = al at hal HO ⊢
          have HX : Hid _ := texts_next hj0 HT.out HO.out
          clear HO HT
          have r2 := hR4.c2
          have f2 := hR4.f 2
          have hR0 : RdrS (w4.drewN n5) b va p3 bad3 := hR4
          have hg0 : w.grownBy (w4.drewN n5) (some b) := grownBy_trans hgw4 (grownBy_drewN _ _ _)
          have ho0 : Own 9 (w4.drewN n5) w.heap.size u3 (out.map Value.string) := how4
          clear hR4 hgw4 how4
          have hR1 : RdrS ((w4.drewN n5).setCell ⟨b, 2, none⟩ (.bool true)) b va p3 true := hR0.set2 true
          have hg1 := grownBy_trans hg0 (grownBy_set (w4.drewN n5) b 2 (.bool true))
          have ho1 := ho0.apart (grownBy_set (w4.drewN n5) b 2 (.bool true)) (fun k hk => by cases hk; exact hb)
          obtain ⟨bad5, W5, hW5, how5, hR5, hgw5, HN, hcase⟩ : ∃ bad5 W5, W5.heap.size = w4.heap.size ∧ Own 9 W5 w.heap.size u3 (out.map Value.string) ∧ RdrS W5 b va p3 bad5 ∧ w.grownBy W5 (some b) ∧ Hid (NextT xs j p3 all t out bad5) ∧
              ((((k : Int) != (al : Int)) = false ∧ ¬ 1048576 < (all : Int) + (t.size : Int) ∧ W5 = w4.drewN n5) ∨
               (((k : Int) != (al : Int)) = true ∧ ¬ 1048576 < (all : Int) + (t.size : Int) ∧ W5 = (w4.drewN n5).setCell ⟨b, 2, none⟩ (.bool true)) ∨
               (((k : Int) != (al : Int)) = false ∧ 1048576 < (all : Int) + (t.size : Int) ∧ W5 = (w4.drewN n5).setCell ⟨b, 2, none⟩ (.bool true)) ∨
               (((k : Int) != (al : Int)) = true ∧ 1048576 < (all : Int) + (t.size : Int) ∧ W5 = ((w4.drewN n5).setCell ⟨b, 2, none⟩ (.bool true)).setCell ⟨b, 2, none⟩ (.bool true))) := by
            by_cases hka : k = al
            · have e1 : ((k : Int) != (al : Int)) = false := by simp [hka]
              by_cases hbig : 1048576 < all + t.size
              · exact ⟨true, _, by simp, ho1, hR1, hg1, .inr ⟨rfl, HX.out.2 (.inr (.inr hbig))⟩, .inr (.inr (.inl ⟨e1, by omega, rfl⟩))⟩
              · refine ⟨bad3, w4.drewN n5, rfl, ho0, hR0, hg0, ?_, .inl ⟨e1, by omega, rfl⟩⟩
                cases bad3 with
                | true => exact .inr ⟨rfl, HX.out.2 (.inl rfl)⟩
                | false => exact .inl ⟨rfl, by omega, HX.out.1 rfl hka (by omega)⟩
            · have e1 : ((k : Int) != (al : Int)) = true := by simp; omega
              by_cases hbig : 1048576 < all + t.size
              · exact ⟨true, _, by simp, ho1.apart (grownBy_set _ b 2 (.bool true)) (fun k hk => by cases hk; exact hb), hR1.set2 true, grownBy_trans hg1 (grownBy_set _ b 2 (.bool true)), .inr ⟨rfl, HX.out.2 (.inr (.inr hbig))⟩, .inr (.inr (.inr ⟨e1, by omega, rfl⟩))⟩
              · exact ⟨true, _, by simp, ho1, hR1, hg1, .inr ⟨rfl, HX.out.2 (.inr (.inl hka))⟩, .inr (.inl ⟨e1, by omega, rfl⟩)⟩
          clear hR0 hg0 ho0 hR1 hg1 ho1 HX
          have hsz5 := hgw5.size
          rw [hW5] at hsz5
          have hb5 : ∀ g, u3.ownBlock = some g → w.heap.size ≤ g := how5.lt
          have hcn : ∀ (j : Nat) (u : Value), [Value.string t][j]? = some u → (W5.alloc (.cells #[.string t] 9)).cell? ((⟨w4.heap.size, 0, none⟩ : Addr).add j) = some u := by rw [← hW5]; exact cell_one_new _ _ _
          clear hW5
          rcases hcase with ⟨e1, e2, rfl⟩ | ⟨e1, e2, rfl⟩ | ⟨e1, e2, rfl⟩ | ⟨e1, e2, rfl⟩
          all_goals
            go_wp2_with (at_builtin; refine wpList_append_own _ rfl _ _ 23 rfl w.heap.size 9 i0 (.string ByteArray.empty) 1 16 Try.underlying23 hi hz0 hz1 hz2 rfl (by decide) _ _ _ rfl (World.ownsRow.alloc how5 _) ⟨w4.heap.size, 0, none⟩ 1 1 [.string t] rfl rfl hcn (by simp [Value.oneCell']) (by simp [maxLen]; omega) (by simp; omega) (by simp; omega) ?_)
            intro v6 w6 ho6 hg6 _
            have hfin : textsAt xs w.heap.size b va v6 (.string t) (.int .i64 ((all : Int) + (t.size : Int))) (.int .i64 ((j : Int) - 1)) w6 ∧ w.grownBy w6 (some b) := by
              have hR6 : RdrS w6 b va p3 bad5 := (hR5.grown (World.grownBy_alloc _ _ none) (fun k hk => by cases hk)).grown hg6 (fun k hk => by have := hb5 k hk; omega)
              refine ⟨⟨j - 1, p3, all + t.size, t, bad5, ?_, rfl, ?_, hR6, hp3, by omega, by omega, by omega, ?_⟩, grownBy_own (grownBy_trans hgw5 (World.grownBy_alloc _ _ _)) hg6 hb5⟩
              · congr 1; omega
              · congr 1
              · rcases HN.out with ⟨h1, h2, h3⟩ | ⟨h1, h2⟩
                · exact .inl ⟨h1, out ++ [t], by simpa using own_of ho6, by simp; omega, h2, by omega, h3⟩
                · exact .inr ⟨h1, h2⟩
            clear ho6 hg6 how5 hR5 hgw5 hcn HN
            go_wp2_with fail
            go_roundw
            case rel => exact hfin
            case measure => simp [intOf]; omega
      · have r2 := hRr.c2
        have hjb : (0 : Int) < (j : Int) := by omega
        have hres : Hid (textsS xs w.heap.size b va (.returned u3) wr) := by
          unfold Hid textsS
          rw [HT.out]
          exact ⟨_, p, rfl, hRr⟩
        go_wp2_with fail
        go_ret
        exact ⟨hres.out, hgw⟩
end Go.Proofs.Ytpiadcjkbbgggaa
