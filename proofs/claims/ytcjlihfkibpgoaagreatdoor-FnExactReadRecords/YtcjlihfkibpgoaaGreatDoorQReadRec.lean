/- The code's reading of a record. -/
import Derived.Test.YtcjlihfkibpgoaaGreatDoorQAttemptOp
import Derived.Test.YtcjlihfkibpgoaaGreatDoorQInfoToCopies
import Derived.Test.YtcjlihfkibpgoaaGreatDoorQTextsToPutTextsSpec
namespace Go.Proofs.YtcjlihfkibpgoaaGreatDoor
open Go.RowKit Go.Lib
set_option linter.unusedVariables false

theorem ofInts_dec {xs ys : List Int} (hx : Bytes xs) (hy : Bytes ys) : ((ofInts xs).toList == (ofInts ys).toList) = decide (xs = ys) := by
  by_cases h : xs = ys
  · subst h
    simp
  · rw [decide_eq_false h]
    refine beq_eq_false_iff_ne.2 (fun e => h (ofInts_inj hx hy ?_))
    rw [Lib.toList_data, Lib.toList_data] at e
    exact ba_ext e
theorem bytesEq_any (C : Nat) (w : World) (v1 v2 : Value) (xs ys : List Int) (hx : Bytes xs) (hy : Bytes ys) (h1 : Rd C w v1 (xs.map (Value.int .u8))) (h2 : Rd C w v2 (ys.map (Value.int .u8))) :
    Calls Tryz.prog 53 #[v1, v2] w fun e w' => e = .returned (.bool (decide (xs = ys))) ∧ w' = w := by
  have g1 := run_string_of h1
  have g2 := run_string_of h2
  rw [← ofInts_dec hx hy]
  clear h1 h2
  go_enter Tryz.func53, Tryz.ntmps53
  go_wp2
  go_ret
  exact ⟨rfl, rfl⟩
/-- The operation whose record stands at a place of some bytes, and the place behind it. -/
def recRd (xs : List Int) (p : Nat) : Option (Ov × Nat) := match getL xs p with
  | none => none
  | some (n, q) => if n.toNat ≤ xs.length - q ∧ 4 ≤ xs.length - (q + n.toNat) ∧ (xs.drop (q + n.toNat)).take 4 = four (sumF 2166136261 ((xs.drop q).take n.toNat)) then
      match opCd ((xs.drop q).take n.toNat) with
      | none => none
      | some x => some (x, q + n.toNat + 4)
    else none
/-- What record answers. -/
def RecAns (xs : List Int) (p b : Nat) (va : Value) (w : World) (e : Ending) (w' : World) : Prop := (match recRd xs p with
  | some (x, r) => ∃ ga, e = .returned (.agg (Ov.cs { x with dv := .slice (some ⟨ga, 0, none⟩) 16 16 }).toArray) ∧ w.heap.size ≤ ga ∧ ga < w'.heap.size ∧ w'.rangeAt ga 0 (x.ds.map (Value.int .i64)) ∧ w'.there ga 0 16 ∧ Rdr w' b va r ∧ r ≤ xs.length
  | none => Bad e) ∧ w.grownBy w' (some b)
theorem recAns_bad {xs : List Int} {p b : Nat} {va : Value} {w : World} {e : Ending} {w' : World} (h : recRd xs p = none) (he : Bad e) (hg : w.grownBy w' (some b)) : RecAns xs p b va w e w' := by
  unfold RecAns
  rw [h]
  exact ⟨he, hg⟩

set_option maxHeartbeats 4000000 in
set_option maxRecDepth 100000 in
theorem record_any (C b p : Nat) (w : World) (va : Value) (xs : List Int) (hx : Bytes xs) (hl : xs.length ≤ 1048576) (hp : p ≤ xs.length) (hC : C ≤ b) (hb : b < w.heap.size) (hr : Rd C w va (xs.map (Value.int .u8))) (hR : Rdr w b va p) :
    Calls Tryz.prog 31 #[.pointer (some ⟨b, 0, none⟩)] w (RecAns xs p b va w) := by
  have hba := below_alloc w (.cells #[.int .i64 0, .int .i64 0, .int .i64 0, .slice none 0 0, .int .i64 0, .int .i64 0, .int .i64 0, .int .i64 0, .int .i64 0, .int .i64 0, .string ⟨#[]⟩, .string ⟨#[]⟩] 41)
  have hR0 : (w.alloc (.cells #[.int .i64 0, .int .i64 0, .int .i64 0, .slice none 0 0, .int .i64 0, .int .i64 0, .int .i64 0, .int .i64 0, .int .i64 0, .int .i64 0, .string ⟨#[]⟩, .string ⟨#[]⟩] 41)).heap[w.heap.size]? = some (.cells #[.int .i64 0, .int .i64 0, .int .i64 0, .slice none 0 0, .int .i64 0, .int .i64 0, .int .i64 0, .int .i64 0, .int .i64 0, .int .i64 0, .string ⟨#[]⟩, .string ⟨#[]⟩] 41 (0, 0)) := heap_alloc_new w _
  have hs0 : (w.alloc (.cells #[.int .i64 0, .int .i64 0, .int .i64 0, .slice none 0 0, .int .i64 0, .int .i64 0, .int .i64 0, .int .i64 0, .int .i64 0, .int .i64 0, .string ⟨#[]⟩, .string ⟨#[]⟩] 41)).heap.size = w.heap.size + 1 := World.size_alloc _ _
  have hra := hr.below (hba.mono (by omega))
  have hRa := (hba.block b hb).trans hR
  clear hr hR
  go_enter Tryz.func31, Tryz.ntmps31
  go_upto_region 1 with fail
  generalize (w.alloc (.cells #[.int .i64 0, .int .i64 0, .int .i64 0, .slice none 0 0, .int .i64 0, .int .i64 0, .int .i64 0, .int .i64 0, .int .i64 0, .int .i64 0, .string ⟨#[]⟩, .string ⟨#[]⟩] 41)) = wa at *
  have hnu := number_any C b p wa va xs hx hl hp hC hra hRa
  go_wp2_with fail
  refine hnu.mono ?_
  rintro e w1 ⟨hn, hg1⟩
  have hsz1 := hg1.size
  rw [hs0] at hsz1
  have hres := (hg1.block w.heap.size (by omega) (fun e => by injection e with e; omega)).trans hR0
  have hgw : w.grownBy w1 (some b) := grownBy_trans (grownBy_below hba (Nat.le_refl _) _) hg1
  have hr1 := hra.grown hg1 (fun k hk => by cases hk; exact hC)
  clear hnu hra hRa hR0 hba hg1 hs0
  unfold numR at hn
  cases hG : getL xs p with
  | none =>
    rw [hG] at hn
    obtain ⟨hbad, -⟩ := hn
    have HN : Hid (RecAns xs p b va w e w1) := recAns_bad (by unfold recRd; rw [hG]) hbad hgw
    unfold Bad at hbad
    subst hbad
    exact ⟨rfl, HN.out⟩
  | some z =>
    obtain ⟨n, q⟩ := z
    rw [hG] at hn
    obtain ⟨rfl, hR1⟩ := hn
    have hok := getL_ok hx hG
    obtain ⟨n, rfl⟩ := Int.eq_ofNat_of_zero_le hok.1
    have HX := (show recRd xs p = _ by unfold recRd; rw [hG])
    simp only [Int.toNat_natCast] at HX
    obtain ⟨hok0, hok1, hpq, hql⟩ := hok
    clear hG hok0
    by_cases h1 : n ≤ xs.length - q
    · have ht1 := take_ok C b q n w1 va (xs.map (Value.int .u8)) (by simpa using hl) (by simpa using hql) (by simpa using h1) hC hr1 hR1
      rw [← List.map_drop, ← List.map_take] at ht1
      go_wp2_with fail
      refine ht1.mono ?_
      rintro e w2 ⟨r1, rfl, hd1, hR2, hg2⟩
      have hsz2 := hg2.size
      have hres2 := (hg2.block w.heap.size (by omega) (fun e => by injection e with e; omega)).trans hres
      have hgw2 := grownBy_trans hgw hg2
      have hr2 := hr1.grown hg2 (fun k hk => by cases hk; exact hC)
      clear ht1 hR1 hres hgw hr1 hg2
      by_cases h2 : 4 ≤ xs.length - (q + n)
      · have ht2 := take_ok C b (q + n) 4 w2 va (xs.map (Value.int .u8)) (by simpa using hl) (by simp; omega) (by simp; omega) hC hr2 hR2
        rw [← List.map_drop, ← List.map_take] at ht2
        go_wp2_with fail
        refine ht2.mono ?_
        rintro e w3 ⟨r2, rfl, hd2, hR3, hg3⟩
        have hsz3 := hg3.size
        have hres3 := (hg3.block w.heap.size (by omega) (fun e => by injection e with e; omega)).trans hres2
        have hgw3 := grownBy_trans hgw2 hg3
        have hd3 := hd1.grown hg3 (fun k hk => by cases hk; exact hC)
        clear ht2 hR2 hres2 hgw2 hr2 hg3 hd1
        have hby : Bytes ((xs.drop q).take n) := fun c hc => hx c (List.mem_of_mem_drop (List.mem_of_mem_take hc))
        have hb4 : Bytes ((xs.drop (q + n)).take 4) := fun c hc => hx c (List.mem_of_mem_drop (List.mem_of_mem_take hc))
        have hyl : ((xs.drop q).take n).length ≤ 1048576 := by rw [List.length_take, List.length_drop]; omega
        generalize (xs.drop q).take n = ys at *
        generalize (xs.drop (q + n)).take 4 = zs at *
        have hsl := sumF_lt ys (h := 2166136261) (by omega)
        have hsu := sumOn_any C w3 r1 ys 2166136261 (by omega) hby (by omega) hd3
        have has := appendSum_any w3.heap.size w3 (.slice none 0 0) [] (sumF 2166136261 ys) hsl (by simp) (Nat.le_refl _) ⟨rfl, .inl ⟨rfl, rfl⟩⟩
        rw [List.nil_append] at has
        have hfb := four_bytes hsl
        generalize sumF 2166136261 ys = S at *
        go_wp2_with fail
        refine hsu.mono ?_
        rintro e w3' ⟨rfl, hw3⟩
        obtain rfl := hw3.symm
        go_wp2_with fail
        refine has.mono ?_
        rintro e w4 ⟨r3, rfl, ho4, hb34⟩
        have hsz4 := hb34.size
        have hres4 := (hb34.block w.heap.size (by omega)).trans hres3
        have hgw4 := grownBy_trans hgw3 (grownBy_below hb34 (Nat.le_refl _) (some b))
        have hR4 := (hb34.block b (by omega)).trans hR3
        have hd4 := (hd3.below (hb34.mono (by omega)))
        have hz4 := (hd2.below (hb34.mono (by omega)))
        have heq := bytesEq_any w4.heap.size w4 r2 r3 zs (four S) hb4 hfb (hz4.mono (by omega)) ho4.rd
        clear hsu has hd2 hd3 hz4 hw3 ho4 hb34 hres3 hgw3 hR3
        go_wp2_with fail
        refine heq.mono ?_
        rintro e w4' ⟨rfl, hw4⟩
        obtain rfl := hw4.symm
        clear heq hw4
        by_cases h3 : zs = four S
        · rw [if_pos ⟨h1, h2, h3⟩] at HX
          rw [decide_eq_true h3]
          have hat := attemptAllO_any w4.heap.size w4 r1 ys hby hyl (Nat.le_refl _) (hd4.mono (by omega))
          go_wp2_with (first | (go_at_call 52; refine (require_y _ _ _ rfl).mono ?_; rintro e w' ⟨rfl, hw⟩; obtain rfl := hw.symm))
          refine hat.mono ?_
          rintro e w5 ⟨hn, hb5⟩
          have hsz5 := hb5.size
          have hres5 := (hb5.block w.heap.size (by omega)).trans hres4
          have hgw5 := grownBy_trans hgw4 (grownBy_below hb5 (Nat.le_refl _) (some b))
          have hR5 := (hb5.block b (by omega)).trans hR4
          clear hat hb5 hres4 hgw4 hR4 hd4 hby hb4 hfb hsl h3
          obtain ⟨y, c, he, ⟨da, dl, dk, hdv⟩, hoc, hkeep⟩ := opA_open hn
          clear hn
          obtain ⟨ya, yb, yt, yd, yk, yo, yn, yu, ypt, ypa, yky, ytx, yds⟩ := y
          have hdv2 : yd = .slice da dl dk := hdv
          clear hdv
          subst hdv2
          have he2 : e = .returned (.tuple #[.agg #[.int .i64 ya, .int .i64 yb, .int .i64 yt, .slice da dl dk, .int .i64 yk, .int .i64 yo, .int .i64 yn, .int .i64 yu, .int .i64 ypt, .int .i64 ypa, .string yky, .string ytx], .int .i64 c]) := he
          clear he
          subst he2
          have hb6 := below_alloc w5 (.cells #[.int .i64 ya, .int .i64 yb, .int .i64 yt, .slice da dl dk, .int .i64 yk, .int .i64 yo, .int .i64 yn, .int .i64 yu, .int .i64 ypt, .int .i64 ypa, .string yky, .string ytx] 41)
          have hbox : (w5.alloc (.cells #[.int .i64 ya, .int .i64 yb, .int .i64 yt, .slice da dl dk, .int .i64 yk, .int .i64 yo, .int .i64 yn, .int .i64 yu, .int .i64 ypt, .int .i64 ypa, .string yky, .string ytx] 41)).heap[w5.heap.size]? = some (.cells #[.int .i64 ya, .int .i64 yb, .int .i64 yt, .slice da dl dk, .int .i64 yk, .int .i64 yo, .int .i64 yn, .int .i64 yu, .int .i64 ypt, .int .i64 ypa, .string yky, .string ytx] 41 (0, 0)) := heap_alloc_new w5 _
          have hs6 : (w5.alloc (.cells #[.int .i64 ya, .int .i64 yb, .int .i64 yt, .slice da dl dk, .int .i64 yk, .int .i64 yo, .int .i64 yn, .int .i64 yu, .int .i64 ypt, .int .i64 ypa, .string yky, .string ytx] 41)).heap.size = w5.heap.size + 1 := World.size_alloc _ _
          have hres6 := (hb6.block w.heap.size (by omega)).trans hres5
          have hgw6 := grownBy_trans hgw5 (grownBy_below hb6 (Nat.le_refl _) (some b))
          have hR6 := (hb6.block b (by omega)).trans hR5
          go_upto_region 5 with fail
          generalize (w5.alloc (.cells #[.int .i64 ya, .int .i64 yb, .int .i64 yt, .slice da dl dk, .int .i64 yk, .int .i64 yo, .int .i64 yn, .int .i64 yu, .int .i64 ypt, .int .i64 ypa, .string yky, .string ytx] 41)) = w6 at *
          rcases hoc with ⟨ho, rfl⟩ | ⟨ho, rfl⟩
          · rw [ho] at HX
            have HN : Hid (∀ e, Bad e → RecAns xs p b va w e w6) := fun e he => recAns_bad HX he hgw6
            go_wp2_with (first | (go_at_call 52; refine (require_n _ _ _ rfl).mono ?_; rintro e w' ⟨rfl, hw⟩; obtain rfl := hw.symm))
            exact ⟨rfl, HN.out _ rfl⟩
          · obtain ⟨x, ho⟩ := Option.ne_none_iff_exists'.1 ho
            rw [ho] at HX hkeep
            have hopb : OpBlk w6 w5.heap.size (⟨ya, yb, yt, .slice da dl dk, yk, yo, yn, yu, ypt, ypa, yky, ytx, yds⟩ : Ov) := hbox
            obtain ⟨cs, HCS⟩ : ∃ cs, Hid (Ov.cs (⟨ya, yb, yt, .slice da dl dk, yk, yo, yn, yu, ypt, ypa, yky, ytx, yds⟩ : Ov) = cs) := ⟨_, rfl⟩
            have hlen : cs.length = 12 := by rw [← HCS.out]; rfl
            have hth1 : w6.there w.heap.size 0 cs.length := there_blk hres6 (by rw [hlen]; simp)
            have hgs := grownBy_setCells w6 w.heap.size cs 0
            have hszf := hgs.size
            have HF : Hid (RecAns xs p b va w (.returned (.agg cs.toArray)) (w6.setCells w.heap.size 0 cs)) := by
              obtain ⟨ga, he', hlo, hhi, hrng, hth⟩ := hkeep w.heap.size (w6.setCells w.heap.size 0 cs) (by omega) (by omega) (fun k hk1 hk2 => (hgs.block k (by omega) (fun e => by injection e with e; omega)).trans (hb6.block k hk2))
              have h4 := Value.tuple.inj (Ending.returned.inj he')
              have h5 : some (Value.agg #[.int .i64 ya, .int .i64 yb, .int .i64 yt, .slice da dl dk, .int .i64 yk, .int .i64 yo, .int .i64 yn, .int .i64 yu, .int .i64 ypt, .int .i64 ypa, .string yky, .string ytx]) = some (Value.agg (Ov.cs { x with dv := .slice (some ⟨ga, 0, none⟩) 16 16 }).toArray) := congrArg (fun (a : Array Value) => a[0]?) h4
              have h6 : Value.agg cs.toArray = Value.agg (Ov.cs { x with dv := .slice (some ⟨ga, 0, none⟩) 16 16 }).toArray := by
                rw [← HCS.out]
                exact Option.some.inj h5
              unfold Hid RecAns
              rw [HX]
              refine ⟨⟨ga, by rw [h6], hlo, hhi, hrng, hth, (hgs.block b (by omega) (fun e => by injection e with e; omega)).trans hR6, by omega⟩, own_writes hgw6 ⟨hgs.os, hgs.tape, hgs.output, hszf⟩ (fun k hk => hgs.block k (by omega) (fun e => by injection e with e; omega))⟩
            have hrg : w6.rangeAt w5.heap.size 0 cs := by
              have := opBlk_range hopb
              rwa [HCS.out] at this
            have HI1 : Hid ((Tryz.prog.info? 41).map (·.size) = some cs.length) := by rw [← HCS.out]; exact infoOpB _
            have HI2 : Hid ((Tryz.prog.info? 41).map (·.size) = some cs.toArray.size) := HI1
            have hone : cs.toArray.all (·.oneCell') = true := by rw [← HCS.out]; exact all_oneCell_toArray (cs_one _ rfl)
            have HLD : Hid _ := run_loadVar_mid (P := Tryz.prog) _ w.heap.size 0 41 cs _ (World.rangeAt_setCells_same w6 _ _ _ hth1) Tryz.underlying41 rfl HI1.out
            have hth' : w6.there w.heap.size 0 cs.toArray.size := hth1
            clear hgs hth1 hlen hopb hkeep HX hbox hres6 hgw6 hR6 hb6
            go_wp2_with (first | (go_at_call 52; refine (require_y _ _ _ rfl).mono ?_; rintro e w' ⟨rfl, hw⟩; obtain rfl := hw.symm) | (refine wpList_load_mid rfl 41 _ rfl w5.heap.size 0 rfl cs _ hrg Tryz.underlying41 rfl HI1.out ?_) | (refine wpList_store_mid rfl 41 _ _ rfl w.heap.size 0 cs.toArray rfl rfl hth' HI2.out hone ?_))
            have hld := HLD.out
            exact bodyPost_ret (v := .agg cs.toArray) (by simp [results, Tryz.results31, asAddr, Act.put, hld]) rfl HF.out
        · rw [if_neg (fun h => h3 h.2.2)] at HX
          rw [decide_eq_false h3]
          have HN : Hid (∀ e, Bad e → RecAns xs p b va w e w4) := fun e he => recAns_bad HX he hgw4
          go_wp2_with (first | (go_at_call 52; refine (require_n _ _ _ rfl).mono ?_; rintro e w' ⟨rfl, hw⟩; obtain rfl := hw.symm))
          exact ⟨rfl, HN.out _ rfl⟩

      · rw [if_neg (fun h => h2 h.2.1)] at HX
        obtain ⟨ao, cap, rfl, hrr⟩ := hr2
        rw [List.length_map] at hR2
        have hno := take_no b (q + n) 4 w2 ao xs.length cap hl (by omega) (by omega) hR2
        have HN : Hid (∀ e m, Bad e → RecAns xs p b (.slice ao xs.length cap) w e (w2.drewN m)) := fun e m he => recAns_bad HX he (grownBy_trans hgw2 (grownBy_drewN _ _ _))
        clear hrr
        go_wp2_with fail
        refine hno.mono ?_
        rintro e w9 ⟨hbad, m, rfl⟩
        have HN2 := HN.out e m hbad
        unfold Bad at hbad
        subst hbad
        exact ⟨rfl, HN2⟩
    · rw [if_neg (fun h => h1 h.1)] at HX
      obtain ⟨ao, cap, rfl, hrr⟩ := hr1
      rw [List.length_map] at hR1
      have hno := take_no b q (n : Int) w1 ao xs.length cap hl (by omega) (by omega) hR1
      have HN : Hid (∀ e m, Bad e → RecAns xs p b (.slice ao xs.length cap) w e (w1.drewN m)) := fun e m he => recAns_bad HX he (grownBy_trans hgw (grownBy_drewN _ _ _))
      clear hrr
      go_wp2_with fail
      refine hno.mono ?_
      rintro e w9 ⟨hbad, m, rfl⟩
      have HN2 := HN.out e m hbad
      unfold Bad at hbad
      subst hbad
      exact ⟨rfl, HN2⟩
end Go.Proofs.YtcjlihfkibpgoaaGreatDoor
