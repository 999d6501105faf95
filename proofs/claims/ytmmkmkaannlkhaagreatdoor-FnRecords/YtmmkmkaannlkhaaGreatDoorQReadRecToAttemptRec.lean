/- The code's reading of a record. The records with which bytes begin: plain facts. Records that stand one behind the other come back; of a beginning of these bytes those that are whole: plain facts. What attempt does with a record. -/
import Derived.Test.YtmmkmkaannlkhaaGreatDoorQAttemptOp
import Derived.Test.YtmmkmkaannlkhaaGreatDoorQInfoToLawAt
import Derived.Test.YtmmkmkaannlkhaaGreatDoorQTextsToBackRuns
import Derived.Test.YtmmkmkaannlkhaaGreatDoorQOpBytesSpecToRecBoth
namespace Go.Proofs.YtmmkmkaannlkhaaGreatDoor
open Go.RowKit Go.Lib
set_option linter.unusedVariables false

theorem ofInts_dec {xs ys : List Int} (hx : Bytes xs) (hy : Bytes ys) : ((ofInts xs).toList == (ofInts ys).toList) = decide (xs = ys) := by
  by_cases h : xs = ys
  · subst h
    simp
  · rw [decide_eq_false h]
    refine beq_eq_false_iff_ne.2 (fun e => h (ofInts_inj hx hy ?_))
    rw [Lib.toList_data, Lib.toList_data] at e
    exact ba_ext e
theorem bytesEq_any (C : Nat) (w : World) (v1 v2 : Value) (xs ys : List Int) (hx : Bytes xs) (hy : Bytes ys) (h1 : Rd C w v1 (xs.map (Value.int .u8))) (h2 : Rd C w v2 (ys.map (Value.int .u8))) :
    Calls Tryz.prog 102 #[v1, v2] w fun e w' => e = .returned (.bool (decide (xs = ys))) ∧ w' = w := by
  have g1 := run_string_of h1
  have g2 := run_string_of h2
  rw [← ofInts_dec hx hy]
  clear h1 h2
  go_enter Tryz.func102, Tryz.ntmps102
  go_wp2
  go_ret
  exact ⟨rfl, rfl⟩
/-- The operation whose record stands at a place of some bytes, and the place behind it. -/
def recRd (xs : List Int) (p : Nat) : Option (Ov × Nat) := match getL xs p with
  | none => none
  | some (n, q) => if n.toNat ≤ xs.length - q ∧ 4 ≤ xs.length - (q + n.toNat) ∧ (xs.drop (q + n.toNat)).take 4 = four (sumF 2166136261 ((xs.drop q).take n.toNat)) then
      match opCd ((xs.drop q).take n.toNat) with
      | none => none
      | some x => some (x, q + n.toNat + 4)
    else none
/-- What record answers. -/
def RecAns (xs : List Int) (p b : Nat) (va : Value) (w : World) (e : Ending) (w' : World) : Prop := (match recRd xs p with
  | some (x, r) => ∃ ga, e = .returned (.agg (Ov.cs { x with dv := .slice (some ⟨ga, 0, none⟩) 16 16 }).toArray) ∧ w.heap.size ≤ ga ∧ ga < w'.heap.size ∧ w'.rangeAt ga 0 (x.ds.map (Value.int .i64)) ∧ w'.there ga 0 16 ∧ Rdr w' b va r ∧ r ≤ xs.length
  | none => Bad e) ∧ w.grownBy w' (some b)
theorem recAns_bad {xs : List Int} {p b : Nat} {va : Value} {w : World} {e : Ending} {w' : World} (h : recRd xs p = none) (he : Bad e) (hg : w.grownBy w' (some b)) : RecAns xs p b va w e w' := by
  unfold RecAns
  rw [h]
  exact ⟨he, hg⟩

set_option maxHeartbeats 4000000 in
set_option maxRecDepth 100000 in
theorem record_any (C b p : Nat) (w : World) (va : Value) (xs : List Int) (hx : Bytes xs) (hl : xs.length ≤ 1048576) (hp : p ≤ xs.length) (hC : C ≤ b) (hb : b < w.heap.size) (hr : Rd C w va (xs.map (Value.int .u8))) (hR : Rdr w b va p) :
    Calls Tryz.prog 62 #[.pointer (some ⟨b, 0, none⟩)] w (RecAns xs p b va w) := by
  have hba := below_alloc w (.cells #[.int .i64 0, .int .i64 0, .int .i64 0, .slice none 0 0, .int .i64 0, .int .i64 0, .int .i64 0, .int .i64 0, .int .i64 0, .int .i64 0, .string ⟨#[]⟩, .string ⟨#[]⟩] 29)
  have hR0 : (w.alloc (.cells #[.int .i64 0, .int .i64 0, .int .i64 0, .slice none 0 0, .int .i64 0, .int .i64 0, .int .i64 0, .int .i64 0, .int .i64 0, .int .i64 0, .string ⟨#[]⟩, .string ⟨#[]⟩] 29)).heap[w.heap.size]? = some (.cells #[.int .i64 0, .int .i64 0, .int .i64 0, .slice none 0 0, .int .i64 0, .int .i64 0, .int .i64 0, .int .i64 0, .int .i64 0, .int .i64 0, .string ⟨#[]⟩, .string ⟨#[]⟩] 29 (0, 0)) := heap_alloc_new w _
  have hs0 : (w.alloc (.cells #[.int .i64 0, .int .i64 0, .int .i64 0, .slice none 0 0, .int .i64 0, .int .i64 0, .int .i64 0, .int .i64 0, .int .i64 0, .int .i64 0, .string ⟨#[]⟩, .string ⟨#[]⟩] 29)).heap.size = w.heap.size + 1 := World.size_alloc _ _
  have hra := hr.below (hba.mono (by omega))
  have hRa := (hba.block b hb).trans hR
  clear hr hR
  go_enter Tryz.func62, Tryz.ntmps62
  go_upto_region 1 with fail
  generalize (w.alloc (.cells #[.int .i64 0, .int .i64 0, .int .i64 0, .slice none 0 0, .int .i64 0, .int .i64 0, .int .i64 0, .int .i64 0, .int .i64 0, .int .i64 0, .string ⟨#[]⟩, .string ⟨#[]⟩] 29)) = wa at *
  have hnu := number_any C b p wa va xs hx hl hp hC hra hRa
  go_wp2_with fail
  refine hnu.mono ?_
  rintro e w1 ⟨hn, hg1⟩
  have hsz1 := hg1.size
  rw [hs0] at hsz1
  have hres := (hg1.block w.heap.size (by omega) (fun e => by injection e with e; omega)).trans hR0
  have hgw : w.grownBy w1 (some b) := grownBy_trans (grownBy_below hba (Nat.le_refl _) _) hg1
  have hr1 := hra.grown hg1 (fun k hk => by cases hk; exact hC)
  clear hnu hra hRa hR0 hba hg1 hs0
  unfold numR at hn
  cases hG : getL xs p with
  | none =>
    rw [hG] at hn
    obtain ⟨hbad, -⟩ := hn
    have HN : Hid (RecAns xs p b va w e w1) := recAns_bad (by unfold recRd; rw [hG]) hbad hgw
    unfold Bad at hbad
    subst hbad
    exact ⟨rfl, HN.out⟩
  | some z =>
    obtain ⟨n, q⟩ := z
    rw [hG] at hn
    obtain ⟨rfl, hR1⟩ := hn
    have hok := getL_ok hx hG
    obtain ⟨n, rfl⟩ := Int.eq_ofNat_of_zero_le hok.1
    have HX := (show recRd xs p = _ by unfold recRd; rw [hG])
    simp only [Int.toNat_natCast] at HX
    obtain ⟨hok0, hok1, hpq, hql⟩ := hok
    clear hG hok0
    by_cases h1 : n ≤ xs.length - q
    · have ht1 := take_ok C b q n w1 va (xs.map (Value.int .u8)) (by simpa using hl) (by simpa using hql) (by simpa using h1) hC hr1 hR1
      rw [← List.map_drop, ← List.map_take] at ht1
      go_wp2_with fail
      refine ht1.mono ?_
      rintro e w2 ⟨r1, rfl, hd1, hR2, hg2⟩
      have hsz2 := hg2.size
      have hres2 := (hg2.block w.heap.size (by omega) (fun e => by injection e with e; omega)).trans hres
      have hgw2 := grownBy_trans hgw hg2
      have hr2 := hr1.grown hg2 (fun k hk => by cases hk; exact hC)
      clear ht1 hR1 hres hgw hr1 hg2
      by_cases h2 : 4 ≤ xs.length - (q + n)
      · have ht2 := take_ok C b (q + n) 4 w2 va (xs.map (Value.int .u8)) (by simpa using hl) (by simp; omega) (by simp; omega) hC hr2 hR2
        rw [← List.map_drop, ← List.map_take] at ht2
        go_wp2_with fail
        refine ht2.mono ?_
        rintro e w3 ⟨r2, rfl, hd2, hR3, hg3⟩
        have hsz3 := hg3.size
        have hres3 := (hg3.block w.heap.size (by omega) (fun e => by injection e with e; omega)).trans hres2
        have hgw3 := grownBy_trans hgw2 hg3
        have hd3 := hd1.grown hg3 (fun k hk => by cases hk; exact hC)
        clear ht2 hR2 hres2 hgw2 hr2 hg3 hd1
        have hby : Bytes ((xs.drop q).take n) := fun c hc => hx c (List.mem_of_mem_drop (List.mem_of_mem_take hc))
        have hb4 : Bytes ((xs.drop (q + n)).take 4) := fun c hc => hx c (List.mem_of_mem_drop (List.mem_of_mem_take hc))
        have hyl : ((xs.drop q).take n).length ≤ 1048576 := by rw [List.length_take, List.length_drop]; omega
        generalize (xs.drop q).take n = ys at *
        generalize (xs.drop (q + n)).take 4 = zs at *
        have hsl := sumF_lt ys (h := 2166136261) (by omega)
        have hsu := sumOn_any C w3 r1 ys 2166136261 (by omega) hby (by omega) hd3
        have has := appendSum_any w3.heap.size w3 (.slice none 0 0) [] (sumF 2166136261 ys) hsl (by simp) (Nat.le_refl _) ⟨rfl, .inl ⟨rfl, rfl⟩⟩
        rw [List.nil_append] at has
        have hfb := four_bytes hsl
        generalize sumF 2166136261 ys = S at *
        go_wp2_with fail
        refine hsu.mono ?_
        rintro e w3' ⟨rfl, hw3⟩
        obtain rfl := hw3.symm
        go_wp2_with fail
        refine has.mono ?_
        rintro e w4 ⟨r3, rfl, ho4, hb34⟩
        have hsz4 := hb34.size
        have hres4 := (hb34.block w.heap.size (by omega)).trans hres3
        have hgw4 := grownBy_trans hgw3 (grownBy_below hb34 (Nat.le_refl _) (some b))
        have hR4 := (hb34.block b (by omega)).trans hR3
        have hd4 := (hd3.below (hb34.mono (by omega)))
        have hz4 := (hd2.below (hb34.mono (by omega)))
        have heq := bytesEq_any w4.heap.size w4 r2 r3 zs (four S) hb4 hfb (hz4.mono (by omega)) ho4.rd
        clear hsu has hd2 hd3 hz4 hw3 ho4 hb34 hres3 hgw3 hR3
        go_wp2_with fail
        refine heq.mono ?_
        rintro e w4' ⟨rfl, hw4⟩
        obtain rfl := hw4.symm
        clear heq hw4
        by_cases h3 : zs = four S
        · rw [if_pos ⟨h1, h2, h3⟩] at HX
          rw [decide_eq_true h3]
          have hat := attemptAllO_any w4.heap.size w4 r1 ys hby hyl (Nat.le_refl _) (hd4.mono (by omega))
          go_wp2_with (first | (go_at_call 101; refine (require_y _ _ _ rfl).mono ?_; rintro e w' ⟨rfl, hw⟩; obtain rfl := hw.symm))
          refine hat.mono ?_
          rintro e w5 ⟨hn, hb5⟩
          have hsz5 := hb5.size
          have hres5 := (hb5.block w.heap.size (by omega)).trans hres4
          have hgw5 := grownBy_trans hgw4 (grownBy_below hb5 (Nat.le_refl _) (some b))
          have hR5 := (hb5.block b (by omega)).trans hR4
          clear hat hb5 hres4 hgw4 hR4 hd4 hby hb4 hfb hsl h3
          obtain ⟨y, c, he, ⟨da, dl, dk, hdv⟩, hoc, hkeep⟩ := opA_open hn
          clear hn
          obtain ⟨ya, yb, yt, yd, yk, yo, yn, yu, ypt, ypa, yky, ytx, yds⟩ := y
          have hdv2 : yd = .slice da dl dk := hdv
          clear hdv
          subst hdv2
          have he2 : e = .returned (.tuple #[.agg #[.int .i64 ya, .int .i64 yb, .int .i64 yt, .slice da dl dk, .int .i64 yk, .int .i64 yo, .int .i64 yn, .int .i64 yu, .int .i64 ypt, .int .i64 ypa, .string yky, .string ytx], .int .i64 c]) := he
          clear he
          subst he2
          have hb6 := below_alloc w5 (.cells #[.int .i64 ya, .int .i64 yb, .int .i64 yt, .slice da dl dk, .int .i64 yk, .int .i64 yo, .int .i64 yn, .int .i64 yu, .int .i64 ypt, .int .i64 ypa, .string yky, .string ytx] 29)
          have hbox : (w5.alloc (.cells #[.int .i64 ya, .int .i64 yb, .int .i64 yt, .slice da dl dk, .int .i64 yk, .int .i64 yo, .int .i64 yn, .int .i64 yu, .int .i64 ypt, .int .i64 ypa, .string yky, .string ytx] 29)).heap[w5.heap.size]? = some (.cells #[.int .i64 ya, .int .i64 yb, .int .i64 yt, .slice da dl dk, .int .i64 yk, .int .i64 yo, .int .i64 yn, .int .i64 yu, .int .i64 ypt, .int .i64 ypa, .string yky, .string ytx] 29 (0, 0)) := heap_alloc_new w5 _
          have hs6 : (w5.alloc (.cells #[.int .i64 ya, .int .i64 yb, .int .i64 yt, .slice da dl dk, .int .i64 yk, .int .i64 yo, .int .i64 yn, .int .i64 yu, .int .i64 ypt, .int .i64 ypa, .string yky, .string ytx] 29)).heap.size = w5.heap.size + 1 := World.size_alloc _ _
          have hres6 := (hb6.block w.heap.size (by omega)).trans hres5
          have hgw6 := grownBy_trans hgw5 (grownBy_below hb6 (Nat.le_refl _) (some b))
          have hR6 := (hb6.block b (by omega)).trans hR5
          go_upto_region 5 with fail
          generalize (w5.alloc (.cells #[.int .i64 ya, .int .i64 yb, .int .i64 yt, .slice da dl dk, .int .i64 yk, .int .i64 yo, .int .i64 yn, .int .i64 yu, .int .i64 ypt, .int .i64 ypa, .string yky, .string ytx] 29)) = w6 at *
          rcases hoc with ⟨ho, rfl⟩ | ⟨ho, rfl⟩
          · rw [ho] at HX
            have HN : Hid (∀ e, Bad e → RecAns xs p b va w e w6) := fun e he => recAns_bad HX he hgw6
            go_wp2_with (first | (go_at_call 101; refine (require_n _ _ _ rfl).mono ?_; rintro e w' ⟨rfl, hw⟩; obtain rfl := hw.symm))
            exact ⟨rfl, HN.out _ rfl⟩
          · obtain ⟨x, ho⟩ := Option.ne_none_iff_exists'.1 ho
            rw [ho] at HX hkeep
            have hopb : OpBlk w6 w5.heap.size (⟨ya, yb, yt, .slice da dl dk, yk, yo, yn, yu, ypt, ypa, yky, ytx, yds⟩ : Ov) := hbox
            obtain ⟨cs, HCS⟩ : ∃ cs, Hid (Ov.cs (⟨ya, yb, yt, .slice da dl dk, yk, yo, yn, yu, ypt, ypa, yky, ytx, yds⟩ : Ov) = cs) := ⟨_, rfl⟩
            have hlen : cs.length = 12 := by rw [← HCS.out]; rfl
            have hth1 : w6.there w.heap.size 0 cs.length := there_blk hres6 (by rw [hlen]; simp)
            have hgs := grownBy_setCells w6 w.heap.size cs 0
            have hszf := hgs.size
            have HF : Hid (RecAns xs p b va w (.returned (.agg cs.toArray)) (w6.setCells w.heap.size 0 cs)) := by
              obtain ⟨ga, he', hlo, hhi, hrng, hth⟩ := hkeep w.heap.size (w6.setCells w.heap.size 0 cs) (by omega) (by omega) (fun k hk1 hk2 => (hgs.block k (by omega) (fun e => by injection e with e; omega)).trans (hb6.block k hk2))
              have h4 := Value.tuple.inj (Ending.returned.inj he')
              have h5 : some (Value.agg #[.int .i64 ya, .int .i64 yb, .int .i64 yt, .slice da dl dk, .int .i64 yk, .int .i64 yo, .int .i64 yn, .int .i64 yu, .int .i64 ypt, .int .i64 ypa, .string yky, .string ytx]) = some (Value.agg (Ov.cs { x with dv := .slice (some ⟨ga, 0, none⟩) 16 16 }).toArray) := congrArg (fun (a : Array Value) => a[0]?) h4
              have h6 : Value.agg cs.toArray = Value.agg (Ov.cs { x with dv := .slice (some ⟨ga, 0, none⟩) 16 16 }).toArray := by
                rw [← HCS.out]
                exact Option.some.inj h5
              unfold Hid RecAns
              rw [HX]
              refine ⟨⟨ga, by rw [h6], hlo, hhi, hrng, hth, (hgs.block b (by omega) (fun e => by injection e with e; omega)).trans hR6, by omega⟩, own_writes hgw6 ⟨hgs.os, hgs.tape, hgs.output, hszf⟩ (fun k hk => hgs.block k (by omega) (fun e => by injection e with e; omega))⟩
            have hrg : w6.rangeAt w5.heap.size 0 cs := by
              have := opBlk_range hopb
              rwa [HCS.out] at this
            have HI1 : Hid ((Tryz.prog.info? 29).map (·.size) = some cs.length) := by rw [← HCS.out]; exact infoOpB _
            have HI2 : Hid ((Tryz.prog.info? 29).map (·.size) = some cs.toArray.size) := HI1
            have hone : cs.toArray.all (·.oneCell') = true := by rw [← HCS.out]; exact all_oneCell_toArray (cs_one _ rfl)
            have HLD : Hid _ := run_loadVar_mid (P := Tryz.prog) _ w.heap.size 0 29 cs _ (World.rangeAt_setCells_same w6 _ _ _ hth1) Tryz.underlying29 rfl HI1.out
            have hth' : w6.there w.heap.size 0 cs.toArray.size := hth1
            clear hgs hth1 hlen hopb hkeep HX hbox hres6 hgw6 hR6 hb6
            go_wp2_with (first | (go_at_call 101; refine (require_y _ _ _ rfl).mono ?_; rintro e w' ⟨rfl, hw⟩; obtain rfl := hw.symm) | (refine wpList_load_mid rfl 29 _ rfl w5.heap.size 0 rfl cs _ hrg Tryz.underlying29 rfl HI1.out ?_) | (refine wpList_store_mid rfl 29 _ _ rfl w.heap.size 0 cs.toArray rfl rfl hth' HI2.out hone ?_))
            have hld := HLD.out
            exact bodyPost_ret (v := .agg cs.toArray) (by simp [results, Tryz.results62, asAddr, Act.put, hld]) rfl HF.out
        · rw [if_neg (fun h => h3 h.2.2)] at HX
          rw [decide_eq_false h3]
          have HN : Hid (∀ e, Bad e → RecAns xs p b va w e w4) := fun e he => recAns_bad HX he hgw4
          go_wp2_with (first | (go_at_call 101; refine (require_n _ _ _ rfl).mono ?_; rintro e w' ⟨rfl, hw⟩; obtain rfl := hw.symm))
          exact ⟨rfl, HN.out _ rfl⟩

      · rw [if_neg (fun h => h2 h.2.1)] at HX
        obtain ⟨ao, cap, rfl, hrr⟩ := hr2
        rw [List.length_map] at hR2
        have hno := take_no b (q + n) 4 w2 ao xs.length cap hl (by omega) (by omega) hR2
        have HN : Hid (∀ e m, Bad e → RecAns xs p b (.slice ao xs.length cap) w e (w2.drewN m)) := fun e m he => recAns_bad HX he (grownBy_trans hgw2 (grownBy_drewN _ _ _))
        clear hrr
        go_wp2_with fail
        refine hno.mono ?_
        rintro e w9 ⟨hbad, m, rfl⟩
        have HN2 := HN.out e m hbad
        unfold Bad at hbad
        subst hbad
        exact ⟨rfl, HN2⟩
    · rw [if_neg (fun h => h1 h.1)] at HX
      obtain ⟨ao, cap, rfl, hrr⟩ := hr1
      rw [List.length_map] at hR1
      have hno := take_no b q (n : Int) w1 ao xs.length cap hl (by omega) (by omega) hR1
      have HN : Hid (∀ e m, Bad e → RecAns xs p b (.slice ao xs.length cap) w e (w1.drewN m)) := fun e m he => recAns_bad HX he (grownBy_trans hgw (grownBy_drewN _ _ _))
      clear hrr
      go_wp2_with fail
      refine hno.mono ?_
      rintro e w9 ⟨hbad, m, rfl⟩
      have HN2 := HN.out e m hbad
      unfold Bad at hbad
      subst hbad
      exact ⟨rfl, HN2⟩
end Go.Proofs.YtmmkmkaannlkhaaGreatDoor

namespace Go.Proofs.YtmmkmkaannlkhaaGreatDoor
open Go.RowKit
set_option linter.unusedVariables false

theorem recRd_step {xs : List Int} (hx : Bytes xs) {p r : Nat} {x : Ov} (h : recRd xs p = some (x, r)) : p < r ∧ r ≤ xs.length := by
  unfold recRd at h
  cases hg : getL xs p with
  | none => rw [hg] at h; cases h
  | some z =>
    obtain ⟨n, q⟩ := z
    rw [hg] at h
    simp only at h
    have hq := getL_ok hx hg
    split at h
    · rename_i hc
      split at h
      · cases h
      · simp only [Option.some.injEq, Prod.mk.injEq] at h
        omega
    · cases h
theorem opCd_ok {xs : List Int} {x : Ov} (h : opCd xs = some x) : x.ok = true := by
  unfold opCd at h
  split at h
  · cases h
  · split at h
    · split at h
      · cases h
      · split at h
        · rename_i hc
          simp only [Option.some.injEq] at h
          rw [← h]; exact hc.2.2
        · cases h
    · cases h
theorem opCd_ds {xs : List Int} {x : Ov} (h : opCd xs = some x) : x.ds.length = 16 := by
  unfold opCd at h
  split at h
  · cases h
  · split at h
    · rename_i hT
      split at h
      · cases h
      · split at h
        · simp only [Option.some.injEq] at h
          rw [← h]
          show (List.drop 9 _).length = 16
          rw [List.length_drop, hT]
        · cases h
    · cases h
theorem recRd_op {xs : List Int} {p r : Nat} {x : Ov} (h : recRd xs p = some (x, r)) : x.ok = true ∧ x.ds.length = 16 := by
  unfold recRd at h
  split at h
  · cases h
  · split at h
    · split at h
      · cases h
      · rename_i hc
        simp only [Option.some.injEq, Prod.mk.injEq] at h
        rw [← h.1]
        exact ⟨opCd_ok hc, opCd_ds hc⟩
    · cases h
theorem recRd_end {xs : List Int} (hx : Bytes xs) : recRd xs xs.length = none := by
  cases h : recRd xs xs.length with
  | none => rfl
  | some z => obtain ⟨x, r⟩ := z; have := recRd_step hx h; omega

/-- The operations of the records from a place on, and the place behind them. -/
def recsF (xs : List Int) : Nat → Nat → List Ov × Nat
  | 0, p => ([], p)
  | f + 1, p => match recRd xs p with
    | none => ([], p)
    | some (x, r) => (x :: (recsF xs f r).1, (recsF xs f r).2)
theorem recsF_more {xs : List Int} (hx : Bytes xs) : ∀ f g p, p ≤ xs.length → xs.length + 1 - p ≤ f → xs.length + 1 - p ≤ g → recsF xs f p = recsF xs g p
  | 0, _, p, hp, hf, _ => by omega
  | _ + 1, 0, p, hp, _, hg => by omega
  | f + 1, g + 1, p, hp, hf, hg => by
    unfold recsF
    cases h : recRd xs p with
    | none => rfl
    | some z =>
      obtain ⟨x, r⟩ := z
      have hr := recRd_step hx h
      simp only
      rw [recsF_more hx f g r hr.2 (by omega) (by omega)]
def recs (xs : List Int) (p : Nat) : List Ov × Nat := recsF xs (xs.length + 1 - p) p
theorem recs_none {xs : List Int} {p : Nat} (h : recRd xs p = none) : recs xs p = ([], p) := by
  unfold recs
  cases xs.length + 1 - p with
  | zero => rfl
  | succ f => unfold recsF; rw [h]
theorem recs_some {xs : List Int} (hx : Bytes xs) {p r : Nat} {x : Ov} (hp : p ≤ xs.length) (h : recRd xs p = some (x, r)) : recs xs p = (x :: (recs xs r).1, (recs xs r).2) := by
  have hr := recRd_step hx h
  unfold recs
  obtain ⟨f, hf⟩ : ∃ f, xs.length + 1 - p = f + 1 := ⟨xs.length - p, by omega⟩
  rw [hf]
  conv => lhs; unfold recsF
  rw [h]
  simp only
  rw [recsF_more hx f (xs.length + 1 - r) r hr.2 (by omega) (by omega)]
theorem recs_len {xs : List Int} (hx : Bytes xs) : ∀ n p, xs.length - p ≤ n → p ≤ xs.length → (recs xs p).1.length + p ≤ (recs xs p).2 ∧ (recs xs p).2 ≤ xs.length
  | 0, p, h, hp => by
    obtain rfl : p = xs.length := by omega
    rw [recs_none (recRd_end hx)]
    simp
  | n + 1, p, h, hp => by
    cases hr : recRd xs p with
    | none => rw [recs_none hr]; simpa using hp
    | some z =>
      obtain ⟨x, r⟩ := z
      have h1 := recRd_step hx hr
      have ih := recs_len hx n r (by omega) h1.2
      rw [recs_some hx hp hr]
      simp only [List.length_cons]
      omega
theorem recs_ops {xs : List Int} (hx : Bytes xs) : ∀ n p, xs.length - p ≤ n → p ≤ xs.length → ∀ x ∈ (recs xs p).1, x.ok = true ∧ x.ds.length = 16
  | 0, p, h, hp => by
    obtain rfl : p = xs.length := by omega
    rw [recs_none (recRd_end hx)]
    simp
  | n + 1, p, h, hp => by
    cases hr : recRd xs p with
    | none => rw [recs_none hr]; simp
    | some z =>
      obtain ⟨y, r⟩ := z
      have h1 := recRd_step hx hr
      have ih := recs_ops hx n r (by omega) h1.2
      rw [recs_some hx hp hr]
      intro x hm
      rcases List.mem_cons.1 hm with rfl | hm
      · exact recRd_op hr
      · exact ih x hm
end Go.Proofs.YtmmkmkaannlkhaaGreatDoor

namespace Go.Proofs.YtmmkmkaannlkhaaGreatDoor
open Go.RowKit
set_option linter.unusedVariables false

theorem textsLP_back {bs r : List Int} {ss : List ByteArray} {p : Nat} (h4 : ss.length ≤ 4096) (ht : tot ss ss.length ≤ 1048576) (hp : p ≤ bs.length) (h : bs.drop p = putN ss ss.length ++ r) : textsLP bs p = some (ss, p + (putN ss ss.length).length) := by
  have e := putN_from ss ss.length 0
  rw [Nat.zero_add] at e
  have h0 : bs.drop p = enc ss.length ++ (fromN ss 0 ss.length ++ r) := by
    rw [h, e, List.append_assoc]
    rfl
  unfold textsLP
  rw [getL_back (by omega) h0]
  simp only
  rw [if_neg (by omega), Int.toNat_natCast]
  have h1 := textsF_back (ss := ss) (r := r) ht ss.length 0 _ (by omega) (drop_room hp h0) (drop_more h0)
  rw [show ahead ss 0 = ByteArray.empty from rfl, show tot ss 0 = 0 from rfl, List.take_zero] at h1
  rw [h1, e]
  simp [putN]
  omega
theorem opOf_back (x : Ov) (hds : x.ds.length = 16) : opOfT (numsO x.a x.s x.t x.k x.o x.n x.u x.pt x.pa x.ds) [x.ky, x.tx] = { x with dv := .slice none 0 0 } := by
  unfold opOfT numsO
  simp only [List.cons_append, List.nil_append, List.getD_cons_zero, List.getD_cons_succ, unf_foldS]
  rfl
/-- An operation's own bytes are read back. -/
theorem opCd_back {x : Ov} (h : x.ok = true) : opCd (opByO x) = some { x with dv := .slice none 0 0 } := by
  have hF : OpFacts x.a x.s x.t x.k x.o x.n x.u x.pt x.pa x.ky x.tx x.ds := op_facts h
  have h16 : x.ds.length = 16 := (vecOK_get hF.hds).1
  have hx : Bytes (opByO x) := opBy_byte x.a x.s x.t x.k x.o x.n x.u x.pt x.pa x.ky x.tx x.ds
  rw [opCd_S hx]
  have hn := nums_len (a := x.a) (s := x.s) (t := x.t) (k := x.k) (o := x.o) (n := x.n) (u := x.u) (pt := x.pt) (pa := x.pa) h16
  have h1 : runsLP (opByO x) 0 = some (numsO x.a x.s x.t x.k x.o x.n x.u x.pt x.pa x.ds, (putR (numsO x.a x.s x.t x.k x.o x.n x.u x.pt x.pa x.ds)).length) := runsL_back (r := putN [x.ky, x.tx] 2) (by rw [hn]; omega) (nums_ok hF)
  have hd : (opByO x).drop (putR (numsO x.a x.s x.t x.k x.o x.n x.u x.pt x.pa x.ds)).length = putN [x.ky, x.tx] [x.ky, x.tx].length ++ [] := by
    unfold opByO opBy
    rw [List.drop_left, List.append_nil]
    rfl
  have hl : (opByO x).length = (putR (numsO x.a x.s x.t x.k x.o x.n x.u x.pt x.pa x.ds)).length + (putN [x.ky, x.tx] [x.ky, x.tx].length).length := by
    unfold opByO opBy
    rw [List.length_append]
    rfl
  have h2 := textsLP_back (ss := [x.ky, x.tx]) (by simp) (by have h1 := hF.hky; have h2 := hF.htx; simp [tot, txt]; omega) (by omega) hd
  unfold opSp
  rw [h1]
  simp only
  rw [h2]
  simp only
  rw [opOf_back x h16, if_pos ⟨by omega, hn, rfl, h, rfl⟩]
theorem opByO_byte (x : Ov) : Bytes (opByO x) := opBy_byte x.a x.s x.t x.k x.o x.n x.u x.pt x.pa x.ky x.tx x.ds
theorem opByO_len {x : Ov} (h : x.ok = true) : (opByO x).length ≤ 1250 := opBy_len (op_facts h)
/-- The record of an operation is read where it stands. -/
theorem recRd_back {xs R : List Int} {p : Nat} {x : Ov} (h : x.ok = true) (hp : p ≤ xs.length) (hd : xs.drop p = recOf (opByO x) ++ R) : recRd xs p = some ({ x with dv := .slice none 0 0 }, p + (recOf (opByO x)).length) := by
  have hl := opByO_len h
  have h4 : (four (sumF 2166136261 (opByO x))).length = 4 := rfl
  have hlen : (recOf (opByO x)).length = (enc (opByO x).length).length + (opByO x).length + 4 := by
    unfold recOf
    rw [List.length_append, List.length_append, h4]
  have hd0 : xs.drop p = enc (opByO x).length ++ (opByO x ++ (four (sumF 2166136261 (opByO x)) ++ R)) := by
    rw [hd]
    unfold recOf
    rw [List.append_assoc, List.append_assoc]
  have g := getL_back (by omega) hd0
  have hd1 := drop_more hd0
  have r1 := drop_room hp hd0
  have hd2 := drop_more hd1
  have r2 := drop_room r1 hd1
  have r3 := drop_room r2 hd2
  rw [h4] at r3
  unfold recRd
  rw [g]
  simp only [Int.toNat_natCast]
  rw [hd1, hd2, List.take_left, show (4 : Nat) = (four (sumF 2166136261 (opByO x))).length from rfl, List.take_left]
  rw [if_pos ⟨by omega, by rw [h4]; omega, rfl⟩, opCd_back h]
  simp only [Option.some.injEq, Prod.mk.injEq, true_and]
  rw [h4, hlen]
  omega
theorem getL_take {xs : List Int} {p c : Nat} {a : Int × Nat} (h : getL (xs.take c) p = some a) : getL xs p = some a := by
  have := getL_mono (t := xs.drop c) h
  rwa [List.take_append_drop] at this
/-- A record that is cut is none. -/
theorem recRd_cut {xs R : List Int} {p c : Nat} {x : Ov} (h : x.ok = true) (hp : p ≤ xs.length) (hd : xs.drop p = recOf (opByO x) ++ R) (hc : c < p + (recOf (opByO x)).length) : recRd (xs.take c) p = none := by
  have h4 : (four (sumF 2166136261 (opByO x))).length = 4 := rfl
  have hlen : (recOf (opByO x)).length = (enc (opByO x).length).length + (opByO x).length + 4 := by
    unfold recOf
    rw [List.length_append, List.length_append, h4]
  have hd0 : xs.drop p = enc (opByO x).length ++ (opByO x ++ (four (sumF 2166136261 (opByO x)) ++ R)) := by
    rw [hd]
    unfold recOf
    rw [List.append_assoc, List.append_assoc]
  have g := getL_back (by have := opByO_len h; omega) hd0
  unfold recRd
  cases hg : getL (xs.take c) p with
  | none => rfl
  | some z =>
    obtain ⟨n, q⟩ := z
    have := getL_take hg
    rw [g] at this
    simp only [Option.some.injEq, Prod.mk.injEq] at this
    obtain ⟨e1, e2⟩ := this
    simp only
    have hlc : (xs.take c).length ≤ c := by rw [List.length_take]; omega
    rw [if_neg]
    rintro ⟨c1, c2, _⟩
    have hn : n.toNat = (opByO x).length := by omega
    omega

/-- The records of these operations, one behind the other; where each ends. -/
def recsOf (L : List Ov) : List Int := L.flatMap fun x => recOf (opByO x)
def endOf (L : List Ov) (k : Nat) : Nat := (recsOf (L.take k)).length
theorem recsOf_byte (L : List Ov) : Bytes (recsOf L) := fun c hc => by
  obtain ⟨x, _, hx⟩ := List.mem_flatMap.1 hc
  exact recOf_byte (opByO_byte x) c hx
theorem recsOf_snoc (L : List Ov) (x : Ov) : recsOf (L ++ [x]) = recsOf L ++ recOf (opByO x) := by
  unfold recsOf
  rw [List.flatMap_append]
  simp
/-- From the end of the k-th on, in any beginning of the bytes that holds whole ones down to the j-th and is cut within the next. -/
theorem recs_back {L : List Ov} (hok : ∀ x ∈ L, x.ok = true) (c : Nat) : ∀ m k, k + m = L.length → endOf L k ≤ c → c ≤ (recsOf L).length →
    ∃ j, k ≤ j ∧ j ≤ L.length ∧ endOf L j ≤ c ∧ (j < L.length → c < endOf L (j + 1)) ∧ (recs ((recsOf L).take c) (endOf L k)).2 = endOf L j ∧ (recs ((recsOf L).take c) (endOf L k)).1.length + k = j := by
  intro m
  induction m with
  | zero =>
    intro k hk h1 h2
    have e : endOf L k = (recsOf L).length := by unfold endOf; rw [List.take_of_length_le (by omega)]
    have hc : c = (recsOf L).length := by omega
    subst hc
    rw [List.take_length, e, recs_none (recRd_end (recsOf_byte L))]
    exact ⟨k, Nat.le_refl _, by omega, by omega, fun h => absurd h (by omega), by rw [e], by simp⟩
  | succ m ih =>
    intro k hk h1 h2
    have hkl : k < L.length := by omega
    have hsp : recsOf L = recsOf (L.take k) ++ (recOf (opByO L[k]) ++ recsOf (L.drop (k + 1))) := by
      conv => lhs; rw [← List.take_append_drop k L]
      unfold recsOf
      rw [List.flatMap_append, List.drop_eq_getElem_cons hkl, List.flatMap_cons]
    have hd : (recsOf L).drop (endOf L k) = recOf (opByO L[k]) ++ recsOf (L.drop (k + 1)) := by
      rw [hsp]
      exact List.drop_left
    have hnext : endOf L (k + 1) = endOf L k + (recOf (opByO L[k])).length := by
      unfold endOf
      rw [List.take_succ_eq_append_getElem hkl, recsOf_snoc, List.length_append]
    have hkk := hok _ (List.getElem_mem hkl)
    have hle : endOf L k ≤ (recsOf L).length := by omega
    by_cases hcut : c < endOf L (k + 1)
    · have hn := recRd_cut (c := c) hkk hle hd (by omega)
      rw [recs_none hn]
      exact ⟨k, Nat.le_refl _, by omega, h1, fun _ => hcut, rfl, by simp⟩
    · have hcl : (recOf (opByO L[k])).length ≤ c - endOf L k := by omega
      have hd2 : ((recsOf L).take c).drop (endOf L k) = recOf (opByO L[k]) ++ (recsOf (L.drop (k + 1))).take (c - endOf L k - (recOf (opByO L[k])).length) := by
        rw [List.drop_take, hd, List.take_append, List.take_of_length_le hcl]
      have hlen : endOf L k ≤ ((recsOf L).take c).length := by rw [List.length_take]; omega
      have hr := recRd_back hkk hlen hd2
      have hB : Bytes ((recsOf L).take c) := fun y hy => recsOf_byte L y (List.mem_of_mem_take hy)
      rw [recs_some hB hlen hr, ← hnext]
      obtain ⟨j, j1, j2, j3, j4, j5, j6⟩ := ih (k + 1) (by omega) (by omega) h2
      refine ⟨j, by omega, j2, j3, j4, j5, ?_⟩
      simp only [List.length_cons]
      omega
end Go.Proofs.YtmmkmkaannlkhaaGreatDoor

namespace Go.Proofs.YtmmkmkaannlkhaaGreatDoor
open Go.RowKit Go.Lib
set_option linter.unusedVariables false

/-- What attempt answers with a record, and where the reader stands behind it. -/
def recA (xs : List Int) (p b : Nat) (va : Value) (N : Nat) (e : Ending) (w' : World) : Prop := match recRd xs p with
  | some (x, r) => ∃ ga, e = .returned (.tuple #[.agg (Ov.cs { x with dv := .slice (some ⟨ga, 0, none⟩) 16 16 }).toArray, .int .i64 0]) ∧ N ≤ ga ∧ ga < w'.heap.size ∧ w'.rangeAt ga 0 (x.ds.map (Value.int .i64)) ∧ w'.there ga 0 16 ∧ Rdr w' b va r ∧ r ≤ xs.length
  | none => e = .returned (.tuple #[.agg (Ov.cs ov0).toArray, .int .i64 3])

set_option maxHeartbeats 4000000 in
set_option maxRecDepth 100000 in
theorem attemptRec_any (C b p : Nat) (w : World) (va : Value) (xs : List Int) (hx : Bytes xs) (hl : xs.length ≤ 1048576) (hp : p ≤ xs.length) (hC : C ≤ b) (hb : b < w.heap.size) (hr : Rd C w va (xs.map (Value.int .u8))) (hR : Rdr w b va p) :
    Calls Tryz.prog 61 #[.pointer (some ⟨b, 0, none⟩), .func (.func 62) #[] #[]] w fun e w' => recA xs p b va w.heap.size e w' ∧ w.grownBy w' (some b) := by
  have hmf : ∀ (fn : Fn) (first cap : Array Value) (w : World), (Instr.makeFunc fn first cap).run Tryz.prog w = .ok (.func fn first cap) w := fun _ _ _ _ => rfl
  have hB : Below w.heap.size w ((w.alloc (.cells #[.int .i64 0, .int .i64 0, .int .i64 0, .slice none 0 0, .int .i64 0, .int .i64 0, .int .i64 0, .int .i64 0, .int .i64 0, .int .i64 0, .string ⟨#[]⟩, .string ⟨#[]⟩] 29)).alloc (.cells #[.int .i64 0] 3)) := (below_alloc w _).trans ((below_alloc _ _).mono (by rw [World.size_alloc]; omega))
  have hsW : ((w.alloc (.cells #[.int .i64 0, .int .i64 0, .int .i64 0, .slice none 0 0, .int .i64 0, .int .i64 0, .int .i64 0, .int .i64 0, .int .i64 0, .int .i64 0, .string ⟨#[]⟩, .string ⟨#[]⟩] 29)).alloc (.cells #[.int .i64 0] 3)).heap.size = w.heap.size + 2 := by rw [World.size_alloc, World.size_alloc]
  have hcd : ((w.alloc (.cells #[.int .i64 0, .int .i64 0, .int .i64 0, .slice none 0 0, .int .i64 0, .int .i64 0, .int .i64 0, .int .i64 0, .int .i64 0, .int .i64 0, .string ⟨#[]⟩, .string ⟨#[]⟩] 29)).alloc (.cells #[.int .i64 0] 3)).heap[w.heap.size + 1]? = some (.cells #[.int .i64 0] 3 (0, 0)) := by
    have := heap_alloc_new (w.alloc (.cells #[.int .i64 0, .int .i64 0, .int .i64 0, .slice none 0 0, .int .i64 0, .int .i64 0, .int .i64 0, .int .i64 0, .int .i64 0, .int .i64 0, .string ⟨#[]⟩, .string ⟨#[]⟩] 29)) (.cells #[.int .i64 0] 3)
    rw [World.size_alloc] at this
    exact this
  have hrs : ((w.alloc (.cells #[.int .i64 0, .int .i64 0, .int .i64 0, .slice none 0 0, .int .i64 0, .int .i64 0, .int .i64 0, .int .i64 0, .int .i64 0, .int .i64 0, .string ⟨#[]⟩, .string ⟨#[]⟩] 29)).alloc (.cells #[.int .i64 0] 3)).heap[w.heap.size]? = some (.cells #[.int .i64 0, .int .i64 0, .int .i64 0, .slice none 0 0, .int .i64 0, .int .i64 0, .int .i64 0, .int .i64 0, .int .i64 0, .int .i64 0, .string ⟨#[]⟩, .string ⟨#[]⟩] 29 (0, 0)) := ((below_alloc (w.alloc (.cells #[.int .i64 0, .int .i64 0, .int .i64 0, .slice none 0 0, .int .i64 0, .int .i64 0, .int .i64 0, .int .i64 0, .int .i64 0, .int .i64 0, .string ⟨#[]⟩, .string ⟨#[]⟩] 29)) _).block w.heap.size (by rw [World.size_alloc]; omega)).trans (heap_alloc_new w _)
  have hop := record_any C b p ((w.alloc (.cells #[.int .i64 0, .int .i64 0, .int .i64 0, .slice none 0 0, .int .i64 0, .int .i64 0, .int .i64 0, .int .i64 0, .int .i64 0, .int .i64 0, .string ⟨#[]⟩, .string ⟨#[]⟩] 29)).alloc (.cells #[.int .i64 0] 3)) va xs hx hl hp hC (by omega) (hr.below (hB.mono (by omega))) ((hB.block b hb).trans hR)
  have hgB := grownBy_below hB (Nat.le_refl _) (some b)
  clear hB hr hR
  go_enter_defers Tryz.func61, Tryz.ntmps61
  go_wp2_with fail
  refine hop.mono ?_
  rintro e w1 ⟨hn, hg⟩
  have hgw := grownBy_trans hgB hg
  have hsz := hg.size
  rw [hsW] at hsz
  have hcd1 := (hg.block (w.heap.size + 1) (by omega) (fun e => by cases e; omega)).trans hcd
  have hrs1 := (hg.block w.heap.size (by omega) (fun e => by cases e; omega)).trans hrs
  clear hop hcd hrs hgB hg
  cases hO : recRd xs p with
  | none =>
    rw [hO] at hn
    simp only at hn
    unfold Bad at hn
    subst hn
    have hc := at_cell hcd1
    have hf : w1.frozen? ⟨w.heap.size + 1, 0, none⟩ = false := blk_free hcd1 0
    refine leaves_cons (f := 97) (args := #[.pointer (some ⟨w.heap.size + 1, 0, none⟩)]) (by simp) (by simp [go_sem]) ?_
    refine (catchOp_panic ⟨w.heap.size + 1, 0, none⟩ 0 w1 hc hf).mono ?_
    rintro e u' w'' ⟨rfl, rfl, rfl⟩
    have hcell : (w1.setCell ⟨w.heap.size + 1, 0, none⟩ (.int .i64 3)).cell? ⟨w.heap.size + 1, 0, none⟩ = some (.int .i64 3) := World.cell?_setCell_same w1 _ _ hc
    have hg2 := grownBy_set w1 (w.heap.size + 1) 0 (.int .i64 3)
    have hrs2 := (hg2.block w.heap.size (by omega) (fun e => by injection e with e; omega)).trans hrs1
    have hres : w.grownBy (w1.setCell ⟨w.heap.size + 1, 0, none⟩ (.int .i64 3)) (some b) := own_writes hgw ⟨hg2.os, hg2.tape, hg2.output, hg2.size⟩ (fun k hk => hg2.block k (by omega) (fun e => by cases e; omega))
    have hrg : (w1.setCell ⟨w.heap.size + 1, 0, none⟩ (.int .i64 3)).rangeAt w.heap.size 0 ov0.cs := opBlk_range (x := ov0) hrs2
    have hld := run_loadVar_mid (P := Tryz.prog) _ w.heap.size 0 29 ov0.cs _ hrg Tryz.underlying29 rfl (infoOpB _)
    generalize w1.setCell ⟨w.heap.size + 1, 0, none⟩ (.int .i64 3) = w2 at hres hcell hld ⊢
    have hl3 : Sem.run Tryz.prog (loadVar 3 ⟨w.heap.size + 1, 0, none⟩) w2 = .ok (.int .i64 3) w2 := by simp [go_sem, hcell]
    simp [Leaves, settle, results, Tryz.results61, asAddr, hl3, hld]
    exact ⟨by unfold recA; rw [hO], hres⟩
  | some z =>
    obtain ⟨x, r⟩ := z
    rw [hO] at hn
    obtain ⟨ga, rfl, hlo, hhi, hrng, hth, hRr, hrl⟩ := hn
    rw [hsW] at hlo
    obtain ⟨cs, HCS⟩ : ∃ cs, Hid (Ov.cs { x with dv := .slice (some ⟨ga, 0, none⟩) 16 16 } = cs) := ⟨_, rfl⟩
    rw [HCS.out]
    have hlen : cs.length = 12 := by rw [← HCS.out]; rfl
    have hth1 : w1.there w.heap.size 0 cs.length := there_blk hrs1 (by rw [hlen]; simp)
    have hgs := grownBy_setCells w1 w.heap.size cs 0
    have hsz2 := hgs.size
    have hcd2 := (hgs.block (w.heap.size + 1) (by omega) (fun e => by injection e with e; omega)).trans hcd1
    have c5 : (w1.setCells w.heap.size 0 cs).cell? ⟨w.heap.size + 1, 0, none⟩ = some (.int .i64 0) := at_cell hcd2
    have f5 : (w1.setCells w.heap.size 0 cs).frozen? ⟨w.heap.size + 1, 0, none⟩ = false := blk_free hcd2 0
    have hrs2 : (w1.setCells w.heap.size 0 cs).rangeAt w.heap.size 0 cs := World.rangeAt_setCells_same _ _ _ _ hth1
    have hg3 := grownBy_set (w1.setCells w.heap.size 0 cs) (w.heap.size + 1) 0 (.int .i64 0)
    have hsz3 := hg3.size
    have hrs3 : ((w1.setCells w.heap.size 0 cs).setCell ⟨w.heap.size + 1, 0, none⟩ (.int .i64 0)).rangeAt w.heap.size 0 cs := fun j u hj => (World.cell?_of_block (w := w1.setCells w.heap.size 0 cs) (a := ⟨w.heap.size, 0 + j, none⟩) (hg3.block w.heap.size (by omega) (fun e => by injection e with e; omega))).trans (hrs2 j u hj)
    have HI1 : Hid ((Tryz.prog.info? 29).map (·.size) = some cs.length) := by rw [← HCS.out]; exact infoOpB _
    have HI2 : Hid ((Tryz.prog.info? 29).map (·.size) = some cs.toArray.size) := HI1
    have hone : cs.toArray.all (·.oneCell') = true := by rw [← HCS.out]; exact all_oneCell_toArray (cs_one _ rfl)
    have hld := run_loadVar_mid (P := Tryz.prog) _ w.heap.size 0 29 cs _ hrs3 Tryz.underlying29 rfl HI1.out
    have hcell : ((w1.setCells w.heap.size 0 cs).setCell ⟨w.heap.size + 1, 0, none⟩ (.int .i64 0)).cell? ⟨w.heap.size + 1, 0, none⟩ = some (.int .i64 0) := World.cell?_setCell_same _ _ _ c5
    have hga : ((w1.setCells w.heap.size 0 cs).setCell ⟨w.heap.size + 1, 0, none⟩ (.int .i64 0)).heap[ga]? = w1.heap[ga]? := (hg3.block ga (by omega) (fun e => by injection e with e; omega)).trans (hgs.block ga hhi (fun e => by injection e with e; omega))
    have HN : Hid (recA xs p b va w.heap.size (.returned (.tuple #[.agg cs.toArray, .int .i64 0])) ((w1.setCells w.heap.size 0 cs).setCell ⟨w.heap.size + 1, 0, none⟩ (.int .i64 0)) ∧ w.grownBy ((w1.setCells w.heap.size 0 cs).setCell ⟨w.heap.size + 1, 0, none⟩ (.int .i64 0)) (some b)) := by
      unfold Hid
      unfold recA
      rw [hO]
      refine ⟨⟨ga, by rw [← HCS.out], by omega, by omega, fun j u hj => (World.cell?_of_block (w := w1) (a := ⟨ga, 0 + j, none⟩) hga).trans (hrng j u hj), there_block hth hga, ((hg3.block b (by omega) (fun e => by injection e with e; omega)).trans (hgs.block b (by omega) (fun e => by injection e with e; omega))).trans hRr, hrl⟩, own_writes hgw ⟨hg3.os.trans hgs.os, hg3.tape.trans hgs.tape, hg3.output.trans hgs.output, by omega⟩ (fun k hk => (hg3.block k (by omega) (fun e => by injection e with e; omega)).trans (hgs.block k (by omega) (fun e => by injection e with e; omega)))⟩
    have HLD : Hid _ := hld
    have HCE : Hid _ := hcell
    have hth' : w1.there w.heap.size 0 cs.toArray.size := hth1
    clear hld hcell hga hrs3 hg3 hrs2 hcd2 hgs hth1 hlen hrng hth hcd1 hrs1 hgw
    go_wp2_with (first | (refine wpList_store_mid rfl 29 _ _ rfl w.heap.size 0 cs.toArray rfl rfl hth' HI2.out hone ?_))
    refine leaves_cons (f := 97) (args := #[.pointer (some ⟨w.heap.size + 1, 0, none⟩)]) (by simp) (by simp [go_sem]) ?_
    refine (catchOp_idle ⟨w.heap.size + 1, 0, none⟩ _).mono ?_
    rintro e u' w'' ⟨rfl, rfl, rfl⟩
    have hld := HLD.out
    have hcell := HCE.out
    have HN2 := HN.out
    generalize ((w1.setCells w.heap.size 0 cs).setCell ⟨w.heap.size + 1, 0, none⟩ (.int .i64 0)) = w2 at hld hcell HN2 ⊢
    have hl3 : Sem.run Tryz.prog (loadVar 3 ⟨w.heap.size + 1, 0, none⟩) w2 = .ok (.int .i64 0) w2 := by simp [go_sem, hcell]
    simp [Leaves, settle, results, Tryz.results61, asAddr, hl3, hld]
    exact HN2
end Go.Proofs.YtmmkmkaannlkhaaGreatDoor
