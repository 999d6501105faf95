/- The code's reading of an operation: op, whole. -/
import Derived.Deep.Cut
import Derived.Test.YtmmkmkaannlkhaaGreatDoorQSetNumsToReadOp
namespace Go.Proofs.YtmmkmkaannlkhaaGreatDoor
open Go.RowKit Go.Lib
set_option linter.unusedVariables false

/-- What is held while an operation is read: the reader, the bytes, the block of the answer. -/
structure Ro (w wz : World) (C b : Nat) (va : Value) (xs : List Int) (q ob ga : Nat) : Prop where
  rdr : Rdr wz b va q
  rd : Rd C wz va (xs.map (Value.int .u8))
  res : wz.heap[w.heap.size]? = some (.cells #[.int .i64 0, .int .i64 0, .int .i64 0, .slice none 0 0, .int .i64 0, .int .i64 0, .int .i64 0, .int .i64 0, .int .i64 0, .int .i64 0, .string ByteArray.empty, .string ByteArray.empty] 29 (0, 0))
  gr : w.grownBy wz (some b)
  lo : w.heap.size < ob ∧ w.heap.size < ga
  hi : ob < wz.heap.size ∧ ga < wz.heap.size
  hb : b < w.heap.size
  hC : C ≤ b
theorem Ro.below {w wz w' : World} {C b : Nat} {va : Value} {xs : List Int} {q ob ga : Nat} (h : Ro w wz C b va xs q ob ga) (hb : Below wz.heap.size wz w') : Ro w w' C b va xs q ob ga := by
  have hs := hb.size
  have h1 := h.gr.size
  have h2 := h.hb
  have h3 := h.hC
  have h4 := h.hi
  have h5 := h.lo
  exact ⟨(hb.block b (by omega)).trans h.rdr, h.rd.below (hb.mono (by omega)), (hb.block w.heap.size (by omega)).trans h.res, grownBy_trans h.gr (grownBy_below hb (Nat.le_refl _) (some b)), h5, ⟨by omega, by omega⟩, h2, h3⟩
theorem Ro.next {w wz w' : World} {C b : Nat} {va : Value} {xs : List Int} {q q' ob ga : Nat} (h : Ro w wz C b va xs q ob ga) (hR : Rdr w' b va q') (hg : wz.grownBy w' (some b)) : Ro w w' C b va xs q' ob ga := by
  have hs := hg.size
  have h1 := h.gr.size
  have h2 := h.hb
  have h3 := h.hC
  have h4 := h.hi
  have h5 := h.lo
  exact ⟨hR, h.rd.grown hg (fun k hk => by cases hk; exact h3), (hg.block w.heap.size (by omega) (fun e => by cases e; omega)).trans h.res, grownBy_trans h.gr hg, h5, ⟨by omega, by omega⟩, h2, h3⟩
theorem Ro.only {w wz w' : World} {C b : Nat} {va : Value} {xs : List Int} {q ob ga : Nat} {pb : Nat → Nat} (h : Ro w wz C b va xs q ob ga) (ho : OnlyB pb wz w') (hp : ∀ i, pb i = ob ∨ pb i = ga) : Ro w w' C b va xs q ob ga := by
  have hs := ho.size
  have h1 := h.gr.size
  have h2 := h.hb
  have h3 := h.hC
  have h4 := h.hi
  have h5 := h.lo
  have hlow : ∀ g, g ≤ w.heap.size → w'.heap[g]? = wz.heap[g]? := fun g hg => ho.block g (fun i e => by rcases hp i with h | h <;> omega)
  exact ⟨(hlow b (by omega)).trans h.rdr, h.rd.below ⟨ho.os, ho.tape, ho.output, ho.size, fun k hk => hlow k (by omega)⟩, (hlow _ (Nat.le_refl _)).trans h.res, ⟨ho.os.trans h.gr.os, ho.tape.trans h.gr.tape, ho.output.trans h.gr.output, Nat.le_trans h1 hs, fun k hk hne => (hlow k (by omega)).trans (h.gr.block k hk hne)⟩, h5, ⟨by omega, by omega⟩, h2, h3⟩
theorem Sn.below {T : List Int} {ob ga : Nat} {ks : List Nat} {i : Nat} {wz w' : World} (h : Sn T ob ga ks i wz) (hs : ∀ g, (g = ob ∨ g = ga ∨ g ∈ ks) → w'.heap[g]? = wz.heap[g]?) : Sn T ob ga ks i w' := by
  have ho := hs ob (.inl rfl)
  have ha := hs ga (.inr (.inl rfl))
  refine ⟨ho.trans h.op, h.ne, fun j u hj => (World.cell?_of_block (w := wz) (a := ⟨ga, 0 + j, none⟩) ha).trans (h.rng j u hj), fun j hj => ?_, fun a k hk => ?_⟩
  · have := h.th j hj
    rw [World.cell?_of_block (w := wz) (a := ⟨ga, 0 + j, none⟩) ha]
    refine ⟨this.1, ?_⟩
    have h2 := this.2
    unfold World.frozen? at h2 ⊢
    rw [show w'.heap[(⟨ga, 0 + j, none⟩ : Addr).block]? = wz.heap[(⟨ga, 0 + j, none⟩ : Addr).block]? from ha]
    exact h2
  · obtain ⟨h1, h2, h3⟩ := h.acts a k hk
    exact ⟨(World.cell?_of_block (w := wz) (a := ⟨k, 0, none⟩) (hs k (.inr (.inr (List.mem_of_getElem? hk))))).trans h1, h2, h3⟩

/-- An operation in a box, and what it counts. -/
structure So (w : World) (ob ga : Nat) (x : Ov) : Prop where
  op : OpBlk w ob x
  rng : w.rangeAt ga 0 (x.ds.map (Value.int .i64))
  th : w.there ga 0 16
theorem So.keep {w w' : World} {ob ga : Nat} {x : Ov} (h : So w ob ga x) (h1 : w'.heap[ob]? = w.heap[ob]?) (h2 : w'.heap[ga]? = w.heap[ga]?) : So w' ob ga x :=
  ⟨h1.trans h.op, fun j u hj => (World.cell?_of_block (w := w) (a := ⟨ga, 0 + j, none⟩) h2).trans (h.rng j u hj), there_block h.th h2⟩
theorem So.setN {w : World} {ob ga : Nat} {x : Ov} (h : So w ob ga x) (hne : ob ≠ ga) (u : Int) : So (w.setCell ⟨ob, 6, none⟩ (.int .i64 u)) ob ga { x with n := u } := by
  have h2 : (w.setCell ⟨ob, 6, none⟩ (.int .i64 u)).heap[ga]? = w.heap[ga]? := heap_setCell_other w ⟨ob, 6, none⟩ ga _ (Ne.symm hne)
  exact ⟨h.op.put 6 _ rfl, fun j v hj => (World.cell?_of_block (w := w) (a := ⟨ga, 0 + j, none⟩) h2).trans (h.rng j v hj), there_block h.th h2⟩
theorem opK_done {T : List Int} {S : List ByteArray} {ga : Nat} (hT : T.length = 25) : { txK (opK T ga 25) S 2 with n := unf (T.getD 5 0) } = { opOfT T S with dv := .slice (some ⟨ga, 0, none⟩) 16 16 } := by
  have hd : (List.range 16).map (fun j => fK T 25 (9 + j)) = T.drop 9 := by
    refine List.ext_getElem? fun j => ?_
    rw [List.getElem?_map, List.getElem?_drop]
    by_cases hj : j < 16
    · rw [List.getElem?_range hj]
      show some (fK T 25 (9 + j)) = _
      rw [fK_in (by omega), List.getD_eq_getElem?_getD, List.getElem?_eq_getElem (by omega)]
      rfl
    · rw [List.getElem?_eq_none (by simpa using hj), List.getElem?_eq_none (by omega)]
      rfl
  unfold txK opK opOfT
  simp only [hd, fK_in (T := T) (i := 25) (j := 0) (by omega), fK_in (T := T) (i := 25) (j := 1) (by omega), fK_in (T := T) (i := 25) (j := 2) (by omega), fK_in (T := T) (i := 25) (j := 3) (by omega), fK_in (T := T) (i := 25) (j := 4) (by omega), fK_in (T := T) (i := 25) (j := 6) (by omega), fK_in (T := T) (i := 25) (j := 7) (by omega), fK_in (T := T) (i := 25) (j := 8) (by omega)]
  rfl

set_option maxHeartbeats 4000000 in
set_option maxRecDepth 100000 in
theorem op_any (C b : Nat) (w : World) (va : Value) (xs : List Int) (hx : Bytes xs) (hl : xs.length ≤ 1048576) (hC : C ≤ b) (hb : b < w.heap.size) (hr : Rd C w va (xs.map (Value.int .u8))) (hR : Rdr w b va 0) :
    Calls Tryz.prog 104 #[.pointer (some ⟨b, 0, none⟩)] w (OpAns xs b va w) := by
  have hba := below_alloc w (.cells #[.int .i64 0, .int .i64 0, .int .i64 0, .slice none 0 0, .int .i64 0, .int .i64 0, .int .i64 0, .int .i64 0, .int .i64 0, .int .i64 0, .string ByteArray.empty, .string ByteArray.empty] 29)
  have hR0 : (w.alloc (.cells #[.int .i64 0, .int .i64 0, .int .i64 0, .slice none 0 0, .int .i64 0, .int .i64 0, .int .i64 0, .int .i64 0, .int .i64 0, .int .i64 0, .string ByteArray.empty, .string ByteArray.empty] 29)).heap[w.heap.size]? = some (.cells #[.int .i64 0, .int .i64 0, .int .i64 0, .slice none 0 0, .int .i64 0, .int .i64 0, .int .i64 0, .int .i64 0, .int .i64 0, .int .i64 0, .string ByteArray.empty, .string ByteArray.empty] 29 (0, 0)) := heap_alloc_new w _
  have hs0 : (w.alloc (.cells #[.int .i64 0, .int .i64 0, .int .i64 0, .slice none 0 0, .int .i64 0, .int .i64 0, .int .i64 0, .int .i64 0, .int .i64 0, .int .i64 0, .string ByteArray.empty, .string ByteArray.empty] 29)).heap.size = w.heap.size + 1 := World.size_alloc _ _
  have hno := newOps_any (w.alloc (.cells #[.int .i64 0, .int .i64 0, .int .i64 0, .slice none 0 0, .int .i64 0, .int .i64 0, .int .i64 0, .int .i64 0, .int .i64 0, .int .i64 0, .string ByteArray.empty, .string ByteArray.empty] 29)) 1 (by omega)
  rw [hs0, show ((1 : Nat) : Int) = 1 from rfl] at hno
  go_enter Tryz.func104, Tryz.ntmps104
  go_wp2_with fail
  refine hno.mono ?_
  rintro e w1 ⟨ga, rfl, hAr, hb1⟩
  have hs1 := hb1.size
  have hlo' := hAr.lo'
  have hi' := hAr.hi'
  have hat := hAr.row 0 (by rw [zL_len]; omega)
  have hrn := hAr.are 0 (by rw [zL_len]; omega)
  have hth := hAr.ath
  rw [zL_at ga 1 (by omega)] at hat hrn
  rw [zL_len] at hth
  simp only [Nat.zero_mul, Nat.one_mul] at hat hrn hth
  obtain ⟨c0, c1, c2, c3, c4, c5, c6, c7, c8, c9, c10, c11⟩ := hat
  simp only [zOp, Nat.zero_add] at c0 c1 c2 c3 c4 c5 c6 c7 c8 c9 c10 c11 hrn
  have hb01 : Below w.heap.size w w1 := hba.trans (hb1.mono (by omega))
  have hro : Ro w (w1.alloc (.cells #[.int .i64 0, .int .i64 0, .int .i64 0, .slice (some ⟨ga, 0, none⟩) 16 16, .int .i64 0, .int .i64 0, .int .i64 0, .int .i64 0, .int .i64 0, .int .i64 0, .string ByteArray.empty, .string ByteArray.empty] 29)) C b va xs 0 w1.heap.size ga := by
    have h2 := below_alloc w1 (.cells #[.int .i64 0, .int .i64 0, .int .i64 0, .slice (some ⟨ga, 0, none⟩) 16 16, .int .i64 0, .int .i64 0, .int .i64 0, .int .i64 0, .int .i64 0, .int .i64 0, .string ByteArray.empty, .string ByteArray.empty] 29)
    have h3 := hb01.trans (h2.mono hb01.size)
    refine ⟨(h3.block b hb).trans hR, hr.below (h3.mono (by omega)), ?_, grownBy_below h3 (Nat.le_refl _) _, ⟨by omega, by omega⟩, ⟨by rw [World.size_alloc]; omega, by rw [World.size_alloc]; omega⟩, hb, hC⟩
    exact (h2.block _ (by omega)).trans ((hb1.block _ (by omega)).trans hR0)
  have hop : OpBlk (w1.alloc (.cells #[.int .i64 0, .int .i64 0, .int .i64 0, .slice (some ⟨ga, 0, none⟩) 16 16, .int .i64 0, .int .i64 0, .int .i64 0, .int .i64 0, .int .i64 0, .int .i64 0, .string ByteArray.empty, .string ByteArray.empty] 29)) w1.heap.size (opK [] ga 0) := heap_alloc_new w1 _
  have hrg : (w1.alloc (.cells #[.int .i64 0, .int .i64 0, .int .i64 0, .slice (some ⟨ga, 0, none⟩) 16 16, .int .i64 0, .int .i64 0, .int .i64 0, .int .i64 0, .int .i64 0, .int .i64 0, .string ByteArray.empty, .string ByteArray.empty] 29)).rangeAt ga 0 ((List.replicate 16 (0 : Int)).map (Value.int .i64)) := fun j u hj => ((below_alloc w1 _).cell (p := ⟨ga, 0 + j, none⟩) hi').trans (hrn j u hj)
  have hth2 : (w1.alloc (.cells #[.int .i64 0, .int .i64 0, .int .i64 0, .slice (some ⟨ga, 0, none⟩) 16 16, .int .i64 0, .int .i64 0, .int .i64 0, .int .i64 0, .int .i64 0, .int .i64 0, .string ByteArray.empty, .string ByteArray.empty] 29)).there ga 0 16 := there_block hth ((below_alloc w1 _).block ga hi')
  have hne : w1.heap.size ≠ ga := by omega
  clear hno hAr hba hR0 hs0 hrn hth hR hr hb1 hb01
  go_upto_region 2 with fail
  clear c0 c1 c2 c3 c4 c5 c6 c7 c8 c9 c10 c11
  generalize (w1.alloc (.cells #[.int .i64 0, .int .i64 0, .int .i64 0, .slice (some ⟨ga, 0, none⟩) 16 16, .int .i64 0, .int .i64 0, .int .i64 0, .int .i64 0, .int .i64 0, .int .i64 0, .string ByteArray.empty, .string ByteArray.empty] 29)) = w2 at *
  generalize w1.heap.size = ob at *
  have hnu := opNumbers_any w2
  go_wp2_with fail
  refine hnu.mono ?_
  rintro e w3 ⟨fv, ks, rfl, hkl, hfo, hac, hb3⟩
  have hr3 := hro.below hb3
  have hop3 := (hb3.block ob hro.hi.1).trans hop
  have hrg3 : w3.rangeAt ga 0 ((List.replicate 16 (0 : Int)).map (Value.int .i64)) := fun j u hj => (hb3.cell (p := ⟨ga, 0 + j, none⟩) hro.hi.2).trans (hrg j u hj)
  have hth3 := there_block hth2 (hb3.block ga hro.hi.2)
  have hhi := hro.hi
  have hrn := runsP_any C b w3 va xs 0 hx hl (Nat.zero_le _) hC (by have := hr3.gr.size; omega) hr3.rd hr3.rdr
  clear hnu hop hrg hth2 hro hb3
  go_wp2_with fail
  refine hrn.mono ?_
  rintro e w4 ⟨hn, hg4⟩
  have hs4 := hg4.size
  unfold runsRP at hn
  have HQ : Hid (runsILP xs 0 = runsCP xs 0) := rfl
  rw [HQ.out] at hn
  cases hG : runsCP xs 0 with
  | none =>
    rw [hG] at hn
    have HN : Hid (OpAns xs b va w e w4) := opAns_bad (by unfold opRd; rw [hG]) hn (grownBy_trans hr3.gr hg4)
    unfold Bad at hn
    subst hn
    exact ⟨rfl, HN.out⟩
  | some z =>
    obtain ⟨T, q⟩ := z
    rw [hG] at hn
    obtain ⟨vv, rfl, hvo, hT4, hq, hR4⟩ := hn
    have hr4 := hr3.next hR4 hg4
    obtain ⟨fa, fc, hfe, hfz⟩ := hfo.slice
    obtain ⟨ta, tc, hte, htz⟩ := hvo.slice
    have hfl : (plainF ++ ks.map cntF).length = 25 := by rw [List.length_append, List.length_map, hkl]; rfl
    rw [hfl] at hfe hfz
    rw [List.length_map] at hte htz
    by_cases hT : T.length = 25
    · obtain ⟨gf, rfl⟩ := hfz (by omega)
      obtain ⟨gt, rfl⟩ := htz (by omega)
      have hgf := hfo.lt gf (by rw [hfe]; rfl)
      have hgf2 := hfo.blk gf (by rw [hfe]; rfl)
      have hgt := hvo.lt gt (by rw [hte]; rfl)
      have hbw := hr3.hb
      have hgrw := hr3.gr.size
      have hlo3 := hr3.lo
      have hsn : Sn T ob ga ks 0 w4 := by
        refine ⟨(hg4.block ob (by omega) (fun e => by cases e; omega)).trans hop3, hne, fun j u hj => ?_, there_block hth3 (hg4.block ga (by omega) (fun e => by cases e; omega)), fun a k hk => ?_⟩
        · exact (World.cell?_of_block (w := w3) (a := ⟨ga, 0 + j, none⟩) (hg4.block ga (by omega) (fun e => by cases e; omega))).trans (hrg3 j u hj)
        · obtain ⟨h1, h2⟩ := hac a k hk
          have h3 := (Array.getElem?_eq_some_iff.1 h2).1
          exact ⟨blk_cell ((hg4.block k h3 (fun e => by cases e; omega)).trans h2) 0 rfl, by omega, by omega⟩
      have hsf := setNums_any b ob ga w4.heap.size ks w4 fv vv T hkl ((hfo.apart hg4 (fun k hk => by cases hk; omega)).rd) hvo.rd (Nat.le_refl _) hT (fun g hg => by
        rw [hfe, hte] at hg
        simp only [Value.ownBlock, Option.some.injEq] at hg
        rcases hg with rfl | rfl
        · exact ⟨by omega, by omega⟩
        · exact ⟨by omega, by omega⟩) hsn
      have HX : Hid (opRd xs = match textsLP xs q with
        | none => none
        | some (S, r) => if S.length = 2 ∧ (opOfT T S).ok = true then some (opOfT T S, r) else none) := by
        unfold Hid opRd
        rw [hG]
        simp only
        rw [if_pos hT]
        cases textsLP xs q <;> rfl
      have HT5 : Hid (0 ≤ T.getD 5 0 ∧ T.getD 5 0 ≤ 4611686018427387903) := by
        have hok := (runsLP_ok hx (((runsC_iff hx 0 T q).1 hG).1)).2.1
        have h1 := runs_nonneg hok (k := 5) (by omega)
        have h2 : T.getD 5 0 ≤ 1152921504606846975 := (runsOK_nth hok 5).2
        exact ⟨h1, by omega⟩
      have HTL : Hid (T.length = 25) := hT
      clear hfo hvo hfe hte hgf hgf2 hgt hsn hop3 hrg3 hth3 hac hr3 hG hT4 HQ hT hfl hg4
      go_wp2_with fail
      refine hsf.mono ?_
      rintro e w5 ⟨rfl, hs5, ho5⟩
      have hr5 := hr4.only ho5 (fun i => by unfold pbK; split <;> simp)
      have hS5 : So w5 ob ga (opK T ga 25) := ⟨hs5.op, hs5.rng, hs5.th⟩
      clear hsf hs5 ho5 hr4
      have hot := opTexts_any w5
      have hft := own_lit w5 148 textF 2 rfl (by unfold maxLen; omega)
      have hb6 := below_alloc w5 (.cells textF.toArray 148)
      go_wp2_with fail
      refine hot.mono ?_
      rintro e w6 ⟨rfl, hw6⟩
      rw [← hw6] at hft hb6
      have hr6 := hr5.below hb6
      have hS6 := hS5.keep (hb6.block ob hr5.hi.1) (hb6.block ga hr5.hi.2)
      have hhi5 := hr5.hi
      have hhi6 := hr6.hi
      have hsz6 : w5.heap.size ≤ w6.heap.size := hb6.size
      have htx := textsP_any C b w6 va xs q hx hl hq hC (by omega) hr6.rd hr6.rdr
      clear hw6 hb6 hot hr5 hS5
      go_wp2_with fail
      refine htx.mono ?_
      rintro e w7 ⟨hn, hg7⟩
      have hS7 := hS6.keep (hg7.block ob hhi6.1 (fun e => by cases e; omega)) (hg7.block ga hhi6.2 (fun e => by cases e; omega))
      have hft7 := hft.apart hg7 (fun k hk => by cases hk; omega)
      have hgr7 := grownBy_trans hr6.gr hg7
      unfold textsRP at hn
      have HX2 := HX.out
      cases hG2 : textsLP xs q with
      | none =>
        rw [hG2] at hn HX2
        have HN : Hid (OpAns xs b va w e w7) := opAns_bad HX2 hn hgr7
        unfold Bad at hn
        subst hn
        exact ⟨rfl, HN.out⟩
      | some z =>
        obtain ⟨S, r⟩ := z
        rw [hG2] at hn HX2
        simp only at HX2
        obtain ⟨vv2, rfl, hvo2, hSl, hrl, hR7⟩ := hn
        have hr7 := hr6.next hR7 hg7
        obtain ⟨sa, sc, hse, hsz⟩ := hvo2.slice
        rw [List.length_map] at hse
        clear HX htx hft hr6 hS6 hg7 hG2 hsz
        by_cases hS : S.length = 2
        · have hsg := hvo2.lt
          have hst := setTexts_any b ob w7.heap.size w7 (.slice (some ⟨w5.heap.size, 0, none⟩) 2 2) vv2 (opK T ga 25) S hft7.rd hvo2.rd (Nat.le_refl _) hS (fun g hg => by
            rcases hg with hg | hg
            · simp only [Value.ownBlock, Option.some.injEq] at hg
              omega
            · have := hsg g hg
              omega) hS7.op
          clear hse hft7 hvo2 hsg
          go_wp2_with fail
          refine hst.mono ?_
          rintro e w8 ⟨rfl, hop8, ho8⟩
          have hr8 := hr7.only ho8 (fun _ => .inl rfl)
          have hS8 : So w8 ob ga (txK (opK T ga 25) S 2) := by
            have hbg := ho8.block ga (fun _ => Ne.symm hne)
            exact ⟨hop8, fun j u hj => (World.cell?_of_block (w := w7) (a := ⟨ga, 0 + j, none⟩) hbg).trans (hS7.rng j u hj), there_block hS7.th hbg⟩
          have c6 : w8.cell? ⟨ob, 6, none⟩ = some (.int .i64 (T.getD 5 0)) := hop8.at 6 rfl
          have f6 : w8.frozen? ⟨ob, 6, none⟩ = false := hop8.free 6
          have hus := unfoldSign_any (T.getD 5 0).toNat (by have := HT5.out; omega) w8
          rw [Int.toNat_of_nonneg HT5.out.1] at hus
          have hS9 : So (w8.setCell ⟨ob, 6, none⟩ (.int .i64 (unf (T.getD 5 0)))) ob ga { opOfT T S with dv := .slice (some ⟨ga, 0, none⟩) 16 16 } := by
            have := hS8.setN hne (unf (T.getD 5 0))
            rwa [opK_done HTL.out] at this
          have hr9 : Ro w (w8.setCell ⟨ob, 6, none⟩ (.int .i64 (unf (T.getD 5 0)))) C b va xs r ob ga := hr8.only (OnlyB.set (pb := fun _ => ob) (OnlyB.refl _ _) 0 6 _) (fun _ => .inl rfl)
          have HDL : Hid ((opOfT T S).ds.length = 16) := by
            have := HTL.out
            show (T.drop 9).length = 16
            rw [List.length_drop]
            omega
          clear hst hop8 ho8 hr7 hS7 hr8 hS8 HT5 HTL
          generalize T.getD 5 0 = t5 at *
          generalize unf t5 = u5 at *
          go_wp2_with fail
          refine hus.mono ?_
          rintro e w8' ⟨rfl, hw8⟩
          obtain rfl := hw8.symm
          go_upto_region 5 with fail
          clear c6 f6 hus
          generalize w8.setCell ⟨ob, 6, none⟩ (.int .i64 u5) = w9 at *
          generalize opOfT T S = X at *
          obtain ⟨xa, xb, xt, xd, xk, xo, xn, xu, xpt, xpa, xky, xtx, ds⟩ := X
          have hrg : w9.rangeAt ob 0 (Ov.cs (⟨xa, xb, xt, .slice (some ⟨ga, 0, none⟩) 16 16, xk, xo, xn, xu, xpt, xpa, xky, xtx, ds⟩ : Ov)) := opBlk_range hS9.op
          have hrd : Rd w9.heap.size w9 (.slice (some ⟨ga, 0, none⟩) 16 16) (ds.map (Value.int .i64)) := by
            have hl16 := HDL.out
            simp only at hl16
            exact ⟨some ⟨ga, 0, none⟩, 16, by rw [List.length_map, hl16], by rw [List.length_map, hl16]; omega, by unfold maxLen; omega, (fun h => by cases h), fun _ => ⟨ga, 0, rfl, hr9.hi.2, hS9.rng⟩⟩
          have hok : Calls Tryz.prog 10 #[.agg (Ov.cs (⟨xa, xb, xt, .slice (some ⟨ga, 0, none⟩) 16 16, xk, xo, xn, xu, xpt, xpa, xky, xtx, ds⟩ : Ov)).toArray] w9 fun e w' => e = .returned (.bool (opB xa xb xt xk xo xn xu xpt xpa xky xtx ds)) ∧ Below w9.heap.size w9 w' := opOK_any w9.heap.size xa xb xt xk xo xn xu xpt xpa (.slice (some ⟨ga, 0, none⟩) 16 16) xky xtx ds w9 (Nat.le_refl _) hrd
          have HI1 : Hid ((Tryz.prog.info? 29).map (·.size) = some (Ov.cs (⟨xa, xb, xt, .slice (some ⟨ga, 0, none⟩) 16 16, xk, xo, xn, xu, xpt, xpa, xky, xtx, ds⟩ : Ov)).length) := infoOpB _
          have HI2 : Hid ((Tryz.prog.info? 29).map (·.size) = some (Ov.cs (⟨xa, xb, xt, .slice (some ⟨ga, 0, none⟩) 16 16, xk, xo, xn, xu, xpt, xpa, xky, xtx, ds⟩ : Ov)).toArray.size) := infoOpB _
          have hone : (Ov.cs (⟨xa, xb, xt, .slice (some ⟨ga, 0, none⟩) 16 16, xk, xo, xn, xu, xpt, xpa, xky, xtx, ds⟩ : Ov)).toArray.all (·.oneCell') = true := all_oneCell_toArray (cs_one (⟨xa, xb, xt, .slice (some ⟨ga, 0, none⟩) 16 16, xk, xo, xn, xu, xpt, xpa, xky, xtx, ds⟩ : Ov) rfl)
          have hlen : (Ov.cs (⟨xa, xb, xt, .slice (some ⟨ga, 0, none⟩) 16 16, xk, xo, xn, xu, xpt, xpa, xky, xtx, ds⟩ : Ov)).length = 12 := rfl
          obtain ⟨cs, HCS⟩ : ∃ cs, Hid (Ov.cs (⟨xa, xb, xt, .slice (some ⟨ga, 0, none⟩) 16 16, xk, xo, xn, xu, xpt, xpa, xky, xtx, ds⟩ : Ov) = cs) := ⟨_, rfl⟩
          rw [HCS.out] at hrg hok HI1 HI2 hone hlen
          go_wp2_with (first | (refine wpList_load_mid rfl 29 _ rfl ob 0 rfl cs _ hrg Tryz.underlying29 rfl HI1.out ?_))
          refine hok.mono ?_
          rintro e w10 ⟨rfl, hb10⟩
          have hr10 := hr9.below hb10
          have hS10 := hS9.keep (hb10.block ob hr9.hi.1) (hb10.block ga hr9.hi.2)
          clear hrg hok hb10 hr9 hS9 hrd
          cases hB : opB xa xb xt xk xo xn xu xpt xpa xky xtx ds with
          | false =>
            have HN : Hid (∀ e, Bad e → OpAns xs b va w e w10) := fun e he => opAns_bad (by rw [HX2]; exact if_neg (fun h => by have h2 := h.2; unfold Ov.ok at h2; simp only at h2; rw [hB] at h2; cases h2)) he hr10.gr
            go_wp2_with (first | (go_at_call 101; refine (require_n _ _ _ rfl).mono ?_; rintro e w' ⟨rfl, hw⟩; obtain rfl := hw.symm))
            exact ⟨rfl, HN.out _ rfl⟩
          | true =>
            have hX3 : opRd xs = some ((⟨xa, xb, xt, xd, xk, xo, xn, xu, xpt, xpa, xky, xtx, ds⟩ : Ov), r) := by
              rw [HX2]
              exact if_pos ⟨hS, hB⟩
            have hgs := grownBy_setCells w10 w.heap.size cs 0
            have hlo10 := hr10.lo
            have hhi10 := hr10.hi
            have hga := hgs.block ga hhi10.2 (fun e => by cases e; omega)
            have HF : Hid (OpAns xs b va w (.returned (.agg cs.toArray)) (w10.setCells w.heap.size 0 cs)) := by
              unfold Hid OpAns
              rw [hX3]
              have hsz := hgs.size
              have hg := hr10.gr
              refine ⟨⟨ga, by rw [← HCS.out], by omega, by omega, fun j u hj => (World.cell?_of_block (w := w10) (a := ⟨ga, 0 + j, none⟩) hga).trans (hS10.rng j u hj), there_block hS10.th hga, (hgs.block b (by omega) (fun e => by cases e; omega)).trans hr10.rdr, hrl⟩, ⟨hgs.os.trans hg.os, hgs.tape.trans hg.tape, hgs.output.trans hg.output, Nat.le_trans hg.size hsz, fun k hk hne => (hgs.block k (by have := hg.size; omega) (fun e => by cases e; omega)).trans (hg.block k hk hne)⟩⟩
            have hrg10 : w10.rangeAt ob 0 cs := by
              have := opBlk_range hS10.op
              rwa [← HCS.out]
            have hth : w10.there w.heap.size 0 cs.length := there_blk hr10.res (by rw [hlen]; simp)
            have hrs : (w10.setCells w.heap.size 0 cs).rangeAt w.heap.size 0 cs := World.rangeAt_setCells_same _ _ _ _ hth
            have hth' : w10.there w.heap.size 0 cs.toArray.size := hth
            clear hth hlen hgs hga hX3 HX2 hS10 hr10
            have hld := run_loadVar_mid (P := Tryz.prog) _ w.heap.size 0 29 cs _ hrs Tryz.underlying29 rfl HI1.out
            have HLD : Hid _ := hld
            clear hld hrs
            go_wp2_with (first | (go_at_call 101; refine (require_y _ _ _ rfl).mono ?_; rintro e w' ⟨rfl, hw⟩; obtain rfl := hw.symm) | (refine wpList_load_mid rfl 29 _ rfl ob 0 rfl cs _ hrg10 Tryz.underlying29 rfl HI1.out ?_) | (refine wpList_store_mid rfl 29 _ _ rfl w.heap.size 0 cs.toArray rfl rfl hth' HI2.out hone ?_))
            have hld := HLD.out
            exact bodyPost_ret (v := .agg cs.toArray) (by simp [results, Tryz.results104, asAddr, Act.put, hld]) rfl HF.out
        · have hst := setFieldsT_bad b ob 2 2 S.length sc w7 (some ⟨w5.heap.size, 0, none⟩) sa hS
          rw [← hse] at hst
          rw [if_neg (fun h => hS h.1)] at HX2
          have HN : Hid (∀ e, Bad e → OpAns xs b va w e w7) := fun e he => opAns_bad HX2 he hgr7
          clear hse
          go_wp2_with fail
          refine hst.mono ?_
          rintro e w8 ⟨hbad, hw8⟩
          obtain rfl := hw8.symm
          have HN2 := HN.out e hbad
          unfold Bad at hbad
          subst hbad
          exact ⟨rfl, HN2⟩
    · have hsf := setFieldsI_bad b ob 25 fc T.length tc w4 fa ta hT
      rw [← hfe, ← hte] at hsf
      have HN : Hid (∀ e, Bad e → OpAns xs b va w e w4) := fun e he => opAns_bad (by unfold opRd; rw [hG]; simp only; rw [if_neg hT]) he hr4.gr
      clear hfe hte
      go_wp2_with fail
      refine hsf.mono ?_
      rintro e w5 ⟨hbad, hw5⟩
      obtain rfl := hw5.symm
      have HN2 := HN.out e hbad
      unfold Bad at hbad
      subst hbad
      exact ⟨rfl, HN2⟩
end Go.Proofs.YtmmkmkaannlkhaaGreatDoor
