/- The code's setFields of an operation's twenty-five numbers and two texts, into a new operation. The code's reading of an operation. -/
import Derived.Test.YtmmkmkaannlkhaaGreatDoorQSetFields
import Derived.Test.YtmmkmkaannlkhaaGreatDoorQOpNumsToRdCut
import Derived.Test.YtmmkmkaannlkhaaGreatDoorQMarkOpsToCopyOps
import Derived.Test.YtmmkmkaannlkhaaGreatDoorQDrawMake
import Derived.Test.YtmmkmkaannlkhaaGreatDoorQRecMath
import Derived.Test.YtmmkmkaannlkhaaGreatDoorQTextsImplToAttemptRuns
import Derived.Test.YtmmkmkaannlkhaaGreatDoorQOpOKToUndoDef
namespace Go.Proofs.YtmmkmkaannlkhaaGreatDoor
open Go.RowKit
set_option linter.unusedVariables false

/-- The number at place j, once i of them are set. -/
def fK (T : List Int) (i j : Nat) : Int := if j < i then T.getD j 0 else 0
/-- A new operation of which i numbers are set. -/
def opK (T : List Int) (ga i : Nat) : Ov := ⟨fK T i 0, fK T i 1, fK T i 2, .slice (some ⟨ga, 0, none⟩) 16 16, fK T i 3, fK T i 4, fK T i 5, fK T i 6, fK T i 7, fK T i 8, ByteArray.empty, ByteArray.empty, (List.range 16).map fun j => fK T i (9 + j)⟩
def pbK (ob ga i : Nat) : Nat := if i < 9 then ob else ga
def poK (i : Nat) : Nat := if i < 3 then i else if i < 9 then i + 1 else i - 9
theorem fK_in {T : List Int} {i j : Nat} (h : j < i) : fK T i j = T.getD j 0 := if_pos h
theorem fK_out {T : List Int} {i j : Nat} (h : ¬ j < i) : fK T i j = 0 := if_neg h
theorem fK_step (T : List Int) (i j : Nat) (h : j ≠ i) : fK T (i + 1) j = fK T i j := by
  unfold fK
  by_cases h1 : j < i
  · rw [if_pos h1, if_pos (by omega)]
  · rw [if_neg h1, if_neg (by omega)]
/-- What is held while the numbers are set. -/
structure Sn (T : List Int) (ob ga : Nat) (ks : List Nat) (i : Nat) (wz : World) : Prop where
  op : OpBlk wz ob (opK T ga i)
  ne : ob ≠ ga
  rng : wz.rangeAt ga 0 ((opK T ga i).ds.map (Value.int .i64))
  th : wz.there ga 0 16
  acts : ∀ (a k : Nat), ks[a]? = some k → wz.cell? ⟨k, 0, none⟩ = some (.int .i64 (a : Int)) ∧ k ≠ ob ∧ k ≠ ga
theorem Sn.drewN {T : List Int} {ob ga : Nat} {ks : List Nat} {i : Nat} {wz : World} (h : Sn T ob ga ks i wz) (n : Nat) : Sn T ob ga ks i (wz.drewN n) := ⟨h.op, h.ne, h.rng, h.th, h.acts⟩
theorem opK_cs {T : List Int} {ga i : Nat} {y : Int} (hi : i < 9) (hy : T[i]? = some y) : (opK T ga i).cs.toArray.setIfInBounds (poK i) (.int .i64 y) = (opK T ga (i + 1)).cs.toArray := by
  have e : T.getD i 0 = y := by rw [List.getD_eq_getElem?_getD, hy]; rfl
  have hc : i = 0 ∨ i = 1 ∨ i = 2 ∨ i = 3 ∨ i = 4 ∨ i = 5 ∨ i = 6 ∨ i = 7 ∨ i = 8 := by omega
  rcases hc with rfl | rfl | rfl | rfl | rfl | rfl | rfl | rfl | rfl <;> (rw [← e]; rfl)
theorem opK_same {T : List Int} {ga i : Nat} (hi : 9 ≤ i) : (opK T ga (i + 1)).cs = (opK T ga i).cs := by
  unfold opK Ov.cs
  simp only [fK_step T i 0 (by omega), fK_step T i 1 (by omega), fK_step T i 2 (by omega), fK_step T i 3 (by omega), fK_step T i 4 (by omega), fK_step T i 5 (by omega), fK_step T i 6 (by omega), fK_step T i 7 (by omega), fK_step T i 8 (by omega)]
theorem opK_ds_low {T : List Int} {ga i : Nat} (hi : i < 9) : (opK T ga (i + 1)).ds = (opK T ga i).ds := by
  unfold opK
  simp only
  exact List.map_congr_left fun j _ => fK_step T i (9 + j) (by omega)
theorem opK_at {T : List Int} {ga i j : Nat} (hj : j < 16) : (opK T ga i).ds[j]? = some (fK T i (9 + j)) := by
  unfold opK
  simp [hj]
theorem Sn.step {T : List Int} {ob ga : Nat} {ks : List Nat} {i : Nat} {wz : World} (h : Sn T ob ga ks i wz) {y : Int} (hy : T[i]? = some y) (hi : i < 25) :
    (∃ u, wz.cell? ⟨pbK ob ga i, poK i, none⟩ = some (.int .i64 u)) ∧ wz.frozen? ⟨pbK ob ga i, poK i, none⟩ = false ∧ Sn T ob ga ks (i + 1) (wz.setCell ⟨pbK ob ga i, poK i, none⟩ (.int .i64 y)) := by
  have hne := h.ne
  by_cases h9 : i < 9
  · have e1 : pbK ob ga i = ob := if_pos h9
    rw [e1]
    have hcell : ∃ u, wz.cell? ⟨ob, poK i, none⟩ = some (.int .i64 u) := by
      have hc : i = 0 ∨ i = 1 ∨ i = 2 ∨ i = 3 ∨ i = 4 ∨ i = 5 ∨ i = 6 ∨ i = 7 ∨ i = 8 := by omega
      rcases hc with rfl | rfl | rfl | rfl | rfl | rfl | rfl | rfl | rfl <;> exact ⟨_, h.op.at _ rfl⟩
    refine ⟨hcell, h.op.free _, ⟨h.op.put (poK i) _ (opK_cs h9 hy), hne, ?_, ?_, fun a k hk => ?_⟩⟩
    · rw [opK_ds_low h9]
      intro j u hj
      exact (World.cell?_of_block (w := wz) (a := ⟨ga, 0 + j, none⟩) (heap_setCell_other wz ⟨ob, poK i, none⟩ ga _ (by show ga ≠ ob; omega))).trans (h.rng j u hj)
    · exact World.there_setCells h.th ob (poK i) [.int .i64 y]
    · obtain ⟨h1, h2, h3⟩ := h.acts a k hk
      exact ⟨(World.cell?_of_block (w := wz) (a := ⟨k, 0, none⟩) (heap_setCell_other wz ⟨ob, poK i, none⟩ k _ (by show k ≠ ob; exact h2))).trans h1, h2, h3⟩
  · have e1 : pbK ob ga i = ga := if_neg h9
    have e2 : poK i = i - 9 := by unfold poK; rw [if_neg (by omega), if_neg h9]
    rw [e1, e2]
    have hj : i - 9 < 16 := by omega
    have hc := h.rng (i - 9) (.int .i64 (fK T i (9 + (i - 9)))) (by rw [List.getElem?_map, opK_at hj]; rfl)
    rw [Nat.zero_add] at hc
    have hf := (h.th (i - 9) hj).2
    rw [Nat.zero_add] at hf
    refine ⟨⟨_, hc⟩, hf, ⟨?_, hne, ?_, ?_, fun a k hk => ?_⟩⟩
    · unfold OpBlk
      rw [opK_same (by omega)]
      exact (heap_setCell_other wz ⟨ga, i - 9, none⟩ ob _ (by show ob ≠ ga; exact hne)).trans h.op
    · intro j u hju
      have hjl : j < 16 := by
        have := (List.getElem?_eq_some_iff.1 hju).1
        unfold opK at this
        simpa using this
      rw [List.getElem?_map, opK_at hjl] at hju
      simp only [Option.map_some, Option.some.injEq] at hju
      subst hju
      rw [Nat.zero_add]
      by_cases ej : j = i - 9
      · subst ej
        rw [fK_in (by omega), show 9 + (i - 9) = i by omega, List.getD_eq_getElem?_getD, hy]
        exact World.cell?_setCell_same _ _ _ hc
      · rw [fK_step T i (9 + j) (by omega)]
        have h5 := h.rng j (.int .i64 (fK T i (9 + j))) (by rw [List.getElem?_map, opK_at hjl]; rfl)
        rw [Nat.zero_add] at h5
        exact (World.cell?_setCell_other _ _ _ _ (by intro e; injection e with e1 e2; omega)).trans h5
    · exact World.there_setCells h.th ga (i - 9) [.int .i64 y]
    · obtain ⟨h1, h2, h3⟩ := h.acts a k hk
      exact ⟨(World.cell?_of_block (w := wz) (a := ⟨k, 0, none⟩) (heap_setCell_other wz ⟨ga, i - 9, none⟩ k _ (by show k ≠ ga; exact h3))).trans h1, h2, h3⟩
/-- The functions that tell the places. -/
theorem Sn.tells {T : List Int} {ob ga : Nat} {ks : List Nat} (hk : ks.length = 16) (i : Nat) (F : Value) (hF : (plainF ++ ks.map cntF)[i]? = some F) : ∃ f cp, F = .func (.func f) #[] cp ∧ (∀ args wz, (callFunc f args).run Tryz.prog wz = .ok (.enter f args) wz) ∧ ∀ wz, Sn T ob ga ks i wz → Calls Tryz.prog f (#[.pointer (some ⟨ob, 0, none⟩)] ++ cp) wz fun e w' => e = .returned (.pointer (some ⟨pbK ob ga i, poK i, none⟩)) ∧ ∃ n, w' = wz.drewN n := by
  by_cases h9 : i < 9
  · have hw : ∀ {f o : Nat} {wz : World}, Calls Tryz.prog f #[.pointer (some ⟨ob, 0, none⟩)] wz (fun e w' => e = .returned (.pointer (some ⟨ob, o, none⟩)) ∧ w' = wz) → Calls Tryz.prog f (#[.pointer (some ⟨ob, 0, none⟩)] ++ #[]) wz fun e w' => e = .returned (.pointer (some ⟨ob, o, none⟩)) ∧ ∃ n, w' = wz.drewN n := fun h => by
      rw [Array.append_empty]
      exact h.mono (by rintro e w' ⟨h1, rfl⟩; exact ⟨h1, 0, rfl⟩)
    have hc : i = 0 ∨ i = 1 ∨ i = 2 ∨ i = 3 ∨ i = 4 ∨ i = 5 ∨ i = 6 ∨ i = 7 ∨ i = 8 := by omega
    rcases hc with rfl | rfl | rfl | rfl | rfl | rfl | rfl | rfl | rfl
    · cases hF; exact ⟨_, _, rfl, enterO1, fun wz _ => hw (field1_any ob wz)⟩
    · cases hF; exact ⟨_, _, rfl, enterO2, fun wz _ => hw (field2_any ob wz)⟩
    · cases hF; exact ⟨_, _, rfl, enterO3, fun wz _ => hw (field3_any ob wz)⟩
    · cases hF; exact ⟨_, _, rfl, enterO4, fun wz _ => hw (field4_any ob wz)⟩
    · cases hF; exact ⟨_, _, rfl, enterO5, fun wz _ => hw (field5_any ob wz)⟩
    · cases hF; exact ⟨_, _, rfl, enterO6, fun wz _ => hw (field6_any ob wz)⟩
    · cases hF; exact ⟨_, _, rfl, enterO7, fun wz _ => hw (field7_any ob wz)⟩
    · cases hF; exact ⟨_, _, rfl, enterO8, fun wz _ => hw (field8_any ob wz)⟩
    · cases hF; exact ⟨_, _, rfl, enterO9, fun wz _ => hw (field9_any ob wz)⟩
  · have hi : i < 25 := by
      have := (List.getElem?_eq_some_iff.1 hF).1
      rw [List.length_append, List.length_map, hk] at this
      exact this
    obtain ⟨kk, hkk⟩ : ∃ kk, ks[i - 9]? = some kk := ⟨_, List.getElem?_eq_getElem (by omega)⟩
    rw [List.getElem?_append_right (show 9 ≤ i by omega), show i - plainF.length = i - 9 from rfl, List.getElem?_map, hkk] at hF
    simp only [Option.map_some, Option.some.injEq] at hF
    subst hF
    refine ⟨_, _, rfl, enterO10, fun wz h => ?_⟩
    have e1 : pbK ob ga i = ga := if_neg h9
    have e2 : poK i = i - 9 := by unfold poK; rw [if_neg (by omega), if_neg h9]
    rw [e1, e2]
    have := field10_any ob kk (i - 9) ga 0 16 wz (by omega) (h.acts (i - 9) kk hkk).1 (h.op.at 3 rfl)
    rw [Nat.zero_add] at this
    exact this
/-- All twenty-five are set. -/
theorem setNums_any (b ob ga C : Nat) (ks : List Nat) (w : World) (fv vv : Value) (T : List Int) (hk : ks.length = 16) (hfs : Rd C w fv (plainF ++ ks.map cntF)) (hvs : Rd C w vv (T.map (Value.int .i64))) (hC : C ≤ w.heap.size) (hT : T.length = 25)
    (HB : ∀ g, fv.ownBlock = some g ∨ vv.ownBlock = some g → g ≠ ob ∧ g ≠ ga) (h0 : Sn T ob ga ks 0 w) :
    Calls Tryz.prog 112 #[.pointer (some ⟨b, 0, none⟩), .pointer (some ⟨ob, 0, none⟩), fv, vv] w fun e w' => e = .returned (.tuple #[]) ∧ Sn T ob ga ks 25 w' ∧ OnlyB (pbK ob ga) w w' := by
  have hfl : (plainF ++ ks.map cntF).length = 25 := by rw [List.length_append, List.length_map, hk]; rfl
  have := setFieldsI_any b ob C w fv vv (plainF ++ ks.map cntF) T (Sn T ob ga ks) (pbK ob ga) poK hfs hvs hC (by rw [hfl]; exact hT) (by rw [hfl]; omega) (fun i F hF => Sn.tells hk i F hF) (fun i wz n h => h.drewN n) (fun i wz y hy h => h.step hy (by have := (List.getElem?_eq_some_iff.1 hy).1; omega)) (fun i g hg => by
    have := HB g hg
    unfold pbK
    split
    · exact this.1
    · exact this.2) h0
  rwa [hT] at this
end Go.Proofs.YtmmkmkaannlkhaaGreatDoor

namespace Go.Proofs.YtmmkmkaannlkhaaGreatDoor
open Go.RowKit Go.Lib
set_option linter.unusedVariables false

/-- The operation that stands at the beginning of some bytes, and the place behind it. -/
def opRd (xs : List Int) : Option (Ov × Nat) := match runsCP xs 0 with
  | none => none
  | some (T, q) => if T.length = 25 then match textsLP xs q with
    | none => none
    | some (S, r) => if S.length = 2 ∧ (opOfT T S).ok = true then some (opOfT T S, r) else none
    else none
theorem opCd_rd (xs : List Int) : opCd xs = match opRd xs with
    | none => none
    | some (x, r) => if r = xs.length then some x else none := by
  unfold opCd opRd
  cases runsCP xs 0 with
  | none => rfl
  | some z =>
    obtain ⟨T, q⟩ := z
    simp only
    by_cases hT : T.length = 25
    · rw [if_pos hT, if_pos hT]
      cases textsLP xs q with
      | none => rfl
      | some z =>
        obtain ⟨S, r⟩ := z
        simp only
        by_cases h1 : S.length = 2 ∧ (opOfT T S).ok = true
        · rw [if_pos h1]
          simp only
          by_cases hr : r = xs.length
          · rw [if_pos hr, if_pos ⟨h1.1, hr, h1.2⟩]
          · rw [if_neg hr, if_neg (fun h => hr h.2.1)]
        · rw [if_neg h1, if_neg (fun h => h1 ⟨h.1, h.2.2⟩)]
    · rw [if_neg hT, if_neg hT]
/-- What op answers. -/
def OpAns (xs : List Int) (b : Nat) (va : Value) (w : World) (e : Ending) (w' : World) : Prop := (match opRd xs with
  | some (x, r) => ∃ ga, e = .returned (.agg (Ov.cs { x with dv := .slice (some ⟨ga, 0, none⟩) 16 16 }).toArray) ∧ w.heap.size ≤ ga ∧ ga < w'.heap.size ∧ w'.rangeAt ga 0 (x.ds.map (Value.int .i64)) ∧ w'.there ga 0 16 ∧ Rdr w' b va r ∧ r ≤ xs.length
  | none => Bad e) ∧ w.grownBy w' (some b)
theorem opAns_bad {xs : List Int} {b : Nat} {va : Value} {w : World} {e : Ending} {w' : World} (h : opRd xs = none) (he : Bad e) (hg : w.grownBy w' (some b)) : OpAns xs b va w e w' := by
  unfold OpAns
  rw [h]
  exact ⟨he, hg⟩

set_option maxHeartbeats 1000000 in
set_option maxRecDepth 100000 in
theorem setFieldsI_bad (b ob fl fc n c : Nat) (w : World) (fa va : Option Addr) (h : n ≠ fl) :
    Calls Tryz.prog 112 #[.pointer (some ⟨b, 0, none⟩), .pointer (some ⟨ob, 0, none⟩), .slice fa fl fc, .slice va n c] w fun e w' => Bad e ∧ w' = w := by
  have hee : ((n : Int) == (fl : Int)) = false := by simp; omega
  clear h
  go_enter Tryz.func112, Tryz.ntmps112
  go_wp2_with (first | (go_at_call 101; refine (require_n _ _ _ (by first | rfl | exact hee)).mono ?_; rintro e w' ⟨rfl, hw⟩; obtain rfl := hw.symm))
  exact ⟨rfl, rfl, rfl⟩
set_option maxHeartbeats 1000000 in
set_option maxRecDepth 100000 in
theorem setFieldsT_bad (b ob fl fc n c : Nat) (w : World) (fa va : Option Addr) (h : n ≠ fl) :
    Calls Tryz.prog 114 #[.pointer (some ⟨b, 0, none⟩), .pointer (some ⟨ob, 0, none⟩), .slice fa fl fc, .slice va n c] w fun e w' => Bad e ∧ w' = w := by
  have hee : ((n : Int) == (fl : Int)) = false := by simp; omega
  clear h
  go_enter Tryz.func114, Tryz.ntmps114
  go_wp2_with (first | (go_at_call 101; refine (require_n _ _ _ (by first | rfl | exact hee)).mono ?_; rintro e w' ⟨rfl, hw⟩; obtain rfl := hw.symm))
  exact ⟨rfl, rfl, rfl⟩
/-- The texts of an operation, once i of them are set. -/
def txK (x : Ov) (S : List ByteArray) (i : Nat) : Ov := { x with ky := if 0 < i then txt S 0 else x.ky, tx := if 1 < i then txt S 1 else x.tx }
theorem setTexts_any (b ob C : Nat) (w : World) (fv vv : Value) (x : Ov) (S : List ByteArray) (hfs : Rd C w fv textF) (hvs : Rd C w vv (S.map Value.string)) (hC : C ≤ w.heap.size) (hS : S.length = 2)
    (HB : ∀ g, fv.ownBlock = some g ∨ vv.ownBlock = some g → g ≠ ob) (h0 : OpBlk w ob x) :
    Calls Tryz.prog 114 #[.pointer (some ⟨b, 0, none⟩), .pointer (some ⟨ob, 0, none⟩), fv, vv] w fun e w' => e = .returned (.tuple #[]) ∧ OpBlk w' ob (txK x S 2) ∧ OnlyB (fun _ => ob) w w' := by
  have := setFieldsT_any b ob C w fv vv textF S (fun i wz => OpBlk wz ob (txK x S i)) (fun _ => ob) (fun i => 10 + i) hfs hvs hC hS (by show (2 : Nat) ≤ 1000; omega) (fun i F hF => by
    have hw : ∀ {f o : Nat} {wz : World}, Calls Tryz.prog f #[.pointer (some ⟨ob, 0, none⟩)] wz (fun e w' => e = .returned (.pointer (some ⟨ob, o, none⟩)) ∧ w' = wz) → Calls Tryz.prog f (#[.pointer (some ⟨ob, 0, none⟩)] ++ #[]) wz fun e w' => e = .returned (.pointer (some ⟨ob, o, none⟩)) ∧ ∃ n, w' = wz.drewN n := fun h => by
      rw [Array.append_empty]
      exact h.mono (by rintro e w' ⟨h1, rfl⟩; exact ⟨h1, 0, rfl⟩)
    match i, hF with
    | 0, hF => cases hF; exact ⟨_, _, rfl, enterT1, fun wz _ => hw (fieldT1_any ob 0 wz)⟩
    | 1, hF => cases hF; exact ⟨_, _, rfl, enterT2, fun wz _ => hw (fieldT2_any ob 0 wz)⟩
    | i + 2, hF => simp [textF] at hF) (fun i wz n h => h) (fun i wz y hy h => by
    have e : txt S i = y := by unfold txt; rw [List.getD_eq_getElem?_getD, hy]; rfl
    have hi : i < 2 := by have := (List.getElem?_eq_some_iff.1 hy).1; omega
    have hc : i = 0 ∨ i = 1 := by omega
    rcases hc with rfl | rfl
    · exact ⟨⟨_, OpBlk.at h 10 rfl⟩, OpBlk.free h 10, OpBlk.put h 10 _ (by rw [← e]; rfl)⟩
    · exact ⟨⟨_, OpBlk.at h 11 rfl⟩, OpBlk.free h 11, OpBlk.put h 11 _ (by rw [← e]; rfl)⟩) (fun i g hg => HB g hg) h0
  rwa [hS] at this
end Go.Proofs.YtmmkmkaannlkhaaGreatDoor
