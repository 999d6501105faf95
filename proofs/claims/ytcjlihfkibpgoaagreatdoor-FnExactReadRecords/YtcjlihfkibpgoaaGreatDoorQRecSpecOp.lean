/- What the specification's l13Op answers. -/
import Derived.Deep.CutRange
import Derived.Deep.DeepCutAuto
import Derived.Test.YtcjlihfkibpgoaaGreatDoorQReadAtS
import Derived.Test.YtcjlihfkibpgoaaGreatDoorQRecMath
import Derived.Test.YtcjlihfkibpgoaaGreatDoorQOpSpec
import Derived.Test.YtcjlihfkibpgoaaGreatDoorQOpBytesSpec
import Derived.Test.YtcjlihfkibpgoaaGreatDoorQReadRec
import Derived.Test.YtcjlihfkibpgoaaGreatDoorQQuietKeepToQuietPass
import Derived.Test.YtcjlihfkibpgoaaGreatDoorQDrawMake
namespace Go.Proofs.YtcjlihfkibpgoaaGreatDoor
open Go.RowKit Go.Lib
set_option linter.unusedVariables false

set_option maxHeartbeats 1000000 in
set_option maxRecDepth 100000 in
theorem numB_any (b q : Nat) (w : World) (va : Value) (hR : RdrS w b va q true) :
    Calls Tryz.prog 36 #[.pointer (some ⟨b, 0, none⟩)] w fun e w' => e = .returned (.int .i64 0) ∧ w' = w := by
  have c2 := hR.c2
  go_enter Tryz.func36, Tryz.ntmps36
  go_wp2_with fail
  go_ret
  exact ⟨rfl, rfl⟩
set_option maxHeartbeats 1000000 in
set_option maxRecDepth 100000 in
theorem countB_any (b q : Nat) (w : World) (va : Value) (hR : RdrS w b va q true) :
    Calls Tryz.prog 35 #[.pointer (some ⟨b, 0, none⟩)] w fun e w' => e = .returned (.int .i64 0) ∧ w' = w := by
  go_enter Tryz.func35, Tryz.ntmps35
  go_wp2_with fail
  refine (numB_any b q w va hR).mono ?_
  rintro e w' ⟨rfl, rfl⟩
  go_wp2_with fail
  go_ret
  exact ⟨rfl, rfl⟩
set_option maxHeartbeats 1000000 in
set_option maxRecDepth 100000 in
theorem textsB_any (b q : Nat) (w : World) (va : Value) (hR : RdrS w b va q true) :
    Calls Tryz.prog 27 #[.pointer (some ⟨b, 0, none⟩)] w fun e w' => e = .returned (.slice (some ⟨w.heap.size, 0, none⟩) 0 0) ∧ w' = w.alloc (.cells #[] 9) := by
  have hR0 : RdrS (w.alloc (.cells #[] 9)) b va q true := hR.grown (World.grownBy_alloc w _ none) (fun k hk => by cases hk)
  go_enter Tryz.func27, Tryz.ntmps27
  go_wp2_with fail
  refine (countB_any b q _ va hR0).mono ?_
  rintro e w' ⟨rfl, rfl⟩
  go_wp2_with fail
  go_loopw [3, 6] (fun tz tn wr => tz = .slice (some ⟨w.heap.size, 0, none⟩) 0 0 ∧ tn = .int .i64 0 ∧ wr = w.alloc (.cells #[] 9)) (fun _ _ _ => 0)
  case atStart => exact ⟨rfl, rfl, rfl⟩
  case round =>
    obtain ⟨rfl, rfl, rfl⟩ := hrel
    go_wp2_with fail
    go_ret
    exact ⟨rfl, rfl⟩

theorem runs_most {T : List Int} (h : runsOK T = true) {k : Nat} (hk : k < T.length) : T.getD k 0 ≤ 4611686018427387903 := by
  unfold runsOK at h
  rw [List.all_eq_true] at h
  have h1 := h _ (List.getElem_mem hk)
  rw [List.getD_eq_getElem?_getD, List.getElem?_eq_getElem hk]
  simp only [decide_eq_true_eq] at h1
  show T[k] ≤ _
  omega
/-- A row of numbers does not lie in an operation's block. -/
theorem ownInt_ne {w : World} {B b : Nat} {v : Value} {cs : List Value} {zs : Array Value} (ho : Own 3 w B v cs) (h : w.heap[b]? = some (.cells zs 41 (0, 0))) : v.ownBlock ≠ some b := by
  intro e
  rcases ho.2 with ⟨e', _⟩ | ⟨g, cap, cur, e', _, hh, _⟩
  · rw [e'] at e; cases e
  · rw [e'] at e
    cases e
    rw [h] at hh
    simp at hh
theorem gr_set6 (w : World) (b k : Nat) (u : Value) : w.grownBy (w.setCell ⟨b, k, none⟩ u) (some b) := grownBy_set w b k u
theorem range_set6 {w : World} {b : Nat} {c0 c1 c2 c3 c4 c5 c6 c7 c8 c9 c10 c11 v : Value} (h : w.rangeAt b 0 [c0, c1, c2, c3, c4, c5, c6, c7, c8, c9, c10, c11]) : (w.setCell ⟨b, 6, none⟩ v).rangeAt b 0 [c0, c1, c2, c3, c4, c5, v, c7, c8, c9, c10, c11] := by
  intro j u hj
  have hlt : j < 12 := by have := (List.getElem?_eq_some_iff.1 hj).1; simpa using this
  rw [Nat.zero_add]
  have hold := fun (u' : Value) (h' : [c0, c1, c2, c3, c4, c5, c6, c7, c8, c9, c10, c11][j]? = some u') => by have := h j u' h'; rwa [Nat.zero_add] at this
  by_cases h6 : j = 6
  · subst h6
    have e : v = u := by simpa using hj
    rw [← e]
    exact World.cell?_setCell_same _ _ _ (hold c6 rfl)
  · have hk : w.cell? ⟨b, j, none⟩ = some u := hold u (by
      rcases (by omega : j = 0 ∨ j = 1 ∨ j = 2 ∨ j = 3 ∨ j = 4 ∨ j = 5 ∨ j = 7 ∨ j = 8 ∨ j = 9 ∨ j = 10 ∨ j = 11) with rfl | rfl | rfl | rfl | rfl | rfl | rfl | rfl | rfl | rfl | rfl <;> exact hj)
    exact (World.cell?_setCells_out b [v] 6 _ _ (fun _ => by simp; omega)).trans hk
theorem opBy_byteR (a s t k o n u pt pa : Int) (ky tx : ByteArray) (ds : List Int) : ∀ c ∈ opBy a s t k o n u pt pa ky tx ds, 0 ≤ c ∧ c ≤ 255 := fun c hc => by
  rcases List.mem_append.1 hc with hc | hc
  · exact putR_byte _ c hc
  · exact putN_byte _ _ c hc
theorem bne_true_of {b : Bool} (h : b = false) : ¬ b = true := by rw [h]; exact Bool.false_ne_true
theorem split25 {T : List Int} (h : T.length = 25) : ∃ x0 x1 x2 x3 x4 x5 x6 x7 x8 ds, T = x0 :: x1 :: x2 :: x3 :: x4 :: x5 :: x6 :: x7 :: x8 :: ds ∧ ds.length = 16 := by
  match T, h with
  | x0 :: x1 :: x2 :: x3 :: x4 :: x5 :: x6 :: x7 :: x8 :: ds, h => exact ⟨x0, x1, x2, x3, x4, x5, x6, x7, x8, ds, rfl, by simpa using h⟩
theorem split2 {S : List ByteArray} (h : S.length = 2) : ∃ s0 s1, S = [s0, s1] := by
  match S, h with
  | [a, b], _ => exact ⟨a, b, rfl⟩


/-- What l13Op answers: whether there is an operation; that. -/
def OpSAns (xs : List Int) (N : Nat) (y : Ov) (c : Bool) (w' : World) : Prop := match opSp xs with
  | none => c = false
  | some x => c = true ∧ y = { x with dv := y.dv } ∧ Own 3 w' N y.dv (x.ds.map (Value.int .i64))

structure L13Ans (xs : List Int) (w : World) (e : Ending) (w' : World) : Prop where
  out : ∃ y c, e = .returned (.tuple #[.agg (Ov.cs y).toArray, .bool c]) ∧ (∃ a n k, y.dv = .slice a n k) ∧ OpSAns xs w.heap.size y c w' ∧ Below w.heap.size w w'

set_option maxHeartbeats 8000000 in
set_option maxRecDepth 100000 in
theorem l13Op_any (C : Nat) (w : World) (v : Value) (xs : List Int) (hx : Bytes xs) (hl : xs.length ≤ 1048576) (hC : C ≤ w.heap.size) (hr : Rd C w v (xs.map (Value.int .u8))) :
    Calls Tryz.prog 19 #[v] w fun e w' => L13Ans xs w e w' := by
  obtain ⟨va, vc, ev⟩ : ∃ va vc, v = .slice va xs.length vc := by obtain ⟨va, vc, e, _⟩ := hr; rw [List.length_map] at e; exact ⟨va, vc, e⟩
  subst ev
  obtain ⟨W, hW⟩ : ∃ W, (w.alloc (.cells #[.int .i64 0, .int .i64 0, .int .i64 0, .slice none 0 0, .int .i64 0, .int .i64 0, .int .i64 0, .int .i64 0, .int .i64 0, .int .i64 0, .string ⟨#[]⟩, .string ⟨#[]⟩] 41)).alloc (.cells #[.slice va xs.length vc, .int .i64 ((0 : Nat) : Int), .bool false] 59) = W := ⟨_, rfl⟩
  have hbW : Below w.heap.size w W := by rw [← hW]; exact below_then (below_alloc _ _) _
  have hsW : W.heap.size = w.heap.size + 1 + 1 := by rw [← hW]; simp [World.size_alloc]
  have hzW : W.heap[w.heap.size]? = some (.cells #[.int .i64 0, .int .i64 0, .int .i64 0, .slice none 0 0, .int .i64 0, .int .i64 0, .int .i64 0, .int .i64 0, .int .i64 0, .int .i64 0, .string ⟨#[]⟩, .string ⟨#[]⟩] 41 (0, 0)) := by
    rw [← hW]
    exact ((below_alloc _ _).block w.heap.size (by rw [World.size_alloc]; omega)).trans (heap_alloc_new w _)
  have hRW : RdrS W (w.heap.size + 1) (.slice va xs.length vc) 0 false := by
    have := heap_alloc_new (w.alloc (.cells #[.int .i64 0, .int .i64 0, .int .i64 0, .slice none 0 0, .int .i64 0, .int .i64 0, .int .i64 0, .int .i64 0, .int .i64 0, .int .i64 0, .string ⟨#[]⟩, .string ⟨#[]⟩] 41)) (.cells #[.slice va xs.length vc, .int .i64 ((0 : Nat) : Int), .bool false] 59)
    rw [World.size_alloc, hW] at this
    exact this
  have hrW := hr.belowW hbW hC
  have HRX : Hid (∀ w', Below w.heap.size w w' → Rd C w' (.slice va xs.length vc) (xs.map (Value.int .u8))) := fun w' hb => hr.belowW hb hC
  have hruns := runsSP_any C (w.heap.size + 1) W _ xs 0 hx hl (by omega) (by omega) (by omega) hrW hRW
  clear hr hrW
  go_enter Tryz.func19, Tryz.ntmps19
  go_wp2_with fail
  have hW2 : (w.alloc (.cells #[.int .i64 0, .int .i64 0, .int .i64 0, .slice none 0 0, .int .i64 0, .int .i64 0, .int .i64 0, .int .i64 0, .int .i64 0, .int .i64 0, .string ⟨#[]⟩, .string ⟨#[]⟩] 41)).alloc (.cells #[.slice va xs.length vc, .int .i64 0, .bool false] 59) = W := hW
  first
    | rw [hW2]
    | (trace_state; fail)
  clear hW hW2
  refine hruns.mono ?_
  rintro e w1 ⟨hru, hg1⟩
  have hz1 := (hg1.block w.heap.size (by omega) (fun e => by injection e with e; omega)).trans hzW
  have hbw1 : Below w.heap.size w w1 := hbW.grown hg1 (by omega) (fun k hk => by cases hk; omega)
  have hs1 := hg1.size
  clear hruns hzW hRW hg1 hbW
  unfold runsSP at hru
  cases hT : runsLP xs 0 with
  | none =>
    have hop : opSp xs = none := by unfold opSp; rw [hT]
    rw [hT] at hru
    obtain ⟨r5, q5, rfl, hR1⟩ := hru
    have htx := textsB_any _ _ _ _ hR1
    clear hT
    go_wp2_with fail
    refine htx.mono ?_
    rintro e w2 ⟨rfl, rfl⟩
    have hR2 : RdrS (w1.alloc (.cells #[] 9)) (w.heap.size + 1) (.slice va xs.length vc) q5 true := hR1.grown (World.grownBy_alloc w1 _ none) (fun k hk => by cases hk)
    have hz0 := ((below_alloc w1 (.cells #[] 9)).block w.heap.size (by omega)).trans hz1
    have hbz := below_then hbw1 (.cells #[] 9)
    have c2 := hR2.c2
    clear htx hR1 hR2 hz1 hbw1
    generalize w1.alloc (.cells #[] 9) = wz at *
    have hth : wz.there w.heap.size 0 ov0.cs.length := there_blk hz0 (by simp [Ov.cs])
    have hbf : Below w.heap.size w (wz.setCells w.heap.size 0 ov0.cs) := below_cellsC (Nat.le_refl _) _ _ _ hbz
    have hrz : (wz.setCells w.heap.size 0 ov0.cs).rangeAt w.heap.size 0 ov0.cs := World.rangeAt_setCells_same wz _ _ _ hth
    have hld := run_loadVar_mid (P := Tryz.prog) (wz.setCells w.heap.size 0 ov0.cs) w.heap.size 0 41 ov0.cs _ hrz Tryz.underlying41 rfl (infoOpB _)
    have HLD : Hid _ := hld
    have HBF : Hid (Below w.heap.size w (wz.setCells w.heap.size 0 ov0.cs)) := hbf
    have hoc := all_oneCell_toArray (cs_one ov0 rfl)
    have hio := infoOpB ov0
    clear hz0 hbz hbf hrz hld
    go_upto_region 5 with fail
    refine wp_region_list ?_
    refine wpList_build rfl 41 _ rfl (by kernel_rfl) ?_
    refine wpList_store_mid rfl 41 _ _ rfl w.heap.size 0 ov0.cs.toArray rfl (by kernel_rfl) hth hio hoc ?_
    clear hth hio hoc
    show wpList Tryz.prog _ _ [_] _ (wz.setCells w.heap.size 0 ov0.cs)
    generalize wz.setCells w.heap.size 0 ov0.cs = w9 at *
    go_wp2_with fail
    have hld := HLD.out
    exact bodyPost_ret (v := .tuple #[.agg ov0.cs.toArray, .bool false]) (by simp [results, Tryz.results19, asAddr, hld]) rfl ⟨⟨ov0, false, rfl, ⟨none, 0, 0, rfl⟩, by unfold OpSAns; rw [hop], HBF.out⟩⟩
  | some z =>
    obtain ⟨T, q⟩ := z
    rw [hT] at hru
    obtain ⟨r5, rfl, hoT, hR1⟩ := hru
    have hrk := runsLP_ok hx hT
    obtain ⟨aT, cT, eT, _⟩ := hoT.slice
    rw [List.length_map] at eT
    subst eT
    have htx := textsSP_any C (w.heap.size + 1) w1 _ xs q hx hl hrk.2.2 (by omega) (by omega) (HRX.out _ hbw1) hR1
    go_wp2_with fail
    refine htx.mono ?_
    rintro e w2 ⟨htt, hg2⟩
    have hz0 := (hg2.block w.heap.size (by omega) (fun e => by injection e with e; omega)).trans hz1
    have hbz : Below w.heap.size w w2 := hbw1.grown hg2 (by omega) (fun k hk => by cases hk; omega)
    have hs2 := hg2.size
    have hoT2 : Own 3 w2 W.heap.size (.slice aT T.length cT) (T.map (Value.int .i64)) := hoT.apart hg2 (fun k hk => by cases hk; omega)
    clear htx hz1 hbw1 hR1 hg2 hoT
    unfold textsSP at htt
    cases hS : textsLP xs q with
    | none =>
      have hop : opSp xs = none := by unfold opSp; rw [hT]; simp only; rw [hS]
      rw [hS] at htt
      obtain ⟨r6, q6, rfl, hR2⟩ := htt
      have c2 := hR2.c2
      clear hS hT hR2 hoT2
      generalize w2 = wz at *
      have hth : wz.there w.heap.size 0 ov0.cs.length := there_blk hz0 (by simp [Ov.cs])
      have hbf : Below w.heap.size w (wz.setCells w.heap.size 0 ov0.cs) := below_cellsC (Nat.le_refl _) _ _ _ hbz
      have hrz : (wz.setCells w.heap.size 0 ov0.cs).rangeAt w.heap.size 0 ov0.cs := World.rangeAt_setCells_same wz _ _ _ hth
      have hld := run_loadVar_mid (P := Tryz.prog) (wz.setCells w.heap.size 0 ov0.cs) w.heap.size 0 41 ov0.cs _ hrz Tryz.underlying41 rfl (infoOpB _)
      have HLD : Hid _ := hld
      have HBF : Hid (Below w.heap.size w (wz.setCells w.heap.size 0 ov0.cs)) := hbf
      have hoc := all_oneCell_toArray (cs_one ov0 rfl)
      have hio := infoOpB ov0
      clear hz0 hbz hbf hrz hld
      go_upto_region 5 with fail
      refine wp_region_list ?_
      refine wpList_build rfl 41 _ rfl (by kernel_rfl) ?_
      refine wpList_store_mid rfl 41 _ _ rfl w.heap.size 0 ov0.cs.toArray rfl (by kernel_rfl) hth hio hoc ?_
      clear hth hio hoc
      show wpList Tryz.prog _ _ [_] _ (wz.setCells w.heap.size 0 ov0.cs)
      generalize wz.setCells w.heap.size 0 ov0.cs = w9 at *
      go_wp2_with fail
      have hld := HLD.out
      exact bodyPost_ret (v := .tuple #[.agg ov0.cs.toArray, .bool false]) (by simp [results, Tryz.results19, asAddr, hld]) rfl ⟨⟨ov0, false, rfl, ⟨none, 0, 0, rfl⟩, by unfold OpSAns; rw [hop], HBF.out⟩⟩
    | some z =>
      obtain ⟨S, r⟩ := z
      rw [hS] at htt
      obtain ⟨r6, rfl, hoS, hR2, hSl⟩ := htt
      obtain ⟨aS, cS, eS, _⟩ := hoS.slice
      rw [List.length_map] at eS
      subst eS
      have c1 := hR2.c1
      have c2 := hR2.c2
      have hsp : opSp xs = if r = xs.length ∧ T.length = 25 ∧ S.length = 2 ∧ (opOfT T S).ok = true ∧ opByO (opOfT T S) = xs then some (opOfT T S) else none := by unfold opSp; rw [hT]; simp only; rw [hS]
      clear hS hT hR2
      by_cases h1 : r = xs.length
      · by_cases h2 : T.length = 25
        · by_cases h3 : S.length = 2
          · subst h1
            obtain ⟨x0, x1, x2, x3, x4, x5, x6, x7, x8, ds, rfl, hds⟩ := split25 h2
            obtain ⟨s0, s1, rfl⟩ := split2 h3
            have hn0 : 0 ≤ x5 := by have := runs_nonneg hrk.2.1 (k := 5) (by simp); simpa using this
            have hn1 : x5 ≤ 4611686018427387903 := by have := runs_most hrk.2.1 (k := 5) (by simp); simpa using this
            rw [h2] at hoT2 ⊢
            rw [h3] at hoS ⊢
            clear h2 h3
            obtain ⟨gn, en⟩ : ∃ gn, aT = some ⟨gn, 0, none⟩ := by obtain ⟨_, _, e, h⟩ := hoT2.slice; obtain ⟨g, hg⟩ := h (by simp); simp only [Value.slice.injEq] at e; obtain ⟨rfl, -, rfl⟩ := e; exact ⟨g, hg⟩
            obtain ⟨gt, et⟩ : ∃ gt, aS = some ⟨gt, 0, none⟩ := by obtain ⟨_, _, e, h⟩ := hoS.slice; obtain ⟨g, hg⟩ := h (by simp); simp only [Value.slice.injEq] at e; obtain ⟨rfl, -, rfl⟩ := e; exact ⟨g, hg⟩
            subst en et
            have hc25 : 25 ≤ cT ∧ cT ≤ maxLen := by obtain ⟨_, _, e, h1, h2, _⟩ := hoT2.rd; simp only [Value.slice.injEq] at e; obtain ⟨rfl, -, rfl⟩ := e; simp at h1; exact ⟨by omega, h2⟩
            have hc2 : 2 ≤ cS := by obtain ⟨_, _, e, h1, _⟩ := hoS.rd; simp only [Value.slice.injEq] at e; obtain ⟨rfl, -, rfl⟩ := e; simpa using h1
            have hgn := World.ownsRow.lt hoT2 gn rfl
            have hgt := World.ownsRow.lt hoS gt rfl
            have hoT3 : Own 3 w2.drew W.heap.size (.slice (some ⟨gn, 0, none⟩) 25 cT) _ := hoT2
            have hoS3 : Own 9 w2.drew w1.heap.size (.slice (some ⟨gt, 0, none⟩) 2 cS) _ := hoS
            have hz3 : w2.drew.heap[w.heap.size]? = _ := hz0
            have hb3 : Below w.heap.size w w2.drew := hbz.drew
            have hgn3 : gn < w2.drew.heap.size := hgn.2
            have hgt3 : gt < w2.drew.heap.size := hgt.2
            obtain ⟨i3, hi3, hy0, hy1, hy2⟩ := info_parts info3
            go_upto_region 6 with fail
            go_cut [7] from 39 to 79 (fun t7 wx => ∃ (vb : Nat) (da : Option Addr) (dn dc : Nat), t7 = .pointer (some ⟨vb, 0, none⟩) ∧ Hid (wx.rangeAt vb 0 [.int .i64 x0, .int .i64 x1, .int .i64 x2, .slice da dn dc, .int .i64 x3, .int .i64 x4, .int .i64 (x5 / 2), .int .i64 x6, .int .i64 x7, .int .i64 x8, .string s0, .string s1]) ∧ Hid (wx.there vb 0 12) ∧ Own 3 wx w2.drew.heap.size (.slice da dn dc) (ds.map (Value.int .i64)) ∧ Below w2.drew.heap.size w2.drew wx ∧ w2.drew.heap.size ≤ vb ∧ (Value.slice da dn dc).ownBlock ≠ some vb)
            case first =>
              refine wp_region_held_drew (S := (fun w' => w'.cell? ⟨gn, 0, none⟩ = some (.int .i64 x0) ∧ w'.cell? ⟨gn, 1, none⟩ = some (.int .i64 x1) ∧ w'.cell? ⟨gn, 2, none⟩ = some (.int .i64 x2) ∧ w'.cell? ⟨gn, 3, none⟩ = some (.int .i64 x3) ∧ w'.cell? ⟨gn, 4, none⟩ = some (.int .i64 x4) ∧ w'.cell? ⟨gn, 5, none⟩ = some (.int .i64 x5) ∧ w'.cell? ⟨gn, 6, none⟩ = some (.int .i64 x6) ∧ w'.cell? ⟨gn, 7, none⟩ = some (.int .i64 x7) ∧ w'.cell? ⟨gn, 8, none⟩ = some (.int .i64 x8) ∧ w'.cell? ⟨gt, 0, none⟩ = some (.string s0) ∧ w'.cell? ⟨gt, 1, none⟩ = some (.string s1))) (by kernel_rfl) ⟨(own_cell hoT3 (k := 0) (by simp)).trans rfl, (own_cell hoT3 (k := 1) (by simp)).trans rfl, (own_cell hoT3 (k := 2) (by simp)).trans rfl, (own_cell hoT3 (k := 3) (by simp)).trans rfl, (own_cell hoT3 (k := 4) (by simp)).trans rfl, (own_cell hoT3 (k := 5) (by simp)).trans rfl, (own_cell hoT3 (k := 6) (by simp)).trans rfl, (own_cell hoT3 (k := 7) (by simp)).trans rfl, (own_cell hoT3 (k := 8) (by simp)).trans rfl, (own_cell hoS3 (k := 0) (by simp)).trans rfl, (own_cell hoS3 (k := 1) (by simp)).trans rfl⟩ (fun hH => ?_)
              generalize w2.drew = w3 at *
              refine tkH 0 (.slice (some ⟨gn, 0, none⟩) 25 cT) rfl (Or.inl ⟨by kernel_rfl, by intro w hSw; clear hSw; go_simp⟩) hH ?_
              simp only [tkS, Act.put]
              refine tkH 1 (.pointer (some ⟨gn, 0, none⟩)) rfl (Or.inl ⟨by kernel_rfl, by intro w hSw; clear hSw; go_simp⟩) hH ?_
              simp only [tkS, Act.put]
              refine tkH 2 (.int .i64 x0) rfl (Or.inl ⟨by kernel_rfl, by intro w hSw; obtain ⟨h0, h1, h2, h3, h4, h5, h6, h7, h8, ht0, ht1⟩ := hSw; go_simp⟩) hH ?_
              simp only [tkS, Act.put]
              refine tkH 3 (.slice (some ⟨gn, 0, none⟩) 25 cT) rfl (Or.inl ⟨by kernel_rfl, by intro w hSw; clear hSw; go_simp⟩) hH ?_
              simp only [tkS, Act.put]
              refine tkH 4 (.pointer (some ⟨gn, 1, none⟩)) rfl (Or.inl ⟨by kernel_rfl, by intro w hSw; clear hSw; go_simp⟩) hH ?_
              simp only [tkS, Act.put]
              refine tkH 5 (.int .i64 x1) rfl (Or.inl ⟨by kernel_rfl, by intro w hSw; obtain ⟨h0, h1, h2, h3, h4, h5, h6, h7, h8, ht0, ht1⟩ := hSw; go_simp⟩) hH ?_
              simp only [tkS, Act.put]
              refine tkH 6 (.slice (some ⟨gn, 0, none⟩) 25 cT) rfl (Or.inl ⟨by kernel_rfl, by intro w hSw; clear hSw; go_simp⟩) hH ?_
              simp only [tkS, Act.put]
              refine tkH 7 (.pointer (some ⟨gn, 2, none⟩)) rfl (Or.inl ⟨by kernel_rfl, by intro w hSw; clear hSw; go_simp⟩) hH ?_
              simp only [tkS, Act.put]
              refine tkH 8 (.int .i64 x2) rfl (Or.inl ⟨by kernel_rfl, by intro w hSw; obtain ⟨h0, h1, h2, h3, h4, h5, h6, h7, h8, ht0, ht1⟩ := hSw; go_simp⟩) hH ?_
              simp only [tkS, Act.put]
              refine tkH 9 (.slice (some ⟨gn, 0, none⟩) 25 cT) rfl (Or.inl ⟨by kernel_rfl, by intro w hSw; clear hSw; go_simp⟩) hH ?_
              simp only [tkS, Act.put]
              refine tkH 10 (.pointer (some ⟨gn, 3, none⟩)) rfl (Or.inl ⟨by kernel_rfl, by intro w hSw; clear hSw; go_simp⟩) hH ?_
              simp only [tkS, Act.put]
              refine tkH 11 (.int .i64 x3) rfl (Or.inl ⟨by kernel_rfl, by intro w hSw; obtain ⟨h0, h1, h2, h3, h4, h5, h6, h7, h8, ht0, ht1⟩ := hSw; go_simp⟩) hH ?_
              simp only [tkS, Act.put]
              refine tkH 12 (.slice (some ⟨gn, 0, none⟩) 25 cT) rfl (Or.inl ⟨by kernel_rfl, by intro w hSw; clear hSw; go_simp⟩) hH ?_
              simp only [tkS, Act.put]
              refine tkH 13 (.pointer (some ⟨gn, 4, none⟩)) rfl (Or.inl ⟨by kernel_rfl, by intro w hSw; clear hSw; go_simp⟩) hH ?_
              simp only [tkS, Act.put]
              refine tkH 14 (.int .i64 x4) rfl (Or.inl ⟨by kernel_rfl, by intro w hSw; obtain ⟨h0, h1, h2, h3, h4, h5, h6, h7, h8, ht0, ht1⟩ := hSw; go_simp⟩) hH ?_
              simp only [tkS, Act.put]
              refine tkH 15 (.slice (some ⟨gn, 0, none⟩) 25 cT) rfl (Or.inl ⟨by kernel_rfl, by intro w hSw; clear hSw; go_simp⟩) hH ?_
              simp only [tkS, Act.put]
              refine tkH 16 (.pointer (some ⟨gn, 5, none⟩)) rfl (Or.inl ⟨by kernel_rfl, by intro w hSw; clear hSw; go_simp⟩) hH ?_
              simp only [tkS, Act.put]
              refine tkH 17 (.int .i64 x5) rfl (Or.inl ⟨by kernel_rfl, by intro w hSw; obtain ⟨h0, h1, h2, h3, h4, h5, h6, h7, h8, ht0, ht1⟩ := hSw; go_simp⟩) hH ?_
              simp only [tkS, Act.put]
              refine tkH 18 (.int .i64 (x5 / 2)) rfl (Or.inl ⟨by kernel_rfl, by intro w hSw; clear hSw; have HN : Hid (0 ≤ x5 ∧ x5 ≤ 4611686018427387903) := ⟨hn0, hn1⟩; clear hn0 hn1; go_simp; have := HN.out; rw [Int.tdiv_eq_ediv_of_nonneg this.1, IntKind.wrap_i64]; omega⟩) hH ?_
              simp only [tkS, Act.put]
              refine tkH 19 (.slice (some ⟨gn, 0, none⟩) 25 cT) rfl (Or.inl ⟨by kernel_rfl, by intro w hSw; clear hSw; go_simp⟩) hH ?_
              simp only [tkS, Act.put]
              refine tkH 20 (.pointer (some ⟨gn, 6, none⟩)) rfl (Or.inl ⟨by kernel_rfl, by intro w hSw; clear hSw; go_simp⟩) hH ?_
              simp only [tkS, Act.put]
              refine tkH 21 (.int .i64 x6) rfl (Or.inl ⟨by kernel_rfl, by intro w hSw; obtain ⟨h0, h1, h2, h3, h4, h5, h6, h7, h8, ht0, ht1⟩ := hSw; go_simp⟩) hH ?_
              simp only [tkS, Act.put]
              refine tkH 22 (.slice (some ⟨gn, 0, none⟩) 25 cT) rfl (Or.inl ⟨by kernel_rfl, by intro w hSw; clear hSw; go_simp⟩) hH ?_
              simp only [tkS, Act.put]
              refine tkH 23 (.pointer (some ⟨gn, 7, none⟩)) rfl (Or.inl ⟨by kernel_rfl, by intro w hSw; clear hSw; go_simp⟩) hH ?_
              simp only [tkS, Act.put]
              refine tkH 24 (.int .i64 x7) rfl (Or.inl ⟨by kernel_rfl, by intro w hSw; obtain ⟨h0, h1, h2, h3, h4, h5, h6, h7, h8, ht0, ht1⟩ := hSw; go_simp⟩) hH ?_
              simp only [tkS, Act.put]
              refine tkH 25 (.slice (some ⟨gn, 0, none⟩) 25 cT) rfl (Or.inl ⟨by kernel_rfl, by intro w hSw; clear hSw; go_simp⟩) hH ?_
              simp only [tkS, Act.put]
              refine tkH 26 (.pointer (some ⟨gn, 8, none⟩)) rfl (Or.inl ⟨by kernel_rfl, by intro w hSw; clear hSw; go_simp⟩) hH ?_
              simp only [tkS, Act.put]
              refine tkH 27 (.int .i64 x8) rfl (Or.inl ⟨by kernel_rfl, by intro w hSw; obtain ⟨h0, h1, h2, h3, h4, h5, h6, h7, h8, ht0, ht1⟩ := hSw; go_simp⟩) hH ?_
              simp only [tkS, Act.put]
              refine tkH 28 (.agg #[.int .i64 x7, .int .i64 x8]) rfl (Or.inl ⟨by kernel_rfl, by intro w hSw; clear hSw; go_simp⟩) hH ?_
              simp only [tkS, Act.put]
              refine tkH 30 (.slice (some ⟨gn, 0, none⟩) 25 cT) rfl (Or.inl ⟨by kernel_rfl, by intro w hSw; clear hSw; go_simp⟩) hH ?_
              simp only [tkS, Act.put]
              refine tkH 31 (.slice (some ⟨gn, 9, none⟩) 16 (cT - 9)) rfl (Or.inl ⟨by kernel_rfl, by intro w hSw; clear hSw; have hc25 := hc25; go_simp; omega⟩) hH ?_
              simp only [tkS, Act.put]
              refine tkH 34 (.slice (some ⟨gt, 0, none⟩) 2 cS) rfl (Or.inl ⟨by kernel_rfl, by intro w hSw; clear hSw; go_simp⟩) hH ?_
              simp only [tkS, Act.put]
              refine tkH 35 (.pointer (some ⟨gt, 0, none⟩)) rfl (Or.inl ⟨by kernel_rfl, by intro w hSw; clear hSw; go_simp⟩) hH ?_
              simp only [tkS, Act.put]
              refine tkH 36 (.string s0) rfl (Or.inl ⟨by kernel_rfl, by intro w hSw; obtain ⟨h0, h1, h2, h3, h4, h5, h6, h7, h8, ht0, ht1⟩ := hSw; go_simp⟩) hH ?_
              simp only [tkS, Act.put]
              refine tkH 37 (.slice (some ⟨gt, 0, none⟩) 2 cS) rfl (Or.inl ⟨by kernel_rfl, by intro w hSw; clear hSw; go_simp⟩) hH ?_
              simp only [tkS, Act.put]
              refine tkH 38 (.pointer (some ⟨gt, 1, none⟩)) rfl (Or.inl ⟨by kernel_rfl, by intro w hSw; clear hSw; go_simp⟩) hH ?_
              simp only [tkS, Act.put]
              refine tkH 39 (.string s1) rfl (Or.inl ⟨by kernel_rfl, by intro w hSw; obtain ⟨h0, h1, h2, h3, h4, h5, h6, h7, h8, ht0, ht1⟩ := hSw; go_simp⟩) hH ?_
              simp only [tkS, Act.put]
              have hrN : Rd w3.heap.size w3 (.slice (some ⟨gn, 9, none⟩) 16 (cT - 9)) (ds.map (Value.int .i64)) := ⟨some ⟨gn, 9, none⟩, cT - 9, by rw [List.length_map, hds], by rw [List.length_map, hds]; omega, by omega, fun h => (by cases h), fun _ => ⟨gn, 9, rfl, hgn3, fun j u hj => by
                have hj2 : j < 16 := by have := (List.getElem?_eq_some_iff.1 hj).1; rw [List.length_map, hds] at this; exact this
                rw [own_cell hoT3 (k := 9 + j) (by simp; omega), ← hj, ← List.getElem?_eq_getElem]
                rw [Nat.add_comm]; rfl⟩⟩
              have hones : ∀ u ∈ ds.map (Value.int .i64), u.oneCell' = true := ints_oneCell _ _
              have hdl : (ds.map (Value.int .i64)).length = 16 := by rw [List.length_map, hds]
              refine wpAnyH_ready (rs := [29, 41]) (by kernel_rfl) (by simp) ?_
              refine AllReadyH.cons rfl (fun K hK => ?wayA) (AllReadyH.cons rfl (fun K hK => ?wayB) AllReadyH.nil)
              case wayA =>
                rw [if_pos (by kernel_rfl)]
                go_simp
                refine hK.out _ _ (by obtain ⟨h0, h1, h2, h3, h4, h5, h6, h7, h8, ht0, ht1⟩ := hH; exact ⟨cell_on (below_alloc _ _) h0, cell_on (below_alloc _ _) h1, cell_on (below_alloc _ _) h2, cell_on (below_alloc _ _) h3, cell_on (below_alloc _ _) h4, cell_on (below_alloc _ _) h5, cell_on (below_alloc _ _) h6, cell_on (below_alloc _ _) h7, cell_on (below_alloc _ _) h8, cell_on (below_alloc _ _) ht0, cell_on (below_alloc _ _) ht1⟩) (fun hA => ?_)
                clear hK K
                have hoA : Own 3 (w3.alloc (.cells #[] 3)) w3.heap.size (.slice (some ⟨w3.heap.size, 0, none⟩) 0 0) [] := own_lit w3 3 [] 0 rfl (by decide)
                have hrA := hrN.belowW (below_alloc w3 (.cells #[] 3)) (Nat.le_refl _)
                have hbA := below_alloc w3 (.cells #[] 3)
                refine wpAnyH_ready (rs := [32, 41]) (by kernel_rfl) (by simp) ?_
                refine AllReadyH.cons rfl (fun K hK => ?wayA1) (AllReadyH.cons rfl (fun K hK => ?wayA2) AllReadyH.nil)
                case wayA1 =>
                  refine step_append_rd rfl (.tmp 68) (.tmp 70) 35 rfl w3.heap.size 3 i3 (.int .i64 0) 8 Tryz.underlying35 hi3 hy0 hy1 hy2 rfl _ [] rfl hoA _ _ (ds.map (Value.int .i64)) rfl hrA (by rw [hdl]; omega) hones (by rw [hdl]; decide) (by rw [hdl]; decide) hbA.size ?_
                  intro v5 w5 ho5 hg5
                  rw [List.nil_append] at ho5
                  have hb5 : Below w3.heap.size w3 w5 := hbA.grown hg5 hbA.size (fun k hk => (World.ownsRow.lt hoA k hk).1)
                  have hS5 : (fun w' => w'.cell? ⟨gn, 0, none⟩ = some (.int .i64 x0) ∧ w'.cell? ⟨gn, 1, none⟩ = some (.int .i64 x1) ∧ w'.cell? ⟨gn, 2, none⟩ = some (.int .i64 x2) ∧ w'.cell? ⟨gn, 3, none⟩ = some (.int .i64 x3) ∧ w'.cell? ⟨gn, 4, none⟩ = some (.int .i64 x4) ∧ w'.cell? ⟨gn, 5, none⟩ = some (.int .i64 x5) ∧ w'.cell? ⟨gn, 6, none⟩ = some (.int .i64 x6) ∧ w'.cell? ⟨gn, 7, none⟩ = some (.int .i64 x7) ∧ w'.cell? ⟨gn, 8, none⟩ = some (.int .i64 x8) ∧ w'.cell? ⟨gt, 0, none⟩ = some (.string s0) ∧ w'.cell? ⟨gt, 1, none⟩ = some (.string s1)) w5 := by obtain ⟨h0, h1, h2, h3, h4, h5, h6, h7, h8, ht0, ht1⟩ := hH; exact ⟨cell_on hb5 h0, cell_on hb5 h1, cell_on hb5 h2, cell_on hb5 h3, cell_on hb5 h4, cell_on hb5 h5, cell_on hb5 h6, cell_on hb5 h7, cell_on hb5 h8, cell_on hb5 ht0, cell_on hb5 ht1⟩
                  refine hK.out _ _ hS5 (fun hB => ?_)
                  clear hK K hA hoA hrA hbA hg5 hS5
                  obtain ⟨da, dn, dc, rfl⟩ : ∃ da dn dc, v5 = .slice da dn dc := by obtain ⟨x, y, e, _⟩ := ho5.slice; exact ⟨x, _, y, e⟩
                  refine tkH 33 (.agg #[.slice da dn dc]) rfl (Or.inl ⟨by kernel_rfl, by intro w hSw; clear hSw; go_simp⟩) hB ?_
                  simp only [tkS, Act.put]
                  refine tkH 40 (.agg #[.int .i64 x0, .int .i64 x1, .int .i64 x2, .slice da dn dc, .int .i64 x3, .int .i64 x4, .int .i64 (x5 / 2), .int .i64 x6, .int .i64 x7, .int .i64 x8, .string s0, .string s1]) rfl (Or.inl ⟨by kernel_rfl, by intro w hSw; clear hSw; go_simp⟩) hB ?_
                  simp only [tkS, Act.put]
                  refine wpAnyH_ready (rs := [41]) (by kernel_rfl) (by simp) ?_
                  refine AllReadyH.cons rfl (fun K hK => ?_) AllReadyH.nil
                  rw [if_pos (by kernel_rfl)]
                  go_simp
                  refine hK.out _ _ (by obtain ⟨h0, h1, h2, h3, h4, h5, h6, h7, h8, ht0, ht1⟩ := hB; exact ⟨cell_on (below_alloc _ _) h0, cell_on (below_alloc _ _) h1, cell_on (below_alloc _ _) h2, cell_on (below_alloc _ _) h3, cell_on (below_alloc _ _) h4, cell_on (below_alloc _ _) h5, cell_on (below_alloc _ _) h6, cell_on (below_alloc _ _) h7, cell_on (below_alloc _ _) h8, cell_on (below_alloc _ _) ht0, cell_on (below_alloc _ _) ht1⟩) (fun hV => ?_)
                  clear hK K
                  have hvb : (w5.alloc (.cells #[.int .i64 0, .int .i64 0, .int .i64 0, .slice none 0 0, .int .i64 0, .int .i64 0, .int .i64 0, .int .i64 0, .int .i64 0, .int .i64 0, .string ⟨#[]⟩, .string ⟨#[]⟩] 41)).there w5.heap.size 0 12 := there_blk (heap_alloc_new w5 _) (by simp)
                  have ho6 : Own 3 (w5.alloc (.cells #[.int .i64 0, .int .i64 0, .int .i64 0, .slice none 0 0, .int .i64 0, .int .i64 0, .int .i64 0, .int .i64 0, .int .i64 0, .int .i64 0, .string ⟨#[]⟩, .string ⟨#[]⟩] 41)) w3.heap.size (.slice da dn dc) (ds.map (Value.int .i64)) := World.ownsRow.alloc ho5 _
                  have hb6 := below_then hb5 (.cells #[.int .i64 0, .int .i64 0, .int .i64 0, .slice none 0 0, .int .i64 0, .int .i64 0, .int .i64 0, .int .i64 0, .int .i64 0, .int .i64 0, .string ⟨#[]⟩, .string ⟨#[]⟩] 41)
                  have hvl : w3.heap.size ≤ w5.heap.size := hb5.size
                  have hvn : (Value.slice da dn dc).ownBlock ≠ some w5.heap.size := fun e => by have := (World.ownsRow.lt ho5 _ e).2; omega
                  clear ho5 hb5 hB
                  generalize w5.heap.size = vb at *
                  generalize w5.alloc (.cells #[.int .i64 0, .int .i64 0, .int .i64 0, .slice none 0 0, .int .i64 0, .int .i64 0, .int .i64 0, .int .i64 0, .int .i64 0, .int .i64 0, .string ⟨#[]⟩, .string ⟨#[]⟩] 41) = w7 at *
                  refine wpAnyH_ready (rs := [42]) (by kernel_rfl) (by simp) ?_
                  refine AllReadyH.cons rfl (fun K hK => ?_) AllReadyH.nil
                  rw [if_pos (by kernel_rfl)]
                  refine wp_store_mid 41 _ _ rfl vb 0 #[.int .i64 x0, .int .i64 x1, .int .i64 x2, .slice da dn dc, .int .i64 x3, .int .i64 x4, .int .i64 (x5 / 2), .int .i64 x6, .int .i64 x7, .int .i64 x8, .string s0, .string s1] rfl rfl hvb (infoOpB (⟨x0, x1, x2, .slice da dn dc, x3, x4, x5 / 2, x6, x7, x8, s0, s1, ds⟩ : Ov)) (all_oneCell_toArray (cs_one (⟨x0, x1, x2, .slice da dn dc, x3, x4, x5 / 2, x6, x7, x8, s0, s1, ds⟩ : Ov) rfl)) ?_
                  have hgs := grownBy_setCells w7 vb [.int .i64 x0, .int .i64 x1, .int .i64 x2, .slice da dn dc, .int .i64 x3, .int .i64 x4, .int .i64 (x5 / 2), .int .i64 x6, .int .i64 x7, .int .i64 x8, .string s0, .string s1] 0
                  have hrz : (w7.setCells vb 0 [.int .i64 x0, .int .i64 x1, .int .i64 x2, .slice da dn dc, .int .i64 x3, .int .i64 x4, .int .i64 (x5 / 2), .int .i64 x6, .int .i64 x7, .int .i64 x8, .string s0, .string s1]).rangeAt vb 0 [.int .i64 x0, .int .i64 x1, .int .i64 x2, .slice da dn dc, .int .i64 x3, .int .i64 x4, .int .i64 (x5 / 2), .int .i64 x6, .int .i64 x7, .int .i64 x8, .string s0, .string s1] := World.rangeAt_setCells_same w7 _ _ _ hvb
                  have hth8 : (w7.setCells vb 0 [.int .i64 x0, .int .i64 x1, .int .i64 x2, .slice da dn dc, .int .i64 x3, .int .i64 x4, .int .i64 (x5 / 2), .int .i64 x6, .int .i64 x7, .int .i64 x8, .string s0, .string s1]).there vb 0 12 := World.there_setCells hvb _ _ _
                  have hb8 : Below w3.heap.size w3 (w7.setCells vb 0 [.int .i64 x0, .int .i64 x1, .int .i64 x2, .slice da dn dc, .int .i64 x3, .int .i64 x4, .int .i64 (x5 / 2), .int .i64 x6, .int .i64 x7, .int .i64 x8, .string s0, .string s1]) := below_cellsC hvl _ _ _ hb6
                  have ho8 : Own 3 (w7.setCells vb 0 [.int .i64 x0, .int .i64 x1, .int .i64 x2, .slice da dn dc, .int .i64 x3, .int .i64 x4, .int .i64 (x5 / 2), .int .i64 x6, .int .i64 x7, .int .i64 x8, .string s0, .string s1]) w3.heap.size (.slice da dn dc) (ds.map (Value.int .i64)) := World.ownsRow.kept ho6 hgs (.inr (fun e => hvn e))
                  refine hK.out _ _ (by obtain ⟨h0, h1, h2, h3, h4, h5, h6, h7, h8, ht0, ht1⟩ := hV; exact ⟨hgs.cell h0 (fun e => by injection e with e; simp at e; omega), hgs.cell h1 (fun e => by injection e with e; simp at e; omega), hgs.cell h2 (fun e => by injection e with e; simp at e; omega), hgs.cell h3 (fun e => by injection e with e; simp at e; omega), hgs.cell h4 (fun e => by injection e with e; simp at e; omega), hgs.cell h5 (fun e => by injection e with e; simp at e; omega), hgs.cell h6 (fun e => by injection e with e; simp at e; omega), hgs.cell h7 (fun e => by injection e with e; simp at e; omega), hgs.cell h8 (fun e => by injection e with e; simp at e; omega), hgs.cell ht0 (fun e => by injection e with e; simp at e; omega), hgs.cell ht1 (fun e => by injection e with e; simp at e; omega)⟩) (fun hW => ?_)
                  clear hK K hgs
                  refine wpAnyH_done (by kernel_rfl) ?_ _
                  clear hW hV
                  go_wp2_with fail
                  go_meet
                  exact ⟨vb, da, dn, dc, rfl, hrz, hth8, ho8, hb8, hvl, hvn⟩
                case wayA2 =>
                  rw [if_pos (by kernel_rfl)]
                  go_simp
                  refine hK.out _ _ (by obtain ⟨h0, h1, h2, h3, h4, h5, h6, h7, h8, ht0, ht1⟩ := hA; exact ⟨cell_on (below_alloc _ _) h0, cell_on (below_alloc _ _) h1, cell_on (below_alloc _ _) h2, cell_on (below_alloc _ _) h3, cell_on (below_alloc _ _) h4, cell_on (below_alloc _ _) h5, cell_on (below_alloc _ _) h6, cell_on (below_alloc _ _) h7, cell_on (below_alloc _ _) h8, cell_on (below_alloc _ _) ht0, cell_on (below_alloc _ _) ht1⟩) (fun hA2 => ?_)
                  clear hK K hrA hbA
                  have hzQ : ((w3.alloc (.cells #[] 3)).alloc (.cells #[.int .i64 0, .int .i64 0, .int .i64 0, .slice none 0 0, .int .i64 0, .int .i64 0, .int .i64 0, .int .i64 0, .int .i64 0, .int .i64 0, .string ⟨#[]⟩, .string ⟨#[]⟩] 41)).heap[(w3.heap.size + 1)]? = some (.cells #[.int .i64 0, .int .i64 0, .int .i64 0, .slice none 0 0, .int .i64 0, .int .i64 0, .int .i64 0, .int .i64 0, .int .i64 0, .int .i64 0, .string ⟨#[]⟩, .string ⟨#[]⟩] 41 (0, 0)) := by have := heap_alloc_new (w3.alloc (.cells #[] 3)) (.cells #[.int .i64 0, .int .i64 0, .int .i64 0, .slice none 0 0, .int .i64 0, .int .i64 0, .int .i64 0, .int .i64 0, .int .i64 0, .int .i64 0, .string ⟨#[]⟩, .string ⟨#[]⟩] 41); rw [World.size_alloc] at this; exact this
                  have hbQ : Below w3.heap.size w3 (((w3.alloc (.cells #[] 3)).alloc (.cells #[.int .i64 0, .int .i64 0, .int .i64 0, .slice none 0 0, .int .i64 0, .int .i64 0, .int .i64 0, .int .i64 0, .int .i64 0, .int .i64 0, .string ⟨#[]⟩, .string ⟨#[]⟩] 41))) := below_then (below_alloc _ _) _
                  have hoQ : Own 3 (((w3.alloc (.cells #[] 3)).alloc (.cells #[.int .i64 0, .int .i64 0, .int .i64 0, .slice none 0 0, .int .i64 0, .int .i64 0, .int .i64 0, .int .i64 0, .int .i64 0, .int .i64 0, .string ⟨#[]⟩, .string ⟨#[]⟩] 41))) w3.heap.size (.slice (some ⟨w3.heap.size, 0, none⟩) 0 0) [] := World.ownsRow.alloc hoA _
                  have hrQ := hrN.belowW hbQ (Nat.le_refl _)
                  have hvb0 := there_blk hzQ (n := 12) (by simp)
                  have hvlt := (Array.getElem?_eq_some_iff.1 hzQ).1
                  generalize ((w3.alloc (.cells #[] 3)).alloc (.cells #[.int .i64 0, .int .i64 0, .int .i64 0, .slice none 0 0, .int .i64 0, .int .i64 0, .int .i64 0, .int .i64 0, .int .i64 0, .int .i64 0, .string ⟨#[]⟩, .string ⟨#[]⟩] 41)) = wq at *
                  refine wpAnyH_ready (rs := [32]) (by kernel_rfl) (by simp) ?_
                  refine AllReadyH.cons rfl (fun K hK => ?_) AllReadyH.nil
                  refine step_append_rd rfl (.tmp 68) (.tmp 70) 35 rfl w3.heap.size 3 i3 (.int .i64 0) 8 Tryz.underlying35 hi3 hy0 hy1 hy2 rfl _ [] rfl hoQ _ _ (ds.map (Value.int .i64)) rfl hrQ (by rw [hdl]; omega) hones (by rw [hdl]; decide) (by rw [hdl]; decide) hbQ.size ?_
                  intro v5 w5 ho5 hg5
                  rw [List.nil_append] at ho5
                  have hb5 : Below w3.heap.size w3 w5 := hbQ.grown hg5 hbQ.size (fun k hk => (World.ownsRow.lt hoQ k hk).1)
                  have hS5 : (fun w' => w'.cell? ⟨gn, 0, none⟩ = some (.int .i64 x0) ∧ w'.cell? ⟨gn, 1, none⟩ = some (.int .i64 x1) ∧ w'.cell? ⟨gn, 2, none⟩ = some (.int .i64 x2) ∧ w'.cell? ⟨gn, 3, none⟩ = some (.int .i64 x3) ∧ w'.cell? ⟨gn, 4, none⟩ = some (.int .i64 x4) ∧ w'.cell? ⟨gn, 5, none⟩ = some (.int .i64 x5) ∧ w'.cell? ⟨gn, 6, none⟩ = some (.int .i64 x6) ∧ w'.cell? ⟨gn, 7, none⟩ = some (.int .i64 x7) ∧ w'.cell? ⟨gn, 8, none⟩ = some (.int .i64 x8) ∧ w'.cell? ⟨gt, 0, none⟩ = some (.string s0) ∧ w'.cell? ⟨gt, 1, none⟩ = some (.string s1)) w5 := by obtain ⟨h0, h1, h2, h3, h4, h5, h6, h7, h8, ht0, ht1⟩ := hH; exact ⟨cell_on hb5 h0, cell_on hb5 h1, cell_on hb5 h2, cell_on hb5 h3, cell_on hb5 h4, cell_on hb5 h5, cell_on hb5 h6, cell_on hb5 h7, cell_on hb5 h8, cell_on hb5 ht0, cell_on hb5 ht1⟩
                  refine hK.out _ _ hS5 (fun hB => ?_)
                  have hg6 : wq.grownBy w5 (some w3.heap.size) := hg5
                  have hb5z : w5.heap[(w3.heap.size + 1)]? = wq.heap[(w3.heap.size + 1)]? := hg6.block _ hvlt (fun e => by injection e with e; omega)
                  have hvb := there_block hvb0 hb5z
                  have hvl : w3.heap.size ≤ (w3.heap.size + 1) := by omega
                  have hvn := ownInt_ne ho5 (hb5z.trans hzQ)
                  clear hK K hoQ hrQ hbQ hg5 hg6 hS5 hvb0 hzQ hb5z hvlt
                  obtain ⟨da, dn, dc, rfl⟩ : ∃ da dn dc, v5 = .slice da dn dc := by obtain ⟨x, y, e, _⟩ := ho5.slice; exact ⟨x, _, y, e⟩
                  refine tkH 33 (.agg #[.slice da dn dc]) rfl (Or.inl ⟨by kernel_rfl, by intro w hSw; clear hSw; go_simp⟩) hB ?_
                  simp only [tkS, Act.put]
                  refine tkH 40 (.agg #[.int .i64 x0, .int .i64 x1, .int .i64 x2, .slice da dn dc, .int .i64 x3, .int .i64 x4, .int .i64 (x5 / 2), .int .i64 x6, .int .i64 x7, .int .i64 x8, .string s0, .string s1]) rfl (Or.inl ⟨by kernel_rfl, by intro w hSw; clear hSw; go_simp⟩) hB ?_
                  simp only [tkS, Act.put]
                  have ho6 := ho5
                  have hb6 := hb5
                  clear ho5 hb5
                  refine wpAnyH_ready (rs := [42]) (by kernel_rfl) (by simp) ?_
                  refine AllReadyH.cons rfl (fun K hK => ?_) AllReadyH.nil
                  rw [if_pos (by kernel_rfl)]
                  refine wp_store_mid 41 _ _ rfl (w3.heap.size + 1) 0 #[.int .i64 x0, .int .i64 x1, .int .i64 x2, .slice da dn dc, .int .i64 x3, .int .i64 x4, .int .i64 (x5 / 2), .int .i64 x6, .int .i64 x7, .int .i64 x8, .string s0, .string s1] rfl rfl hvb (infoOpB (⟨x0, x1, x2, .slice da dn dc, x3, x4, x5 / 2, x6, x7, x8, s0, s1, ds⟩ : Ov)) (all_oneCell_toArray (cs_one (⟨x0, x1, x2, .slice da dn dc, x3, x4, x5 / 2, x6, x7, x8, s0, s1, ds⟩ : Ov) rfl)) ?_
                  have hgs := grownBy_setCells w5 (w3.heap.size + 1) [.int .i64 x0, .int .i64 x1, .int .i64 x2, .slice da dn dc, .int .i64 x3, .int .i64 x4, .int .i64 (x5 / 2), .int .i64 x6, .int .i64 x7, .int .i64 x8, .string s0, .string s1] 0
                  have hrz : (w5.setCells (w3.heap.size + 1) 0 [.int .i64 x0, .int .i64 x1, .int .i64 x2, .slice da dn dc, .int .i64 x3, .int .i64 x4, .int .i64 (x5 / 2), .int .i64 x6, .int .i64 x7, .int .i64 x8, .string s0, .string s1]).rangeAt (w3.heap.size + 1) 0 [.int .i64 x0, .int .i64 x1, .int .i64 x2, .slice da dn dc, .int .i64 x3, .int .i64 x4, .int .i64 (x5 / 2), .int .i64 x6, .int .i64 x7, .int .i64 x8, .string s0, .string s1] := World.rangeAt_setCells_same w5 _ _ _ hvb
                  have hth8 : (w5.setCells (w3.heap.size + 1) 0 [.int .i64 x0, .int .i64 x1, .int .i64 x2, .slice da dn dc, .int .i64 x3, .int .i64 x4, .int .i64 (x5 / 2), .int .i64 x6, .int .i64 x7, .int .i64 x8, .string s0, .string s1]).there (w3.heap.size + 1) 0 12 := World.there_setCells hvb _ _ _
                  have hb8 : Below w3.heap.size w3 (w5.setCells (w3.heap.size + 1) 0 [.int .i64 x0, .int .i64 x1, .int .i64 x2, .slice da dn dc, .int .i64 x3, .int .i64 x4, .int .i64 (x5 / 2), .int .i64 x6, .int .i64 x7, .int .i64 x8, .string s0, .string s1]) := below_cellsC hvl _ _ _ hb6
                  have ho8 : Own 3 (w5.setCells (w3.heap.size + 1) 0 [.int .i64 x0, .int .i64 x1, .int .i64 x2, .slice da dn dc, .int .i64 x3, .int .i64 x4, .int .i64 (x5 / 2), .int .i64 x6, .int .i64 x7, .int .i64 x8, .string s0, .string s1]) w3.heap.size (.slice da dn dc) (ds.map (Value.int .i64)) := World.ownsRow.kept ho6 hgs (.inr (fun e => hvn e))
                  refine hK.out _ _ (by obtain ⟨h0, h1, h2, h3, h4, h5, h6, h7, h8, ht0, ht1⟩ := hB; exact ⟨hgs.cell h0 (fun e => by injection e with e; simp at e; omega), hgs.cell h1 (fun e => by injection e with e; simp at e; omega), hgs.cell h2 (fun e => by injection e with e; simp at e; omega), hgs.cell h3 (fun e => by injection e with e; simp at e; omega), hgs.cell h4 (fun e => by injection e with e; simp at e; omega), hgs.cell h5 (fun e => by injection e with e; simp at e; omega), hgs.cell h6 (fun e => by injection e with e; simp at e; omega), hgs.cell h7 (fun e => by injection e with e; simp at e; omega), hgs.cell h8 (fun e => by injection e with e; simp at e; omega), hgs.cell ht0 (fun e => by injection e with e; simp at e; omega), hgs.cell ht1 (fun e => by injection e with e; simp at e; omega)⟩) (fun hW => ?_)
                  clear hK K hgs
                  refine wpAnyH_done (by kernel_rfl) ?_ _
                  clear hW hB
                  go_wp2_with fail
                  go_meet
                  exact ⟨(w3.heap.size + 1), da, dn, dc, rfl, hrz, hth8, ho8, hb8, hvl, hvn⟩
              case wayB =>
                rw [if_pos (by kernel_rfl)]
                go_simp
                refine hK.out _ _ (by obtain ⟨h0, h1, h2, h3, h4, h5, h6, h7, h8, ht0, ht1⟩ := hH; exact ⟨cell_on (below_alloc _ _) h0, cell_on (below_alloc _ _) h1, cell_on (below_alloc _ _) h2, cell_on (below_alloc _ _) h3, cell_on (below_alloc _ _) h4, cell_on (below_alloc _ _) h5, cell_on (below_alloc _ _) h6, cell_on (below_alloc _ _) h7, cell_on (below_alloc _ _) h8, cell_on (below_alloc _ _) ht0, cell_on (below_alloc _ _) ht1⟩) (fun hA => ?_)
                clear hK K
                refine wpAnyH_ready (rs := [29]) (by kernel_rfl) (by simp) ?_
                refine AllReadyH.cons rfl (fun K hK => ?_) AllReadyH.nil
                rw [if_pos (by kernel_rfl)]
                go_simp
                refine hK.out _ _ (by obtain ⟨h0, h1, h2, h3, h4, h5, h6, h7, h8, ht0, ht1⟩ := hA; exact ⟨cell_on (below_alloc _ _) h0, cell_on (below_alloc _ _) h1, cell_on (below_alloc _ _) h2, cell_on (below_alloc _ _) h3, cell_on (below_alloc _ _) h4, cell_on (below_alloc _ _) h5, cell_on (below_alloc _ _) h6, cell_on (below_alloc _ _) h7, cell_on (below_alloc _ _) h8, cell_on (below_alloc _ _) ht0, cell_on (below_alloc _ _) ht1⟩) (fun hA2 => ?_)
                clear hK K
                have hzQ : ((w3.alloc (.cells #[.int .i64 0, .int .i64 0, .int .i64 0, .slice none 0 0, .int .i64 0, .int .i64 0, .int .i64 0, .int .i64 0, .int .i64 0, .int .i64 0, .string ⟨#[]⟩, .string ⟨#[]⟩] 41)).alloc (.cells #[] 3)).heap[w3.heap.size]? = some (.cells #[.int .i64 0, .int .i64 0, .int .i64 0, .slice none 0 0, .int .i64 0, .int .i64 0, .int .i64 0, .int .i64 0, .int .i64 0, .int .i64 0, .string ⟨#[]⟩, .string ⟨#[]⟩] 41 (0, 0)) := ((below_alloc _ _).block w3.heap.size (by rw [World.size_alloc]; omega)).trans (heap_alloc_new w3 _)
                have hbQ : Below w3.heap.size w3 (((w3.alloc (.cells #[.int .i64 0, .int .i64 0, .int .i64 0, .slice none 0 0, .int .i64 0, .int .i64 0, .int .i64 0, .int .i64 0, .int .i64 0, .int .i64 0, .string ⟨#[]⟩, .string ⟨#[]⟩] 41)).alloc (.cells #[] 3))) := below_then (below_alloc _ _) _
                have hoQ : Own 3 (((w3.alloc (.cells #[.int .i64 0, .int .i64 0, .int .i64 0, .slice none 0 0, .int .i64 0, .int .i64 0, .int .i64 0, .int .i64 0, .int .i64 0, .int .i64 0, .string ⟨#[]⟩, .string ⟨#[]⟩] 41)).alloc (.cells #[] 3))) w3.heap.size (.slice (some ⟨(w3.heap.size + 1), 0, none⟩) 0 0) [] := by have := (own_lit (w3.alloc (.cells #[.int .i64 0, .int .i64 0, .int .i64 0, .slice none 0 0, .int .i64 0, .int .i64 0, .int .i64 0, .int .i64 0, .int .i64 0, .int .i64 0, .string ⟨#[]⟩, .string ⟨#[]⟩] 41)) 3 [] 0 rfl (by decide)).mono (by rw [World.size_alloc]; omega : w3.heap.size ≤ _); rw [World.size_alloc] at this; exact this
                have hrQ := hrN.belowW hbQ (Nat.le_refl _)
                have hvb0 := there_blk hzQ (n := 12) (by simp)
                have hvlt := (Array.getElem?_eq_some_iff.1 hzQ).1
                generalize ((w3.alloc (.cells #[.int .i64 0, .int .i64 0, .int .i64 0, .slice none 0 0, .int .i64 0, .int .i64 0, .int .i64 0, .int .i64 0, .int .i64 0, .int .i64 0, .string ⟨#[]⟩, .string ⟨#[]⟩] 41)).alloc (.cells #[] 3)) = wq at *
                refine wpAnyH_ready (rs := [32]) (by kernel_rfl) (by simp) ?_
                refine AllReadyH.cons rfl (fun K hK => ?_) AllReadyH.nil
                refine step_append_rd rfl (.tmp 68) (.tmp 70) 35 rfl w3.heap.size 3 i3 (.int .i64 0) 8 Tryz.underlying35 hi3 hy0 hy1 hy2 rfl _ [] rfl hoQ _ _ (ds.map (Value.int .i64)) rfl hrQ (by rw [hdl]; omega) hones (by rw [hdl]; decide) (by rw [hdl]; decide) hbQ.size ?_
                intro v5 w5 ho5 hg5
                rw [List.nil_append] at ho5
                have hb5 : Below w3.heap.size w3 w5 := hbQ.grown hg5 hbQ.size (fun k hk => (World.ownsRow.lt hoQ k hk).1)
                have hS5 : (fun w' => w'.cell? ⟨gn, 0, none⟩ = some (.int .i64 x0) ∧ w'.cell? ⟨gn, 1, none⟩ = some (.int .i64 x1) ∧ w'.cell? ⟨gn, 2, none⟩ = some (.int .i64 x2) ∧ w'.cell? ⟨gn, 3, none⟩ = some (.int .i64 x3) ∧ w'.cell? ⟨gn, 4, none⟩ = some (.int .i64 x4) ∧ w'.cell? ⟨gn, 5, none⟩ = some (.int .i64 x5) ∧ w'.cell? ⟨gn, 6, none⟩ = some (.int .i64 x6) ∧ w'.cell? ⟨gn, 7, none⟩ = some (.int .i64 x7) ∧ w'.cell? ⟨gn, 8, none⟩ = some (.int .i64 x8) ∧ w'.cell? ⟨gt, 0, none⟩ = some (.string s0) ∧ w'.cell? ⟨gt, 1, none⟩ = some (.string s1)) w5 := by obtain ⟨h0, h1, h2, h3, h4, h5, h6, h7, h8, ht0, ht1⟩ := hH; exact ⟨cell_on hb5 h0, cell_on hb5 h1, cell_on hb5 h2, cell_on hb5 h3, cell_on hb5 h4, cell_on hb5 h5, cell_on hb5 h6, cell_on hb5 h7, cell_on hb5 h8, cell_on hb5 ht0, cell_on hb5 ht1⟩
                refine hK.out _ _ hS5 (fun hB => ?_)
                have hg6 : wq.grownBy w5 (some (w3.heap.size + 1)) := hg5
                have hb5z : w5.heap[w3.heap.size]? = wq.heap[w3.heap.size]? := hg6.block _ hvlt (fun e => by injection e with e; omega)
                have hvb := there_block hvb0 hb5z
                have hvl : w3.heap.size ≤ w3.heap.size := by omega
                have hvn := ownInt_ne ho5 (hb5z.trans hzQ)
                clear hK K hoQ hrQ hbQ hg5 hg6 hS5 hvb0 hzQ hb5z hvlt
                obtain ⟨da, dn, dc, rfl⟩ : ∃ da dn dc, v5 = .slice da dn dc := by obtain ⟨x, y, e, _⟩ := ho5.slice; exact ⟨x, _, y, e⟩
                refine tkH 33 (.agg #[.slice da dn dc]) rfl (Or.inl ⟨by kernel_rfl, by intro w hSw; clear hSw; go_simp⟩) hB ?_
                simp only [tkS, Act.put]
                refine tkH 40 (.agg #[.int .i64 x0, .int .i64 x1, .int .i64 x2, .slice da dn dc, .int .i64 x3, .int .i64 x4, .int .i64 (x5 / 2), .int .i64 x6, .int .i64 x7, .int .i64 x8, .string s0, .string s1]) rfl (Or.inl ⟨by kernel_rfl, by intro w hSw; clear hSw; go_simp⟩) hB ?_
                simp only [tkS, Act.put]
                have ho6 := ho5
                have hb6 := hb5
                clear ho5 hb5
                refine wpAnyH_ready (rs := [42]) (by kernel_rfl) (by simp) ?_
                refine AllReadyH.cons rfl (fun K hK => ?_) AllReadyH.nil
                rw [if_pos (by kernel_rfl)]
                refine wp_store_mid 41 _ _ rfl w3.heap.size 0 #[.int .i64 x0, .int .i64 x1, .int .i64 x2, .slice da dn dc, .int .i64 x3, .int .i64 x4, .int .i64 (x5 / 2), .int .i64 x6, .int .i64 x7, .int .i64 x8, .string s0, .string s1] rfl rfl hvb (infoOpB (⟨x0, x1, x2, .slice da dn dc, x3, x4, x5 / 2, x6, x7, x8, s0, s1, ds⟩ : Ov)) (all_oneCell_toArray (cs_one (⟨x0, x1, x2, .slice da dn dc, x3, x4, x5 / 2, x6, x7, x8, s0, s1, ds⟩ : Ov) rfl)) ?_
                have hgs := grownBy_setCells w5 w3.heap.size [.int .i64 x0, .int .i64 x1, .int .i64 x2, .slice da dn dc, .int .i64 x3, .int .i64 x4, .int .i64 (x5 / 2), .int .i64 x6, .int .i64 x7, .int .i64 x8, .string s0, .string s1] 0
                have hrz : (w5.setCells w3.heap.size 0 [.int .i64 x0, .int .i64 x1, .int .i64 x2, .slice da dn dc, .int .i64 x3, .int .i64 x4, .int .i64 (x5 / 2), .int .i64 x6, .int .i64 x7, .int .i64 x8, .string s0, .string s1]).rangeAt w3.heap.size 0 [.int .i64 x0, .int .i64 x1, .int .i64 x2, .slice da dn dc, .int .i64 x3, .int .i64 x4, .int .i64 (x5 / 2), .int .i64 x6, .int .i64 x7, .int .i64 x8, .string s0, .string s1] := World.rangeAt_setCells_same w5 _ _ _ hvb
                have hth8 : (w5.setCells w3.heap.size 0 [.int .i64 x0, .int .i64 x1, .int .i64 x2, .slice da dn dc, .int .i64 x3, .int .i64 x4, .int .i64 (x5 / 2), .int .i64 x6, .int .i64 x7, .int .i64 x8, .string s0, .string s1]).there w3.heap.size 0 12 := World.there_setCells hvb _ _ _
                have hb8 : Below w3.heap.size w3 (w5.setCells w3.heap.size 0 [.int .i64 x0, .int .i64 x1, .int .i64 x2, .slice da dn dc, .int .i64 x3, .int .i64 x4, .int .i64 (x5 / 2), .int .i64 x6, .int .i64 x7, .int .i64 x8, .string s0, .string s1]) := below_cellsC hvl _ _ _ hb6
                have ho8 : Own 3 (w5.setCells w3.heap.size 0 [.int .i64 x0, .int .i64 x1, .int .i64 x2, .slice da dn dc, .int .i64 x3, .int .i64 x4, .int .i64 (x5 / 2), .int .i64 x6, .int .i64 x7, .int .i64 x8, .string s0, .string s1]) w3.heap.size (.slice da dn dc) (ds.map (Value.int .i64)) := World.ownsRow.kept ho6 hgs (.inr (fun e => hvn e))
                refine hK.out _ _ (by obtain ⟨h0, h1, h2, h3, h4, h5, h6, h7, h8, ht0, ht1⟩ := hB; exact ⟨hgs.cell h0 (fun e => by injection e with e; simp at e; omega), hgs.cell h1 (fun e => by injection e with e; simp at e; omega), hgs.cell h2 (fun e => by injection e with e; simp at e; omega), hgs.cell h3 (fun e => by injection e with e; simp at e; omega), hgs.cell h4 (fun e => by injection e with e; simp at e; omega), hgs.cell h5 (fun e => by injection e with e; simp at e; omega), hgs.cell h6 (fun e => by injection e with e; simp at e; omega), hgs.cell h7 (fun e => by injection e with e; simp at e; omega), hgs.cell h8 (fun e => by injection e with e; simp at e; omega), hgs.cell ht0 (fun e => by injection e with e; simp at e; omega), hgs.cell ht1 (fun e => by injection e with e; simp at e; omega)⟩) (fun hW => ?_)
                clear hK K hgs
                refine wpAnyH_done (by kernel_rfl) ?_ _
                clear hW hB
                go_wp2_with fail
                go_meet
                exact ⟨w3.heap.size, da, dn, dc, rfl, hrz, hth8, ho8, hb8, hvl, hvn⟩
            case rest =>
              obtain ⟨vb, da, dn, dc, rfl, Hrz, Hth, HoD, hb4, hvl, hvn⟩ := hcut
              have hsz3 := hb3.size
              have hz4 := (hb4.block w.heap.size (by omega)).trans hz3
              have hbw4 : Below w.heap.size w wc := below_seq hb3 hb4
              have n5 : wc.cell? ⟨gn, 5, none⟩ = some (.int .i64 x5) := cell_on hb4 ((own_cell hoT3 (k := 5) (by simp)).trans rfl)
              have hoD : Own 3 wc w.heap.size (.slice da dn dc) (ds.map (Value.int .i64)) := Own.mono HoD hsz3
              obtain ⟨N, HN⟩ : ∃ N, Hid (unf x5 = N) := ⟨_, rfl⟩
              have hop9 : Hid (opOfT [x0, x1, x2, x3, x4, x5, x6, x7, x8] [s0, s1] = opOfT [x0, x1, x2, x3, x4, x5, x6, x7, x8] [s0, s1]) := rfl
              have hX : opOfT (x0 :: x1 :: x2 :: x3 :: x4 :: x5 :: x6 :: x7 :: x8 :: ds) [s0, s1] = (⟨x0, x1, x2, .slice none 0 0, x3, x4, N, x6, x7, x8, s0, s1, ds⟩ : Ov) := by rw [← HN.out]; rfl
              obtain ⟨m5, rfl⟩ := Int.eq_ofNat_of_zero_le hn0
              have hgv : gn ≠ vb := by omega
              have hth6 := Hth.out 6 (by omega)
              rw [Nat.zero_add] at hth6
              clear hz3 hb3 hoT3 hoS3 hoT2 hoS hz0 hbz c1 c2 hop9 HoD
              go_upto_if 84 with fail
              go_cut [] from 84 to 91 (fun wx => Hid (wx.rangeAt vb 0 [.int .i64 x0, .int .i64 x1, .int .i64 x2, .slice da dn dc, .int .i64 x3, .int .i64 x4, .int .i64 N, .int .i64 x6, .int .i64 x7, .int .i64 x8, .string s0, .string s1]) ∧ wx.heap[w.heap.size]? = some (.cells #[.int .i64 0, .int .i64 0, .int .i64 0, .slice none 0 0, .int .i64 0, .int .i64 0, .int .i64 0, .int .i64 0, .int .i64 0, .int .i64 0, .string ⟨#[]⟩, .string ⟨#[]⟩] 41 (0, 0)) ∧ Own 3 wx w.heap.size (.slice da dn dc) (ds.map (Value.int .i64)) ∧ Below w.heap.size w wx)
              case first =>
                by_cases hodd : m5 % 2 = 1
                · have q1 : (m5 : Int) % 2 = 1 := by omega
                  have hc6 : wc.cell? ⟨vb, 6, none⟩ = some (.int .i64 ((m5 : Int) / 2)) := by have := Hrz.out 6 _ rfl; rwa [Nat.zero_add] at this
                  have hf6 := hth6.2
                  have hNv : N = -(((m5 : Int) + 1) / 2) := by rw [← HN.out]; unfold unf; rw [if_pos (by omega)]
                  have hw6 : wrap64 (-((m5 : Int) + 1).tdiv 2) = N := by
                    have e1 : ((m5 : Int) + 1).tdiv 2 = ((m5 : Int) + 1) / 2 := Int.tdiv_eq_ediv_of_nonneg (by omega)
                    have e2 : (-((m5 : Int) + 1)).tdiv 2 = -(((m5 : Int) + 1) / 2) := by rw [Int.neg_tdiv, e1]
                    rw [hNv]
                    have e3 : wrap64 (-(((m5 : Int) + 1) / 2)) = -(((m5 : Int) + 1) / 2) := by have := IntKind.wrap_i64 (-(((m5 : Int) + 1) / 2)); first | (unfold wrap64; omega) | (rw [← this]; rw [IntKind.wrap_i64]; omega)
                    first
                      | (rw [e1]; exact e3)
                      | (rw [e2]; exact e3)
                  have hg6 := gr_set6 wc vb 6 (.int .i64 N)
                  have hr6 : (wc.setCell ⟨vb, 6, none⟩ (.int .i64 N)).rangeAt vb 0 [.int .i64 x0, .int .i64 x1, .int .i64 x2, .slice da dn dc, .int .i64 x3, .int .i64 x4, .int .i64 N, .int .i64 x6, .int .i64 x7, .int .i64 x8, .string s0, .string s1] := range_set6 Hrz.out
                  have hz6 : (wc.setCell ⟨vb, 6, none⟩ (.int .i64 N)).heap[w.heap.size]? = some (.cells #[.int .i64 0, .int .i64 0, .int .i64 0, .slice none 0 0, .int .i64 0, .int .i64 0, .int .i64 0, .int .i64 0, .int .i64 0, .int .i64 0, .string ⟨#[]⟩, .string ⟨#[]⟩] 41 (0, 0)) := (hg6.block w.heap.size (by have := hbw4.size; have := (Array.getElem?_eq_some_iff.1 hz4).1; omega) (fun e => by injection e with e; omega)).trans hz4
                  have ho6 : Own 3 (wc.setCell ⟨vb, 6, none⟩ (.int .i64 N)) w.heap.size (.slice da dn dc) (ds.map (Value.int .i64)) := World.ownsRow.kept hoD hg6 (.inr hvn)
                  have hb6 : Below w.heap.size w (wc.setCell ⟨vb, 6, none⟩ (.int .i64 N)) := hbw4.grown hg6 hbw4.size (fun k hk => by cases hk; omega)
                  have HW6 : Hid _ := hw6
                  clear hg6 hw6 hNv
                  go_wp2_with fail
                  rw [HW6.out]
                  go_meet
                  exact ⟨hr6, hz6, ho6, hb6⟩
                · have q1 : (m5 : Int) % 2 = 0 := by omega
                  go_wp2_with fail
                  go_meet
                  exact ⟨by have h := Hrz.out; rw [show (m5 : Int) / 2 = N by rw [← HN.out]; unfold unf; rw [if_neg (by omega)]] at h; exact h, hz4, hoD, hbw4⟩
              case rest =>
                obtain ⟨Hrg, hz5, hoD5, hb5⟩ := hcut
                have hrb := HRX.out _ hb5.drew
                have hz : wc.drew.heap[w.heap.size]? = some (.cells #[.int .i64 0, .int .i64 0, .int .i64 0, .slice none 0 0, .int .i64 0, .int .i64 0, .int .i64 0, .int .i64 0, .int .i64 0, .int .i64 0, .string ⟨#[]⟩, .string ⟨#[]⟩] 41 (0, 0)) := hz5
                have ho : Own 3 wc.drew w.heap.size (.slice da dn dc) (ds.map (Value.int .i64)) := hoD5
                have hb : Below w.heap.size w wc.drew := hb5.drew
                have hrg9 : wc.drew.rangeAt vb 0 [.int .i64 x0, .int .i64 x1, .int .i64 x2, .slice da dn dc, .int .i64 x3, .int .i64 x4, .int .i64 N, .int .i64 x6, .int .i64 x7, .int .i64 x8, .string s0, .string s1] := Hrg.out
                have hwn : (Value.slice da dn dc).ownBlock ≠ some w.heap.size := ownInt_ne ho hz
                have HI : (Tryz.prog.info? 41).map (·.size) = some (([.int .i64 x0, .int .i64 x1, .int .i64 x2, .slice da dn dc, .int .i64 x3, .int .i64 x4, .int .i64 N, .int .i64 x6, .int .i64 x7, .int .i64 x8, .string s0, .string s1] : List Value)).length := infoOpB (⟨x0, x1, x2, .slice da dn dc, x3, x4, N, x6, x7, x8, s0, s1, ds⟩ : Ov)
                have HI2 : (Tryz.prog.info? 41).map (·.size) = some (([.int .i64 x0, .int .i64 x1, .int .i64 x2, .slice da dn dc, .int .i64 x3, .int .i64 x4, .int .i64 N, .int .i64 x6, .int .i64 x7, .int .i64 x8, .string s0, .string s1] : List Value).toArray).size := HI
                have hone := all_oneCell_toArray (cs_one (⟨x0, x1, x2, .slice da dn dc, x3, x4, N, x6, x7, x8, s0, s1, ds⟩ : Ov) rfl)
                unfold Ov.cs at hone
                have hvw : w.heap.size < vb := by have := (Array.getElem?_eq_some_iff.1 hz4).1; omega
                obtain ⟨okb, HOK⟩ : ∃ b, opB x0 x1 x2 x3 x4 N x6 x7 x8 s0 s1 ds = b := ⟨_, rfl⟩
                have HSP : Hid (opSp xs = if okb = true ∧ opBy x0 x1 x2 x3 x4 N x6 x7 x8 s0 s1 ds = xs then some (⟨x0, x1, x2, .slice none 0 0, x3, x4, N, x6, x7, x8, s0, s1, ds⟩ : Ov) else none) := by
                  unfold Hid
                  rw [hsp, hX]
                  have e1 : (⟨x0, x1, x2, .slice none 0 0, x3, x4, N, x6, x7, x8, s0, s1, ds⟩ : Ov).ok = okb := HOK
                  have e2 : opByO (⟨x0, x1, x2, .slice none 0 0, x3, x4, N, x6, x7, x8, s0, s1, ds⟩ : Ov) = opBy x0 x1 x2 x3 x4 N x6 x7 x8 s0 s1 ds := rfl
                  rw [e1, e2]
                  by_cases h : okb = true ∧ opBy x0 x1 x2 x3 x4 N x6 x7 x8 s0 s1 ds = xs
                  · rw [if_pos h, if_pos ⟨by first | rfl | trivial, by simp [hds], by first | rfl | trivial, h.1, h.2⟩]
                  · rw [if_neg h, if_neg (fun h' => h ⟨h'.2.2.2.1, h'.2.2.2.2⟩)]
                have HFA : Hid (okb = true → OpFacts x0 x1 x2 x3 x4 N x6 x7 x8 s0 s1 ds) := fun h => op_facts (HOK.trans h)
                have HOKC : Hid (∀ w', Below wc.drew.heap.size wc.drew w' → Calls Tryz.prog 28 #[(.agg #[.int .i64 x0, .int .i64 x1, .int .i64 x2, .slice da dn dc, .int .i64 x3, .int .i64 x4, .int .i64 N, .int .i64 x6, .int .i64 x7, .int .i64 x8, .string s0, .string s1])] w' fun e w'' => e = .returned (.bool okb) ∧ Below w'.heap.size w' w'') := fun w' hb' => by
                  have := specOpOK_any wc.drew.heap.size x0 x1 x2 x3 x4 N x6 x7 x8 (.slice da dn dc) s0 s1 ds w' hb'.size (ho.rd.belowW hb' (Nat.le_refl _))
                  rwa [HOK] at this
                have HBYC : Hid (okb = true → ∀ w', Below wc.drew.heap.size wc.drew w' → Calls Tryz.prog 29 #[(.agg #[.int .i64 x0, .int .i64 x1, .int .i64 x2, .slice da dn dc, .int .i64 x3, .int .i64 x4, .int .i64 N, .int .i64 x6, .int .i64 x7, .int .i64 x8, .string s0, .string s1])] w' fun e w'' => ∃ r, e = .returned r ∧ Own 5 w'' w'.heap.size r ((opBy x0 x1 x2 x3 x4 N x6 x7 x8 s0 s1 ds).map (Value.int .u8)) ∧ Below w'.heap.size w' w'') := fun h w' hb' => l12Bytes_any wc.drew.heap.size x0 x1 x2 x3 x4 N x6 x7 x8 (.slice da dn dc) s0 s1 ds w' hb'.size (HFA.out h) (ho.rd.belowW hb' (Nat.le_refl _))
                have HBB : Hid (okb = true → ∀ c ∈ opBy x0 x1 x2 x3 x4 N x6 x7 x8 s0 s1 ds, 0 ≤ c ∧ c ≤ 255) := fun h => opBy_byteR _ _ _ _ _ _ _ _ _ _ _ _
                have hb0 := Below.refl wc.drew.heap.size wc.drew
                obtain ⟨BY, HBYE⟩ : ∃ B, Hid (opBy x0 x1 x2 x3 x4 N x6 x7 x8 s0 s1 ds = B) := ⟨_, rfl⟩
                rw [HBYE.out] at HSP HBYC HBB
                clear hz4 hz5 hoD5 hb5 Hrg hX hsp HOK HFA Hrz Hth hoD n5 hth6 hbw4 hb4 hvn hvl
                go_upto_region 9 with fail
                refine wp_region_held_drew (S := fun w' => w'.rangeAt vb 0 [.int .i64 x0, .int .i64 x1, .int .i64 x2, .slice da dn dc, .int .i64 x3, .int .i64 x4, .int .i64 N, .int .i64 x6, .int .i64 x7, .int .i64 x8, .string s0, .string s1] ∧ Rd C w' (.slice va xs.length vc) (xs.map (Value.int .u8))) (by kernel_rfl) ⟨hrg9, hrb⟩ (fun hH => ?_)
                clear hrg9 hrb
                generalize wc.drew = w5 at *
                refine wpAnyH_take (i := 0) (v := .agg ([.int .i64 x0, .int .i64 x1, .int .i64 x2, .slice da dn dc, .int .i64 x3, .int .i64 x4, .int .i64 N, .int .i64 x6, .int .i64 x7, .int .i64 x8, .string s0, .string s1] : List Value).toArray) rfl (by kernel_rfl) (by kernel_rfl) (by kernel_rfl) (fun _ _ _ h => h) (yieldsIf_load_mid (by kernel_rfl) _ _ rfl vb 0 rfl [.int .i64 x0, .int .i64 x1, .int .i64 x2, .slice da dn dc, .int .i64 x3, .int .i64 x4, .int .i64 N, .int .i64 x6, .int .i64 x7, .int .i64 x8, .string s0, .string s1] _ (fun w h => h.1) Tryz.underlying41 rfl HI) hH ?_
                simp only [tkS, Act.put]
                refine wpAnyH_take (i := 1) (v := .agg ([.int .i64 x0, .int .i64 x1, .int .i64 x2, .slice da dn dc, .int .i64 x3, .int .i64 x4, .int .i64 N, .int .i64 x6, .int .i64 x7, .int .i64 x8, .string s0, .string s1] : List Value).toArray) rfl (by kernel_rfl) (by kernel_rfl) (by kernel_rfl) (fun _ _ _ h => h) (yieldsIf_load_mid (by kernel_rfl) _ _ rfl vb 0 rfl [.int .i64 x0, .int .i64 x1, .int .i64 x2, .slice da dn dc, .int .i64 x3, .int .i64 x4, .int .i64 N, .int .i64 x6, .int .i64 x7, .int .i64 x8, .string s0, .string s1] _ (fun w h => h.1) Tryz.underlying41 rfl HI) hH ?_
                simp only [tkS, Act.put]
                refine wpAnyH_ready (rs := [2]) (by kernel_rfl) (by simp) ?_
                refine AllReadyH.cons rfl (fun K hK => ?_) AllReadyH.nil
                rw [if_pos (by kernel_rfl)]
                go_simp
                refine (HOKC.out w5 hb0).mono ?_
                rintro e w6 ⟨rfl, hb6⟩
                replace hz := (hb6.block w.heap.size (Array.getElem?_eq_some_iff.1 hz).1).trans hz
                replace ho := Own.below ho hb6 (Nat.le_refl _)
                replace hb := below_seq hb hb6
                replace hb0 := below_seq hb0 hb6
                refine hK.out _ _ ⟨fun j u hj => cell_on hb6 (hH.1 j u hj), HRX.out _ hb⟩ (fun hH6 => ?_)
                clear hK K hH hb6 HOKC
                refine tkH 3 (.bool okb) rfl (Or.inl ⟨by kernel_rfl, by intro w hSw; clear hSw; go_simp⟩) hH6 ?_
                simp only [tkS, Act.put]
                cases okb with
                | false =>
                  refine tkH 4 undef rfl (Or.inr ⟨by kernel_rfl, rfl⟩) hH6 ?_
                  simp only [tkS, Act.put]
                  refine tkH 7 undef rfl (Or.inr ⟨by kernel_rfl, rfl⟩) hH6 ?_
                  simp only [tkS, Act.put]
                  refine tkH 8 undef rfl (Or.inr ⟨by kernel_rfl, rfl⟩) hH6 ?_
                  simp only [tkS, Act.put]
                  refine wpAnyH_ready (rs := [5]) (by kernel_rfl) (by simp) ?_
                  refine AllReadyH.cons rfl (fun K hK => ?_) AllReadyH.nil
                  rw [if_neg (bne_true_of (by kernel_rfl))]
                  refine hK.out _ _ hH6 (fun hH7 => ?_)
                  clear hK K hH6 HBYC
                  refine tkH 6 undef rfl (Or.inr ⟨by kernel_rfl, rfl⟩) hH7 ?_
                  simp only [tkS, Act.put]
                  refine tkH 9 undef rfl (Or.inr ⟨by kernel_rfl, rfl⟩) hH7 ?_
                  simp only [tkS, Act.put]
                  refine tkH 10 (.bool false) rfl (Or.inl ⟨by kernel_rfl, by intro w hSw; clear hSw; go_simp⟩) hH7 ?_
                  simp only [tkS, Act.put]
                  refine wpAnyH_ready (rs := [11]) (by kernel_rfl) (by simp) ?_
                  refine AllReadyH.cons rfl (fun K hK => ?_) AllReadyH.nil
                  rw [if_pos (by kernel_rfl)]
                  refine wp_store_mid 41 _ _ rfl w.heap.size 0 ([.int .i64 x0, .int .i64 x1, .int .i64 x2, .slice da dn dc, .int .i64 x3, .int .i64 x4, .int .i64 N, .int .i64 x6, .int .i64 x7, .int .i64 x8, .string s0, .string s1] : List Value).toArray rfl rfl (there_blk hz (by simp)) HI2 hone ?_
                  have hgs := grownBy_setCells w6 w.heap.size [.int .i64 x0, .int .i64 x1, .int .i64 x2, .slice da dn dc, .int .i64 x3, .int .i64 x4, .int .i64 N, .int .i64 x6, .int .i64 x7, .int .i64 x8, .string s0, .string s1] 0
                  have hrz : (w6.setCells w.heap.size 0 [.int .i64 x0, .int .i64 x1, .int .i64 x2, .slice da dn dc, .int .i64 x3, .int .i64 x4, .int .i64 N, .int .i64 x6, .int .i64 x7, .int .i64 x8, .string s0, .string s1]).rangeAt w.heap.size 0 [.int .i64 x0, .int .i64 x1, .int .i64 x2, .slice da dn dc, .int .i64 x3, .int .i64 x4, .int .i64 N, .int .i64 x6, .int .i64 x7, .int .i64 x8, .string s0, .string s1] := World.rangeAt_setCells_same w6 _ _ _ (there_blk hz (by simp))
                  have hbs : Below w.heap.size w (w6.setCells w.heap.size 0 [.int .i64 x0, .int .i64 x1, .int .i64 x2, .slice da dn dc, .int .i64 x3, .int .i64 x4, .int .i64 N, .int .i64 x6, .int .i64 x7, .int .i64 x8, .string s0, .string s1]) := below_cellsC (Nat.le_refl _) _ _ _ hb
                  have hos : Own 3 (w6.setCells w.heap.size 0 [.int .i64 x0, .int .i64 x1, .int .i64 x2, .slice da dn dc, .int .i64 x3, .int .i64 x4, .int .i64 N, .int .i64 x6, .int .i64 x7, .int .i64 x8, .string s0, .string s1]) w.heap.size (.slice da dn dc) (ds.map (Value.int .i64)) := World.ownsRow.kept ho hgs (.inr hwn)
                  refine hK.out _ _ ⟨World.rangeAt_setCells_apart hH7.1 _ _ _ (.inl (by omega)), HRX.out _ hbs⟩ (fun hH8 => ?_)
                  clear hK K hz
                  replace ho := hos
                  replace hb := hbs
                  clear hos hbs hgs
                  generalize w6.setCells w.heap.size 0 [.int .i64 x0, .int .i64 x1, .int .i64 x2, .slice da dn dc, .int .i64 x3, .int .i64 x4, .int .i64 N, .int .i64 x6, .int .i64 x7, .int .i64 x8, .string s0, .string s1] = w7 at *
                  refine tkH 12 (.bool false) rfl (Or.inl ⟨by kernel_rfl, by intro w hSw; clear hSw; go_simp⟩) hH8 ?_
                  simp only [tkS, Act.put]
                  refine wpAnyH_done (by kernel_rfl) ?_ _
                  have hld := run_loadVar_mid (P := Tryz.prog) w7 w.heap.size 0 41 [.int .i64 x0, .int .i64 x1, .int .i64 x2, .slice da dn dc, .int .i64 x3, .int .i64 x4, .int .i64 N, .int .i64 x6, .int .i64 x7, .int .i64 x8, .string s0, .string s1] _ hrz Tryz.underlying41 rfl HI
                  have HLD : Hid _ := hld
                  have HF : Hid (OpSAns xs w.heap.size (⟨x0, x1, x2, .slice da dn dc, x3, x4, N, x6, x7, x8, s0, s1, ds⟩ : Ov) false w7) := by unfold Hid OpSAns; rw [HSP.out, if_neg (by simp)]
                  have HBF : Hid (Below w.heap.size w w7) := hb
                  clear hld hrz hH8
                  go_wp2_with fail
                  have hld := HLD.out
                  exact bodyPost_ret (v := .tuple #[.agg ([.int .i64 x0, .int .i64 x1, .int .i64 x2, .slice da dn dc, .int .i64 x3, .int .i64 x4, .int .i64 N, .int .i64 x6, .int .i64 x7, .int .i64 x8, .string s0, .string s1] : List Value).toArray, .bool false]) (by simp [results, Tryz.results19, asAddr, hld]) rfl ⟨⟨(⟨x0, x1, x2, .slice da dn dc, x3, x4, N, x6, x7, x8, s0, s1, ds⟩ : Ov), false, rfl, ⟨da, dn, dc, rfl⟩, HF.out, HBF.out⟩⟩
                | true =>
                  refine wpAnyH_take (i := 4) (v := .agg ([.int .i64 x0, .int .i64 x1, .int .i64 x2, .slice da dn dc, .int .i64 x3, .int .i64 x4, .int .i64 N, .int .i64 x6, .int .i64 x7, .int .i64 x8, .string s0, .string s1] : List Value).toArray) rfl (by kernel_rfl) (by kernel_rfl) (by kernel_rfl) (fun _ _ _ h => h) (yieldsIf_load_mid (by kernel_rfl) _ _ rfl vb 0 rfl [.int .i64 x0, .int .i64 x1, .int .i64 x2, .slice da dn dc, .int .i64 x3, .int .i64 x4, .int .i64 N, .int .i64 x6, .int .i64 x7, .int .i64 x8, .string s0, .string s1] _ (fun w h => h.1) Tryz.underlying41 rfl HI) hH6 ?_
                  simp only [tkS, Act.put]
                  refine tkH 7 (.slice va xs.length vc) rfl (Or.inl ⟨by kernel_rfl, by intro w hSw; clear hSw; go_simp⟩) hH6 ?_
                  simp only [tkS, Act.put]
                  refine tkH 8 (.string (ofInts xs)) rfl (Or.inl ⟨by kernel_rfl, by intro w hSw; have hst := run_string_of hSw.2; clear hSw; go_simp⟩) hH6 ?_
                  simp only [tkS, Act.put]
                  refine wpAnyH_ready (rs := [5]) (by kernel_rfl) (by simp) ?_
                  refine AllReadyH.cons rfl (fun K hK => ?_) AllReadyH.nil
                  rw [if_pos (by kernel_rfl)]
                  go_simp
                  refine (HBYC.out rfl w6 hb0).mono ?_
                  rintro e w7 ⟨r7, rfl, ho7, hb7⟩
                  obtain ⟨ra, rk, er, _⟩ := ho7.slice
                  rw [List.length_map] at er
                  subst er
                  have hzl := (Array.getElem?_eq_some_iff.1 hz).1
                  replace hz := (hb7.block w.heap.size (Array.getElem?_eq_some_iff.1 hz).1).trans hz
                  replace ho := Own.below ho hb7 (Nat.le_refl _)
                  have hs7 := hb.size
                  replace hb := below_seq hb hb7
                  have hgr : (Value.slice ra BY.length rk).ownBlock ≠ some w.heap.size := fun e => by have := (World.ownsRow.lt ho7 _ e).1; omega
                  refine hK.out _ _ ⟨fun j u hj => cell_on hb7 (hH6.1 j u hj), HRX.out _ hb⟩ (fun hH7 => ?_)
                  clear hK K hH6 hb7 HBYC
                  have HDC := ofInts_dec (fun c hc => HBB.out rfl c hc : Bytes BY) hx
                  have hst7 := run_string_of ho7.rd
                  obtain ⟨dec, HDEC⟩ : ∃ d : Bool, Hid (d = decide (BY = xs)) := ⟨_, rfl⟩
                  have HANS : Hid (∀ wz, Own 3 wz w.heap.size (.slice da dn dc) (ds.map (Value.int .i64)) → OpSAns xs w.heap.size (⟨x0, x1, x2, .slice da dn dc, x3, x4, N, x6, x7, x8, s0, s1, ds⟩ : Ov) dec wz) := by
                    intro wz hwz
                    unfold OpSAns
                    rw [HSP.out]
                    by_cases he : BY = xs
                    · rw [if_pos ⟨rfl, he⟩]
                      exact ⟨by rw [HDEC.out]; exact decide_eq_true he, rfl, hwz⟩
                    · rw [if_neg (fun h => he h.2)]
                      rw [HDEC.out]; exact decide_eq_false he
                  rw [← HDEC.out] at HDC
                  refine wpAnyH_ready (rs := [6, 11]) (by kernel_rfl) (by simp) ?_
                  refine AllReadyH.cons rfl (fun K hK => ?wayP) (AllReadyH.cons rfl (fun K hK => ?wayQ) AllReadyH.nil)
                  case wayP =>
                    rw [if_pos (by kernel_rfl)]
                    go_simp
                    refine hK.out _ _ hH7 (fun hH8 => ?_)
                    clear hK K hH7 hst7 ho7 hgr
                    refine tkH 9 (.bool dec) rfl (Or.inl ⟨by kernel_rfl, by intro w hSw; clear hSw; go_simp; (try exact HDC)⟩) hH8 ?_
                    simp only [tkS, Act.put]
                    refine tkH 10 (.bool dec) rfl (Or.inl ⟨by kernel_rfl, by intro w hSw; clear hSw; go_simp⟩) hH8 ?_
                    simp only [tkS, Act.put]
                    refine wpAnyH_ready (rs := [11]) (by kernel_rfl) (by simp) ?_
                    refine AllReadyH.cons rfl (fun K hK => ?_) AllReadyH.nil
                    rw [if_pos (by kernel_rfl)]
                    refine wp_store_mid 41 _ _ rfl w.heap.size 0 ([.int .i64 x0, .int .i64 x1, .int .i64 x2, .slice da dn dc, .int .i64 x3, .int .i64 x4, .int .i64 N, .int .i64 x6, .int .i64 x7, .int .i64 x8, .string s0, .string s1] : List Value).toArray rfl rfl (there_blk hz (by simp)) HI2 hone ?_
                    have hgs := grownBy_setCells w7 w.heap.size [.int .i64 x0, .int .i64 x1, .int .i64 x2, .slice da dn dc, .int .i64 x3, .int .i64 x4, .int .i64 N, .int .i64 x6, .int .i64 x7, .int .i64 x8, .string s0, .string s1] 0
                    have hrz : (w7.setCells w.heap.size 0 [.int .i64 x0, .int .i64 x1, .int .i64 x2, .slice da dn dc, .int .i64 x3, .int .i64 x4, .int .i64 N, .int .i64 x6, .int .i64 x7, .int .i64 x8, .string s0, .string s1]).rangeAt w.heap.size 0 [.int .i64 x0, .int .i64 x1, .int .i64 x2, .slice da dn dc, .int .i64 x3, .int .i64 x4, .int .i64 N, .int .i64 x6, .int .i64 x7, .int .i64 x8, .string s0, .string s1] := World.rangeAt_setCells_same w7 _ _ _ (there_blk hz (by simp))
                    have hbs : Below w.heap.size w (w7.setCells w.heap.size 0 [.int .i64 x0, .int .i64 x1, .int .i64 x2, .slice da dn dc, .int .i64 x3, .int .i64 x4, .int .i64 N, .int .i64 x6, .int .i64 x7, .int .i64 x8, .string s0, .string s1]) := below_cellsC (Nat.le_refl _) _ _ _ hb
                    have hos : Own 3 (w7.setCells w.heap.size 0 [.int .i64 x0, .int .i64 x1, .int .i64 x2, .slice da dn dc, .int .i64 x3, .int .i64 x4, .int .i64 N, .int .i64 x6, .int .i64 x7, .int .i64 x8, .string s0, .string s1]) w.heap.size (.slice da dn dc) (ds.map (Value.int .i64)) := World.ownsRow.kept ho hgs (.inr hwn)
                    refine hK.out _ _ ⟨World.rangeAt_setCells_apart hH8.1 _ _ _ (.inl (by omega)), HRX.out _ hbs⟩ (fun hH9 => ?_)
                    clear hK K hz
                    replace ho := hos
                    replace hb := hbs
                    clear hos hbs hgs
                    generalize w7.setCells w.heap.size 0 [.int .i64 x0, .int .i64 x1, .int .i64 x2, .slice da dn dc, .int .i64 x3, .int .i64 x4, .int .i64 N, .int .i64 x6, .int .i64 x7, .int .i64 x8, .string s0, .string s1] = w8 at *
                    refine tkH 12 (.bool dec) rfl (Or.inl ⟨by kernel_rfl, by intro w hSw; clear hSw; go_simp⟩) hH9 ?_
                    simp only [tkS, Act.put]
                    refine wpAnyH_done (by kernel_rfl) ?_ _
                    have hld := run_loadVar_mid (P := Tryz.prog) w8 w.heap.size 0 41 [.int .i64 x0, .int .i64 x1, .int .i64 x2, .slice da dn dc, .int .i64 x3, .int .i64 x4, .int .i64 N, .int .i64 x6, .int .i64 x7, .int .i64 x8, .string s0, .string s1] _ hrz Tryz.underlying41 rfl HI
                    have HLD : Hid _ := hld
                    have HF : Hid (OpSAns xs w.heap.size (⟨x0, x1, x2, .slice da dn dc, x3, x4, N, x6, x7, x8, s0, s1, ds⟩ : Ov) dec w8) := HANS.out _ ho
                    have HBF : Hid (Below w.heap.size w w8) := hb
                    clear hld hrz hH9
                    go_wp2_with fail
                    have hld := HLD.out
                    exact bodyPost_ret (v := .tuple #[.agg ([.int .i64 x0, .int .i64 x1, .int .i64 x2, .slice da dn dc, .int .i64 x3, .int .i64 x4, .int .i64 N, .int .i64 x6, .int .i64 x7, .int .i64 x8, .string s0, .string s1] : List Value).toArray, .bool dec]) (by simp [results, Tryz.results19, asAddr, hld]) rfl ⟨⟨(⟨x0, x1, x2, .slice da dn dc, x3, x4, N, x6, x7, x8, s0, s1, ds⟩ : Ov), dec, rfl, ⟨da, dn, dc, rfl⟩, HF.out, HBF.out⟩⟩
                  case wayQ =>
                    rw [if_pos (by kernel_rfl)]
                    refine wp_store_mid 41 _ _ rfl w.heap.size 0 ([.int .i64 x0, .int .i64 x1, .int .i64 x2, .slice da dn dc, .int .i64 x3, .int .i64 x4, .int .i64 N, .int .i64 x6, .int .i64 x7, .int .i64 x8, .string s0, .string s1] : List Value).toArray rfl rfl (there_blk hz (by simp)) HI2 hone ?_
                    have hgs := grownBy_setCells w7 w.heap.size [.int .i64 x0, .int .i64 x1, .int .i64 x2, .slice da dn dc, .int .i64 x3, .int .i64 x4, .int .i64 N, .int .i64 x6, .int .i64 x7, .int .i64 x8, .string s0, .string s1] 0
                    have hrz : (w7.setCells w.heap.size 0 [.int .i64 x0, .int .i64 x1, .int .i64 x2, .slice da dn dc, .int .i64 x3, .int .i64 x4, .int .i64 N, .int .i64 x6, .int .i64 x7, .int .i64 x8, .string s0, .string s1]).rangeAt w.heap.size 0 [.int .i64 x0, .int .i64 x1, .int .i64 x2, .slice da dn dc, .int .i64 x3, .int .i64 x4, .int .i64 N, .int .i64 x6, .int .i64 x7, .int .i64 x8, .string s0, .string s1] := World.rangeAt_setCells_same w7 _ _ _ (there_blk hz (by simp))
                    have hbs : Below w.heap.size w (w7.setCells w.heap.size 0 [.int .i64 x0, .int .i64 x1, .int .i64 x2, .slice da dn dc, .int .i64 x3, .int .i64 x4, .int .i64 N, .int .i64 x6, .int .i64 x7, .int .i64 x8, .string s0, .string s1]) := below_cellsC (Nat.le_refl _) _ _ _ hb
                    have hos : Own 3 (w7.setCells w.heap.size 0 [.int .i64 x0, .int .i64 x1, .int .i64 x2, .slice da dn dc, .int .i64 x3, .int .i64 x4, .int .i64 N, .int .i64 x6, .int .i64 x7, .int .i64 x8, .string s0, .string s1]) w.heap.size (.slice da dn dc) (ds.map (Value.int .i64)) := World.ownsRow.kept ho hgs (.inr hwn)
                    have ho7s := World.ownsRow.kept ho7 hgs (.inr hgr)
                    have hst8 := run_string_of (Own.rd ho7s)
                    refine hK.out _ _ ⟨World.rangeAt_setCells_apart hH7.1 _ _ _ (.inl (by omega)), HRX.out _ hbs⟩ (fun hH8 => ?_)
                    clear hK K hz
                    replace ho := hos
                    replace hb := hbs
                    clear hos hbs hgs
                    generalize w7.setCells w.heap.size 0 [.int .i64 x0, .int .i64 x1, .int .i64 x2, .slice da dn dc, .int .i64 x3, .int .i64 x4, .int .i64 N, .int .i64 x6, .int .i64 x7, .int .i64 x8, .string s0, .string s1] = w8 at *
                    refine wpAnyH_ready (rs := [6]) (by kernel_rfl) (by simp) ?_
                    refine AllReadyH.cons rfl (fun K hK => ?_) AllReadyH.nil
                    rw [if_pos (by kernel_rfl)]
                    go_simp
                    refine hK.out _ _ hH8 (fun hH9 => ?_)
                    clear hK K hH7 hst7 hst8 ho7 ho7s hgr
                    refine tkH 9 (.bool dec) rfl (Or.inl ⟨by kernel_rfl, by intro w hSw; clear hSw; go_simp; (try exact HDC)⟩) hH9 ?_
                    simp only [tkS, Act.put]
                    refine tkH 10 (.bool dec) rfl (Or.inl ⟨by kernel_rfl, by intro w hSw; clear hSw; go_simp⟩) hH9 ?_
                    simp only [tkS, Act.put]
                    refine tkH 12 (.bool dec) rfl (Or.inl ⟨by kernel_rfl, by intro w hSw; clear hSw; go_simp⟩) hH9 ?_
                    simp only [tkS, Act.put]
                    refine wpAnyH_done (by kernel_rfl) ?_ _
                    have hld := run_loadVar_mid (P := Tryz.prog) w8 w.heap.size 0 41 [.int .i64 x0, .int .i64 x1, .int .i64 x2, .slice da dn dc, .int .i64 x3, .int .i64 x4, .int .i64 N, .int .i64 x6, .int .i64 x7, .int .i64 x8, .string s0, .string s1] _ hrz Tryz.underlying41 rfl HI
                    have HLD : Hid _ := hld
                    have HF : Hid (OpSAns xs w.heap.size (⟨x0, x1, x2, .slice da dn dc, x3, x4, N, x6, x7, x8, s0, s1, ds⟩ : Ov) dec w8) := HANS.out _ ho
                    have HBF : Hid (Below w.heap.size w w8) := hb
                    clear hld hrz hH9
                    go_wp2_with fail
                    have hld := HLD.out
                    exact bodyPost_ret (v := .tuple #[.agg ([.int .i64 x0, .int .i64 x1, .int .i64 x2, .slice da dn dc, .int .i64 x3, .int .i64 x4, .int .i64 N, .int .i64 x6, .int .i64 x7, .int .i64 x8, .string s0, .string s1] : List Value).toArray, .bool dec]) (by simp [results, Tryz.results19, asAddr, hld]) rfl ⟨⟨(⟨x0, x1, x2, .slice da dn dc, x3, x4, N, x6, x7, x8, s0, s1, ds⟩ : Ov), dec, rfl, ⟨da, dn, dc, rfl⟩, HF.out, HBF.out⟩⟩
          · have hop : opSp xs = none := by rw [hsp, if_neg (fun h => h3 h.2.2.1)]
            have hq9 : ((S.length : Int) != 2) = true := by simp; omega
            have hq8 : (T.length : Int) = 25 := by omega
            subst h1
            clear h2 h3 hsp hoT2 hoS
            generalize w2 = wz at *
            have hth : wz.there w.heap.size 0 ov0.cs.length := there_blk hz0 (by simp [Ov.cs])
            have hbf : Below w.heap.size w (wz.setCells w.heap.size 0 ov0.cs) := below_cellsC (Nat.le_refl _) _ _ _ hbz
            have hrz : (wz.setCells w.heap.size 0 ov0.cs).rangeAt w.heap.size 0 ov0.cs := World.rangeAt_setCells_same wz _ _ _ hth
            have hld := run_loadVar_mid (P := Tryz.prog) (wz.setCells w.heap.size 0 ov0.cs) w.heap.size 0 41 ov0.cs _ hrz Tryz.underlying41 rfl (infoOpB _)
            have HLD : Hid _ := hld
            have HBF : Hid (Below w.heap.size w (wz.setCells w.heap.size 0 ov0.cs)) := hbf
            have hoc := all_oneCell_toArray (cs_one ov0 rfl)
            have hio := infoOpB ov0
            clear hz0 hbz hbf hrz hld
            go_upto_region 5 with fail
            refine wp_region_list ?_
            refine wpList_build rfl 41 _ rfl (by kernel_rfl) ?_
            refine wpList_store_mid rfl 41 _ _ rfl w.heap.size 0 ov0.cs.toArray rfl (by kernel_rfl) hth hio hoc ?_
            clear hth hio hoc
            show wpList Tryz.prog _ _ [_] _ (wz.setCells w.heap.size 0 ov0.cs)
            generalize wz.setCells w.heap.size 0 ov0.cs = w9 at *
            go_wp2_with fail
            have hld := HLD.out
            exact bodyPost_ret (v := .tuple #[.agg ov0.cs.toArray, .bool false]) (by simp [results, Tryz.results19, asAddr, hld]) rfl ⟨⟨ov0, false, rfl, ⟨none, 0, 0, rfl⟩, by unfold OpSAns; rw [hop], HBF.out⟩⟩
        · have hop : opSp xs = none := by rw [hsp, if_neg (fun h => h2 h.2.1)]
          have hq9 : ((T.length : Int) != 25) = true := by simp; omega
          subst h1
          clear h2 hsp hoT2 hoS
          generalize w2 = wz at *
          have hth : wz.there w.heap.size 0 ov0.cs.length := there_blk hz0 (by simp [Ov.cs])
          have hbf : Below w.heap.size w (wz.setCells w.heap.size 0 ov0.cs) := below_cellsC (Nat.le_refl _) _ _ _ hbz
          have hrz : (wz.setCells w.heap.size 0 ov0.cs).rangeAt w.heap.size 0 ov0.cs := World.rangeAt_setCells_same wz _ _ _ hth
          have hld := run_loadVar_mid (P := Tryz.prog) (wz.setCells w.heap.size 0 ov0.cs) w.heap.size 0 41 ov0.cs _ hrz Tryz.underlying41 rfl (infoOpB _)
          have HLD : Hid _ := hld
          have HBF : Hid (Below w.heap.size w (wz.setCells w.heap.size 0 ov0.cs)) := hbf
          have hoc := all_oneCell_toArray (cs_one ov0 rfl)
          have hio := infoOpB ov0
          clear hz0 hbz hbf hrz hld
          go_upto_region 5 with fail
          refine wp_region_list ?_
          refine wpList_build rfl 41 _ rfl (by kernel_rfl) ?_
          refine wpList_store_mid rfl 41 _ _ rfl w.heap.size 0 ov0.cs.toArray rfl (by kernel_rfl) hth hio hoc ?_
          clear hth hio hoc
          show wpList Tryz.prog _ _ [_] _ (wz.setCells w.heap.size 0 ov0.cs)
          generalize wz.setCells w.heap.size 0 ov0.cs = w9 at *
          go_wp2_with fail
          have hld := HLD.out
          exact bodyPost_ret (v := .tuple #[.agg ov0.cs.toArray, .bool false]) (by simp [results, Tryz.results19, asAddr, hld]) rfl ⟨⟨ov0, false, rfl, ⟨none, 0, 0, rfl⟩, by unfold OpSAns; rw [hop], HBF.out⟩⟩
      · have hop : opSp xs = none := by rw [hsp, if_neg (fun h => h1 h.1)]
        have hq9 : ((r : Int) != (xs.length : Int)) = true := by simp; omega
        clear h1 hsp hoT2 hoS
        generalize w2 = wz at *
        have hth : wz.there w.heap.size 0 ov0.cs.length := there_blk hz0 (by simp [Ov.cs])
        have hbf : Below w.heap.size w (wz.setCells w.heap.size 0 ov0.cs) := below_cellsC (Nat.le_refl _) _ _ _ hbz
        have hrz : (wz.setCells w.heap.size 0 ov0.cs).rangeAt w.heap.size 0 ov0.cs := World.rangeAt_setCells_same wz _ _ _ hth
        have hld := run_loadVar_mid (P := Tryz.prog) (wz.setCells w.heap.size 0 ov0.cs) w.heap.size 0 41 ov0.cs _ hrz Tryz.underlying41 rfl (infoOpB _)
        have HLD : Hid _ := hld
        have HBF : Hid (Below w.heap.size w (wz.setCells w.heap.size 0 ov0.cs)) := hbf
        have hoc := all_oneCell_toArray (cs_one ov0 rfl)
        have hio := infoOpB ov0
        clear hz0 hbz hbf hrz hld
        go_upto_region 5 with fail
        refine wp_region_list ?_
        refine wpList_build rfl 41 _ rfl (by kernel_rfl) ?_
        refine wpList_store_mid rfl 41 _ _ rfl w.heap.size 0 ov0.cs.toArray rfl (by kernel_rfl) hth hio hoc ?_
        clear hth hio hoc
        show wpList Tryz.prog _ _ [_] _ (wz.setCells w.heap.size 0 ov0.cs)
        generalize wz.setCells w.heap.size 0 ov0.cs = w9 at *
        go_wp2_with fail
        have hld := HLD.out
        exact bodyPost_ret (v := .tuple #[.agg ov0.cs.toArray, .bool false]) (by simp [results, Tryz.results19, asAddr, hld]) rfl ⟨⟨ov0, false, rfl, ⟨none, 0, 0, rfl⟩, by unfold OpSAns; rw [hop], HBF.out⟩⟩
end Go.Proofs.YtcjlihfkibpgoaaGreatDoor
