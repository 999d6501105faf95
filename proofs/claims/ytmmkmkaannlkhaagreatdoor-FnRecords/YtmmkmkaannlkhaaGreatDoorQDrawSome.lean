/- The specification's l08Some: one operation more, drawn from a source. -/
import Derived.Deep.RegionHeld3
import Derived.Deep.Cut
import Derived.Test.YtmmkmkaannlkhaaGreatDoorQDrawMake
import Derived.Test.YtmmkmkaannlkhaaGreatDoorQDrawAside
import Derived.Test.YtmmkmkaannlkhaaGreatDoorQSrcOdd
import Derived.Test.YtmmkmkaannlkhaaGreatDoorQOpToToLogSame
import Derived.Test.YtmmkmkaannlkhaaGreatDoorQSrcStamps
import Derived.Test.YtmmkmkaannlkhaaGreatDoorQOpComesToOpSpecBase
namespace Go.Proofs.YtmmkmkaannlkhaaGreatDoor
open Go.RowKit
set_option linter.unusedVariables false

theorem litK (n : Nat) (h : n < 4) : ∃ x : ByteArray, x.size ≤ 5 ∧ (#[.string ⟨#[97]⟩, .string ⟨#[98]⟩, .string ⟨#[116, 105, 116, 108, 101]⟩, .string ⟨#[120, 61, 121, 37]⟩] : Array Value)[n]? = some (.string x) := by
  match n, h with
  | 0, _ => exact ⟨_, by decide, rfl⟩
  | 1, _ => exact ⟨_, by decide, rfl⟩
  | 2, _ => exact ⟨_, by decide, rfl⟩
  | 3, _ => exact ⟨_, by decide, rfl⟩

theorem infoStL : (Tryz.prog.info? 27).map (fun i => (i.zero, i.size, i.bytes)) = some (some (.agg #[.int .i64 0, .int .i64 0]), 2, 16) := by kernel_rfl
theorem two_new (w : World) (t a : Int) (T : TypeId) : ∀ j u, ([.int .i64 t, .int .i64 a] : List Value)[j]? = some u → (w.alloc (.cells #[.int .i64 t, .int .i64 a] T)).cell? ((⟨w.heap.size, 0, none⟩ : Addr).add j) = some u := by
  intro j u hj
  rw [Addr.add_mid, Nat.zero_add]
  match j, hj with
  | 0, hj => cases hj; exact cell_made (Below.refl _ _) (k := 0) rfl
  | 1, hj => cases hj; exact cell_made (Below.refl _ _) (k := 1) rfl
theorem blk_lo {w : World} {g : Nat} {o : Obj} (h : w.heap[g]? = some o) : g < w.heap.size := (Array.getElem?_eq_some_iff.1 h).1
theorem gr_refl (w : World) (row : Option Nat) : w.grownBy w row := ⟨rfl, rfl, rfl, Nat.le_refl _, fun _ _ _ => rfl⟩
set_option maxHeartbeats 400000 in
theorem srcNext_one (b : Nat) (w : World) : Calls Tryz.prog 18 #[.pointer (some ⟨b, 0, none⟩), .int .i64 ((1 : Nat) : Int)] w fun e w' => e = .returned (.int .i64 0) ∧ w' = w := by
  go_enter Tryz.func18, Tryz.ntmps18
  go_wp2_with fail
  go_ret
  exact ⟨rfl, rfl⟩
/-- The way through l08Some: the source, what it has written, the block of its answer. -/
structure Sm (C : Nat) (w wr : World) (b A : Nat) : Prop where
  src : Src C wr b A
  gr : w.grownBy wr (some b)
  res : OpBlk wr w.heap.size ov0
  lt : b < w.heap.size
theorem Sm.next {C : Nat} {w wr w' : World} {b A A' : Nat} (h : Sm C w wr b A) (hs : Src C w' b A') (hg : wr.grownBy w' (some b)) : Sm C w w' b A' := ⟨hs, grownBy_trans h.gr hg, blk_on h.res hg (by have := h.lt; omega), h.lt⟩
theorem Sm.below {C : Nat} {w wr w' : World} {b A : Nat} (h : Sm C w wr b A) (hb : Below wr.heap.size wr w') : Sm C w w' b A := ⟨h.src.below hb h.src.lt, grownBy_trans h.gr (grownBy_below hb (Nat.le_refl _) (some b)), (hb.block _ h.res.lo).trans h.res, h.lt⟩
theorem Sm.alloc {C : Nat} {w wr : World} {b A : Nat} (h : Sm C w wr b A) (o : Obj) : Sm C w (wr.alloc o) b A := h.below (below_alloc wr o)
theorem Sm.row {C : Nat} {w wr w' : World} {b A : Nat} {row : Option Nat} (h : Sm C w wr b A) (hg : wr.grownBy w' row) (hr : ∀ g, row = some g → w.heap.size < g) : Sm C w w' b A :=
  ⟨h.src.kept hg (fun k hk => by have := hr k hk; have := h.lt; omega), gr_rowW h.gr hg (fun g e => by have := hr g e; omega), (hg.block _ h.res.lo (fun e => by have := hr _ e.symm; omega)).trans h.res, h.lt⟩
theorem litN (n : Nat) (h : n < 4) : ∃ x : Int, (#[.int .i64 97, .int .i64 98, .int .i64 233, .int .i64 20013] : Array Value)[n]? = some (.int .i64 x) := by
  match n, h with
  | 0, _ => exact ⟨_, rfl⟩
  | 1, _ => exact ⟨_, rfl⟩
  | 2, _ => exact ⟨_, rfl⟩
  | 3, _ => exact ⟨_, rfl⟩
theorem Sm.mono {C : Nat} {w wr : World} {b A A' : Nat} (h : Sm C w wr b A) (hA : A ≤ A') : Sm C w wr b A' := ⟨h.src.mono hA, h.gr, h.res, h.lt⟩
theorem Sm.log {C : Nat} {w wr : World} {b A A0 : Nat} (h : Sm C w wr b A) {v : Value} {L : List Ov} (h0 : Src C w b A0) (hr : RdO w.heap.size w v L) (hL : ∀ x ∈ L, x.ds.length = 16) : RdO w.heap.size wr v L := hr.aside hL h0 h.gr (Nat.le_refl _)
/-- What is said of an operation that was made. -/
structure SomeX (a T : Nat) (xky xtx : ByteArray) (X : Ov) : Prop where
  a : X.a = (a : Int)
  ds : X.ds.length = 16
  lo : 0 ≤ X.t
  hi : X.t ≤ (T : Int) + 1
  ky : X.ky = xky
  tx : X.tx = xtx
/-- The answer is stored. -/
theorem Sm.stored {C : Nat} {w wr : World} {b A : Nat} (h : Sm C w wr b A) (X : Ov) : Src C (wr.setCells w.heap.size 0 X.cs) b A ∧ w.grownBy (wr.setCells w.heap.size 0 X.cs) (some b) ∧ (wr.setCells w.heap.size 0 X.cs).rangeAt w.heap.size 0 X.cs := by
  have hg := grownBy_setCells wr w.heap.size X.cs 0
  refine ⟨h.src.kept hg (fun k hk => by cases hk; exact h.lt), ⟨?_, ?_, ?_, Nat.le_trans h.gr.size hg.size, fun k hk hne => (hg.block k (by have := h.gr.size; omega) (fun e => by cases e; omega)).trans (h.gr.block k hk hne)⟩, World.rangeAt_setCells_same _ _ _ _ (there_blk h.res (n := 12) (by simp [ov0, Ov.cs]))⟩
  · exact hg.os.trans h.gr.os
  · exact hg.tape.trans h.gr.tape
  · exact hg.output.trans h.gr.output

theorem Sm.ends {C : Nat} {w wr : World} {b A B : Nat} (h : Sm C w wr b A) (X : Ov) (hO : Own 3 wr B X.dv (X.ds.map (Value.int .i64))) (hB : w.heap.size < B) :
    wr.there w.heap.size 0 X.cs.toArray.size ∧ X.cs.toArray.all (·.oneCell') = true ∧ (wr.setCells w.heap.size 0 X.cs).rangeAt w.heap.size 0 X.cs ∧ Own 3 (wr.setCells w.heap.size 0 X.cs) w.heap.size X.dv (X.ds.map (Value.int .i64)) ∧ Src C (wr.setCells w.heap.size 0 X.cs) b A ∧ w.grownBy (wr.setCells w.heap.size 0 X.cs) (some b) := by
  obtain ⟨h1, h2, h3⟩ := h.stored X
  refine ⟨there_blk h.res (n := 12) (by simp [ov0, Ov.cs]), all_oneCell_toArray (cs_one X ?_), h3, (hO.apart (grownBy_setCells wr w.heap.size X.cs 0) (fun kk hk => by cases hk; exact hB)).mono (by omega), h1, h2⟩
  obtain ⟨ao, cap, e, _⟩ := hO.slice
  rw [e]
  rfl

set_option maxHeartbeats 16000000 in
set_option maxRecDepth 100000 in
theorem l08Some_any (C b A : Nat) (w : World) (v : Value) (L : List Ov) (a T : Nat) (ha : a < 16) (hT : T ≤ 1000000) (h : Src C w b A) (hA : A ≤ 600000000) (hr : RdO w.heap.size w v L) (hl : L.length ≤ 4096) (hLg : ∀ x ∈ L, (0 ≤ x.a ∧ x.a < 16) ∧ x.ds.length = 16 ∧ 0 ≤ x.t ∧ x.t ≤ (T : Int)) :
    Calls Tryz.prog 47 #[.pointer (some ⟨b, 0, none⟩), v, .int .i64 (a : Int)] w fun e w' => ∃ X : Ov, e = .returned (.agg X.cs.toArray) ∧ X.a = (a : Int) ∧ X.ds.length = 16 ∧ 0 ≤ X.t ∧ X.t ≤ (T : Int) + 1 ∧ X.ky.size ≤ 5 ∧ X.tx.size ≤ 5 ∧ Own 3 w' w.heap.size X.dv (X.ds.map (Value.int .i64)) ∧ Src C w' b (A + 40) ∧ w.grownBy w' (some b) := by
  have hlt := h.lt
  obtain ⟨ao, cap, rfl⟩ : ∃ ao cap, v = .slice ao L.length cap := by obtain ⟨⟨ao, cap, h, _⟩, _⟩ := hr; exact ⟨_, _, h⟩
  have HRL : Hid (RdO w.heap.size w (.slice ao L.length cap) L) := hr
  have HLG : Hid (∀ x ∈ L, (0 ≤ x.a ∧ x.a < 16) ∧ x.ds.length = 16 ∧ 0 ≤ x.t ∧ x.t ≤ (T : Int)) := hLg
  clear hr hLg
  go_enter Tryz.func47, Tryz.ntmps47
  go_wp2_with fail
  refine (srcNext_any C b A 6 _ (h.alloc _) (by omega) (by omega) (by omega)).mono ?_
  rintro e w1 ⟨r, rfl, hr0, hr1, hS, hG0⟩
  have hM0 : Sm C w w1 b (A + 3) := ⟨hS, grownBy_trans (World.grownBy_alloc w _ (some b)) hG0, blk_kept hlt hG0, hlt⟩
  have HS0 : Hid (Src C w b A) := h
  have HD : Hid (∀ x ∈ L, x.ds.length = 16) := fun x hx => (HLG.out x hx).2.1
  have HMK : Hid (∀ (w9 : World) (A9 : Nat) (xk xo xn xu xpt xpa : Int) (xky xtx : ByteArray), Sm C w w9 b A9 → Calls Tryz.prog 73 #[.slice ao L.length cap, .int .i64 (a : Int), .agg #[.int .i64 0, .int .i64 0, .int .i64 0, .slice none 0 0, .int .i64 xk, .int .i64 xo, .int .i64 xn, .int .i64 xu, .int .i64 xpt, .int .i64 xpa, .string xky, .string xtx]] w9 fun e w' => ∃ X : Ov, e = .returned (.agg X.cs.toArray) ∧ SomeX a T xky xtx X ∧ Own 3 w' w9.heap.size X.dv (X.ds.map (Value.int .i64)) ∧ Below w9.heap.size w9 w') := fun w9 A9 xk xo xn xu xpt xpa xky xtx hs => (l08Make_any w.heap.size w9 (.slice ao L.length cap) L a T xk xo xn xu xpt xpa xky xtx ha (by omega) hs.gr.size (hs.log HS0.out HRL.out HD.out) (by omega) (fun x hx => (HLG.out x hx).1) (fun x hx => (HLG.out x hx).2.2)).mono (by
    rintro e w' ⟨gc, t, rfl, h1, h2, h3, h4, h5⟩
    exact ⟨_, rfl, ⟨rfl, cnts_len L, by show (0 : Int) ≤ t; omega, h2, rfl, rfl⟩, h4, h5⟩)
  clear hS hG0 h
  have hcs : r = 2 ∨ r = 0 ∨ r = 1 ∨ 2 < r := by omega
  rcases hcs with rfl | rfl | rfl | hr2
  · clear hr0 hr1
    go_upto_region 6 with fail
    go_upto_region 7 with (first | (go_at_call 18; refine (srcNext_any C b (A + 3) 20 w1 hM0.src (by omega) (by omega) (by omega)).mono ?_; rintro e w2 ⟨r1, rfl, hr2, hr3, hS2, hG2⟩; have hM2 := hM0.next hS2 hG2; have hw8 : IntKind.i64.wrap (r1 - 8) = r1 - 8 := (by rw [IntKind.wrap_i64]; omega)) | (go_at_call 73; refine (HMK.out _ _ _ _ _ _ _ _ _ _ hM2).mono ?_; rintro e w3 ⟨X, rfl, hX, hOX, hb3⟩; have hM3 := hM2.below hb3; (obtain ⟨hth, hone, hrs, hO9, hS9, hG9⟩ := hM3.ends X hOX (OpBlk.lo hM2.res)); (have hld := run_loadVar_mid (P := Tryz.prog) _ w.heap.size 0 29 X.cs _ hrs Tryz.underlying29 rfl (infoOpB X)); (have HI2 : Hid ((Tryz.prog.info? 29).map (·.size) = some X.cs.toArray.size) := infoOpB X); (obtain ⟨cs, HCS⟩ : ∃ cs, Hid (X.cs = cs) := ⟨_, rfl⟩); rw [HCS.out] at hth hone hO9 hS9 hG9 hld HI2 ⊢; (have HLD : Hid _ := hld); clear hld hrs) | (refine wpList_store_mid rfl 29 _ _ rfl w.heap.size 0 cs.toArray rfl rfl hth HI2.out hone ?_))
    have hld := HLD.out
    exact bodyPost_ret (v := .agg cs.toArray) (by simp [results, Tryz.results47, asAddr, Act.put, hld]) rfl ⟨X, by rw [HCS.out], hX.a, hX.ds, hX.lo, hX.hi, by rw [hX.ky]; decide, by rw [hX.tx]; decide, hO9, hS9.mono (by omega), hG9⟩
  · clear hr0 hr1
    have mk : Hid True := trivial
    have hM : Sm C w w1.drew b (A + 3) := ⟨hM0.src, gr_drew hM0.gr, hM0.res, hM0.lt⟩
    have hMd : Sm C w (w1.alloc (.cells #[.string ⟨#[97]⟩, .string ⟨#[98]⟩, .string ⟨#[116, 105, 116, 108, 101]⟩, .string ⟨#[120, 61, 121, 37]⟩] 9)).drew b (A + 3) := ⟨(hM0.alloc _).src, gr_drew (hM0.alloc _).gr, (hM0.alloc _).res, hM0.lt⟩
    go_wp2_with fail
    go_region_with (first | (go_at_call 18; clear mk; refine Calls.mono (srcNext_any C b (A + 3) 2 _ (by first | (with_reducible exact hM.src) | (with_reducible exact hMd.src)) (by omega) (by omega) (by omega)) ?_; rintro e w2 ⟨r1, rfl, hq0, hq1, hS2, hG2⟩; first | (replace hM := hM.next hS2 hG2; clear hMd) | (have hnb : w1.heap.size ≠ b := (by have : b < w1.heap.size := hM.src.lt; omega); have hl := blk_on (heap_alloc_new w1 (.cells #[.string ⟨#[97]⟩, .string ⟨#[98]⟩, .string ⟨#[116, 105, 116, 108, 101]⟩, .string ⟨#[120, 61, 121, 37]⟩] 9)) (gr_undrew hG2) hnb; replace hM := hMd.next hS2 hG2; clear hMd)) | (go_at_call 18; refine Calls.mono (srcNext_any C b (A + 3 + 3) 4 _ (by first | (with_reducible exact hM.src) | (with_reducible exact (Sm.alloc hM _).src)) (by omega) (by omega) (by omega)) ?_; rintro e w3 ⟨r2, rfl, hq2, hq3, hS3, hG3⟩; obtain ⟨n1, rfl⟩ : ∃ n : Nat, r2 = (n : Int) := ⟨r2.toNat, by omega⟩; obtain ⟨x1, hx1s, hx1⟩ := litK n1 (by omega); have hl' := cell_blk (heap_alloc_new w3 (.cells #[.string ⟨#[97]⟩, .string ⟨#[98]⟩, .string ⟨#[116, 105, 116, 108, 101]⟩, .string ⟨#[120, 61, 121, 37]⟩] 9)) n1 hx1; have hn4 : (n1 : Int) < 4 := (by omega); have hn4n : n1 < 4 := (by omega); first | (have hl3 := blk_on hl hG3 hnb; have hc3 := cell_blk hl3 n1 hx1; replace hM := hM.next hS3 hG3) | (replace hM := hM.next hS3 hG3) | (have hnb : w2.heap.size ≠ b := (by have := hM.src.lt; omega); have hl3 := blk_on (heap_alloc_new w2 (.cells #[.string ⟨#[97]⟩, .string ⟨#[98]⟩, .string ⟨#[116, 105, 116, 108, 101]⟩, .string ⟨#[120, 61, 121, 37]⟩] 9)) hG3 hnb; have hc3 := cell_blk hl3 n1 hx1; replace hM := (Sm.alloc hM (.cells #[.string ⟨#[97]⟩, .string ⟨#[98]⟩, .string ⟨#[116, 105, 116, 108, 101]⟩, .string ⟨#[120, 61, 121, 37]⟩] 9)).next hS3 hG3)) | (go_at_call 74; refine Calls.mono (word_any C b (A + 3 + 3 + 3) _ (by first | (with_reducible exact hM.src) | (with_reducible exact (Sm.alloc hM _).src)) (by omega)) ?_; rintro e w4 ⟨xt, rfl, hxts, hS4, hG4⟩; have hl'' := cell_blk (heap_alloc_new w4 (.cells #[.string ⟨#[97]⟩, .string ⟨#[98]⟩, .string ⟨#[116, 105, 116, 108, 101]⟩, .string ⟨#[120, 61, 121, 37]⟩] 9)) n1 hx1; first | (have hc4 := keep_c hc3 hG4 hnb; replace hM := hM.next hS4 hG4) | (replace hM := hM.next hS4 hG4) | (have hc4 := keep_c hl' hG4 (by have := hM.src.lt; omega); replace hM := (Sm.alloc hM (.cells #[.string ⟨#[97]⟩, .string ⟨#[98]⟩, .string ⟨#[116, 105, 116, 108, 101]⟩, .string ⟨#[120, 61, 121, 37]⟩] 9)).next hS4 hG4)) | (go_at_call 73; refine Calls.mono (HMK.out _ _ _ _ _ _ _ _ _ _ (by first | (with_reducible exact hM) | (with_reducible exact Sm.alloc hM _))) ?_; rintro e w5 ⟨X, rfl, hX, hOX, hb5⟩; (have hRl := hM.res.lo); (first | (have hM5 := hM.below hb5) | (have hM5 := (Sm.alloc hM (.cells #[.string ⟨#[97]⟩, .string ⟨#[98]⟩, .string ⟨#[116, 105, 116, 108, 101]⟩, .string ⟨#[120, 61, 121, 37]⟩] 9)).below hb5)); (obtain ⟨-, -, hrs, hO9, hS9, hG9⟩ := hM5.ends X hOX (by (try simp only [World.size_alloc]); omega)); (obtain ⟨da, dc, hdx, -⟩ := hOX.slice); (have HXF := hX); (have d0 := hM5.res.at 0 rfl); (have f0 := hM5.res.free 0); (have d1 := hM5.res.at 1 rfl); (have f1 := hM5.res.free 1); (have d2 := hM5.res.at 2 rfl); (have f2 := hM5.res.free 2); (have d3 := hM5.res.at 3 rfl); (have f3 := hM5.res.free 3); (have d4 := hM5.res.at 4 rfl); (have f4 := hM5.res.free 4); (have d5 := hM5.res.at 5 rfl); (have f5 := hM5.res.free 5); (have d6 := hM5.res.at 6 rfl); (have f6 := hM5.res.free 6); (have d7 := hM5.res.at 7 rfl); (have f7 := hM5.res.free 7); (have d8 := hM5.res.at 8 rfl); (have f8 := hM5.res.free 8); (have d9 := hM5.res.at 9 rfl); (have f9 := hM5.res.free 9); (have d10 := hM5.res.at 10 rfl); (have f10 := hM5.res.free 10); (have d11 := hM5.res.at 11 rfl); (have f11 := hM5.res.free 11); clear hM5 hb5 hOX hM hX; (obtain ⟨xa, xs, xt9, xdv, xk, xo, xn, xu, xpt, xpa, xky, xtx, xds⟩ := X); (simp only [List.length_map] at hdx); subst hdx; simp only [Ov.cs]))
    all_goals
      (have hld := run_loadVar_mid (P := Tryz.prog) _ w.heap.size 0 29 _ _ hrs Tryz.underlying29 rfl (infoOpB (⟨xa, xs, xt9, .slice da xds.length dc, xk, xo, xn, xu, xpt, xpa, xky, xtx, xds⟩ : Ov)))
      (have e12 : w5.setCells w.heap.size 0 (Ov.cs (⟨xa, xs, xt9, .slice da xds.length dc, xk, xo, xn, xu, xpt, xpa, xky, xtx, xds⟩ : Ov)) = _ := set12 w5 w.heap.size 0 _ _ _ _ _ _ _ _ _ _ _ _)
      simp only [Nat.zero_add] at e12
      rw [e12] at hld hO9 hS9 hG9
      clear hrs e12 d0 d1 d2 d3 d4 d5 d6 d7 d8 d9 d10 d11 f0 f1 f2 f3 f4 f5 f6 f7 f8 f9 f10 f11
      (obtain ⟨w9, HW9⟩ : ∃ w9, Hid (((((((((((((w5.setCell ⟨w.heap.size, 0, none⟩ (.int .i64 xa)).setCell ⟨w.heap.size, 1, none⟩ (.int .i64 xs)).setCell ⟨w.heap.size, 2, none⟩ (.int .i64 xt9)).setCell ⟨w.heap.size, 3, none⟩ (.slice da xds.length dc)).setCell ⟨w.heap.size, 4, none⟩ (.int .i64 xk)).setCell ⟨w.heap.size, 5, none⟩ (.int .i64 xo)).setCell ⟨w.heap.size, 6, none⟩ (.int .i64 xn)).setCell ⟨w.heap.size, 7, none⟩ (.int .i64 xu)).setCell ⟨w.heap.size, 8, none⟩ (.int .i64 xpt)).setCell ⟨w.heap.size, 9, none⟩ (.int .i64 xpa)).setCell ⟨w.heap.size, 10, none⟩ (.string xky)).setCell ⟨w.heap.size, 11, none⟩ (.string xtx)) = w9) := ⟨_, rfl⟩)
      rw [HW9.out] at hld hO9 hS9 hG9 ⊢
      go_wp2_with fail
      exact bodyPost_ret (v := .agg (Ov.cs (⟨xa, xs, xt9, .slice da xds.length dc, xk, xo, xn, xu, xpt, xpa, xky, xtx, xds⟩ : Ov)).toArray) (by simp [results, Tryz.results47, asAddr, hld]) rfl ⟨(⟨xa, xs, xt9, .slice da xds.length dc, xk, xo, xn, xu, xpt, xpa, xky, xtx, xds⟩ : Ov), rfl, HXF.a, HXF.ds, HXF.lo, HXF.hi, by rw [HXF.ky]; exact hx1s, by rw [HXF.tx]; exact hxts, hO9, hS9.mono (by omega), hG9⟩
  · clear hr0 hr1
    have mk : Hid True := trivial
    have hM : Sm C w w1.drew b (A + 3) := ⟨hM0.src, gr_drew hM0.gr, hM0.res, hM0.lt⟩
    have hMd : Sm C w (w1.alloc (.cells #[.string ⟨#[97]⟩, .string ⟨#[98]⟩, .string ⟨#[116, 105, 116, 108, 101]⟩, .string ⟨#[120, 61, 121, 37]⟩] 9)).drew b (A + 3) := ⟨(hM0.alloc _).src, gr_drew (hM0.alloc _).gr, (hM0.alloc _).res, hM0.lt⟩
    go_wp2_with fail
    go_region_with (first | (go_at_call 18; clear mk; refine Calls.mono (srcNext_any C b (A + 3) 2 _ (by first | (with_reducible exact hM.src) | (with_reducible exact hMd.src)) (by omega) (by omega) (by omega)) ?_; rintro e w2 ⟨r1, rfl, hq0, hq1, hS2, hG2⟩; first | (replace hM := hM.next hS2 hG2; clear hMd) | (have hnb : w1.heap.size ≠ b := (by have : b < w1.heap.size := hM.src.lt; omega); have hl := blk_on (heap_alloc_new w1 (.cells #[.string ⟨#[97]⟩, .string ⟨#[98]⟩, .string ⟨#[116, 105, 116, 108, 101]⟩, .string ⟨#[120, 61, 121, 37]⟩] 9)) (gr_undrew hG2) hnb; replace hM := hMd.next hS2 hG2; clear hMd)) | (go_at_call 18; refine Calls.mono (srcNext_any C b (A + 3 + 3) 4 _ (by first | (with_reducible exact hM.src) | (with_reducible exact (Sm.alloc hM _).src)) (by omega) (by omega) (by omega)) ?_; rintro e w3 ⟨r2, rfl, hq2, hq3, hS3, hG3⟩; obtain ⟨n1, rfl⟩ : ∃ n : Nat, r2 = (n : Int) := ⟨r2.toNat, by omega⟩; obtain ⟨x1, hx1s, hx1⟩ := litK n1 (by omega); have hl' := cell_blk (heap_alloc_new w3 (.cells #[.string ⟨#[97]⟩, .string ⟨#[98]⟩, .string ⟨#[116, 105, 116, 108, 101]⟩, .string ⟨#[120, 61, 121, 37]⟩] 9)) n1 hx1; have hn4 : (n1 : Int) < 4 := (by omega); have hn4n : n1 < 4 := (by omega); first | (have hl3 := blk_on hl hG3 hnb; have hc3 := cell_blk hl3 n1 hx1; replace hM := hM.next hS3 hG3) | (replace hM := hM.next hS3 hG3) | (have hnb : w2.heap.size ≠ b := (by have := hM.src.lt; omega); have hl3 := blk_on (heap_alloc_new w2 (.cells #[.string ⟨#[97]⟩, .string ⟨#[98]⟩, .string ⟨#[116, 105, 116, 108, 101]⟩, .string ⟨#[120, 61, 121, 37]⟩] 9)) hG3 hnb; have hc3 := cell_blk hl3 n1 hx1; replace hM := (Sm.alloc hM (.cells #[.string ⟨#[97]⟩, .string ⟨#[98]⟩, .string ⟨#[116, 105, 116, 108, 101]⟩, .string ⟨#[120, 61, 121, 37]⟩] 9)).next hS3 hG3)) | (go_at_call 74; refine Calls.mono (word_any C b (A + 3 + 3 + 3) _ (by first | (with_reducible exact hM.src) | (with_reducible exact (Sm.alloc hM _).src)) (by omega)) ?_; rintro e w4 ⟨xt, rfl, hxts, hS4, hG4⟩; have hl'' := cell_blk (heap_alloc_new w4 (.cells #[.string ⟨#[97]⟩, .string ⟨#[98]⟩, .string ⟨#[116, 105, 116, 108, 101]⟩, .string ⟨#[120, 61, 121, 37]⟩] 9)) n1 hx1; first | (have hc4 := keep_c hc3 hG4 hnb; replace hM := hM.next hS4 hG4) | (replace hM := hM.next hS4 hG4) | (have hc4 := keep_c hl' hG4 (by have := hM.src.lt; omega); replace hM := (Sm.alloc hM (.cells #[.string ⟨#[97]⟩, .string ⟨#[98]⟩, .string ⟨#[116, 105, 116, 108, 101]⟩, .string ⟨#[120, 61, 121, 37]⟩] 9)).next hS4 hG4)) | (go_at_call 73; refine Calls.mono (HMK.out _ _ _ _ _ _ _ _ _ _ (by first | (with_reducible exact hM) | (with_reducible exact Sm.alloc hM _))) ?_; rintro e w5 ⟨X, rfl, hX, hOX, hb5⟩; (have hRl := hM.res.lo); (first | (have hM5 := hM.below hb5) | (have hM5 := (Sm.alloc hM (.cells #[.string ⟨#[97]⟩, .string ⟨#[98]⟩, .string ⟨#[116, 105, 116, 108, 101]⟩, .string ⟨#[120, 61, 121, 37]⟩] 9)).below hb5)); (obtain ⟨-, -, hrs, hO9, hS9, hG9⟩ := hM5.ends X hOX (by (try simp only [World.size_alloc]); omega)); (obtain ⟨da, dc, hdx, -⟩ := hOX.slice); (have HXF := hX); (have d0 := hM5.res.at 0 rfl); (have f0 := hM5.res.free 0); (have d1 := hM5.res.at 1 rfl); (have f1 := hM5.res.free 1); (have d2 := hM5.res.at 2 rfl); (have f2 := hM5.res.free 2); (have d3 := hM5.res.at 3 rfl); (have f3 := hM5.res.free 3); (have d4 := hM5.res.at 4 rfl); (have f4 := hM5.res.free 4); (have d5 := hM5.res.at 5 rfl); (have f5 := hM5.res.free 5); (have d6 := hM5.res.at 6 rfl); (have f6 := hM5.res.free 6); (have d7 := hM5.res.at 7 rfl); (have f7 := hM5.res.free 7); (have d8 := hM5.res.at 8 rfl); (have f8 := hM5.res.free 8); (have d9 := hM5.res.at 9 rfl); (have f9 := hM5.res.free 9); (have d10 := hM5.res.at 10 rfl); (have f10 := hM5.res.free 10); (have d11 := hM5.res.at 11 rfl); (have f11 := hM5.res.free 11); clear hM5 hb5 hOX hM hX; (obtain ⟨xa, xs, xt9, xdv, xk, xo, xn, xu, xpt, xpa, xky, xtx, xds⟩ := X); (simp only [List.length_map] at hdx); subst hdx; simp only [Ov.cs]))
    all_goals
      (have hld := run_loadVar_mid (P := Tryz.prog) _ w.heap.size 0 29 _ _ hrs Tryz.underlying29 rfl (infoOpB (⟨xa, xs, xt9, .slice da xds.length dc, xk, xo, xn, xu, xpt, xpa, xky, xtx, xds⟩ : Ov)))
      (have e12 : w5.setCells w.heap.size 0 (Ov.cs (⟨xa, xs, xt9, .slice da xds.length dc, xk, xo, xn, xu, xpt, xpa, xky, xtx, xds⟩ : Ov)) = _ := set12 w5 w.heap.size 0 _ _ _ _ _ _ _ _ _ _ _ _)
      simp only [Nat.zero_add] at e12
      rw [e12] at hld hO9 hS9 hG9
      clear hrs e12 d0 d1 d2 d3 d4 d5 d6 d7 d8 d9 d10 d11 f0 f1 f2 f3 f4 f5 f6 f7 f8 f9 f10 f11
      (obtain ⟨w9, HW9⟩ : ∃ w9, Hid (((((((((((((w5.setCell ⟨w.heap.size, 0, none⟩ (.int .i64 xa)).setCell ⟨w.heap.size, 1, none⟩ (.int .i64 xs)).setCell ⟨w.heap.size, 2, none⟩ (.int .i64 xt9)).setCell ⟨w.heap.size, 3, none⟩ (.slice da xds.length dc)).setCell ⟨w.heap.size, 4, none⟩ (.int .i64 xk)).setCell ⟨w.heap.size, 5, none⟩ (.int .i64 xo)).setCell ⟨w.heap.size, 6, none⟩ (.int .i64 xn)).setCell ⟨w.heap.size, 7, none⟩ (.int .i64 xu)).setCell ⟨w.heap.size, 8, none⟩ (.int .i64 xpt)).setCell ⟨w.heap.size, 9, none⟩ (.int .i64 xpa)).setCell ⟨w.heap.size, 10, none⟩ (.string xky)).setCell ⟨w.heap.size, 11, none⟩ (.string xtx)) = w9) := ⟨_, rfl⟩)
      rw [HW9.out] at hld hO9 hS9 hG9 ⊢
      go_wp2_with fail
      exact bodyPost_ret (v := .agg (Ov.cs (⟨xa, xs, xt9, .slice da xds.length dc, xk, xo, xn, xu, xpt, xpa, xky, xtx, xds⟩ : Ov)).toArray) (by simp [results, Tryz.results47, asAddr, hld]) rfl ⟨(⟨xa, xs, xt9, .slice da xds.length dc, xk, xo, xn, xu, xpt, xpa, xky, xtx, xds⟩ : Ov), rfl, HXF.a, HXF.ds, HXF.lo, HXF.hi, by rw [HXF.ky]; exact hx1s, by rw [HXF.tx]; exact hxts, hO9, hS9.mono (by omega), hG9⟩
  · have e0 : (r == 0) = false := by simp; omega
    have e1 : (r == 1) = false := by simp; omega
    have e2 : (r == 2) = false := by simp; omega
    clear hr0 hr1 hr2
    obtain ⟨i0, hi0, hz0, hz1, hz2⟩ := info_parts infoStL
    go_upto_region 8 with (first | (go_at_call 18; refine (srcNext_any C b (A + 3) 2 w1 hM0.src (by omega) (by omega) (by omega)).mono ?_; rintro e w2 ⟨r1, rfl, hq0, hq1, hS2, hG2⟩; have hM2 := hM0.next hS2 hG2; have hw3 : IntKind.i64.wrap (3 + r1) = 3 + r1 := (by rw [IntKind.wrap_i64]; omega)))
    clear e0 e1 e2 hw3 hS2 hG2 hM0
    have HI0 : Hid (∃ ls : List (Int × Int), OwS (w2.alloc (.cells #[] 27)) w2.heap.size (.slice (some ⟨w2.heap.size, 0, none⟩) 0 0) ls ∧ ls.length ≤ 0 ∧ Sm C w (w2.alloc (.cells #[] 27)) b (A + 3 + 3)) := ⟨[], ⟨⟨rfl, .inr ⟨w2.heap.size, 0, #[], rfl, Nat.le_refl _, heap_alloc_new _ _, Nat.le_refl _, by unfold maxLen; omega, rfl, rfl⟩⟩, by simp⟩, Nat.le_refl _, hM2.alloc _⟩
    go_wp2_with fail
    go_loopw [8, 9] (fun tv ti wr => ∃ k : Nat, k ≤ L.length ∧ ti = .int .i64 (k : Int) ∧ Hid (∃ ls : List (Int × Int), OwS wr w2.heap.size tv ls ∧ ls.length ≤ k ∧ Sm C w wr b (A + 3 + 3))) (fun _ ti _ => L.length - (intOf ti).toNat)
    case atStart => exact ⟨0, Nat.zero_le _, rfl, HI0⟩
    case round =>
      clear HI0
      obtain ⟨k, hk, rfl, HI⟩ := hrel
      obtain ⟨ls, hOw, hll, hM⟩ := HI.out
      by_cases hlt9 : k < L.length
      · have hki : (k : Int) < (L.length : Int) := by omega
        obtain ⟨⟨ao', cap', ev, hcap, hmax, -, hrow⟩, -⟩ := hM.log HS0.out HRL.out HD.out
        cases ev
        obtain ⟨g, off, rfl, hg, hcs⟩ := hrow (by omega)
        have hx := hcs k hlt9
        have c4 := hx.c4
        have c5 := hx.c5
        obtain ⟨gS, cS, eS, hgS, hgS2, -⟩ := hOw.out
        subst eS
        have HIK : Hid (∃ ls' : List (Int × Int), OwS wr w2.heap.size (.slice (some ⟨gS, 0, none⟩) ls.length cS) ls' ∧ ls'.length ≤ k + 1 ∧ Sm C w wr b (A + 3 + 3)) := ⟨ls, hOw, by omega, hM⟩
        by_cases ho : (ovAt L k).o = 3 + r1
        · have hob : ((ovAt L k).o == 3 + r1) = true := by simpa using ho
          by_cases hkk : (ovAt L k).k = 2
          · have hkb : ((ovAt L k).k == 2) = true := by simpa using hkk
            have hXR := opAt_range hx
            have HST : Hid (∀ w9, Calls Tryz.prog 29 #[.agg (ovAt L k).cs.toArray] w9 fun e w' => e = .returned (.agg #[.int .i64 (ovAt L k).t, .int .i64 (ovAt L k).a]) ∧ Below w9.heap.size w9 w') := fun w9 => l08Stamp_any _ _ _ _ _ _ _ _ _ _ _ _ _
            have HIX : Hid ((Tryz.prog.info? 29).map (·.size) = some (ovAt L k).cs.length) := infoOpB _
            have hls2 : ls.length ≤ 4096 := by omega
            generalize (ovAt L k).o = yo at c5 hob
            generalize (ovAt L k).k = yk at c4 hkb
            generalize (ovAt L k).cs = xcs at *
            generalize (ovAt L k).t = yt at *
            generalize (ovAt L k).a = ya at *
            have hgSw : w.heap.size < gS := by have := OpBlk.lo hM2.res; omega
            clear hcs hx ho hkk HI HIK
            go_wp2_with (first | (refine wpList_load_mid rfl 29 _ rfl g (off + k * 12) rfl xcs _ hXR Tryz.underlying29 rfl HIX.out ?_) | (go_at_call 29; refine (HST.out _).mono ?_; rintro e w5 ⟨rfl, hb5⟩; (have ho5 := owns_on hOw.1 hb5 (Nat.le_refl _)); (have hM5 := hM.below hb5); (have hs5 := hb5.size); (have hcn := two_new w5 yt ya 27)) | (at_builtin; refine wpList_append_own _ rfl _ _ 112 rfl w2.heap.size 27 i0 (.agg #[.int .i64 0, .int .i64 0]) 2 16 Tryz.underlying112 hi0 hz0 hz1 hz2 rfl (by decide) _ ls.length _ rfl (World.ownsRow.alloc ho5 _) ⟨w5.heap.size, 0, none⟩ 1 1 [.int .i64 yt, .int .i64 ya] rfl rfl hcn (by intro u hu; rcases List.mem_cons.1 hu with rfl | hu; rfl; rcases List.mem_cons.1 hu with rfl | hu; rfl; cases hu) (by unfold maxLen; omega) (by omega) (by rw [World.size_alloc]; omega) ?_))
            intro v6 w6 ho6 hg6 _
            have HI2 : Hid (∃ ls' : List (Int × Int), OwS w6 w2.heap.size v6 ls' ∧ ls'.length ≤ k + 1 ∧ Sm C w w6 b (A + 3 + 3)) := by
              refine ⟨ls ++ [(yt, ya)], ⟨?_, fun e => ?_⟩, by rw [List.length_append]; show ls.length + 1 ≤ k + 1; omega, (hM5.alloc _).row hg6 (fun g e => by simp only [Value.ownBlock, Option.some.injEq] at e; omega)⟩
              · rw [← flS_add, List.length_append]
                exact ho6
              · rcases ho6.2 with ⟨_, h0⟩ | ⟨g', c', cur, h0, _⟩
                · omega
                · rw [h0] at e
                  cases e
            clear ho6 hg6 hM5 ho5 hcn
            go_wp2_with fail
            go_roundw
            case rel => exact ⟨k + 1, by omega, by go_num, HI2⟩
            case measure => simp [intOf]; omega
          · have hkb : ((ovAt L k).k == 2) = false := by simpa using hkk
            generalize (ovAt L k).o = yo at c5 hob
            generalize (ovAt L k).k = yk at c4 hkb
            clear hcs hx ho hkk HI
            go_wp2_with fail
            go_roundw
            case rel => exact ⟨k + 1, by omega, by go_num, HIK⟩
            case measure => simp [intOf]; omega
        · have hob : ((ovAt L k).o == 3 + r1) = false := by simpa using ho
          generalize (ovAt L k).o = yo at c5 hob
          clear hcs hx ho HI c4
          go_wp2_with fail
          go_roundw
          case rel => exact ⟨k + 1, by omega, by go_num, HIK⟩
          case measure => simp [intOf]; omega
      · obtain rfl : k = L.length := by omega
        have hki : ¬ (L.length : Int) < (L.length : Int) := by omega
        obtain ⟨gS, cS, eS, hgS, hgS2, hSl⟩ := hOw.out
        subst eS
        clear HI
        go_upto_region 15 with (first | (go_at_call 18; refine (srcNext_any C b (A + 3 + 3) 4 _ (hM.alloc _).src (by omega) (by omega) (by omega)).mono ?_; rintro e w4 ⟨r4, rfl, hq4, hq5, hS4, hG4⟩; (obtain ⟨n1, rfl⟩ : ∃ n : Nat, r4 = (n : Int) := ⟨r4.toNat, by omega⟩); (obtain ⟨x1, hx1⟩ := litN n1 (by omega)); (have hn4 : (n1 : Int) < 4 := (by omega)); (have hnb4 : wr.heap.size ≠ b := Nat.ne_of_gt hM.src.lt); (have hc4 := cell_blk (blk_on (heap_alloc_new wr (.cells #[.int .i64 97, .int .i64 98, .int .i64 233, .int .i64 20013] 3)) hG4 hnb4) n1 hx1)))
        have hM4 := (hM.alloc (.cells #[.int .i64 97, .int .i64 98, .int .i64 233, .int .i64 20013] 3)).next hS4 hG4
        have hbw2 : b < w2.heap.size := by have := OpBlk.lo hM2.res; have := hM2.lt; omega
        have hOw4 := OwS.apart (b := b) ⟨World.ownsRow.alloc hOw.1 (.cells #[.int .i64 97, .int .i64 98, .int .i64 233, .int .i64 20013] 3), hOw.2⟩ hG4 hbw2
        have hM5 := hM4.alloc (.cells #[.int .i64 0, .int .i64 0, .int .i64 0, .slice none 0 0, .int .i64 2, .int .i64 (3 + r1), .int .i64 x1, .int .i64 0, .int .i64 0, .int .i64 0, .string ⟨#[]⟩, .string ⟨#[]⟩] 29)
        have hOb : OpBlk (w4.alloc (.cells #[.int .i64 0, .int .i64 0, .int .i64 0, .slice none 0 0, .int .i64 2, .int .i64 (3 + r1), .int .i64 x1, .int .i64 0, .int .i64 0, .int .i64 0, .string ⟨#[]⟩, .string ⟨#[]⟩] 29)) w4.heap.size (⟨0, 0, 0, .slice none 0 0, 2, 3 + r1, x1, 0, 0, 0, ByteArray.empty, ByteArray.empty, []⟩ : Ov) := heap_alloc_new w4 _
        have hOw5 : OwS (w4.alloc (.cells #[.int .i64 0, .int .i64 0, .int .i64 0, .slice none 0 0, .int .i64 2, .int .i64 (3 + r1), .int .i64 x1, .int .i64 0, .int .i64 0, .int .i64 0, .string ⟨#[]⟩, .string ⟨#[]⟩] 29)) w2.heap.size (.slice (some ⟨gS, 0, none⟩) ls.length cS) ls := ⟨World.ownsRow.alloc hOw4.1 _, hOw4.2⟩
        have hRw4 : w.heap.size < w4.heap.size := OpBlk.lo hM4.res
        have hbw4 : b < w4.heap.size := hM4.src.lt
        clear hS4 hG4 hM4 hOw4 hOw hM hc4 hSl
        generalize w4.alloc (.cells #[.int .i64 0, .int .i64 0, .int .i64 0, .slice none 0 0, .int .i64 2, .int .i64 (3 + r1), .int .i64 x1, .int .i64 0, .int .i64 0, .int .i64 0, .string ⟨#[]⟩, .string ⟨#[]⟩] 29) = w5 at *
        by_cases hl0 : ls.length = 0
        · have hl0i : decide (0 < ls.length) = false := decide_eq_false (by omega)
          have hl0j : decide ((0 : Int) < (ls.length : Int)) = false := decide_eq_false (by omega)
          rw [hl0]
          go_upto_region 20 with fail
          have hYR := opBlk_range hOb
          have hMF := hM5
          go_wp2_with (first | (refine wpList_load_mid rfl 29 _ rfl w4.heap.size 0 rfl _ _ hYR Tryz.underlying29 rfl (infoOpB _) ?_) | (go_at_call 73; refine (HMK.out _ _ 2 (3 + r1) x1 0 0 0 ByteArray.empty ByteArray.empty hMF).mono ?_; rintro e w8 ⟨X, rfl, hX, hOX, hb8⟩; (have hM8 := hMF.below hb8); (obtain ⟨hth, hone, hrs, hO9, hS9, hG9⟩ := hM8.ends X hOX (OpBlk.lo hMF.res)); (have hld := run_loadVar_mid (P := Tryz.prog) _ w.heap.size 0 29 X.cs _ hrs Tryz.underlying29 rfl (infoOpB X)); (have HI2 : Hid ((Tryz.prog.info? 29).map (·.size) = some X.cs.toArray.size) := infoOpB X); (obtain ⟨cs, HCS⟩ : ∃ cs, Hid (X.cs = cs) := ⟨_, rfl⟩); rw [HCS.out] at hth hone hO9 hS9 hG9 hld HI2 ⊢; (have HLD : Hid _ := hld); clear hld hrs) | (refine wpList_store_mid rfl 29 _ _ rfl w.heap.size 0 cs.toArray rfl rfl hth HI2.out hone ?_))
          have hld := HLD.out
          exact bodyPost_ret (v := .agg cs.toArray) (by simp [results, Tryz.results47, asAddr, Act.put, hld]) rfl ⟨X, by rw [HCS.out], hX.a, hX.ds, hX.lo, hX.hi, by rw [hX.ky]; decide, by rw [hX.tx]; decide, hO9, hS9.mono (by omega), hG9⟩
        · have hlp : 0 < ls.length := by omega
          have hlpi : (0 : Int) < (ls.length : Int) := by omega
          have hch := chance_any C b (A + 3 + 3 + 3) 4 w5 hM5.src (by omega) (by omega) (by omega)
          go_upto_if 86 with (go_at_call 44; refine hch.mono ?_; rintro e w6 ⟨r6, rfl, hS6, hG6⟩; (have hM6 := hM5.next hS6 hG6); (have hO6 : OpBlk w6 w4.heap.size (⟨0, 0, 0, .slice none 0 0, 2, 3 + r1, x1, 0, 0, 0, ByteArray.empty, ByteArray.empty, []⟩ : Ov) := blk_on hOb hG6 (by omega)); (have hOw6 := OwS.apart hOw5 hG6 hbw2); clear hch hM5 hOb hOw5 hS6 hG6)
          cases r6
          case true =>
            go_upto_region 20 with fail
            have hYR := opBlk_range hO6
            have hMF := hM6
            go_wp2_with (first | (refine wpList_load_mid rfl 29 _ rfl w4.heap.size 0 rfl _ _ hYR Tryz.underlying29 rfl (infoOpB _) ?_) | (go_at_call 73; refine (HMK.out _ _ 2 (3 + r1) x1 0 0 0 ByteArray.empty ByteArray.empty hMF).mono ?_; rintro e w8 ⟨X, rfl, hX, hOX, hb8⟩; (have hM8 := hMF.below hb8); (obtain ⟨hth, hone, hrs, hO9, hS9, hG9⟩ := hM8.ends X hOX (OpBlk.lo hMF.res)); (have hld := run_loadVar_mid (P := Tryz.prog) _ w.heap.size 0 29 X.cs _ hrs Tryz.underlying29 rfl (infoOpB X)); (have HI2 : Hid ((Tryz.prog.info? 29).map (·.size) = some X.cs.toArray.size) := infoOpB X); (obtain ⟨cs, HCS⟩ : ∃ cs, Hid (X.cs = cs) := ⟨_, rfl⟩); rw [HCS.out] at hth hone hO9 hS9 hG9 hld HI2 ⊢; (have HLD : Hid _ := hld); clear hld hrs) | (refine wpList_store_mid rfl 29 _ _ rfl w.heap.size 0 cs.toArray rfl rfl hth HI2.out hone ?_))
            have hld := HLD.out
            exact bodyPost_ret (v := .agg cs.toArray) (by simp [results, Tryz.results47, asAddr, Act.put, hld]) rfl ⟨X, by rw [HCS.out], hX.a, hX.ds, hX.lo, hX.hi, by rw [hX.ky]; decide, by rw [hX.tx]; decide, hO9, hS9.mono (by omega), hG9⟩
          case false =>
            have hwl : IntKind.i64.wrap ((ls.length : Int) - 1) = (ls.length : Int) - 1 := by rw [IntKind.wrap_i64]; omega
            by_cases hm3 : ls.length < 3
            · have hm3i : (ls.length : Int) < 3 := by omega
              have hnx : Calls Tryz.prog 18 #[.pointer (some ⟨b, 0, none⟩), .int .i64 (ls.length : Int)] w6 fun e w' => ∃ r : Int, e = .returned (.int .i64 r) ∧ 0 ≤ r ∧ r < (ls.length : Int) ∧ Src C w' b (A + 3 + 3 + 3 + 3 + 3) ∧ w6.grownBy w' (some b) := by
                by_cases h1 : ls.length = 1
                · rw [h1]
                  refine (srcNext_one b w6).mono ?_
                  rintro e w' ⟨rfl, rfl⟩
                  exact ⟨0, rfl, by omega, by omega, hM6.src.mono (by omega), gr_refl _ _⟩
                · exact srcNext_any C b (A + 3 + 3 + 3 + 3) (ls.length : Int) w6 hM6.src (by omega) (by omega) (by omega)
              go_upto_region 17 with (go_at_call 18; refine hnx.mono ?_; rintro e w7 ⟨r7, rfl, hp0, hp1, hS7, hG7⟩; (have hM7 := hM6.next hS7 hG7); (have hO7 : OpBlk w7 w4.heap.size (⟨0, 0, 0, .slice none 0 0, 2, 3 + r1, x1, 0, 0, 0, ByteArray.empty, ByteArray.empty, []⟩ : Ov) := blk_on hO6 hG7 (by omega)); (have hOw7 := OwS.apart hOw6 hG7 hbw2); (obtain ⟨gS', cS', eS', hgS7, hgS8, hSl7⟩ := hOw7.out); cases eS'; (obtain ⟨q, hq⟩ : ∃ q : Nat, (ls.length : Int) - 1 - r7 = (q : Int) := ⟨((ls.length : Int) - 1 - r7).toNat, by omega⟩); (have hql : q < ls.length := (by omega)); (have hqi : (q : Int) < (ls.length : Int) := (by omega)); (have hwq : IntKind.i64.wrap (q : Int) = (q : Int) := (by rw [IntKind.wrap_i64]; omega)); (obtain ⟨ct, ca⟩ := hSl7 q hql); (generalize (ls.getD q (0, 0)).1 = yt at ct); (generalize (ls.getD q (0, 0)).2 = ya at ca); clear hSl7 hql; (have d8 := hO7.at 8 rfl); (have f8 := hO7.free 8); (have d9 := hO7.at 9 rfl); (have f9 := hO7.free 9))
              have hO8 : OpBlk ((w7.setCell ⟨w4.heap.size, 8, none⟩ (.int .i64 yt)).setCell ⟨w4.heap.size, 9, none⟩ (.int .i64 ya)) w4.heap.size (⟨0, 0, 0, .slice none 0 0, 2, 3 + r1, x1, 0, yt, ya, ByteArray.empty, ByteArray.empty, []⟩ : Ov) := (hO7.put (y := (⟨0, 0, 0, .slice none 0 0, 2, 3 + r1, x1, 0, yt, 0, ByteArray.empty, ByteArray.empty, []⟩ : Ov)) 8 _ rfl).put 9 _ rfl
              have hM8 := (hM7.row (grownBy_set w7 w4.heap.size 8 (.int .i64 yt)) (fun g e => by cases e; omega)).row (grownBy_set _ w4.heap.size 9 (.int .i64 ya)) (fun g e => by cases e; omega)
              clear ct ca d8 f8 d9 f9 hO7 hM7 hOw7 hq hwq hqi hp0 hp1 hS7 hG7 hM6 hO6 hOw6 hwl
              generalize ((w7.setCell ⟨w4.heap.size, 8, none⟩ (.int .i64 yt)).setCell ⟨w4.heap.size, 9, none⟩ (.int .i64 ya)) = w10 at *
              have hch2 := chance_any C b _ 4 w10 hM8.src (by omega) (by omega) (by omega)
              go_upto_if 101 with (go_at_call 44; refine hch2.mono ?_; rintro e w11 ⟨r11, rfl, hS11, hG11⟩; (have hM11 := hM8.next hS11 hG11); (have hO11 : OpBlk w11 w4.heap.size (⟨0, 0, 0, .slice none 0 0, 2, 3 + r1, x1, 0, yt, ya, ByteArray.empty, ByteArray.empty, []⟩ : Ov) := blk_on hO8 hG11 (by omega)); clear hch2 hM8 hO8 hS11 hG11)
              cases r11
              case false =>
                go_upto_region 20 with fail
                have hYR := opBlk_range hO11
                have hMF := hM11
                go_wp2_with (first | (refine wpList_load_mid rfl 29 _ rfl w4.heap.size 0 rfl _ _ hYR Tryz.underlying29 rfl (infoOpB _) ?_) | (go_at_call 73; refine (HMK.out _ _ 2 (3 + r1) x1 0 yt ya ByteArray.empty ByteArray.empty hMF).mono ?_; rintro e w8 ⟨X, rfl, hX, hOX, hb8⟩; (have hM8 := hMF.below hb8); (obtain ⟨hth, hone, hrs, hO9, hS9, hG9⟩ := hM8.ends X hOX (OpBlk.lo hMF.res)); (have hld := run_loadVar_mid (P := Tryz.prog) _ w.heap.size 0 29 X.cs _ hrs Tryz.underlying29 rfl (infoOpB X)); (have HI2 : Hid ((Tryz.prog.info? 29).map (·.size) = some X.cs.toArray.size) := infoOpB X); (obtain ⟨cs, HCS⟩ : ∃ cs, Hid (X.cs = cs) := ⟨_, rfl⟩); rw [HCS.out] at hth hone hO9 hS9 hG9 hld HI2 ⊢; (have HLD : Hid _ := hld); clear hld hrs) | (refine wpList_store_mid rfl 29 _ _ rfl w.heap.size 0 cs.toArray rfl rfl hth HI2.out hone ?_))
                have hld := HLD.out
                exact bodyPost_ret (v := .agg cs.toArray) (by simp [results, Tryz.results47, asAddr, Act.put, hld]) rfl ⟨X, by rw [HCS.out], hX.a, hX.ds, hX.lo, hX.hi, by rw [hX.ky]; decide, by rw [hX.tx]; decide, hO9, hS9.mono (by omega), hG9⟩
              case true =>
                have d4 := hO11.at 4 rfl
                have f4 := hO11.free 4
                have hO12 := hO11.put (y := (⟨0, 0, 0, .slice none 0 0, 3, 3 + r1, x1, 0, yt, ya, ByteArray.empty, ByteArray.empty, []⟩ : Ov)) 4 (.int .i64 3) rfl
                have hM12 := hM11.row (grownBy_set w11 w4.heap.size 4 (.int .i64 3)) (fun g e => by cases e; omega)
                go_upto_region 19 with fail
                clear d4 f4 hO11 hM11
                generalize w11.setCell ⟨w4.heap.size, 4, none⟩ (.int .i64 3) = w12 at *
                have d6 := hO12.at 6 rfl
                have f6 := hO12.free 6
                have hO13 := hO12.put (y := (⟨0, 0, 0, .slice none 0 0, 3, 3 + r1, 0, 0, yt, ya, ByteArray.empty, ByteArray.empty, []⟩ : Ov)) 6 (.int .i64 0) rfl
                have hM13 := hM12.row (grownBy_set w12 w4.heap.size 6 (.int .i64 0)) (fun g e => by cases e; omega)
                go_upto_region 20 with fail
                clear d6 f6 hO12 hM12
                generalize w12.setCell ⟨w4.heap.size, 6, none⟩ (.int .i64 0) = w13 at *
                have hYR := opBlk_range hO13
                have hMF := hM13
                go_wp2_with (first | (refine wpList_load_mid rfl 29 _ rfl w4.heap.size 0 rfl _ _ hYR Tryz.underlying29 rfl (infoOpB _) ?_) | (go_at_call 73; refine (HMK.out _ _ 3 (3 + r1) 0 0 yt ya ByteArray.empty ByteArray.empty hMF).mono ?_; rintro e w8 ⟨X, rfl, hX, hOX, hb8⟩; (have hM8 := hMF.below hb8); (obtain ⟨hth, hone, hrs, hO9, hS9, hG9⟩ := hM8.ends X hOX (OpBlk.lo hMF.res)); (have hld := run_loadVar_mid (P := Tryz.prog) _ w.heap.size 0 29 X.cs _ hrs Tryz.underlying29 rfl (infoOpB X)); (have HI2 : Hid ((Tryz.prog.info? 29).map (·.size) = some X.cs.toArray.size) := infoOpB X); (obtain ⟨cs, HCS⟩ : ∃ cs, Hid (X.cs = cs) := ⟨_, rfl⟩); rw [HCS.out] at hth hone hO9 hS9 hG9 hld HI2 ⊢; (have HLD : Hid _ := hld); clear hld hrs) | (refine wpList_store_mid rfl 29 _ _ rfl w.heap.size 0 cs.toArray rfl rfl hth HI2.out hone ?_))
                have hld := HLD.out
                exact bodyPost_ret (v := .agg cs.toArray) (by simp [results, Tryz.results47, asAddr, Act.put, hld]) rfl ⟨X, by rw [HCS.out], hX.a, hX.ds, hX.lo, hX.hi, by rw [hX.ky]; decide, by rw [hX.tx]; decide, hO9, hS9.mono (by omega), hG9⟩
            · have hm3i : ¬ (ls.length : Int) < 3 := by omega
              have hnx := srcNext_any C b (A + 3 + 3 + 3 + 3) 3 w6 hM6.src (by omega) (by omega) (by omega)
              go_upto_region 17 with (go_at_call 18; refine hnx.mono ?_; rintro e w7 ⟨r7, rfl, hp0, hp1, hS7, hG7⟩; (have hM7 := hM6.next hS7 hG7); (have hO7 : OpBlk w7 w4.heap.size (⟨0, 0, 0, .slice none 0 0, 2, 3 + r1, x1, 0, 0, 0, ByteArray.empty, ByteArray.empty, []⟩ : Ov) := blk_on hO6 hG7 (by omega)); (have hOw7 := OwS.apart hOw6 hG7 hbw2); (obtain ⟨gS', cS', eS', hgS7, hgS8, hSl7⟩ := hOw7.out); cases eS'; (obtain ⟨q, hq⟩ : ∃ q : Nat, (ls.length : Int) - 1 - r7 = (q : Int) := ⟨((ls.length : Int) - 1 - r7).toNat, by omega⟩); (have hql : q < ls.length := (by omega)); (have hqi : (q : Int) < (ls.length : Int) := (by omega)); (have hwq : IntKind.i64.wrap (q : Int) = (q : Int) := (by rw [IntKind.wrap_i64]; omega)); (obtain ⟨ct, ca⟩ := hSl7 q hql); (generalize (ls.getD q (0, 0)).1 = yt at ct); (generalize (ls.getD q (0, 0)).2 = ya at ca); clear hSl7 hql; (have d8 := hO7.at 8 rfl); (have f8 := hO7.free 8); (have d9 := hO7.at 9 rfl); (have f9 := hO7.free 9))
              have hO8 : OpBlk ((w7.setCell ⟨w4.heap.size, 8, none⟩ (.int .i64 yt)).setCell ⟨w4.heap.size, 9, none⟩ (.int .i64 ya)) w4.heap.size (⟨0, 0, 0, .slice none 0 0, 2, 3 + r1, x1, 0, yt, ya, ByteArray.empty, ByteArray.empty, []⟩ : Ov) := (hO7.put (y := (⟨0, 0, 0, .slice none 0 0, 2, 3 + r1, x1, 0, yt, 0, ByteArray.empty, ByteArray.empty, []⟩ : Ov)) 8 _ rfl).put 9 _ rfl
              have hM8 := (hM7.row (grownBy_set w7 w4.heap.size 8 (.int .i64 yt)) (fun g e => by cases e; omega)).row (grownBy_set _ w4.heap.size 9 (.int .i64 ya)) (fun g e => by cases e; omega)
              clear ct ca d8 f8 d9 f9 hO7 hM7 hOw7 hq hwq hqi hp0 hp1 hS7 hG7 hM6 hO6 hOw6 hwl
              generalize ((w7.setCell ⟨w4.heap.size, 8, none⟩ (.int .i64 yt)).setCell ⟨w4.heap.size, 9, none⟩ (.int .i64 ya)) = w10 at *
              have hch2 := chance_any C b _ 4 w10 hM8.src (by omega) (by omega) (by omega)
              go_upto_if 101 with (go_at_call 44; refine hch2.mono ?_; rintro e w11 ⟨r11, rfl, hS11, hG11⟩; (have hM11 := hM8.next hS11 hG11); (have hO11 : OpBlk w11 w4.heap.size (⟨0, 0, 0, .slice none 0 0, 2, 3 + r1, x1, 0, yt, ya, ByteArray.empty, ByteArray.empty, []⟩ : Ov) := blk_on hO8 hG11 (by omega)); clear hch2 hM8 hO8 hS11 hG11)
              cases r11
              case false =>
                go_upto_region 20 with fail
                have hYR := opBlk_range hO11
                have hMF := hM11
                go_wp2_with (first | (refine wpList_load_mid rfl 29 _ rfl w4.heap.size 0 rfl _ _ hYR Tryz.underlying29 rfl (infoOpB _) ?_) | (go_at_call 73; refine (HMK.out _ _ 2 (3 + r1) x1 0 yt ya ByteArray.empty ByteArray.empty hMF).mono ?_; rintro e w8 ⟨X, rfl, hX, hOX, hb8⟩; (have hM8 := hMF.below hb8); (obtain ⟨hth, hone, hrs, hO9, hS9, hG9⟩ := hM8.ends X hOX (OpBlk.lo hMF.res)); (have hld := run_loadVar_mid (P := Tryz.prog) _ w.heap.size 0 29 X.cs _ hrs Tryz.underlying29 rfl (infoOpB X)); (have HI2 : Hid ((Tryz.prog.info? 29).map (·.size) = some X.cs.toArray.size) := infoOpB X); (obtain ⟨cs, HCS⟩ : ∃ cs, Hid (X.cs = cs) := ⟨_, rfl⟩); rw [HCS.out] at hth hone hO9 hS9 hG9 hld HI2 ⊢; (have HLD : Hid _ := hld); clear hld hrs) | (refine wpList_store_mid rfl 29 _ _ rfl w.heap.size 0 cs.toArray rfl rfl hth HI2.out hone ?_))
                have hld := HLD.out
                exact bodyPost_ret (v := .agg cs.toArray) (by simp [results, Tryz.results47, asAddr, Act.put, hld]) rfl ⟨X, by rw [HCS.out], hX.a, hX.ds, hX.lo, hX.hi, by rw [hX.ky]; decide, by rw [hX.tx]; decide, hO9, hS9.mono (by omega), hG9⟩
              case true =>
                have d4 := hO11.at 4 rfl
                have f4 := hO11.free 4
                have hO12 := hO11.put (y := (⟨0, 0, 0, .slice none 0 0, 3, 3 + r1, x1, 0, yt, ya, ByteArray.empty, ByteArray.empty, []⟩ : Ov)) 4 (.int .i64 3) rfl
                have hM12 := hM11.row (grownBy_set w11 w4.heap.size 4 (.int .i64 3)) (fun g e => by cases e; omega)
                go_upto_region 19 with fail
                clear d4 f4 hO11 hM11
                generalize w11.setCell ⟨w4.heap.size, 4, none⟩ (.int .i64 3) = w12 at *
                have d6 := hO12.at 6 rfl
                have f6 := hO12.free 6
                have hO13 := hO12.put (y := (⟨0, 0, 0, .slice none 0 0, 3, 3 + r1, 0, 0, yt, ya, ByteArray.empty, ByteArray.empty, []⟩ : Ov)) 6 (.int .i64 0) rfl
                have hM13 := hM12.row (grownBy_set w12 w4.heap.size 6 (.int .i64 0)) (fun g e => by cases e; omega)
                go_upto_region 20 with fail
                clear d6 f6 hO12 hM12
                generalize w12.setCell ⟨w4.heap.size, 6, none⟩ (.int .i64 0) = w13 at *
                have hYR := opBlk_range hO13
                have hMF := hM13
                go_wp2_with (first | (refine wpList_load_mid rfl 29 _ rfl w4.heap.size 0 rfl _ _ hYR Tryz.underlying29 rfl (infoOpB _) ?_) | (go_at_call 73; refine (HMK.out _ _ 3 (3 + r1) 0 0 yt ya ByteArray.empty ByteArray.empty hMF).mono ?_; rintro e w8 ⟨X, rfl, hX, hOX, hb8⟩; (have hM8 := hMF.below hb8); (obtain ⟨hth, hone, hrs, hO9, hS9, hG9⟩ := hM8.ends X hOX (OpBlk.lo hMF.res)); (have hld := run_loadVar_mid (P := Tryz.prog) _ w.heap.size 0 29 X.cs _ hrs Tryz.underlying29 rfl (infoOpB X)); (have HI2 : Hid ((Tryz.prog.info? 29).map (·.size) = some X.cs.toArray.size) := infoOpB X); (obtain ⟨cs, HCS⟩ : ∃ cs, Hid (X.cs = cs) := ⟨_, rfl⟩); rw [HCS.out] at hth hone hO9 hS9 hG9 hld HI2 ⊢; (have HLD : Hid _ := hld); clear hld hrs) | (refine wpList_store_mid rfl 29 _ _ rfl w.heap.size 0 cs.toArray rfl rfl hth HI2.out hone ?_))
                have hld := HLD.out
                exact bodyPost_ret (v := .agg cs.toArray) (by simp [results, Tryz.results47, asAddr, Act.put, hld]) rfl ⟨X, by rw [HCS.out], hX.a, hX.ds, hX.lo, hX.hi, by rw [hX.ky]; decide, by rw [hX.tx]; decide, hO9, hS9.mono (by omega), hG9⟩
end Go.Proofs.YtmmkmkaannlkhaaGreatDoor
