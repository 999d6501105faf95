/- Drawn vectors that may not be valid. -/
import Derived.Test.YtfjekbfejbgneaaQSrcVec
namespace Go.Proofs.Ytfjekbfejbgneaa
open Go.RowKit
set_option linter.unusedVariables false

/-- Beside a source in b: a row in g, a variable in nv that holds it, and the place of the answer. -/
structure SvD (C : Nat) (w : World) (b g nv : Nat) (xs : List Int) (A : Nat) (wr : World) : Prop where
  own : Own 3 wr (w.heap.size + 1) (.slice (some ⟨g, 0, none⟩) 16 16) (xs.map (Value.int .i64))
  var : wr.heap[nv]? = some (.cells #[.slice (some ⟨g, 0, none⟩) 16 16] 26 (0, 0))
  res : wr.heap[w.heap.size]? = some (.cells #[.slice none 0 0] 26 (0, 0))
  src : Src C wr b A
  gr : w.grownBy wr (some b)
  lb : b < w.heap.size
  lg : g < nv
  lv : w.heap.size < nv
theorem SvD.drew {C : Nat} {w : World} {b g nv : Nat} {xs : List Int} {A : Nat} {wr : World} (h : SvD C w b g nv xs A wr) : SvD C w b g nv xs A wr.drew := ⟨h.own, h.var, h.res, h.src, gr_drew h.gr, h.lb, h.lg, h.lv⟩
theorem SvD.alloc {C : Nat} {w : World} {b g nv : Nat} {xs : List Int} {A : Nat} {wr : World} (h : SvD C w b g nv xs A wr) (o : Obj) : SvD C w b g nv xs A (wr.alloc o) :=
  ⟨Own.below h.own (below_alloc wr _) (Nat.le_refl _), blk_al h.var o, blk_al h.res o, h.src.alloc o, gr_alloc h.gr o, h.lb, h.lg, h.lv⟩
theorem SvD.on {C : Nat} {w : World} {b g nv : Nat} {xs : List Int} {A A' : Nat} {wr w' : World} (h : SvD C w b g nv xs A wr) (hs : Src C w' b A') (hg : wr.grownBy w' (some b)) : SvD C w b g nv xs A' w' := by
  have := h.lb
  have := h.lv
  exact ⟨h.own.apart hg (fun k hk => by cases hk; omega), blk_on h.var hg (by omega), blk_on h.res hg (by omega), hs, grownBy_trans h.gr hg, h.lb, h.lg, h.lv⟩
theorem SvD.put {C : Nat} {w : World} {b g nv : Nat} {xs : List Int} {A : Nat} {wr : World} (h : SvD C w b g nv xs A wr) (n : Nat) (x : Int) : SvD C w b g nv (xs.set n x) A (wr.setCell ⟨g, n, none⟩ (.int .i64 x)) := by
  have h1 := own_lt h.own
  have h2 := h.lb
  have h3 := h.lg
  refine ⟨?_, blk_beside h.var (by omega) _, blk_beside h.res (by omega) _, h.src.set (by omega) _, gr_put h.gr (by omega) _ _, h.lb, h.lg, h.lv⟩
  have := own_set h.own n (.int .i64 x)
  rw [map_set_int] at this
  exact this
/-- What lies ready for the answer. -/
theorem SvD.fin {C : Nat} {w : World} {b g nv : Nat} {xs : List Int} {A : Nat} {wr : World} (h : SvD C w b g nv xs A wr) :
    wr.cell? ⟨nv, 0, none⟩ = some (.slice (some ⟨g, 0, none⟩) 16 16) ∧ wr.cell? ⟨w.heap.size, 0, none⟩ = some (.slice none 0 0) ∧ wr.frozen? ⟨w.heap.size, 0, none⟩ = false ∧
    (wr.setCell ⟨w.heap.size, 0, none⟩ (.slice (some ⟨g, 0, none⟩) 16 16)).cell? ⟨w.heap.size, 0, none⟩ = some (.slice (some ⟨g, 0, none⟩) 16 16) ∧
    Own 3 (wr.setCell ⟨w.heap.size, 0, none⟩ (.slice (some ⟨g, 0, none⟩) 16 16)) w.heap.size (.slice (some ⟨g, 0, none⟩) 16 16) (xs.map (Value.int .i64)) ∧
    Src C (wr.setCell ⟨w.heap.size, 0, none⟩ (.slice (some ⟨g, 0, none⟩) 16 16)) b A ∧ w.grownBy (wr.setCell ⟨w.heap.size, 0, none⟩ (.slice (some ⟨g, 0, none⟩) 16 16)) (some b) := by
  have h1 := own_lt h.own
  exact ⟨cell_blk h.var 0 rfl, cell_blk h.res 0 rfl, free_blk h.res 0, World.cell?_setCell_same _ _ _ (cell_blk h.res 0 rfl), (own_beside h.own (by omega) _).mono (by omega), h.src.set h.lb _, gr_put h.gr (Nat.le_refl _) _ _⟩
theorem own_ne {e T : TypeId} {w : World} {B g n cap m : Nat} {cs : List Value} {c : Array Value} (h : Own e w B (.slice (some ⟨g, 0, none⟩) n cap) cs) (hm : w.heap[m]? = some (.cells c T (0, 0))) (he : e ≠ T) : g ≠ m := by
  obtain ⟨h1, h2⟩ := h
  rcases h2 with ⟨hv, _⟩ | ⟨g', cap', cur, hv, hb, hg, _⟩
  · simp at hv
  · simp only [Value.slice.injEq, Option.some.injEq, Addr.mk.injEq, and_true] at hv
    obtain ⟨rfl, _⟩ := hv
    rintro rfl
    rw [hg] at hm
    simp only [Option.some.injEq, Obj.cells.injEq] at hm
    exact he hm.2.1
theorem cell_one_new (w : World) (x : Value) (t : TypeId) : ∀ j u, [x][j]? = some u → (w.alloc (.cells #[x] t)).cell? ((⟨w.heap.size, 0, none⟩ : Addr).add j) = some u := by
  intro j u hj
  have h : (w.alloc (.cells #[x] t)).heap[w.heap.size]? = some (.cells #[x] t (0, 0)) := heap_alloc_new w _
  rw [Addr.add_lit, Nat.zero_add]
  exact cell_blk h j (by rw [← hj]; simp)
theorem own_take {e : TypeId} {w : World} {B g n cap m : Nat} {cs : List Value} (h : Own e w B (.slice (some ⟨g, 0, none⟩) n cap) cs) (hm : m ≤ cs.length) : Own e w B (.slice (some ⟨g, 0, none⟩) m cap) (cs.take m) := by
  obtain ⟨h1, h2⟩ := h
  rcases h2 with ⟨hv, _⟩ | ⟨g', cap', cur, hv, hb, hg, hle, hx, hs, ht⟩
  · simp at hv
  · simp only [Value.slice.injEq, Option.some.injEq, Addr.mk.injEq, and_true] at hv
    obtain ⟨rfl, rfl, rfl⟩ := hv
    have hl : (cs.take m).length = m := by simp; omega
    refine ⟨by rw [Nat.mul_one], .inr ⟨g, cap, cur, by rw [hl], hb, hg, by omega, hx, hs, ?_⟩⟩
    rw [Nat.mul_one, hl]
    rw [Nat.mul_one] at ht
    rw [← ht, List.take_take, Nat.min_eq_left (by omega)]
theorem gr_row {w w1 w2 : World} {b g : Nat} (h : w.grownBy w1 (some b)) (k : w1.grownBy w2 (some g)) (hg : w.heap.size ≤ g) : w.grownBy w2 (some b) :=
  ⟨k.os.trans h.os, k.tape.trans h.tape, k.output.trans h.output, Nat.le_trans h.size k.size, fun i hi hr => (k.block i (Nat.lt_of_lt_of_le hi h.size) (fun e => by cases e; omega)).trans (h.block i hi hr)⟩
theorem src_apart {C : Nat} {w w' : World} {b A g : Nat} (h : Src C w b A) (hg : w.grownBy w' (some g)) (hn : b < g) : Src C w' b A := by
  have hlt := h.lt
  obtain ⟨v, xs, p, q, h1, h2, h3, h4⟩ := h
  refine ⟨v, xs, p, q, ?_, h2, h3.grown hg (fun k hk => by cases hk; omega), h4⟩
  unfold Sr at h1 ⊢
  rw [hg.block b hlt (fun e => by cases e; omega)]
  exact h1
theorem litV (n : Nat) (h : n < 3) : ∃ x : Int, (#[.int .i64 (-1), .int .i64 1000000000000, .int .i64 1000000000001] : Array Value)[n]? = some (.int .i64 x) ∧ -1 ≤ x ∧ x ≤ 1000000000001 := by
  match n, h with
  | 0, _ => exact ⟨_, rfl, by omega, by omega⟩
  | 1, _ => exact ⟨_, rfl, by omega, by omega⟩
  | 2, _ => exact ⟨_, rfl, by omega, by omega⟩
theorem litW (r : Int) (h0 : 0 ≤ r) (h1 : r < 3) : ∃ n : Nat, r = (n : Int) ∧ ∃ x : Int, (#[.int .i64 (-1), .int .i64 1000000000000, .int .i64 1000000000001] : Array Value)[n]? = some (.int .i64 x) ∧ -1 ≤ x ∧ x ≤ 1000000000001 :=
  ⟨r.toNat, by omega, litV r.toNat (by omega)⟩
/-- A block that was put anew. -/
theorem blk_put {w : World} {g : Nat} {u v : Value} {T : TypeId} (h : w.heap[g]? = some (.cells #[u] T (0, 0))) : (w.setCell ⟨g, 0, none⟩ v).heap[g]? = some (.cells #[v] T (0, 0)) := by
  rw [heap_setCell_same w g 0 _ _ _ h]
  rfl
/-- What a drawn vector is, at its end. -/
def OddV (C : Nat) (w : World) (b A : Nat) (e : Ending) (w' : World) : Prop := ∃ (g n c : Nat) (xs : List Int), e = .returned (.agg #[.slice (some ⟨g, 0, none⟩) n c]) ∧ n = xs.length ∧ xs.length ≤ 17 ∧ Sml 1000000000001 xs ∧ Own 3 w' w.heap.size (.slice (some ⟨g, 0, none⟩) n c) (xs.map (Value.int .i64)) ∧ Src C w' b A ∧ w.grownBy w' (some b)

set_option maxHeartbeats 8000000 in
set_option maxRecDepth 100000 in
theorem oddVector_any (C b A : Nat) (w : World) (h : Src C w b A) (hA : A ≤ 600000000) :
    Calls Try.prog 11 #[.pointer (some ⟨b, 0, none⟩)] w fun e w' => ∃ (g n c : Nat) (xs : List Int), e = .returned (.agg #[.slice (some ⟨g, 0, none⟩) n c]) ∧ n = xs.length ∧ xs.length ≤ 17 ∧ Sml 1000000000001 xs ∧ Own 3 w' w.heap.size (.slice (some ⟨g, 0, none⟩) n c) (xs.map (Value.int .i64)) ∧ Src C w' b (A + 21) ∧ w.grownBy w' (some b) := by
  obtain ⟨i0, hi, hz0, hz1, hz2⟩ := info_parts info3
  have hlt := h.lt
  go_enter Try.func11, Try.ntmps11
  go_wp2_with fail
  refine (srcVector_any C b A _ (h.alloc _) (by omega)).mono ?_
  rintro e w1 ⟨g, xs, rfl, hx, hX4, ho1, hS1, hg1⟩
  have hX : Sml 1000000000001 xs := fun x hx => ⟨(hX4 x hx).1, by have := (hX4 x hx).2; omega⟩
  rw [World.size_alloc] at ho1
  have hsz := hg1.size
  rw [World.size_alloc] at hsz
  have hgl := ho1.blk g rfl
  have hgb := own_lt ho1
  have HS : SvD C w b g w1.heap.size xs (A + 12) (w1.alloc (.cells #[.slice (some ⟨g, 0, none⟩) 16 16] 26)) := ⟨Own.below ho1 (below_alloc w1 _) (Nat.le_refl _), heap_alloc_new w1 _, blk_al (blk_kept hlt hg1) _, hS1.alloc _, gr_alloc (grownBy_trans (World.grownBy_alloc w _ (some b)) hg1) _, hlt, hgl, by omega⟩
  clear ho1 hS1 hg1 h hX4
  go_wp2_with fail
  refine (srcNext_any C b _ 14 _ HS.src (by omega) (by omega) (by omega)).mono ?_
  rintro e w2 ⟨r, rfl, hr0, hr1, hS2, hG2⟩
  replace HS := HS.on hS2 hG2
  generalize w1.heap.size = nv at HS hsz hgl ⊢
  clear hS2 hG2
  refine if h0 : r = 0 then ?pa else ?pb
  case' pb => refine if h1 : r = 1 then ?pc else ?pd
  case' pd => refine if h2 : r = 2 then ?pe else ?pf
  case pa =>
    subst h0
    have c3 := cell_blk HS.var 0 rfl
    replace HS := HS.drew
    have c4 := cell_blk HS.var 0 rfl
    go_wp2_with fail
    go_region_with (go_at_call 23; refine Calls.mono (srcNext_any C b _ 17 _ (by with_reducible exact HS.src) (by omega) (by omega) (by omega)) ?_; rintro e w3 ⟨r1, rfl, hr0, hr1, hS2, hG2⟩; replace HS := HS.on hS2 hG2; have c5 := cell_blk HS.var 0 rfl; have f5 := free_blk HS.var 0; obtain ⟨n1, rfl⟩ : ∃ n : Nat, r1 = (n : Int) := ⟨r1.toNat, by omega⟩; have q1 : (n1 : Int) ≤ 16 := by omega)
    all_goals
      have hv := blk_put (v := .slice (some ⟨g, 0, none⟩) n1 16) HS.var
      have hr := blk_beside (k := 0) HS.res (Nat.ne_of_lt HS.lv) (.slice (some ⟨g, 0, none⟩) n1 16)
      have ho := own_beside (k := 0) HS.own (Nat.ne_of_lt HS.lg) (.slice (some ⟨g, 0, none⟩) n1 16)
      have hs := HS.src.set (k := 0) (Nat.lt_trans HS.lb HS.lv) (.slice (some ⟨g, 0, none⟩) n1 16)
      have hg := gr_put HS.gr (Nat.le_of_lt HS.lv) 0 (.slice (some ⟨g, 0, none⟩) n1 16)
      have c6 := cell_blk hv 0 rfl
      have c7 := cell_blk hr 0 rfl
      have f7 := free_blk hr 0
      have hot := own_beside (m := w.heap.size) (k := 0) (own_take (m := n1) ho (by simp; omega)) (by omega) (.slice (some ⟨g, 0, none⟩) n1 16)
      rw [← List.map_take] at hot
      have q0 := World.cell?_setCell_same _ _ (.slice (some ⟨g, 0, none⟩) n1 16) c7
      go_wp2_with fail
      refine bodyPost_ret (v := .agg #[.slice (some ⟨g, 0, none⟩) n1 16]) ?_ rfl ⟨g, n1, 16, xs.take n1, rfl, by simp; omega, by simp; omega, hX.take n1, hot.mono (by omega), (hs.set hlt _).mono (by omega), gr_put hg (Nat.le_refl _) _ _⟩
      simp [results, Try.results11, go_sem, q0]
  case pc =>
    subst h1
    have mk : Hid True := trivial
    have HSx := HS
    have hb2 : b < w2.heap.size := HS.src.lt
    have c3 := cell_blk HS.var 0 rfl
    replace HS := HS.drew
    have c4 := cell_blk HS.var 0 rfl
    have c5 := cell_blk (HSx.alloc (.cells #[.int .i64 (-1), .int .i64 1000000000000, .int .i64 1000000000001] 3)).drew.var 0 rfl
    have c5b := cell_blk (HS.alloc (.cells #[.int .i64 (-1), .int .i64 1000000000000, .int .i64 1000000000001] 3)).var 0 rfl
    go_wp2_with fail
    go_region_with (first | (go_at_call 23; clear mk; (first | (refine Calls.mono (srcNext_any C b _ 16 _ (by with_reducible exact HS.src) (by omega) (by omega) (by omega)) ?_; rintro e w3 ⟨r1, rfl, hr0, hr1, hS2, hG2⟩; replace HS := HS.on hS2 hG2) | (refine Calls.mono (srcNext_any C b _ 16 _ (by with_reducible exact (HS.alloc (.cells #[.int .i64 (-1), .int .i64 1000000000000, .int .i64 1000000000001] 3)).src) (by omega) (by omega) (by omega)) ?_; rintro e w3 ⟨r1, rfl, hr0, hr1, hS2, hG2⟩; have hL := blk_kept HS.src.lt hG2; (try simp only [World.size_drew] at hL); replace HS := (HS.alloc (.cells #[.int .i64 (-1), .int .i64 1000000000000, .int .i64 1000000000001] 3)).on hS2 hG2) | (refine Calls.mono (srcNext_any C b _ 16 _ (by with_reducible exact (HSx.alloc (.cells #[.int .i64 (-1), .int .i64 1000000000000, .int .i64 1000000000001] 3)).drew.src) (by omega) (by omega) (by omega)) ?_; rintro e w3 ⟨r1, rfl, hr0, hr1, hS2, hG2⟩; have hL := blk_kept HSx.src.lt (gr_undrew (w := w2.alloc (.cells #[.int .i64 (-1), .int .i64 1000000000000, .int .i64 1000000000001] 3)) hG2); replace HS := ((HSx.alloc (.cells #[.int .i64 (-1), .int .i64 1000000000000, .int .i64 1000000000001] 3)).drew).on hS2 hG2)); obtain ⟨n1, rfl⟩ : ∃ n : Nat, r1 = (n : Int) := ⟨r1.toNat, by omega⟩; (have c6 := cell_blk HS.var 0 rfl); (have c6b := cell_blk (HS.alloc (.cells #[.int .i64 (-1), .int .i64 1000000000000, .int .i64 1000000000001] 3)).var 0 rfl)) | (go_at_call 23; ((first | (refine Calls.mono (srcNext_any C b _ 3 _ (by with_reducible exact HS.src) (by omega) (by omega) (by omega)) ?_; rintro e w4 ⟨r2, rfl, hr2, hr3, hS3, hG3⟩; (try replace hL := blk_on hL hG3 (by omega)); replace HS := HS.on hS3 hG3) | (refine Calls.mono (srcNext_any C b _ 3 _ (by with_reducible exact (HS.alloc (.cells #[.int .i64 (-1), .int .i64 1000000000000, .int .i64 1000000000001] 3)).src) (by omega) (by omega) (by omega)) ?_; rintro e w4 ⟨r2, rfl, hr2, hr3, hS3, hG3⟩; have hL := blk_kept HS.src.lt hG3; replace HS := (HS.alloc (.cells #[.int .i64 (-1), .int .i64 1000000000000, .int .i64 1000000000001] 3)).on hS3 hG3)); (obtain ⟨n2, rfl, x1, hx1, hx2, hx3⟩ := litW r2 hr2 hr3); (try have hl := cell_blk hL n2 hx1); (have hl' := cell_blk (heap_alloc_new w4 (.cells #[.int .i64 (-1), .int .i64 1000000000000, .int .i64 1000000000001] 3)) n2 hx1); (have c7 := cell_blk HS.var 0 rfl); (have c8 := cell_blk (HS.alloc (.cells #[.int .i64 (-1), .int .i64 1000000000000, .int .i64 1000000000001] 3)).var 0 rfl); (have d1 := own_cell HS.own (k := n1) (by rw [List.length_map, hx]; omega)); (have d2 := own_free HS.own n1); (have d3 := own_cell (HS.alloc (.cells #[.int .i64 (-1), .int .i64 1000000000000, .int .i64 1000000000001] 3)).own (k := n1) (by rw [List.length_map, hx]; omega)); (have d4 := own_free (HS.alloc (.cells #[.int .i64 (-1), .int .i64 1000000000000, .int .i64 1000000000001] 3)).own n1); (have j0 : (0 : Int) ≤ (n1 : Int) := by omega); (have j1 : (n1 : Int) < 16 := by omega))))
    all_goals
      first
      | (have HE := HS.put n1 x1
         obtain ⟨e1, e2, e3, e4, e5, e6, e7⟩ := HE.fin
         go_wp2_with fail
         refine bodyPost_ret (v := .agg #[.slice (some ⟨g, 0, none⟩) 16 16]) ?_ rfl ⟨g, 16, 16, xs.set n1 x1, rfl, by simp [hx], by simp [hx], hX.set n1 hx2 hx3, e5, e6.mono (by omega), e7⟩
         simp [results, Try.results11, go_sem, e4]
         done)
      | (have HE := (HS.alloc (.cells #[.int .i64 (-1), .int .i64 1000000000000, .int .i64 1000000000001] 3)).put n1 x1
         obtain ⟨e1, e2, e3, e4, e5, e6, e7⟩ := HE.fin
         go_wp2_with fail
         refine bodyPost_ret (v := .agg #[.slice (some ⟨g, 0, none⟩) 16 16]) ?_ rfl ⟨g, 16, 16, xs.set n1 x1, rfl, by simp [hx], by simp [hx], hX.set n1 hx2 hx3, e5, e6.mono (by omega), e7⟩
         simp [results, Try.results11, go_sem, e4]
         done)
  case pe =>
    subst h2
    have c3 := cell_blk HS.var 0 rfl
    have hb1 : b < g := by have := HS.lb; omega
    have hw2 := HS.src.lt
    go_wp2_with (at_builtin; refine wpList_append_own _ rfl _ _ 24 rfl (w.heap.size + 1) 3 i0 (.int .i64 0) 1 8 Try.underlying24 hi hz0 hz1 hz2 rfl (by decide) _ _ _ rfl (HS.alloc _).own ⟨w2.heap.size, 0, none⟩ 1 1 [.int .i64 0] rfl rfl (cell_one_new _ _ _) (by simp [Value.oneCell']) (by simp [maxLen, hx]) (by simp [hx]) (by have := HS.gr.size; simp; omega) ?_)
    intro v3 w3 ho3 hg3 hiff
    have hg4 : (w2.alloc (.cells #[.int .i64 0] 3)).grownBy w3 (some g) := hg3
    have ho4 : Own 3 w3 (w.heap.size + 1) v3 ((xs ++ [0]).map (Value.int .i64)) := by
      have := own_of ho3
      rw [List.map_append]
      exact this
    obtain ⟨g3, cap, rfl, hb3, hl3, _⟩ := ho4.some (by simp)
    rw [List.length_map, List.length_append, hx] at ho4
    have hv3 := blk_on (HS.alloc (.cells #[.int .i64 0] 3)).var hg4 (by omega)
    have hr3 := blk_on (HS.alloc (.cells #[.int .i64 0] 3)).res hg4 (by omega)
    have hs3 := src_apart (HS.alloc (.cells #[.int .i64 0] 3)).src hg4 hb1
    have hgg := gr_row (HS.alloc (.cells #[.int .i64 0] 3)).gr hg4 (by omega)
    have hne : g3 ≠ nv := own_ne ho4 hv3 (by decide)
    have c5 := cell_blk hv3 0 rfl
    have f5 := free_blk hv3 0
    have hv := blk_put (v := .slice (some ⟨g3, 0, none⟩) 17 cap) hv3
    have hr := blk_beside (k := 0) hr3 (Nat.ne_of_lt HS.lv) (.slice (some ⟨g3, 0, none⟩) 17 cap)
    have ho := own_beside (k := 0) ho4 hne (.slice (some ⟨g3, 0, none⟩) 17 cap)
    have hs := hs3.set (k := 0) (Nat.lt_trans HS.lb HS.lv) (.slice (some ⟨g3, 0, none⟩) 17 cap)
    have hg := gr_put hgg (Nat.le_of_lt HS.lv) 0 (.slice (some ⟨g3, 0, none⟩) 17 cap)
    have c6 := cell_blk hv 0 rfl
    have c7 := cell_blk hr 0 rfl
    have f7 := free_blk hr 0
    have hot := own_beside (m := w.heap.size) (k := 0) ho (by omega) (.slice (some ⟨g3, 0, none⟩) 17 cap)
    have q0 := World.cell?_setCell_same _ _ (.slice (some ⟨g3, 0, none⟩) 17 cap) c7
    have hX1 : Sml 1000000000001 (xs ++ [0]) := by
      intro x hx
      rcases List.mem_append.1 hx with hx | hx
      · exact hX x hx
      · simp at hx
        omega
    clear ho3 hg3 hiff
    simp only [List.length_map, List.length_append, hx, List.length_cons, List.length_nil, Nat.zero_add, Nat.reduceAdd]
    go_wp2_with fail
    refine bodyPost_ret (v := .agg #[.slice (some ⟨g3, 0, none⟩) 17 cap]) ?_ rfl ⟨g3, 17, cap, xs ++ [0], rfl, by simp [hx], by simp [hx], hX1, hot.mono (by omega), (hs.set hlt _).mono (by omega), gr_put hg (Nat.le_refl _) _ _⟩
    simp [results, Try.results11, go_sem, q0]
  case pf =>
    have e0 : (r == 0) = false := by simpa using h0
    have e1 : (r == 1) = false := by simpa using h1
    have e2 : (r == 2) = false := by simpa using h2
    clear h0 h1 h2
    obtain ⟨k1, k2, k3, k4, k5, k6, k7⟩ := HS.fin
    go_wp2_with fail
    refine bodyPost_ret (v := .agg #[.slice (some ⟨g, 0, none⟩) 16 16]) ?_ rfl ⟨g, 16, 16, xs, rfl, by simp [hx], by omega, hX, k5, k6.mono (by omega), k7⟩
    simp [results, Try.results11, go_sem, k4]

end Go.Proofs.Ytfjekbfejbgneaa
