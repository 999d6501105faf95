/- The walk of the law over both functions MultiJoin: it answers true at every two values. -/
import Derived.Deep.RegionHeld2
import Derived.Deep.RegionHeld3
import Derived.Deep.Cut
import Derived.Test.YtdkfeabpnikedaaQL03JoinW
import Derived.Test.YtdkfeabpnikedaaQSetRemImplToFindMath
import Derived.Test.YtdkfeabpnikedaaQMultiJoinImpl
import Derived.Test.YtdkfeabpnikedaaQMultiTwo
import Derived.Test.YtdkfeabpnikedaaQFrame
namespace Go.Proofs.Ytdkfeabpnikedaa
open Go.RowKit
set_option linter.unusedVariables false

theorem dyOnMulti {w w1 : World} {n : Nat} {x y : Value} (h : Hid (Dy w n x y)) (hb : Below w.heap.size w w1) : Hid (Dy w1 n x y) := Dy.on h.out hb
theorem svOnMulti {w w1 : World} {B E : Nat} {u v : Value} {xs : List Int} {ls : List En} (h : Hid (Sv w B E u v xs ls)) (hb : Below w.heap.size w w1) : Hid (Sv w1 B E u v xs ls) := Sv.on h.out hb
theorem row_lenMultiJ {w : World} {ao : Option Addr} {la ca : Nat} {za : List Int} (h : IsRow .i64 w ao la ca za) : la ≤ maxLen := by
  obtain ⟨⟨_, cap', e, h1, h2, _⟩, hla⟩ := h.rd
  simp only [Value.slice.injEq, List.length_map, hla] at e h1
  omega
theorem base4K {w w1 : World} {T : TypeId} {va vb va' vb' : Value} (h : Below ((w.alloc (.cells #[va, vb] T)).alloc (.cells #[va', vb'] T)).heap.size ((w.alloc (.cells #[va, vb] T)).alloc (.cells #[va', vb'] T)) w1) :
    w1.cell? ⟨w.heap.size, 0, none⟩ = some va ∧ w1.cell? ⟨w.heap.size, 1, none⟩ = some vb ∧ w1.cell? ⟨w.heap.size + 1, 0, none⟩ = some va' ∧ w1.cell? ⟨w.heap.size + 1, 1, none⟩ = some vb' := by
  have k := two_cells h
  rw [World.size_alloc] at k
  have k' := two_cells (below_seq (below_alloc _ _) h)
  exact ⟨k'.1, k'.2, k.1, k.2⟩
theorem keep4K {w : World} {n : Nat} {x y z u : Value} (h : w.cell? ⟨n, 0, none⟩ = some x ∧ w.cell? ⟨n, 1, none⟩ = some y ∧ w.cell? ⟨n + 1, 0, none⟩ = some z ∧ w.cell? ⟨n + 1, 1, none⟩ = some u) (o : Obj) :
    (w.alloc o).cell? ⟨n, 0, none⟩ = some x ∧ (w.alloc o).cell? ⟨n, 1, none⟩ = some y ∧ (w.alloc o).cell? ⟨n + 1, 0, none⟩ = some z ∧ (w.alloc o).cell? ⟨n + 1, 1, none⟩ = some u :=
  ⟨cell_on (below_alloc _ o) h.1, cell_on (below_alloc _ o) h.2.1, cell_on (below_alloc _ o) h.2.2.1, cell_on (below_alloc _ o) h.2.2.2⟩
theorem four_setK {w : World} {n m : Nat} {x y z u : Value} (h : w.cell? ⟨n, 0, none⟩ = some x ∧ w.cell? ⟨n, 1, none⟩ = some y ∧ w.cell? ⟨n + 1, 0, none⟩ = some z ∧ w.cell? ⟨n + 1, 1, none⟩ = some u) (hm : n + 1 + 1 ≤ m) (a b : Value) :
    ((w.setCell ⟨m, 0, none⟩ a).setCell ⟨m, 1, none⟩ b).cell? ⟨n, 0, none⟩ = some x ∧ ((w.setCell ⟨m, 0, none⟩ a).setCell ⟨m, 1, none⟩ b).cell? ⟨n, 1, none⟩ = some y ∧ ((w.setCell ⟨m, 0, none⟩ a).setCell ⟨m, 1, none⟩ b).cell? ⟨n + 1, 0, none⟩ = some z ∧ ((w.setCell ⟨m, 0, none⟩ a).setCell ⟨m, 1, none⟩ b).cell? ⟨n + 1, 1, none⟩ = some u := by
  have o : ∀ (w : World) (i j : Nat) (u : Value), (w.setCell ⟨m, j, none⟩ u).cell? ⟨n, i, none⟩ = w.cell? ⟨n, i, none⟩ := fun w i j u => World.cell?_setCells_out m [u] j w _ (fun e => absurd e (by show n ≠ m; omega))
  have o' : ∀ (w : World) (i j : Nat) (u : Value), (w.setCell ⟨m, j, none⟩ u).cell? ⟨n + 1, i, none⟩ = w.cell? ⟨n + 1, i, none⟩ := fun w i j u => World.cell?_setCells_out m [u] j w _ (fun e => absurd e (by show n + 1 ≠ m; omega))
  rw [o, o, o, o, o', o', o', o']
  exact h
theorem Dy.madeHK (w : World) (x y : Value) (T : TypeId) : Hid (Dy (w.alloc (.cells #[x, y] T)) w.heap.size x y) := Dy.made w x y T
theorem Dy.madeDK (w : World) (x y : Value) (T : TypeId) : Hid (Dy (w.alloc (.cells #[x, y] T)).drew w.heap.size x y) := Dy.made w x y T
theorem lensMultiJoin (xs : List Int) (ls : List En) (ys : List Int) (ms : List En) : (jnV xs ls ys ms).length ≤ 1048576 ∧ (jnE xs ls ys ms).length ≤ 1048576 := by
  by_cases h : okJ xs ls = true ∧ okJ ys ms = true
  · have h1 := (vecOK_get (vecOK_ofS h.1).1).1
    have h3 := jnL_len (X := xs) (Y := ys) (okJ_apart h.1) (okJ_apart h.2)
    have h4 := (vecOK_ofS h.1).2
    have h5 := (vecOK_ofS h.2).2
    by_cases hl : (jnL xs ys ls ms).length ≤ 256
    · obtain ⟨_, e1, e2⟩ := jn_done h hl
      rw [e1, e2, List.length_zipWith]
      omega
    · obtain ⟨_, e1, e2⟩ := jn_many h hl
      rw [e1, e2]
      simp
  · obtain ⟨_, e1, e2⟩ := jn_bad h
    rw [e1, e2]
    simp

set_option maxHeartbeats 40000000 in
set_option maxRecDepth 100000 in
theorem lawMultiJoin_walk (ao : Option Addr) (la ca : Nat) (za : List Int) (ve : Value) (ls : List En) (bo : Option Addr) (lb cb : Nat) (zb : List Int) (vf : Value) (ms : List En) (w : World) (hra : IsRow .i64 w ao la ca za) (he : RdE w.heap.size w ve ls) (hln : ls.length ≤ 9223372036854775807) (hss : ∀ k, (enAt ls k).2.2.size ≤ 9223372036854775807) (hrb : IsRow .i64 w bo lb cb zb) (he' : RdE w.heap.size w vf ms) (hln' : ms.length ≤ 9223372036854775807) (hss' : ∀ k, (enAt ms k).2.2.size ≤ 9223372036854775807) :
    Calls Try.prog 4 #[.agg #[.slice ao la ca, ve], .agg #[.slice bo lb cb, vf]] w fun e w' => e = .returned (.bool true) ∧ Below w.heap.size w w' := by
  have hma := row_lenMultiJ hra
  have hmb := row_lenMultiJ hrb
  obtain ⟨ha, hla⟩ := hra.rd
  obtain ⟨ha', hlb⟩ := hrb.rd
  generalize za.take la = xs at ha hla
  generalize zb.take lb = ys at ha' hlb
  clear hra hrb
  subst hla hlb
  have hve := he
  obtain ⟨eo, ec, rfl, _⟩ := hve
  have hve := he'
  obtain ⟨fo, fc, rfl, _⟩ := hve
  have hB0 : Below w.heap.size w ((w.alloc (.cells #[.slice ao xs.length ca, .slice eo ls.length ec] 27)).alloc (.cells #[.slice bo ys.length cb, .slice fo ms.length fc] 27)) := below_then (below_alloc _ _) _
  have hB := Below.refl ((w.alloc (.cells #[.slice ao xs.length ca, .slice eo ls.length ec] 27)).alloc (.cells #[.slice bo ys.length cb, .slice fo ms.length fc] 27)).heap.size ((w.alloc (.cells #[.slice ao xs.length ca, .slice eo ls.length ec] 27)).alloc (.cells #[.slice bo ys.length cb, .slice fo ms.length fc] 27))
  have hP := fun C w v ve v' ve' hC hv he hv' he' => specMultiJoin_of l03Join_any C w v ve v' ve' xs ys ls ms hC hv he hv' he'
  have hI := fun C w v ve v' ve' hC hv he hv' he' => implMultiJoin_any C w v ve v' ve' xs ys ls ms hC hv he hv' he'
  unfold SvAns at hP hI
  obtain ⟨l1, l2⟩ := lensMultiJoin xs ls ys ms
  generalize jnV xs ls ys ms = us at hP hI l1
  generalize jnE xs ls ys ms = bs at hP hI l2
  generalize jnC xs ls ys ms = k at hP hI
  have mk : Hid True := trivial
  obtain ⟨c0, c1, d0, d1⟩ := base4K hB
  go_enter Try.func4, Try.ntmps4
  go_wp2_with fail
  refine (szMulti_at w.heap.size 1048576 (by omega) _ ao xs.length ca _ ls hma hln hss (below_seq hB0 hB).size (he.below (below_seq hB0 hB))).mono ?_
  rintro e w1 ⟨⟨x, rfl, x0, x1, hx⟩, hb1⟩
  replace hB := below_seq hB hb1
  clear hb1 c0 c1 d0 d1
  by_cases h0 : x < 0
  · clear hx
    go_wp2_with fail
    go_ret
    exact ⟨rfl, below_seq hB0 hB⟩
  · obtain ⟨hlx, hly⟩ := hx (by omega)
    clear hx
    obtain ⟨c0, c1, d0, d1⟩ := base4K hB
    obtain ⟨L, rfl⟩ : ∃ L : Nat, x = (L : Int) := ⟨x.toNat, by omega⟩
    go_wp2_with fail
    refine (szMulti_at w.heap.size L (by omega) _ bo ys.length cb _ ms hmb hln' hss' (below_seq hB0 hB).size (he'.below (below_seq hB0 hB))).mono ?_
    rintro e w2 ⟨⟨y, rfl, y0, y1, hy⟩, hb2⟩
    replace hB := below_seq hB hb2
    clear hb2 c0 c1 d0 d1
    by_cases h02 : y < 0
    · clear hy
      go_wp2_with fail
      go_ret
      exact ⟨rfl, below_seq hB0 hB⟩
    · obtain ⟨hlx', hly'⟩ := hy (by omega)
      clear hy
      have z2 := hB.size
      simp only [World.size_alloc] at z2
      go_wp2_with fail
      go_cut [6, 7] from 17 (fun s6 s7 wx => ∃ (P : Nat) (ra : Option Addr) (rl rc : Nat) (sa : Option Addr) (sl sc : Nat), s6 = .pointer (some ⟨P, 0, none⟩) ∧ s7 = .int .i64 k ∧ Hid (Dy wx P (.slice ra rl rc) (.slice sa sl sc)) ∧ Hid (Sv wx (w.heap.size + 1 + 1) wx.heap.size (.slice ra rl rc) (.slice sa sl sc) us bs) ∧ w.heap.size + 1 + 1 ≤ P ∧ Below ((w.alloc (.cells #[.slice ao xs.length ca, .slice eo ls.length ec] 27)).alloc (.cells #[.slice bo ys.length cb, .slice fo ms.length fc] 27)).heap.size ((w.alloc (.cells #[.slice ao xs.length ca, .slice eo ls.length ec] 27)).alloc (.cells #[.slice bo ys.length cb, .slice fo ms.length fc] 27)) wx ∧ Below w2.heap.size w2 wx)
      case first =>
        have hBx := hB
        have hSx := base4K hBx
        have hK := (Below.refl w2.heap.size w2).drew
        replace hB := hB.drew
        have hS := base4K hB
        go_region_held3 (fun w' => w'.cell? ⟨w.heap.size, 0, none⟩ = some (.slice ao xs.length ca) ∧ w'.cell? ⟨w.heap.size, 1, none⟩ = some (.slice eo ls.length ec) ∧ w'.cell? ⟨w.heap.size + 1, 0, none⟩ = some (.slice bo ys.length cb) ∧ w'.cell? ⟨w.heap.size + 1, 1, none⟩ = some (.slice fo ms.length fc)) (first | exact hS | exact keep4K hSx (.cells #[.slice none 0 0, .slice none 0 0] 32) | exact keep4K hS _ | exact four_setK hS (by omega) _ _ | exact four_setK (keep4K hS _) (by omega) _ _) (first | (go_at_call 10; clear mk; refine Calls.mono (toMulti_sv w.heap.size w.heap.size _ (.slice ao xs.length ca) (.slice eo ls.length ec) xs ls hlx hly (by first | exact (below_seq hB0 hB).size | exact (below_then (below_seq hB0 hB) (.cells #[.slice none 0 0, .slice none 0 0] 32)).size | exact (below_then (below_seq hB0 hBx) (.cells #[.slice none 0 0, .slice none 0 0] 32)).drew.size) (by first | exact (below_seq hB0 hB).size | exact (below_then (below_seq hB0 hB) (.cells #[.slice none 0 0, .slice none 0 0] 32)).size | exact (below_then (below_seq hB0 hBx) (.cells #[.slice none 0 0, .slice none 0 0] 32)).drew.size) (by first | exact Rd.belowW ha (below_seq hB0 hB) (Nat.le_refl _) | exact Rd.belowW ha (below_then (below_seq hB0 hB) (.cells #[.slice none 0 0, .slice none 0 0] 32)) (Nat.le_refl _) | exact Rd.belowW ha (below_then (below_seq hB0 hBx) (.cells #[.slice none 0 0, .slice none 0 0] 32)).drew (Nat.le_refl _)) (by first | exact RdE.below he (below_seq hB0 hB) | exact RdE.below he (below_then (below_seq hB0 hB) (.cells #[.slice none 0 0, .slice none 0 0] 32)) | exact RdE.below he (below_then (below_seq hB0 hBx) (.cells #[.slice none 0 0, .slice none 0 0] 32)).drew)) ?_; rintro e v3 ⟨a3, n3, k3, b3, m3, d3, rfl, S3, hb'⟩; (first | (replace hB := below_seq hB hb'; replace hK := below_seq hK hb'; (try replace HN := dyOnMulti HN hb'); have hy := hb'.size; (try simp only [World.size_drew] at hy); (try simp only [World.size_alloc] at hy); replace hS := base4K hB; clear hb') | (have HN := dyOnMulti (Dy.madeDK w2 (.slice none 0 0) (.slice none 0 0) 32) hb'; replace hB := below_seq (below_then hBx (.cells #[.slice none 0 0, .slice none 0 0] 32)).drew hb'; replace hK := below_seq (below_alloc w2 (.cells #[.slice none 0 0, .slice none 0 0] 32)).drew hb'; have hy := hb'.size; (try simp only [World.size_drew] at hy); (try simp only [World.size_alloc] at hy); replace hS := base4K hB; clear hb') | (have HN := dyOnMulti (Dy.madeHK _ (.slice none 0 0) (.slice none 0 0) 32) hb'; replace hB := below_seq (below_then hB (.cells #[.slice none 0 0, .slice none 0 0] 32)) hb'; replace hK := below_seq (below_then hK (.cells #[.slice none 0 0, .slice none 0 0] 32)) hb'; have hy := hb'.size; (try simp only [World.size_drew] at hy); (try simp only [World.size_alloc] at hy); replace hS := base4K hB; clear hb'))) | (go_at_call 10; refine Calls.mono (toMulti_sv w.heap.size w.heap.size _ (.slice bo ys.length cb) (.slice fo ms.length fc) ys ms hlx' hly' (by first | exact (below_seq hB0 hB).size | exact (below_then (below_seq hB0 hB) (.cells #[.slice none 0 0, .slice none 0 0] 32)).size | exact (below_then (below_seq hB0 hBx) (.cells #[.slice none 0 0, .slice none 0 0] 32)).drew.size) (by first | exact (below_seq hB0 hB).size | exact (below_then (below_seq hB0 hB) (.cells #[.slice none 0 0, .slice none 0 0] 32)).size | exact (below_then (below_seq hB0 hBx) (.cells #[.slice none 0 0, .slice none 0 0] 32)).drew.size) (by first | exact Rd.belowW ha' (below_seq hB0 hB) (Nat.le_refl _) | exact Rd.belowW ha' (below_then (below_seq hB0 hB) (.cells #[.slice none 0 0, .slice none 0 0] 32)) (Nat.le_refl _) | exact Rd.belowW ha' (below_then (below_seq hB0 hBx) (.cells #[.slice none 0 0, .slice none 0 0] 32)).drew (Nat.le_refl _)) (by first | exact RdE.below he' (below_seq hB0 hB) | exact RdE.below he' (below_then (below_seq hB0 hB) (.cells #[.slice none 0 0, .slice none 0 0] 32)) | exact RdE.below he' (below_then (below_seq hB0 hBx) (.cells #[.slice none 0 0, .slice none 0 0] 32)).drew)) ?_; rintro e v4 ⟨a4, n4, k4, b4, m4, d4, rfl, S4, hb'⟩; (first | (replace hB := below_seq hB hb'; replace hK := below_seq hK hb'; (try replace HN := dyOnMulti HN hb'); replace S3 := S3.on hb'; have hy := hb'.size; (try simp only [World.size_drew] at hy); (try simp only [World.size_alloc] at hy); replace hS := base4K hB; clear hb') | (have HN := dyOnMulti (Dy.madeDK w2 (.slice none 0 0) (.slice none 0 0) 32) hb'; replace hB := below_seq (below_then hBx (.cells #[.slice none 0 0, .slice none 0 0] 32)).drew hb'; replace hK := below_seq (below_alloc w2 (.cells #[.slice none 0 0, .slice none 0 0] 32)).drew hb'; have hy := hb'.size; (try simp only [World.size_drew] at hy); (try simp only [World.size_alloc] at hy); replace hS := base4K hB; clear hb') | (have HN := dyOnMulti (Dy.madeHK _ (.slice none 0 0) (.slice none 0 0) 32) hb'; replace hB := below_seq (below_then hB (.cells #[.slice none 0 0, .slice none 0 0] 32)) hb'; replace hK := below_seq (below_then hK (.cells #[.slice none 0 0, .slice none 0 0] 32)) hb'; replace S3 := (S3.alloc (.cells #[.slice none 0 0, .slice none 0 0] 32)).on hb'; have hy := hb'.size; (try simp only [World.size_drew] at hy); (try simp only [World.size_alloc] at hy); replace hS := base4K hB; clear hb'))) | (go_at_call 15; refine Calls.mono (hP _ _ _ _ _ _ (Nat.le_refl _) (by first | exact S3.rd | exact (S3.alloc (.cells #[.slice none 0 0, .slice none 0 0] 32)).rd) (by first | exact S3.rdE | exact (S3.alloc (.cells #[.slice none 0 0, .slice none 0 0] 32)).rdE) (by first | exact S4.rd | exact (S4.alloc (.cells #[.slice none 0 0, .slice none 0 0] 32)).rd) (by first | exact S4.rdE | exact (S4.alloc (.cells #[.slice none 0 0, .slice none 0 0] 32)).rdE)) ?_; rintro e v5 ⟨u5, y5, rfl, S5, hb'⟩; obtain ⟨a5, n5, k5, b5, m5, d5, rfl, rfl⟩ := S5.shape; (try simp only [World.size_alloc] at S5); (first | (replace hB := below_seq hB hb'; replace hK := below_seq hK hb'; (try replace HN := dyOnMulti HN hb'); have hy := hb'.size; (try simp only [World.size_drew] at hy); (try simp only [World.size_alloc] at hy); replace hS := base4K hB; clear hb') | (have HN := dyOnMulti (Dy.madeDK w2 (.slice none 0 0) (.slice none 0 0) 32) hb'; replace hB := below_seq (below_then hBx (.cells #[.slice none 0 0, .slice none 0 0] 32)).drew hb'; replace hK := below_seq (below_alloc w2 (.cells #[.slice none 0 0, .slice none 0 0] 32)).drew hb'; have hy := hb'.size; (try simp only [World.size_drew] at hy); (try simp only [World.size_alloc] at hy); replace hS := base4K hB; clear hb') | (have HN := dyOnMulti (Dy.madeHK _ (.slice none 0 0) (.slice none 0 0) 32) hb'; replace hB := below_seq (below_then hB (.cells #[.slice none 0 0, .slice none 0 0] 32)) hb'; replace hK := below_seq (below_then hK (.cells #[.slice none 0 0, .slice none 0 0] 32)) hb'; have hy := hb'.size; (try simp only [World.size_drew] at hy); (try simp only [World.size_alloc] at hy); replace hS := base4K hB; clear hb')); (try (obtain ⟨⟨b0, b1⟩, hf⟩ := HN.out; have f0 := hf 0; have f1 := hf 1))))
        all_goals
          go_wp2_with fail
          go_meet
        all_goals
          first
          | (case rel => exact ⟨v5.heap.size, a5, n5, k5, b5, m5, d5, rfl, rfl, Dy.madeHK _ _ _ _, Sv.mono (S5.alloc _) (by omega) (by simp), by omega, below_then hB _, below_then hK _⟩)
          | (case rel => exact ⟨_, a5, n5, k5, b5, m5, d5, rfl, rfl, Dy.set1 (Dy.set0 HN.out _) _, Sv.mono (sv_put S5 _ (by omega) _ _) (by omega) (by simp), by omega, (hB.setCell (by simp only [World.size_alloc]; omega) _).setCell (by simp only [World.size_alloc]; omega) _, (hK.setCell (by first | exact Nat.le_refl _ | (dsimp only; omega)) _).setCell (by first | exact Nat.le_refl _ | (dsimp only; omega)) _⟩)
      case rest =>
        clear hB z2 hP
        obtain ⟨P, a3, n3, k3, b3, m3, d3, rfl, rfl, HP, H3, hPz, hB, _⟩ := hcut
        have z2 := hB.size
        simp only [World.size_alloc] at z2
        have hPl := HP.out.lt
        obtain ⟨c0, c1, d0, d1⟩ := base4K hB
        go_wp2_with fail
        refine (toMulti_sv w.heap.size w.heap.size _ _ _ xs ls hlx hly (below_seq hB0 hB).size (below_seq hB0 hB).size (ha.belowW (below_seq hB0 hB) (Nat.le_refl _)) (he.below (below_seq hB0 hB))).mono ?_
        rintro e w4 ⟨a4, n4, k4, b4, m4, d4, rfl, S4, hb4⟩
        have z4 := hb4.size
        have HX : Hid (Dy _ w4.heap.size _ _) := Dy.made w4 (.slice a4 n4 k4) (.slice b4 m4 d4) 32
        have H4 : Hid (Sv _ _ _ _ _ _ _) := S4.alloc (.cells #[.slice a4 n4 k4, .slice b4 m4 d4] 32)
        replace hB := below_then (below_seq hB hb4) (.cells #[.slice a4 n4 k4, .slice b4 m4 d4] 32)
        replace HP := dyOnMulti (dyOnMulti HP hb4) (below_alloc w4 (.cells #[.slice a4 n4 k4, .slice b4 m4 d4] 32))
        replace H3 := svOnMulti (svOnMulti H3 hb4) (below_alloc w4 (.cells #[.slice a4 n4 k4, .slice b4 m4 d4] 32))
        clear c0 c1 d0 d1 hb4 S4
        obtain ⟨c0, c1, d0, d1⟩ := base4K hB
        go_wp2_with fail
        refine (toMulti_sv w.heap.size w.heap.size _ _ _ ys ms hlx' hly' (below_seq hB0 hB).size (below_seq hB0 hB).size (ha'.belowW (below_seq hB0 hB) (Nat.le_refl _)) (he'.below (below_seq hB0 hB))).mono ?_
        rintro e w5 ⟨a5, n5, k5, b5, m5, d5, rfl, S5, hb5⟩
        have z5 := hb5.size
        rw [World.size_alloc] at z5 S5
        have HY : Hid (Dy _ w5.heap.size _ _) := Dy.made w5 (.slice a5 n5 k5) (.slice b5 m5 d5) 32
        have H5 : Hid (Sv _ _ _ _ _ _ _) := S5.alloc (.cells #[.slice a5 n5 k5, .slice b5 m5 d5] 32)
        replace hB := below_then (below_seq hB hb5) (.cells #[.slice a5 n5 k5, .slice b5 m5 d5] 32)
        replace HP := dyOnMulti (dyOnMulti HP hb5) (below_alloc w5 (.cells #[.slice a5 n5 k5, .slice b5 m5 d5] 32))
        replace HX := dyOnMulti (dyOnMulti HX hb5) (below_alloc w5 (.cells #[.slice a5 n5 k5, .slice b5 m5 d5] 32))
        replace H3 := svOnMulti (svOnMulti H3 hb5) (below_alloc w5 (.cells #[.slice a5 n5 k5, .slice b5 m5 d5] 32))
        replace H4 := svOnMulti (svOnMulti H4 hb5) (below_alloc w5 (.cells #[.slice a5 n5 k5, .slice b5 m5 d5] 32))
        clear c0 c1 d0 d1 hb5 S5
        obtain ⟨⟨e0, e1⟩, _⟩ := HX.out
        obtain ⟨⟨g0, g1⟩, _⟩ := HY.out
        go_wp2_with fail
        refine (hI _ _ _ _ _ _ (Nat.le_refl _) H4.out.rd H4.out.rdE H5.out.rd H5.out.rdE).mono ?_
        rintro e w6 ⟨u6, v6, rfl, S6, hb6⟩
        obtain ⟨a6, n6, k6, b6, m6, d6, rfl, rfl⟩ := S6.shape
        have z6 := hb6.size
        rw [World.size_alloc] at z6 S6
        have HG : Hid (Dy _ w6.heap.size _ _) := Dy.made w6 (.slice a6 n6 k6) (.slice b6 m6 d6) 32
        have H6 : Hid (Sv _ _ _ _ _ _ _) := S6.alloc (.cells #[.slice a6 n6 k6, .slice b6 m6 d6] 32)
        replace hB := below_then (below_seq hB hb6) (.cells #[.slice a6 n6 k6, .slice b6 m6 d6] 32)
        replace HP := dyOnMulti (dyOnMulti HP hb6) (below_alloc w6 (.cells #[.slice a6 n6 k6, .slice b6 m6 d6] 32))
        replace HX := dyOnMulti (dyOnMulti HX hb6) (below_alloc w6 (.cells #[.slice a6 n6 k6, .slice b6 m6 d6] 32))
        replace HY := dyOnMulti (dyOnMulti HY hb6) (below_alloc w6 (.cells #[.slice a6 n6 k6, .slice b6 m6 d6] 32))
        replace H3 := svOnMulti (svOnMulti H3 hb6) (below_alloc w6 (.cells #[.slice a6 n6 k6, .slice b6 m6 d6] 32))
        replace H4 := svOnMulti (svOnMulti H4 hb6) (below_alloc w6 (.cells #[.slice a6 n6 k6, .slice b6 m6 d6] 32))
        replace H5 := svOnMulti (svOnMulti H5 hb6) (below_alloc w6 (.cells #[.slice a6 n6 k6, .slice b6 m6 d6] 32))
        clear e0 e1 g0 g1 hb6 S6
        obtain ⟨⟨p0, p1⟩, _⟩ := HP.out
        go_wp2_with fail
        refine (eqMulti_sv _ _ _ _ _ _ _ _ _ us bs (by omega) (by omega) H6.out H3.out).mono ?_
        rintro e w7 ⟨rfl, hb7⟩
        have z7 := hb7.size
        rw [World.size_alloc] at z7
        replace hb7 := hb7.drew
        replace hB := below_seq hB hb7
        replace HP := dyOnMulti HP hb7
        replace HX := dyOnMulti HX hb7
        replace HY := dyOnMulti HY hb7
        replace HG := dyOnMulti HG hb7
        replace H3 := svOnMulti H3 hb7
        replace H4 := svOnMulti H4 hb7
        replace H5 := svOnMulti H5 hb7
        replace H6 := svOnMulti H6 hb7
        clear hb7 p0 p1
        go_wp2_with fail
        go_region_held2 (fun w' => w'.cell? ⟨w.heap.size, 0, none⟩ = some (.slice ao xs.length ca) ∧ w'.cell? ⟨w.heap.size, 1, none⟩ = some (.slice eo ls.length ec) ∧ w'.cell? ⟨w4.heap.size, 0, none⟩ = some (.slice a4 n4 k4) ∧ w'.cell? ⟨w4.heap.size, 1, none⟩ = some (.slice b4 m4 d4)) (exact ⟨(base4K hB).1, (base4K hB).2.1, HX.out.1.1, HX.out.1.2⟩) (first | (go_at_call 10; refine (toMulti_sv w.heap.size w.heap.size _ _ _ xs ls hlx hly (below_seq hB0 hB).size (below_seq hB0 hB).size (ha.belowW (below_seq hB0 hB) (Nat.le_refl _)) (he.below (below_seq hB0 hB))).mono ?_; rintro e w8 ⟨a8, n8, k8, b8, m8, d8, rfl, S8, hb8⟩; have z80 := hb8.size; (try simp only [World.size_drew] at z80); replace hB := below_seq hB hb8; replace HP := dyOnMulti HP hb8; replace HX := dyOnMulti HX hb8; replace HY := dyOnMulti HY hb8; replace HG := dyOnMulti HG hb8; replace H3 := svOnMulti H3 hb8; replace H4 := svOnMulti H4 hb8; replace H5 := svOnMulti H5 hb8; replace H6 := svOnMulti H6 hb8; clear hb8) | (go_at_call 12; refine (eqMulti_sv _ _ _ _ _ _ _ _ _ xs ls (by omega) (by omega) H4.out S8).mono ?_; rintro e w9 ⟨rfl, hb9⟩; have z90 := hb9.size; replace hB := below_seq hB hb9; replace HP := dyOnMulti HP hb9; replace HX := dyOnMulti HX hb9; replace HY := dyOnMulti HY hb9; replace HG := dyOnMulti HG hb9; replace H3 := svOnMulti H3 hb9; replace H4 := svOnMulti H4 hb9; replace H5 := svOnMulti H5 hb9; replace H6 := svOnMulti H6 hb9; clear hb9))
        clear S8
        replace hB := hB.drew
        replace HP : Hid (Dy w9.drew _ _ _) := HP
        replace HX : Hid (Dy w9.drew _ _ _) := HX
        replace HY : Hid (Dy w9.drew _ _ _) := HY
        replace HG : Hid (Dy w9.drew _ _ _) := HG
        replace H3 : Hid (Sv w9.drew _ _ _ _ _ _) := H3
        replace H4 : Hid (Sv w9.drew _ _ _ _ _ _) := H4
        replace H5 : Hid (Sv w9.drew _ _ _ _ _ _) := H5
        replace H6 : Hid (Sv w9.drew _ _ _ _ _ _) := H6
        go_wp2_with fail
        go_region_held2 (fun w' => w'.cell? ⟨w.heap.size + 1, 0, none⟩ = some (.slice bo ys.length cb) ∧ w'.cell? ⟨w.heap.size + 1, 1, none⟩ = some (.slice fo ms.length fc) ∧ w'.cell? ⟨w5.heap.size, 0, none⟩ = some (.slice a5 n5 k5) ∧ w'.cell? ⟨w5.heap.size, 1, none⟩ = some (.slice b5 m5 d5)) (exact ⟨(base4K hB).2.2.1, (base4K hB).2.2.2, HY.out.1.1, HY.out.1.2⟩) (first | (go_at_call 10; refine (toMulti_sv w.heap.size w.heap.size _ _ _ ys ms hlx' hly' (below_seq hB0 hB).size (below_seq hB0 hB).size (ha'.belowW (below_seq hB0 hB) (Nat.le_refl _)) (he'.below (below_seq hB0 hB))).mono ?_; rintro e w8b ⟨a8, n8, k8, b8, m8, d8, rfl, S8, hb8⟩; have z81 := hb8.size; (try simp only [World.size_drew] at z81); replace hB := below_seq hB hb8; replace HP := dyOnMulti HP hb8; replace HX := dyOnMulti HX hb8; replace HY := dyOnMulti HY hb8; replace HG := dyOnMulti HG hb8; replace H3 := svOnMulti H3 hb8; replace H4 := svOnMulti H4 hb8; replace H5 := svOnMulti H5 hb8; replace H6 := svOnMulti H6 hb8; clear hb8) | (go_at_call 12; refine (eqMulti_sv _ _ _ _ _ _ _ _ _ ys ms (by omega) (by omega) H5.out S8).mono ?_; rintro e w9b ⟨rfl, hb9⟩; have z91 := hb9.size; replace hB := below_seq hB hb9; replace HP := dyOnMulti HP hb9; replace HX := dyOnMulti HX hb9; replace HY := dyOnMulti HY hb9; replace HG := dyOnMulti HG hb9; replace H3 := svOnMulti H3 hb9; replace H4 := svOnMulti H4 hb9; replace H5 := svOnMulti H5 hb9; replace H6 := svOnMulti H6 hb9; clear hb9))
        clear S8
        obtain ⟨⟨e0, e1⟩, _⟩ := HX.out
        go_wp2_with fail
        refine (markMulti_at wc.heap.size w4.heap.size 1 (by omega) w9b a4 n4 k4 b4 m4 d4 xs ls (by omega) (by omega) hlx hly H4.out).mono ?_
        rintro e w10 ⟨rfl, _, hk10, hb10⟩
        have z10 := hk10.1
        replace hB := hB.trans (hb10.mono (by simp only [World.size_alloc]; omega))
        replace HP : Hid (Dy _ _ _ _) := hk10.dy HP.out (by omega)
        replace HY : Hid (Dy _ _ _ _) := hk10.dy HY.out (by omega)
        replace HG : Hid (Dy _ _ _ _) := hk10.dy HG.out (by omega)
        replace H3 : Hid (Sv _ _ _ _ _ _ _) := H3.out.away hk10 (by omega)
        replace H5 : Hid (Sv _ _ _ _ _ _ _) := H5.out.away hk10 (by omega)
        replace H6 : Hid (Sv _ _ _ _ _ _ _) := H6.out.away hk10 (by omega)
        clear hb10 hk10 e0 e1 HX H4
        obtain ⟨⟨e0, e1⟩, _⟩ := HY.out
        go_wp2_with fail
        refine (markMulti_at (w4.heap.size + 1) w5.heap.size (1 + xs.length + 3 * ls.length) (by omega) w10 a5 n5 k5 b5 m5 d5 ys ms (by omega) (by omega) hlx' hly' H5.out).mono ?_
        rintro e w10b ⟨rfl, _, hk10, hb10⟩
        have z10b := hk10.1
        replace hB := hB.trans (hb10.mono (by simp only [World.size_alloc]; omega))
        replace HP : Hid (Dy _ _ _ _) := hk10.dy HP.out (by omega)
        replace HG : Hid (Dy _ _ _ _) := hk10.dy HG.out (by omega)
        replace H3 : Hid (Sv _ _ _ _ _ _ _) := H3.out.away hk10 (by omega)
        replace H6 : Hid (Sv _ _ _ _ _ _ _) := H6.out.away hk10 (by omega)
        have hn10 : ¬ ((1 + xs.length + 3 * ls.length + ys.length + 3 * ms.length : Nat) : Int) < 0 := by omega
        clear hb10 hk10 e0 e1 HY H5
        obtain ⟨⟨p0, p1⟩, _⟩ := HP.out
        obtain ⟨⟨g0, g1⟩, _⟩ := HG.out
        go_wp2_with fail
        refine (eqMulti_sv _ _ _ _ _ _ _ _ _ us bs (by omega) (by omega) H6.out H3.out).mono ?_
        rintro e w11 ⟨rfl, hb11⟩
        have z11 := hb11.size
        replace hB := below_seq hB hb11
        replace HP := dyOnMulti HP hb11
        replace HG := dyOnMulti HG hb11
        replace H3 := svOnMulti H3 hb11
        replace H6 := svOnMulti H6 hb11
        clear hb11 p0 p1 g0 g1
        obtain ⟨⟨g0, g1⟩, _⟩ := HG.out
        go_wp2_with fail
        refine (markMulti_sv (w5.heap.size + 1) w6.heap.size w11 a6 n6 k6 b6 m6 d6 us bs (by omega) (by omega) l1 l2 H6.out).mono ?_
        rintro e w12 ⟨rfl, S7, hk12, hb12⟩
        have z12 := hk12.1
        replace hB := hB.trans (hb12.mono (by simp only [World.size_alloc]; omega))
        replace HP : Hid (Dy _ _ _ _) := hk12.dy HP.out (by omega)
        replace HG : Hid (Dy _ _ _ _) := hk12.dy HG.out (by omega)
        replace H3 : Hid (Sv _ _ _ _ _ _ _) := H3.out.away hk12 (by omega)
        have H7 : Hid (Sv _ _ _ _ _ _ _) := S7
        clear hb12 hk12 g0 g1 H6 S7
        obtain ⟨⟨g0, g1⟩, _⟩ := HG.out
        have hn12 : ¬ ((1 + us.length + 3 * bs.length : Nat) : Int) < 0 := by omega
        go_wp2_with fail
        refine (heldMulti_sv _ _ w12 a6 n6 k6 b6 m6 d6 us.length bs.length l1 l2 H7.out).mono ?_
        rintro e w13 ⟨rfl, hb13⟩
        have z13 := hb13.size
        replace hB := below_seq hB hb13
        replace HP := dyOnMulti HP hb13
        replace HG := dyOnMulti HG hb13
        replace H3 := svOnMulti H3 hb13
        replace H7 := svOnMulti H7 hb13
        clear hb13 g0 g1
        have z2' := hB.size
        simp only [World.size_alloc] at z2'
        go_wp2_with fail
        go_cut [15, 16] from 17 (fun s15 s16 wx => ∃ (P : Nat) (ra : Option Addr) (rl rc : Nat) (sa : Option Addr) (sl sc : Nat), s15 = .pointer (some ⟨P, 0, none⟩) ∧ s16 = .int .i64 k ∧ Hid (Dy wx P (.slice ra rl rc) (.slice sa sl sc)) ∧ Hid (Sv wx (w.heap.size + 1 + 1) wx.heap.size (.slice ra rl rc) (.slice sa sl sc) us bs) ∧ w.heap.size + 1 + 1 ≤ P ∧ Below ((w.alloc (.cells #[.slice ao xs.length ca, .slice eo ls.length ec] 27)).alloc (.cells #[.slice bo ys.length cb, .slice fo ms.length fc] 27)).heap.size ((w.alloc (.cells #[.slice ao xs.length ca, .slice eo ls.length ec] 27)).alloc (.cells #[.slice bo ys.length cb, .slice fo ms.length fc] 27)) wx ∧ Below w13.heap.size w13 wx)
        case first =>
          have hBx := hB
          have hSx := base4K hBx
          have hK := (Below.refl w13.heap.size w13).drew
          replace hB := hB.drew
          have hS := base4K hB
          clear HP HG H3 H7
          go_region_held3 (fun w' => w'.cell? ⟨w.heap.size, 0, none⟩ = some (.slice ao xs.length ca) ∧ w'.cell? ⟨w.heap.size, 1, none⟩ = some (.slice eo ls.length ec) ∧ w'.cell? ⟨w.heap.size + 1, 0, none⟩ = some (.slice bo ys.length cb) ∧ w'.cell? ⟨w.heap.size + 1, 1, none⟩ = some (.slice fo ms.length fc)) (first | exact hS | exact keep4K hSx (.cells #[.slice none 0 0, .slice none 0 0] 32) | exact keep4K hS _ | exact four_setK hS (by omega) _ _ | exact four_setK (keep4K hS _) (by omega) _ _) (first | (go_at_call 10; clear mk; refine Calls.mono (toMulti_sv w.heap.size w.heap.size _ (.slice ao xs.length ca) (.slice eo ls.length ec) xs ls hlx hly (by first | exact (below_seq hB0 hB).size | exact (below_then (below_seq hB0 hB) (.cells #[.slice none 0 0, .slice none 0 0] 32)).size | exact (below_then (below_seq hB0 hBx) (.cells #[.slice none 0 0, .slice none 0 0] 32)).drew.size) (by first | exact (below_seq hB0 hB).size | exact (below_then (below_seq hB0 hB) (.cells #[.slice none 0 0, .slice none 0 0] 32)).size | exact (below_then (below_seq hB0 hBx) (.cells #[.slice none 0 0, .slice none 0 0] 32)).drew.size) (by first | exact Rd.belowW ha (below_seq hB0 hB) (Nat.le_refl _) | exact Rd.belowW ha (below_then (below_seq hB0 hB) (.cells #[.slice none 0 0, .slice none 0 0] 32)) (Nat.le_refl _) | exact Rd.belowW ha (below_then (below_seq hB0 hBx) (.cells #[.slice none 0 0, .slice none 0 0] 32)).drew (Nat.le_refl _)) (by first | exact RdE.below he (below_seq hB0 hB) | exact RdE.below he (below_then (below_seq hB0 hB) (.cells #[.slice none 0 0, .slice none 0 0] 32)) | exact RdE.below he (below_then (below_seq hB0 hBx) (.cells #[.slice none 0 0, .slice none 0 0] 32)).drew)) ?_; rintro e v3 ⟨a3, n3, k3, b3, m3, d3, rfl, S3, hb'⟩; (first | (replace hB := below_seq hB hb'; replace hK := below_seq hK hb'; (try replace HN := dyOnMulti HN hb'); have hy := hb'.size; (try simp only [World.size_drew] at hy); (try simp only [World.size_alloc] at hy); replace hS := base4K hB; clear hb') | (have HN := dyOnMulti (Dy.madeDK w13 (.slice none 0 0) (.slice none 0 0) 32) hb'; replace hB := below_seq (below_then hBx (.cells #[.slice none 0 0, .slice none 0 0] 32)).drew hb'; replace hK := below_seq (below_alloc w13 (.cells #[.slice none 0 0, .slice none 0 0] 32)).drew hb'; have hy := hb'.size; (try simp only [World.size_drew] at hy); (try simp only [World.size_alloc] at hy); replace hS := base4K hB; clear hb') | (have HN := dyOnMulti (Dy.madeHK _ (.slice none 0 0) (.slice none 0 0) 32) hb'; replace hB := below_seq (below_then hB (.cells #[.slice none 0 0, .slice none 0 0] 32)) hb'; replace hK := below_seq (below_then hK (.cells #[.slice none 0 0, .slice none 0 0] 32)) hb'; have hy := hb'.size; (try simp only [World.size_drew] at hy); (try simp only [World.size_alloc] at hy); replace hS := base4K hB; clear hb'))) | (go_at_call 10; refine Calls.mono (toMulti_sv w.heap.size w.heap.size _ (.slice bo ys.length cb) (.slice fo ms.length fc) ys ms hlx' hly' (by first | exact (below_seq hB0 hB).size | exact (below_then (below_seq hB0 hB) (.cells #[.slice none 0 0, .slice none 0 0] 32)).size | exact (below_then (below_seq hB0 hBx) (.cells #[.slice none 0 0, .slice none 0 0] 32)).drew.size) (by first | exact (below_seq hB0 hB).size | exact (below_then (below_seq hB0 hB) (.cells #[.slice none 0 0, .slice none 0 0] 32)).size | exact (below_then (below_seq hB0 hBx) (.cells #[.slice none 0 0, .slice none 0 0] 32)).drew.size) (by first | exact Rd.belowW ha' (below_seq hB0 hB) (Nat.le_refl _) | exact Rd.belowW ha' (below_then (below_seq hB0 hB) (.cells #[.slice none 0 0, .slice none 0 0] 32)) (Nat.le_refl _) | exact Rd.belowW ha' (below_then (below_seq hB0 hBx) (.cells #[.slice none 0 0, .slice none 0 0] 32)).drew (Nat.le_refl _)) (by first | exact RdE.below he' (below_seq hB0 hB) | exact RdE.below he' (below_then (below_seq hB0 hB) (.cells #[.slice none 0 0, .slice none 0 0] 32)) | exact RdE.below he' (below_then (below_seq hB0 hBx) (.cells #[.slice none 0 0, .slice none 0 0] 32)).drew)) ?_; rintro e v4 ⟨a4, n4, k4, b4, m4, d4, rfl, S4, hb'⟩; (first | (replace hB := below_seq hB hb'; replace hK := below_seq hK hb'; (try replace HN := dyOnMulti HN hb'); replace S3 := S3.on hb'; have hy := hb'.size; (try simp only [World.size_drew] at hy); (try simp only [World.size_alloc] at hy); replace hS := base4K hB; clear hb') | (have HN := dyOnMulti (Dy.madeDK w13 (.slice none 0 0) (.slice none 0 0) 32) hb'; replace hB := below_seq (below_then hBx (.cells #[.slice none 0 0, .slice none 0 0] 32)).drew hb'; replace hK := below_seq (below_alloc w13 (.cells #[.slice none 0 0, .slice none 0 0] 32)).drew hb'; have hy := hb'.size; (try simp only [World.size_drew] at hy); (try simp only [World.size_alloc] at hy); replace hS := base4K hB; clear hb') | (have HN := dyOnMulti (Dy.madeHK _ (.slice none 0 0) (.slice none 0 0) 32) hb'; replace hB := below_seq (below_then hB (.cells #[.slice none 0 0, .slice none 0 0] 32)) hb'; replace hK := below_seq (below_then hK (.cells #[.slice none 0 0, .slice none 0 0] 32)) hb'; replace S3 := (S3.alloc (.cells #[.slice none 0 0, .slice none 0 0] 32)).on hb'; have hy := hb'.size; (try simp only [World.size_drew] at hy); (try simp only [World.size_alloc] at hy); replace hS := base4K hB; clear hb'))) | (go_at_call 16; refine Calls.mono (hI _ _ _ _ _ _ (Nat.le_refl _) (by first | exact S3.rd | exact (S3.alloc (.cells #[.slice none 0 0, .slice none 0 0] 32)).rd) (by first | exact S3.rdE | exact (S3.alloc (.cells #[.slice none 0 0, .slice none 0 0] 32)).rdE) (by first | exact S4.rd | exact (S4.alloc (.cells #[.slice none 0 0, .slice none 0 0] 32)).rd) (by first | exact S4.rdE | exact (S4.alloc (.cells #[.slice none 0 0, .slice none 0 0] 32)).rdE)) ?_; rintro e v5 ⟨u5, y5, rfl, S5, hb'⟩; obtain ⟨a5, n5, k5, b5, m5, d5, rfl, rfl⟩ := S5.shape; (try simp only [World.size_alloc] at S5); (first | (replace hB := below_seq hB hb'; replace hK := below_seq hK hb'; (try replace HN := dyOnMulti HN hb'); have hy := hb'.size; (try simp only [World.size_drew] at hy); (try simp only [World.size_alloc] at hy); replace hS := base4K hB; clear hb') | (have HN := dyOnMulti (Dy.madeDK w13 (.slice none 0 0) (.slice none 0 0) 32) hb'; replace hB := below_seq (below_then hBx (.cells #[.slice none 0 0, .slice none 0 0] 32)).drew hb'; replace hK := below_seq (below_alloc w13 (.cells #[.slice none 0 0, .slice none 0 0] 32)).drew hb'; have hy := hb'.size; (try simp only [World.size_drew] at hy); (try simp only [World.size_alloc] at hy); replace hS := base4K hB; clear hb') | (have HN := dyOnMulti (Dy.madeHK _ (.slice none 0 0) (.slice none 0 0) 32) hb'; replace hB := below_seq (below_then hB (.cells #[.slice none 0 0, .slice none 0 0] 32)) hb'; replace hK := below_seq (below_then hK (.cells #[.slice none 0 0, .slice none 0 0] 32)) hb'; have hy := hb'.size; (try simp only [World.size_drew] at hy); (try simp only [World.size_alloc] at hy); replace hS := base4K hB; clear hb')); (try (obtain ⟨⟨b0, b1⟩, hf⟩ := HN.out; have f0 := hf 0; have f1 := hf 1))))
          all_goals
            go_wp2_with fail
            go_meet
          all_goals
            first
            | (case rel => exact ⟨v5.heap.size, a5, n5, k5, b5, m5, d5, rfl, rfl, Dy.madeHK _ _ _ _, Sv.mono (S5.alloc _) (by omega) (by simp), by omega, below_then hB _, below_then hK _⟩)
            | (case rel => exact ⟨_, a5, n5, k5, b5, m5, d5, rfl, rfl, Dy.set1 (Dy.set0 HN.out _) _, Sv.mono (sv_put S5 _ (by omega) _ _) (by omega) (by simp), by omega, (hB.setCell (by simp only [World.size_alloc]; omega) _).setCell (by simp only [World.size_alloc]; omega) _, (hK.setCell (by first | exact Nat.le_refl _ | (dsimp only; omega)) _).setCell (by first | exact Nat.le_refl _ | (dsimp only; omega)) _⟩)
        case rest =>
          obtain ⟨Q, a9, n9, k9, b9, m9, d9, rfl, rfl, HQ, H9, hQz, hB9, hK9⟩ := hcut
          replace HP := dyOnMulti HP hK9
          replace HG := dyOnMulti HG hK9
          replace H3 := svOnMulti H3 hK9
          replace H7 := svOnMulti H7 hK9
          clear hB hK9
          obtain ⟨⟨e0, e1⟩, _⟩ := HQ.out
          obtain ⟨⟨p0, p1⟩, _⟩ := HP.out
          go_wp2_with fail
          refine (eqMulti_sv _ _ _ _ _ _ _ _ _ us bs (by omega) (by omega) H9.out H3.out).mono ?_
          rintro e w16 ⟨rfl, hb16⟩
          replace hB9 := below_seq hB9 hb16
          replace HG := dyOnMulti HG hb16
          replace H7 := svOnMulti H7 hb16
          clear hb16 p0 p1 e0 e1 HP HQ H3 H9
          obtain ⟨⟨g0, g1⟩, _⟩ := HG.out
          go_wp2_with fail
          refine (heldMulti_sv _ _ w16 a6 n6 k6 b6 m6 d6 us.length bs.length l1 l2 H7.out).mono ?_
          rintro e w17 ⟨rfl, hb17⟩
          replace hB9 := below_seq hB9 hb17
          go_wp2_with fail
          go_ret
          exact ⟨rfl, below_seq hB0 hB9⟩

end Go.Proofs.Ytdkfeabpnikedaa
