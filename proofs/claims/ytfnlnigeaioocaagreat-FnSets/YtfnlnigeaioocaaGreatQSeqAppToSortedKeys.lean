/- slices.AppendSeq and slices.Collect at stamps: what an iterator hands on, in a row of the call's own. slices.SortedFunc of a map's keys (stamps), over whatever contract slices.SortFunc has for rows of at most N stamps. -/
import Derived.Maps.AppendAt
import Derived.Test.YtfnlnigeaioocaaGreatQKeysIterToKeepMath
namespace Go.Proofs.YtfnlnigeaioocaaGreat
open Go.RowKit
attribute [local go_sem] Oper.semAt_some
set_option linter.unusedVariables false

def spC (x : Sp) : List Value := [.int .i64 x.1, .int .i64 x.2]
def spCs : List Sp → List Value
  | [] => []
  | x :: xs => spC x ++ spCs xs
theorem spCs_app (a b : List Sp) : spCs (a ++ b) = spCs a ++ spCs b := by
  induction a with
  | nil => rfl
  | cons e a ih => simp [spCs, ih]
theorem spCs_len (ls : List Sp) : (spCs ls).length = ls.length * 2 := by
  induction ls with
  | nil => rfl
  | cons e ls ih => simp [spCs, spC, ih]; omega
/-- A row of stamps of the call's own. -/
def OwnS (w : World) (B : Nat) (v : Value) (ss : List Sp) : Prop := w.ownsRow B 56 2 v ss.length (spCs ss)
theorem infoSt : (Tryz.prog.info? 56).map (fun i => (i.zero, i.size, i.bytes)) = some (some (.agg #[.int .i64 0, .int .i64 0]), 2, 16) := by kernel_rfl
theorem two_new (w : World) (x y : Value) (t : TypeId) : ∀ j u, [x, y][j]? = some u → (w.alloc (.cells #[x, y] t)).cell? ((⟨w.heap.size, 0, none⟩ : Addr).add j) = some u := by
  intro j u hj
  have h : (w.alloc (.cells #[x, y] t)).heap[w.heap.size]? = some (.cells #[x, y] t (0, 0)) := heap_alloc_new w _
  rw [Addr.add_lit, Nat.zero_add]
  unfold World.cell?
  rw [show (w.alloc (.cells #[x, y] t)).heap[(⟨w.heap.size, j, none⟩ : Addr).block]? = some (.cells #[x, y] t (0, 0)) from h]
  rw [← hj]
  simp
/-- A stamp in a block of its own. -/
def Pr (W : World) (B : Nat) (x : Sp) : Prop := W.heap[B]? = some (.cells #[.int .i64 x.1, .int .i64 x.2] 56 (0, 0))
theorem Pr.cells {W : World} {B : Nat} {x : Sp} (h : Pr W B x) : W.cell? ⟨B, 0, none⟩ = some (.int .i64 x.1) ∧ W.cell? ⟨B, 1, none⟩ = some (.int .i64 x.2) := by
  constructor <;> simp [World.cell?, show W.heap[B]? = _ from h]
theorem pr_own (B : Nat) (x : Sp) : Go.Own (fun (_ : Unit) W => Pr W B x) := fun s X Y row hs hg hrow => by
  refine (hg.block B (Array.getElem?_eq_some_iff.1 hs).1 (fun e' => ?_)).trans hs
  obtain ⟨o, ho, hc⟩ := hrow B e'.symm
  rw [show X.heap[B]? = _ from hs] at ho
  cases ho
  cases hc

set_option maxRecDepth 100000 in
set_option maxHeartbeats 4000000 in
theorem appendSeq_in (n : Nat) (hn : 3 ≤ n) (gf : Nat) (lb : Array Value) (eg : ∀ args w, (callFunc gf args).run Tryz.prog w = .ok (.enter gf args) w)
    (S : List Sp → Prop) (N : Nat) (hN : N ≤ 1048576) (w : World) (hseq : SeqStopsK Fence.wide (n - 1) Tryz.prog gf lb (fun x => #[spV x]) KeepsWalks S (fun _ => True) N w) :
    CallsIn Fence.wide n Tryz.prog 92 #[.slice none 0 0, .func (.func gf) #[] lb] w fun e w' => ∃ v ss, e = .returned v ∧ S ss ∧ OwnS w' w.heap.size v ss ∧ ss.length ≤ N ∧ (v = .slice none 0 0 ↔ ss = []) ∧ Below w.heap.size w w' := by
  have h1 : 1 ≤ n := by omega
  obtain ⟨i0, hi, hz0, hz1, hz2⟩ := info_parts infoSt
  refine callsIn_of_wp_marks Tryz.func92 rfl trivial ?_ rfl
  simp only [Tryz.ntmps92, List.size_toArray, List.length_cons, List.length_nil, Nat.reduceAdd, Nat.reduceSub, Array.replicate_succ, Array.replicate_zero, List.push_toArray, List.append_toArray, List.nil_append, List.cons_append]
  gi_wp2
  obtain ⟨W0, hW0⟩ : ∃ W0, w.alloc (.cells #[.slice none 0 0] 105) = W0 := ⟨_, rfl⟩
  have hs0 : W0.heap.size = w.heap.size + 1 := by rw [← hW0]; simp
  have hv0 : Boxed W0 w.heap.size 105 (.slice none 0 0) := by rw [← hW0]; exact Boxed.new w _ _
  have hb0 : Below w.heap.size w W0 := by rw [← hW0]; exact (Below.refl _ w).alloc (Nat.le_refl _) _
  rw [hW0]
  refine wpIn_rangeFunc_ownH rfl h1 (gf := gf) (lb := lb) rfl trivial eg hseq walksK_t walksK_b hb0 (fun _ => rfl)
    (fun pre W => ((∃ v, Boxed W w.heap.size 105 v ∧ W.ownsRow w.heap.size 56 2 v pre.length (spCs pre) ∧ (v = .slice none 0 0 ↔ pre = [])) ∧ Below w.heap.size w W) ∧ pre.length ≤ N)
    (fun _ _ _ => False)
    (OwnFrom.and (OwnFrom.and (Go.Own.from (holdsRow_own w.heap.size w.heap.size 105 56 2 (fun pre => pre.length) (fun pre => spCs pre) (fun pre v => (v = .slice none 0 0 ↔ pre = []))) _) (ownFrom_below (Nat.le_refl _) (by omega))) (ownFrom_pure _ _))
    (fun _ _ _ _ _ hs _ _ => hs)
    ⟨⟨⟨_, hv0, World.ownsRow_nil _ _ _ _, by simp⟩, hb0⟩, Nat.zero_le _⟩
    (fun x a' W => ∃ Bx, w.heap.size < Bx ∧ Pr W Bx x ∧ a' = { tmps := #[.slice none 0 0, .func (.func gf) #[] lb, .pointer (some ⟨w.heap.size, 0, none⟩), undef, .slice none 0 0, .pointer (some ⟨Bx, 0, none⟩), .func (.func gf) #[] lb, spV x, undef, undef, undef, undef, undef], defers := [] })
    (fun x a' s X Y row hs hg hrow => by
      obtain ⟨Bx, hBx, hP, rfl⟩ := hs
      exact ⟨Bx, hBx, Go.Own.from (pr_own Bx x) _ () X Y row hP hg hrow, rfl⟩) ?assign ?body ?done ?stop
  case assign =>
    rintro l pre x W K ⟨⟨⟨v, hv, hrow, hnil⟩, hB⟩, hpl⟩ hK
    obtain ⟨t, a⟩ := x
    simp only [spV]
    gi_wp2
    refine hK _ _ ((KeepsOthers.alloc _ _).from _) (KeepsOthers.alloc _ _).walks ⟨⟨⟨v, hv.alloc _, hrow.alloc _, hnil⟩, hB.alloc hB.size _⟩, hpl⟩ ⟨W.heap.size, hv.lt, World.alloc_heap_new W _, rfl⟩
  case body =>
    rintro l pre x a' W hl ⟨r, hr⟩ ⟨⟨⟨v, hv, hrow, hnil⟩, hB⟩, hpl⟩ ⟨Bx, hBx, hP, rfl⟩ hlt
    obtain ⟨t, a⟩ := x
    simp only [spV]
    have hc := hv.cell
    obtain ⟨p0, p1⟩ := hP.cells
    simp only at p0 p1
    gi_wp2_with ((gi_at_builtin; refine wpListIn_append_own _ rfl _ _ 105 rfl w.heap.size 56 i0 (.agg #[.int .i64 0, .int .i64 0]) 2 16 Tryz.underlying105 hi hz0 hz1 hz2 rfl (by decide) _ _ _ rfl (hrow.alloc _) ⟨W.heap.size, 0, none⟩ 1 1 [.int .i64 t, .int .i64 a] rfl rfl (two_new _ _ _ _) (by simp [Value.oneCell']) (by unfold maxLen; omega) (by omega) (by have := hB.size; simp; omega) ?_; intro v' w1 hown' hgrow _; obtain ⟨g', cap', rfl⟩ := ownsRow_succ hown'; obtain ⟨hv1, hv2, hr2, hk2, hb2⟩ := hv.appended (by decide) hrow hB.size (Nat.le_refl _) hown' hgrow; have hc1 := hv1.cell; have hf1 := hv1.frozen))
    refine ⟨hk2.from _, hk2.walks, ⟨⟨_, hv2, ?_, by simp⟩, hB.trans hb2⟩, by simp; omega⟩
    rw [spCs_app, List.length_append]
    exact hr2
  case done =>
    rintro D xs W hD hS ⟨⟨⟨v, hv, hrow, hnil⟩, hB⟩, hpl⟩ hK
    have hc := hv.cell
    gi_wp2
    refine ⟨by simp, .inl ⟨_, _, rfl, run_takeDeferred hK, ?_⟩⟩
    exact ⟨_, results_tmp rfl _ _ _, v, xs, rfl, hS, ownsRow_putObj hrow _ hK rfl, hpl, hnil, hB.trans (belowK_b (w := w) (Nat.le_refl _) W D _ _ (by omega) hK rfl rfl)⟩
  case stop =>
    rintro D c pre W _ _ h _
    exact h.elim

set_option maxHeartbeats 1000000 in
theorem collect_in (n : Nat) (hn : 4 ≤ n) (gf : Nat) (lb : Array Value) (eg : ∀ args w, (callFunc gf args).run Tryz.prog w = .ok (.enter gf args) w)
    (S : List Sp → Prop) (N : Nat) (hN : N ≤ 1048576) (w : World) (hseq : SeqStopsK Fence.wide (n - 1 - 1) Tryz.prog gf lb (fun x => #[spV x]) KeepsWalks S (fun _ => True) N w) :
    CallsIn Fence.wide n Tryz.prog 76 #[.func (.func gf) #[] lb] w fun e w' => ∃ v ss, e = .returned v ∧ S ss ∧ OwnS w' w.heap.size v ss ∧ ss.length ≤ N ∧ (v = .slice none 0 0 ↔ ss = []) ∧ Below w.heap.size w w' := by
  have h1 : 1 ≤ n := by omega
  refine callsIn_of_wp Tryz.func76 rfl trivial ?_ rfl
  simp only [Tryz.ntmps76, List.size_toArray, List.length_cons, List.length_nil, Nat.reduceAdd, Nat.reduceSub, Array.replicate_succ, Array.replicate_zero, List.push_toArray, List.append_toArray, List.nil_append, List.cons_append]
  have hfn : Fence.wide.fn 92 := trivial
  gi_wp2_with (gi_at_call 92; refine (appendSeq_in (n - 1) (by omega) gf lb eg S N hN _ hseq).mono ?_; rintro e w' ⟨v, ss, rfl, hS, hrow, hN', hnil, hb⟩)
  go_ret
  exact ⟨v, ss, rfl, hS, hrow, hN', hnil, hb⟩

end Go.Proofs.YtfnlnigeaioocaaGreat

namespace Go.Proofs.YtfnlnigeaioocaaGreat
open Go.RowKit
set_option linter.unusedVariables false

/-- Of two stamps the second one is not below the first. -/
def leS (x y : Sp) : Prop := lessS y.1 y.2 x.1 x.2 = false
/-- The order of stamps as a value: the method of the zero order. -/
def ordV : Value := .func (.func 53) #[.agg #[]] #[]
/-- slices.SortFunc sorts rows of at most N stamps by their order. -/
def SortsTo (N : Nat) : Prop := ∀ (B : Nat) (v : Value) (ss : List Sp) (W : World), OwnS W B v ss → ss.length ≤ N →
  Calls Tryz.prog 77 #[v, ordV] W fun e W' => e = .returned (.tuple #[]) ∧ ∃ ss', ss'.Perm ss ∧ ss'.Pairwise leS ∧ OwnS W' B v ss' ∧ W.grownBy W' v.ownBlock

theorem OwnS.lt {w : World} {B : Nat} {v : Value} {ss : List Sp} (h : OwnS w B v ss) : ∀ k, v.ownBlock = some k → B ≤ k ∧ k < w.heap.size := fun k hk => World.ownsRow.lt h k hk

theorem OwnS.shape {w : World} {B : Nat} {v : Value} {ss : List Sp} (h : OwnS w B v ss) : ∃ ao cap, v = .slice ao ss.length cap ∧ (0 < ss.length → ∃ g, ao = some ⟨g, 0, none⟩) := by
  rcases h.2 with ⟨rfl, hz⟩ | ⟨g, cap, cur, rfl, _⟩
  · exact ⟨none, 0, by rw [hz], fun h => by omega⟩
  · exact ⟨_, cap, rfl, fun _ => ⟨g, rfl⟩⟩
theorem OwnS.mono {w : World} {B B' : Nat} {v : Value} {ss : List Sp} (h : OwnS w B v ss) (hb : B' ≤ B) : OwnS w B' v ss := by
  obtain ⟨h1, h2⟩ := h
  refine ⟨h1, ?_⟩
  rcases h2 with h2 | ⟨g, cap, cur, hv, hg, hh, r⟩
  · exact .inl h2
  · exact .inr ⟨g, cap, cur, hv, by omega, hh, r⟩
theorem spCs_at {ss : List Sp} {k : Nat} (hk : k < ss.length) : (spCs ss)[k * 2]? = some (.int .i64 ss[k].1) ∧ (spCs ss)[k * 2 + 1]? = some (.int .i64 ss[k].2) := by
  induction ss generalizing k with
  | nil => simp at hk
  | cons e ls ih =>
    cases k with
    | zero => simp [spCs, spC]
    | succ k =>
      have := ih (k := k) (by simpa using hk)
      have e0 : (k + 1) * 2 = k * 2 + 1 + 1 := by omega
      rw [e0]
      simpa [spCs, spC] using this
theorem OwnS.cells {w : World} {B g n cap : Nat} {ss : List Sp} (h : OwnS w B (.slice (some ⟨g, 0, none⟩) n cap) ss) (hn : n = ss.length) {k : Nat} (hk : k < ss.length) : w.cell? ⟨g, k * 2, none⟩ = some (.int .i64 ss[k].1) ∧ w.cell? ⟨g, k * 2 + 1, none⟩ = some (.int .i64 ss[k].2) := by
  subst hn
  have hl := spCs_len ss
  obtain ⟨h0, h1⟩ := spCs_at hk
  exact ⟨(World.ownsRow.cellAt h (k * 2) (by omega)).trans h0, (World.ownsRow.cellAt h (k * 2 + 1) (by omega)).trans h1⟩

set_option maxHeartbeats 1000000 in
theorem sortedFunc_in (N : Nat) (hSort : SortsTo N) (n : Nat) (hn : 5 ≤ n) (gf : Nat) (lb : Array Value) (eg : ∀ args w, (callFunc gf args).run Tryz.prog w = .ok (.enter gf args) w)
    (S : List Sp → Prop) (hN : N ≤ 1048576) (w : World) (hseq : SeqStopsK Fence.wide (n - 1 - 1 - 1) Tryz.prog gf lb (fun x => #[spV x]) KeepsWalks S (fun _ => True) N w) :
    CallsIn Fence.wide n Tryz.prog 51 #[.func (.func gf) #[] lb, ordV] w fun e w' => ∃ v ss ss0, e = .returned v ∧ S ss0 ∧ ss.Perm ss0 ∧ ss.Pairwise leS ∧ OwnS w' w.heap.size v ss ∧ Below w.heap.size w w' := by
  have h1 : 1 ≤ n := by omega
  refine callsIn_of_wp Tryz.func51 rfl trivial ?_ rfl
  simp only [Tryz.ntmps51, List.size_toArray, List.length_cons, List.length_nil, Nat.reduceAdd, Nat.reduceSub, Array.replicate_succ, Array.replicate_zero, List.push_toArray, List.append_toArray, List.nil_append, List.cons_append]
  have hf1 : Fence.wide.fn 76 := trivial
  have hf2 : Fence.wide.fn 77 := trivial
  gi_wp2_with (first
    | (gi_at_call 76; refine (collect_in (n - 1) (by omega) gf lb eg S N hN _ hseq).mono ?_; rintro e W ⟨v, ss0, rfl, hS, hrow, hN', hnil, hb⟩)
    | (gi_at_call 77; refine (callsIn_wide.2 (hSort w.heap.size v ss0 W hrow hN')).mono ?_; rintro e W' ⟨rfl, ss, hp, hs, hrow', hg⟩))
  go_ret
  exact ⟨v, ss, ss0, rfl, hS, hp, hs, hrow', hb.grown hg hb.size (fun k e => (hrow.lt k e).1)⟩

set_option maxRecDepth 100000 in
set_option maxHeartbeats 1000000 in
/-- A row of one stamp, or of none, is as it is. -/
theorem sortsOne : SortsTo 1 := by
  intro B v ss W hrow hle
  have hn : ∃ ao cap, v = .slice ao ss.length cap := by
    rcases hrow.2 with ⟨rfl, hz⟩ | ⟨g, cap, cur, rfl, _⟩
    · exact ⟨none, 0, by rw [hz]⟩
    · exact ⟨_, cap, rfl⟩
  obtain ⟨ao, cap, rfl⟩ := hn
  have hs : ss.Pairwise leS := by
    match ss, hle with
    | [], _ => exact List.Pairwise.nil
    | [x], _ => simp
  have HP : Hid (∀ W', W.grownBy W' (Value.slice ao ss.length cap).ownBlock → OwnS W' B (.slice ao ss.length cap) ss → ∃ ss', ss'.Perm ss ∧ ss'.Pairwise leS ∧ OwnS W' B (.slice ao ss.length cap) ss' ∧ W.grownBy W' (Value.slice ao ss.length cap).ownBlock) := fun W' hg ho => ⟨ss, List.Perm.refl _, hs, ho, hg⟩
  have HO : Hid _ := hrow
  clear hrow hs
  have hI : ∀ W k, k ≤ 1 → Calls Tryz.prog 98 #[.slice ao ss.length cap, .int .i64 0, .int .i64 (k : Nat), ordV] W fun e W' => e = .returned (.tuple #[]) ∧ W' = W := by
    intro W k hk
    have hk1 : ¬ (1 : Int) < (k : Int) := by omega
    generalize ordV = ov
    go_enter Tryz.func98, Tryz.ntmps98
    go_wp2_with fail
    go_loopw [8] (fun t8 wr => t8 = .int .i64 1 ∧ wr = W) (fun _ _ => 0)
    case atStart => exact ⟨rfl, rfl⟩
    case round =>
      obtain ⟨rfl, rfl⟩ := hrel
      go_wp2_with fail
      refine bodyPost_end (v := .tuple #[]) ?_ rfl ⟨rfl, rfl⟩
      simp [results, Tryz.results98, go_sem]
  have hQ : ∀ W k (lim : Int), k ≤ 1 → Calls Tryz.prog 93 #[.slice ao ss.length cap, .int .i64 0, .int .i64 (k : Nat), .int .i64 lim, ordV] W fun e W' => e = .returned (.tuple #[]) ∧ W' = W := by
    intro W k lim hk
    have hk1 : (k : Int) ≤ 12 := by omega
    have hJ := fun W => hI W k hk
    clear hI
    generalize ordV = ov at hJ ⊢
    go_enter Tryz.func93, Tryz.ntmps93
    go_wp2_with fail
    go_loopw [1, 2] (fun t1 t2 wr => t1 = .int .i64 0 ∧ t2 = .int .i64 (k : Int) ∧ wr = W) (fun _ _ _ => 0)
    case atStart => exact ⟨rfl, rfl, rfl⟩
    case round =>
      obtain ⟨rfl, rfl, rfl⟩ := hrel
      go_wp2_with (go_at_call 98; refine (hJ _).mono ?_; rintro e W' ⟨rfl, rfl⟩)
      refine bodyPost_ret (v := .tuple #[]) ?_ rfl ⟨rfl, rfl⟩
      simp [results, Tryz.results93, go_sem]
  have hL64 : ∀ W k, k ≤ 1 → Calls Tryz.prog 66 #[.int .u64 (k : Nat)] W fun e W' => (∃ m : Int, e = .returned (.int .i64 m)) ∧ W' = W := by
    intro W k hk
    obtain rfl | rfl : k = 0 ∨ k = 1 := by omega
    · go_enter Tryz.func66, Tryz.ntmps66
      go_wp2_with fail
      go_ret
      exact ⟨⟨_, rfl⟩, rfl⟩
    · go_enter Tryz.func66, Tryz.ntmps66
      go_wp2_with fail
      go_ret
      exact ⟨⟨_, rfl⟩, rfl⟩
  have hLen : ∀ W k, k ≤ 1 → Calls Tryz.prog 43 #[.int .u64 (k : Nat)] W fun e W' => (∃ m : Int, e = .returned (.int .i64 m)) ∧ W' = W := by
    intro W k hk
    have hJ := fun W => hL64 W k hk
    clear hL64
    have k0 : (0 : Int) ≤ (k : Int) := by omega
    have k1 : (k : Int) ≤ 1 := by omega
    go_enter Tryz.func43, Tryz.ntmps43
    go_wp2_with (go_at_call 66; refine (hJ _).mono ?_; rintro e W' ⟨⟨m, rfl⟩, rfl⟩)
    go_ret
    exact ⟨⟨_, rfl⟩, rfl⟩
  have hA := fun W => hLen W ss.length hle
  have hB := fun W lim => hQ W ss.length lim hle
  have k0 : (0 : Int) ≤ (ss.length : Int) := by omega
  have k1 : (ss.length : Int) ≤ 1 := by omega
  clear hI hQ hL64 hLen
  generalize ordV = ov at hB ⊢
  go_enter Tryz.func77, Tryz.ntmps77
  go_wp2_with (first | (go_at_call 43; refine (hA _).mono ?_; rintro e W' ⟨⟨m, rfl⟩, rfl⟩) | (go_at_call 93; refine (hB _ _).mono ?_; rintro e W' ⟨rfl, rfl⟩))
  refine bodyPost_end (v := .tuple #[]) ?_ rfl ⟨rfl, HP.out _ (World.grownBy.refl _ _) HO.out⟩
  simp [results, Tryz.results77, go_sem]

end Go.Proofs.YtfnlnigeaioocaaGreat
