/- slices.SortedFunc of a map's keys (stamps), over whatever contract slices.SortFunc has for rows of at most N stamps. -/
import Derived.Test.YtdbipcmfolgjgaaSeqApp
namespace Go.Proofs.Ytdbipcmfolgjgaa
open Go.RowKit
set_option linter.unusedVariables false

/-- Of two stamps the second one is not below the first. -/
def leS (x y : Sp) : Prop := lessS y.1 y.2 x.1 x.2 = false
/-- The order of stamps as a value: the method of the zero order. -/
def ordV : Value := .func (.func 79) #[.agg #[]] #[]
/-- slices.SortFunc sorts rows of at most N stamps by their order. -/
def SortsTo (N : Nat) : Prop := ∀ (B : Nat) (v : Value) (ss : List Sp) (W : World), OwnS W B v ss → ss.length ≤ N →
  Calls Try.prog 87 #[v, ordV] W fun e W' => e = .returned (.tuple #[]) ∧ ∃ ss', ss'.Perm ss ∧ ss'.Pairwise leS ∧ OwnS W' B v ss' ∧ W.grownBy W' v.ownBlock

theorem OwnS.lt {w : World} {B : Nat} {v : Value} {ss : List Sp} (h : OwnS w B v ss) : ∀ k, v.ownBlock = some k → B ≤ k ∧ k < w.heap.size := fun k hk => World.ownsRow.lt h k hk

theorem OwnS.shape {w : World} {B : Nat} {v : Value} {ss : List Sp} (h : OwnS w B v ss) : ∃ ao cap, v = .slice ao ss.length cap ∧ (0 < ss.length → ∃ g, ao = some ⟨g, 0, none⟩) := by
  rcases h.2 with ⟨rfl, hz⟩ | ⟨g, cap, cur, rfl, _⟩
  · exact ⟨none, 0, by rw [hz], fun h => by omega⟩
  · exact ⟨_, cap, rfl, fun _ => ⟨g, rfl⟩⟩
theorem OwnS.mono {w : World} {B B' : Nat} {v : Value} {ss : List Sp} (h : OwnS w B v ss) (hb : B' ≤ B) : OwnS w B' v ss := by
  obtain ⟨h1, h2⟩ := h
  refine ⟨h1, ?_⟩
  rcases h2 with h2 | ⟨g, cap, cur, hv, hg, hh, r⟩
  · exact .inl h2
  · exact .inr ⟨g, cap, cur, hv, by omega, hh, r⟩
theorem spCs_at {ss : List Sp} {k : Nat} (hk : k < ss.length) : (spCs ss)[k * 2]? = some (.int .i64 ss[k].1) ∧ (spCs ss)[k * 2 + 1]? = some (.int .i64 ss[k].2) := by
  induction ss generalizing k with
  | nil => simp at hk
  | cons e ls ih =>
    cases k with
    | zero => simp [spCs, spC]
    | succ k =>
      have := ih (k := k) (by simpa using hk)
      have e0 : (k + 1) * 2 = k * 2 + 1 + 1 := by omega
      rw [e0]
      simpa [spCs, spC] using this
theorem OwnS.cells {w : World} {B g n cap : Nat} {ss : List Sp} (h : OwnS w B (.slice (some ⟨g, 0, none⟩) n cap) ss) (hn : n = ss.length) {k : Nat} (hk : k < ss.length) : w.cell? ⟨g, k * 2, none⟩ = some (.int .i64 ss[k].1) ∧ w.cell? ⟨g, k * 2 + 1, none⟩ = some (.int .i64 ss[k].2) := by
  subst hn
  have hl := spCs_len ss
  obtain ⟨h0, h1⟩ := spCs_at hk
  exact ⟨(World.ownsRow.cellAt h (k * 2) (by omega)).trans h0, (World.ownsRow.cellAt h (k * 2 + 1) (by omega)).trans h1⟩

set_option maxHeartbeats 1000000 in
theorem sortedFunc_in (N : Nat) (hSort : SortsTo N) (n : Nat) (hn : 5 ≤ n) (gf : Nat) (lb : Array Value) (eg : ∀ args w, (callFunc gf args).run Try.prog w = .ok (.enter gf args) w)
    (S : List Sp → Prop) (hN : N ≤ 1048576) (w : World) (hseq : SeqStopsK Fence.wide (n - 1 - 1 - 1) Try.prog gf lb (fun x => #[spV x]) KeepsWalks S (fun _ => True) N w) :
    CallsIn Fence.wide n Try.prog 77 #[.func (.func gf) #[] lb, ordV] w fun e w' => ∃ v ss ss0, e = .returned v ∧ S ss0 ∧ ss.Perm ss0 ∧ ss.Pairwise leS ∧ OwnS w' w.heap.size v ss ∧ Below w.heap.size w w' := by
  have h1 : 1 ≤ n := by omega
  refine callsIn_of_wp Try.func77 rfl trivial ?_ rfl
  simp only [Try.ntmps77, List.size_toArray, List.length_cons, List.length_nil, Nat.reduceAdd, Nat.reduceSub, Array.replicate_succ, Array.replicate_zero, List.push_toArray, List.append_toArray, List.nil_append, List.cons_append]
  have hf1 : Fence.wide.fn 86 := trivial
  have hf2 : Fence.wide.fn 87 := trivial
  gi_wp2_with (first
    | (gi_at_call 86; refine (collect_in (n - 1) (by omega) gf lb eg S N hN _ hseq).mono ?_; rintro e W ⟨v, ss0, rfl, hS, hrow, hN', hnil, hb⟩)
    | (gi_at_call 87; refine (callsIn_wide.2 (hSort w.heap.size v ss0 W hrow hN')).mono ?_; rintro e W' ⟨rfl, ss, hp, hs, hrow', hg⟩))
  go_ret
  exact ⟨v, ss, ss0, rfl, hS, hp, hs, hrow', hb.grown hg hb.size (fun k e => (hrow.lt k e).1)⟩

set_option maxRecDepth 100000 in
set_option maxHeartbeats 1000000 in
/-- A row of one stamp, or of none, is as it is. -/
theorem sortsOne : SortsTo 1 := by
  intro B v ss W hrow hle
  have hn : ∃ ao cap, v = .slice ao ss.length cap := by
    rcases hrow.2 with ⟨rfl, hz⟩ | ⟨g, cap, cur, rfl, _⟩
    · exact ⟨none, 0, by rw [hz]⟩
    · exact ⟨_, cap, rfl⟩
  obtain ⟨ao, cap, rfl⟩ := hn
  have hs : ss.Pairwise leS := by
    match ss, hle with
    | [], _ => exact List.Pairwise.nil
    | [x], _ => simp
  have HP : Hid (∀ W', W.grownBy W' (Value.slice ao ss.length cap).ownBlock → OwnS W' B (.slice ao ss.length cap) ss → ∃ ss', ss'.Perm ss ∧ ss'.Pairwise leS ∧ OwnS W' B (.slice ao ss.length cap) ss' ∧ W.grownBy W' (Value.slice ao ss.length cap).ownBlock) := fun W' hg ho => ⟨ss, List.Perm.refl _, hs, ho, hg⟩
  have HO : Hid _ := hrow
  clear hrow hs
  have hI : ∀ W k, k ≤ 1 → Calls Try.prog 96 #[.slice ao ss.length cap, .int .i64 0, .int .i64 (k : Nat), ordV] W fun e W' => e = .returned (.tuple #[]) ∧ W' = W := by
    intro W k hk
    have hk1 : ¬ (1 : Int) < (k : Int) := by omega
    generalize ordV = ov
    go_enter Try.func96, Try.ntmps96
    go_wp2_with fail
    go_loopw [8] (fun t8 wr => t8 = .int .i64 1 ∧ wr = W) (fun _ _ => 0)
    case atStart => exact ⟨rfl, rfl⟩
    case round =>
      obtain ⟨rfl, rfl⟩ := hrel
      go_wp2_with fail
      refine bodyPost_end (v := .tuple #[]) ?_ rfl ⟨rfl, rfl⟩
      simp [results, Try.results96, go_sem]
  have hQ : ∀ W k (lim : Int), k ≤ 1 → Calls Try.prog 93 #[.slice ao ss.length cap, .int .i64 0, .int .i64 (k : Nat), .int .i64 lim, ordV] W fun e W' => e = .returned (.tuple #[]) ∧ W' = W := by
    intro W k lim hk
    have hk1 : (k : Int) ≤ 12 := by omega
    have hJ := fun W => hI W k hk
    clear hI
    generalize ordV = ov at hJ ⊢
    go_enter Try.func93, Try.ntmps93
    go_wp2_with fail
    go_loopw [1, 2] (fun t1 t2 wr => t1 = .int .i64 0 ∧ t2 = .int .i64 (k : Int) ∧ wr = W) (fun _ _ _ => 0)
    case atStart => exact ⟨rfl, rfl, rfl⟩
    case round =>
      obtain ⟨rfl, rfl, rfl⟩ := hrel
      go_wp2_with (go_at_call 96; refine (hJ _).mono ?_; rintro e W' ⟨rfl, rfl⟩)
      refine bodyPost_ret (v := .tuple #[]) ?_ rfl ⟨rfl, rfl⟩
      simp [results, Try.results93, go_sem]
  have hL64 : ∀ W k, k ≤ 1 → Calls Try.prog 105 #[.int .u64 (k : Nat)] W fun e W' => (∃ m : Int, e = .returned (.int .i64 m)) ∧ W' = W := by
    intro W k hk
    obtain rfl | rfl : k = 0 ∨ k = 1 := by omega
    · go_enter Try.func105, Try.ntmps105
      go_wp2_with fail
      go_ret
      exact ⟨⟨_, rfl⟩, rfl⟩
    · go_enter Try.func105, Try.ntmps105
      go_wp2_with fail
      go_ret
      exact ⟨⟨_, rfl⟩, rfl⟩
  have hLen : ∀ W k, k ≤ 1 → Calls Try.prog 94 #[.int .u64 (k : Nat)] W fun e W' => (∃ m : Int, e = .returned (.int .i64 m)) ∧ W' = W := by
    intro W k hk
    have hJ := fun W => hL64 W k hk
    clear hL64
    have k0 : (0 : Int) ≤ (k : Int) := by omega
    have k1 : (k : Int) ≤ 1 := by omega
    go_enter Try.func94, Try.ntmps94
    go_wp2_with (go_at_call 105; refine (hJ _).mono ?_; rintro e W' ⟨⟨m, rfl⟩, rfl⟩)
    go_ret
    exact ⟨⟨_, rfl⟩, rfl⟩
  have hA := fun W => hLen W ss.length hle
  have hB := fun W lim => hQ W ss.length lim hle
  have k0 : (0 : Int) ≤ (ss.length : Int) := by omega
  have k1 : (ss.length : Int) ≤ 1 := by omega
  clear hI hQ hL64 hLen
  generalize ordV = ov at hB ⊢
  go_enter Try.func87, Try.ntmps87
  go_wp2_with (first | (go_at_call 94; refine (hA _).mono ?_; rintro e W' ⟨⟨m, rfl⟩, rfl⟩) | (go_at_call 93; refine (hB _ _).mono ?_; rintro e W' ⟨rfl, rfl⟩))
  refine bodyPost_end (v := .tuple #[]) ?_ rfl ⟨rfl, HP.out _ (World.grownBy.refl _ _) HO.out⟩
  simp [results, Try.results87, go_sem]

end Go.Proofs.Ytdbipcmfolgjgaa
