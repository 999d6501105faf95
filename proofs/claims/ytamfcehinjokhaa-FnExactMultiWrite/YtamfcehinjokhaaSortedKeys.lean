/- slices.SortedFunc of a map's keys (stamps), over whatever contract slices.SortFunc has for rows of at most N stamps. -/
import Derived.Test.YtamfcehinjokhaaSeqApp
namespace Go.Proofs.Ytamfcehinjokhaa
open Go.RowKit
set_option linter.unusedVariables false

/-- Of two stamps the second one is not below the first. -/
def leS (x y : Sp) : Prop := lessS y.1 y.2 x.1 x.2 = false
/-- The order of stamps as a value: the method of the zero order. -/
def ordV : Value := .func (.func 81) #[.agg #[]] #[]
/-- slices.SortFunc sorts rows of at most N stamps by their order. -/
def SortsTo (N : Nat) : Prop := ∀ (B : Nat) (v : Value) (ss : List Sp) (W : World), OwnS W B v ss → ss.length ≤ N →
  Calls Try.prog 88 #[v, ordV] W fun e W' => e = .returned (.tuple #[]) ∧ ∃ ss', ss'.Perm ss ∧ ss'.Pairwise leS ∧ OwnS W' B v ss' ∧ W.grownBy W' v.ownBlock

theorem OwnS.lt {w : World} {B : Nat} {v : Value} {ss : List Sp} (h : OwnS w B v ss) : ∀ k, v.ownBlock = some k → B ≤ k ∧ k < w.heap.size := fun k hk => World.ownsRow.lt h k hk

set_option maxHeartbeats 1000000 in
theorem sortedFunc_in (N : Nat) (hSort : SortsTo N) (n : Nat) (hn : 5 ≤ n) (gf : Nat) (lb : Array Value) (eg : ∀ args w, (callFunc gf args).run Try.prog w = .ok (.enter gf args) w)
    (S : List Sp → Prop) (hN : N ≤ 1048576) (w : World) (hseq : SeqStopsK Fence.wide (n - 1 - 1 - 1) Try.prog gf lb (fun x => #[spV x]) KeepsWalks S (fun _ => True) N w) :
    CallsIn Fence.wide n Try.prog 79 #[.func (.func gf) #[] lb, ordV] w fun e w' => ∃ v ss ss0, e = .returned v ∧ S ss0 ∧ ss.Perm ss0 ∧ ss.Pairwise leS ∧ OwnS w' w.heap.size v ss ∧ Below w.heap.size w w' := by
  have h1 : 1 ≤ n := by omega
  refine callsIn_of_wp Try.func79 rfl trivial ?_ rfl
  simp only [Try.ntmps79, List.size_toArray, List.length_cons, List.length_nil, Nat.reduceAdd, Nat.reduceSub, Array.replicate_succ, Array.replicate_zero, List.push_toArray, List.append_toArray, List.nil_append, List.cons_append]
  have hf1 : Fence.wide.fn 87 := trivial
  have hf2 : Fence.wide.fn 88 := trivial
  gi_wp2_with (first
    | (gi_at_call 87; refine (collect_in (n - 1) (by omega) gf lb eg S N hN _ hseq).mono ?_; rintro e W ⟨v, ss0, rfl, hS, hrow, hN', hnil, hb⟩)
    | (gi_at_call 88; refine (callsIn_wide.2 (hSort w.heap.size v ss0 W hrow hN')).mono ?_; rintro e W' ⟨rfl, ss, hp, hs, hrow', hg⟩))
  go_ret
  exact ⟨v, ss, ss0, rfl, hS, hp, hs, hrow', hb.grown hg hb.size (fun k e => (hrow.lt k e).1)⟩

set_option maxRecDepth 100000 in
set_option maxHeartbeats 1000000 in
/-- A row of one stamp, or of none, is as it is. -/
theorem sortsOne : SortsTo 1 := by
  intro B v ss W hrow hle
  have hn : ∃ ao cap, v = .slice ao ss.length cap := by
    rcases hrow.2 with ⟨rfl, hz⟩ | ⟨g, cap, cur, rfl, _⟩
    · exact ⟨none, 0, by rw [hz]⟩
    · exact ⟨_, cap, rfl⟩
  obtain ⟨ao, cap, rfl⟩ := hn
  have hs : ss.Pairwise leS := by
    match ss, hle with
    | [], _ => exact List.Pairwise.nil
    | [x], _ => simp
  have HP : Hid (∀ W', W.grownBy W' (Value.slice ao ss.length cap).ownBlock → OwnS W' B (.slice ao ss.length cap) ss → ∃ ss', ss'.Perm ss ∧ ss'.Pairwise leS ∧ OwnS W' B (.slice ao ss.length cap) ss' ∧ W.grownBy W' (Value.slice ao ss.length cap).ownBlock) := fun W' hg ho => ⟨ss, List.Perm.refl _, hs, ho, hg⟩
  have HO : Hid _ := hrow
  clear hrow hs
  have hI : ∀ W k, k ≤ 1 → Calls Try.prog 99 #[.slice ao ss.length cap, .int .i64 0, .int .i64 (k : Nat), ordV] W fun e W' => e = .returned (.tuple #[]) ∧ W' = W := by
    intro W k hk
    have hk1 : ¬ (1 : Int) < (k : Int) := by omega
    generalize ordV = ov
    go_enter Try.func99, Try.ntmps99
    go_wp2_with fail
    go_loopw [8] (fun t8 wr => t8 = .int .i64 1 ∧ wr = W) (fun _ _ => 0)
    case atStart => exact ⟨rfl, rfl⟩
    case round =>
      obtain ⟨rfl, rfl⟩ := hrel
      go_wp2_with fail
      refine bodyPost_end (v := .tuple #[]) ?_ rfl ⟨rfl, rfl⟩
      simp [results, Try.results99, go_sem]
  have hQ : ∀ W k (lim : Int), k ≤ 1 → Calls Try.prog 95 #[.slice ao ss.length cap, .int .i64 0, .int .i64 (k : Nat), .int .i64 lim, ordV] W fun e W' => e = .returned (.tuple #[]) ∧ W' = W := by
    intro W k lim hk
    have hk1 : (k : Int) ≤ 12 := by omega
    have hJ := fun W => hI W k hk
    clear hI
    generalize ordV = ov at hJ ⊢
    go_enter Try.func95, Try.ntmps95
    go_wp2_with fail
    go_loopw [1, 2] (fun t1 t2 wr => t1 = .int .i64 0 ∧ t2 = .int .i64 (k : Int) ∧ wr = W) (fun _ _ _ => 0)
    case atStart => exact ⟨rfl, rfl, rfl⟩
    case round =>
      obtain ⟨rfl, rfl, rfl⟩ := hrel
      go_wp2_with (go_at_call 99; refine (hJ _).mono ?_; rintro e W' ⟨rfl, rfl⟩)
      refine bodyPost_ret (v := .tuple #[]) ?_ rfl ⟨rfl, rfl⟩
      simp [results, Try.results95, go_sem]
  have hL64 : ∀ W k, k ≤ 1 → Calls Try.prog 108 #[.int .u64 (k : Nat)] W fun e W' => (∃ m : Int, e = .returned (.int .i64 m)) ∧ W' = W := by
    intro W k hk
    obtain rfl | rfl : k = 0 ∨ k = 1 := by omega
    · go_enter Try.func108, Try.ntmps108
      go_wp2_with fail
      go_ret
      exact ⟨⟨_, rfl⟩, rfl⟩
    · go_enter Try.func108, Try.ntmps108
      go_wp2_with fail
      go_ret
      exact ⟨⟨_, rfl⟩, rfl⟩
  have hLen : ∀ W k, k ≤ 1 → Calls Try.prog 96 #[.int .u64 (k : Nat)] W fun e W' => (∃ m : Int, e = .returned (.int .i64 m)) ∧ W' = W := by
    intro W k hk
    have hJ := fun W => hL64 W k hk
    clear hL64
    have k0 : (0 : Int) ≤ (k : Int) := by omega
    have k1 : (k : Int) ≤ 1 := by omega
    go_enter Try.func96, Try.ntmps96
    go_wp2_with (go_at_call 108; refine (hJ _).mono ?_; rintro e W' ⟨⟨m, rfl⟩, rfl⟩)
    go_ret
    exact ⟨⟨_, rfl⟩, rfl⟩
  have hA := fun W => hLen W ss.length hle
  have hB := fun W lim => hQ W ss.length lim hle
  have k0 : (0 : Int) ≤ (ss.length : Int) := by omega
  have k1 : (ss.length : Int) ≤ 1 := by omega
  clear hI hQ hL64 hLen
  generalize ordV = ov at hB ⊢
  go_enter Try.func88, Try.ntmps88
  go_wp2_with (first | (go_at_call 96; refine (hA _).mono ?_; rintro e W' ⟨⟨m, rfl⟩, rfl⟩) | (go_at_call 95; refine (hB _ _).mono ?_; rintro e W' ⟨rfl, rfl⟩))
  refine bodyPost_end (v := .tuple #[]) ?_ rfl ⟨rfl, HP.out _ (World.grownBy.refl _ _) HO.out⟩
  simp [results, Try.results88, go_sem]

end Go.Proofs.Ytamfcehinjokhaa
