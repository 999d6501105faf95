/- maps.Keys of a map that has stamps for keys: its iterator hands on each key once, in some order, for every loop body that keeps its word. -/
import Derived.RangeFuncNested
import Derived.RangeFuncBound
import Derived.RangeFuncCalls
import Derived.RangeFuncLeaves
import Derived.Shelf.Abstract
import Derived.Shelf.RegionOpen
import Derived.WalkKit
import Derived.OwnWalkIn
import Derived.TacticsInMore
import Derived.LoopNIn
import Derived.LoopIn
import Derived.Sort.MapsRangeIn
import Derived.Test.YtdkfeabpnikedaaQJoinedBaseToEntRows
namespace Go.Proofs.Ytdkfeabpnikedaa
open Go.RowKit
set_option linter.unusedVariables false

/-- A stamp's numbers, and the value of them. -/
abbrev Sp := Int × Int
def spV (x : Sp) : Value := .agg #[.int .i64 x.1, .int .i64 x.2]
def stE (e : En) : Sp := (e.1, e.2.1)
theorem Rg.walks {P : Program} {k : TypeId} {w w' : World} {b r : Nat} {L M : List (Value × Value)} (h : Rg P k w b r L M) (hk : KeepsWalks w w') : Rg P k w' b r L M := by
  obtain ⟨es, clock, since, seen, c0, hb, hs, hL, hK, hr, rest⟩ := h
  exact ⟨es, clock, since, seen, c0, hk.same b _ hb rfl, hs, hL, hK, hk.same r _ hr rfl, rest⟩
theorem Rg.iter {P : Program} {k : TypeId} {w : World} {b r : Nat} {L M : List (Value × Value)} (h : Rg P k w b r L M) : ∃ o : Obj, w.heap[r]? = some o ∧ o.isWalk = true := by
  obtain ⟨es, clock, since, seen, c0, hb, hs, hL, hK, hr, rest⟩ := h
  exact ⟨_, hr, rfl⟩
/-- How many are still to come. -/
def rgLeft (w : World) (b r : Nat) : Nat :=
  match w.heap[b]?, w.heap[r]? with
  | some (.map es _), some (.mapIter _ _ seen _) => (leftOf es seen).size
  | _, _ => 0
theorem Rg.left_eq {P : Program} {k : TypeId} {w : World} {b r : Nat} {L M : List (Value × Value)} (h : Rg P k w b r L M) : rgLeft w b r = M.length := by
  obtain ⟨es, clock, since, seen, c0, hb, hs, hL, hK, hr, _, hM, _⟩ := h
  unfold rgLeft
  rw [hb, hr, ← hM]
  simp

section
variable {F : Fence} {n : Nat} {P : Program} {ops : Array Oper} {rest : List Oper} {o : Oper} {a : Act} {w : World} {Q : Exit → Act → World → Prop}
theorem wpListIn_range_mp (hg : o.guard = none) (m : Operand) (t : TypeId) (hop : o.op = Op.range t m) (k e : TypeId) (ht : P.underlying t = some (.map k e)) (b : Nat) (L : List (Value × Value))
    (hm : a.eval m = .map (some b)) (hM : Mp P k w b L)
    (hK : ∀ w', Rg P k w' b w.heap.size L L → w.grownBy w' none → w'.heap.size = w.heap.size + 1 → wpListIn F n P ops Q rest (a.put o.dst (.pointer (some ⟨w.heap.size, 0, none⟩))) w') :
    wpListIn F n P ops Q (o :: rest) a w := by
  refine wpListIn_plain hg fun K' hK' => ?_
  obtain ⟨w', hrun, r1, r2, r3⟩ := hM.range ht
  unfold Oper.wpIn
  refine ⟨?_, ?_⟩
  · simp [Oper.about, hop]
  · rw [Oper.semAt_plain F _ _ (by rw [hop]; intro c hc'; cases hc')]
    simp [execOp, hop, hm, hrun, Result.andThen]
    exact hK' _ _ (hK w' r1 r2 r3)
theorem wpListIn_next_rg (hg : o.guard = none) (it : Operand) (hop : o.op = Op.next it false) (k : TypeId) (b r : Nat) (L M : List (Value × Value))
    (hit : a.eval it = .pointer (some ⟨r, 0, none⟩)) (h : Rg P k w b r L M)
    (hDone : M = [] → wpListIn F n P ops Q rest (a.put o.dst (.tuple #[.bool false])) w)
    (hMore : ∀ M1 p M2 w', M = M1 ++ p :: M2 → Rg P k w' b r L (M1 ++ M2) → w.grownBy w' (some r) → w'.heap.size = w.heap.size → (Instr.entry (.pointer (some ⟨r, 0, none⟩))).run P w' = .ok (.tuple #[p.1, p.2]) w' →
      wpListIn F n P ops Q rest (a.put o.dst (.tuple #[.bool true, p.1, p.2])) w') :
    wpListIn F n P ops Q (o :: rest) a w := by
  refine wpListIn_plain hg fun K' hK' => ?_
  unfold Oper.wpIn
  refine ⟨by simp [Oper.about, hop], ?_⟩
  rw [Oper.semAt_plain F _ _ (by rw [hop]; intro c hc'; cases hc')]
  rcases h.next o.type with ⟨h0, hrun⟩ | ⟨M1, p, M2, w', hM, hrun, hrg, hgr, hsz, hen⟩
  · simp [execOp, hop, hit, hrun, Result.andThen]
    exact hK' _ _ (hDone h0)
  · simp [execOp, hop, hit, hrun, Result.andThen]
    exact hK' _ _ (hMore M1 p M2 w' hM hrg hgr hsz hen)
end

theorem perm_step {ss : List Sp} {ls M1 M2 : List En} {e : En} (h : (ss ++ (M1 ++ e :: M2).map stE).Perm (ls.map stE)) : ((ss ++ [stE e]) ++ (M1 ++ M2).map stE).Perm (ls.map stE) := by
  refine List.Perm.trans ?_ h
  rw [List.append_assoc]
  refine List.Perm.append_left ss ?_
  rw [List.map_append, List.map_append, List.map_cons, List.singleton_append]
  exact List.perm_middle.symm
theorem split_kv {ls : List En} {M1 M2 : List (Value × Value)} {p : Value × Value} (h : ls.map kvE = M1 ++ p :: M2) : ∃ A e B, ls = A ++ e :: B ∧ M1 = A.map kvE ∧ p = kvE e ∧ M2 = B.map kvE := by
  obtain ⟨A, R, h1, h2, h3⟩ := List.map_eq_append_iff.1 h
  obtain ⟨e, B, h4, h5, h6⟩ := List.map_eq_cons_iff.1 h3
  exact ⟨A, e, B, by rw [h1, h4], h2.symm, h5.symm, h6.symm⟩

set_option maxRecDepth 100000 in
set_option maxHeartbeats 2000000 in
theorem keys1_in (F : Fence) (n : Nat) (hF : F.fn 89) (hro : F.round = none) (hn : 1 ≤ n) (l Bm b : Nat) (ls : List En) (J Jx : List Sp → World → Prop)
    (hY : ∀ pre x W, J pre W → pre.length < ls.length → YieldAt F (n - 1) Try.prog l #[spV x] W fun e W' => (e = .returned (.bool true) ∧ J (pre ++ [x]) W' ∧ KeepsWalks W W') ∨ (e = .returned (.bool false) ∧ Jx (pre ++ [x]) W'))
    (W : World) (hJ : AbidesFrom W.heap.size J) (hm : W.cell? ⟨Bm, 0, none⟩ = some (.map (some b))) (hM : Mp Try.prog 58 W b (ls.map kvE)) (h0 : J [] W) :
    CallsIn F n Try.prog 89 #[.func (.yield l) #[] #[], .pointer (some ⟨Bm, 0, none⟩)] W fun e W' => (∃ v, e = .returned v) ∧ ((∃ ss : List Sp, ss.Perm (ls.map stE) ∧ J ss W') ∨ (∃ pre : List Sp, True ∧ Jx pre W')) := by
  refine callsIn_of_wp Try.func89 rfl hF ?_ hro
  simp only [Try.ntmps89, List.size_toArray, List.length_cons, List.length_nil, Nat.reduceAdd, Nat.reduceSub, Array.replicate_succ, Array.replicate_zero, List.push_toArray, List.append_toArray, List.nil_append, List.cons_append]
  gi_wp2_with (first
    | (gi_at_range; refine wpListIn_range_mp rfl _ 67 rfl 58 60 Try.underlying67 b _ rfl hM ?_; intro w0 hrg0 hg0 hs0)
    | gi_in)
  go_frame
  gi_loopw [3] (fun _ wr => ∃ (ss : List Sp) (M : List En), Rg Try.prog 58 wr b W.heap.size (ls.map kvE) (M.map kvE) ∧ (ss ++ M.map stE).Perm (ls.map stE) ∧ J ss wr)
    (fun _ wr => rgLeft wr b W.heap.size)
  case atStart =>
    exact ⟨[], ls, hrg0, by simp, hJ [] W w0 none h0 hg0 (fun r e => by cases e)⟩
  case round =>
    obtain ⟨ss, M, hrg, hp, hJs⟩ := hrel
    gi_wp2_with (first
      | (gi_at_next; refine wpListIn_next_rg rfl _ rfl 58 b W.heap.size _ _ rfl hrg ?_ ?_)
      | gi_in)
    · intro hM0
      subst hM0
      gi_wp2
      go_end0
      exact ⟨⟨_, rfl⟩, .inl ⟨ss, by simpa using hp, hJs⟩⟩
    · intro M1 pk pv M2 w2 hMM hrg2 hg2 hs2 hen
      obtain ⟨A, e, B, rfl, rfl, hpe, rfl⟩ := split_kv hMM
      obtain ⟨t, a, x⟩ := e
      simp only [kvE, Prod.mk.injEq] at hpe
      obtain ⟨rfl, rfl⟩ := hpe
      have hlen : ss.length < ls.length := by
        have := hp.length_eq
        simp at this
        omega
      have hJ2 : J ss w2 := hJ ss wr w2 (some W.heap.size) hJs hg2 (fun r e => by cases e; exact ⟨Nat.le_refl _, hrg.iter⟩)
      have hJ3 : J ss (w2.alloc (.cells #[.int .i64 t, .int .i64 a] 58)) := hJ ss w2 _ none hJ2 (World.grownBy_alloc _ _ _) (fun r e => by cases e)
      obtain ⟨fn, tmps, assign, body, hy, hR⟩ := hY ss (t, a) _ hJ3 hlen
      simp only [spV] at hy
      have hrgA : Rg Try.prog 58 (w2.alloc (.cells #[.int .i64 t, .int .i64 a] 58)) b W.heap.size (ls.map kvE) ((A ++ B).map kvE) := by
        rw [List.map_append]
        exact hrg2.kept (World.grownBy_alloc _ _ none) (by simp) (by simp)
      clear hs2 hMM
      gi_wp2
      refine hR.mono ?_
      rintro e W3 (⟨rfl, hJ4, hk3⟩ | ⟨rfl, hJ4⟩)
      · gi_wp2
        have hrg3 := hrgA.walks hk3
        go_roundw
        case rel => exact ⟨ss ++ [(t, a)], A ++ B, hrg3, perm_step hp, hJ4⟩
        case measure => rw [hrg3.left_eq, hrg.left_eq]; simp
      · gi_wp2
        refine bodyPost_ret (results_none rfl _ _ _) rfl ?_
        exact ⟨⟨_, rfl⟩, .inr ⟨_, trivial, hJ4⟩⟩

/-- maps.Keys hands back an iterator over the keys. -/
theorem keys_stops (F : Fence) (n : Nat) (hF : F.fn 89) (hro : F.round = none) (hn : 1 ≤ n) (Bm b : Nat) (ls : List En) (w : World) (hBm : Bm < w.heap.size)
    (hm : w.cell? ⟨Bm, 0, none⟩ = some (.map (some b))) (hM : Mp Try.prog 58 w b (ls.map kvE)) :
    SeqStopsK F n Try.prog 89 #[.pointer (some ⟨Bm, 0, none⟩)] (fun x => #[spV x]) KeepsWalks (fun ss => ss.Perm (ls.map stE)) (fun _ => True) ls.length w := fun l J Jx W hW hJ hJx hY h0 =>
  keys1_in F n hF hro hn l Bm b ls J Jx hY W hJ ((hW.cell (p := ⟨Bm, 0, none⟩) hBm).trans hm) (hM.on hW) h0

set_option maxHeartbeats 1000000 in
theorem mapsKeys_in (F : Fence) (n : Nat) (hF : F.fn 80) (hro : F.round = none) (mb : Option Nat) (w : World) :
    CallsIn F n Try.prog 80 #[.map mb] w fun e w' => e = .returned (.func (.func 89) #[] #[.pointer (some ⟨w.heap.size, 0, none⟩)]) ∧ w' = w.alloc (.cells #[.map mb] 67) := by
  refine callsIn_of_wp Try.func80 rfl hF ?_ hro
  simp only [Try.ntmps80, List.size_toArray, List.length_cons, List.length_nil, Nat.reduceAdd, Nat.reduceSub, Array.replicate_succ, Array.replicate_zero, List.push_toArray, List.append_toArray, List.nil_append, List.cons_append]
  gi_wp2
  go_ret
  exact ⟨rfl, rfl⟩

end Go.Proofs.Ytdkfeabpnikedaa
