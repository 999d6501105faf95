/- maps.Keys of a map that has stamps for keys: its iterator hands on each key once, in some order, for every loop body that keeps its word. A range over a map of pairs in whose rounds entries are taken out: what a taking out does; the steps in a walk without a fence. What keep makes of an entry beside another map's: plain facts. -/
import Derived.RangeFuncNested
import Derived.RangeFuncBound
import Derived.RangeFuncCalls
import Derived.RangeFuncLeaves
import Derived.Shelf.Abstract
import Derived.Shelf.RegionOpen
import Derived.WalkKit
import Derived.OwnWalkIn
import Derived.TacticsInMore
import Derived.LoopNIn
import Derived.LoopIn
import Derived.Sort.MapsRangeIn
import Derived.Test.YtfnlnigeaioocaaGreatQJoinedBaseToEntRows
import Derived.Test.YtfnlnigeaioocaaGreatQMapBaseToStKey
import Derived.Test.YtfnlnigeaioocaaGreatQEntOKsToEntGreater
namespace Go.Proofs.YtfnlnigeaioocaaGreat
open Go.RowKit
set_option linter.unusedVariables false

/-- A stamp's numbers, and the value of them. -/
abbrev Sp := Int × Int
def spV (x : Sp) : Value := .agg #[.int .i64 x.1, .int .i64 x.2]
def stE (e : En) : Sp := (e.1, e.2.1)
theorem Rg.walks {P : Program} {k : TypeId} {w w' : World} {b r : Nat} {L M : List (Value × Value)} (h : Rg P k w b r L M) (hk : KeepsWalks w w') : Rg P k w' b r L M := by
  obtain ⟨es, clock, since, seen, c0, hb, hs, hL, hK, hr, rest⟩ := h
  exact ⟨es, clock, since, seen, c0, hk.same b _ hb rfl, hs, hL, hK, hk.same r _ hr rfl, rest⟩
theorem Rg.iter {P : Program} {k : TypeId} {w : World} {b r : Nat} {L M : List (Value × Value)} (h : Rg P k w b r L M) : ∃ o : Obj, w.heap[r]? = some o ∧ o.isWalk = true := by
  obtain ⟨es, clock, since, seen, c0, hb, hs, hL, hK, hr, rest⟩ := h
  exact ⟨_, hr, rfl⟩
/-- How many are still to come. -/
def rgLeft (w : World) (b r : Nat) : Nat :=
  match w.heap[b]?, w.heap[r]? with
  | some (.map es _), some (.mapIter _ _ seen _) => (leftOf es seen).size
  | _, _ => 0
theorem Rg.left_eq {P : Program} {k : TypeId} {w : World} {b r : Nat} {L M : List (Value × Value)} (h : Rg P k w b r L M) : rgLeft w b r = M.length := by
  obtain ⟨es, clock, since, seen, c0, hb, hs, hL, hK, hr, _, hM, _⟩ := h
  unfold rgLeft
  rw [hb, hr, ← hM]
  simp

section
variable {F : Fence} {n : Nat} {P : Program} {ops : Array Oper} {rest : List Oper} {o : Oper} {a : Act} {w : World} {Q : Exit → Act → World → Prop}
theorem wpListIn_range_mp (hg : o.guard = none) (m : Operand) (t : TypeId) (hop : o.op = Op.range t m) (k e : TypeId) (ht : P.underlying t = some (.map k e)) (b : Nat) (L : List (Value × Value))
    (hm : a.eval m = .map (some b)) (hM : Mp P k w b L)
    (hK : ∀ w', Rg P k w' b w.heap.size L L → w.grownBy w' none → w'.heap.size = w.heap.size + 1 → wpListIn F n P ops Q rest (a.put o.dst (.pointer (some ⟨w.heap.size, 0, none⟩))) w') :
    wpListIn F n P ops Q (o :: rest) a w := by
  refine wpListIn_plain hg fun K' hK' => ?_
  obtain ⟨w', hrun, r1, r2, r3⟩ := hM.range ht
  unfold Oper.wpIn
  refine ⟨?_, ?_⟩
  · simp [Oper.about, hop]
  · rw [Oper.semAt_plain F _ _ (by rw [hop]; intro c hc'; cases hc')]
    simp [execOp, hop, hm, hrun, Result.andThen]
    exact hK' _ _ (hK w' r1 r2 r3)
theorem wpListIn_next_rg (hg : o.guard = none) (it : Operand) (hop : o.op = Op.next it false) (k : TypeId) (b r : Nat) (L M : List (Value × Value))
    (hit : a.eval it = .pointer (some ⟨r, 0, none⟩)) (h : Rg P k w b r L M)
    (hDone : M = [] → wpListIn F n P ops Q rest (a.put o.dst (.tuple #[.bool false])) w)
    (hMore : ∀ M1 p M2 w', M = M1 ++ p :: M2 → Rg P k w' b r L (M1 ++ M2) → w.grownBy w' (some r) → w'.heap.size = w.heap.size → (Instr.entry (.pointer (some ⟨r, 0, none⟩))).run P w' = .ok (.tuple #[p.1, p.2]) w' →
      wpListIn F n P ops Q rest (a.put o.dst (.tuple #[.bool true, p.1, p.2])) w') :
    wpListIn F n P ops Q (o :: rest) a w := by
  refine wpListIn_plain hg fun K' hK' => ?_
  unfold Oper.wpIn
  refine ⟨by simp [Oper.about, hop], ?_⟩
  rw [Oper.semAt_plain F _ _ (by rw [hop]; intro c hc'; cases hc')]
  rcases h.next o.type with ⟨h0, hrun⟩ | ⟨M1, p, M2, w', hM, hrun, hrg, hgr, hsz, hen⟩
  · simp [execOp, hop, hit, hrun, Result.andThen]
    exact hK' _ _ (hDone h0)
  · simp [execOp, hop, hit, hrun, Result.andThen]
    exact hK' _ _ (hMore M1 p M2 w' hM hrg hgr hsz hen)
end

theorem perm_step {ss : List Sp} {ls M1 M2 : List En} {e : En} (h : (ss ++ (M1 ++ e :: M2).map stE).Perm (ls.map stE)) : ((ss ++ [stE e]) ++ (M1 ++ M2).map stE).Perm (ls.map stE) := by
  refine List.Perm.trans ?_ h
  rw [List.append_assoc]
  refine List.Perm.append_left ss ?_
  rw [List.map_append, List.map_append, List.map_cons, List.singleton_append]
  exact List.perm_middle.symm
theorem split_kv {ls : List En} {M1 M2 : List (Value × Value)} {p : Value × Value} (h : ls.map kvE = M1 ++ p :: M2) : ∃ A e B, ls = A ++ e :: B ∧ M1 = A.map kvE ∧ p = kvE e ∧ M2 = B.map kvE := by
  obtain ⟨A, R, h1, h2, h3⟩ := List.map_eq_append_iff.1 h
  obtain ⟨e, B, h4, h5, h6⟩ := List.map_eq_cons_iff.1 h3
  exact ⟨A, e, B, by rw [h1, h4], h2.symm, h5.symm, h6.symm⟩

set_option maxRecDepth 100000 in
set_option maxHeartbeats 2000000 in
theorem keys1_in (F : Fence) (n : Nat) (hF : F.fn 78) (hro : F.round = none) (hn : 1 ≤ n) (l Bm b : Nat) (ls : List En) (J Jx : List Sp → World → Prop)
    (hY : ∀ pre x W, J pre W → pre.length < ls.length → YieldAt F (n - 1) Tryz.prog l #[spV x] W fun e W' => (e = .returned (.bool true) ∧ J (pre ++ [x]) W' ∧ KeepsWalks W W') ∨ (e = .returned (.bool false) ∧ Jx (pre ++ [x]) W'))
    (W : World) (hJ : AbidesFrom W.heap.size J) (hm : W.cell? ⟨Bm, 0, none⟩ = some (.map (some b))) (hM : Mp Tryz.prog 56 W b (ls.map kvE)) (h0 : J [] W) :
    CallsIn F n Tryz.prog 78 #[.func (.yield l) #[] #[], .pointer (some ⟨Bm, 0, none⟩)] W fun e W' => (∃ v, e = .returned v) ∧ ((∃ ss : List Sp, ss.Perm (ls.map stE) ∧ J ss W') ∨ (∃ pre : List Sp, True ∧ Jx pre W')) := by
  refine callsIn_of_wp Tryz.func78 rfl hF ?_ hro
  simp only [Tryz.ntmps78, List.size_toArray, List.length_cons, List.length_nil, Nat.reduceAdd, Nat.reduceSub, Array.replicate_succ, Array.replicate_zero, List.push_toArray, List.append_toArray, List.nil_append, List.cons_append]
  gi_wp2_with (first
    | (gi_at_range; refine wpListIn_range_mp rfl _ 46 rfl 56 60 Tryz.underlying46 b _ rfl hM ?_; intro w0 hrg0 hg0 hs0)
    | gi_in)
  go_frame
  gi_loopw [3] (fun _ wr => ∃ (ss : List Sp) (M : List En), Rg Tryz.prog 56 wr b W.heap.size (ls.map kvE) (M.map kvE) ∧ (ss ++ M.map stE).Perm (ls.map stE) ∧ J ss wr)
    (fun _ wr => rgLeft wr b W.heap.size)
  case atStart =>
    exact ⟨[], ls, hrg0, by simp, hJ [] W w0 none h0 hg0 (fun r e => by cases e)⟩
  case round =>
    obtain ⟨ss, M, hrg, hp, hJs⟩ := hrel
    gi_wp2_with (first
      | (gi_at_next; refine wpListIn_next_rg rfl _ rfl 56 b W.heap.size _ _ rfl hrg ?_ ?_)
      | gi_in)
    · intro hM0
      subst hM0
      gi_wp2
      go_end0
      exact ⟨⟨_, rfl⟩, .inl ⟨ss, by simpa using hp, hJs⟩⟩
    · intro M1 pk pv M2 w2 hMM hrg2 hg2 hs2 hen
      obtain ⟨A, e, B, rfl, rfl, hpe, rfl⟩ := split_kv hMM
      obtain ⟨t, a, x⟩ := e
      simp only [kvE, Prod.mk.injEq] at hpe
      obtain ⟨rfl, rfl⟩ := hpe
      have hlen : ss.length < ls.length := by
        have := hp.length_eq
        simp at this
        omega
      have hJ2 : J ss w2 := hJ ss wr w2 (some W.heap.size) hJs hg2 (fun r e => by cases e; exact ⟨Nat.le_refl _, hrg.iter⟩)
      have hJ3 : J ss (w2.alloc (.cells #[.int .i64 t, .int .i64 a] 56)) := hJ ss w2 _ none hJ2 (World.grownBy_alloc _ _ _) (fun r e => by cases e)
      obtain ⟨fn, tmps, assign, body, hy, hR⟩ := hY ss (t, a) _ hJ3 hlen
      simp only [spV] at hy
      have hrgA : Rg Tryz.prog 56 (w2.alloc (.cells #[.int .i64 t, .int .i64 a] 56)) b W.heap.size (ls.map kvE) ((A ++ B).map kvE) := by
        rw [List.map_append]
        exact hrg2.kept (World.grownBy_alloc _ _ none) (by simp) (by simp)
      clear hs2 hMM
      gi_wp2
      refine hR.mono ?_
      rintro e W3 (⟨rfl, hJ4, hk3⟩ | ⟨rfl, hJ4⟩)
      · gi_wp2
        have hrg3 := hrgA.walks hk3
        go_roundw
        case rel => exact ⟨ss ++ [(t, a)], A ++ B, hrg3, perm_step hp, hJ4⟩
        case measure => rw [hrg3.left_eq, hrg.left_eq]; simp
      · gi_wp2
        refine bodyPost_ret (results_none rfl _ _ _) rfl ?_
        exact ⟨⟨_, rfl⟩, .inr ⟨_, trivial, hJ4⟩⟩

/-- maps.Keys hands back an iterator over the keys. -/
theorem keys_stops (F : Fence) (n : Nat) (hF : F.fn 78) (hro : F.round = none) (hn : 1 ≤ n) (Bm b : Nat) (ls : List En) (w : World) (hBm : Bm < w.heap.size)
    (hm : w.cell? ⟨Bm, 0, none⟩ = some (.map (some b))) (hM : Mp Tryz.prog 56 w b (ls.map kvE)) :
    SeqStopsK F n Tryz.prog 78 #[.pointer (some ⟨Bm, 0, none⟩)] (fun x => #[spV x]) KeepsWalks (fun ss => ss.Perm (ls.map stE)) (fun _ => True) ls.length w := fun l J Jx W hW hJ hJx hY h0 =>
  keys1_in F n hF hro hn l Bm b ls J Jx hY W hJ ((hW.cell (p := ⟨Bm, 0, none⟩) hBm).trans hm) (hM.on hW) h0

set_option maxHeartbeats 1000000 in
theorem mapsKeys_in (F : Fence) (n : Nat) (hF : F.fn 52) (hro : F.round = none) (mb : Option Nat) (w : World) :
    CallsIn F n Tryz.prog 52 #[.map mb] w fun e w' => e = .returned (.func (.func 78) #[] #[.pointer (some ⟨w.heap.size, 0, none⟩)]) ∧ w' = w.alloc (.cells #[.map mb] 46) := by
  refine callsIn_of_wp Tryz.func52 rfl hF ?_ hro
  simp only [Tryz.ntmps52, List.size_toArray, List.length_cons, List.length_nil, Nat.reduceAdd, Nat.reduceSub, Array.replicate_succ, Array.replicate_zero, List.push_toArray, List.append_toArray, List.nil_append, List.cons_append]
  gi_wp2
  go_ret
  exact ⟨rfl, rfl⟩

end Go.Proofs.YtfnlnigeaioocaaGreat

namespace Go.Proofs.YtfnlnigeaioocaaGreat
open Go.RowKit
open Go.ChangeMaps (setBlock heap_setBlock_same heap_setBlock_other)
open Go.Maps (Keyed)
open Go.MapKept (Stamped stamped_iff stamped_erase)
set_option linter.unusedVariables false

/-- An entry that has come is taken out. -/
theorem Rg.drop {P : Program} {k t e : TypeId} {w : World} {b r : Nat} {L1 L2 M : List (Value × Value)} {key val : Value} (h : Rg P k w b r (L1 ++ (key, val) :: L2) M) (K : Keyed P k) (ht : P.underlying t = some (.map k e)) (hM : ∀ p ∈ M, p.1 ≠ key) (ty : TypeId) :
    ∃ w', (Builtin.delete_ #[t, k] ty #[.map (some b), key]).run P w = .ok (.tuple #[]) w' ∧ Rg P k w' b r (L1 ++ L2) M ∧ w.grownBy w' (some b) ∧ w'.heap.size = w.heap.size := by
  have hA := h.mp.apart
  have hrb : r ≠ b := by
    obtain ⟨es, clock, since, seen, c0, hb, _, _, _, hr, _⟩ := h
    intro e
    rw [e, hb] at hr
    cases hr
  obtain ⟨es, clock, since, seen, c0, hb, hs, hL, hK, hr, hold, hLeft, hsc, hsk⟩ := h
  obtain ⟨l, hk⟩ := hK (key, val) (by simp)
  have hkeys : ∀ x ∈ es.toList, ∃ l, keyOf P k x.key = some l := fun x hx => hK _ (by rw [← hL]; exact mem_pair hx)
  obtain ⟨A, R, hes, hA1, hR⟩ := List.map_eq_append_iff.1 hL
  obtain ⟨x, B, hRe, hx, hB⟩ := List.map_eq_cons_iff.1 hR
  rw [hRe] at hes
  have hxk : x.key = key := congrArg Prod.fst hx
  rcases K.find w hk es.toList hkeys with ⟨h1, h2⟩ | ⟨j, e0, h1, h2, h3⟩
  · exact absurd hxk (h2 x (by rw [hes]; simp))
  · have hj : j = A.length := by
      have hi : (es.toList.map (fun e => (e.key, e.val)))[j]? = some (e0.key, e0.val) := by rw [List.getElem?_map, h2]; rfl
      have hi2 : (es.toList.map (fun e => (e.key, e.val)))[A.length]? = some (x.key, x.val) := by rw [List.getElem?_map, hes]; simp
      rw [hL] at hi hi2
      obtain ⟨hil, hie⟩ := List.getElem?_eq_some_iff.1 hi
      obtain ⟨hjl, hje⟩ := List.getElem?_eq_some_iff.1 hi2
      rcases Nat.lt_trichotomy j A.length with hlt | h0 | hlt
      · exact absurd (by rw [hie, hje]; exact h3.trans hxk.symm) (List.pairwise_iff_getElem.1 hA j A.length hil hjl hlt)
      · exact h0
      · exact absurd (by rw [hie, hje]; exact (h3.trans hxk.symm).symm) (List.pairwise_iff_getElem.1 hA A.length j hjl hil hlt)
    have hjs : j < es.size := by
      have := (List.getElem?_eq_some_iff.1 h2).1
      simpa using this
    have hsub : (es.eraseIdxIfInBounds j).toList = A ++ B := by
      unfold Array.eraseIdxIfInBounds
      rw [dif_pos hjs]
      simp only [Array.toList_eraseIdx]
      rw [hes, hj, List.eraseIdx_append_of_length_le (Nat.le_refl _)]
      simp
    have hset := heap_setBlock_same hb (.map (es.eraseIdxIfInBounds j) clock)
    have hother : ∀ i, i ≠ b → (setBlock w b (.map (es.eraseIdxIfInBounds j) clock)).heap[i]? = w.heap[i]? := fun i hi => heap_setBlock_other hb _ hi
    have hnx : seen.contains x.born = true := by
      cases hc : seen.contains x.born with
      | true => rfl
      | false =>
        refine absurd hxk (hM (x.key, x.val) ?_)
        rw [← hLeft]
        refine List.mem_map.2 ⟨x, ?_, rfl⟩
        unfold leftOf
        rw [Array.toList_filter, List.mem_filter]
        exact ⟨by rw [hes]; simp, by rw [hc]; rfl⟩
    refine ⟨_, by simp [Builtin.delete_, run_underlying ht, MapKept.run_getObj_map hb, K.check w _ hk, h1, MapKept.run_setObj_map _ hb, Result.andThen]; rfl,
      ⟨es.eraseIdxIfInBounds j, clock, since, seen, c0, hset, stamped_erase hs j, ?_, ?_, (hother r hrb).trans hr, ?_, ?_, hsc, hsk⟩, grown_setBlock hb _, by simp [setBlock]⟩
    · rw [hsub, List.map_append, hA1, hB]
    · intro p hp
      refine hK p ?_
      rcases List.mem_append.1 hp with hp | hp
      · exact List.mem_append_left _ hp
      · exact List.mem_append_right _ (List.mem_cons_of_mem _ hp)
    · intro y hy
      rw [hsub] at hy
      refine hold y ?_
      rw [hes]
      rcases List.mem_append.1 hy with hy | hy
      · exact List.mem_append_left _ hy
      · exact List.mem_append_right _ (List.mem_cons_of_mem _ hy)
    · rw [← hLeft]
      unfold leftOf
      rw [Array.toList_filter, Array.toList_filter, hsub, hes, List.filter_append, List.filter_append, List.filter_cons_of_neg (by simp only [hnx]; decide)]

section
variable {P : Program} {ops : Array Oper} {rest : List Oper} {o : Oper} {a : Act} {w : World} {Q : Exit → Act → World → Prop}
theorem wpList_range_mp (hg : o.guard = none) (m : Operand) (t : TypeId) (hop : o.op = Op.range t m) (k e : TypeId) (ht : P.underlying t = some (.map k e)) (b : Nat) (L : List (Value × Value))
    (hm : a.eval m = .map (some b)) (hM : Mp P k w b L)
    (hK : ∀ w', Rg P k w' b w.heap.size L L → w.grownBy w' none → w'.heap.size = w.heap.size + 1 → wpList P ops Q rest (a.put o.dst (.pointer (some ⟨w.heap.size, 0, none⟩))) w') :
    wpList P ops Q (o :: rest) a w := by
  refine wpList_plain hg fun K' hK' => ?_
  obtain ⟨w', hrun, r1, r2, r3⟩ := hM.range ht
  unfold Oper.wp
  simp [execOp, hop, hm, hrun, Result.andThen]
  exact hK' _ _ (hK w' r1 r2 r3)
theorem wpList_next_rg (hg : o.guard = none) (it : Operand) (hop : o.op = Op.next it false) (k : TypeId) (b r : Nat) (L M : List (Value × Value))
    (hit : a.eval it = .pointer (some ⟨r, 0, none⟩)) (h : Rg P k w b r L M)
    (hDone : M = [] → wpList P ops Q rest (a.put o.dst (.tuple #[.bool false])) w)
    (hMore : ∀ M1 p M2 w', M = M1 ++ p :: M2 → Rg P k w' b r L (M1 ++ M2) → w.grownBy w' (some r) → w'.heap.size = w.heap.size → (Instr.entry (.pointer (some ⟨r, 0, none⟩))).run P w' = .ok (.tuple #[p.1, p.2]) w' →
      wpList P ops Q rest (a.put o.dst (.tuple #[.bool true, p.1, p.2])) w') :
    wpList P ops Q (o :: rest) a w := by
  refine wpList_plain hg fun K' hK' => ?_
  unfold Oper.wp
  rcases h.next o.type with ⟨h0, hrun⟩ | ⟨M1, p, M2, w', hM, hrun, hrg, hgr, hsz, hen⟩
  · simp [execOp, hop, hit, hrun, Result.andThen]
    exact hK' _ _ (hDone h0)
  · simp [execOp, hop, hit, hrun, Result.andThen]
    exact hK' _ _ (hMore M1 p M2 w' hM hrg hgr hsz hen)
theorem wpList_drop_rg (hg : o.guard = none) (m x : Operand) (t k : TypeId) (hop : o.op = Op.call { callee := Callee.builtin Builtin.delete, args := #[m, x], argTypes := #[t, k] }) (e : TypeId) (K : Keyed P k) (ht : P.underlying t = some (.map k e)) (b r : Nat) (L1 L2 M : List (Value × Value)) (key val : Value)
    (hm : a.eval m = .map (some b)) (hx : a.eval x = key) (h : Rg P k w b r (L1 ++ (key, val) :: L2) M) (hM : ∀ p ∈ M, p.1 ≠ key)
    (hK : ∀ w', Rg P k w' b r (L1 ++ L2) M → w.grownBy w' (some b) → w'.heap.size = w.heap.size → wpList P ops Q rest (a.put o.dst (.tuple #[])) w') : wpList P ops Q (o :: rest) a w := by
  refine wpList_plain hg fun K' hK' => ?_
  obtain ⟨w', hrun, h1, h2, h3⟩ := h.drop K ht hM o.type
  unfold Oper.wp
  simp [execOp, hop, resolve, invoke, builtin, hm, hx, hrun, Result.andThen]
  exact hK' _ _ (hK w' h1 h2 h3)
end

/-- The entries of one text are taken out: what is still there when these are still to come. -/
structure Dl (ls L M : List En) (s : ByteArray) : Prop where
  same : without L s = without ls s
  tocome : ∀ e ∈ L, (e.2.2.toList == s.toList) = true → e ∈ M
theorem kvE_inj {e e' : En} (h : kvE e = kvE e') : e = e' := by
  obtain ⟨t, a, x⟩ := e
  obtain ⟨t', a', x'⟩ := e'
  simp [kvE] at h
  obtain ⟨⟨rfl, rfl⟩, _, _, rfl⟩ := h
  rfl
theorem Dl.start (ls : List En) (s : ByteArray) : Dl ls ls ls s := ⟨rfl, fun e he _ => he⟩
theorem Dl.done {ls L : List En} {s : ByteArray} (h : Dl ls L [] s) : L = without ls s := by
  rw [← h.same]
  unfold without
  refine (List.filter_eq_self.2 fun e he => ?_).symm
  cases hc : (e.2.2.toList == s.toList) with
  | false => rfl
  | true => exact absurd (h.tocome e he hc) (by simp)
theorem Dl.stays {ls L A B : List En} {e : En} {s : ByteArray} (h : Dl ls L (A ++ e :: B) s) (hn : (e.2.2.toList == s.toList) = false) : Dl ls L (A ++ B) s := by
  refine ⟨h.same, fun e' he' ht => ?_⟩
  have := h.tocome e' he' ht
  simp only [List.mem_append, List.mem_cons] at this ⊢
  rcases this with h1 | rfl | h1
  · exact .inl h1
  · rw [ht] at hn; cases hn
  · exact .inr h1
theorem Dl.goes {ls L1 L2 A B : List En} {e : En} {s : ByteArray} (h : Dl ls (L1 ++ e :: L2) (A ++ e :: B) s) (hy : (e.2.2.toList == s.toList) = true) (hne : ∀ e' ∈ L1 ++ L2, e' ≠ e) : Dl ls (L1 ++ L2) (A ++ B) s := by
  refine ⟨?_, fun e' he' ht => ?_⟩
  · rw [← h.same]
    unfold without
    rw [List.filter_append, List.filter_append, List.filter_cons]
    simp [hy]
  · have h1 := hne e' he'
    have := h.tocome e' (by simp only [List.mem_append, List.mem_cons] at he' ⊢; rcases he' with h2 | h2; exact .inl h2; exact .inr (.inr h2)) ht
    simp only [List.mem_append, List.mem_cons] at this ⊢
    rcases this with h2 | h2 | h2
    · exact .inl h2
    · exact absurd h2 h1
    · exact .inr h2
/-- The one that came, in the map; no other bears its key. -/
theorem Rg.came {P : Program} {k : TypeId} {w w' : World} {b r : Nat} {L A B : List En} {e : En} (h : Rg P k w b r (L.map kvE) ((A ++ e :: B).map kvE)) :
    ∃ L1 L2, L = L1 ++ e :: L2 ∧ (∀ e' ∈ L1 ++ L2, e' ≠ e) ∧ ∀ p ∈ (A ++ B).map kvE, p.1 ≠ (kvE e).1 := by
  have hA := h.mp.apart
  have hS := h.left
  have hmem : kvE e ∈ L.map kvE := hS.subset (by simp)
  obtain ⟨e', he', hee⟩ := List.mem_map.1 hmem
  obtain rfl := kvE_inj hee
  obtain ⟨L1, L2, rfl⟩ := List.append_of_mem he'
  have hM := hA.sublist hS
  refine ⟨L1, L2, rfl, fun e'' h1 => ?_, fun p hp => ?_⟩
  · rw [List.map_append, List.map_cons] at hA
    obtain ⟨_, p2, p3⟩ := List.pairwise_append.1 hA
    obtain ⟨p4, _⟩ := List.pairwise_cons.1 p2
    rintro rfl
    rcases List.mem_append.1 h1 with h1 | h1
    · exact p3 _ (List.mem_map.2 ⟨_, h1, rfl⟩) (kvE e'') (by simp) rfl
    · exact p4 _ (List.mem_map.2 ⟨_, h1, rfl⟩) rfl
  · rw [List.map_append, List.map_cons] at hM
    obtain ⟨_, p2, p3⟩ := List.pairwise_append.1 hM
    obtain ⟨p4, _⟩ := List.pairwise_cons.1 p2
    rw [List.map_append] at hp
    rcases List.mem_append.1 hp with h1 | h1
    · exact p3 _ h1 _ (by simp)
    · exact fun e => p4 _ h1 e.symm

end Go.Proofs.YtfnlnigeaioocaaGreat

namespace Go.Proofs.YtfnlnigeaioocaaGreat
open Go.RowKit
set_option linter.unusedVariables false

/-- Two entries of one stamp. -/
def twinE (e y : En) : Bool := decide (y.1 = e.1 ∧ y.2.1 = e.2.1)
/-- The greater of two entries, the first where neither is. -/
def grE (e y : En) : En := if lessR e.1 e.2.1 e.2.2 y.1 y.2.1 y.2.2 = true then y else e
/-- What stays of an entry beside the entries ls and the counts X. -/
def keepE (ls : List En) (X : List Int) (e : En) : Option En :=
  match ls.find? (twinE e) with
  | some y => some (grE e y)
  | none => if e.1 ≤ X.getD e.2.1.toNat 0 then none else some e
theorem keep_stamp {ls : List En} {X : List Int} {e x : En} (h : keepE ls X e = some x) : x.1 = e.1 ∧ x.2.1 = e.2.1 := by
  unfold keepE at h
  cases hf : ls.find? (twinE e) with
  | some y =>
    rw [hf] at h
    have hy := List.find?_some hf
    unfold twinE at hy
    simp only [decide_eq_true_eq] at hy
    simp only [Option.some.injEq] at h
    unfold grE at h
    split at h
    · rw [← h]; exact hy
    · rw [← h]; exact ⟨rfl, rfl⟩
  | none =>
    rw [hf] at h
    simp only at h
    split at h
    · cases h
    · cases h; exact ⟨rfl, rfl⟩
theorem key_iff (e y : En) : (kvE y).1 = (kvE e).1 ↔ (y.1 = e.1 ∧ y.2.1 = e.2.1) := by simp [kvE]
/-- The other map has a twin, or none. -/
theorem find_hit {ls : List En} {e y : En} (h : ls.find? (twinE e) = some y) : ((kvE e).1, (kvE y).2) ∈ ls.map kvE := by
  have hy := List.find?_some h
  have hm := List.mem_of_find?_eq_some h
  unfold twinE at hy
  simp only [decide_eq_true_eq] at hy
  rw [← (key_iff e y).2 hy]
  exact List.mem_map.2 ⟨y, hm, rfl⟩
theorem find_miss {ls : List En} {e : En} (h : ls.find? (twinE e) = none) : ∀ p ∈ ls.map kvE, p.1 ≠ (kvE e).1 := by
  intro p hp he
  obtain ⟨y, hm, rfl⟩ := List.mem_map.1 hp
  have := List.find?_eq_none.1 h y hm
  unfold twinE at this
  exact this (by simpa using (key_iff e y).1 he)
/-- What the map holds when these are still to come. -/
structure Kp (ls1 ls2 : List En) (X : List Int) (out0 out M : List En) : Prop where
  mem : ∀ x, x ∈ out ↔ x ∈ out0 ∨ ∃ e ∈ ls1, e ∉ M ∧ keepE ls2 X e = some x
theorem Kp.start (ls1 ls2 : List En) (X : List Int) (out0 : List En) : Kp ls1 ls2 X out0 out0 ls1 :=
  ⟨fun x => ⟨fun h => .inl h, fun h => h.elim id (fun ⟨e, h1, h2, _⟩ => absurd h1 h2)⟩⟩
theorem Kp.done {ls1 ls2 : List En} {X : List Int} {out0 out : List En} (h : Kp ls1 ls2 X out0 out []) : ∀ x, x ∈ out ↔ x ∈ out0 ∨ ∃ e ∈ ls1, keepE ls2 X e = some x := by
  intro x
  rw [h.mem]
  simp
theorem came_mem {ls1 A B : List En} {e : En} (hm : e ∈ ls1) (hn : e ∉ A ++ B) (z : En) : (z ∈ ls1 ∧ z ∉ A ++ B) ↔ ((z ∈ ls1 ∧ z ∉ A ++ e :: B) ∨ z = e) := by
  simp only [List.mem_append, List.mem_cons, not_or] at hn ⊢
  constructor
  · rintro ⟨h1, h2, h3⟩
    by_cases hz : z = e
    · exact .inr hz
    · exact .inl ⟨h1, h2, hz, h3⟩
  · rintro (⟨h1, h2, _, h3⟩ | rfl)
    · exact ⟨h1, h2, h3⟩
    · exact ⟨hm, hn.1, hn.2⟩
theorem Kp.step {ls1 ls2 : List En} {X : List Int} {out0 out out' A B : List En} {e : En} (h : Kp ls1 ls2 X out0 out (A ++ e :: B)) (hm : e ∈ ls1) (hn : e ∉ A ++ B) (ho : ∀ x, x ∈ out' ↔ x ∈ out ∨ keepE ls2 X e = some x) : Kp ls1 ls2 X out0 out' (A ++ B) := by
  refine ⟨fun x => ?_⟩
  rw [ho, h.mem]
  constructor
  · rintro ((h1 | ⟨z, h1, h2, h3⟩) | h1)
    · exact .inl h1
    · obtain ⟨k1, k2⟩ := (came_mem hm hn z).2 (.inl ⟨h1, h2⟩)
      exact .inr ⟨z, k1, k2, h3⟩
    · exact .inr ⟨e, hm, hn, h1⟩
  · rintro (h1 | ⟨z, h1, h2, h3⟩)
    · exact .inl (.inl h1)
    · rcases (came_mem hm hn z).1 ⟨h1, h2⟩ with ⟨k1, k2⟩ | rfl
      · exact .inl (.inr ⟨z, k1, k2, h3⟩)
      · exact .inr h3
/-- A pair put into a map whose entry of that key, if there is one, is that pair. -/
theorem Mp.putE {P : Program} {k t e : TypeId} {w : World} {b : Nat} {out : List En} (h : Mp P k w b (out.map kvE)) (K : Maps.Keyed P k) (ht : P.underlying t = some (.map k e)) {x : En} {l : Lit} (hk : keyOf P k (kvE x).1 = some l) (hs : ∀ o ∈ out, o.1 = x.1 ∧ o.2.1 = x.2.1 → o = x) :
    ∃ out' : List En, (∀ z, z ∈ out' ↔ z ∈ out ∨ some x = some z) ∧ ∀ w1, Mp P k w1 b (out.map kvE) → ∃ w', (Instr.mapUpdate t (.map (some b)) (kvE x).1 (kvE x).2).run P w1 = .ok () w' ∧ Mp P k w' b (out'.map kvE) ∧ w1.grownBy w' (some b) := by
  by_cases hx : x ∈ out
  · refine ⟨out, fun z => ⟨fun h => .inl h, fun h => h.elim id (fun h => by cases h; exact hx)⟩, fun w1 h1 => ?_⟩
    obtain ⟨j, hj, he⟩ := List.getElem_of_mem hx
    have hj' : (out.map kvE)[j]? = some ((kvE x).1, (kvE x).2) := by simp [hj, he]
    obtain ⟨w', r1, r2, r3⟩ := h1.over K ht hj' (kvE x).2
    refine ⟨w', r1, ?_, r3⟩
    have hset : (out.map kvE).set j ((kvE x).1, (kvE x).2) = out.map kvE := by
      refine List.ext_getElem (by simp) (fun i h1 h2 => ?_)
      rw [List.getElem_set]
      split
      · rename_i hij
        subst hij
        simp [he]
      · rfl
    rw [hset] at r2
    exact r2
  · refine ⟨out ++ [x], fun z => by simp [eq_comm], fun w1 h1 => ?_⟩
    obtain ⟨w', r1, r2, r3⟩ := h1.new K ht hk (fun p hp he => by
      obtain ⟨o, ho, rfl⟩ := List.mem_map.1 hp
      exact hx (hs o ho ((key_iff x o).1 he) ▸ ho)) (kvE x).2
    refine ⟨w', r1, ?_, r3⟩
    rw [List.map_append]
    exact r2

/-- What is put beside an entry of the same stamp is that entry. -/
theorem Kp.fresh {ls1 ls2 : List En} {X : List Int} {out0 out A B : List En} {e g : En} (h : Kp ls1 ls2 X out0 out (A ++ e :: B)) (hap : (ls1.map kvE).Pairwise (fun p q => p.1 ≠ q.1)) (hm : e ∈ ls1) (hk : keepE ls2 X e = some g)
    (hsame : ∀ e ∈ ls1, ∀ x, keepE ls2 X e = some x → ∀ o ∈ out0, o.1 = x.1 ∧ o.2.1 = x.2.1 → o = x) : ∀ o ∈ out, o.1 = g.1 ∧ o.2.1 = g.2.1 → o = g := by
  intro o ho hst
  rcases (h.mem o).1 ho with h1 | ⟨z, h1, h2, h3⟩
  · exact hsame e hm g hk o h1 hst
  · have s1 := keep_stamp h3
    have s2 := keep_stamp hk
    have hz : (kvE z).1 = (kvE e).1 := (key_iff e z).2 ⟨by rw [← s1.1, hst.1, s2.1], by rw [← s1.2, hst.2, s2.2]⟩
    have hze : z = e := by
      obtain ⟨i, hi, rfl⟩ := List.getElem_of_mem h1
      obtain ⟨j, hj, rfl⟩ := List.getElem_of_mem hm
      rcases Nat.lt_trichotomy i j with hlt | rfl | hlt
      · exact absurd (by rw [List.getElem_map, List.getElem_map]; exact hz) (List.pairwise_iff_getElem.1 hap i j (by simpa using hi) (by simpa using hj) hlt)
      · rfl
      · exact absurd (by rw [List.getElem_map, List.getElem_map]; exact hz.symm) (List.pairwise_iff_getElem.1 hap j i (by simpa using hj) (by simpa using hi) hlt)
    exact absurd (by rw [hze]; simp) h2

end Go.Proofs.YtfnlnigeaioocaaGreat
