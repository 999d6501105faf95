/- A range over a map of pairs in whose rounds entries are taken out: what a taking out does; the steps in a walk without a fence. -/
import Derived.Test.YtdkfeabpnikedaaQMapBaseToStKey
import Derived.Test.YtdkfeabpnikedaaQKeysIter
import Derived.Test.YtdkfeabpnikedaaQJoinedBaseToEntRows
namespace Go.Proofs.Ytdkfeabpnikedaa
open Go.RowKit
open Go.ChangeMaps (setBlock heap_setBlock_same heap_setBlock_other)
open Go.Maps (Keyed)
open Go.MapKept (Stamped stamped_iff stamped_erase)
set_option linter.unusedVariables false

/-- An entry that has come is taken out. -/
theorem Rg.drop {P : Program} {k t e : TypeId} {w : World} {b r : Nat} {L1 L2 M : List (Value × Value)} {key val : Value} (h : Rg P k w b r (L1 ++ (key, val) :: L2) M) (K : Keyed P k) (ht : P.underlying t = some (.map k e)) (hM : ∀ p ∈ M, p.1 ≠ key) (ty : TypeId) :
    ∃ w', (Builtin.delete_ #[t, k] ty #[.map (some b), key]).run P w = .ok (.tuple #[]) w' ∧ Rg P k w' b r (L1 ++ L2) M ∧ w.grownBy w' (some b) ∧ w'.heap.size = w.heap.size := by
  have hA := h.mp.apart
  have hrb : r ≠ b := by
    obtain ⟨es, clock, since, seen, c0, hb, _, _, _, hr, _⟩ := h
    intro e
    rw [e, hb] at hr
    cases hr
  obtain ⟨es, clock, since, seen, c0, hb, hs, hL, hK, hr, hold, hLeft, hsc, hsk⟩ := h
  obtain ⟨l, hk⟩ := hK (key, val) (by simp)
  have hkeys : ∀ x ∈ es.toList, ∃ l, keyOf P k x.key = some l := fun x hx => hK _ (by rw [← hL]; exact mem_pair hx)
  obtain ⟨A, R, hes, hA1, hR⟩ := List.map_eq_append_iff.1 hL
  obtain ⟨x, B, hRe, hx, hB⟩ := List.map_eq_cons_iff.1 hR
  rw [hRe] at hes
  have hxk : x.key = key := congrArg Prod.fst hx
  rcases K.find w hk es.toList hkeys with ⟨h1, h2⟩ | ⟨j, e0, h1, h2, h3⟩
  · exact absurd hxk (h2 x (by rw [hes]; simp))
  · have hj : j = A.length := by
      have hi : (es.toList.map (fun e => (e.key, e.val)))[j]? = some (e0.key, e0.val) := by rw [List.getElem?_map, h2]; rfl
      have hi2 : (es.toList.map (fun e => (e.key, e.val)))[A.length]? = some (x.key, x.val) := by rw [List.getElem?_map, hes]; simp
      rw [hL] at hi hi2
      obtain ⟨hil, hie⟩ := List.getElem?_eq_some_iff.1 hi
      obtain ⟨hjl, hje⟩ := List.getElem?_eq_some_iff.1 hi2
      rcases Nat.lt_trichotomy j A.length with hlt | h0 | hlt
      · exact absurd (by rw [hie, hje]; exact h3.trans hxk.symm) (List.pairwise_iff_getElem.1 hA j A.length hil hjl hlt)
      · exact h0
      · exact absurd (by rw [hie, hje]; exact (h3.trans hxk.symm).symm) (List.pairwise_iff_getElem.1 hA A.length j hjl hil hlt)
    have hjs : j < es.size := by
      have := (List.getElem?_eq_some_iff.1 h2).1
      simpa using this
    have hsub : (es.eraseIdxIfInBounds j).toList = A ++ B := by
      unfold Array.eraseIdxIfInBounds
      rw [dif_pos hjs]
      simp only [Array.toList_eraseIdx]
      rw [hes, hj, List.eraseIdx_append_of_length_le (Nat.le_refl _)]
      simp
    have hset := heap_setBlock_same hb (.map (es.eraseIdxIfInBounds j) clock)
    have hother : ∀ i, i ≠ b → (setBlock w b (.map (es.eraseIdxIfInBounds j) clock)).heap[i]? = w.heap[i]? := fun i hi => heap_setBlock_other hb _ hi
    have hnx : seen.contains x.born = true := by
      cases hc : seen.contains x.born with
      | true => rfl
      | false =>
        refine absurd hxk (hM (x.key, x.val) ?_)
        rw [← hLeft]
        refine List.mem_map.2 ⟨x, ?_, rfl⟩
        unfold leftOf
        rw [Array.toList_filter, List.mem_filter]
        exact ⟨by rw [hes]; simp, by rw [hc]; rfl⟩
    refine ⟨_, by simp [Builtin.delete_, run_underlying ht, MapKept.run_getObj_map hb, K.check w _ hk, h1, MapKept.run_setObj_map _ hb, Result.andThen]; rfl,
      ⟨es.eraseIdxIfInBounds j, clock, since, seen, c0, hset, stamped_erase hs j, ?_, ?_, (hother r hrb).trans hr, ?_, ?_, hsc, hsk⟩, grown_setBlock hb _, by simp [setBlock]⟩
    · rw [hsub, List.map_append, hA1, hB]
    · intro p hp
      refine hK p ?_
      rcases List.mem_append.1 hp with hp | hp
      · exact List.mem_append_left _ hp
      · exact List.mem_append_right _ (List.mem_cons_of_mem _ hp)
    · intro y hy
      rw [hsub] at hy
      refine hold y ?_
      rw [hes]
      rcases List.mem_append.1 hy with hy | hy
      · exact List.mem_append_left _ hy
      · exact List.mem_append_right _ (List.mem_cons_of_mem _ hy)
    · rw [← hLeft]
      unfold leftOf
      rw [Array.toList_filter, Array.toList_filter, hsub, hes, List.filter_append, List.filter_append, List.filter_cons_of_neg (by simp only [hnx]; decide)]

section
variable {P : Program} {ops : Array Oper} {rest : List Oper} {o : Oper} {a : Act} {w : World} {Q : Exit → Act → World → Prop}
theorem wpList_range_mp (hg : o.guard = none) (m : Operand) (t : TypeId) (hop : o.op = Op.range t m) (k e : TypeId) (ht : P.underlying t = some (.map k e)) (b : Nat) (L : List (Value × Value))
    (hm : a.eval m = .map (some b)) (hM : Mp P k w b L)
    (hK : ∀ w', Rg P k w' b w.heap.size L L → w.grownBy w' none → w'.heap.size = w.heap.size + 1 → wpList P ops Q rest (a.put o.dst (.pointer (some ⟨w.heap.size, 0, none⟩))) w') :
    wpList P ops Q (o :: rest) a w := by
  refine wpList_plain hg fun K' hK' => ?_
  obtain ⟨w', hrun, r1, r2, r3⟩ := hM.range ht
  unfold Oper.wp
  simp [execOp, hop, hm, hrun, Result.andThen]
  exact hK' _ _ (hK w' r1 r2 r3)
theorem wpList_next_rg (hg : o.guard = none) (it : Operand) (hop : o.op = Op.next it false) (k : TypeId) (b r : Nat) (L M : List (Value × Value))
    (hit : a.eval it = .pointer (some ⟨r, 0, none⟩)) (h : Rg P k w b r L M)
    (hDone : M = [] → wpList P ops Q rest (a.put o.dst (.tuple #[.bool false])) w)
    (hMore : ∀ M1 p M2 w', M = M1 ++ p :: M2 → Rg P k w' b r L (M1 ++ M2) → w.grownBy w' (some r) → w'.heap.size = w.heap.size → (Instr.entry (.pointer (some ⟨r, 0, none⟩))).run P w' = .ok (.tuple #[p.1, p.2]) w' →
      wpList P ops Q rest (a.put o.dst (.tuple #[.bool true, p.1, p.2])) w') :
    wpList P ops Q (o :: rest) a w := by
  refine wpList_plain hg fun K' hK' => ?_
  unfold Oper.wp
  rcases h.next o.type with ⟨h0, hrun⟩ | ⟨M1, p, M2, w', hM, hrun, hrg, hgr, hsz, hen⟩
  · simp [execOp, hop, hit, hrun, Result.andThen]
    exact hK' _ _ (hDone h0)
  · simp [execOp, hop, hit, hrun, Result.andThen]
    exact hK' _ _ (hMore M1 p M2 w' hM hrg hgr hsz hen)
theorem wpList_drop_rg (hg : o.guard = none) (m x : Operand) (t k : TypeId) (hop : o.op = Op.call { callee := Callee.builtin Builtin.delete, args := #[m, x], argTypes := #[t, k] }) (e : TypeId) (K : Keyed P k) (ht : P.underlying t = some (.map k e)) (b r : Nat) (L1 L2 M : List (Value × Value)) (key val : Value)
    (hm : a.eval m = .map (some b)) (hx : a.eval x = key) (h : Rg P k w b r (L1 ++ (key, val) :: L2) M) (hM : ∀ p ∈ M, p.1 ≠ key)
    (hK : ∀ w', Rg P k w' b r (L1 ++ L2) M → w.grownBy w' (some b) → w'.heap.size = w.heap.size → wpList P ops Q rest (a.put o.dst (.tuple #[])) w') : wpList P ops Q (o :: rest) a w := by
  refine wpList_plain hg fun K' hK' => ?_
  obtain ⟨w', hrun, h1, h2, h3⟩ := h.drop K ht hM o.type
  unfold Oper.wp
  simp [execOp, hop, resolve, invoke, builtin, hm, hx, hrun, Result.andThen]
  exact hK' _ _ (hK w' h1 h2 h3)
end

/-- The entries of one text are taken out: what is still there when these are still to come. -/
structure Dl (ls L M : List En) (s : ByteArray) : Prop where
  same : without L s = without ls s
  tocome : ∀ e ∈ L, (e.2.2.toList == s.toList) = true → e ∈ M
theorem kvE_inj {e e' : En} (h : kvE e = kvE e') : e = e' := by
  obtain ⟨t, a, x⟩ := e
  obtain ⟨t', a', x'⟩ := e'
  simp [kvE] at h
  obtain ⟨⟨rfl, rfl⟩, _, _, rfl⟩ := h
  rfl
theorem Dl.start (ls : List En) (s : ByteArray) : Dl ls ls ls s := ⟨rfl, fun e he _ => he⟩
theorem Dl.done {ls L : List En} {s : ByteArray} (h : Dl ls L [] s) : L = without ls s := by
  rw [← h.same]
  unfold without
  refine (List.filter_eq_self.2 fun e he => ?_).symm
  cases hc : (e.2.2.toList == s.toList) with
  | false => rfl
  | true => exact absurd (h.tocome e he hc) (by simp)
theorem Dl.stays {ls L A B : List En} {e : En} {s : ByteArray} (h : Dl ls L (A ++ e :: B) s) (hn : (e.2.2.toList == s.toList) = false) : Dl ls L (A ++ B) s := by
  refine ⟨h.same, fun e' he' ht => ?_⟩
  have := h.tocome e' he' ht
  simp only [List.mem_append, List.mem_cons] at this ⊢
  rcases this with h1 | rfl | h1
  · exact .inl h1
  · rw [ht] at hn; cases hn
  · exact .inr h1
theorem Dl.goes {ls L1 L2 A B : List En} {e : En} {s : ByteArray} (h : Dl ls (L1 ++ e :: L2) (A ++ e :: B) s) (hy : (e.2.2.toList == s.toList) = true) (hne : ∀ e' ∈ L1 ++ L2, e' ≠ e) : Dl ls (L1 ++ L2) (A ++ B) s := by
  refine ⟨?_, fun e' he' ht => ?_⟩
  · rw [← h.same]
    unfold without
    rw [List.filter_append, List.filter_append, List.filter_cons]
    simp [hy]
  · have h1 := hne e' he'
    have := h.tocome e' (by simp only [List.mem_append, List.mem_cons] at he' ⊢; rcases he' with h2 | h2; exact .inl h2; exact .inr (.inr h2)) ht
    simp only [List.mem_append, List.mem_cons] at this ⊢
    rcases this with h2 | h2 | h2
    · exact .inl h2
    · exact absurd h2 h1
    · exact .inr h2
/-- The one that came, in the map; no other bears its key. -/
theorem Rg.came {P : Program} {k : TypeId} {w w' : World} {b r : Nat} {L A B : List En} {e : En} (h : Rg P k w b r (L.map kvE) ((A ++ e :: B).map kvE)) :
    ∃ L1 L2, L = L1 ++ e :: L2 ∧ (∀ e' ∈ L1 ++ L2, e' ≠ e) ∧ ∀ p ∈ (A ++ B).map kvE, p.1 ≠ (kvE e).1 := by
  have hA := h.mp.apart
  have hS := h.left
  have hmem : kvE e ∈ L.map kvE := hS.subset (by simp)
  obtain ⟨e', he', hee⟩ := List.mem_map.1 hmem
  obtain rfl := kvE_inj hee
  obtain ⟨L1, L2, rfl⟩ := List.append_of_mem he'
  have hM := hA.sublist hS
  refine ⟨L1, L2, rfl, fun e'' h1 => ?_, fun p hp => ?_⟩
  · rw [List.map_append, List.map_cons] at hA
    obtain ⟨_, p2, p3⟩ := List.pairwise_append.1 hA
    obtain ⟨p4, _⟩ := List.pairwise_cons.1 p2
    rintro rfl
    rcases List.mem_append.1 h1 with h1 | h1
    · exact p3 _ (List.mem_map.2 ⟨_, h1, rfl⟩) (kvE e'') (by simp) rfl
    · exact p4 _ (List.mem_map.2 ⟨_, h1, rfl⟩) rfl
  · rw [List.map_append, List.map_cons] at hM
    obtain ⟨_, p2, p3⟩ := List.pairwise_append.1 hM
    obtain ⟨p4, _⟩ := List.pairwise_cons.1 p2
    rw [List.map_append] at hp
    rcases List.mem_append.1 hp with h1 | h1
    · exact p3 _ h1 _ (by simp)
    · exact fun e => p4 _ h1 e.symm

end Go.Proofs.Ytdkfeabpnikedaa
