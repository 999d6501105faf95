/- A map in memory as a list of pairs, in the order in which they were laid: what the operations on it do. Lemmas over whatever key type has its law. A stamp as a map's key. -/
import Derived.Maps.Range
import Derived.DeepKeys4
import Derived.Test.YtfnlnigeaioocaaGreatQInfoToTrBase
namespace Go.Proofs.YtfnlnigeaioocaaGreat
open Go.RowKit
open Go.ChangeMaps (setBlock heap_setBlock_same heap_setBlock_other modify_eq_set)
open Go.Maps (Keyed)
open Go.MapKept (heap_set Stamped stamped_iff stamped_push stamped_modify stamped_erase)
set_option linter.unusedVariables false

/-- The block b holds a map of these pairs, in the order in which they were laid; each key reads as one. -/
def Mp (P : Program) (k : TypeId) (w : World) (b : Nat) (L : List (Value × Value)) : Prop :=
  ∃ es clock, w.heap[b]? = some (.map es clock) ∧ Stamped es clock ∧ es.toList.map (fun e => (e.key, e.val)) = L ∧ ∀ p ∈ L, ∃ l, keyOf P k p.1 = some l
theorem Mp.lt {P : Program} {k : TypeId} {w : World} {b : Nat} {L : List (Value × Value)} (h : Mp P k w b L) : b < w.heap.size := by
  obtain ⟨es, clock, hb, _⟩ := h
  exact (Array.getElem?_eq_some_iff.1 hb).1
theorem Mp.kept {P : Program} {k : TypeId} {w w' : World} {b : Nat} {L : List (Value × Value)} {row : Option Nat} (h : Mp P k w b L) (hg : w.grownBy w' row) (hn : row ≠ some b) : Mp P k w' b L := by
  have hlt := h.lt
  obtain ⟨es, clock, hb, h2⟩ := h
  exact ⟨es, clock, (hg.block b hlt (fun e => hn e.symm)).trans hb, h2⟩
theorem Mp.below {P : Program} {k : TypeId} {C : Nat} {w w' : World} {b : Nat} {L : List (Value × Value)} (h : Mp P k w b L) (hb : Below C w w') (hC : b < C) : Mp P k w' b L := by
  obtain ⟨es, clock, hh, h2⟩ := h
  exact ⟨es, clock, (hb.block b hC).trans hh, h2⟩
theorem Mp.on {P : Program} {k : TypeId} {w w' : World} {b : Nat} {L : List (Value × Value)} (h : Mp P k w b L) (hb : Below w.heap.size w w') : Mp P k w' b L := h.below hb h.lt
theorem Mp.alloc {P : Program} {k : TypeId} {w : World} {b : Nat} {L : List (Value × Value)} (h : Mp P k w b L) (o : Obj) : Mp P k (w.alloc o) b L := h.on (below_alloc w o)
theorem Mp.drew {P : Program} {k : TypeId} {w : World} {b : Nat} {L : List (Value × Value)} (h : Mp P k w b L) : Mp P k w.drew b L := h
theorem Mp.set {P : Program} {k : TypeId} {w : World} {b : Nat} {L : List (Value × Value)} (h : Mp P k w b L) {n : Nat} (hn : b ≠ n) (j : Nat) (u : Value) : Mp P k (w.setCell ⟨n, j, none⟩ u) b L :=
  h.kept (grownBy_set w n j u) (fun e => by cases e; exact hn rfl)
theorem Mp.made (P : Program) (k : TypeId) (w : World) : Mp P k (w.alloc (.map #[] 0)) w.heap.size [] := ⟨#[], 0, heap_alloc_new w _, MapKept.stamped_empty 0, rfl, by simp⟩
/-- No key stands twice. -/
theorem Mp.apart {P : Program} {k : TypeId} {w : World} {b : Nat} {L : List (Value × Value)} (h : Mp P k w b L) : L.Pairwise (fun p q => p.1 ≠ q.1) := by
  obtain ⟨es, clock, _, hs, rfl, _⟩ := h
  exact List.pairwise_map.2 ((stamped_iff es clock).1 hs).2.2
theorem Mp.keys {P : Program} {k : TypeId} {w : World} {b : Nat} {L : List (Value × Value)} (h : Mp P k w b L) : ∀ p ∈ L, ∃ l, keyOf P k p.1 = some l := by
  obtain ⟨_, _, _, _, _, h⟩ := h
  exact h
theorem mem_pair {es : Array MapEntry} {e : MapEntry} (h : e ∈ es.toList) : (e.key, e.val) ∈ es.toList.map (fun e => (e.key, e.val)) := List.mem_map.2 ⟨e, h, rfl⟩
theorem es_keys {P : Program} {k : TypeId} {es : Array MapEntry} (h : ∀ p ∈ es.toList.map (fun e => (e.key, e.val)), ∃ l, keyOf P k p.1 = some l) : ∀ e ∈ es.toList, ∃ l, keyOf P k e.key = some l := fun e he => h _ (mem_pair he)
theorem grown_setBlock {w : World} {b : Nat} {es : Array MapEntry} {clock : Nat} (hb : w.heap[b]? = some (.map es clock)) (o : Obj) : w.grownBy (setBlock w b o) (some b) :=
  ⟨rfl, rfl, rfl, by simp [setBlock], fun i _ hi => heap_setBlock_other hb _ (fun e => hi (by rw [e]))⟩
/-- A key that is not there yet: the pair is laid behind all others. -/
theorem Mp.new {P : Program} {k t e : TypeId} {w : World} {b : Nat} {L : List (Value × Value)} (h : Mp P k w b L) (K : Keyed P k) (ht : P.underlying t = some (.map k e)) {key : Value} {l : Lit} (hk : keyOf P k key = some l) (hn : ∀ p ∈ L, p.1 ≠ key) (val : Value) :
    ∃ w', (Instr.mapUpdate t (.map (some b)) key val).run P w = .ok () w' ∧ Mp P k w' b (L ++ [(key, val)]) ∧ w.grownBy w' (some b) := by
  obtain ⟨es, clock, hb, hs, rfl, hK⟩ := h
  rcases K.find w hk es.toList (es_keys hK) with ⟨h1, h2⟩ | ⟨j, e0, h1, h2, h3⟩
  · refine ⟨_, by simp [Instr.mapUpdate, run_underlying ht, MapKept.run_getObj_map hb, K.check w false hk, h1, MapKept.run_setObj_map _ hb, Result.andThen]; rfl, ⟨es.push ⟨key, val, clock⟩, clock + 1, heap_setBlock_same hb _, stamped_push hs h2, by simp, ?_⟩, grown_setBlock hb _⟩
    intro p hp
    rcases List.mem_append.1 hp with hp | hp
    · exact hK p hp
    · rw [List.mem_singleton.1 hp]
      exact ⟨l, hk⟩
  · exact absurd h3 (hn _ (mem_pair (List.mem_of_getElem? h2)))
/-- A key that is there: its value is written over. -/
theorem Mp.over {P : Program} {k t e : TypeId} {w : World} {b : Nat} {L : List (Value × Value)} (h : Mp P k w b L) (K : Keyed P k) (ht : P.underlying t = some (.map k e)) {key old : Value} {j : Nat} (hj : L[j]? = some (key, old)) (val : Value) :
    ∃ w', (Instr.mapUpdate t (.map (some b)) key val).run P w = .ok () w' ∧ Mp P k w' b (L.set j (key, val)) ∧ w.grownBy w' (some b) := by
  have hA := h.apart
  obtain ⟨es, clock, hb, hs, rfl, hK⟩ := h
  obtain ⟨l, hk⟩ := hK _ (List.mem_of_getElem? hj)
  rcases K.find w hk es.toList (es_keys hK) with ⟨h1, h2⟩ | ⟨i, e0, h1, h2, h3⟩
  · obtain ⟨x, hx, hxe⟩ := List.mem_map.1 (List.mem_of_getElem? hj)
    exact absurd (congrArg Prod.fst hxe) (h2 x hx)
  · have hij : i = j := by
      have hi : (es.toList.map (fun e => (e.key, e.val)))[i]? = some (e0.key, e0.val) := by rw [List.getElem?_map, h2]; rfl
      obtain ⟨hil, hie⟩ := List.getElem?_eq_some_iff.1 hi
      obtain ⟨hjl, hje⟩ := List.getElem?_eq_some_iff.1 hj
      rcases Nat.lt_trichotomy i j with hlt | rfl | hlt
      · exact absurd (by rw [hie, hje]; exact h3) (List.pairwise_iff_getElem.1 hA i j hil hjl hlt)
      · rfl
      · exact absurd (by rw [hie, hje]; exact h3.symm) (List.pairwise_iff_getElem.1 hA j i hjl hil hlt)
    subst hij
    have hj' : es[i]? = some e0 := by simpa using h2
    have hlist : (es.modify i (fun e' => { e' with key := key, val := val })).toList = es.toList.set i { e0 with key := key, val := val } := by rw [Array.toList_modify, modify_eq_set _ _ _ _ h2]
    refine ⟨_, by simp [Instr.mapUpdate, run_underlying ht, MapKept.run_getObj_map hb, K.check w false hk, h1, hj', h3, K.stays w hk, MapKept.run_setObj_map _ hb, Result.andThen]; rfl, ⟨es.modify i (fun e' => { e' with key := key, val := val }), clock, heap_setBlock_same hb _, stamped_modify hs i _ (fun _ _ => rfl) (fun e' _ he' => by rw [hj'] at he'; cases he'; exact h3.symm), ?_, ?_⟩, grown_setBlock hb _⟩
    · rw [hlist, List.map_set]
    · intro p hp
      rcases List.mem_or_eq_of_mem_set hp with hp | rfl
      · exact hK p hp
      · exact ⟨l, hk⟩
/-- What is looked up: a key that is not there; one that is. -/
theorem Mp.miss {P : Program} {k t e : TypeId} {w : World} {b : Nat} {L : List (Value × Value)} (h : Mp P k w b L) (K : Keyed P k) (ht : P.underlying t = some (.map k e)) {z : Value} (hz : (zeroValue e).run P w = .ok z w) {key : Value} {l : Lit} (hk : keyOf P k key = some l) (hn : ∀ p ∈ L, p.1 ≠ key) :
    (Instr.lookup t (.map (some b)) key true).run P w = .ok (.tuple #[z, .bool false]) w ∧ (Instr.lookup t (.map (some b)) key false).run P w = .ok z w := by
  obtain ⟨es, clock, hb, hs, rfl, hK⟩ := h
  rcases K.find w hk es.toList (es_keys hK) with ⟨h1, h2⟩ | ⟨j, e0, h1, h2, h3⟩
  · exact ⟨by simp [Instr.lookup, run_underlying ht, MapKept.run_getObj_map hb, K.check w _ hk, h1, hz, Result.andThen], by simp [Instr.lookup, run_underlying ht, MapKept.run_getObj_map hb, K.check w _ hk, h1, hz, Result.andThen]⟩
  · exact absurd h3 (hn _ (mem_pair (List.mem_of_getElem? h2)))
theorem Mp.hit {P : Program} {k t e : TypeId} {w : World} {b : Nat} {L : List (Value × Value)} (h : Mp P k w b L) (K : Keyed P k) (ht : P.underlying t = some (.map k e)) {key val : Value} (hp : (key, val) ∈ L) :
    (Instr.lookup t (.map (some b)) key true).run P w = .ok (.tuple #[val, .bool true]) w ∧ (Instr.lookup t (.map (some b)) key false).run P w = .ok val w := by
  have hA := h.apart
  obtain ⟨es, clock, hb, hs, rfl, hK⟩ := h
  obtain ⟨l, hk⟩ := hK _ hp
  obtain ⟨x, hx, hxe⟩ := List.mem_map.1 hp
  simp only [Prod.mk.injEq] at hxe
  obtain ⟨rfl, rfl⟩ := hxe
  rcases K.find w hk es.toList (es_keys hK) with ⟨h1, h2⟩ | ⟨j, e0, h1, h2, h3⟩
  · exact absurd rfl (h2 x hx)
  · have he : e0 = x := entry_eq_of_key ((stamped_iff es clock).1 hs).2.2 (List.mem_of_getElem? h2) hx h3
    subst he
    exact ⟨by simp [Instr.lookup, run_underlying ht, MapKept.run_getObj_map hb, K.check w _ hk, h1, Result.andThen], by simp [Instr.lookup, run_underlying ht, MapKept.run_getObj_map hb, K.check w _ hk, h1, Result.andThen]⟩

/-- A range over the map in b is under way in block r: these are still to come. -/
def Rg (P : Program) (k : TypeId) (w : World) (b r : Nat) (L M : List (Value × Value)) : Prop :=
  ∃ es clock since seen c0, w.heap[b]? = some (.map es clock) ∧ Stamped es clock ∧ es.toList.map (fun e => (e.key, e.val)) = L ∧ (∀ p ∈ L, ∃ l, keyOf P k p.1 = some l) ∧
    w.heap[r]? = some (.mapIter (some b) since seen c0) ∧ (∀ x ∈ es.toList, x.born < since) ∧ (leftOf es seen).toList.map (fun e => (e.key, e.val)) = M ∧ since ≤ c0 ∧ since ≤ clock
theorem Rg.mp {P : Program} {k : TypeId} {w : World} {b r : Nat} {L M : List (Value × Value)} (h : Rg P k w b r L M) : Mp P k w b L := by
  obtain ⟨es, clock, since, seen, c0, h1, h2, h3, h4, _⟩ := h
  exact ⟨es, clock, h1, h2, h3, h4⟩
theorem Rg.lt {P : Program} {k : TypeId} {w : World} {b r : Nat} {L M : List (Value × Value)} (h : Rg P k w b r L M) : r < w.heap.size := by
  obtain ⟨es, clock, since, seen, c0, _, _, _, _, h5, _⟩ := h
  exact (Array.getElem?_eq_some_iff.1 h5).1
theorem Rg.kept {P : Program} {k : TypeId} {w w' : World} {b r : Nat} {L M : List (Value × Value)} {row : Option Nat} (h : Rg P k w b r L M) (hg : w.grownBy w' row) (hb' : row ≠ some b) (hr' : row ≠ some r) : Rg P k w' b r L M := by
  have h1 := h.mp.lt
  have h2 := h.lt
  obtain ⟨es, clock, since, seen, c0, hb, hs, hL, hK, hr, rest⟩ := h
  exact ⟨es, clock, since, seen, c0, (hg.block b h1 (fun e => hb' e.symm)).trans hb, hs, hL, hK, (hg.block r h2 (fun e => hr' e.symm)).trans hr, rest⟩
/-- What is still to come is of the map, no pair twice. -/
theorem Rg.left {P : Program} {k : TypeId} {w : World} {b r : Nat} {L M : List (Value × Value)} (h : Rg P k w b r L M) : M.Sublist L := by
  obtain ⟨es, clock, since, seen, c0, _, _, rfl, _, _, _, rfl, _⟩ := h
  unfold leftOf
  rw [Array.toList_filter]
  exact List.Sublist.map _ List.filter_sublist
theorem Mp.range {P : Program} {k t e : TypeId} {w : World} {b : Nat} {L : List (Value × Value)} (h : Mp P k w b L) (ht : P.underlying t = some (.map k e)) :
    ∃ w', (Instr.range t (.map (some b))).run P w = .ok (.pointer (some ⟨w.heap.size, 0, none⟩)) w' ∧ Rg P k w' b w.heap.size L L ∧ w.grownBy w' none ∧ w'.heap.size = w.heap.size + 1 := by
  have hlt := h.lt
  obtain ⟨es, clock, hb, hs, rfl, hK⟩ := h
  refine ⟨_, run_range_map w t k e b es clock ht hb, ⟨es, clock, clock, #[], clock, ((MapKept.heap_alloc w _).2 b hlt).trans hb, hs, rfl, hK, (MapKept.heap_alloc w _).1, hs.1, by unfold leftOf; rw [Array.filter_eq_self.2 (by simp)], Nat.le_refl _, Nat.le_refl _⟩, World.grownBy_alloc w _ none, by simp⟩
/-- The step of a range: nothing is left, or one of those that are left comes out. -/
theorem Rg.next {P : Program} {k : TypeId} {w : World} {b r : Nat} {L M : List (Value × Value)} (h : Rg P k w b r L M) (ty : TypeId) :
    (M = [] ∧ (Instr.next (.pointer (some ⟨r, 0, none⟩)) false ty).run P w = .ok (.tuple #[.bool false]) w) ∨
    ∃ M1 p M2 w', M = M1 ++ p :: M2 ∧ (Instr.next (.pointer (some ⟨r, 0, none⟩)) false ty).run P w = .ok (.tuple #[.bool true, p.1, p.2]) w' ∧ Rg P k w' b r L (M1 ++ M2) ∧ w.grownBy w' (some r) ∧ w'.heap.size = w.heap.size ∧
      (Instr.entry (.pointer (some ⟨r, 0, none⟩))).run P w' = .ok (.tuple #[p.1, p.2]) w' := by
  have hrb : r ≠ b := by
    obtain ⟨es, clock, since, seen, c0, hb, _, _, _, hr, _⟩ := h
    intro e
    rw [e, hb] at hr
    cases hr
  obtain ⟨es, clock, since, seen, c0, hb, hs, rfl, hK, hr, hold, rfl, hsc, hsk⟩ := h
  rcases run_next_at (P := P) w ty r b since c0 seen es clock hr hb hold hsc with ⟨h0, hrun⟩ | ⟨e, he, w1, hal, hrun⟩
  · refine Or.inl ⟨?_, hrun⟩
    rw [Array.eq_empty_of_size_eq_zero h0]
    rfl
  · obtain ⟨hem, hes⟩ := mem_left he
    have hr1 : w1.heap[r]? = some (.mapIter (some b) since seen c0) := by rcases hal with rfl | rfl <;> exact hr
    have hb1 : w1.heap[b]? = some (.map es clock) := by rcases hal with rfl | rfl <;> exact hb
    have hset := heap_set (o' := .mapIter (some b) since (seen.push e.born) clock) hr1
    have hb' : (setBlock w1 r (.mapIter (some b) since (seen.push e.born) clock)).heap[b]? = some (.map es clock) := (hset.2 b (fun e1 => hrb e1.symm)).trans hb1
    obtain ⟨A, B, hAB⟩ := List.append_of_mem he
    have hst := (stamped_iff es clock).1 hs
    have hleft : (leftOf es (seen.push e.born)).toList = A ++ B := by
      have hnd : ((leftOf es seen).toList.map (·.born)).Nodup := by
        unfold leftOf
        rw [Array.toList_filter]
        exact hst.2.1.sublist (List.Sublist.map _ List.filter_sublist)
      have e1 : (leftOf es (seen.push e.born)).toList = (leftOf es seen).toList.filter (fun x => !(x.born == e.born)) := by
        unfold leftOf
        rw [Array.toList_filter, Array.toList_filter, List.filter_filter]
        congr 1
        funext x
        rw [contains_push]
        cases seen.contains x.born <;> cases (x.born == e.born) <;> rfl
      rw [e1, hAB]
      rw [hAB, List.map_append, List.map_cons] at hnd
      have hd := List.nodup_append.1 hnd
      have hd2 := List.nodup_cons.1 hd.2.1
      rw [List.filter_append, List.filter_cons]
      simp only [beq_self_eq_true, Bool.not_true, Bool.false_eq_true, if_false]
      congr 1
      · refine List.filter_eq_self.2 fun x hx => ?_
        have := hd.2.2 x.born (List.mem_map.2 ⟨x, hx, rfl⟩) e.born (by simp)
        simp [this]
      · refine List.filter_eq_self.2 fun x hx => ?_
        have : x.born ≠ e.born := fun h => hd2.1 (List.mem_map.2 ⟨x, hx, h⟩)
        simp [this]
    refine Or.inr ⟨A.map (fun e => (e.key, e.val)), (e.key, e.val), B.map (fun e => (e.key, e.val)), _, by rw [hAB]; simp, hrun,
      ⟨es, clock, since, seen.push e.born, clock, hb', hs, rfl, hK, hset.1, hold, by rw [hleft]; simp, hsk, hsk⟩, ?_, ?_,
      run_entry_at _ r b since seen es clock e hset.1 hb' hem hst.2.1⟩
    · rcases hal with rfl | rfl <;> exact ⟨rfl, rfl, rfl, by simp [setBlock], fun i _ hi => hset.2 i (fun e1 => hi (by rw [e1]))⟩
    · rcases hal with rfl | rfl <;> simp [setBlock]

end Go.Proofs.YtfnlnigeaioocaaGreat

namespace Go.Proofs.YtfnlnigeaioocaaGreat
open Go.RowKit
open Go.Maps (Keyed)
set_option linter.unusedVariables false

theorem stLaid : laidOutB Tryz.prog = true := by kernel_rfl
theorem stRow : (56 : TypeId) < Tryz.prog.types.size := of_decide_eq_true (by kernel_rfl)
theorem stWide : (match Tryz.prog.underlying 56 with | some (.array _ _) | some (.struct _) => true | _ => false) = true := by rw [Tryz.underlying56]
theorem stAt : Tryz.prog.keyTypeAt 2 56 = true := by kernel_rfl
/-- The law of the key type. -/
theorem stKeyed : Keyed Tryz.prog 56 := by
  refine Keyed.of_law (deep_law_laid stLaid (m := 2) ?_ stRow stAt ?_)
  · exact Nat.le_of_ble_eq_true rfl
  · rw [Tryz.underlying56]
theorem stSome : 1 ≤ Tryz.prog.types.size := of_decide_eq_true (by kernel_rfl)
theorem wf64 {t : Int} (h0 : -9223372036854775808 ≤ t) (h1 : t ≤ 9223372036854775807) : (Lit.int .i64 t).wf = true := by
  show (decide (IntKind.i64.min ≤ t) && decide (t ≤ IntKind.i64.max)) = true
  rw [show IntKind.i64.min = -9223372036854775808 by decide, show IntKind.i64.max = 9223372036854775807 by decide, decide_eq_true h0, decide_eq_true h1]
  rfl
theorem stKeyType : Tryz.prog.keyType 56 = true := by kernel_rfl
theorem stCells : Tryz.prog.cellsOf 56 = 2 := by kernel_rfl
theorem intCells : Tryz.prog.cellsOf 3 = 1 := by kernel_rfl
/-- A stamp of numbers that an int holds reads as a key. -/
theorem stKey {t a : Int} (h0 : -9223372036854775808 ≤ t) (h1 : t ≤ 9223372036854775807) (h2 : -9223372036854775808 ≤ a) (h3 : a ≤ 9223372036854775807) : ∃ l, keyOf Tryz.prog 56 (.agg #[.int .i64 t, .int .i64 a]) = some l := by
  have wt := wf64 h0 h1
  have wa := wf64 h2 h3
  obtain ⟨m, hm⟩ : ∃ m, Tryz.prog.types.size = m + 1 := ⟨_, (Nat.sub_add_cancel stSome).symm⟩
  unfold keyOf
  rw [Tryz.underlying56]
  simp only
  rw [if_pos (by simp [stKeyType, Value.formed, Tryz.underlying56, stCells]), hm]
  simp [Program.keyLits, Tryz.underlying56, Tryz.underlying3, stCells, intCells, Value.cells, wt, wa]

end Go.Proofs.YtfnlnigeaioocaaGreat
