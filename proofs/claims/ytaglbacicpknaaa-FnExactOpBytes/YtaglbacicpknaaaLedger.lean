/- The code's ledger: where it lies, and what isNext, suits and put do. -/
import Derived.Test.YtaglbacicpknaaaOpBase
import Derived.Deep.AppendLies
import Derived.BigQuiet
namespace Go.Proofs.Ytaglbacicpknaaa
open Go.RowKit
set_option linter.unusedVariables false

/-- What an object is by the kind of operation. -/
def thOf (k : Int) : Int := if k = 3 then 2 else k
/-- The cells of operations, one behind the other. -/
def rowCs (L : List Ov) : List Value := (L.map Ov.cs).flatten
theorem rowCs_len (L : List Ov) : (rowCs L).length = L.length * 12 := by
  induction L with
  | nil => rfl
  | cons x L ih => simp only [rowCs, List.map_cons, List.flatten_cons, List.length_append, List.length_cons] at ih ⊢; rw [ih]; simp [Ov.cs]; omega
theorem rowCs_app (L M : List Ov) : rowCs (L ++ M) = rowCs L ++ rowCs M := by simp [rowCs]
/-- The operations of an actor. -/
def byA (P : List Ov) (a : Nat) : List Ov := P.filter fun x => decide (x.a = (a : Int))
/-- What each object is. -/
def tsOf (P : List Ov) : List Int := P.foldl (fun ts x => ts.set x.o.toNat (thOf x.k)) (List.replicate 101 0)
theorem tsOf_len (P : List Ov) : (tsOf P).length = 101 := by
  unfold tsOf
  generalize hts : List.replicate 101 (0 : Int) = ts
  have h : ts.length = 101 := by rw [← hts]; simp
  clear hts
  induction P generalizing ts with
  | nil => exact h
  | cons x P ih => exact ih _ (by simp [h])
theorem tsOf_snoc (P : List Ov) (x : Ov) : tsOf (P ++ [x]) = (tsOf P).set x.o.toNat (thOf x.k) := by simp [tsOf]
theorem byA_snoc (P : List Ov) (x : Ov) (a : Nat) : byA (P ++ [x]) a = if x.a = (a : Int) then byA P a ++ [x] else byA P a := by
  unfold byA
  rw [List.filter_append]
  by_cases h : x.a = (a : Int) <;> simp [h]
/-- The ledger's cells. -/
def ledCs (vs : List Value) (P : List Ov) : List Value := vs ++ ((tsOf P).map (Value.int .i64) ++ [.int .i64 (P.length : Int)])
theorem ledCs_len {vs : List Value} {P : List Ov} (h : vs.length = 16) : (ledCs vs P).length = 118 := by simp [ledCs, h, tsOf_len]
theorem led_vs {vs : List Value} {P : List Ov} (h : vs.length = 16) {a : Nat} (ha : a < 16) : (ledCs vs P)[a]? = some (vs.getD a undef) := by
  unfold ledCs
  rw [List.getElem?_append_left (by omega), List.getD_eq_getElem?_getD, List.getElem?_eq_getElem (by omega)]
  rfl
theorem led_ts {vs : List Value} {P : List Ov} (h : vs.length = 16) {j : Nat} (hj : j < 101) : (ledCs vs P)[16 + j]? = some (.int .i64 ((tsOf P).getD j 0)) := by
  unfold ledCs
  rw [List.getElem?_append_right (by omega), List.getElem?_append_left (by simp [tsOf_len]; omega), List.getElem?_map, h, Nat.add_sub_cancel_left, List.getD_eq_getElem?_getD, List.getElem?_eq_getElem (by rw [tsOf_len]; omega)]
  rfl
theorem led_sz {vs : List Value} {P : List Ov} (h : vs.length = 16) : (ledCs vs P)[117]? = some (.int .i64 (P.length : Int)) := by
  unfold ledCs
  rw [List.getElem?_append_right (by omega), List.getElem?_append_right (by simp [tsOf_len, h])]
  simp [h, tsOf_len]

theorem owns_on {w w' : World} {C B : Nat} {e : TypeId} {s n : Nat} {v : Value} {xs : List Value} (h : w.ownsRow B e s v n xs) (hb : Below C w w') (hc : w.heap.size ≤ C) : w'.ownsRow B e s v n xs := by
  obtain ⟨h1, h2⟩ := h
  refine ⟨h1, ?_⟩
  rcases h2 with h2 | ⟨g, cap, cur, rfl, hg, hh, r⟩
  · exact .inl h2
  · have hl : g < w.heap.size := (Array.getElem?_eq_some_iff.1 hh).1
    exact .inr ⟨g, cap, cur, rfl, hg, (hb.block g (by omega)).trans hh, r⟩
theorem own_full {w : World} {g : Nat} {T : TypeId} {cs : List Value} (h : w.heap[g]? = some (.cells cs.toArray T (0, 0))) (hm : cs.length ≤ maxLen) : Own T w g (.slice (some ⟨g, 0, none⟩) cs.length cs.length) cs :=
  ⟨by simp, .inr ⟨g, cs.length, cs.toArray, rfl, Nat.le_refl _, h, Nat.le_refl _, hm, by simp, by simp⟩⟩
theorem full_own {w : World} {g B n : Nat} {T : TypeId} {cs : List Value} (h : Own T w B (.slice (some ⟨g, 0, none⟩) n n) cs) (hn : cs.length = n) : w.heap[g]? = some (.cells cs.toArray T (0, 0)) := by
  obtain ⟨h1, h2⟩ := h
  rcases h2 with ⟨hv, _⟩ | ⟨g', cap, cur, hv, _, hh, _, _, hs, ht⟩
  · simp at hv
  · simp only [Value.slice.injEq, Option.some.injEq, Addr.mk.injEq, and_true] at hv
    obtain ⟨rfl, e1, rfl⟩ := hv
    rw [hh]
    have : cur = cs.toArray := by
      apply Array.ext'
      rw [← ht, List.take_of_length_le (by rw [Array.length_toList]; omega)]
    rw [this]
theorem cs_one (x : Ov) (hd : x.dv.oneCell' = true) : ∀ u ∈ x.cs, u.oneCell' = true := by
  intro u hu
  simp only [Ov.cs, List.mem_cons, List.not_mem_nil, or_false] at hu
  rcases hu with rfl | rfl | rfl | rfl | rfl | rfl | rfl | rfl | rfl | rfl | rfl | rfl
  all_goals first | exact hd | rfl

end Go.Proofs.Ytaglbacicpknaaa
