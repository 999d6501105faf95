/- The code's ledger: where it lies, and what isNext, suits and put do. The code's ledger: what put does. The code's ledger: what hasCauses answers. The specification's l08Counts: how many operations of each actor there are. Operations in a row of the call's own can be read. The specification's l08Find: the place of an actor's operation in a log whose operations of each actor stand together. -/
import Derived.Deep.AppendLies
import Derived.BigQuiet
import Derived.Test.YtcjlihfkibpgoaaGreatDoorQOpComesToOpSpecBase
import Derived.Test.YtcjlihfkibpgoaaGreatDoorQTakeKitToBigKit
import Derived.Test.YtcjlihfkibpgoaaGreatDoorQOpOK
namespace Go.Proofs.YtcjlihfkibpgoaaGreatDoor
open Go.RowKit
set_option linter.unusedVariables false

/-- What an object is by the kind of operation. -/
def thOf (k : Int) : Int := if k = 3 then 2 else k
/-- The cells of operations, one behind the other. -/
def rowCs (L : List Ov) : List Value := (L.map Ov.cs).flatten
theorem rowCs_len (L : List Ov) : (rowCs L).length = L.length * 12 := by
  induction L with
  | nil => rfl
  | cons x L ih => simp only [rowCs, List.map_cons, List.flatten_cons, List.length_append, List.length_cons] at ih ⊢; rw [ih]; simp [Ov.cs]; omega
theorem rowCs_app (L M : List Ov) : rowCs (L ++ M) = rowCs L ++ rowCs M := by simp [rowCs]
/-- The operations of an actor. -/
def byA (P : List Ov) (a : Nat) : List Ov := P.filter fun x => decide (x.a = (a : Int))
/-- What each object is. -/
def tsOf (P : List Ov) : List Int := P.foldl (fun ts x => ts.set x.o.toNat (thOf x.k)) (List.replicate 101 0)
theorem tsOf_len (P : List Ov) : (tsOf P).length = 101 := by
  unfold tsOf
  generalize hts : List.replicate 101 (0 : Int) = ts
  have h : ts.length = 101 := by rw [← hts]; simp
  clear hts
  induction P generalizing ts with
  | nil => exact h
  | cons x P ih => exact ih _ (by simp [h])
theorem tsOf_snoc (P : List Ov) (x : Ov) : tsOf (P ++ [x]) = (tsOf P).set x.o.toNat (thOf x.k) := by simp [tsOf]
theorem byA_snoc (P : List Ov) (x : Ov) (a : Nat) : byA (P ++ [x]) a = if x.a = (a : Int) then byA P a ++ [x] else byA P a := by
  unfold byA
  rw [List.filter_append]
  by_cases h : x.a = (a : Int) <;> simp [h]
/-- The ledger's cells. -/
def ledCs (vs : List Value) (P : List Ov) : List Value := vs ++ ((tsOf P).map (Value.int .i64) ++ [.int .i64 (P.length : Int)])
theorem ledCs_len {vs : List Value} {P : List Ov} (h : vs.length = 16) : (ledCs vs P).length = 118 := by simp [ledCs, h, tsOf_len]
theorem led_vs {vs : List Value} {P : List Ov} (h : vs.length = 16) {a : Nat} (ha : a < 16) : (ledCs vs P)[a]? = some (vs.getD a undef) := by
  unfold ledCs
  rw [List.getElem?_append_left (by omega), List.getD_eq_getElem?_getD, List.getElem?_eq_getElem (by omega)]
  rfl
theorem led_ts {vs : List Value} {P : List Ov} (h : vs.length = 16) {j : Nat} (hj : j < 101) : (ledCs vs P)[16 + j]? = some (.int .i64 ((tsOf P).getD j 0)) := by
  unfold ledCs
  rw [List.getElem?_append_right (by omega), List.getElem?_append_left (by simp [tsOf_len]; omega), List.getElem?_map, h, Nat.add_sub_cancel_left, List.getD_eq_getElem?_getD, List.getElem?_eq_getElem (by rw [tsOf_len]; omega)]
  rfl
theorem led_sz {vs : List Value} {P : List Ov} (h : vs.length = 16) : (ledCs vs P)[117]? = some (.int .i64 (P.length : Int)) := by
  unfold ledCs
  rw [List.getElem?_append_right (by omega), List.getElem?_append_right (by simp [tsOf_len, h])]
  simp [h, tsOf_len]

theorem owns_on {w w' : World} {C B : Nat} {e : TypeId} {s n : Nat} {v : Value} {xs : List Value} (h : w.ownsRow B e s v n xs) (hb : Below C w w') (hc : w.heap.size ≤ C) : w'.ownsRow B e s v n xs := by
  obtain ⟨h1, h2⟩ := h
  refine ⟨h1, ?_⟩
  rcases h2 with h2 | ⟨g, cap, cur, rfl, hg, hh, r⟩
  · exact .inl h2
  · have hl : g < w.heap.size := (Array.getElem?_eq_some_iff.1 hh).1
    exact .inr ⟨g, cap, cur, rfl, hg, (hb.block g (by omega)).trans hh, r⟩
theorem own_full {w : World} {g : Nat} {T : TypeId} {cs : List Value} (h : w.heap[g]? = some (.cells cs.toArray T (0, 0))) (hm : cs.length ≤ maxLen) : Own T w g (.slice (some ⟨g, 0, none⟩) cs.length cs.length) cs :=
  ⟨by simp, .inr ⟨g, cs.length, cs.toArray, rfl, Nat.le_refl _, h, Nat.le_refl _, hm, by simp, by simp⟩⟩
theorem full_own {w : World} {g B n : Nat} {T : TypeId} {cs : List Value} (h : Own T w B (.slice (some ⟨g, 0, none⟩) n n) cs) (hn : cs.length = n) : w.heap[g]? = some (.cells cs.toArray T (0, 0)) := by
  obtain ⟨h1, h2⟩ := h
  rcases h2 with ⟨hv, _⟩ | ⟨g', cap, cur, hv, _, hh, _, _, hs, ht⟩
  · simp at hv
  · simp only [Value.slice.injEq, Option.some.injEq, Addr.mk.injEq, and_true] at hv
    obtain ⟨rfl, e1, rfl⟩ := hv
    rw [hh]
    have : cur = cs.toArray := by
      apply Array.ext'
      rw [← ht, List.take_of_length_le (by rw [Array.length_toList]; omega)]
    rw [this]
theorem cs_one (x : Ov) (hd : x.dv.oneCell' = true) : ∀ u ∈ x.cs, u.oneCell' = true := by
  intro u hu
  simp only [Ov.cs, List.mem_cons, List.not_mem_nil, or_false] at hu
  rcases hu with rfl | rfl | rfl | rfl | rfl | rfl | rfl | rfl | rfl | rfl | rfl | rfl
  all_goals first | exact hd | rfl

end Go.Proofs.YtcjlihfkibpgoaaGreatDoor

namespace Go.Proofs.YtcjlihfkibpgoaaGreatDoor
open Go.RowKit
set_option linter.unusedVariables false

theorem infoOp : (Tryz.prog.info? 41).map (fun i => (i.zero, i.size, i.bytes)) = some (some (.agg #[.int .i64 0, .int .i64 0, .int .i64 0, .slice none 0 0, .int .i64 0, .int .i64 0, .int .i64 0, .int .i64 0, .int .i64 0, .int .i64 0, .string ByteArray.empty, .string ByteArray.empty]), 12, 128) := by kernel_rfl
theorem blk_cell {w : World} {g : Nat} {cs : Array Value} {T : TypeId} (h : w.heap[g]? = some (.cells cs T (0, 0))) (k : Nat) {v : Value} (hk : cs[k]? = some v) : w.cell? ⟨g, k, none⟩ = some v := by
  unfold World.cell?
  rw [show w.heap[(⟨g, k, none⟩ : Addr).block]? = some (.cells cs T (0, 0)) from h]
  exact hk
theorem blk_free {w : World} {g : Nat} {cs : Array Value} {T : TypeId} (h : w.heap[g]? = some (.cells cs T (0, 0))) (k : Nat) : w.frozen? ⟨g, k, none⟩ = false := by
  unfold World.frozen?
  rw [show w.heap[(⟨g, k, none⟩ : Addr).block]? = some (.cells cs T (0, 0)) from h]
  simp
theorem own_at {w : World} {T : TypeId} {B g n cap : Nat} {cs : List Value} (h : Own T w B (.slice (some ⟨g, 0, none⟩) n cap) cs) {k : Nat} {v : Value} (hk : cs[k]? = some v) : w.cell? ⟨g, k, none⟩ = some v := by
  obtain ⟨h1, h2⟩ := List.getElem?_eq_some_iff.1 hk
  rw [own_cell h h1, h2]
theorem owns_blk {w w' : World} {B : Nat} {e : TypeId} {s n g c m : Nat} {xs : List Value} (h : w.ownsRow B e s (.slice (some ⟨g, 0, none⟩) m c) n xs) (hb : w'.heap[g]? = w.heap[g]?) : w'.ownsRow B e s (.slice (some ⟨g, 0, none⟩) m c) n xs := by
  obtain ⟨h1, h2⟩ := h
  refine ⟨h1, ?_⟩
  rcases h2 with h2 | ⟨g', cap, cur, hv, hg, hh, r⟩
  · exact .inl h2
  · simp only [Value.slice.injEq, Option.some.injEq, Addr.mk.injEq, and_true] at hv
    obtain ⟨rfl, rfl, rfl⟩ := hv
    exact .inr ⟨g, c, cur, rfl, hg, hb.trans hh, r⟩
theorem owns_all {w w' : World} {B : Nat} {e : TypeId} {s n : Nat} {v : Value} {xs : List Value} (h : w.ownsRow B e s v n xs) (hb : ∀ k, v.ownBlock = some k → w'.heap[k]? = w.heap[k]?) : w'.ownsRow B e s v n xs := by
  obtain ⟨h1, h2⟩ := h
  refine ⟨h1, ?_⟩
  rcases h2 with h2 | ⟨g', cap, cur, rfl, hg, hh, r⟩
  · exact .inl h2
  · exact .inr ⟨g', cap, cur, rfl, hg, (hb g' rfl).trans hh, r⟩
theorem led_set {vs : List Value} {P : List Ov} {x : Ov} {a j : Nat} {v : Value} (h : vs.length = 16) (ha : a < 16) (hj : j < 101) (hx : x.o = (j : Int)) :
    ((((ledCs vs P).set a v).set (16 + j) (.int .i64 (thOf x.k))).set 117 (.int .i64 ((P.length : Int) + 1))) = ledCs (vs.set a v) (P ++ [x]) := by
  unfold ledCs
  have e1 : (vs ++ ((tsOf P).map (Value.int .i64) ++ [Value.int .i64 (P.length : Int)])).set a v = vs.set a v ++ ((tsOf P).map (Value.int .i64) ++ [Value.int .i64 (P.length : Int)]) := by rw [List.set_append_left _ _ (by omega)]
  have e2 : ∀ (us : List Value), us.length = 16 → (us ++ ((tsOf P).map (Value.int .i64) ++ [Value.int .i64 (P.length : Int)])).set (16 + j) (.int .i64 (thOf x.k)) = us ++ (((tsOf P).set j (thOf x.k)).map (Value.int .i64) ++ [Value.int .i64 (P.length : Int)]) := by
    intro us hu
    rw [List.set_append_right _ _ (by omega), show 16 + j - us.length = j by omega, List.set_append_left _ _ (by simp [tsOf_len]; omega), List.map_set]
  have e3 : ∀ (us : List Value) (ts : List Int), us.length = 16 → ts.length = 101 → (us ++ (ts.map (Value.int .i64) ++ [Value.int .i64 (P.length : Int)])).set 117 (.int .i64 ((P.length : Int) + 1)) = us ++ (ts.map (Value.int .i64) ++ [Value.int .i64 ((P.length : Int) + 1)]) := by
    intro us ts hu ht
    rw [List.set_append_right _ _ (by omega), List.set_append_right _ _ (by simp; omega), show 117 - us.length - (List.map (Value.int .i64) ts).length = 0 by simp; omega]
    rfl
  rw [e1, e2 _ (by simp [h]), e3 _ _ (by simp [h]) (by simp [tsOf_len]), tsOf_snoc, hx, Int.toNat_natCast]
  simp

end Go.Proofs.YtcjlihfkibpgoaaGreatDoor

namespace Go.Proofs.YtcjlihfkibpgoaaGreatDoor
open Go.RowKit
set_option linter.unusedVariables false

/-- What the operation x counts of actor a is there, and below it. -/
def causeOK (P : List Ov) (x : Ov) (a : Nat) : Bool := decide (x.ds.getD a 0 ≤ ((byA P a).length : Int)) && (decide (x.ds.getD a 0 ≤ 0) || lessS (ovAt (byA P a) (x.ds.getD a 0 - 1).toNat).t (ovAt (byA P a) (x.ds.getD a 0 - 1).toNat).a x.t x.a)
def causesB (P : List Ov) (x : Ov) : Bool := (List.range 16).all (causeOK P x)
theorem rowCs_at : ∀ (L : List Ov) (k i : Nat), k < L.length → i < 12 → (rowCs L)[k * 12 + i]? = (ovAt L k).cs[i]? := by
  intro L
  induction L with
  | nil => intro k i h; simp at h
  | cons y L ih =>
    intro k i h hi
    have e : rowCs (y :: L) = y.cs ++ rowCs L := by simp [rowCs]
    have l12 : y.cs.length = 12 := rfl
    rw [e]
    cases k with
    | zero => rw [List.getElem?_append_left (by omega)]; simp [ovAt]
    | succ k =>
      rw [List.getElem?_append_right (by omega), show (k + 1) * 12 + i - y.cs.length = k * 12 + i by omega, ih k i (by simpa using h) hi]
      rfl
theorem row_at {w : World} {B g n cap : Nat} {L : List Ov} (h : w.ownsRow B 41 12 (.slice (some ⟨g, 0, none⟩) n cap) L.length (rowCs L)) {k : Nat} (hk : k < L.length) : OpAt w g (k * 12) (ovAt L k) := by
  obtain ⟨h1, h2⟩ := h
  rcases h2 with ⟨hv, _⟩ | ⟨g', cap', cur, hv, _, hh, _, _, hs, ht⟩
  · simp at hv
  · simp only [Value.slice.injEq, Option.some.injEq, Addr.mk.injEq, and_true] at hv
    obtain ⟨rfl, rfl, rfl⟩ := hv
    have cell : ∀ i, i < 12 → w.cell? ⟨g, k * 12 + i, none⟩ = (ovAt L k).cs[i]? := fun i hi => by
      rw [← rowCs_at L k i hk hi, ← ht, List.getElem?_take_of_lt (by omega)]
      unfold World.cell?
      rw [show w.heap[(⟨g, k * 12 + i, none⟩ : Addr).block]? = some (.cells cur 41 (0, 0)) from hh]
      simp
    exact ⟨cell 0 (by omega), cell 1 (by omega), cell 2 (by omega), cell 3 (by omega), cell 4 (by omega), cell 5 (by omega), cell 6 (by omega), cell 7 (by omega), cell 8 (by omega), cell 9 (by omega), cell 10 (by omega), cell 11 (by omega)⟩

end Go.Proofs.YtcjlihfkibpgoaaGreatDoor

namespace Go.Proofs.YtcjlihfkibpgoaaGreatDoor
open Go.RowKit
set_option linter.unusedVariables false

/-- How many operations of each actor there are. -/
def cnts (P : List Ov) : List Int := (List.range 16).map fun a => ((byA P a).length : Int)
theorem cnts_len (P : List Ov) : (cnts P).length = 16 := by simp [cnts]
theorem cnts_at (P : List Ov) {a : Nat} (h : a < 16) : (cnts P)[a]? = some ((byA P a).length : Int) := by simp [cnts, h]
theorem cnts_snoc (P : List Ov) (x : Ov) {a : Nat} (hx : x.a = (a : Int)) (h : a < 16) : cnts (P ++ [x]) = (cnts P).set a (((byA P a).length : Int) + 1) := by
  apply List.ext_getElem?
  intro b
  by_cases hb : b < 16
  · rw [cnts_at _ hb, byA_snoc]
    by_cases e : b = a
    · subst e
      rw [if_pos hx, List.getElem?_set_self (by rw [cnts_len]; exact h)]
      simp
    · rw [if_neg (by rw [hx]; omega), List.getElem?_set_ne (by omega), cnts_at _ hb]
  · rw [List.getElem?_eq_none (by rw [cnts_len]; omega), List.getElem?_eq_none (by rw [List.length_set, cnts_len]; omega)]

end Go.Proofs.YtcjlihfkibpgoaaGreatDoor

namespace Go.Proofs.YtcjlihfkibpgoaaGreatDoor
open Go.RowKit
set_option linter.unusedVariables false

theorem owns_rdO {w : World} {B : Nat} {v : Value} {M : List Ov} (h : w.ownsRow B 41 12 v M.length (rowCs M)) (hd : ∀ x ∈ M, Rd w.heap.size w x.dv (x.ds.map (Value.int .i64))) : RdO w.heap.size w v M := by
  have h' := h
  obtain ⟨h1, h2⟩ := h
  rcases h2 with ⟨hv, hn⟩ | ⟨g, cap, cur, hv, hg, hh, hle, hm, hs, ht⟩
  · subst hv
    refine ⟨⟨none, 0, by rw [hn], by omega, by unfold maxLen; omega, fun _ => rfl, fun hp => absurd hp (by omega)⟩, hd⟩
  · subst hv
    exact ⟨⟨_, cap, rfl, hle, hm, fun e => (by cases e), fun hp => ⟨g, 0, rfl, (Array.getElem?_eq_some_iff.1 hh).1, fun k hk => by rw [Nat.zero_add]; exact row_at h' hk⟩⟩, hd⟩
end Go.Proofs.YtcjlihfkibpgoaaGreatDoor

namespace Go.Proofs.YtcjlihfkibpgoaaGreatDoor
open Go.RowKit
set_option linter.unusedVariables false

/-- The operations of actor a stand together, from place i on. -/
structure Stand (L : List Ov) (a i : Nat) : Prop where
  no : ∀ q, q < i → (ovAt L q).a ≠ (a : Int)
  yes : ∀ q, q < (byA L a).length → ovAt L (i + q) = ovAt (byA L a) q ∧ (ovAt L (i + q)).a = (a : Int)
  fit : i + (byA L a).length ≤ L.length

end Go.Proofs.YtcjlihfkibpgoaaGreatDoor
