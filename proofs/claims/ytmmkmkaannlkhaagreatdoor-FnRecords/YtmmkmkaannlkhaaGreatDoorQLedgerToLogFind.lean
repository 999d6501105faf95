/- The code's ledger: where it lies, and what isNext, suits and put do. The code's ledger: what put does. The code's ledger: what hasCauses answers. The specification's l08Counts: how many operations of each actor there are. Operations in a row of the call's own can be read. The specification's l08Find: the place of an actor's operation in a log whose operations of each actor stand together. -/
import Derived.Deep.AppendLies
import Derived.BigQuiet
import Derived.Test.YtmmkmkaannlkhaaGreatDoorQOpComesToOpSpecBase
import Derived.Test.YtmmkmkaannlkhaaGreatDoorQTakeKitToBigKit
import Derived.Test.YtmmkmkaannlkhaaGreatDoorQOpOKToUndoDef
namespace Go.Proofs.YtmmkmkaannlkhaaGreatDoor
open Go.RowKit
set_option linter.unusedVariables false

/-- What an object is by the kind of operation. -/
def thOf (k : Int) : Int := if k = 3 then 2 else k
/-- The cells of operations, one behind the other. -/
def rowCs (L : List Ov) : List Value := (L.map Ov.cs).flatten
theorem rowCs_len (L : List Ov) : (rowCs L).length = L.length * 12 := by
  induction L with
  | nil => rfl
  | cons x L ih => simp only [rowCs, List.map_cons, List.flatten_cons, List.length_append, List.length_cons] at ih ⊢; rw [ih]; simp [Ov.cs]; omega
theorem rowCs_app (L M : List Ov) : rowCs (L ++ M) = rowCs L ++ rowCs M := by simp [rowCs]
/-- The operations of an actor. -/
def byA (P : List Ov) (a : Nat) : List Ov := P.filter fun x => decide (x.a = (a : Int))
/-- What each object is. -/
def tsOf (P : List Ov) : List Int := P.foldl (fun ts x => ts.set x.o.toNat (thOf x.k)) (List.replicate 101 0)
theorem tsOf_len (P : List Ov) : (tsOf P).length = 101 := by
  unfold tsOf
  generalize hts : List.replicate 101 (0 : Int) = ts
  have h : ts.length = 101 := by rw [← hts]; simp
  clear hts
  induction P generalizing ts with
  | nil => exact h
  | cons x P ih => exact ih _ (by simp [h])
theorem tsOf_snoc (P : List Ov) (x : Ov) : tsOf (P ++ [x]) = (tsOf P).set x.o.toNat (thOf x.k) := by simp [tsOf]
theorem byA_snoc (P : List Ov) (x : Ov) (a : Nat) : byA (P ++ [x]) a = if x.a = (a : Int) then byA P a ++ [x] else byA P a := by
  unfold byA
  rw [List.filter_append]
  by_cases h : x.a = (a : Int) <;> simp [h]
/-- The ledger's cells. -/
def ledCs (vs : List Value) (P : List Ov) : List Value := vs ++ ((tsOf P).map (Value.int .i64) ++ [.int .i64 (P.length : Int)])
theorem ledCs_len {vs : List Value} {P : List Ov} (h : vs.length = 16) : (ledCs vs P).length = 118 := by simp [ledCs, h, tsOf_len]
theorem led_vs {vs : List Value} {P : List Ov} (h : vs.length = 16) {a : Nat} (ha : a < 16) : (ledCs vs P)[a]? = some (vs.getD a undef) := by
  unfold ledCs
  rw [List.getElem?_append_left (by omega), List.getD_eq_getElem?_getD, List.getElem?_eq_getElem (by omega)]
  rfl
theorem led_ts {vs : List Value} {P : List Ov} (h : vs.length = 16) {j : Nat} (hj : j < 101) : (ledCs vs P)[16 + j]? = some (.int .i64 ((tsOf P).getD j 0)) := by
  unfold ledCs
  rw [List.getElem?_append_right (by omega), List.getElem?_append_left (by simp [tsOf_len]; omega), List.getElem?_map, h, Nat.add_sub_cancel_left, List.getD_eq_getElem?_getD, List.getElem?_eq_getElem (by rw [tsOf_len]; omega)]
  rfl
theorem led_sz {vs : List Value} {P : List Ov} (h : vs.length = 16) : (ledCs vs P)[117]? = some (.int .i64 (P.length : Int)) := by
  unfold ledCs
  rw [List.getElem?_append_right (by omega), List.getElem?_append_right (by simp [tsOf_len, h])]
  simp [h, tsOf_len]

theorem owns_on {w w' : World} {C B : Nat} {e : TypeId} {s n : Nat} {v : Value} {xs : List Value} (h : w.ownsRow B e s v n xs) (hb : Below C w w') (hc : w.heap.size ≤ C) : w'.ownsRow B e s v n xs := by
  obtain ⟨h1, h2⟩ := h
  refine ⟨h1, ?_⟩
  rcases h2 with h2 | ⟨g, cap, cur, rfl, hg, hh, r⟩
  · exact .inl h2
  · have hl : g < w.heap.size := (Array.getElem?_eq_some_iff.1 hh).1
    exact .inr ⟨g, cap, cur, rfl, hg, (hb.block g (by omega)).trans hh, r⟩
theorem own_full {w : World} {g : Nat} {T : TypeId} {cs : List Value} (h : w.heap[g]? = some (.cells cs.toArray T (0, 0))) (hm : cs.length ≤ maxLen) : Own T w g (.slice (some ⟨g, 0, none⟩) cs.length cs.length) cs :=
  ⟨by simp, .inr ⟨g, cs.length, cs.toArray, rfl, Nat.le_refl _, h, Nat.le_refl _, hm, by simp, by simp⟩⟩
theorem full_own {w : World} {g B n : Nat} {T : TypeId} {cs : List Value} (h : Own T w B (.slice (some ⟨g, 0, none⟩) n n) cs) (hn : cs.length = n) : w.heap[g]? = some (.cells cs.toArray T (0, 0)) := by
  obtain ⟨h1, h2⟩ := h
  rcases h2 with ⟨hv, _⟩ | ⟨g', cap, cur, hv, _, hh, _, _, hs, ht⟩
  · simp at hv
  · simp only [Value.slice.injEq, Option.some.injEq, Addr.mk.injEq, and_true] at hv
    obtain ⟨rfl, e1, rfl⟩ := hv
    rw [hh]
    have : cur = cs.toArray := by
      apply Array.ext'
      rw [← ht, List.take_of_length_le (by rw [Array.length_toList]; omega)]
    rw [this]
theorem cs_one (x : Ov) (hd : x.dv.oneCell' = true) : ∀ u ∈ x.cs, u.oneCell' = true := by
  intro u hu
  simp only [Ov.cs, List.mem_cons, List.not_mem_nil, or_false] at hu
  rcases hu with rfl | rfl | rfl | rfl | rfl | rfl | rfl | rfl | rfl | rfl | rfl | rfl
  all_goals first | exact hd | rfl

end Go.Proofs.YtmmkmkaannlkhaaGreatDoor

namespace Go.Proofs.YtmmkmkaannlkhaaGreatDoor
open Go.RowKit
set_option linter.unusedVariables false

theorem infoOp : (Tryz.prog.info? 29).map (fun i => (i.zero, i.size, i.bytes)) = some (some (.agg #[.int .i64 0, .int .i64 0, .int .i64 0, .slice none 0 0, .int .i64 0, .int .i64 0, .int .i64 0, .int .i64 0, .int .i64 0, .int .i64 0, .string ByteArray.empty, .string ByteArray.empty]), 12, 128) := by kernel_rfl
theorem blk_cell {w : World} {g : Nat} {cs : Array Value} {T : TypeId} (h : w.heap[g]? = some (.cells cs T (0, 0))) (k : Nat) {v : Value} (hk : cs[k]? = some v) : w.cell? ⟨g, k, none⟩ = some v := by
  unfold World.cell?
  rw [show w.heap[(⟨g, k, none⟩ : Addr).block]? = some (.cells cs T (0, 0)) from h]
  exact hk
theorem blk_free {w : World} {g : Nat} {cs : Array Value} {T : TypeId} (h : w.heap[g]? = some (.cells cs T (0, 0))) (k : Nat) : w.frozen? ⟨g, k, none⟩ = false := by
  unfold World.frozen?
  rw [show w.heap[(⟨g, k, none⟩ : Addr).block]? = some (.cells cs T (0, 0)) from h]
  simp
theorem own_at {w : World} {T : TypeId} {B g n cap : Nat} {cs : List Value} (h : Own T w B (.slice (some ⟨g, 0, none⟩) n cap) cs) {k : Nat} {v : Value} (hk : cs[k]? = some v) : w.cell? ⟨g, k, none⟩ = some v := by
  obtain ⟨h1, h2⟩ := List.getElem?_eq_some_iff.1 hk
  rw [own_cell h h1, h2]
theorem owns_blk {w w' : World} {B : Nat} {e : TypeId} {s n g c m : Nat} {xs : List Value} (h : w.ownsRow B e s (.slice (some ⟨g, 0, none⟩) m c) n xs) (hb : w'.heap[g]? = w.heap[g]?) : w'.ownsRow B e s (.slice (some ⟨g, 0, none⟩) m c) n xs := by
  obtain ⟨h1, h2⟩ := h
  refine ⟨h1, ?_⟩
  rcases h2 with h2 | ⟨g', cap, cur, hv, hg, hh, r⟩
  · exact .inl h2
  · simp only [Value.slice.injEq, Option.some.injEq, Addr.mk.injEq, and_true] at hv
    obtain ⟨rfl, rfl, rfl⟩ := hv
    exact .inr ⟨g, c, cur, rfl, hg, hb.trans hh, r⟩
theorem owns_all {w w' : World} {B : Nat} {e : TypeId} {s n : Nat} {v : Value} {xs : List Value} (h : w.ownsRow B e s v n xs) (hb : ∀ k, v.ownBlock = some k → w'.heap[k]? = w.heap[k]?) : w'.ownsRow B e s v n xs := by
  obtain ⟨h1, h2⟩ := h
  refine ⟨h1, ?_⟩
  rcases h2 with h2 | ⟨g', cap, cur, rfl, hg, hh, r⟩
  · exact .inl h2
  · exact .inr ⟨g', cap, cur, rfl, hg, (hb g' rfl).trans hh, r⟩
theorem led_set {vs : List Value} {P : List Ov} {x : Ov} {a j : Nat} {v : Value} (h : vs.length = 16) (ha : a < 16) (hj : j < 101) (hx : x.o = (j : Int)) :
    ((((ledCs vs P).set a v).set (16 + j) (.int .i64 (thOf x.k))).set 117 (.int .i64 ((P.length : Int) + 1))) = ledCs (vs.set a v) (P ++ [x]) := by
  unfold ledCs
  have e1 : (vs ++ ((tsOf P).map (Value.int .i64) ++ [Value.int .i64 (P.length : Int)])).set a v = vs.set a v ++ ((tsOf P).map (Value.int .i64) ++ [Value.int .i64 (P.length : Int)]) := by rw [List.set_append_left _ _ (by omega)]
  have e2 : ∀ (us : List Value), us.length = 16 → (us ++ ((tsOf P).map (Value.int .i64) ++ [Value.int .i64 (P.length : Int)])).set (16 + j) (.int .i64 (thOf x.k)) = us ++ (((tsOf P).set j (thOf x.k)).map (Value.int .i64) ++ [Value.int .i64 (P.length : Int)]) := by
    intro us hu
    rw [List.set_append_right _ _ (by omega), show 16 + j - us.length = j by omega, List.set_append_left _ _ (by simp [tsOf_len]; omega), List.map_set]
  have e3 : ∀ (us : List Value) (ts : List Int), us.length = 16 → ts.length = 101 → (us ++ (ts.map (Value.int .i64) ++ [Value.int .i64 (P.length : Int)])).set 117 (.int .i64 ((P.length : Int) + 1)) = us ++ (ts.map (Value.int .i64) ++ [Value.int .i64 ((P.length : Int) + 1)]) := by
    intro us ts hu ht
    rw [List.set_append_right _ _ (by omega), List.set_append_right _ _ (by simp; omega), show 117 - us.length - (List.map (Value.int .i64) ts).length = 0 by simp; omega]
    rfl
  rw [e1, e2 _ (by simp [h]), e3 _ _ (by simp [h]) (by simp [tsOf_len]), tsOf_snoc, hx, Int.toNat_natCast]
  simp

end Go.Proofs.YtmmkmkaannlkhaaGreatDoor

namespace Go.Proofs.YtmmkmkaannlkhaaGreatDoor
open Go.RowKit
set_option linter.unusedVariables false

/-- What the operation x counts of actor a is there, and below it. -/
def causeOK (P : List Ov) (x : Ov) (a : Nat) : Bool := decide (x.ds.getD a 0 ≤ ((byA P a).length : Int)) && (decide (x.ds.getD a 0 ≤ 0) || lessS (ovAt (byA P a) (x.ds.getD a 0 - 1).toNat).t (ovAt (byA P a) (x.ds.getD a 0 - 1).toNat).a x.t x.a)
def causesB (P : List Ov) (x : Ov) : Bool := (List.range 16).all (causeOK P x)
theorem rowCs_at : ∀ (L : List Ov) (k i : Nat), k < L.length → i < 12 → (rowCs L)[k * 12 + i]? = (ovAt L k).cs[i]? := by
  intro L
  induction L with
  | nil => intro k i h; simp at h
  | cons y L ih =>
    intro k i h hi
    have e : rowCs (y :: L) = y.cs ++ rowCs L := by simp [rowCs]
    have l12 : y.cs.length = 12 := rfl
    rw [e]
    cases k with
    | zero => rw [List.getElem?_append_left (by omega)]; simp [ovAt]
    | succ k =>
      rw [List.getElem?_append_right (by omega), show (k + 1) * 12 + i - y.cs.length = k * 12 + i by omega, ih k i (by simpa using h) hi]
      rfl
theorem row_at {w : World} {B g n cap : Nat} {L : List Ov} (h : w.ownsRow B 29 12 (.slice (some ⟨g, 0, none⟩) n cap) L.length (rowCs L)) {k : Nat} (hk : k < L.length) : OpAt w g (k * 12) (ovAt L k) := by
  obtain ⟨h1, h2⟩ := h
  rcases h2 with ⟨hv, _⟩ | ⟨g', cap', cur, hv, _, hh, _, _, hs, ht⟩
  · simp at hv
  · simp only [Value.slice.injEq, Option.some.injEq, Addr.mk.injEq, and_true] at hv
    obtain ⟨rfl, rfl, rfl⟩ := hv
    have cell : ∀ i, i < 12 → w.cell? ⟨g, k * 12 + i, none⟩ = (ovAt L k).cs[i]? := fun i hi => by
      rw [← rowCs_at L k i hk hi, ← ht, List.getElem?_take_of_lt (by omega)]
      unfold World.cell?
      rw [show w.heap[(⟨g, k * 12 + i, none⟩ : Addr).block]? = some (.cells cur 29 (0, 0)) from hh]
      simp
    exact ⟨cell 0 (by omega), cell 1 (by omega), cell 2 (by omega), cell 3 (by omega), cell 4 (by omega), cell 5 (by omega), cell 6 (by omega), cell 7 (by omega), cell 8 (by omega), cell 9 (by omega), cell 10 (by omega), cell 11 (by omega)⟩

end Go.Proofs.YtmmkmkaannlkhaaGreatDoor

namespace Go.Proofs.YtmmkmkaannlkhaaGreatDoor
open Go.RowKit
set_option linter.unusedVariables false

set_option maxHeartbeats 1000000 in
set_option maxRecDepth 100000 in
theorem newO_any (w : World) : Calls Tryz.prog 108 #[] w fun e w' => ∃ g, e = .returned (.agg #[.slice (some ⟨g, 0, none⟩) 16 16]) ∧ Own 3 w' w.heap.size (.slice (some ⟨g, 0, none⟩) 16 16) ((List.replicate 16 0).map (Value.int .i64)) ∧ Below w.heap.size w w' := by
  obtain ⟨i0, hi, hz0, hz1, hz2⟩ := info_parts info3
  go_enter Tryz.func108, Tryz.ntmps108
  go_wp2_with (at_make; refine wpList_make_full _ rfl _ _ 23 rfl (w.heap.size + 1) 3 i0 (.int .i64 0) 1 Tryz.underlying23 hi hz0 hz1 _ _ _ _ 16 rfl rfl rfl rfl (by rw [hz2]; omega) (by unfold maxLen; omega) (by simp) ?_)
  intro w1 hown hgrow
  have ho1 := own_of hown
  rw [toList_madeCells_one] at ho1
  have hk := (hgrow.block w.heap.size (by simp) (by simp)).trans (heap_alloc_new w _)
  have c0 := blk_cell hk 0 rfl
  have f0 := blk_free hk 0
  have hb1 : Below w.heap.size w w1 := (below_alloc w _).grown hgrow (by simp) (fun k hk => by cases hk)
  have ho2 := ho1.apart (grownBy_set w1 w.heap.size 0 (.slice (some ⟨w.heap.size + 1, 0, none⟩) 16 16)) (fun kk hk => by cases hk; omega)
  have hb2 := hb1.setCell (p := ⟨w.heap.size, 0, none⟩) (Nat.le_refl _) (.slice (some ⟨w.heap.size + 1, 0, none⟩) 16 16)
  have q0 : (w1.setCell ⟨w.heap.size, 0, none⟩ (.slice (some ⟨w.heap.size + 1, 0, none⟩) 16 16)).cell? ⟨w.heap.size, 0, none⟩ = some (.slice (some ⟨w.heap.size + 1, 0, none⟩) 16 16) := World.cell?_setCell_same _ _ _ c0
  clear hown hgrow ho1
  go_wp2_with fail
  refine bodyPost_ret (v := .agg #[.slice (some ⟨w.heap.size + 1, 0, none⟩) 16 16]) ?_ rfl ⟨_, rfl, ho2.mono (by omega), hb2⟩
  simp [results, Tryz.results108, go_sem, q0]

/-- How many operations of each actor there are. -/
def cnts (P : List Ov) : List Int := (List.range 16).map fun a => ((byA P a).length : Int)
theorem cnts_len (P : List Ov) : (cnts P).length = 16 := by simp [cnts]
theorem cnts_at (P : List Ov) {a : Nat} (h : a < 16) : (cnts P)[a]? = some ((byA P a).length : Int) := by simp [cnts, h]
theorem cnts_snoc (P : List Ov) (x : Ov) {a : Nat} (hx : x.a = (a : Int)) (h : a < 16) : cnts (P ++ [x]) = (cnts P).set a (((byA P a).length : Int) + 1) := by
  apply List.ext_getElem?
  intro b
  by_cases hb : b < 16
  · rw [cnts_at _ hb, byA_snoc]
    by_cases e : b = a
    · subst e
      rw [if_pos hx, List.getElem?_set_self (by rw [cnts_len]; exact h)]
      simp
    · rw [if_neg (by rw [hx]; omega), List.getElem?_set_ne (by omega), cnts_at _ hb]
  · rw [List.getElem?_eq_none (by rw [cnts_len]; omega), List.getElem?_eq_none (by rw [List.length_set, cnts_len]; omega)]

set_option maxHeartbeats 2000000 in
set_option maxRecDepth 100000 in
theorem l08Counts_wide (C : Nat) (w : World) (v : Value) (L : List Ov) (hC : C ≤ w.heap.size) (hr : RdO C w v L) (hl : L.length ≤ 1048576) (hA : ∀ x ∈ L, 0 ≤ x.a ∧ x.a < 16) :
    Calls Tryz.prog 70 #[v] w fun e w' => ∃ gc, e = .returned (.agg #[.slice (some ⟨gc, 0, none⟩) 16 16]) ∧ Own 3 w' w.heap.size (.slice (some ⟨gc, 0, none⟩) 16 16) ((cnts L).map (Value.int .i64)) ∧ Below w.heap.size w w' := by
  obtain ⟨⟨ao, cap, rfl, hcap, hmax, hnil, hrow⟩, hdv⟩ := hr
  clear hdv
  have hn := newO_any (w.alloc (.cells #[.slice none 0 0] 25))
  go_enter Tryz.func70, Tryz.ntmps70
  go_wp2_with fail
  refine hn.mono ?_
  rintro e w1 ⟨gc, rfl, ho, hb⟩
  rw [World.size_alloc] at ho
  have hgc : w.heap.size + 1 ≤ gc ∧ gc < w1.heap.size := World.ownsRow.lt ho gc rfl
  have hs1 := hb.size
  rw [World.size_alloc] at hs1
  have hbw : Below w.heap.size w w1 := below_seq (below_alloc _ _) hb
  have r1 : w1.heap[w.heap.size]? = some (.cells #[.slice none 0 0] 25 (0, 0)) := (hb.block w.heap.size (by rw [World.size_alloc]; omega)).trans (heap_alloc_new w _)
  have HI : Hid (Own 3 (w1.alloc (.cells #[.slice (some ⟨gc, 0, none⟩) 16 16] 25)) (w.heap.size + 1) (.slice (some ⟨gc, 0, none⟩) 16 16) ((cnts (L.take 0)).map (Value.int .i64)) ∧ (w1.alloc (.cells #[.slice (some ⟨gc, 0, none⟩) 16 16] 25)).heap[w1.heap.size]? = some (.cells #[.slice (some ⟨gc, 0, none⟩) 16 16] 25 (0, 0)) ∧ (w1.alloc (.cells #[.slice (some ⟨gc, 0, none⟩) 16 16] 25)).heap[w.heap.size]? = some (.cells #[.slice none 0 0] 25 (0, 0)) ∧ Below w.heap.size w (w1.alloc (.cells #[.slice (some ⟨gc, 0, none⟩) 16 16] 25))) :=
    ⟨World.ownsRow.alloc ho _, heap_alloc_new w1 _, (Below.heap_alloc w1 _ _ (by omega)).trans r1, below_then hbw _⟩
  clear hn hb ho r1
  go_wp2_with fail
  go_loopw [4] (fun ti wr => ∃ k : Nat, k ≤ L.length ∧ ti = .int .i64 (k : Int) ∧ Hid (Own 3 wr (w.heap.size + 1) (.slice (some ⟨gc, 0, none⟩) 16 16) ((cnts (L.take k)).map (Value.int .i64)) ∧ wr.heap[w1.heap.size]? = some (.cells #[.slice (some ⟨gc, 0, none⟩) 16 16] 25 (0, 0)) ∧ wr.heap[w.heap.size]? = some (.cells #[.slice none 0 0] 25 (0, 0)) ∧ Below w.heap.size w wr)) (fun ti _ => L.length - (intOf ti).toNat)
  case atStart => exact ⟨0, Nat.zero_le _, rfl, HI⟩
  case round =>
    clear HI hbw
    obtain ⟨k, hk, rfl, HI⟩ := hrel
    obtain ⟨ho, hvo, hro, hbel⟩ := HI.out
    by_cases hlt : k < L.length
    · have hki : (k : Int) < (L.length : Int) := by omega
      have hk2 : (k : Int) + 1 < 9223372036854775808 := by omega
      obtain ⟨g, off, rfl, hg, hcs⟩ := hrow (by omega)
      have hx := ((hcs k hlt).below (hbel.mono hC) hg).c0
      have hxa := hA _ (ovAt_mem hlt)
      obtain ⟨j, hj⟩ := Int.eq_ofNat_of_zero_le hxa.1
      have hj16 : j < 16 := by omega
      have hj16' : (j : Int) < 16 := by omega
      have hle : (byA (L.take k) j).length ≤ 1048576 := Nat.le_trans (List.length_filter_le _ _) (by rw [List.length_take]; omega)
      have HC : Hid (cnts (L.take (k + 1)) = (cnts (L.take k)).set j (((byA (L.take k) j).length : Int) + 1)) := by
        unfold Hid
        rw [List.take_add_one, ovAt_get hlt]
        exact cnts_snoc _ _ hj hj16
      rw [hj] at hx
      have hcj0 : wr.cell? ⟨gc, j, none⟩ = some (.int .i64 ((byA (L.take k) j).length : Int)) := own_at ho (by rw [List.getElem?_map, cnts_at _ hj16]; rfl)
      have hfj0 := own_free ho j
      have HN := own_set ho j (.int .i64 (((byA (L.take k) j).length : Int) + 1))
      rw [← List.map_set, ← HC.out] at HN
      generalize hce : ((byA (L.take k) j).length : Int) = c at *
      have hcw : IntKind.i64.wrap (c + 1) = c + 1 := by rw [IntKind.wrap_i64]; omega
      have hvb : wr.drew.cell? ⟨w1.heap.size, 0, none⟩ = some (.slice (some ⟨gc, 0, none⟩) 16 16) := blk_cell (w := wr) hvo 0 rfl
      have hxj : wr.drew.cell? ⟨g, off + k * 12, none⟩ = some (.int .i64 (j : Int)) := hx
      have hcj : wr.drew.cell? ⟨gc, j, none⟩ = some (.int .i64 c) := hcj0
      have hfj : wr.drew.frozen? ⟨gc, j, none⟩ = false := hfj0
      have hgw : g < w.heap.size := by omega
      have hv9 : (wr.setCell ⟨gc, j, none⟩ (.int .i64 (c + 1))).drew.cell? ⟨w1.heap.size, 0, none⟩ = some (.slice (some ⟨gc, 0, none⟩) 16 16) := blk_cell (w := wr.setCell ⟨gc, j, none⟩ (.int .i64 (c + 1))) ((heap_setCell_other wr ⟨gc, j, none⟩ w1.heap.size _ (by show w1.heap.size ≠ gc; omega)).trans hvo) 0 rfl
      have hx9 : (wr.setCell ⟨gc, j, none⟩ (.int .i64 (c + 1))).drew.cell? ⟨g, off + k * 12, none⟩ = some (.int .i64 (j : Int)) := (World.cell?_of_block (w := wr) (heap_setCell_other wr ⟨gc, j, none⟩ g _ (by show g ≠ gc; omega))).trans hx
      have HI2 : Hid (Own 3 (wr.setCell ⟨gc, j, none⟩ (.int .i64 (c + 1))).drew (w.heap.size + 1) (.slice (some ⟨gc, 0, none⟩) 16 16) ((cnts (L.take (k + 1))).map (Value.int .i64)) ∧ (wr.setCell ⟨gc, j, none⟩ (.int .i64 (c + 1))).drew.heap[w1.heap.size]? = some (.cells #[.slice (some ⟨gc, 0, none⟩) 16 16] 25 (0, 0)) ∧ (wr.setCell ⟨gc, j, none⟩ (.int .i64 (c + 1))).drew.heap[w.heap.size]? = some (.cells #[.slice none 0 0] 25 (0, 0)) ∧ Below w.heap.size w (wr.setCell ⟨gc, j, none⟩ (.int .i64 (c + 1))).drew) :=
        ⟨HN, (heap_setCell_other wr ⟨gc, j, none⟩ w1.heap.size _ (by show w1.heap.size ≠ gc; omega)).trans hvo, (heap_setCell_other wr ⟨gc, j, none⟩ w.heap.size _ (by show w.heap.size ≠ gc; omega)).trans hro, (hbel.setCell (p := ⟨gc, j, none⟩) (by show w.heap.size ≤ gc; omega) _).drew⟩
      clear hcs HI ho hvo hro hbel HN hce HC hA hrow
      go_wp2_with fail
      refine wp_region_held_drew (S := fun w' => w'.cell? ⟨w1.heap.size, 0, none⟩ = some (.slice (some ⟨gc, 0, none⟩) 16 16) ∧ w'.cell? ⟨g, off + k * 12, none⟩ = some (.int .i64 (j : Int))) (by kernel_rfl) (⟨hvb, hxj⟩) (fun hHeld => ?_)
      refine tkH 0 (.pointer (some ⟨w1.heap.size, 0, none⟩)) rfl (Or.inl ⟨by kernel_rfl, by intro w hSw; obtain ⟨s0, s1⟩ := hSw; go_simp⟩) hHeld ?_
      simp only [tkS, Act.put]
      refine tkH 1 (.slice (some ⟨gc, 0, none⟩) 16 16) rfl (Or.inl ⟨by kernel_rfl, by intro w hSw; obtain ⟨s0, s1⟩ := hSw; go_simp⟩) hHeld ?_
      simp only [tkS, Act.put]
      refine tkH 2 (.slice (some ⟨g, off, none⟩) L.length cap) rfl (Or.inl ⟨by kernel_rfl, by intro w hSw; obtain ⟨s0, s1⟩ := hSw; go_simp⟩) hHeld ?_
      simp only [tkS, Act.put]
      refine tkH 3 (.int .i64 ((k : Int))) rfl (Or.inl ⟨by kernel_rfl, by intro w hSw; obtain ⟨s0, s1⟩ := hSw; go_simp⟩) hHeld ?_
      simp only [tkS, Act.put]
      refine tkH 4 (.pointer (some ⟨g, off + k * 12, none⟩)) rfl (Or.inl ⟨by kernel_rfl, by intro w hSw; obtain ⟨s0, s1⟩ := hSw; go_simp⟩) hHeld ?_
      simp only [tkS, Act.put]
      refine tkH 5 (.pointer (some ⟨g, off + k * 12, none⟩)) rfl (Or.inl ⟨by kernel_rfl, by intro w hSw; obtain ⟨s0, s1⟩ := hSw; go_simp⟩) hHeld ?_
      simp only [tkS, Act.put]
      refine tkH 6 (.int .i64 ((j : Int))) rfl (Or.inl ⟨by kernel_rfl, by intro w hSw; obtain ⟨s0, s1⟩ := hSw; go_simp⟩) hHeld ?_
      simp only [tkS, Act.put]
      refine tkH 7 (.pointer (some ⟨gc, j, none⟩)) rfl (Or.inl ⟨by kernel_rfl, by intro w hSw; obtain ⟨s0, s1⟩ := hSw; go_simp⟩) hHeld ?_
      simp only [tkS, Act.put]
      refine wpAnyH_ready (rs := [8]) (by kernel_rfl) (by simp) ?_
      refine AllReadyH.cons rfl (fun K hK => ?_) AllReadyH.nil
      have c8 := hcj
      have c8b : wr.cell? ⟨gc, j, none⟩ = some (.int .i64 c) := hcj
      go_simp
      refine hK.out _ _ (⟨hvb, hxj⟩) (fun hHeld => ?_)
      clear hK K
      refine tkH 9 (.int .i64 (c + 1)) rfl (Or.inl ⟨by kernel_rfl, by intro w hSw; obtain ⟨s0, s1⟩ := hSw; go_simp⟩) hHeld ?_
      simp only [tkS, Act.put]
      refine tkH 10 (.pointer (some ⟨gc, j, none⟩)) rfl (Or.inl ⟨by kernel_rfl, by intro w hSw; obtain ⟨s0, s1⟩ := hSw; go_simp⟩) hHeld ?_
      simp only [tkS, Act.put]
      refine wpAnyH_ready (rs := [11]) (by kernel_rfl) (by simp) ?_
      refine AllReadyH.cons rfl (fun K hK => ?_) AllReadyH.nil
      have c11 := hcj
      have c11b : wr.cell? ⟨gc, j, none⟩ = some (.int .i64 c) := hcj
      have f11 := hfj
      have f11b : wr.frozen? ⟨gc, j, none⟩ = false := hfj
      go_simp
      refine hK.out _ _ (⟨hv9, hx9⟩) (fun hHeld => ?_)
      clear hK K
      refine wpAnyH_done (by kernel_rfl) ?_ _
      go_wp2_with fail
      go_roundw
      case rel => exact ⟨k + 1, by omega, by go_num, HI2⟩
      case measure => simp [intOf]; omega
    · obtain rfl : k = L.length := by omega
      rw [List.take_of_length_le (Nat.le_refl _)] at ho
      have c1 := blk_cell hvo 0 rfl
      have c0 := blk_cell hro 0 rfl
      have f0 := blk_free hro 0
      have HO2 : Hid (Own 3 (wr.setCell ⟨w.heap.size, 0, none⟩ (.slice (some ⟨gc, 0, none⟩) 16 16)) w.heap.size (.slice (some ⟨gc, 0, none⟩) 16 16) ((cnts L).map (Value.int .i64))) := (ho.apart (grownBy_set wr w.heap.size 0 (.slice (some ⟨gc, 0, none⟩) 16 16)) (fun kk hk => by cases hk; omega)).mono (by omega)
      have HB2 : Hid (Below w.heap.size w (wr.setCell ⟨w.heap.size, 0, none⟩ (.slice (some ⟨gc, 0, none⟩) 16 16))) := hbel.setCell (p := ⟨w.heap.size, 0, none⟩) (Nat.le_refl _) _
      have q0 : (wr.setCell ⟨w.heap.size, 0, none⟩ (.slice (some ⟨gc, 0, none⟩) 16 16)).cell? ⟨w.heap.size, 0, none⟩ = some (.slice (some ⟨gc, 0, none⟩) 16 16) := World.cell?_setCell_same _ _ _ c0
      clear HI ho hvo hro hbel hrow hA
      go_wp2_with fail
      exact bodyPost_ret (v := .agg #[.slice (some ⟨gc, 0, none⟩) 16 16]) (by simp [results, Tryz.results70, go_sem, q0]) rfl ⟨_, rfl, HO2.out, HB2.out⟩
theorem l08Counts_any (C : Nat) (w : World) (v : Value) (L : List Ov) (hC : C ≤ w.heap.size) (hr : RdO C w v L) (hl : L.length ≤ 1024) (hA : ∀ x ∈ L, 0 ≤ x.a ∧ x.a < 16) :
    Calls Tryz.prog 70 #[v] w fun e w' => ∃ gc, e = .returned (.agg #[.slice (some ⟨gc, 0, none⟩) 16 16]) ∧ Own 3 w' w.heap.size (.slice (some ⟨gc, 0, none⟩) 16 16) ((cnts L).map (Value.int .i64)) ∧ Below w.heap.size w w' := l08Counts_wide C w v L hC hr (by omega) hA
end Go.Proofs.YtmmkmkaannlkhaaGreatDoor

namespace Go.Proofs.YtmmkmkaannlkhaaGreatDoor
open Go.RowKit
set_option linter.unusedVariables false

theorem owns_rdO {w : World} {B : Nat} {v : Value} {M : List Ov} (h : w.ownsRow B 29 12 v M.length (rowCs M)) (hd : ∀ x ∈ M, Rd w.heap.size w x.dv (x.ds.map (Value.int .i64))) : RdO w.heap.size w v M := by
  have h' := h
  obtain ⟨h1, h2⟩ := h
  rcases h2 with ⟨hv, hn⟩ | ⟨g, cap, cur, hv, hg, hh, hle, hm, hs, ht⟩
  · subst hv
    refine ⟨⟨none, 0, by rw [hn], by omega, by unfold maxLen; omega, fun _ => rfl, fun hp => absurd hp (by omega)⟩, hd⟩
  · subst hv
    exact ⟨⟨_, cap, rfl, hle, hm, fun e => (by cases e), fun hp => ⟨g, 0, rfl, (Array.getElem?_eq_some_iff.1 hh).1, fun k hk => by rw [Nat.zero_add]; exact row_at h' hk⟩⟩, hd⟩
end Go.Proofs.YtmmkmkaannlkhaaGreatDoor

namespace Go.Proofs.YtmmkmkaannlkhaaGreatDoor
open Go.RowKit
set_option linter.unusedVariables false

/-- The operations of actor a stand together, from place i on. -/
structure Stand (L : List Ov) (a i : Nat) : Prop where
  no : ∀ q, q < i → (ovAt L q).a ≠ (a : Int)
  yes : ∀ q, q < (byA L a).length → ovAt L (i + q) = ovAt (byA L a) q ∧ (ovAt L (i + q)).a = (a : Int)
  fit : i + (byA L a).length ≤ L.length

set_option maxHeartbeats 2000000 in
set_option maxRecDepth 100000 in
theorem l08Find_any (C : Nat) (w : World) (v : Value) (L : List Ov) (a i m : Nat) (hC : C ≤ w.heap.size) (hr : RdO C w v L) (hl : L.length ≤ 1024) (hS : Stand L a i) (hm : m < (byA L a).length) :
    Calls Tryz.prog 68 #[v, .int .i64 (a : Int), .int .i64 ((m + 1 : Nat) : Int)] w fun e w' => e = .returned (.int .i64 ((i + m : Nat) : Int)) ∧ w' = w := by
  obtain ⟨⟨ao, cap, rfl, hcap, hmax, hnil, hrow⟩, hdv⟩ := hr
  have hfit := hS.fit
  obtain ⟨g, off, rfl, hg, hcs⟩ := hrow (by omega)
  clear hdv hrow
  have HC : Hid (∀ k, k < L.length → w.cell? ⟨g, off + k * 12, none⟩ = some (.int .i64 (ovAt L k).a)) := fun k hk => (hcs k hk).c0
  go_enter Tryz.func68, Tryz.ntmps68
  go_wp2_with fail
  go_loop [7] (fun ti => ∃ k : Nat, k ≤ i ∧ ti = .int .i64 (k : Int)) (fun ti => i + 1 - (intOf ti).toNat)
  case atStart => exact ⟨0, Nat.zero_le _, rfl⟩
  case round =>
    obtain ⟨k, hk, rfl⟩ := hrel
    have hkl : (k : Int) < (L.length : Int) := by omega
    have hk2 : (k : Int) + 1 < 9223372036854775808 := by omega
    have c0 := HC.out k (by omega)
    by_cases e : k = i
    · have hy := (hS.yes 0 (by omega)).2
      rw [Nat.add_zero, ← e] at hy
      rw [hy] at c0
      have hz := (hS.yes m hm).2
      rw [← e] at hz
      have c1 := HC.out (k + m) (by omega)
      rw [hz] at c1
      have h1 : ¬ ((m : Int) + 1 < 1) := by omega
      have h2 : ¬ ((L.length : Int) - (k : Int) < (m : Int) + 1) := by omega
      have HE : Hid ((k + m : Nat) = i + m) := by unfold Hid; omega
      have hkm : ((k + m : Nat) : Int) < (L.length : Int) := by omega
      clear hy hz e
      go_wp2_with fail
      go_ret
      refine ⟨?_, rfl⟩
      have := HE.out
      simp
      omega
    · have hne : ((ovAt L k).a == (a : Int)) = false := by simpa using hS.no k (by omega)
      generalize (ovAt L k).a = z at c0 hne
      have hki : k < i := by omega
      clear e
      go_wp2_with fail
      go_round
      case rel => exact ⟨k + 1, by omega, by go_num⟩
      case measure => simp [intOf]; omega
end Go.Proofs.YtmmkmkaannlkhaaGreatDoor
