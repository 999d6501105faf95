/- The code's ledger: where it lies, and what isNext, suits and put do. The code's ledger: what put does. The code's ledger: what hasCauses answers. The specification's l08Find: the place of an actor's operation in a log whose operations of each actor stand together. The specification's l08Counts: how many operations of each actor there are. Operations in a row of the call's own can be read. -/
import Derived.Deep.AppendLies
import Derived.BigQuiet
import Derived.Test.YtocffojhhjdeoaaGreatQOpComesToOpBase
import Derived.Test.YtocffojhhjdeoaaGreatQTakeKitToBigKit
import Derived.Test.YtocffojhhjdeoaaGreatQOpOKToOpSpecBase
namespace Go.Proofs.YtocffojhhjdeoaaGreat
open Go.RowKit
set_option linter.unusedVariables false

/-- What an object is by the kind of operation. -/
def thOf (k : Int) : Int := if k = 3 then 2 else k
set_option maxHeartbeats 400000 in
theorem thingOf_any (k : Int) (w : World) : Calls Tryz.prog 67 #[.int .i64 k] w fun e w' => e = .returned (.int .i64 (thOf k)) ∧ w' = w := by
  unfold thOf
  go_enter Tryz.func67, Tryz.ntmps67
  go_wp2_with fail
  all_goals go_ret
  all_goals exact ⟨by simp_all, rfl⟩

/-- The cells of operations, one behind the other. -/
def rowCs (L : List Ov) : List Value := (L.map Ov.cs).flatten
theorem rowCs_len (L : List Ov) : (rowCs L).length = L.length * 12 := by
  induction L with
  | nil => rfl
  | cons x L ih => simp only [rowCs, List.map_cons, List.flatten_cons, List.length_append, List.length_cons] at ih ⊢; rw [ih]; simp [Ov.cs]; omega
theorem rowCs_app (L M : List Ov) : rowCs (L ++ M) = rowCs L ++ rowCs M := by simp [rowCs]
/-- The operations of an actor. -/
def byA (P : List Ov) (a : Nat) : List Ov := P.filter fun x => decide (x.a = (a : Int))
/-- What each object is. -/
def tsOf (P : List Ov) : List Int := P.foldl (fun ts x => ts.set x.o.toNat (thOf x.k)) (List.replicate 101 0)
theorem tsOf_len (P : List Ov) : (tsOf P).length = 101 := by
  unfold tsOf
  generalize hts : List.replicate 101 (0 : Int) = ts
  have h : ts.length = 101 := by rw [← hts]; simp
  clear hts
  induction P generalizing ts with
  | nil => exact h
  | cons x P ih => exact ih _ (by simp [h])
theorem tsOf_snoc (P : List Ov) (x : Ov) : tsOf (P ++ [x]) = (tsOf P).set x.o.toNat (thOf x.k) := by simp [tsOf]
theorem byA_snoc (P : List Ov) (x : Ov) (a : Nat) : byA (P ++ [x]) a = if x.a = (a : Int) then byA P a ++ [x] else byA P a := by
  unfold byA
  rw [List.filter_append]
  by_cases h : x.a = (a : Int) <;> simp [h]
/-- The ledger's cells. -/
def ledCs (vs : List Value) (P : List Ov) : List Value := vs ++ ((tsOf P).map (Value.int .i64) ++ [.int .i64 (P.length : Int)])
theorem ledCs_len {vs : List Value} {P : List Ov} (h : vs.length = 16) : (ledCs vs P).length = 118 := by simp [ledCs, h, tsOf_len]
theorem led_vs {vs : List Value} {P : List Ov} (h : vs.length = 16) {a : Nat} (ha : a < 16) : (ledCs vs P)[a]? = some (vs.getD a undef) := by
  unfold ledCs
  rw [List.getElem?_append_left (by omega), List.getD_eq_getElem?_getD, List.getElem?_eq_getElem (by omega)]
  rfl
theorem led_ts {vs : List Value} {P : List Ov} (h : vs.length = 16) {j : Nat} (hj : j < 101) : (ledCs vs P)[16 + j]? = some (.int .i64 ((tsOf P).getD j 0)) := by
  unfold ledCs
  rw [List.getElem?_append_right (by omega), List.getElem?_append_left (by simp [tsOf_len]; omega), List.getElem?_map, h, Nat.add_sub_cancel_left, List.getD_eq_getElem?_getD, List.getElem?_eq_getElem (by rw [tsOf_len]; omega)]
  rfl
theorem led_sz {vs : List Value} {P : List Ov} (h : vs.length = 16) : (ledCs vs P)[117]? = some (.int .i64 (P.length : Int)) := by
  unfold ledCs
  rw [List.getElem?_append_right (by omega), List.getElem?_append_right (by simp [tsOf_len, h])]
  simp [h, tsOf_len]

/-- The ledger of the operations P lies in block lb: its cells, and the rows of each actor, all of the call's own, from block B on, no two in one block. -/
structure Led (w : World) (B lb : Nat) (vs : List Value) (P : List Ov) : Prop where
  len : vs.length = 16
  blk : w.heap[lb]? = some (.cells (ledCs vs P).toArray 56 (0, 0))
  low : B ≤ lb
  row : ∀ a, a < 16 → w.ownsRow B 37 12 (vs.getD a undef) (byA P a).length (rowCs (byA P a))
  far : ∀ a, a < 16 → (vs.getD a undef).ownBlock ≠ some lb
  part : ∀ a b, a < 16 → b < 16 → a ≠ b → ∀ g, (vs.getD a undef).ownBlock = some g → (vs.getD b undef).ownBlock ≠ some g
theorem Led.cell {w : World} {B lb : Nat} {vs : List Value} {P : List Ov} (h : Led w B lb vs P) {k : Nat} {v : Value} (hk : (ledCs vs P)[k]? = some v) : w.cell? ⟨lb, k, none⟩ = some v := by
  unfold World.cell?
  rw [show w.heap[(⟨lb, k, none⟩ : Addr).block]? = some (.cells (ledCs vs P).toArray 56 (0, 0)) from h.blk]
  simpa using hk
theorem Led.lt {w : World} {B lb : Nat} {vs : List Value} {P : List Ov} (h : Led w B lb vs P) : lb < w.heap.size := (Array.getElem?_eq_some_iff.1 h.blk).1
theorem Led.free {w : World} {B lb : Nat} {vs : List Value} {P : List Ov} (h : Led w B lb vs P) (k : Nat) : w.frozen? ⟨lb, k, none⟩ = false := by
  unfold World.frozen?
  rw [show w.heap[(⟨lb, k, none⟩ : Addr).block]? = some (.cells (ledCs vs P).toArray 56 (0, 0)) from h.blk]
  simp
theorem owns_on {w w' : World} {C B : Nat} {e : TypeId} {s n : Nat} {v : Value} {xs : List Value} (h : w.ownsRow B e s v n xs) (hb : Below C w w') (hc : w.heap.size ≤ C) : w'.ownsRow B e s v n xs := by
  obtain ⟨h1, h2⟩ := h
  refine ⟨h1, ?_⟩
  rcases h2 with h2 | ⟨g, cap, cur, rfl, hg, hh, r⟩
  · exact .inl h2
  · have hl : g < w.heap.size := (Array.getElem?_eq_some_iff.1 hh).1
    exact .inr ⟨g, cap, cur, rfl, hg, (hb.block g (by omega)).trans hh, r⟩
theorem Led.on {w w' : World} {C B lb : Nat} {vs : List Value} {P : List Ov} (h : Led w B lb vs P) (hb : Below C w w') (hc : w.heap.size ≤ C) : Led w' B lb vs P :=
  ⟨h.len, (hb.block lb (by have := h.lt; omega)).trans h.blk, h.low, fun a ha => owns_on (h.row a ha) hb hc, h.far, h.part⟩
/-- What an actor's slice looks like. -/
theorem Led.slice {w : World} {B lb : Nat} {vs : List Value} {P : List Ov} (h : Led w B lb vs P) {a : Nat} (ha : a < 16) : ∃ ao cap, vs.getD a undef = .slice ao (byA P a).length cap := by
  obtain ⟨_, h2⟩ := h.row a ha
  rcases h2 with ⟨hv, hn⟩ | ⟨g, cap, cur, hv, _⟩
  · exact ⟨none, 0, by rw [hv, hn]⟩
  · exact ⟨_, cap, hv⟩

set_option maxHeartbeats 1000000 in
set_option maxRecDepth 100000 in
theorem isNext_any (B lb : Nat) (vs : List Value) (P : List Ov) (x : Ov) (w : World) (hL : Led w B lb vs P) (a : Nat) (ha : a < 16) (hx : x.a = (a : Int)) (hP : P.length ≤ 1024) :
    Calls Tryz.prog 40 #[.pointer (some ⟨lb, 0, none⟩), .agg #[.int .i64 x.a, .int .i64 x.s, .int .i64 x.t, x.dv, .int .i64 x.k, .int .i64 x.o, .int .i64 x.n, .int .i64 x.u, .int .i64 x.pt, .int .i64 x.pa, .string x.ky, .string x.tx]] w fun e w' => e = .returned (.bool (decide (x.s = ((byA P a).length : Int) + 1))) ∧ Below w.heap.size w w' := by
  have hl := hL.on (below_alloc w (.cells #[.int .i64 x.a, .int .i64 x.s, .int .i64 x.t, x.dv, .int .i64 x.k, .int .i64 x.o, .int .i64 x.n, .int .i64 x.u, .int .i64 x.pt, .int .i64 x.pa, .string x.ky, .string x.tx] 37)) (Nat.le_refl _)
  obtain ⟨ao, cap, hv⟩ := hL.slice ha
  have c0 := hl.cell (led_vs hL.len ha)
  rw [hv] at c0
  have hle : (byA P a).length ≤ 1024 := Nat.le_trans (List.length_filter_le _ _) hP
  obtain ⟨xa, xs, xt, xdv, xk, xo, xn, xu, xpt, xpa, xky, xtx, xds⟩ := x
  simp only at hx c0 hl ⊢
  subst hx
  generalize (byA P a).length = m at *
  have hm : (m : Int) ≤ 1024 := by omega
  have ha' : (a : Int) < 16 := by omega
  clear hv hl hL
  go_enter Tryz.func40, Tryz.ntmps40
  go_wp2_with fail
  go_quiet (fail)
  go_wp2_with fail
  go_ret
  refine ⟨?_, below_drewN (below_alloc _ _) _⟩
  simp
  rw [Bool.eq_iff_iff]
  simp

set_option maxHeartbeats 1000000 in
set_option maxRecDepth 100000 in
theorem suits_any (B lb : Nat) (vs : List Value) (P : List Ov) (x : Ov) (w : World) (hL : Led w B lb vs P) (j : Nat) (hj : j < 101) (hx : x.o = (j : Int)) :
    Calls Tryz.prog 41 #[.pointer (some ⟨lb, 0, none⟩), .agg #[.int .i64 x.a, .int .i64 x.s, .int .i64 x.t, x.dv, .int .i64 x.k, .int .i64 x.o, .int .i64 x.n, .int .i64 x.u, .int .i64 x.pt, .int .i64 x.pa, .string x.ky, .string x.tx]] w fun e w' => e = .returned (.bool (decide ((tsOf P).getD j 0 = 0 ∨ (tsOf P).getD j 0 = thOf x.k))) ∧ Below w.heap.size w w' := by
  have hl := hL.on (below_alloc w (.cells #[.int .i64 x.a, .int .i64 x.s, .int .i64 x.t, x.dv, .int .i64 x.k, .int .i64 x.o, .int .i64 x.n, .int .i64 x.u, .int .i64 x.pt, .int .i64 x.pa, .string x.ky, .string x.tx] 37)) (Nat.le_refl _)
  have c0 := hl.cell (led_ts hL.len hj)
  obtain ⟨xa, xs, xt, xdv, xk, xo, xn, xu, xpt, xpa, xky, xtx, xds⟩ := x
  simp only at hx c0 hl ⊢
  subst hx
  generalize (tsOf P).getD j 0 = q at *
  have hj' : (j : Int) < 101 := by omega
  clear hl hL
  go_enter Tryz.func41, Tryz.ntmps41
  go_wp2_with fail
  go_quiet (fail)
  go_wp2_with (first | (go_at_call 67; refine (thingOf_any _ _).mono ?_; rintro e w' ⟨rfl, hw⟩; obtain rfl := hw.symm))
  all_goals go_ret
  all_goals refine ⟨?_, below_drewN (below_alloc _ _) _⟩
  all_goals first | (simp [*]; done) | (simp [*]; rw [Bool.eq_iff_iff]; simp; intro h; omega)

theorem own_full {w : World} {g : Nat} {T : TypeId} {cs : List Value} (h : w.heap[g]? = some (.cells cs.toArray T (0, 0))) (hm : cs.length ≤ maxLen) : Own T w g (.slice (some ⟨g, 0, none⟩) cs.length cs.length) cs :=
  ⟨by simp, .inr ⟨g, cs.length, cs.toArray, rfl, Nat.le_refl _, h, Nat.le_refl _, hm, by simp, by simp⟩⟩
theorem full_own {w : World} {g B n : Nat} {T : TypeId} {cs : List Value} (h : Own T w B (.slice (some ⟨g, 0, none⟩) n n) cs) (hn : cs.length = n) : w.heap[g]? = some (.cells cs.toArray T (0, 0)) := by
  obtain ⟨h1, h2⟩ := h
  rcases h2 with ⟨hv, _⟩ | ⟨g', cap, cur, hv, _, hh, _, _, hs, ht⟩
  · simp at hv
  · simp only [Value.slice.injEq, Option.some.injEq, Addr.mk.injEq, and_true] at hv
    obtain ⟨rfl, e1, rfl⟩ := hv
    rw [hh]
    have : cur = cs.toArray := by
      apply Array.ext'
      rw [← ht, List.take_of_length_le (by rw [Array.length_toList]; omega)]
    rw [this]
theorem cs_one (x : Ov) (hd : x.dv.oneCell' = true) : ∀ u ∈ x.cs, u.oneCell' = true := by
  intro u hu
  simp only [Ov.cs, List.mem_cons, List.not_mem_nil, or_false] at hu
  rcases hu with rfl | rfl | rfl | rfl | rfl | rfl | rfl | rfl | rfl | rfl | rfl | rfl
  all_goals first | exact hd | rfl

end Go.Proofs.YtocffojhhjdeoaaGreat

namespace Go.Proofs.YtocffojhhjdeoaaGreat
open Go.RowKit
set_option linter.unusedVariables false

theorem Led.drew {w : World} {B lb : Nat} {vs : List Value} {P : List Ov} (h : Led w B lb vs P) : Led w.drew B lb vs P := ⟨h.len, h.blk, h.low, h.row, h.far, h.part⟩
theorem infoOp : (Tryz.prog.info? 37).map (fun i => (i.zero, i.size, i.bytes)) = some (some (.agg #[.int .i64 0, .int .i64 0, .int .i64 0, .slice none 0 0, .int .i64 0, .int .i64 0, .int .i64 0, .int .i64 0, .int .i64 0, .int .i64 0, .string ByteArray.empty, .string ByteArray.empty]), 12, 128) := by kernel_rfl
theorem blk_cell {w : World} {g : Nat} {cs : Array Value} {T : TypeId} (h : w.heap[g]? = some (.cells cs T (0, 0))) (k : Nat) {v : Value} (hk : cs[k]? = some v) : w.cell? ⟨g, k, none⟩ = some v := by
  unfold World.cell?
  rw [show w.heap[(⟨g, k, none⟩ : Addr).block]? = some (.cells cs T (0, 0)) from h]
  exact hk
theorem blk_free {w : World} {g : Nat} {cs : Array Value} {T : TypeId} (h : w.heap[g]? = some (.cells cs T (0, 0))) (k : Nat) : w.frozen? ⟨g, k, none⟩ = false := by
  unfold World.frozen?
  rw [show w.heap[(⟨g, k, none⟩ : Addr).block]? = some (.cells cs T (0, 0)) from h]
  simp
theorem own_at {w : World} {T : TypeId} {B g n cap : Nat} {cs : List Value} (h : Own T w B (.slice (some ⟨g, 0, none⟩) n cap) cs) {k : Nat} {v : Value} (hk : cs[k]? = some v) : w.cell? ⟨g, k, none⟩ = some v := by
  obtain ⟨h1, h2⟩ := List.getElem?_eq_some_iff.1 hk
  rw [own_cell h h1, h2]
theorem owns_blk {w w' : World} {B : Nat} {e : TypeId} {s n g c m : Nat} {xs : List Value} (h : w.ownsRow B e s (.slice (some ⟨g, 0, none⟩) m c) n xs) (hb : w'.heap[g]? = w.heap[g]?) : w'.ownsRow B e s (.slice (some ⟨g, 0, none⟩) m c) n xs := by
  obtain ⟨h1, h2⟩ := h
  refine ⟨h1, ?_⟩
  rcases h2 with h2 | ⟨g', cap, cur, hv, hg, hh, r⟩
  · exact .inl h2
  · simp only [Value.slice.injEq, Option.some.injEq, Addr.mk.injEq, and_true] at hv
    obtain ⟨rfl, rfl, rfl⟩ := hv
    exact .inr ⟨g, c, cur, rfl, hg, hb.trans hh, r⟩
theorem owns_all {w w' : World} {B : Nat} {e : TypeId} {s n : Nat} {v : Value} {xs : List Value} (h : w.ownsRow B e s v n xs) (hb : ∀ k, v.ownBlock = some k → w'.heap[k]? = w.heap[k]?) : w'.ownsRow B e s v n xs := by
  obtain ⟨h1, h2⟩ := h
  refine ⟨h1, ?_⟩
  rcases h2 with h2 | ⟨g', cap, cur, rfl, hg, hh, r⟩
  · exact .inl h2
  · exact .inr ⟨g', cap, cur, rfl, hg, (hb g' rfl).trans hh, r⟩
theorem led_set {vs : List Value} {P : List Ov} {x : Ov} {a j : Nat} {v : Value} (h : vs.length = 16) (ha : a < 16) (hj : j < 101) (hx : x.o = (j : Int)) :
    ((((ledCs vs P).set a v).set (16 + j) (.int .i64 (thOf x.k))).set 117 (.int .i64 ((P.length : Int) + 1))) = ledCs (vs.set a v) (P ++ [x]) := by
  unfold ledCs
  have e1 : (vs ++ ((tsOf P).map (Value.int .i64) ++ [Value.int .i64 (P.length : Int)])).set a v = vs.set a v ++ ((tsOf P).map (Value.int .i64) ++ [Value.int .i64 (P.length : Int)]) := by rw [List.set_append_left _ _ (by omega)]
  have e2 : ∀ (us : List Value), us.length = 16 → (us ++ ((tsOf P).map (Value.int .i64) ++ [Value.int .i64 (P.length : Int)])).set (16 + j) (.int .i64 (thOf x.k)) = us ++ (((tsOf P).set j (thOf x.k)).map (Value.int .i64) ++ [Value.int .i64 (P.length : Int)]) := by
    intro us hu
    rw [List.set_append_right _ _ (by omega), show 16 + j - us.length = j by omega, List.set_append_left _ _ (by simp [tsOf_len]; omega), List.map_set]
  have e3 : ∀ (us : List Value) (ts : List Int), us.length = 16 → ts.length = 101 → (us ++ (ts.map (Value.int .i64) ++ [Value.int .i64 (P.length : Int)])).set 117 (.int .i64 ((P.length : Int) + 1)) = us ++ (ts.map (Value.int .i64) ++ [Value.int .i64 ((P.length : Int) + 1)]) := by
    intro us ts hu ht
    rw [List.set_append_right _ _ (by omega), List.set_append_right _ _ (by simp; omega), show 117 - us.length - (List.map (Value.int .i64) ts).length = 0 by simp; omega]
    rfl
  rw [e1, e2 _ (by simp [h]), e3 _ _ (by simp [h]) (by simp [tsOf_len]), tsOf_snoc, hx, Int.toNat_natCast]
  simp

set_option maxHeartbeats 4000000 in
set_option maxRecDepth 100000 in
theorem ledPut_any (B lb : Nat) (vs : List Value) (P : List Ov) (x : Ov) (w : World) (hL : Led w B lb vs P) (a j : Nat) (ha : a < 16) (hj : j < 101) (hxa : x.a = (a : Int)) (hxo : x.o = (j : Int)) (hP : P.length ≤ 1024) (hd : x.dv.oneCell' = true) :
    Calls Tryz.prog 42 #[.pointer (some ⟨lb, 0, none⟩), .agg #[.int .i64 x.a, .int .i64 x.s, .int .i64 x.t, x.dv, .int .i64 x.k, .int .i64 x.o, .int .i64 x.n, .int .i64 x.u, .int .i64 x.pt, .int .i64 x.pa, .string x.ky, .string x.tx]] w fun e w' => e = .returned (.tuple #[]) ∧ (∃ vs', Led w' B lb vs' (P ++ [x])) ∧ Below B w w' := by
  obtain ⟨i0, hi, hz0, hz1, hz2⟩ := info_parts infoOp
  have hlb := hL.lt
  have hle : (byA P a).length ≤ 1024 := Nat.le_trans (List.length_filter_le _ _) hP
  have hBw : B ≤ w.heap.size := by have := hL.low; omega
  obtain ⟨va, hva⟩ : ∃ va, vs.getD a undef = va := ⟨_, rfl⟩
  have HLV : Hid ((ledCs vs P)[a]? = some va) := by rw [← hva]; exact led_vs hL.len ha
  have HRW : Hid (w.ownsRow B 37 12 va (byA P a).length (rowCs (byA P a))) := by rw [← hva]; exact hL.row a ha
  have HOB : Hid (∀ k, va.ownBlock = some k → k < w.heap.size ∧ k ≠ lb) := fun k hk => by
    refine ⟨?_, fun e => hL.far a ha (by rw [hva, hk, e])⟩
    obtain ⟨_, h2⟩ := HRW.out
    rcases h2 with ⟨hv, _⟩ | ⟨g, cap, cur, hv, _, hh, _⟩
    · rw [hv] at hk; cases hk
    · rw [hv] at hk
      simp only [Value.ownBlock, Option.some.injEq] at hk
      subst hk
      exact (Array.getElem?_eq_some_iff.1 hh).1
  have HX : Hid (x.a = (a : Int)) := hxa
  obtain ⟨xa, xs, xt, xdv, xk, xo, xn, xu, xpt, xpa, xky, xtx, xds⟩ := x
  simp only at hxa hxo hd ⊢
  subst hxa hxo
  generalize hm : (byA P a).length = m at *
  have HF : Hid (∀ wx : World, wx.heap[w.heap.size]? = some (.cells #[.int .i64 ((a : Int)), .int .i64 xs, .int .i64 xt, xdv, .int .i64 xk, .int .i64 ((j : Int)), .int .i64 xn, .int .i64 xu, .int .i64 xpt, .int .i64 xpa, .string xky, .string xtx] 37 (0, 0)) → wx.cell? ⟨w.heap.size, 0, none⟩ = some (.int .i64 ((a : Int))) ∧ wx.cell? ⟨w.heap.size, 1, none⟩ = some (.int .i64 xs) ∧ wx.cell? ⟨w.heap.size, 2, none⟩ = some (.int .i64 xt) ∧ wx.cell? ⟨w.heap.size, 3, none⟩ = some (xdv) ∧ wx.cell? ⟨w.heap.size, 4, none⟩ = some (.int .i64 xk) ∧ wx.cell? ⟨w.heap.size, 5, none⟩ = some (.int .i64 ((j : Int))) ∧ wx.cell? ⟨w.heap.size, 6, none⟩ = some (.int .i64 xn) ∧ wx.cell? ⟨w.heap.size, 7, none⟩ = some (.int .i64 xu) ∧ wx.cell? ⟨w.heap.size, 8, none⟩ = some (.int .i64 xpt) ∧ wx.cell? ⟨w.heap.size, 9, none⟩ = some (.int .i64 xpa) ∧ wx.cell? ⟨w.heap.size, 10, none⟩ = some (.string xky) ∧ wx.cell? ⟨w.heap.size, 11, none⟩ = some (.string xtx)) := fun wx h1 =>
    ⟨blk_cell h1 0 rfl, blk_cell h1 1 rfl, blk_cell h1 2 rfl, blk_cell h1 3 rfl, blk_cell h1 4 rfl, blk_cell h1 5 rfl, blk_cell h1 6 rfl, blk_cell h1 7 rfl, blk_cell h1 8 rfl, blk_cell h1 9 rfl, blk_cell h1 10 rfl, blk_cell h1 11 rfl⟩
  have b1 : (w.alloc (.cells #[.int .i64 ((a : Int)), .int .i64 xs, .int .i64 xt, xdv, .int .i64 xk, .int .i64 ((j : Int)), .int .i64 xn, .int .i64 xu, .int .i64 xpt, .int .i64 xpa, .string xky, .string xtx] 37)).drew.heap[w.heap.size]? = some (.cells #[.int .i64 ((a : Int)), .int .i64 xs, .int .i64 xt, xdv, .int .i64 xk, .int .i64 ((j : Int)), .int .i64 xn, .int .i64 xu, .int .i64 xpt, .int .i64 xpa, .string xky, .string xtx] 37 (0, 0)) := heap_alloc_new w _
  have l1 : (w.alloc (.cells #[.int .i64 ((a : Int)), .int .i64 xs, .int .i64 xt, xdv, .int .i64 xk, .int .i64 ((j : Int)), .int .i64 xn, .int .i64 xu, .int .i64 xpt, .int .i64 xpa, .string xky, .string xtx] 37)).drew.heap[lb]? = some (.cells (ledCs vs P).toArray 56 (0, 0)) := (Below.heap_alloc w _ lb hlb).trans hL.blk
  have b2 : ((w.alloc (.cells #[.int .i64 ((a : Int)), .int .i64 xs, .int .i64 xt, xdv, .int .i64 xk, .int .i64 ((j : Int)), .int .i64 xn, .int .i64 xu, .int .i64 xpt, .int .i64 xpa, .string xky, .string xtx] 37)).drew.alloc (.cells #[.int .i64 ((a : Int)), .int .i64 xs, .int .i64 xt, xdv, .int .i64 xk, .int .i64 ((j : Int)), .int .i64 xn, .int .i64 xu, .int .i64 xpt, .int .i64 xpa, .string xky, .string xtx] 37)).heap[w.heap.size]? = some (.cells #[.int .i64 ((a : Int)), .int .i64 xs, .int .i64 xt, xdv, .int .i64 xk, .int .i64 ((j : Int)), .int .i64 xn, .int .i64 xu, .int .i64 xpt, .int .i64 xpa, .string xky, .string xtx] 37 (0, 0)) := (Below.heap_alloc _ _ _ (by show w.heap.size < (w.alloc (.cells #[.int .i64 ((a : Int)), .int .i64 xs, .int .i64 xt, xdv, .int .i64 xk, .int .i64 ((j : Int)), .int .i64 xn, .int .i64 xu, .int .i64 xpt, .int .i64 xpa, .string xky, .string xtx] 37)).heap.size; simp)).trans b1
  have l2 : ((w.alloc (.cells #[.int .i64 ((a : Int)), .int .i64 xs, .int .i64 xt, xdv, .int .i64 xk, .int .i64 ((j : Int)), .int .i64 xn, .int .i64 xu, .int .i64 xpt, .int .i64 xpa, .string xky, .string xtx] 37)).drew.alloc (.cells #[.int .i64 ((a : Int)), .int .i64 xs, .int .i64 xt, xdv, .int .i64 xk, .int .i64 ((j : Int)), .int .i64 xn, .int .i64 xu, .int .i64 xpt, .int .i64 xpa, .string xky, .string xtx] 37)).heap[lb]? = some (.cells (ledCs vs P).toArray 56 (0, 0)) := (Below.heap_alloc _ _ _ (by show lb < (w.alloc (.cells #[.int .i64 ((a : Int)), .int .i64 xs, .int .i64 xt, xdv, .int .i64 xk, .int .i64 ((j : Int)), .int .i64 xn, .int .i64 xu, .int .i64 xpt, .int .i64 xpa, .string xky, .string xtx] 37)).heap.size; simp; omega)).trans l1
  have HO : Hid (((w.alloc (.cells #[.int .i64 ((a : Int)), .int .i64 xs, .int .i64 xt, xdv, .int .i64 xk, .int .i64 ((j : Int)), .int .i64 xn, .int .i64 xu, .int .i64 xpt, .int .i64 xpa, .string xky, .string xtx] 37)).drew.alloc (.cells #[.int .i64 ((a : Int)), .int .i64 xs, .int .i64 xt, xdv, .int .i64 xk, .int .i64 ((j : Int)), .int .i64 xn, .int .i64 xu, .int .i64 xpt, .int .i64 xpa, .string xky, .string xtx] 37)).ownsRow B 37 12 va m (rowCs (byA P a))) := World.ownsRow.alloc (show (w.alloc (.cells #[.int .i64 ((a : Int)), .int .i64 xs, .int .i64 xt, xdv, .int .i64 xk, .int .i64 ((j : Int)), .int .i64 xn, .int .i64 xu, .int .i64 xpt, .int .i64 xpa, .string xky, .string xtx] 37)).drew.ownsRow B 37 12 va m (rowCs (byA P a)) from World.ownsRow.alloc HRW.out _) _
  have HNW : Hid (∀ j' u, [.int .i64 ((a : Int)), .int .i64 xs, .int .i64 xt, xdv, .int .i64 xk, .int .i64 ((j : Int)), .int .i64 xn, .int .i64 xu, .int .i64 xpt, .int .i64 xpa, .string xky, .string xtx][j']? = some u → ((w.alloc (.cells #[.int .i64 ((a : Int)), .int .i64 xs, .int .i64 xt, xdv, .int .i64 xk, .int .i64 ((j : Int)), .int .i64 xn, .int .i64 xu, .int .i64 xpt, .int .i64 xpa, .string xky, .string xtx] 37)).drew.alloc (.cells #[.int .i64 ((a : Int)), .int .i64 xs, .int .i64 xt, xdv, .int .i64 xk, .int .i64 ((j : Int)), .int .i64 xn, .int .i64 xu, .int .i64 xpt, .int .i64 xpa, .string xky, .string xtx] 37)).cell? ((⟨w.heap.size + 1, 0, none⟩ : Addr).add j') = some u) := by
    have := heap_alloc_new (w.alloc (.cells #[.int .i64 ((a : Int)), .int .i64 xs, .int .i64 xt, xdv, .int .i64 xk, .int .i64 ((j : Int)), .int .i64 xn, .int .i64 xu, .int .i64 xpt, .int .i64 xpa, .string xky, .string xtx] 37)).drew (.cells #[.int .i64 ((a : Int)), .int .i64 xs, .int .i64 xt, xdv, .int .i64 xk, .int .i64 ((j : Int)), .int .i64 xn, .int .i64 xu, .int .i64 xpt, .int .i64 xpa, .string xky, .string xtx] 37)
    rw [show (w.alloc (.cells #[.int .i64 ((a : Int)), .int .i64 xs, .int .i64 xt, xdv, .int .i64 xk, .int .i64 ((j : Int)), .int .i64 xn, .int .i64 xu, .int .i64 xpt, .int .i64 xpa, .string xky, .string xtx] 37)).drew.heap.size = w.heap.size + 1 from World.size_alloc _ _] at this
    exact World.news_of_block this
  have HON : Hid (∀ u ∈ [.int .i64 ((a : Int)), .int .i64 xs, .int .i64 xt, xdv, .int .i64 xk, .int .i64 ((j : Int)), .int .i64 xn, .int .i64 xu, .int .i64 xpt, .int .i64 xpa, .string xky, .string xtx], u.oneCell' = true) := cs_one ⟨a, xs, xt, xdv, xk, j, xn, xu, xpt, xpa, xky, xtx, xds⟩ hd
  have HM1 : Hid (m + 1 ≤ maxLen) := by unfold Hid maxLen; omega
  have HM2 : Hid ((m + 1) * 128 ≤ 140737488355328) := by unfold Hid; omega
  have HM3 : Hid (B ≤ ((w.alloc (.cells #[.int .i64 ((a : Int)), .int .i64 xs, .int .i64 xt, xdv, .int .i64 xk, .int .i64 ((j : Int)), .int .i64 xn, .int .i64 xu, .int .i64 xpt, .int .i64 xpa, .string xky, .string xtx] 37)).drew.alloc (.cells #[.int .i64 ((a : Int)), .int .i64 xs, .int .i64 xt, xdv, .int .i64 xk, .int .i64 ((j : Int)), .int .i64 xn, .int .i64 xu, .int .i64 xpt, .int .i64 xpa, .string xky, .string xtx] 37)).heap.size) := by unfold Hid; rw [World.size_alloc]; show B ≤ (w.alloc (.cells #[.int .i64 ((a : Int)), .int .i64 xs, .int .i64 xt, xdv, .int .i64 xk, .int .i64 ((j : Int)), .int .i64 xn, .int .i64 xu, .int .i64 xpt, .int .i64 xpa, .string xky, .string xtx] 37)).heap.size + 1; rw [World.size_alloc]; omega
  have hj' : (j : Int) < 101 := by omega
  have ha' : (a : Int) < 16 := by omega
  have c1 : (w.alloc (.cells #[.int .i64 ((a : Int)), .int .i64 xs, .int .i64 xt, xdv, .int .i64 xk, .int .i64 ((j : Int)), .int .i64 xn, .int .i64 xu, .int .i64 xpt, .int .i64 xpa, .string xky, .string xtx] 37)).drew.cell? ⟨lb, a, none⟩ = some va := blk_cell l1 a (by simpa using HLV.out)
  have c2 : ((w.alloc (.cells #[.int .i64 ((a : Int)), .int .i64 xs, .int .i64 xt, xdv, .int .i64 xk, .int .i64 ((j : Int)), .int .i64 xn, .int .i64 xu, .int .i64 xpt, .int .i64 xpa, .string xky, .string xtx] 37)).drew.alloc (.cells #[.int .i64 ((a : Int)), .int .i64 xs, .int .i64 xt, xdv, .int .i64 xk, .int .i64 ((j : Int)), .int .i64 xn, .int .i64 xu, .int .i64 xpt, .int .i64 xpa, .string xky, .string xtx] 37)).cell? ⟨lb, a, none⟩ = some va := blk_cell l2 a (by simpa using HLV.out)
  have HFIN : Hid (∀ (g cap : Nat) (w7 : World), w7.ownsRow B 37 12 (.slice (some ⟨g, 0, none⟩) (m + 1) cap) (m + 1) (rowCs (byA P a) ++ [.int .i64 ((a : Int)), .int .i64 xs, .int .i64 xt, xdv, .int .i64 xk, .int .i64 ((j : Int)), .int .i64 xn, .int .i64 xu, .int .i64 xpt, .int .i64 xpa, .string xky, .string xtx]) → ((w.alloc (.cells #[.int .i64 ((a : Int)), .int .i64 xs, .int .i64 xt, xdv, .int .i64 xk, .int .i64 ((j : Int)), .int .i64 xn, .int .i64 xu, .int .i64 xpt, .int .i64 xpa, .string xky, .string xtx] 37)).drew.alloc (.cells #[.int .i64 ((a : Int)), .int .i64 xs, .int .i64 xt, xdv, .int .i64 xk, .int .i64 ((j : Int)), .int .i64 xn, .int .i64 xu, .int .i64 xpt, .int .i64 xpa, .string xky, .string xtx] 37)).grownBy w7 va.ownBlock → (va.ownBlock = some g ∨ g = ((w.alloc (.cells #[.int .i64 ((a : Int)), .int .i64 xs, .int .i64 xt, xdv, .int .i64 xk, .int .i64 ((j : Int)), .int .i64 xn, .int .i64 xu, .int .i64 xpt, .int .i64 xpa, .string xky, .string xtx] 37)).drew.alloc (.cells #[.int .i64 ((a : Int)), .int .i64 xs, .int .i64 xt, xdv, .int .i64 xk, .int .i64 ((j : Int)), .int .i64 xn, .int .i64 xu, .int .i64 xpt, .int .i64 xpa, .string xky, .string xtx] 37)).heap.size) → g < w7.heap.size → w7.heap[w.heap.size]? = some (.cells #[.int .i64 ((a : Int)), .int .i64 xs, .int .i64 xt, xdv, .int .i64 xk, .int .i64 ((j : Int)), .int .i64 xn, .int .i64 xu, .int .i64 xpt, .int .i64 xpa, .string xky, .string xtx] 37 (0, 0)) → w7.heap[lb]? = some (.cells (ledCs vs P).toArray 56 (0, 0)) →
      (w7.setCell ⟨lb, a, none⟩ (.slice (some ⟨g, 0, none⟩) (m + 1) cap)).cell? ⟨lb, 16 + j, none⟩ = some (.int .i64 ((tsOf P).getD j 0)) ∧ (w7.setCell ⟨lb, a, none⟩ (.slice (some ⟨g, 0, none⟩) (m + 1) cap)).cell? ⟨lb, 16 + j, none⟩ = some (.int .i64 ((tsOf P).getD j 0)) ∧ (w7.setCell ⟨lb, a, none⟩ (.slice (some ⟨g, 0, none⟩) (m + 1) cap)).frozen? ⟨lb, 16 + j, none⟩ = false ∧ ((w7.setCell ⟨lb, a, none⟩ (.slice (some ⟨g, 0, none⟩) (m + 1) cap)).setCell ⟨lb, 16 + j, none⟩ (.int .i64 (thOf xk))).cell? ⟨lb, 117, none⟩ = some (.int .i64 (P.length : Int)) ∧ ((w7.setCell ⟨lb, a, none⟩ (.slice (some ⟨g, 0, none⟩) (m + 1) cap)).setCell ⟨lb, 16 + j, none⟩ (.int .i64 (thOf xk))).frozen? ⟨lb, 117, none⟩ = false ∧
        (∃ vs', Led (((w7.setCell ⟨lb, a, none⟩ (.slice (some ⟨g, 0, none⟩) (m + 1) cap)).setCell ⟨lb, 16 + j, none⟩ (.int .i64 (thOf xk))).setCell ⟨lb, 117, none⟩ (.int .i64 ((P.length : Int) + 1))) B lb vs' (P ++ [⟨a, xs, xt, xdv, xk, j, xn, xu, xpt, xpa, xky, xtx, xds⟩])) ∧ Below B w (((w7.setCell ⟨lb, a, none⟩ (.slice (some ⟨g, 0, none⟩) (m + 1) cap)).setCell ⟨lb, 16 + j, none⟩ (.int .i64 (thOf xk))).setCell ⟨lb, 117, none⟩ (.int .i64 ((P.length : Int) + 1)))) := by
    intro g cap w7 ho7 hg7 hat hlt7 b7 l7
    have z2 : ((w.alloc (.cells #[.int .i64 ((a : Int)), .int .i64 xs, .int .i64 xt, xdv, .int .i64 xk, .int .i64 ((j : Int)), .int .i64 xn, .int .i64 xu, .int .i64 xpt, .int .i64 xpa, .string xky, .string xtx] 37)).drew.alloc (.cells #[.int .i64 ((a : Int)), .int .i64 xs, .int .i64 xt, xdv, .int .i64 xk, .int .i64 ((j : Int)), .int .i64 xn, .int .i64 xu, .int .i64 xpt, .int .i64 xpa, .string xky, .string xtx] 37)).heap.size = w.heap.size + 1 + 1 := by rw [World.size_alloc]; show (w.alloc (.cells #[.int .i64 ((a : Int)), .int .i64 xs, .int .i64 xt, xdv, .int .i64 xk, .int .i64 ((j : Int)), .int .i64 xn, .int .i64 xu, .int .i64 xpt, .int .i64 xpa, .string xky, .string xtx] 37)).heap.size + 1 = _; rw [World.size_alloc]
    have e2 : ∀ k, k < w.heap.size → ((w.alloc (.cells #[.int .i64 ((a : Int)), .int .i64 xs, .int .i64 xt, xdv, .int .i64 xk, .int .i64 ((j : Int)), .int .i64 xn, .int .i64 xu, .int .i64 xpt, .int .i64 xpa, .string xky, .string xtx] 37)).drew.alloc (.cells #[.int .i64 ((a : Int)), .int .i64 xs, .int .i64 xt, xdv, .int .i64 xk, .int .i64 ((j : Int)), .int .i64 xn, .int .i64 xu, .int .i64 xpt, .int .i64 xpa, .string xky, .string xtx] 37)).heap[k]? = w.heap[k]? := fun k hk => (Below.heap_alloc _ _ k (by show k < (w.alloc (.cells #[.int .i64 ((a : Int)), .int .i64 xs, .int .i64 xt, xdv, .int .i64 xk, .int .i64 ((j : Int)), .int .i64 xn, .int .i64 xu, .int .i64 xpt, .int .i64 xpa, .string xky, .string xtx] 37)).heap.size; rw [World.size_alloc]; omega)).trans (Below.heap_alloc w _ k hk)
    have hgb : g ≠ lb := by
      rcases hat with h | h
      · exact (HOB.out g h).2
      · omega
    have l118 := ledCs_len (P := P) hL.len
    have o7 := own_full l7 (by rw [l118]; decide)
    rw [l118] at o7
    have o8 := own_set o7 a (.slice (some ⟨g, 0, none⟩) (m + 1) cap)
    have o9 := own_set o8 (16 + j) (.int .i64 (thOf xk))
    have o10 := own_set o9 117 (.int .i64 ((P.length : Int) + 1))
    have hd8 : (w7.setCell ⟨lb, a, none⟩ (.slice (some ⟨g, 0, none⟩) (m + 1) cap)).cell? ⟨lb, 16 + j, none⟩ = some (.int .i64 ((tsOf P).getD j 0)) := own_at o8 (by rw [List.getElem?_set_ne (by omega)]; exact led_ts hL.len hj)
    refine ⟨hd8, hd8, own_free o8 _, own_at o9 (by rw [List.getElem?_set_ne (by omega), List.getElem?_set_ne (by omega)]; exact led_sz hL.len), own_free o9 _, ⟨vs.set a (.slice (some ⟨g, 0, none⟩) (m + 1) cap), ?_⟩, ?_⟩
    · have far8 : ∀ k, k ≠ lb → (((w7.setCell ⟨lb, a, none⟩ (.slice (some ⟨g, 0, none⟩) (m + 1) cap)).setCell ⟨lb, 16 + j, none⟩ (.int .i64 (thOf xk))).setCell ⟨lb, 117, none⟩ (.int .i64 ((P.length : Int) + 1))).heap[k]? = w7.heap[k]? := fun k hk =>
        (heap_setCell_other _ ⟨lb, 117, none⟩ k _ hk).trans ((heap_setCell_other _ ⟨lb, 16 + j, none⟩ k _ hk).trans (heap_setCell_other _ ⟨lb, a, none⟩ k _ hk))
      have same : ∀ b, b ≠ a → (vs.set a (.slice (some ⟨g, 0, none⟩) (m + 1) cap)).getD b undef = vs.getD b undef := fun b hb => by
        rw [List.getD_eq_getElem?_getD, List.getElem?_set_ne (by omega), ← List.getD_eq_getElem?_getD]
      have self : (vs.set a (.slice (some ⟨g, 0, none⟩) (m + 1) cap)).getD a undef = .slice (some ⟨g, 0, none⟩) (m + 1) cap := by
        rw [List.getD_eq_getElem?_getD, List.getElem?_set_self (by have := hL.len; omega)]
        rfl
      have old : ∀ b, b < 16 → ∀ k, (vs.getD b undef).ownBlock = some k → k < w.heap.size := fun b hb k hk => by
        obtain ⟨_, h2⟩ := hL.row b hb
        rcases h2 with ⟨hv, _⟩ | ⟨g', cap', cur, hv, _, hh, _⟩
        · rw [hv] at hk; cases hk
        · rw [hv] at hk
          simp only [Value.ownBlock, Option.some.injEq] at hk
          subst hk
          exact (Array.getElem?_eq_some_iff.1 hh).1
      have apart : ∀ b, b < 16 → b ≠ a → (vs.getD b undef).ownBlock ≠ some g := fun b hb hne e => by
        rcases hat with h | h
        · exact hL.part a b ha hb (fun e => hne e.symm) g (by rw [hva]; exact h) e
        · have := old b hb g e
          omega
      refine ⟨by simp [hL.len], ?_, hL.low, fun b hb => ?_, fun b hb => ?_, fun b c hb hc hbc k hk => ?_⟩
      · have := full_own o10 (by simp [l118])
        rw [led_set (x := ⟨a, xs, xt, xdv, xk, j, xn, xu, xpt, xpa, xky, xtx, xds⟩) hL.len ha hj rfl] at this
        exact this
      · by_cases e : b = a
        · subst e
          rw [self, byA_snoc, if_pos rfl, List.length_append, hm, rowCs_app]
          exact owns_blk ho7 (far8 g hgb)
        · rw [same b e, byA_snoc, if_neg (by show ¬ (a : Int) = (b : Int); omega)]
          refine owns_all (hL.row b hb) fun k hk => ?_
          have h1 := old b hb k hk
          rw [far8 k (fun e' => hL.far b hb (by rw [hk, e'])), hg7.block k (by omega) (fun e' => by rw [← hva] at e'; exact hL.part a b ha hb (fun e0 => e e0.symm) k e'.symm hk), e2 k h1]
      · by_cases e : b = a
        · subst e
          rw [self]
          intro h
          simp only [Value.ownBlock, Option.some.injEq] at h
          exact hgb h
        · rw [same b e]
          exact hL.far b hb
      · by_cases e : b = a
        · subst e
          rw [self] at hk
          simp only [Value.ownBlock, Option.some.injEq] at hk
          subst hk
          rw [same c (fun e => hbc e.symm)]
          exact apart c hc (fun e => hbc e.symm)
        · rw [same b e] at hk
          by_cases e' : c = a
          · subst e'
            rw [self]
            intro h
            simp only [Value.ownBlock, Option.some.injEq] at h
            subst h
            exact apart b hb e hk
          · rw [same c e']
            exact hL.part b c hb hc hbc k hk
    · have hB2 : Below B w ((w.alloc (.cells #[.int .i64 ((a : Int)), .int .i64 xs, .int .i64 xt, xdv, .int .i64 xk, .int .i64 ((j : Int)), .int .i64 xn, .int .i64 xu, .int .i64 xpt, .int .i64 xpa, .string xky, .string xtx] 37)).drew.alloc (.cells #[.int .i64 ((a : Int)), .int .i64 xs, .int .i64 xt, xdv, .int .i64 xk, .int .i64 ((j : Int)), .int .i64 xn, .int .i64 xu, .int .i64 xpt, .int .i64 xpa, .string xky, .string xtx] 37)) := ((((Below.refl w.heap.size w).alloc (Nat.le_refl _) _).drew).alloc (by show w.heap.size ≤ (w.alloc (.cells #[.int .i64 ((a : Int)), .int .i64 xs, .int .i64 xt, xdv, .int .i64 xk, .int .i64 ((j : Int)), .int .i64 xn, .int .i64 xu, .int .i64 xpt, .int .i64 xpa, .string xky, .string xtx] 37)).heap.size; rw [World.size_alloc]; omega) _).mono hBw
      have hB7 : Below B w w7 := hB2.grown hg7 (by omega) (fun k hk => by
        obtain ⟨_, h2⟩ := HRW.out
        rcases h2 with ⟨hv, _⟩ | ⟨g', cap', cur, hv, hb', _⟩
        · rw [hv] at hk; cases hk
        · rw [hv] at hk
          simp only [Value.ownBlock, Option.some.injEq] at hk
          omega)
      exact ((hB7.setCell (p := ⟨lb, a, none⟩) hL.low _).setCell (p := ⟨lb, 16 + j, none⟩) hL.low _).setCell (p := ⟨lb, 117, none⟩) hL.low _
  go_enter Tryz.func42, Tryz.ntmps42
  go_wp2_with fail
  refine wp_region_held_drew (S := fun w' => w'.cell? ⟨w.heap.size, 0, none⟩ = some (.int .i64 ((a : Int))) ∧ w'.cell? ⟨w.heap.size, 1, none⟩ = some (.int .i64 xs) ∧ w'.cell? ⟨w.heap.size, 2, none⟩ = some (.int .i64 xt) ∧ w'.cell? ⟨w.heap.size, 3, none⟩ = some (xdv) ∧ w'.cell? ⟨w.heap.size, 4, none⟩ = some (.int .i64 xk) ∧ w'.cell? ⟨w.heap.size, 5, none⟩ = some (.int .i64 ((j : Int))) ∧ w'.cell? ⟨w.heap.size, 6, none⟩ = some (.int .i64 xn) ∧ w'.cell? ⟨w.heap.size, 7, none⟩ = some (.int .i64 xu) ∧ w'.cell? ⟨w.heap.size, 8, none⟩ = some (.int .i64 xpt) ∧ w'.cell? ⟨w.heap.size, 9, none⟩ = some (.int .i64 xpa) ∧ w'.cell? ⟨w.heap.size, 10, none⟩ = some (.string xky) ∧ w'.cell? ⟨w.heap.size, 11, none⟩ = some (.string xtx)) (by kernel_rfl) (HF.out _ b1) (fun hHeld => ?_)
  refine tkH 0 (.pointer (some ⟨lb, 0, none⟩)) rfl (Or.inl ⟨by kernel_rfl, by intro w hSw; obtain ⟨s0, s1, s2, s3, s4, s5, s6, s7, s8, s9, s10, s11⟩ := hSw; go_simp⟩) hHeld ?_
  simp only [tkS, Act.put]
  refine tkH 1 (.pointer (some ⟨w.heap.size, 0, none⟩)) rfl (Or.inl ⟨by kernel_rfl, by intro w hSw; obtain ⟨s0, s1, s2, s3, s4, s5, s6, s7, s8, s9, s10, s11⟩ := hSw; go_simp⟩) hHeld ?_
  simp only [tkS, Act.put]
  refine tkH 2 (.int .i64 ((a : Int))) rfl (Or.inl ⟨by kernel_rfl, by intro w hSw; obtain ⟨s0, s1, s2, s3, s4, s5, s6, s7, s8, s9, s10, s11⟩ := hSw; go_simp⟩) hHeld ?_
  simp only [tkS, Act.put]
  refine tkH 3 (.pointer (some ⟨lb, 0, none⟩)) rfl (Or.inl ⟨by kernel_rfl, by intro w hSw; obtain ⟨s0, s1, s2, s3, s4, s5, s6, s7, s8, s9, s10, s11⟩ := hSw; go_simp⟩) hHeld ?_
  simp only [tkS, Act.put]
  refine tkH 4 (.pointer (some ⟨w.heap.size, 0, none⟩)) rfl (Or.inl ⟨by kernel_rfl, by intro w hSw; obtain ⟨s0, s1, s2, s3, s4, s5, s6, s7, s8, s9, s10, s11⟩ := hSw; go_simp⟩) hHeld ?_
  simp only [tkS, Act.put]
  refine tkH 5 (.int .i64 ((a : Int))) rfl (Or.inl ⟨by kernel_rfl, by intro w hSw; obtain ⟨s0, s1, s2, s3, s4, s5, s6, s7, s8, s9, s10, s11⟩ := hSw; go_simp⟩) hHeld ?_
  simp only [tkS, Act.put]
  refine tkH 6 (.pointer (some ⟨lb, 0, none⟩)) rfl (Or.inl ⟨by kernel_rfl, by intro w hSw; obtain ⟨s0, s1, s2, s3, s4, s5, s6, s7, s8, s9, s10, s11⟩ := hSw; go_simp⟩) hHeld ?_
  simp only [tkS, Act.put]
  refine tkH 7 (.pointer (some ⟨lb, 0, none⟩)) rfl (Or.inl ⟨by kernel_rfl, by intro w hSw; obtain ⟨s0, s1, s2, s3, s4, s5, s6, s7, s8, s9, s10, s11⟩ := hSw; go_simp⟩) hHeld ?_
  simp only [tkS, Act.put]
  refine tkH 8 (.pointer (some ⟨lb, a, none⟩)) rfl (Or.inl ⟨by kernel_rfl, by intro w hSw; obtain ⟨s0, s1, s2, s3, s4, s5, s6, s7, s8, s9, s10, s11⟩ := hSw; go_simp⟩) hHeld ?_
  simp only [tkS, Act.put]
  refine tkH 10 (.agg #[.int .i64 ((a : Int)), .int .i64 xs, .int .i64 xt, xdv, .int .i64 xk, .int .i64 ((j : Int)), .int .i64 xn, .int .i64 xu, .int .i64 xpt, .int .i64 xpa, .string xky, .string xtx]) rfl (Or.inl ⟨by kernel_rfl, by intro w hSw; obtain ⟨s0, s1, s2, s3, s4, s5, s6, s7, s8, s9, s10, s11⟩ := hSw; go_simp⟩) hHeld ?_
  simp only [tkS, Act.put]
  refine tkH 13 (.pointer (some ⟨lb, 0, none⟩)) rfl (Or.inl ⟨by kernel_rfl, by intro w hSw; obtain ⟨s0, s1, s2, s3, s4, s5, s6, s7, s8, s9, s10, s11⟩ := hSw; go_simp⟩) hHeld ?_
  simp only [tkS, Act.put]
  refine tkH 14 (.pointer (some ⟨lb, 0, none⟩)) rfl (Or.inl ⟨by kernel_rfl, by intro w hSw; obtain ⟨s0, s1, s2, s3, s4, s5, s6, s7, s8, s9, s10, s11⟩ := hSw; go_simp⟩) hHeld ?_
  simp only [tkS, Act.put]
  refine wpAnyH_ready (rs := [9, 11]) (by kernel_rfl) (by simp) ?_
  refine AllReadyH.cons rfl (fun K hK => ?_) (AllReadyH.cons rfl (fun K hK => ?_) AllReadyH.nil)
  · have c9 := c1
    have c9b : (w.alloc (.cells #[.int .i64 ((a : Int)), .int .i64 xs, .int .i64 xt, xdv, .int .i64 xk, .int .i64 ((j : Int)), .int .i64 xn, .int .i64 xu, .int .i64 xpt, .int .i64 xpa, .string xky, .string xtx] 37)).cell? ⟨lb, a, none⟩ = some va := c1
    go_simp
    refine hK.out _ _ (HF.out _ b1) (fun hHeld => ?_)
    clear hK K
    refine wpAnyH_ready (rs := [11]) (by kernel_rfl) (by simp) ?_
    refine AllReadyH.cons rfl (fun K hK => ?_) AllReadyH.nil
    go_simp
    refine hK.out _ _ (HF.out _ b2) (fun hHeld => ?_)
    clear hK K
    refine wpAnyH_ready (rs := [12]) (by kernel_rfl) (by simp) ?_
    refine AllReadyH.cons rfl (fun K hK => ?_) AllReadyH.nil
    refine step_append_lies _ rfl (.tmp 13) (.tmp 15) 23 rfl B 37 i0 (.agg #[.int .i64 0, .int .i64 0, .int .i64 0, .slice none 0 0, .int .i64 0, .int .i64 0, .int .i64 0, .int .i64 0, .int .i64 0, .int .i64 0, .string ByteArray.empty, .string ByteArray.empty]) 12 128 Tryz.underlying23 hi hz0 hz1 hz2 rfl (by decide) va m (rowCs (byA P a)) rfl HO.out ⟨w.heap.size + 1, 0, none⟩ 1 1 [.int .i64 ((a : Int)), .int .i64 xs, .int .i64 xt, xdv, .int .i64 xk, .int .i64 ((j : Int)), .int .i64 xn, .int .i64 xu, .int .i64 xpt, .int .i64 xpa, .string xky, .string xtx] rfl rfl HNW.out HON.out (by decide) HM1.out HM2.out HM3.out _ rfl ?_
    intro g cap w7 ho7 hg7 hat hlt7
    have b7 : w7.heap[w.heap.size]? = some (.cells #[.int .i64 ((a : Int)), .int .i64 xs, .int .i64 xt, xdv, .int .i64 xk, .int .i64 ((j : Int)), .int .i64 xn, .int .i64 xu, .int .i64 xpt, .int .i64 xpa, .string xky, .string xtx] 37 (0, 0)) := (hg7.block w.heap.size (Array.getElem?_eq_some_iff.1 b2).1 (fun e => by have := (HOB.out _ e.symm).1; omega)).trans b2
    have l7 : w7.heap[lb]? = some (.cells (ledCs vs P).toArray 56 (0, 0)) := (hg7.block lb (Array.getElem?_eq_some_iff.1 l2).1 (fun e => (HOB.out _ e.symm).2 rfl)).trans l2
    have HEND : Hid _ := HFIN.out g cap w7 ho7 hg7 hat hlt7 b7 l7
    have c7 := blk_cell l7 a (by simpa using HLV.out)
    have f7 := blk_free l7 a
    clear ho7 hg7 hat hlt7
    refine hK.out _ _ (HF.out _ b7) (fun hHeld => ?_)
    clear hK K
    refine tkH 15 (.pointer (some ⟨lb, a, none⟩)) rfl (Or.inl ⟨by kernel_rfl, by intro w hSw; obtain ⟨s0, s1, s2, s3, s4, s5, s6, s7, s8, s9, s10, s11⟩ := hSw; go_simp⟩) hHeld ?_
    simp only [tkS, Act.put]
    refine wpAnyH_ready (rs := [16]) (by kernel_rfl) (by simp) ?_
    refine AllReadyH.cons rfl (fun K hK => ?_) AllReadyH.nil
    go_simp
    have b8 : (w7.setCell ⟨lb, a, none⟩ (.slice (some ⟨g, 0, none⟩) (m + 1) cap)).heap[w.heap.size]? = some (.cells #[.int .i64 ((a : Int)), .int .i64 xs, .int .i64 xt, xdv, .int .i64 xk, .int .i64 ((j : Int)), .int .i64 xn, .int .i64 xu, .int .i64 xpt, .int .i64 xpa, .string xky, .string xtx] 37 (0, 0)) := (heap_setCell_other w7 ⟨lb, a, none⟩ w.heap.size _ (by show w.heap.size ≠ lb; omega)).trans b7
    refine hK.out _ _ (HF.out _ b8) (fun hHeld => ?_)
    clear hK K
    refine wpAnyH_done (by kernel_rfl) ?_ _
    obtain ⟨d8, d9, f9, d10, f10, HLED, HBEL⟩ := HEND.out
    have hS8 := HF.out _ b8
    go_wp2_with fail
    refine wp_region_held_drew (S := fun w' => w'.cell? ⟨w.heap.size, 0, none⟩ = some (.int .i64 ((a : Int))) ∧ w'.cell? ⟨w.heap.size, 1, none⟩ = some (.int .i64 xs) ∧ w'.cell? ⟨w.heap.size, 2, none⟩ = some (.int .i64 xt) ∧ w'.cell? ⟨w.heap.size, 3, none⟩ = some (xdv) ∧ w'.cell? ⟨w.heap.size, 4, none⟩ = some (.int .i64 xk) ∧ w'.cell? ⟨w.heap.size, 5, none⟩ = some (.int .i64 ((j : Int))) ∧ w'.cell? ⟨w.heap.size, 6, none⟩ = some (.int .i64 xn) ∧ w'.cell? ⟨w.heap.size, 7, none⟩ = some (.int .i64 xu) ∧ w'.cell? ⟨w.heap.size, 8, none⟩ = some (.int .i64 xpt) ∧ w'.cell? ⟨w.heap.size, 9, none⟩ = some (.int .i64 xpa) ∧ w'.cell? ⟨w.heap.size, 10, none⟩ = some (.string xky) ∧ w'.cell? ⟨w.heap.size, 11, none⟩ = some (.string xtx)) (by kernel_rfl) (HF.out _ b8) (fun hHeld => ?_)
    refine tkH 0 (.pointer (some ⟨lb, 0, none⟩)) rfl (Or.inl ⟨by kernel_rfl, by intro w hSw; obtain ⟨s0, s1, s2, s3, s4, s5, s6, s7, s8, s9, s10, s11⟩ := hSw; go_simp⟩) hHeld ?_
    simp only [tkS, Act.put]
    refine tkH 1 (.pointer (some ⟨w.heap.size, 5, none⟩)) rfl (Or.inl ⟨by kernel_rfl, by intro w hSw; obtain ⟨s0, s1, s2, s3, s4, s5, s6, s7, s8, s9, s10, s11⟩ := hSw; go_simp⟩) hHeld ?_
    simp only [tkS, Act.put]
    refine tkH 2 (.int .i64 ((j : Int))) rfl (Or.inl ⟨by kernel_rfl, by intro w hSw; obtain ⟨s0, s1, s2, s3, s4, s5, s6, s7, s8, s9, s10, s11⟩ := hSw; go_simp⟩) hHeld ?_
    simp only [tkS, Act.put]
    refine tkH 3 (.pointer (some ⟨w.heap.size, 4, none⟩)) rfl (Or.inl ⟨by kernel_rfl, by intro w hSw; obtain ⟨s0, s1, s2, s3, s4, s5, s6, s7, s8, s9, s10, s11⟩ := hSw; go_simp⟩) hHeld ?_
    simp only [tkS, Act.put]
    refine tkH 4 (.int .i64 xk) rfl (Or.inl ⟨by kernel_rfl, by intro w hSw; obtain ⟨s0, s1, s2, s3, s4, s5, s6, s7, s8, s9, s10, s11⟩ := hSw; go_simp⟩) hHeld ?_
    simp only [tkS, Act.put]
    refine tkH 6 (.pointer (some ⟨lb, 0, none⟩)) rfl (Or.inl ⟨by kernel_rfl, by intro w hSw; obtain ⟨s0, s1, s2, s3, s4, s5, s6, s7, s8, s9, s10, s11⟩ := hSw; go_simp⟩) hHeld ?_
    simp only [tkS, Act.put]
    refine tkH 7 (.pointer (some ⟨lb, 16, none⟩)) rfl (Or.inl ⟨by kernel_rfl, by intro w hSw; obtain ⟨s0, s1, s2, s3, s4, s5, s6, s7, s8, s9, s10, s11⟩ := hSw; go_simp⟩) hHeld ?_
    simp only [tkS, Act.put]
    refine wpAnyH_ready (rs := [5]) (by kernel_rfl) (by simp) ?_
    refine AllReadyH.cons rfl (fun K hK => ?_) AllReadyH.nil
    go_simp
    refine (thingOf_any _ _).mono ?_
    rintro e wn ⟨rfl, hw⟩
    obtain rfl := hw.symm
    clear hw
    go_wp2_with fail
    refine hK.out _ _ (HF.out _ b8) (fun hHeld => ?_)
    clear hK K
    refine tkH 8 (.pointer (some ⟨lb, 16 + j, none⟩)) rfl (Or.inl ⟨by kernel_rfl, by intro w hSw; obtain ⟨s0, s1, s2, s3, s4, s5, s6, s7, s8, s9, s10, s11⟩ := hSw; go_simp⟩) hHeld ?_
    simp only [tkS, Act.put]
    refine wpAnyH_ready (rs := [9]) (by kernel_rfl) (by simp) ?_
    refine AllReadyH.cons rfl (fun K hK => ?_) AllReadyH.nil
    go_simp
    have b9 : ((w7.setCell ⟨lb, a, none⟩ (.slice (some ⟨g, 0, none⟩) (m + 1) cap)).setCell ⟨lb, 16 + j, none⟩ (.int .i64 (thOf xk))).drew.heap[w.heap.size]? = some (.cells #[.int .i64 ((a : Int)), .int .i64 xs, .int .i64 xt, xdv, .int .i64 xk, .int .i64 ((j : Int)), .int .i64 xn, .int .i64 xu, .int .i64 xpt, .int .i64 xpa, .string xky, .string xtx] 37 (0, 0)) := (heap_setCell_other (w7.setCell ⟨lb, a, none⟩ (.slice (some ⟨g, 0, none⟩) (m + 1) cap)) ⟨lb, 16 + j, none⟩ w.heap.size _ (by show w.heap.size ≠ lb; omega)).trans b8
    refine hK.out _ _ (HF.out _ b9) (fun hHeld => ?_)
    clear hK K
    refine wpAnyH_done (by kernel_rfl) ?_ _
    go_wp2_with fail
    go_end0
    exact ⟨rfl, by obtain ⟨vs9, h9⟩ := HLED; exact ⟨vs9, h9.drew⟩, HBEL.drew⟩
  · go_simp
    refine hK.out _ _ (HF.out _ b2) (fun hHeld => ?_)
    clear hK K
    refine wpAnyH_ready (rs := [9]) (by kernel_rfl) (by simp) ?_
    refine AllReadyH.cons rfl (fun K hK => ?_) AllReadyH.nil
    have c9 := c2
    have c9a : ((w.alloc (.cells #[.int .i64 ((a : Int)), .int .i64 xs, .int .i64 xt, xdv, .int .i64 xk, .int .i64 ((j : Int)), .int .i64 xn, .int .i64 xu, .int .i64 xpt, .int .i64 xpa, .string xky, .string xtx] 37)).alloc (.cells #[.int .i64 ((a : Int)), .int .i64 xs, .int .i64 xt, xdv, .int .i64 xk, .int .i64 ((j : Int)), .int .i64 xn, .int .i64 xu, .int .i64 xpt, .int .i64 xpa, .string xky, .string xtx] 37)).cell? ⟨lb, a, none⟩ = some va := c2
    have c9b : (w.alloc (.cells #[.int .i64 ((a : Int)), .int .i64 xs, .int .i64 xt, xdv, .int .i64 xk, .int .i64 ((j : Int)), .int .i64 xn, .int .i64 xu, .int .i64 xpt, .int .i64 xpa, .string xky, .string xtx] 37)).cell? ⟨lb, a, none⟩ = some va := c1
    go_simp
    refine hK.out _ _ (HF.out _ b2) (fun hHeld => ?_)
    clear hK K
    refine wpAnyH_ready (rs := [12]) (by kernel_rfl) (by simp) ?_
    refine AllReadyH.cons rfl (fun K hK => ?_) AllReadyH.nil
    refine step_append_lies _ rfl (.tmp 13) (.tmp 15) 23 rfl B 37 i0 (.agg #[.int .i64 0, .int .i64 0, .int .i64 0, .slice none 0 0, .int .i64 0, .int .i64 0, .int .i64 0, .int .i64 0, .int .i64 0, .int .i64 0, .string ByteArray.empty, .string ByteArray.empty]) 12 128 Tryz.underlying23 hi hz0 hz1 hz2 rfl (by decide) va m (rowCs (byA P a)) rfl HO.out ⟨w.heap.size + 1, 0, none⟩ 1 1 [.int .i64 ((a : Int)), .int .i64 xs, .int .i64 xt, xdv, .int .i64 xk, .int .i64 ((j : Int)), .int .i64 xn, .int .i64 xu, .int .i64 xpt, .int .i64 xpa, .string xky, .string xtx] rfl rfl HNW.out HON.out (by decide) HM1.out HM2.out HM3.out _ rfl ?_
    intro g cap w7 ho7 hg7 hat hlt7
    have b7 : w7.heap[w.heap.size]? = some (.cells #[.int .i64 ((a : Int)), .int .i64 xs, .int .i64 xt, xdv, .int .i64 xk, .int .i64 ((j : Int)), .int .i64 xn, .int .i64 xu, .int .i64 xpt, .int .i64 xpa, .string xky, .string xtx] 37 (0, 0)) := (hg7.block w.heap.size (Array.getElem?_eq_some_iff.1 b2).1 (fun e => by have := (HOB.out _ e.symm).1; omega)).trans b2
    have l7 : w7.heap[lb]? = some (.cells (ledCs vs P).toArray 56 (0, 0)) := (hg7.block lb (Array.getElem?_eq_some_iff.1 l2).1 (fun e => (HOB.out _ e.symm).2 rfl)).trans l2
    have HEND : Hid _ := HFIN.out g cap w7 ho7 hg7 hat hlt7 b7 l7
    have c7 := blk_cell l7 a (by simpa using HLV.out)
    have f7 := blk_free l7 a
    clear ho7 hg7 hat hlt7
    refine hK.out _ _ (HF.out _ b7) (fun hHeld => ?_)
    clear hK K
    refine tkH 15 (.pointer (some ⟨lb, a, none⟩)) rfl (Or.inl ⟨by kernel_rfl, by intro w hSw; obtain ⟨s0, s1, s2, s3, s4, s5, s6, s7, s8, s9, s10, s11⟩ := hSw; go_simp⟩) hHeld ?_
    simp only [tkS, Act.put]
    refine wpAnyH_ready (rs := [16]) (by kernel_rfl) (by simp) ?_
    refine AllReadyH.cons rfl (fun K hK => ?_) AllReadyH.nil
    go_simp
    have b8 : (w7.setCell ⟨lb, a, none⟩ (.slice (some ⟨g, 0, none⟩) (m + 1) cap)).heap[w.heap.size]? = some (.cells #[.int .i64 ((a : Int)), .int .i64 xs, .int .i64 xt, xdv, .int .i64 xk, .int .i64 ((j : Int)), .int .i64 xn, .int .i64 xu, .int .i64 xpt, .int .i64 xpa, .string xky, .string xtx] 37 (0, 0)) := (heap_setCell_other w7 ⟨lb, a, none⟩ w.heap.size _ (by show w.heap.size ≠ lb; omega)).trans b7
    refine hK.out _ _ (HF.out _ b8) (fun hHeld => ?_)
    clear hK K
    refine wpAnyH_done (by kernel_rfl) ?_ _
    obtain ⟨d8, d9, f9, d10, f10, HLED, HBEL⟩ := HEND.out
    have hS8 := HF.out _ b8
    go_wp2_with fail
    refine wp_region_held_drew (S := fun w' => w'.cell? ⟨w.heap.size, 0, none⟩ = some (.int .i64 ((a : Int))) ∧ w'.cell? ⟨w.heap.size, 1, none⟩ = some (.int .i64 xs) ∧ w'.cell? ⟨w.heap.size, 2, none⟩ = some (.int .i64 xt) ∧ w'.cell? ⟨w.heap.size, 3, none⟩ = some (xdv) ∧ w'.cell? ⟨w.heap.size, 4, none⟩ = some (.int .i64 xk) ∧ w'.cell? ⟨w.heap.size, 5, none⟩ = some (.int .i64 ((j : Int))) ∧ w'.cell? ⟨w.heap.size, 6, none⟩ = some (.int .i64 xn) ∧ w'.cell? ⟨w.heap.size, 7, none⟩ = some (.int .i64 xu) ∧ w'.cell? ⟨w.heap.size, 8, none⟩ = some (.int .i64 xpt) ∧ w'.cell? ⟨w.heap.size, 9, none⟩ = some (.int .i64 xpa) ∧ w'.cell? ⟨w.heap.size, 10, none⟩ = some (.string xky) ∧ w'.cell? ⟨w.heap.size, 11, none⟩ = some (.string xtx)) (by kernel_rfl) (HF.out _ b8) (fun hHeld => ?_)
    refine tkH 0 (.pointer (some ⟨lb, 0, none⟩)) rfl (Or.inl ⟨by kernel_rfl, by intro w hSw; obtain ⟨s0, s1, s2, s3, s4, s5, s6, s7, s8, s9, s10, s11⟩ := hSw; go_simp⟩) hHeld ?_
    simp only [tkS, Act.put]
    refine tkH 1 (.pointer (some ⟨w.heap.size, 5, none⟩)) rfl (Or.inl ⟨by kernel_rfl, by intro w hSw; obtain ⟨s0, s1, s2, s3, s4, s5, s6, s7, s8, s9, s10, s11⟩ := hSw; go_simp⟩) hHeld ?_
    simp only [tkS, Act.put]
    refine tkH 2 (.int .i64 ((j : Int))) rfl (Or.inl ⟨by kernel_rfl, by intro w hSw; obtain ⟨s0, s1, s2, s3, s4, s5, s6, s7, s8, s9, s10, s11⟩ := hSw; go_simp⟩) hHeld ?_
    simp only [tkS, Act.put]
    refine tkH 3 (.pointer (some ⟨w.heap.size, 4, none⟩)) rfl (Or.inl ⟨by kernel_rfl, by intro w hSw; obtain ⟨s0, s1, s2, s3, s4, s5, s6, s7, s8, s9, s10, s11⟩ := hSw; go_simp⟩) hHeld ?_
    simp only [tkS, Act.put]
    refine tkH 4 (.int .i64 xk) rfl (Or.inl ⟨by kernel_rfl, by intro w hSw; obtain ⟨s0, s1, s2, s3, s4, s5, s6, s7, s8, s9, s10, s11⟩ := hSw; go_simp⟩) hHeld ?_
    simp only [tkS, Act.put]
    refine tkH 6 (.pointer (some ⟨lb, 0, none⟩)) rfl (Or.inl ⟨by kernel_rfl, by intro w hSw; obtain ⟨s0, s1, s2, s3, s4, s5, s6, s7, s8, s9, s10, s11⟩ := hSw; go_simp⟩) hHeld ?_
    simp only [tkS, Act.put]
    refine tkH 7 (.pointer (some ⟨lb, 16, none⟩)) rfl (Or.inl ⟨by kernel_rfl, by intro w hSw; obtain ⟨s0, s1, s2, s3, s4, s5, s6, s7, s8, s9, s10, s11⟩ := hSw; go_simp⟩) hHeld ?_
    simp only [tkS, Act.put]
    refine wpAnyH_ready (rs := [5]) (by kernel_rfl) (by simp) ?_
    refine AllReadyH.cons rfl (fun K hK => ?_) AllReadyH.nil
    go_simp
    refine (thingOf_any _ _).mono ?_
    rintro e wn ⟨rfl, hw⟩
    obtain rfl := hw.symm
    clear hw
    go_wp2_with fail
    refine hK.out _ _ (HF.out _ b8) (fun hHeld => ?_)
    clear hK K
    refine tkH 8 (.pointer (some ⟨lb, 16 + j, none⟩)) rfl (Or.inl ⟨by kernel_rfl, by intro w hSw; obtain ⟨s0, s1, s2, s3, s4, s5, s6, s7, s8, s9, s10, s11⟩ := hSw; go_simp⟩) hHeld ?_
    simp only [tkS, Act.put]
    refine wpAnyH_ready (rs := [9]) (by kernel_rfl) (by simp) ?_
    refine AllReadyH.cons rfl (fun K hK => ?_) AllReadyH.nil
    go_simp
    have b9 : ((w7.setCell ⟨lb, a, none⟩ (.slice (some ⟨g, 0, none⟩) (m + 1) cap)).setCell ⟨lb, 16 + j, none⟩ (.int .i64 (thOf xk))).drew.heap[w.heap.size]? = some (.cells #[.int .i64 ((a : Int)), .int .i64 xs, .int .i64 xt, xdv, .int .i64 xk, .int .i64 ((j : Int)), .int .i64 xn, .int .i64 xu, .int .i64 xpt, .int .i64 xpa, .string xky, .string xtx] 37 (0, 0)) := (heap_setCell_other (w7.setCell ⟨lb, a, none⟩ (.slice (some ⟨g, 0, none⟩) (m + 1) cap)) ⟨lb, 16 + j, none⟩ w.heap.size _ (by show w.heap.size ≠ lb; omega)).trans b8
    refine hK.out _ _ (HF.out _ b9) (fun hHeld => ?_)
    clear hK K
    refine wpAnyH_done (by kernel_rfl) ?_ _
    go_wp2_with fail
    go_end0
    exact ⟨rfl, by obtain ⟨vs9, h9⟩ := HLED; exact ⟨vs9, h9.drew⟩, HBEL.drew⟩
end Go.Proofs.YtocffojhhjdeoaaGreat

namespace Go.Proofs.YtocffojhhjdeoaaGreat
open Go.RowKit
set_option linter.unusedVariables false

/-- What the operation x counts of actor a is there, and below it. -/
def causeOK (P : List Ov) (x : Ov) (a : Nat) : Bool := decide (x.ds.getD a 0 ≤ ((byA P a).length : Int)) && (decide (x.ds.getD a 0 ≤ 0) || lessS (ovAt (byA P a) (x.ds.getD a 0 - 1).toNat).t (ovAt (byA P a) (x.ds.getD a 0 - 1).toNat).a x.t x.a)
def causesB (P : List Ov) (x : Ov) : Bool := (List.range 16).all (causeOK P x)
theorem rowCs_at : ∀ (L : List Ov) (k i : Nat), k < L.length → i < 12 → (rowCs L)[k * 12 + i]? = (ovAt L k).cs[i]? := by
  intro L
  induction L with
  | nil => intro k i h; simp at h
  | cons y L ih =>
    intro k i h hi
    have e : rowCs (y :: L) = y.cs ++ rowCs L := by simp [rowCs]
    have l12 : y.cs.length = 12 := rfl
    rw [e]
    cases k with
    | zero => rw [List.getElem?_append_left (by omega)]; simp [ovAt]
    | succ k =>
      rw [List.getElem?_append_right (by omega), show (k + 1) * 12 + i - y.cs.length = k * 12 + i by omega, ih k i (by simpa using h) hi]
      rfl
theorem row_at {w : World} {B g n cap : Nat} {L : List Ov} (h : w.ownsRow B 37 12 (.slice (some ⟨g, 0, none⟩) n cap) L.length (rowCs L)) {k : Nat} (hk : k < L.length) : OpAt w g (k * 12) (ovAt L k) := by
  obtain ⟨h1, h2⟩ := h
  rcases h2 with ⟨hv, _⟩ | ⟨g', cap', cur, hv, _, hh, _, _, hs, ht⟩
  · simp at hv
  · simp only [Value.slice.injEq, Option.some.injEq, Addr.mk.injEq, and_true] at hv
    obtain ⟨rfl, rfl, rfl⟩ := hv
    have cell : ∀ i, i < 12 → w.cell? ⟨g, k * 12 + i, none⟩ = (ovAt L k).cs[i]? := fun i hi => by
      rw [← rowCs_at L k i hk hi, ← ht, List.getElem?_take_of_lt (by omega)]
      unfold World.cell?
      rw [show w.heap[(⟨g, k * 12 + i, none⟩ : Addr).block]? = some (.cells cur 37 (0, 0)) from hh]
      simp
    exact ⟨cell 0 (by omega), cell 1 (by omega), cell 2 (by omega), cell 3 (by omega), cell 4 (by omega), cell 5 (by omega), cell 6 (by omega), cell 7 (by omega), cell 8 (by omega), cell 9 (by omega), cell 10 (by omega), cell 11 (by omega)⟩

set_option maxHeartbeats 4000000 in
set_option maxRecDepth 100000 in
theorem hasCauses_any (B C lb : Nat) (vs : List Value) (P : List Ov) (x : Ov) (w : World) (hL : Led w B lb vs P) (hP : P.length ≤ 1024) (hC : C ≤ w.heap.size) (hr : Rd C w x.dv (x.ds.map (Value.int .i64))) (hv : vecOK x.ds = true) :
    Calls Tryz.prog 68 #[.pointer (some ⟨lb, 0, none⟩), .agg #[.int .i64 x.a, .int .i64 x.s, .int .i64 x.t, x.dv, .int .i64 x.k, .int .i64 x.o, .int .i64 x.n, .int .i64 x.u, .int .i64 x.pt, .int .i64 x.pa, .string x.ky, .string x.tx]] w fun e w' => e = .returned (.bool (causesB P x)) ∧ Below w.heap.size w w' := by
  have HNO : Hid (∀ a, a < 16 → causeOK P x a = false → causesB P x = false) := fun a ha h => by
    rw [causesB, Bool.eq_false_iff]
    intro h'
    rw [List.all_eq_true] at h'
    rw [h' a (List.mem_range.2 ha)] at h
    cases h
  have HYES : Hid ((∀ a, a < 16 → causeOK P x a = true) → causesB P x = true) := fun h => by
    rw [causesB, List.all_eq_true]
    exact fun a ha => h a (List.mem_range.1 ha)
  have l16 := vec_16 hv
  have HD : Hid (∀ a, a < 16 → 0 ≤ x.ds.getD a 0 ∧ x.ds.getD a 0 ≤ 1000000000000) := fun a ha => by
    unfold vecOK at hv
    simp only [Bool.and_eq_true, List.all_eq_true] at hv
    have := hv.2 (x.ds.getD a 0) (by rw [List.getD_eq_getElem?_getD, List.getElem?_eq_getElem (by omega)]; exact List.getElem_mem _)
    unfold cOK at this
    simpa using this
  have hlb := hL.lt
  have HLE : Hid (∀ a, (byA P a).length ≤ 1024) := fun a => Nat.le_trans (List.length_filter_le _ _) hP
  obtain ⟨ad, cd, hdv, hcap, hmax, hnil, hrr⟩ := hr
  rw [List.length_map] at hrr hcap hdv
  obtain ⟨gd, od, rfl, hg, hc⟩ := hrr (by omega)
  rw [l16] at hdv
  have HDC : Hid (∀ a, a < 16 → w.cell? ⟨gd, od + a, none⟩ = some (.int .i64 (x.ds.getD a 0))) := fun a ha => hc a _ (by rw [List.getElem?_map, List.getD_eq_getElem?_getD, List.getElem?_eq_getElem (by omega)]; rfl)
  have hgd : gd < w.heap.size := by omega
  obtain ⟨r, HR⟩ : ∃ r, Hid (causesB P x = r) := ⟨_, rfl⟩
  rw [HR.out]
  have HK : Hid (∀ a, causeOK P x a = (decide (x.ds.getD a 0 ≤ ((byA P a).length : Int)) && (decide (x.ds.getD a 0 ≤ 0) || lessS (ovAt (byA P a) (x.ds.getD a 0 - 1).toNat).t (ovAt (byA P a) (x.ds.getD a 0 - 1).toNat).a x.t x.a))) := fun _ => rfl
  obtain ⟨xa, xs, xt, xdv, xk, xo, xn, xu, xpt, xpa, xky, xtx, xds⟩ := x
  simp only at *
  subst hdv
  have hB0 := Below.refl (w.alloc (.cells #[.int .i64 xa, .int .i64 xs, .int .i64 xt, .slice (some ⟨gd, od, none⟩) 16 cd, .int .i64 xk, .int .i64 xo, .int .i64 xn, .int .i64 xu, .int .i64 xpt, .int .i64 xpa, .string xky, .string xtx] 37)).heap.size (w.alloc (.cells #[.int .i64 xa, .int .i64 xs, .int .i64 xt, .slice (some ⟨gd, od, none⟩) 16 cd, .int .i64 xk, .int .i64 xo, .int .i64 xn, .int .i64 xu, .int .i64 xpt, .int .i64 xpa, .string xky, .string xtx] 37))
  clear hrr hc hnil hcap hg
  go_enter Tryz.func68, Tryz.ntmps68
  go_wp2_with fail
  go_loopw [11] (fun ti wr => ∃ k : Nat, k ≤ 16 ∧ ti = .int .i64 (k : Int) ∧ Below (w.alloc (.cells #[.int .i64 xa, .int .i64 xs, .int .i64 xt, .slice (some ⟨gd, od, none⟩) 16 cd, .int .i64 xk, .int .i64 xo, .int .i64 xn, .int .i64 xu, .int .i64 xpt, .int .i64 xpa, .string xky, .string xtx] 37)).heap.size (w.alloc (.cells #[.int .i64 xa, .int .i64 xs, .int .i64 xt, .slice (some ⟨gd, od, none⟩) 16 cd, .int .i64 xk, .int .i64 xo, .int .i64 xn, .int .i64 xu, .int .i64 xpt, .int .i64 xpa, .string xky, .string xtx] 37)) wr ∧ Hid (∀ a, a < k → causeOK P ⟨xa, xs, xt, .slice (some ⟨gd, od, none⟩) 16 cd, xk, xo, xn, xu, xpt, xpa, xky, xtx, xds⟩ a = true)) (fun ti _ => 16 - (intOf ti).toNat)
  case atStart => exact ⟨0, by omega, rfl, hB0, fun a ha => absurd ha (by omega)⟩
  case round =>
    obtain ⟨k, hk, rfl, hB, HA⟩ := hrel
    clear hB0
    by_cases hlt : k < 16
    · have hki : (k : Int) < 16 := by omega
      have cd1 : wr.cell? ⟨gd, od + k, none⟩ = some (.int .i64 (xds.getD k 0)) := ((below_seq (below_alloc w _) hB).cell (p := ⟨gd, od + k, none⟩) hgd).trans (HDC.out k hlt)
      obtain ⟨ao, cap, hsl⟩ := hL.slice hlt
      have hck : w.cell? ⟨lb, k, none⟩ = some (.slice ao (byA P k).length cap) := by rw [← hsl]; exact hL.cell (led_vs hL.len hlt)
      have hrow := hL.row k hlt
      rw [hsl] at hrow
      have hd := HD.out k hlt
      have hm := HLE.out k
      have HKk := HK.out k
      have HNk : Hid (causeOK P ⟨xa, xs, xt, .slice (some ⟨gd, od, none⟩) 16 cd, xk, xo, xn, xu, xpt, xpa, xky, xtx, xds⟩ k = false → r = false) := fun h => HR.out.symm.trans (HNO.out k hlt h)
      have HAk : Hid (causeOK P ⟨xa, xs, xt, .slice (some ⟨gd, od, none⟩) 16 cd, xk, xo, xn, xu, xpt, xpa, xky, xtx, xds⟩ k = true → Hid (∀ a, a < k + 1 → causeOK P ⟨xa, xs, xt, .slice (some ⟨gd, od, none⟩) 16 cd, xk, xo, xn, xu, xpt, xpa, xky, xtx, xds⟩ a = true)) := fun h a ha => by
        by_cases e : a = k
        · subst e; exact h
        · exact HA.out a (by omega)
      generalize causeOK P ⟨xa, xs, xt, .slice (some ⟨gd, od, none⟩) 16 cd, xk, xo, xn, xu, xpt, xpa, xky, xtx, xds⟩ k = ck at HKk HNk HAk
      generalize xds.getD k 0 = d at *
      replace hB := hB.drew
      by_cases h1 : ((byA P k).length : Int) < d
      · have HE : Hid (r = false) := HNk.out (by rw [HKk, decide_eq_false (by omega)]; rfl)
        generalize (byA P k).length = m at *
        clear HKk HNk HAk HA hrow
        have HF : Hid (∀ wx, Below (w.alloc (.cells #[.int .i64 xa, .int .i64 xs, .int .i64 xt, .slice (some ⟨gd, od, none⟩) 16 cd, .int .i64 xk, .int .i64 xo, .int .i64 xn, .int .i64 xu, .int .i64 xpt, .int .i64 xpa, .string xky, .string xtx] 37)).heap.size (w.alloc (.cells #[.int .i64 xa, .int .i64 xs, .int .i64 xt, .slice (some ⟨gd, od, none⟩) 16 cd, .int .i64 xk, .int .i64 xo, .int .i64 xn, .int .i64 xu, .int .i64 xpt, .int .i64 xpa, .string xky, .string xtx] 37)) wx → wx.cell? ⟨w.heap.size, 0, none⟩ = some (.int .i64 xa) ∧ wx.cell? ⟨w.heap.size, 1, none⟩ = some (.int .i64 xs) ∧ wx.cell? ⟨w.heap.size, 2, none⟩ = some (.int .i64 xt) ∧ wx.cell? ⟨w.heap.size, 3, none⟩ = some (.slice (some ⟨gd, od, none⟩) 16 cd) ∧ wx.cell? ⟨w.heap.size, 4, none⟩ = some (.int .i64 xk) ∧ wx.cell? ⟨w.heap.size, 5, none⟩ = some (.int .i64 xo) ∧ wx.cell? ⟨w.heap.size, 6, none⟩ = some (.int .i64 xn) ∧ wx.cell? ⟨w.heap.size, 7, none⟩ = some (.int .i64 xu) ∧ wx.cell? ⟨w.heap.size, 8, none⟩ = some (.int .i64 xpt) ∧ wx.cell? ⟨w.heap.size, 9, none⟩ = some (.int .i64 xpa) ∧ wx.cell? ⟨w.heap.size, 10, none⟩ = some (.string xky) ∧ wx.cell? ⟨w.heap.size, 11, none⟩ = some (.string xtx) ∧ wx.cell? ⟨lb, k, none⟩ = some (.slice ao m cap)) := fun wx h => by
          obtain ⟨q0, q1, q2, q3, q4, q5, q6, q7, q8, q9, q10, q11⟩ := op_cells h
          exact ⟨q0, q1, q2, q3, q4, q5, q6, q7, q8, q9, q10, q11, (below_seq (below_alloc w _) h).cell (p := ⟨lb, k, none⟩) hlb |>.trans hck⟩
        go_wp2_with fail
        refine wp_region_held_drew (S := fun w' => w'.cell? ⟨w.heap.size, 0, none⟩ = some (.int .i64 xa) ∧ w'.cell? ⟨w.heap.size, 1, none⟩ = some (.int .i64 xs) ∧ w'.cell? ⟨w.heap.size, 2, none⟩ = some (.int .i64 xt) ∧ w'.cell? ⟨w.heap.size, 3, none⟩ = some (.slice (some ⟨gd, od, none⟩) 16 cd) ∧ w'.cell? ⟨w.heap.size, 4, none⟩ = some (.int .i64 xk) ∧ w'.cell? ⟨w.heap.size, 5, none⟩ = some (.int .i64 xo) ∧ w'.cell? ⟨w.heap.size, 6, none⟩ = some (.int .i64 xn) ∧ w'.cell? ⟨w.heap.size, 7, none⟩ = some (.int .i64 xu) ∧ w'.cell? ⟨w.heap.size, 8, none⟩ = some (.int .i64 xpt) ∧ w'.cell? ⟨w.heap.size, 9, none⟩ = some (.int .i64 xpa) ∧ w'.cell? ⟨w.heap.size, 10, none⟩ = some (.string xky) ∧ w'.cell? ⟨w.heap.size, 11, none⟩ = some (.string xtx) ∧ w'.cell? ⟨lb, k, none⟩ = some (.slice ao m cap)) (by kernel_rfl) (HF.out _ hB) (fun hHeld => ?_)
        refine tkH 0 (.int .i64 d) rfl (Or.inl ⟨by kernel_rfl, by intro w hSw; obtain ⟨s0, s1, s2, s3, s4, s5, s6, s7, s8, s9, s10, s11, s12⟩ := hSw; go_simp⟩) hHeld ?_
        simp only [tkS, Act.put]
        refine tkH 1 (.pointer (some ⟨lb, 0, none⟩)) rfl (Or.inl ⟨by kernel_rfl, by intro w hSw; obtain ⟨s0, s1, s2, s3, s4, s5, s6, s7, s8, s9, s10, s11, s12⟩ := hSw; go_simp⟩) hHeld ?_
        simp only [tkS, Act.put]
        refine tkH 2 (.int .i64 ((k : Int))) rfl (Or.inl ⟨by kernel_rfl, by intro w hSw; obtain ⟨s0, s1, s2, s3, s4, s5, s6, s7, s8, s9, s10, s11, s12⟩ := hSw; go_simp⟩) hHeld ?_
        simp only [tkS, Act.put]
        refine tkH 3 (.pointer (some ⟨lb, 0, none⟩)) rfl (Or.inl ⟨by kernel_rfl, by intro w hSw; obtain ⟨s0, s1, s2, s3, s4, s5, s6, s7, s8, s9, s10, s11, s12⟩ := hSw; go_simp⟩) hHeld ?_
        simp only [tkS, Act.put]
        refine tkH 4 (.pointer (some ⟨lb, 0, none⟩)) rfl (Or.inl ⟨by kernel_rfl, by intro w hSw; obtain ⟨s0, s1, s2, s3, s4, s5, s6, s7, s8, s9, s10, s11, s12⟩ := hSw; go_simp⟩) hHeld ?_
        simp only [tkS, Act.put]
        refine tkH 5 (.pointer (some ⟨lb, k, none⟩)) rfl (Or.inl ⟨by kernel_rfl, by intro w hSw; obtain ⟨s0, s1, s2, s3, s4, s5, s6, s7, s8, s9, s10, s11, s12⟩ := hSw; go_simp⟩) hHeld ?_
        simp only [tkS, Act.put]
        refine tkH 6 (.slice ao m cap) rfl (Or.inl ⟨by kernel_rfl, by intro w hSw; obtain ⟨s0, s1, s2, s3, s4, s5, s6, s7, s8, s9, s10, s11, s12⟩ := hSw; go_simp⟩) hHeld ?_
        simp only [tkS, Act.put]
        refine tkH 7 (.int .i64 ((m : Int))) rfl (Or.inl ⟨by kernel_rfl, by intro w hSw; obtain ⟨s0, s1, s2, s3, s4, s5, s6, s7, s8, s9, s10, s11, s12⟩ := hSw; go_simp⟩) hHeld ?_
        simp only [tkS, Act.put]
        refine tkH 8 (.bool true) rfl (Or.inl ⟨by kernel_rfl, by intro w hSw; obtain ⟨s0, s1, s2, s3, s4, s5, s6, s7, s8, s9, s10, s11, s12⟩ := hSw; go_simp⟩) hHeld ?_
        simp only [tkS, Act.put]
        refine tkH 9 (.bool true) rfl (Or.inl ⟨by kernel_rfl, by intro w hSw; obtain ⟨s0, s1, s2, s3, s4, s5, s6, s7, s8, s9, s10, s11, s12⟩ := hSw; go_simp⟩) hHeld ?_
        simp only [tkS, Act.put]
        refine tkH 10 (undef) rfl (Or.inr ⟨by kernel_rfl, rfl⟩) hHeld ?_
        simp only [tkS, Act.put]
        refine tkH 11 (undef) rfl (Or.inr ⟨by kernel_rfl, rfl⟩) hHeld ?_
        simp only [tkS, Act.put]
        refine tkH 12 (undef) rfl (Or.inr ⟨by kernel_rfl, rfl⟩) hHeld ?_
        simp only [tkS, Act.put]
        refine tkH 13 (undef) rfl (Or.inr ⟨by kernel_rfl, rfl⟩) hHeld ?_
        simp only [tkS, Act.put]
        refine tkH 14 (undef) rfl (Or.inr ⟨by kernel_rfl, rfl⟩) hHeld ?_
        simp only [tkS, Act.put]
        refine tkH 15 (undef) rfl (Or.inr ⟨by kernel_rfl, rfl⟩) hHeld ?_
        simp only [tkS, Act.put]
        refine tkH 16 (undef) rfl (Or.inr ⟨by kernel_rfl, rfl⟩) hHeld ?_
        simp only [tkS, Act.put]
        refine tkH 17 (undef) rfl (Or.inr ⟨by kernel_rfl, rfl⟩) hHeld ?_
        simp only [tkS, Act.put]
        refine tkH 18 (undef) rfl (Or.inr ⟨by kernel_rfl, rfl⟩) hHeld ?_
        simp only [tkS, Act.put]
        refine tkH 19 (undef) rfl (Or.inr ⟨by kernel_rfl, rfl⟩) hHeld ?_
        simp only [tkS, Act.put]
        refine tkH 20 (undef) rfl (Or.inr ⟨by kernel_rfl, rfl⟩) hHeld ?_
        simp only [tkS, Act.put]
        refine tkH 21 (undef) rfl (Or.inr ⟨by kernel_rfl, rfl⟩) hHeld ?_
        simp only [tkS, Act.put]
        refine tkH 22 (undef) rfl (Or.inr ⟨by kernel_rfl, rfl⟩) hHeld ?_
        simp only [tkS, Act.put]
        refine tkH 24 (undef) rfl (Or.inr ⟨by kernel_rfl, rfl⟩) hHeld ?_
        simp only [tkS, Act.put]
        refine wpAnyH_ready (rs := [23]) (by kernel_rfl) (by simp) ?_
        refine AllReadyH.cons rfl (fun K hK => ?_) AllReadyH.nil
        go_simp
        refine hK.out _ _ (HF.out _ hB) (fun hHeld => ?_)
        clear hK K
        refine wpAnyH_ready (rs := [25]) (by kernel_rfl) (by simp) ?_
        refine AllReadyH.cons rfl (fun K hK => ?_) AllReadyH.nil
        go_simp
        refine hK.out _ _ (HF.out _ hB) (fun hHeld => ?_)
        clear hK K
        refine wpAnyH_ready (rs := [26]) (by kernel_rfl) (by simp) ?_
        refine AllReadyH.cons rfl (fun K hK => ?_) AllReadyH.nil
        go_simp
        refine hK.out _ _ (HF.out _ hB) (fun hHeld => ?_)
        clear hK K
        refine tkH 27 (undef) rfl (Or.inr ⟨by kernel_rfl, rfl⟩) hHeld ?_
        simp only [tkS, Act.put]
        refine tkH 28 (undef) rfl (Or.inr ⟨by kernel_rfl, rfl⟩) hHeld ?_
        simp only [tkS, Act.put]
        refine tkH 29 (.bool true) rfl (Or.inl ⟨by kernel_rfl, by intro w hSw; obtain ⟨s0, s1, s2, s3, s4, s5, s6, s7, s8, s9, s10, s11, s12⟩ := hSw; go_simp⟩) hHeld ?_
        simp only [tkS, Act.put]
        refine wpAnyH_done (by kernel_rfl) ?_ _
        go_wp2_with fail
        go_ret
        exact ⟨by rw [HE.out]; rfl, below_seq (below_alloc _ _) hB⟩
      · by_cases h2 : d ≤ 0
        · have HE := HAk.out (by rw [HKk, decide_eq_true (by omega : d ≤ ((byA P k).length : Int)), decide_eq_true h2]; rfl)
          generalize (byA P k).length = m at *
          have h2' : ¬ 0 < d := by omega
          clear HKk HNk HAk HA hrow
          have HF : Hid (∀ wx, Below (w.alloc (.cells #[.int .i64 xa, .int .i64 xs, .int .i64 xt, .slice (some ⟨gd, od, none⟩) 16 cd, .int .i64 xk, .int .i64 xo, .int .i64 xn, .int .i64 xu, .int .i64 xpt, .int .i64 xpa, .string xky, .string xtx] 37)).heap.size (w.alloc (.cells #[.int .i64 xa, .int .i64 xs, .int .i64 xt, .slice (some ⟨gd, od, none⟩) 16 cd, .int .i64 xk, .int .i64 xo, .int .i64 xn, .int .i64 xu, .int .i64 xpt, .int .i64 xpa, .string xky, .string xtx] 37)) wx → wx.cell? ⟨w.heap.size, 0, none⟩ = some (.int .i64 xa) ∧ wx.cell? ⟨w.heap.size, 1, none⟩ = some (.int .i64 xs) ∧ wx.cell? ⟨w.heap.size, 2, none⟩ = some (.int .i64 xt) ∧ wx.cell? ⟨w.heap.size, 3, none⟩ = some (.slice (some ⟨gd, od, none⟩) 16 cd) ∧ wx.cell? ⟨w.heap.size, 4, none⟩ = some (.int .i64 xk) ∧ wx.cell? ⟨w.heap.size, 5, none⟩ = some (.int .i64 xo) ∧ wx.cell? ⟨w.heap.size, 6, none⟩ = some (.int .i64 xn) ∧ wx.cell? ⟨w.heap.size, 7, none⟩ = some (.int .i64 xu) ∧ wx.cell? ⟨w.heap.size, 8, none⟩ = some (.int .i64 xpt) ∧ wx.cell? ⟨w.heap.size, 9, none⟩ = some (.int .i64 xpa) ∧ wx.cell? ⟨w.heap.size, 10, none⟩ = some (.string xky) ∧ wx.cell? ⟨w.heap.size, 11, none⟩ = some (.string xtx) ∧ wx.cell? ⟨lb, k, none⟩ = some (.slice ao m cap)) := fun wx h => by
            obtain ⟨q0, q1, q2, q3, q4, q5, q6, q7, q8, q9, q10, q11⟩ := op_cells h
            exact ⟨q0, q1, q2, q3, q4, q5, q6, q7, q8, q9, q10, q11, (below_seq (below_alloc w _) h).cell (p := ⟨lb, k, none⟩) hlb |>.trans hck⟩
          go_wp2_with fail
          refine wp_region_held_drew (S := fun w' => w'.cell? ⟨w.heap.size, 0, none⟩ = some (.int .i64 xa) ∧ w'.cell? ⟨w.heap.size, 1, none⟩ = some (.int .i64 xs) ∧ w'.cell? ⟨w.heap.size, 2, none⟩ = some (.int .i64 xt) ∧ w'.cell? ⟨w.heap.size, 3, none⟩ = some (.slice (some ⟨gd, od, none⟩) 16 cd) ∧ w'.cell? ⟨w.heap.size, 4, none⟩ = some (.int .i64 xk) ∧ w'.cell? ⟨w.heap.size, 5, none⟩ = some (.int .i64 xo) ∧ w'.cell? ⟨w.heap.size, 6, none⟩ = some (.int .i64 xn) ∧ w'.cell? ⟨w.heap.size, 7, none⟩ = some (.int .i64 xu) ∧ w'.cell? ⟨w.heap.size, 8, none⟩ = some (.int .i64 xpt) ∧ w'.cell? ⟨w.heap.size, 9, none⟩ = some (.int .i64 xpa) ∧ w'.cell? ⟨w.heap.size, 10, none⟩ = some (.string xky) ∧ w'.cell? ⟨w.heap.size, 11, none⟩ = some (.string xtx) ∧ w'.cell? ⟨lb, k, none⟩ = some (.slice ao m cap)) (by kernel_rfl) (HF.out _ hB) (fun hHeld => ?_)
          refine tkH 0 (.int .i64 d) rfl (Or.inl ⟨by kernel_rfl, by intro w hSw; obtain ⟨s0, s1, s2, s3, s4, s5, s6, s7, s8, s9, s10, s11, s12⟩ := hSw; go_simp⟩) hHeld ?_
          simp only [tkS, Act.put]
          refine tkH 1 (.pointer (some ⟨lb, 0, none⟩)) rfl (Or.inl ⟨by kernel_rfl, by intro w hSw; obtain ⟨s0, s1, s2, s3, s4, s5, s6, s7, s8, s9, s10, s11, s12⟩ := hSw; go_simp⟩) hHeld ?_
          simp only [tkS, Act.put]
          refine tkH 2 (.int .i64 ((k : Int))) rfl (Or.inl ⟨by kernel_rfl, by intro w hSw; obtain ⟨s0, s1, s2, s3, s4, s5, s6, s7, s8, s9, s10, s11, s12⟩ := hSw; go_simp⟩) hHeld ?_
          simp only [tkS, Act.put]
          refine tkH 3 (.pointer (some ⟨lb, 0, none⟩)) rfl (Or.inl ⟨by kernel_rfl, by intro w hSw; obtain ⟨s0, s1, s2, s3, s4, s5, s6, s7, s8, s9, s10, s11, s12⟩ := hSw; go_simp⟩) hHeld ?_
          simp only [tkS, Act.put]
          refine tkH 4 (.pointer (some ⟨lb, 0, none⟩)) rfl (Or.inl ⟨by kernel_rfl, by intro w hSw; obtain ⟨s0, s1, s2, s3, s4, s5, s6, s7, s8, s9, s10, s11, s12⟩ := hSw; go_simp⟩) hHeld ?_
          simp only [tkS, Act.put]
          refine tkH 5 (.pointer (some ⟨lb, k, none⟩)) rfl (Or.inl ⟨by kernel_rfl, by intro w hSw; obtain ⟨s0, s1, s2, s3, s4, s5, s6, s7, s8, s9, s10, s11, s12⟩ := hSw; go_simp⟩) hHeld ?_
          simp only [tkS, Act.put]
          refine tkH 6 (.slice ao m cap) rfl (Or.inl ⟨by kernel_rfl, by intro w hSw; obtain ⟨s0, s1, s2, s3, s4, s5, s6, s7, s8, s9, s10, s11, s12⟩ := hSw; go_simp⟩) hHeld ?_
          simp only [tkS, Act.put]
          refine tkH 7 (.int .i64 ((m : Int))) rfl (Or.inl ⟨by kernel_rfl, by intro w hSw; obtain ⟨s0, s1, s2, s3, s4, s5, s6, s7, s8, s9, s10, s11, s12⟩ := hSw; go_simp⟩) hHeld ?_
          simp only [tkS, Act.put]
          refine tkH 8 (.bool false) rfl (Or.inl ⟨by kernel_rfl, by intro w hSw; obtain ⟨s0, s1, s2, s3, s4, s5, s6, s7, s8, s9, s10, s11, s12⟩ := hSw; go_simp⟩) hHeld ?_
          simp only [tkS, Act.put]
          refine tkH 9 (.bool false) rfl (Or.inl ⟨by kernel_rfl, by intro w hSw; obtain ⟨s0, s1, s2, s3, s4, s5, s6, s7, s8, s9, s10, s11, s12⟩ := hSw; go_simp⟩) hHeld ?_
          simp only [tkS, Act.put]
          refine tkH 10 (.int .i64 d) rfl (Or.inl ⟨by kernel_rfl, by intro w hSw; obtain ⟨s0, s1, s2, s3, s4, s5, s6, s7, s8, s9, s10, s11, s12⟩ := hSw; go_simp⟩) hHeld ?_
          simp only [tkS, Act.put]
          refine tkH 11 (.bool false) rfl (Or.inl ⟨by kernel_rfl, by intro w hSw; obtain ⟨s0, s1, s2, s3, s4, s5, s6, s7, s8, s9, s10, s11, s12⟩ := hSw; go_simp⟩) hHeld ?_
          simp only [tkS, Act.put]
          refine tkH 12 (.bool false) rfl (Or.inl ⟨by kernel_rfl, by intro w hSw; obtain ⟨s0, s1, s2, s3, s4, s5, s6, s7, s8, s9, s10, s11, s12⟩ := hSw; go_simp⟩) hHeld ?_
          simp only [tkS, Act.put]
          refine tkH 13 (undef) rfl (Or.inr ⟨by kernel_rfl, rfl⟩) hHeld ?_
          simp only [tkS, Act.put]
          refine tkH 14 (undef) rfl (Or.inr ⟨by kernel_rfl, rfl⟩) hHeld ?_
          simp only [tkS, Act.put]
          refine tkH 15 (undef) rfl (Or.inr ⟨by kernel_rfl, rfl⟩) hHeld ?_
          simp only [tkS, Act.put]
          refine tkH 16 (undef) rfl (Or.inr ⟨by kernel_rfl, rfl⟩) hHeld ?_
          simp only [tkS, Act.put]
          refine tkH 17 (undef) rfl (Or.inr ⟨by kernel_rfl, rfl⟩) hHeld ?_
          simp only [tkS, Act.put]
          refine tkH 18 (undef) rfl (Or.inr ⟨by kernel_rfl, rfl⟩) hHeld ?_
          simp only [tkS, Act.put]
          refine tkH 19 (undef) rfl (Or.inr ⟨by kernel_rfl, rfl⟩) hHeld ?_
          simp only [tkS, Act.put]
          refine tkH 20 (undef) rfl (Or.inr ⟨by kernel_rfl, rfl⟩) hHeld ?_
          simp only [tkS, Act.put]
          refine tkH 21 (undef) rfl (Or.inr ⟨by kernel_rfl, rfl⟩) hHeld ?_
          simp only [tkS, Act.put]
          refine tkH 22 (undef) rfl (Or.inr ⟨by kernel_rfl, rfl⟩) hHeld ?_
          simp only [tkS, Act.put]
          refine tkH 24 (undef) rfl (Or.inr ⟨by kernel_rfl, rfl⟩) hHeld ?_
          simp only [tkS, Act.put]
          refine wpAnyH_ready (rs := [23]) (by kernel_rfl) (by simp) ?_
          refine AllReadyH.cons rfl (fun K hK => ?_) AllReadyH.nil
          go_simp
          refine hK.out _ _ (HF.out _ hB) (fun hHeld => ?_)
          clear hK K
          refine wpAnyH_ready (rs := [25]) (by kernel_rfl) (by simp) ?_
          refine AllReadyH.cons rfl (fun K hK => ?_) AllReadyH.nil
          go_simp
          refine hK.out _ _ (HF.out _ hB) (fun hHeld => ?_)
          clear hK K
          refine wpAnyH_ready (rs := [26]) (by kernel_rfl) (by simp) ?_
          refine AllReadyH.cons rfl (fun K hK => ?_) AllReadyH.nil
          go_simp
          refine hK.out _ _ (HF.out _ hB) (fun hHeld => ?_)
          clear hK K
          refine tkH 27 (undef) rfl (Or.inr ⟨by kernel_rfl, rfl⟩) hHeld ?_
          simp only [tkS, Act.put]
          refine tkH 28 (.bool false) rfl (Or.inl ⟨by kernel_rfl, by intro w hSw; obtain ⟨s0, s1, s2, s3, s4, s5, s6, s7, s8, s9, s10, s11, s12⟩ := hSw; go_simp⟩) hHeld ?_
          simp only [tkS, Act.put]
          refine tkH 29 (.bool false) rfl (Or.inl ⟨by kernel_rfl, by intro w hSw; obtain ⟨s0, s1, s2, s3, s4, s5, s6, s7, s8, s9, s10, s11, s12⟩ := hSw; go_simp⟩) hHeld ?_
          simp only [tkS, Act.put]
          refine wpAnyH_done (by kernel_rfl) ?_ _
          go_wp2_with fail
          go_roundw
          case rel => exact ⟨k + 1, by omega, by go_num, hB, HE⟩
          case measure => simp [intOf]; omega
        · obtain ⟨q, rfl⟩ : ∃ q : Nat, d = ((q + 1 : Nat) : Int) := ⟨(d - 1).toNat, by omega⟩
          have hq : q < (byA P k).length := by omega
          have hao : ∃ gr, ao = some ⟨gr, 0, none⟩ ∧ gr < w.heap.size := by
            obtain ⟨_, h2⟩ := hrow
            rcases h2 with ⟨hv', hn⟩ | ⟨gr, cap', cur, hv', _, hh, _⟩
            · omega
            · simp only [Value.slice.injEq] at hv'
              exact ⟨gr, hv'.1, (Array.getElem?_eq_some_iff.1 hh).1⟩
          obtain ⟨gr, rfl, hgr⟩ := hao
          have hy := row_at hrow hq
          rw [show (((q + 1 : Nat) : Int) - 1).toNat = q by omega] at HKk
          generalize ovAt (byA P k) q = y at HKk hy
          obtain ⟨ya, ys, yt, ydv, yk, yo, yn, yu, ypt, ypa, yky, ytx, yds⟩ := y
          simp only at HKk
          have hLs := fun w => implStampLess_any yt ya xt xa w
          have hqm : q < (byA P k).length := hq
          generalize (byA P k).length = m at *
          have hqi : (q : Int) < (m : Int) := by omega
          have hqj : (q : Int) + 1 ≤ (m : Int) := by omega
          have hw6 : IntKind.i64.wrap (q : Int) = (q : Int) := by rw [IntKind.wrap_i64]; omega
          cases hls : lessS yt ya xt xa with
          | false =>
            have HE : Hid (r = false) := HNk.out (by rw [HKk, hls, decide_eq_false (by omega : ¬ ((q + 1 : Nat) : Int) ≤ 0)]; simp)
            rw [hls] at hLs
            clear HKk HNk HAk HA hrow hls
            have HF : Hid (∀ wx, Below (w.alloc (.cells #[.int .i64 xa, .int .i64 xs, .int .i64 xt, .slice (some ⟨gd, od, none⟩) 16 cd, .int .i64 xk, .int .i64 xo, .int .i64 xn, .int .i64 xu, .int .i64 xpt, .int .i64 xpa, .string xky, .string xtx] 37)).heap.size (w.alloc (.cells #[.int .i64 xa, .int .i64 xs, .int .i64 xt, .slice (some ⟨gd, od, none⟩) 16 cd, .int .i64 xk, .int .i64 xo, .int .i64 xn, .int .i64 xu, .int .i64 xpt, .int .i64 xpa, .string xky, .string xtx] 37)) wx → wx.cell? ⟨w.heap.size, 0, none⟩ = some (.int .i64 xa) ∧ wx.cell? ⟨w.heap.size, 1, none⟩ = some (.int .i64 xs) ∧ wx.cell? ⟨w.heap.size, 2, none⟩ = some (.int .i64 xt) ∧ wx.cell? ⟨w.heap.size, 3, none⟩ = some (.slice (some ⟨gd, od, none⟩) 16 cd) ∧ wx.cell? ⟨w.heap.size, 4, none⟩ = some (.int .i64 xk) ∧ wx.cell? ⟨w.heap.size, 5, none⟩ = some (.int .i64 xo) ∧ wx.cell? ⟨w.heap.size, 6, none⟩ = some (.int .i64 xn) ∧ wx.cell? ⟨w.heap.size, 7, none⟩ = some (.int .i64 xu) ∧ wx.cell? ⟨w.heap.size, 8, none⟩ = some (.int .i64 xpt) ∧ wx.cell? ⟨w.heap.size, 9, none⟩ = some (.int .i64 xpa) ∧ wx.cell? ⟨w.heap.size, 10, none⟩ = some (.string xky) ∧ wx.cell? ⟨w.heap.size, 11, none⟩ = some (.string xtx) ∧ wx.cell? ⟨lb, k, none⟩ = some (.slice (some ⟨gr, 0, none⟩) m cap) ∧ wx.cell? ⟨gr, q * 12, none⟩ = some (.int .i64 ya) ∧ wx.cell? ⟨gr, q * 12 + 1, none⟩ = some (.int .i64 ys) ∧ wx.cell? ⟨gr, q * 12 + 2, none⟩ = some (.int .i64 yt) ∧ wx.cell? ⟨gr, q * 12 + 3, none⟩ = some (ydv) ∧ wx.cell? ⟨gr, q * 12 + 4, none⟩ = some (.int .i64 yk) ∧ wx.cell? ⟨gr, q * 12 + 5, none⟩ = some (.int .i64 yo) ∧ wx.cell? ⟨gr, q * 12 + 6, none⟩ = some (.int .i64 yn) ∧ wx.cell? ⟨gr, q * 12 + 7, none⟩ = some (.int .i64 yu) ∧ wx.cell? ⟨gr, q * 12 + 8, none⟩ = some (.int .i64 ypt) ∧ wx.cell? ⟨gr, q * 12 + 9, none⟩ = some (.int .i64 ypa) ∧ wx.cell? ⟨gr, q * 12 + 10, none⟩ = some (.string yky) ∧ wx.cell? ⟨gr, q * 12 + 11, none⟩ = some (.string ytx)) := fun wx h => by
              obtain ⟨q0, q1, q2, q3, q4, q5, q6, q7, q8, q9, q10, q11⟩ := op_cells h
              exact ⟨q0, q1, q2, q3, q4, q5, q6, q7, q8, q9, q10, q11, (below_seq (below_alloc w _) h).cell (p := ⟨lb, k, none⟩) hlb |>.trans hck, ((below_seq (below_alloc w _) h).cell (p := ⟨gr, q * 12, none⟩) hgr).trans hy.c0, ((below_seq (below_alloc w _) h).cell (p := ⟨gr, q * 12 + 1, none⟩) hgr).trans hy.c1, ((below_seq (below_alloc w _) h).cell (p := ⟨gr, q * 12 + 2, none⟩) hgr).trans hy.c2, ((below_seq (below_alloc w _) h).cell (p := ⟨gr, q * 12 + 3, none⟩) hgr).trans hy.c3, ((below_seq (below_alloc w _) h).cell (p := ⟨gr, q * 12 + 4, none⟩) hgr).trans hy.c4, ((below_seq (below_alloc w _) h).cell (p := ⟨gr, q * 12 + 5, none⟩) hgr).trans hy.c5, ((below_seq (below_alloc w _) h).cell (p := ⟨gr, q * 12 + 6, none⟩) hgr).trans hy.c6, ((below_seq (below_alloc w _) h).cell (p := ⟨gr, q * 12 + 7, none⟩) hgr).trans hy.c7, ((below_seq (below_alloc w _) h).cell (p := ⟨gr, q * 12 + 8, none⟩) hgr).trans hy.c8, ((below_seq (below_alloc w _) h).cell (p := ⟨gr, q * 12 + 9, none⟩) hgr).trans hy.c9, ((below_seq (below_alloc w _) h).cell (p := ⟨gr, q * 12 + 10, none⟩) hgr).trans hy.c10, ((below_seq (below_alloc w _) h).cell (p := ⟨gr, q * 12 + 11, none⟩) hgr).trans hy.c11⟩
            go_wp2_with fail
            refine wp_region_held_drew (S := fun w' => w'.cell? ⟨w.heap.size, 0, none⟩ = some (.int .i64 xa) ∧ w'.cell? ⟨w.heap.size, 1, none⟩ = some (.int .i64 xs) ∧ w'.cell? ⟨w.heap.size, 2, none⟩ = some (.int .i64 xt) ∧ w'.cell? ⟨w.heap.size, 3, none⟩ = some (.slice (some ⟨gd, od, none⟩) 16 cd) ∧ w'.cell? ⟨w.heap.size, 4, none⟩ = some (.int .i64 xk) ∧ w'.cell? ⟨w.heap.size, 5, none⟩ = some (.int .i64 xo) ∧ w'.cell? ⟨w.heap.size, 6, none⟩ = some (.int .i64 xn) ∧ w'.cell? ⟨w.heap.size, 7, none⟩ = some (.int .i64 xu) ∧ w'.cell? ⟨w.heap.size, 8, none⟩ = some (.int .i64 xpt) ∧ w'.cell? ⟨w.heap.size, 9, none⟩ = some (.int .i64 xpa) ∧ w'.cell? ⟨w.heap.size, 10, none⟩ = some (.string xky) ∧ w'.cell? ⟨w.heap.size, 11, none⟩ = some (.string xtx) ∧ w'.cell? ⟨lb, k, none⟩ = some (.slice (some ⟨gr, 0, none⟩) m cap) ∧ w'.cell? ⟨gr, q * 12, none⟩ = some (.int .i64 ya) ∧ w'.cell? ⟨gr, q * 12 + 1, none⟩ = some (.int .i64 ys) ∧ w'.cell? ⟨gr, q * 12 + 2, none⟩ = some (.int .i64 yt) ∧ w'.cell? ⟨gr, q * 12 + 3, none⟩ = some (ydv) ∧ w'.cell? ⟨gr, q * 12 + 4, none⟩ = some (.int .i64 yk) ∧ w'.cell? ⟨gr, q * 12 + 5, none⟩ = some (.int .i64 yo) ∧ w'.cell? ⟨gr, q * 12 + 6, none⟩ = some (.int .i64 yn) ∧ w'.cell? ⟨gr, q * 12 + 7, none⟩ = some (.int .i64 yu) ∧ w'.cell? ⟨gr, q * 12 + 8, none⟩ = some (.int .i64 ypt) ∧ w'.cell? ⟨gr, q * 12 + 9, none⟩ = some (.int .i64 ypa) ∧ w'.cell? ⟨gr, q * 12 + 10, none⟩ = some (.string yky) ∧ w'.cell? ⟨gr, q * 12 + 11, none⟩ = some (.string ytx)) (by kernel_rfl) (HF.out _ hB) (fun hHeld => ?_)
            refine tkH 0 (.int .i64 (((q + 1 : Nat) : Int))) rfl (Or.inl ⟨by kernel_rfl, by intro w hSw; obtain ⟨s0, s1, s2, s3, s4, s5, s6, s7, s8, s9, s10, s11, s12, s13, s14, s15, s16, s17, s18, s19, s20, s21, s22, s23, s24⟩ := hSw; go_simp⟩) hHeld ?_
            simp only [tkS, Act.put]
            refine tkH 1 (.pointer (some ⟨lb, 0, none⟩)) rfl (Or.inl ⟨by kernel_rfl, by intro w hSw; obtain ⟨s0, s1, s2, s3, s4, s5, s6, s7, s8, s9, s10, s11, s12, s13, s14, s15, s16, s17, s18, s19, s20, s21, s22, s23, s24⟩ := hSw; go_simp⟩) hHeld ?_
            simp only [tkS, Act.put]
            refine tkH 2 (.int .i64 ((k : Int))) rfl (Or.inl ⟨by kernel_rfl, by intro w hSw; obtain ⟨s0, s1, s2, s3, s4, s5, s6, s7, s8, s9, s10, s11, s12, s13, s14, s15, s16, s17, s18, s19, s20, s21, s22, s23, s24⟩ := hSw; go_simp⟩) hHeld ?_
            simp only [tkS, Act.put]
            refine tkH 3 (.pointer (some ⟨lb, 0, none⟩)) rfl (Or.inl ⟨by kernel_rfl, by intro w hSw; obtain ⟨s0, s1, s2, s3, s4, s5, s6, s7, s8, s9, s10, s11, s12, s13, s14, s15, s16, s17, s18, s19, s20, s21, s22, s23, s24⟩ := hSw; go_simp⟩) hHeld ?_
            simp only [tkS, Act.put]
            refine tkH 4 (.pointer (some ⟨lb, 0, none⟩)) rfl (Or.inl ⟨by kernel_rfl, by intro w hSw; obtain ⟨s0, s1, s2, s3, s4, s5, s6, s7, s8, s9, s10, s11, s12, s13, s14, s15, s16, s17, s18, s19, s20, s21, s22, s23, s24⟩ := hSw; go_simp⟩) hHeld ?_
            simp only [tkS, Act.put]
            refine tkH 5 (.pointer (some ⟨lb, k, none⟩)) rfl (Or.inl ⟨by kernel_rfl, by intro w hSw; obtain ⟨s0, s1, s2, s3, s4, s5, s6, s7, s8, s9, s10, s11, s12, s13, s14, s15, s16, s17, s18, s19, s20, s21, s22, s23, s24⟩ := hSw; go_simp⟩) hHeld ?_
            simp only [tkS, Act.put]
            refine tkH 6 (.slice (some ⟨gr, 0, none⟩) m cap) rfl (Or.inl ⟨by kernel_rfl, by intro w hSw; obtain ⟨s0, s1, s2, s3, s4, s5, s6, s7, s8, s9, s10, s11, s12, s13, s14, s15, s16, s17, s18, s19, s20, s21, s22, s23, s24⟩ := hSw; go_simp⟩) hHeld ?_
            simp only [tkS, Act.put]
            refine tkH 7 (.int .i64 ((m : Int))) rfl (Or.inl ⟨by kernel_rfl, by intro w hSw; obtain ⟨s0, s1, s2, s3, s4, s5, s6, s7, s8, s9, s10, s11, s12, s13, s14, s15, s16, s17, s18, s19, s20, s21, s22, s23, s24⟩ := hSw; go_simp⟩) hHeld ?_
            simp only [tkS, Act.put]
            refine tkH 8 (.bool false) rfl (Or.inl ⟨by kernel_rfl, by intro w hSw; obtain ⟨s0, s1, s2, s3, s4, s5, s6, s7, s8, s9, s10, s11, s12, s13, s14, s15, s16, s17, s18, s19, s20, s21, s22, s23, s24⟩ := hSw; go_simp⟩) hHeld ?_
            simp only [tkS, Act.put]
            refine tkH 9 (.bool false) rfl (Or.inl ⟨by kernel_rfl, by intro w hSw; obtain ⟨s0, s1, s2, s3, s4, s5, s6, s7, s8, s9, s10, s11, s12, s13, s14, s15, s16, s17, s18, s19, s20, s21, s22, s23, s24⟩ := hSw; go_simp⟩) hHeld ?_
            simp only [tkS, Act.put]
            refine tkH 10 (.int .i64 (((q + 1 : Nat) : Int))) rfl (Or.inl ⟨by kernel_rfl, by intro w hSw; obtain ⟨s0, s1, s2, s3, s4, s5, s6, s7, s8, s9, s10, s11, s12, s13, s14, s15, s16, s17, s18, s19, s20, s21, s22, s23, s24⟩ := hSw; go_simp⟩) hHeld ?_
            simp only [tkS, Act.put]
            refine tkH 11 (.bool true) rfl (Or.inl ⟨by kernel_rfl, by intro w hSw; obtain ⟨s0, s1, s2, s3, s4, s5, s6, s7, s8, s9, s10, s11, s12, s13, s14, s15, s16, s17, s18, s19, s20, s21, s22, s23, s24⟩ := hSw; go_simp⟩) hHeld ?_
            simp only [tkS, Act.put]
            refine tkH 12 (.bool true) rfl (Or.inl ⟨by kernel_rfl, by intro w hSw; obtain ⟨s0, s1, s2, s3, s4, s5, s6, s7, s8, s9, s10, s11, s12, s13, s14, s15, s16, s17, s18, s19, s20, s21, s22, s23, s24⟩ := hSw; go_simp⟩) hHeld ?_
            simp only [tkS, Act.put]
            refine tkH 13 (.pointer (some ⟨lb, 0, none⟩)) rfl (Or.inl ⟨by kernel_rfl, by intro w hSw; obtain ⟨s0, s1, s2, s3, s4, s5, s6, s7, s8, s9, s10, s11, s12, s13, s14, s15, s16, s17, s18, s19, s20, s21, s22, s23, s24⟩ := hSw; go_simp⟩) hHeld ?_
            simp only [tkS, Act.put]
            refine tkH 14 (.int .i64 ((k : Int))) rfl (Or.inl ⟨by kernel_rfl, by intro w hSw; obtain ⟨s0, s1, s2, s3, s4, s5, s6, s7, s8, s9, s10, s11, s12, s13, s14, s15, s16, s17, s18, s19, s20, s21, s22, s23, s24⟩ := hSw; go_simp⟩) hHeld ?_
            simp only [tkS, Act.put]
            refine tkH 15 (.pointer (some ⟨lb, 0, none⟩)) rfl (Or.inl ⟨by kernel_rfl, by intro w hSw; obtain ⟨s0, s1, s2, s3, s4, s5, s6, s7, s8, s9, s10, s11, s12, s13, s14, s15, s16, s17, s18, s19, s20, s21, s22, s23, s24⟩ := hSw; go_simp⟩) hHeld ?_
            simp only [tkS, Act.put]
            refine tkH 16 (.pointer (some ⟨lb, 0, none⟩)) rfl (Or.inl ⟨by kernel_rfl, by intro w hSw; obtain ⟨s0, s1, s2, s3, s4, s5, s6, s7, s8, s9, s10, s11, s12, s13, s14, s15, s16, s17, s18, s19, s20, s21, s22, s23, s24⟩ := hSw; go_simp⟩) hHeld ?_
            simp only [tkS, Act.put]
            refine tkH 17 (.pointer (some ⟨lb, k, none⟩)) rfl (Or.inl ⟨by kernel_rfl, by intro w hSw; obtain ⟨s0, s1, s2, s3, s4, s5, s6, s7, s8, s9, s10, s11, s12, s13, s14, s15, s16, s17, s18, s19, s20, s21, s22, s23, s24⟩ := hSw; go_simp⟩) hHeld ?_
            simp only [tkS, Act.put]
            refine tkH 18 (.slice (some ⟨gr, 0, none⟩) m cap) rfl (Or.inl ⟨by kernel_rfl, by intro w hSw; obtain ⟨s0, s1, s2, s3, s4, s5, s6, s7, s8, s9, s10, s11, s12, s13, s14, s15, s16, s17, s18, s19, s20, s21, s22, s23, s24⟩ := hSw; go_simp⟩) hHeld ?_
            simp only [tkS, Act.put]
            refine tkH 19 (.int .i64 (((q + 1 : Nat) : Int))) rfl (Or.inl ⟨by kernel_rfl, by intro w hSw; obtain ⟨s0, s1, s2, s3, s4, s5, s6, s7, s8, s9, s10, s11, s12, s13, s14, s15, s16, s17, s18, s19, s20, s21, s22, s23, s24⟩ := hSw; go_simp⟩) hHeld ?_
            simp only [tkS, Act.put]
            refine tkH 20 (.int .i64 ((q : Int))) rfl (Or.inl ⟨by kernel_rfl, by intro w hSw; obtain ⟨s0, s1, s2, s3, s4, s5, s6, s7, s8, s9, s10, s11, s12, s13, s14, s15, s16, s17, s18, s19, s20, s21, s22, s23, s24⟩ := hSw; go_simp⟩) hHeld ?_
            simp only [tkS, Act.put]
            refine tkH 21 (.pointer (some ⟨gr, q * 12, none⟩)) rfl (Or.inl ⟨by kernel_rfl, by intro w hSw; obtain ⟨s0, s1, s2, s3, s4, s5, s6, s7, s8, s9, s10, s11, s12, s13, s14, s15, s16, s17, s18, s19, s20, s21, s22, s23, s24⟩ := hSw; go_simp⟩) hHeld ?_
            simp only [tkS, Act.put]
            refine tkH 22 (.agg #[.int .i64 ya, .int .i64 ys, .int .i64 yt, ydv, .int .i64 yk, .int .i64 yo, .int .i64 yn, .int .i64 yu, .int .i64 ypt, .int .i64 ypa, .string yky, .string ytx]) rfl (Or.inl ⟨by kernel_rfl, by intro w hSw; obtain ⟨s0, s1, s2, s3, s4, s5, s6, s7, s8, s9, s10, s11, s12, s13, s14, s15, s16, s17, s18, s19, s20, s21, s22, s23, s24⟩ := hSw; go_simp⟩) hHeld ?_
            simp only [tkS, Act.put]
            refine tkH 24 (.agg #[.int .i64 xa, .int .i64 xs, .int .i64 xt, .slice (some ⟨gd, od, none⟩) 16 cd, .int .i64 xk, .int .i64 xo, .int .i64 xn, .int .i64 xu, .int .i64 xpt, .int .i64 xpa, .string xky, .string xtx]) rfl (Or.inl ⟨by kernel_rfl, by intro w hSw; obtain ⟨s0, s1, s2, s3, s4, s5, s6, s7, s8, s9, s10, s11, s12, s13, s14, s15, s16, s17, s18, s19, s20, s21, s22, s23, s24⟩ := hSw; go_simp⟩) hHeld ?_
            simp only [tkS, Act.put]
            refine wpAnyH_ready (rs := [23]) (by kernel_rfl) (by simp) ?_
            refine AllReadyH.cons rfl (fun K hK => ?_) AllReadyH.nil
            go_simp
            refine (opStamp_any _ _ _ _ _ _ _ _ _ _ _ _ _).mono ?_
            rintro e wn ⟨rfl, hbn⟩
            replace hB := below_seq hB hbn
            clear hbn
            go_wp2_with fail
            refine hK.out _ _ (HF.out _ hB) (fun hHeld => ?_)
            clear hK K
            refine wpAnyH_ready (rs := [25]) (by kernel_rfl) (by simp) ?_
            refine AllReadyH.cons rfl (fun K hK => ?_) AllReadyH.nil
            go_simp
            refine (opStamp_any _ _ _ _ _ _ _ _ _ _ _ _ _).mono ?_
            rintro e wn ⟨rfl, hbn⟩
            replace hB := below_seq hB hbn
            clear hbn
            go_wp2_with fail
            refine hK.out _ _ (HF.out _ hB) (fun hHeld => ?_)
            clear hK K
            refine wpAnyH_ready (rs := [26]) (by kernel_rfl) (by simp) ?_
            refine AllReadyH.cons rfl (fun K hK => ?_) AllReadyH.nil
            go_simp
            refine (hLs _).mono ?_
            rintro e wn ⟨rfl, hbn⟩
            replace hB := below_seq hB hbn
            clear hbn
            go_wp2_with fail
            refine hK.out _ _ (HF.out _ hB) (fun hHeld => ?_)
            clear hK K
            refine tkH 27 (.bool true) rfl (Or.inl ⟨by kernel_rfl, by intro w hSw; obtain ⟨s0, s1, s2, s3, s4, s5, s6, s7, s8, s9, s10, s11, s12, s13, s14, s15, s16, s17, s18, s19, s20, s21, s22, s23, s24⟩ := hSw; go_simp⟩) hHeld ?_
            simp only [tkS, Act.put]
            refine tkH 28 (.bool true) rfl (Or.inl ⟨by kernel_rfl, by intro w hSw; obtain ⟨s0, s1, s2, s3, s4, s5, s6, s7, s8, s9, s10, s11, s12, s13, s14, s15, s16, s17, s18, s19, s20, s21, s22, s23, s24⟩ := hSw; go_simp⟩) hHeld ?_
            simp only [tkS, Act.put]
            refine tkH 29 (.bool true) rfl (Or.inl ⟨by kernel_rfl, by intro w hSw; obtain ⟨s0, s1, s2, s3, s4, s5, s6, s7, s8, s9, s10, s11, s12, s13, s14, s15, s16, s17, s18, s19, s20, s21, s22, s23, s24⟩ := hSw; go_simp⟩) hHeld ?_
            simp only [tkS, Act.put]
            refine wpAnyH_done (by kernel_rfl) ?_ _
            go_wp2_with fail
            go_ret
            exact ⟨by rw [HE.out]; rfl, below_seq (below_alloc _ _) hB⟩
          | true =>
            have HE := HAk.out (by rw [HKk, hls, decide_eq_true (by omega : ((q + 1 : Nat) : Int) ≤ (m : Int))]; simp)
            rw [hls] at hLs
            clear HKk HNk HAk HA hrow hls
            have HF : Hid (∀ wx, Below (w.alloc (.cells #[.int .i64 xa, .int .i64 xs, .int .i64 xt, .slice (some ⟨gd, od, none⟩) 16 cd, .int .i64 xk, .int .i64 xo, .int .i64 xn, .int .i64 xu, .int .i64 xpt, .int .i64 xpa, .string xky, .string xtx] 37)).heap.size (w.alloc (.cells #[.int .i64 xa, .int .i64 xs, .int .i64 xt, .slice (some ⟨gd, od, none⟩) 16 cd, .int .i64 xk, .int .i64 xo, .int .i64 xn, .int .i64 xu, .int .i64 xpt, .int .i64 xpa, .string xky, .string xtx] 37)) wx → wx.cell? ⟨w.heap.size, 0, none⟩ = some (.int .i64 xa) ∧ wx.cell? ⟨w.heap.size, 1, none⟩ = some (.int .i64 xs) ∧ wx.cell? ⟨w.heap.size, 2, none⟩ = some (.int .i64 xt) ∧ wx.cell? ⟨w.heap.size, 3, none⟩ = some (.slice (some ⟨gd, od, none⟩) 16 cd) ∧ wx.cell? ⟨w.heap.size, 4, none⟩ = some (.int .i64 xk) ∧ wx.cell? ⟨w.heap.size, 5, none⟩ = some (.int .i64 xo) ∧ wx.cell? ⟨w.heap.size, 6, none⟩ = some (.int .i64 xn) ∧ wx.cell? ⟨w.heap.size, 7, none⟩ = some (.int .i64 xu) ∧ wx.cell? ⟨w.heap.size, 8, none⟩ = some (.int .i64 xpt) ∧ wx.cell? ⟨w.heap.size, 9, none⟩ = some (.int .i64 xpa) ∧ wx.cell? ⟨w.heap.size, 10, none⟩ = some (.string xky) ∧ wx.cell? ⟨w.heap.size, 11, none⟩ = some (.string xtx) ∧ wx.cell? ⟨lb, k, none⟩ = some (.slice (some ⟨gr, 0, none⟩) m cap) ∧ wx.cell? ⟨gr, q * 12, none⟩ = some (.int .i64 ya) ∧ wx.cell? ⟨gr, q * 12 + 1, none⟩ = some (.int .i64 ys) ∧ wx.cell? ⟨gr, q * 12 + 2, none⟩ = some (.int .i64 yt) ∧ wx.cell? ⟨gr, q * 12 + 3, none⟩ = some (ydv) ∧ wx.cell? ⟨gr, q * 12 + 4, none⟩ = some (.int .i64 yk) ∧ wx.cell? ⟨gr, q * 12 + 5, none⟩ = some (.int .i64 yo) ∧ wx.cell? ⟨gr, q * 12 + 6, none⟩ = some (.int .i64 yn) ∧ wx.cell? ⟨gr, q * 12 + 7, none⟩ = some (.int .i64 yu) ∧ wx.cell? ⟨gr, q * 12 + 8, none⟩ = some (.int .i64 ypt) ∧ wx.cell? ⟨gr, q * 12 + 9, none⟩ = some (.int .i64 ypa) ∧ wx.cell? ⟨gr, q * 12 + 10, none⟩ = some (.string yky) ∧ wx.cell? ⟨gr, q * 12 + 11, none⟩ = some (.string ytx)) := fun wx h => by
              obtain ⟨q0, q1, q2, q3, q4, q5, q6, q7, q8, q9, q10, q11⟩ := op_cells h
              exact ⟨q0, q1, q2, q3, q4, q5, q6, q7, q8, q9, q10, q11, (below_seq (below_alloc w _) h).cell (p := ⟨lb, k, none⟩) hlb |>.trans hck, ((below_seq (below_alloc w _) h).cell (p := ⟨gr, q * 12, none⟩) hgr).trans hy.c0, ((below_seq (below_alloc w _) h).cell (p := ⟨gr, q * 12 + 1, none⟩) hgr).trans hy.c1, ((below_seq (below_alloc w _) h).cell (p := ⟨gr, q * 12 + 2, none⟩) hgr).trans hy.c2, ((below_seq (below_alloc w _) h).cell (p := ⟨gr, q * 12 + 3, none⟩) hgr).trans hy.c3, ((below_seq (below_alloc w _) h).cell (p := ⟨gr, q * 12 + 4, none⟩) hgr).trans hy.c4, ((below_seq (below_alloc w _) h).cell (p := ⟨gr, q * 12 + 5, none⟩) hgr).trans hy.c5, ((below_seq (below_alloc w _) h).cell (p := ⟨gr, q * 12 + 6, none⟩) hgr).trans hy.c6, ((below_seq (below_alloc w _) h).cell (p := ⟨gr, q * 12 + 7, none⟩) hgr).trans hy.c7, ((below_seq (below_alloc w _) h).cell (p := ⟨gr, q * 12 + 8, none⟩) hgr).trans hy.c8, ((below_seq (below_alloc w _) h).cell (p := ⟨gr, q * 12 + 9, none⟩) hgr).trans hy.c9, ((below_seq (below_alloc w _) h).cell (p := ⟨gr, q * 12 + 10, none⟩) hgr).trans hy.c10, ((below_seq (below_alloc w _) h).cell (p := ⟨gr, q * 12 + 11, none⟩) hgr).trans hy.c11⟩
            go_wp2_with fail
            refine wp_region_held_drew (S := fun w' => w'.cell? ⟨w.heap.size, 0, none⟩ = some (.int .i64 xa) ∧ w'.cell? ⟨w.heap.size, 1, none⟩ = some (.int .i64 xs) ∧ w'.cell? ⟨w.heap.size, 2, none⟩ = some (.int .i64 xt) ∧ w'.cell? ⟨w.heap.size, 3, none⟩ = some (.slice (some ⟨gd, od, none⟩) 16 cd) ∧ w'.cell? ⟨w.heap.size, 4, none⟩ = some (.int .i64 xk) ∧ w'.cell? ⟨w.heap.size, 5, none⟩ = some (.int .i64 xo) ∧ w'.cell? ⟨w.heap.size, 6, none⟩ = some (.int .i64 xn) ∧ w'.cell? ⟨w.heap.size, 7, none⟩ = some (.int .i64 xu) ∧ w'.cell? ⟨w.heap.size, 8, none⟩ = some (.int .i64 xpt) ∧ w'.cell? ⟨w.heap.size, 9, none⟩ = some (.int .i64 xpa) ∧ w'.cell? ⟨w.heap.size, 10, none⟩ = some (.string xky) ∧ w'.cell? ⟨w.heap.size, 11, none⟩ = some (.string xtx) ∧ w'.cell? ⟨lb, k, none⟩ = some (.slice (some ⟨gr, 0, none⟩) m cap) ∧ w'.cell? ⟨gr, q * 12, none⟩ = some (.int .i64 ya) ∧ w'.cell? ⟨gr, q * 12 + 1, none⟩ = some (.int .i64 ys) ∧ w'.cell? ⟨gr, q * 12 + 2, none⟩ = some (.int .i64 yt) ∧ w'.cell? ⟨gr, q * 12 + 3, none⟩ = some (ydv) ∧ w'.cell? ⟨gr, q * 12 + 4, none⟩ = some (.int .i64 yk) ∧ w'.cell? ⟨gr, q * 12 + 5, none⟩ = some (.int .i64 yo) ∧ w'.cell? ⟨gr, q * 12 + 6, none⟩ = some (.int .i64 yn) ∧ w'.cell? ⟨gr, q * 12 + 7, none⟩ = some (.int .i64 yu) ∧ w'.cell? ⟨gr, q * 12 + 8, none⟩ = some (.int .i64 ypt) ∧ w'.cell? ⟨gr, q * 12 + 9, none⟩ = some (.int .i64 ypa) ∧ w'.cell? ⟨gr, q * 12 + 10, none⟩ = some (.string yky) ∧ w'.cell? ⟨gr, q * 12 + 11, none⟩ = some (.string ytx)) (by kernel_rfl) (HF.out _ hB) (fun hHeld => ?_)
            refine tkH 0 (.int .i64 (((q + 1 : Nat) : Int))) rfl (Or.inl ⟨by kernel_rfl, by intro w hSw; obtain ⟨s0, s1, s2, s3, s4, s5, s6, s7, s8, s9, s10, s11, s12, s13, s14, s15, s16, s17, s18, s19, s20, s21, s22, s23, s24⟩ := hSw; go_simp⟩) hHeld ?_
            simp only [tkS, Act.put]
            refine tkH 1 (.pointer (some ⟨lb, 0, none⟩)) rfl (Or.inl ⟨by kernel_rfl, by intro w hSw; obtain ⟨s0, s1, s2, s3, s4, s5, s6, s7, s8, s9, s10, s11, s12, s13, s14, s15, s16, s17, s18, s19, s20, s21, s22, s23, s24⟩ := hSw; go_simp⟩) hHeld ?_
            simp only [tkS, Act.put]
            refine tkH 2 (.int .i64 ((k : Int))) rfl (Or.inl ⟨by kernel_rfl, by intro w hSw; obtain ⟨s0, s1, s2, s3, s4, s5, s6, s7, s8, s9, s10, s11, s12, s13, s14, s15, s16, s17, s18, s19, s20, s21, s22, s23, s24⟩ := hSw; go_simp⟩) hHeld ?_
            simp only [tkS, Act.put]
            refine tkH 3 (.pointer (some ⟨lb, 0, none⟩)) rfl (Or.inl ⟨by kernel_rfl, by intro w hSw; obtain ⟨s0, s1, s2, s3, s4, s5, s6, s7, s8, s9, s10, s11, s12, s13, s14, s15, s16, s17, s18, s19, s20, s21, s22, s23, s24⟩ := hSw; go_simp⟩) hHeld ?_
            simp only [tkS, Act.put]
            refine tkH 4 (.pointer (some ⟨lb, 0, none⟩)) rfl (Or.inl ⟨by kernel_rfl, by intro w hSw; obtain ⟨s0, s1, s2, s3, s4, s5, s6, s7, s8, s9, s10, s11, s12, s13, s14, s15, s16, s17, s18, s19, s20, s21, s22, s23, s24⟩ := hSw; go_simp⟩) hHeld ?_
            simp only [tkS, Act.put]
            refine tkH 5 (.pointer (some ⟨lb, k, none⟩)) rfl (Or.inl ⟨by kernel_rfl, by intro w hSw; obtain ⟨s0, s1, s2, s3, s4, s5, s6, s7, s8, s9, s10, s11, s12, s13, s14, s15, s16, s17, s18, s19, s20, s21, s22, s23, s24⟩ := hSw; go_simp⟩) hHeld ?_
            simp only [tkS, Act.put]
            refine tkH 6 (.slice (some ⟨gr, 0, none⟩) m cap) rfl (Or.inl ⟨by kernel_rfl, by intro w hSw; obtain ⟨s0, s1, s2, s3, s4, s5, s6, s7, s8, s9, s10, s11, s12, s13, s14, s15, s16, s17, s18, s19, s20, s21, s22, s23, s24⟩ := hSw; go_simp⟩) hHeld ?_
            simp only [tkS, Act.put]
            refine tkH 7 (.int .i64 ((m : Int))) rfl (Or.inl ⟨by kernel_rfl, by intro w hSw; obtain ⟨s0, s1, s2, s3, s4, s5, s6, s7, s8, s9, s10, s11, s12, s13, s14, s15, s16, s17, s18, s19, s20, s21, s22, s23, s24⟩ := hSw; go_simp⟩) hHeld ?_
            simp only [tkS, Act.put]
            refine tkH 8 (.bool false) rfl (Or.inl ⟨by kernel_rfl, by intro w hSw; obtain ⟨s0, s1, s2, s3, s4, s5, s6, s7, s8, s9, s10, s11, s12, s13, s14, s15, s16, s17, s18, s19, s20, s21, s22, s23, s24⟩ := hSw; go_simp⟩) hHeld ?_
            simp only [tkS, Act.put]
            refine tkH 9 (.bool false) rfl (Or.inl ⟨by kernel_rfl, by intro w hSw; obtain ⟨s0, s1, s2, s3, s4, s5, s6, s7, s8, s9, s10, s11, s12, s13, s14, s15, s16, s17, s18, s19, s20, s21, s22, s23, s24⟩ := hSw; go_simp⟩) hHeld ?_
            simp only [tkS, Act.put]
            refine tkH 10 (.int .i64 (((q + 1 : Nat) : Int))) rfl (Or.inl ⟨by kernel_rfl, by intro w hSw; obtain ⟨s0, s1, s2, s3, s4, s5, s6, s7, s8, s9, s10, s11, s12, s13, s14, s15, s16, s17, s18, s19, s20, s21, s22, s23, s24⟩ := hSw; go_simp⟩) hHeld ?_
            simp only [tkS, Act.put]
            refine tkH 11 (.bool true) rfl (Or.inl ⟨by kernel_rfl, by intro w hSw; obtain ⟨s0, s1, s2, s3, s4, s5, s6, s7, s8, s9, s10, s11, s12, s13, s14, s15, s16, s17, s18, s19, s20, s21, s22, s23, s24⟩ := hSw; go_simp⟩) hHeld ?_
            simp only [tkS, Act.put]
            refine tkH 12 (.bool true) rfl (Or.inl ⟨by kernel_rfl, by intro w hSw; obtain ⟨s0, s1, s2, s3, s4, s5, s6, s7, s8, s9, s10, s11, s12, s13, s14, s15, s16, s17, s18, s19, s20, s21, s22, s23, s24⟩ := hSw; go_simp⟩) hHeld ?_
            simp only [tkS, Act.put]
            refine tkH 13 (.pointer (some ⟨lb, 0, none⟩)) rfl (Or.inl ⟨by kernel_rfl, by intro w hSw; obtain ⟨s0, s1, s2, s3, s4, s5, s6, s7, s8, s9, s10, s11, s12, s13, s14, s15, s16, s17, s18, s19, s20, s21, s22, s23, s24⟩ := hSw; go_simp⟩) hHeld ?_
            simp only [tkS, Act.put]
            refine tkH 14 (.int .i64 ((k : Int))) rfl (Or.inl ⟨by kernel_rfl, by intro w hSw; obtain ⟨s0, s1, s2, s3, s4, s5, s6, s7, s8, s9, s10, s11, s12, s13, s14, s15, s16, s17, s18, s19, s20, s21, s22, s23, s24⟩ := hSw; go_simp⟩) hHeld ?_
            simp only [tkS, Act.put]
            refine tkH 15 (.pointer (some ⟨lb, 0, none⟩)) rfl (Or.inl ⟨by kernel_rfl, by intro w hSw; obtain ⟨s0, s1, s2, s3, s4, s5, s6, s7, s8, s9, s10, s11, s12, s13, s14, s15, s16, s17, s18, s19, s20, s21, s22, s23, s24⟩ := hSw; go_simp⟩) hHeld ?_
            simp only [tkS, Act.put]
            refine tkH 16 (.pointer (some ⟨lb, 0, none⟩)) rfl (Or.inl ⟨by kernel_rfl, by intro w hSw; obtain ⟨s0, s1, s2, s3, s4, s5, s6, s7, s8, s9, s10, s11, s12, s13, s14, s15, s16, s17, s18, s19, s20, s21, s22, s23, s24⟩ := hSw; go_simp⟩) hHeld ?_
            simp only [tkS, Act.put]
            refine tkH 17 (.pointer (some ⟨lb, k, none⟩)) rfl (Or.inl ⟨by kernel_rfl, by intro w hSw; obtain ⟨s0, s1, s2, s3, s4, s5, s6, s7, s8, s9, s10, s11, s12, s13, s14, s15, s16, s17, s18, s19, s20, s21, s22, s23, s24⟩ := hSw; go_simp⟩) hHeld ?_
            simp only [tkS, Act.put]
            refine tkH 18 (.slice (some ⟨gr, 0, none⟩) m cap) rfl (Or.inl ⟨by kernel_rfl, by intro w hSw; obtain ⟨s0, s1, s2, s3, s4, s5, s6, s7, s8, s9, s10, s11, s12, s13, s14, s15, s16, s17, s18, s19, s20, s21, s22, s23, s24⟩ := hSw; go_simp⟩) hHeld ?_
            simp only [tkS, Act.put]
            refine tkH 19 (.int .i64 (((q + 1 : Nat) : Int))) rfl (Or.inl ⟨by kernel_rfl, by intro w hSw; obtain ⟨s0, s1, s2, s3, s4, s5, s6, s7, s8, s9, s10, s11, s12, s13, s14, s15, s16, s17, s18, s19, s20, s21, s22, s23, s24⟩ := hSw; go_simp⟩) hHeld ?_
            simp only [tkS, Act.put]
            refine tkH 20 (.int .i64 ((q : Int))) rfl (Or.inl ⟨by kernel_rfl, by intro w hSw; obtain ⟨s0, s1, s2, s3, s4, s5, s6, s7, s8, s9, s10, s11, s12, s13, s14, s15, s16, s17, s18, s19, s20, s21, s22, s23, s24⟩ := hSw; go_simp⟩) hHeld ?_
            simp only [tkS, Act.put]
            refine tkH 21 (.pointer (some ⟨gr, q * 12, none⟩)) rfl (Or.inl ⟨by kernel_rfl, by intro w hSw; obtain ⟨s0, s1, s2, s3, s4, s5, s6, s7, s8, s9, s10, s11, s12, s13, s14, s15, s16, s17, s18, s19, s20, s21, s22, s23, s24⟩ := hSw; go_simp⟩) hHeld ?_
            simp only [tkS, Act.put]
            refine tkH 22 (.agg #[.int .i64 ya, .int .i64 ys, .int .i64 yt, ydv, .int .i64 yk, .int .i64 yo, .int .i64 yn, .int .i64 yu, .int .i64 ypt, .int .i64 ypa, .string yky, .string ytx]) rfl (Or.inl ⟨by kernel_rfl, by intro w hSw; obtain ⟨s0, s1, s2, s3, s4, s5, s6, s7, s8, s9, s10, s11, s12, s13, s14, s15, s16, s17, s18, s19, s20, s21, s22, s23, s24⟩ := hSw; go_simp⟩) hHeld ?_
            simp only [tkS, Act.put]
            refine tkH 24 (.agg #[.int .i64 xa, .int .i64 xs, .int .i64 xt, .slice (some ⟨gd, od, none⟩) 16 cd, .int .i64 xk, .int .i64 xo, .int .i64 xn, .int .i64 xu, .int .i64 xpt, .int .i64 xpa, .string xky, .string xtx]) rfl (Or.inl ⟨by kernel_rfl, by intro w hSw; obtain ⟨s0, s1, s2, s3, s4, s5, s6, s7, s8, s9, s10, s11, s12, s13, s14, s15, s16, s17, s18, s19, s20, s21, s22, s23, s24⟩ := hSw; go_simp⟩) hHeld ?_
            simp only [tkS, Act.put]
            refine wpAnyH_ready (rs := [23]) (by kernel_rfl) (by simp) ?_
            refine AllReadyH.cons rfl (fun K hK => ?_) AllReadyH.nil
            go_simp
            refine (opStamp_any _ _ _ _ _ _ _ _ _ _ _ _ _).mono ?_
            rintro e wn ⟨rfl, hbn⟩
            replace hB := below_seq hB hbn
            clear hbn
            go_wp2_with fail
            refine hK.out _ _ (HF.out _ hB) (fun hHeld => ?_)
            clear hK K
            refine wpAnyH_ready (rs := [25]) (by kernel_rfl) (by simp) ?_
            refine AllReadyH.cons rfl (fun K hK => ?_) AllReadyH.nil
            go_simp
            refine (opStamp_any _ _ _ _ _ _ _ _ _ _ _ _ _).mono ?_
            rintro e wn ⟨rfl, hbn⟩
            replace hB := below_seq hB hbn
            clear hbn
            go_wp2_with fail
            refine hK.out _ _ (HF.out _ hB) (fun hHeld => ?_)
            clear hK K
            refine wpAnyH_ready (rs := [26]) (by kernel_rfl) (by simp) ?_
            refine AllReadyH.cons rfl (fun K hK => ?_) AllReadyH.nil
            go_simp
            refine (hLs _).mono ?_
            rintro e wn ⟨rfl, hbn⟩
            replace hB := below_seq hB hbn
            clear hbn
            go_wp2_with fail
            refine hK.out _ _ (HF.out _ hB) (fun hHeld => ?_)
            clear hK K
            refine tkH 27 (.bool false) rfl (Or.inl ⟨by kernel_rfl, by intro w hSw; obtain ⟨s0, s1, s2, s3, s4, s5, s6, s7, s8, s9, s10, s11, s12, s13, s14, s15, s16, s17, s18, s19, s20, s21, s22, s23, s24⟩ := hSw; go_simp⟩) hHeld ?_
            simp only [tkS, Act.put]
            refine tkH 28 (.bool false) rfl (Or.inl ⟨by kernel_rfl, by intro w hSw; obtain ⟨s0, s1, s2, s3, s4, s5, s6, s7, s8, s9, s10, s11, s12, s13, s14, s15, s16, s17, s18, s19, s20, s21, s22, s23, s24⟩ := hSw; go_simp⟩) hHeld ?_
            simp only [tkS, Act.put]
            refine tkH 29 (.bool false) rfl (Or.inl ⟨by kernel_rfl, by intro w hSw; obtain ⟨s0, s1, s2, s3, s4, s5, s6, s7, s8, s9, s10, s11, s12, s13, s14, s15, s16, s17, s18, s19, s20, s21, s22, s23, s24⟩ := hSw; go_simp⟩) hHeld ?_
            simp only [tkS, Act.put]
            refine wpAnyH_done (by kernel_rfl) ?_ _
            go_wp2_with fail
            go_roundw
            case rel => exact ⟨k + 1, by omega, by go_num, hB, HE⟩
            case measure => simp [intOf]; omega
    · have hki : ¬ (k : Int) < 16 := by omega
      have HE : Hid (r = true) := HR.out.symm.trans (HYES.out fun a ha => HA.out a (by omega))
      go_wp2_with fail
      go_ret
      exact ⟨by rw [HE.out]; rfl, below_seq (below_alloc _ _) hB⟩
end Go.Proofs.YtocffojhhjdeoaaGreat

namespace Go.Proofs.YtocffojhhjdeoaaGreat
open Go.RowKit
set_option linter.unusedVariables false

/-- The operations of actor a stand together, from place i on. -/
structure Stand (L : List Ov) (a i : Nat) : Prop where
  no : ∀ q, q < i → (ovAt L q).a ≠ (a : Int)
  yes : ∀ q, q < (byA L a).length → ovAt L (i + q) = ovAt (byA L a) q ∧ (ovAt L (i + q)).a = (a : Int)
  fit : i + (byA L a).length ≤ L.length

set_option maxHeartbeats 2000000 in
set_option maxRecDepth 100000 in
theorem l08Find_any (C : Nat) (w : World) (v : Value) (L : List Ov) (a i m : Nat) (hC : C ≤ w.heap.size) (hr : RdO C w v L) (hl : L.length ≤ 1024) (hS : Stand L a i) (hm : m < (byA L a).length) :
    Calls Tryz.prog 23 #[v, .int .i64 (a : Int), .int .i64 ((m + 1 : Nat) : Int)] w fun e w' => e = .returned (.int .i64 ((i + m : Nat) : Int)) ∧ w' = w := by
  obtain ⟨⟨ao, cap, rfl, hcap, hmax, hnil, hrow⟩, hdv⟩ := hr
  have hfit := hS.fit
  obtain ⟨g, off, rfl, hg, hcs⟩ := hrow (by omega)
  clear hdv hrow
  have HC : Hid (∀ k, k < L.length → w.cell? ⟨g, off + k * 12, none⟩ = some (.int .i64 (ovAt L k).a)) := fun k hk => (hcs k hk).c0
  go_enter Tryz.func23, Tryz.ntmps23
  go_wp2_with fail
  go_loop [7] (fun ti => ∃ k : Nat, k ≤ i ∧ ti = .int .i64 (k : Int)) (fun ti => i + 1 - (intOf ti).toNat)
  case atStart => exact ⟨0, Nat.zero_le _, rfl⟩
  case round =>
    obtain ⟨k, hk, rfl⟩ := hrel
    have hkl : (k : Int) < (L.length : Int) := by omega
    have hk2 : (k : Int) + 1 < 9223372036854775808 := by omega
    have c0 := HC.out k (by omega)
    by_cases e : k = i
    · have hy := (hS.yes 0 (by omega)).2
      rw [Nat.add_zero, ← e] at hy
      rw [hy] at c0
      have hz := (hS.yes m hm).2
      rw [← e] at hz
      have c1 := HC.out (k + m) (by omega)
      rw [hz] at c1
      have h1 : ¬ ((m : Int) + 1 < 1) := by omega
      have h2 : ¬ ((L.length : Int) - (k : Int) < (m : Int) + 1) := by omega
      have HE : Hid ((k + m : Nat) = i + m) := by unfold Hid; omega
      have hkm : ((k + m : Nat) : Int) < (L.length : Int) := by omega
      clear hy hz e
      go_wp2_with fail
      go_ret
      refine ⟨?_, rfl⟩
      have := HE.out
      simp
      omega
    · have hne : ((ovAt L k).a == (a : Int)) = false := by simpa using hS.no k (by omega)
      generalize (ovAt L k).a = z at c0 hne
      have hki : k < i := by omega
      clear e
      go_wp2_with fail
      go_round
      case rel => exact ⟨k + 1, by omega, by go_num⟩
      case measure => simp [intOf]; omega
end Go.Proofs.YtocffojhhjdeoaaGreat

namespace Go.Proofs.YtocffojhhjdeoaaGreat
open Go.RowKit
set_option linter.unusedVariables false

set_option maxHeartbeats 1000000 in
set_option maxRecDepth 100000 in
theorem newO_any (w : World) : Calls Tryz.prog 54 #[] w fun e w' => ∃ g, e = .returned (.agg #[.slice (some ⟨g, 0, none⟩) 16 16]) ∧ Own 3 w' w.heap.size (.slice (some ⟨g, 0, none⟩) 16 16) ((List.replicate 16 0).map (Value.int .i64)) ∧ Below w.heap.size w w' := by
  obtain ⟨i0, hi, hz0, hz1, hz2⟩ := info_parts info3
  go_enter Tryz.func54, Tryz.ntmps54
  go_wp2_with (at_make; refine wpList_make_full _ rfl _ _ 31 rfl (w.heap.size + 1) 3 i0 (.int .i64 0) 1 Tryz.underlying31 hi hz0 hz1 _ _ _ _ 16 rfl rfl rfl rfl (by rw [hz2]; omega) (by unfold maxLen; omega) (by simp) ?_)
  intro w1 hown hgrow
  have ho1 := own_of hown
  rw [toList_madeCells_one] at ho1
  have hk := (hgrow.block w.heap.size (by simp) (by simp)).trans (heap_alloc_new w _)
  have c0 := blk_cell hk 0 rfl
  have f0 := blk_free hk 0
  have hb1 : Below w.heap.size w w1 := (below_alloc w _).grown hgrow (by simp) (fun k hk => by cases hk)
  have ho2 := ho1.apart (grownBy_set w1 w.heap.size 0 (.slice (some ⟨w.heap.size + 1, 0, none⟩) 16 16)) (fun kk hk => by cases hk; omega)
  have hb2 := hb1.setCell (p := ⟨w.heap.size, 0, none⟩) (Nat.le_refl _) (.slice (some ⟨w.heap.size + 1, 0, none⟩) 16 16)
  have q0 : (w1.setCell ⟨w.heap.size, 0, none⟩ (.slice (some ⟨w.heap.size + 1, 0, none⟩) 16 16)).cell? ⟨w.heap.size, 0, none⟩ = some (.slice (some ⟨w.heap.size + 1, 0, none⟩) 16 16) := World.cell?_setCell_same _ _ _ c0
  clear hown hgrow ho1
  go_wp2_with fail
  refine bodyPost_ret (v := .agg #[.slice (some ⟨w.heap.size + 1, 0, none⟩) 16 16]) ?_ rfl ⟨_, rfl, ho2.mono (by omega), hb2⟩
  simp [results, Tryz.results54, go_sem, q0]

/-- How many operations of each actor there are. -/
def cnts (P : List Ov) : List Int := (List.range 16).map fun a => ((byA P a).length : Int)
theorem cnts_len (P : List Ov) : (cnts P).length = 16 := by simp [cnts]
theorem cnts_at (P : List Ov) {a : Nat} (h : a < 16) : (cnts P)[a]? = some ((byA P a).length : Int) := by simp [cnts, h]
theorem cnts_snoc (P : List Ov) (x : Ov) {a : Nat} (hx : x.a = (a : Int)) (h : a < 16) : cnts (P ++ [x]) = (cnts P).set a (((byA P a).length : Int) + 1) := by
  apply List.ext_getElem?
  intro b
  by_cases hb : b < 16
  · rw [cnts_at _ hb, byA_snoc]
    by_cases e : b = a
    · subst e
      rw [if_pos hx, List.getElem?_set_self (by rw [cnts_len]; exact h)]
      simp
    · rw [if_neg (by rw [hx]; omega), List.getElem?_set_ne (by omega), cnts_at _ hb]
  · rw [List.getElem?_eq_none (by rw [cnts_len]; omega), List.getElem?_eq_none (by rw [List.length_set, cnts_len]; omega)]

set_option maxHeartbeats 2000000 in
set_option maxRecDepth 100000 in
theorem l08Counts_wide (C : Nat) (w : World) (v : Value) (L : List Ov) (hC : C ≤ w.heap.size) (hr : RdO C w v L) (hl : L.length ≤ 1048576) (hA : ∀ x ∈ L, 0 ≤ x.a ∧ x.a < 16) :
    Calls Tryz.prog 27 #[v] w fun e w' => ∃ gc, e = .returned (.agg #[.slice (some ⟨gc, 0, none⟩) 16 16]) ∧ Own 3 w' w.heap.size (.slice (some ⟨gc, 0, none⟩) 16 16) ((cnts L).map (Value.int .i64)) ∧ Below w.heap.size w w' := by
  obtain ⟨⟨ao, cap, rfl, hcap, hmax, hnil, hrow⟩, hdv⟩ := hr
  clear hdv
  have hn := newO_any (w.alloc (.cells #[.slice none 0 0] 33))
  go_enter Tryz.func27, Tryz.ntmps27
  go_wp2_with fail
  refine hn.mono ?_
  rintro e w1 ⟨gc, rfl, ho, hb⟩
  rw [World.size_alloc] at ho
  have hgc : w.heap.size + 1 ≤ gc ∧ gc < w1.heap.size := World.ownsRow.lt ho gc rfl
  have hs1 := hb.size
  rw [World.size_alloc] at hs1
  have hbw : Below w.heap.size w w1 := below_seq (below_alloc _ _) hb
  have r1 : w1.heap[w.heap.size]? = some (.cells #[.slice none 0 0] 33 (0, 0)) := (hb.block w.heap.size (by rw [World.size_alloc]; omega)).trans (heap_alloc_new w _)
  have HI : Hid (Own 3 (w1.alloc (.cells #[.slice (some ⟨gc, 0, none⟩) 16 16] 33)) (w.heap.size + 1) (.slice (some ⟨gc, 0, none⟩) 16 16) ((cnts (L.take 0)).map (Value.int .i64)) ∧ (w1.alloc (.cells #[.slice (some ⟨gc, 0, none⟩) 16 16] 33)).heap[w1.heap.size]? = some (.cells #[.slice (some ⟨gc, 0, none⟩) 16 16] 33 (0, 0)) ∧ (w1.alloc (.cells #[.slice (some ⟨gc, 0, none⟩) 16 16] 33)).heap[w.heap.size]? = some (.cells #[.slice none 0 0] 33 (0, 0)) ∧ Below w.heap.size w (w1.alloc (.cells #[.slice (some ⟨gc, 0, none⟩) 16 16] 33))) :=
    ⟨World.ownsRow.alloc ho _, heap_alloc_new w1 _, (Below.heap_alloc w1 _ _ (by omega)).trans r1, below_then hbw _⟩
  clear hn hb ho r1
  go_wp2_with fail
  go_loopw [4] (fun ti wr => ∃ k : Nat, k ≤ L.length ∧ ti = .int .i64 (k : Int) ∧ Hid (Own 3 wr (w.heap.size + 1) (.slice (some ⟨gc, 0, none⟩) 16 16) ((cnts (L.take k)).map (Value.int .i64)) ∧ wr.heap[w1.heap.size]? = some (.cells #[.slice (some ⟨gc, 0, none⟩) 16 16] 33 (0, 0)) ∧ wr.heap[w.heap.size]? = some (.cells #[.slice none 0 0] 33 (0, 0)) ∧ Below w.heap.size w wr)) (fun ti _ => L.length - (intOf ti).toNat)
  case atStart => exact ⟨0, Nat.zero_le _, rfl, HI⟩
  case round =>
    clear HI hbw
    obtain ⟨k, hk, rfl, HI⟩ := hrel
    obtain ⟨ho, hvo, hro, hbel⟩ := HI.out
    by_cases hlt : k < L.length
    · have hki : (k : Int) < (L.length : Int) := by omega
      have hk2 : (k : Int) + 1 < 9223372036854775808 := by omega
      obtain ⟨g, off, rfl, hg, hcs⟩ := hrow (by omega)
      have hx := ((hcs k hlt).below (hbel.mono hC) hg).c0
      have hxa := hA _ (ovAt_mem hlt)
      obtain ⟨j, hj⟩ := Int.eq_ofNat_of_zero_le hxa.1
      have hj16 : j < 16 := by omega
      have hj16' : (j : Int) < 16 := by omega
      have hle : (byA (L.take k) j).length ≤ 1048576 := Nat.le_trans (List.length_filter_le _ _) (by rw [List.length_take]; omega)
      have HC : Hid (cnts (L.take (k + 1)) = (cnts (L.take k)).set j (((byA (L.take k) j).length : Int) + 1)) := by
        unfold Hid
        rw [List.take_add_one, ovAt_get hlt]
        exact cnts_snoc _ _ hj hj16
      rw [hj] at hx
      have hcj0 : wr.cell? ⟨gc, j, none⟩ = some (.int .i64 ((byA (L.take k) j).length : Int)) := own_at ho (by rw [List.getElem?_map, cnts_at _ hj16]; rfl)
      have hfj0 := own_free ho j
      have HN := own_set ho j (.int .i64 (((byA (L.take k) j).length : Int) + 1))
      rw [← List.map_set, ← HC.out] at HN
      generalize hce : ((byA (L.take k) j).length : Int) = c at *
      have hcw : IntKind.i64.wrap (c + 1) = c + 1 := by rw [IntKind.wrap_i64]; omega
      have hvb : wr.drew.cell? ⟨w1.heap.size, 0, none⟩ = some (.slice (some ⟨gc, 0, none⟩) 16 16) := blk_cell (w := wr) hvo 0 rfl
      have hxj : wr.drew.cell? ⟨g, off + k * 12, none⟩ = some (.int .i64 (j : Int)) := hx
      have hcj : wr.drew.cell? ⟨gc, j, none⟩ = some (.int .i64 c) := hcj0
      have hfj : wr.drew.frozen? ⟨gc, j, none⟩ = false := hfj0
      have hgw : g < w.heap.size := by omega
      have hv9 : (wr.setCell ⟨gc, j, none⟩ (.int .i64 (c + 1))).drew.cell? ⟨w1.heap.size, 0, none⟩ = some (.slice (some ⟨gc, 0, none⟩) 16 16) := blk_cell (w := wr.setCell ⟨gc, j, none⟩ (.int .i64 (c + 1))) ((heap_setCell_other wr ⟨gc, j, none⟩ w1.heap.size _ (by show w1.heap.size ≠ gc; omega)).trans hvo) 0 rfl
      have hx9 : (wr.setCell ⟨gc, j, none⟩ (.int .i64 (c + 1))).drew.cell? ⟨g, off + k * 12, none⟩ = some (.int .i64 (j : Int)) := (World.cell?_of_block (w := wr) (heap_setCell_other wr ⟨gc, j, none⟩ g _ (by show g ≠ gc; omega))).trans hx
      have HI2 : Hid (Own 3 (wr.setCell ⟨gc, j, none⟩ (.int .i64 (c + 1))).drew (w.heap.size + 1) (.slice (some ⟨gc, 0, none⟩) 16 16) ((cnts (L.take (k + 1))).map (Value.int .i64)) ∧ (wr.setCell ⟨gc, j, none⟩ (.int .i64 (c + 1))).drew.heap[w1.heap.size]? = some (.cells #[.slice (some ⟨gc, 0, none⟩) 16 16] 33 (0, 0)) ∧ (wr.setCell ⟨gc, j, none⟩ (.int .i64 (c + 1))).drew.heap[w.heap.size]? = some (.cells #[.slice none 0 0] 33 (0, 0)) ∧ Below w.heap.size w (wr.setCell ⟨gc, j, none⟩ (.int .i64 (c + 1))).drew) :=
        ⟨HN, (heap_setCell_other wr ⟨gc, j, none⟩ w1.heap.size _ (by show w1.heap.size ≠ gc; omega)).trans hvo, (heap_setCell_other wr ⟨gc, j, none⟩ w.heap.size _ (by show w.heap.size ≠ gc; omega)).trans hro, (hbel.setCell (p := ⟨gc, j, none⟩) (by show w.heap.size ≤ gc; omega) _).drew⟩
      clear hcs HI ho hvo hro hbel HN hce HC hA hrow
      go_wp2_with fail
      refine wp_region_held_drew (S := fun w' => w'.cell? ⟨w1.heap.size, 0, none⟩ = some (.slice (some ⟨gc, 0, none⟩) 16 16) ∧ w'.cell? ⟨g, off + k * 12, none⟩ = some (.int .i64 (j : Int))) (by kernel_rfl) (⟨hvb, hxj⟩) (fun hHeld => ?_)
      refine tkH 0 (.pointer (some ⟨w1.heap.size, 0, none⟩)) rfl (Or.inl ⟨by kernel_rfl, by intro w hSw; obtain ⟨s0, s1⟩ := hSw; go_simp⟩) hHeld ?_
      simp only [tkS, Act.put]
      refine tkH 1 (.slice (some ⟨gc, 0, none⟩) 16 16) rfl (Or.inl ⟨by kernel_rfl, by intro w hSw; obtain ⟨s0, s1⟩ := hSw; go_simp⟩) hHeld ?_
      simp only [tkS, Act.put]
      refine tkH 2 (.slice (some ⟨g, off, none⟩) L.length cap) rfl (Or.inl ⟨by kernel_rfl, by intro w hSw; obtain ⟨s0, s1⟩ := hSw; go_simp⟩) hHeld ?_
      simp only [tkS, Act.put]
      refine tkH 3 (.int .i64 ((k : Int))) rfl (Or.inl ⟨by kernel_rfl, by intro w hSw; obtain ⟨s0, s1⟩ := hSw; go_simp⟩) hHeld ?_
      simp only [tkS, Act.put]
      refine tkH 4 (.pointer (some ⟨g, off + k * 12, none⟩)) rfl (Or.inl ⟨by kernel_rfl, by intro w hSw; obtain ⟨s0, s1⟩ := hSw; go_simp⟩) hHeld ?_
      simp only [tkS, Act.put]
      refine tkH 5 (.pointer (some ⟨g, off + k * 12, none⟩)) rfl (Or.inl ⟨by kernel_rfl, by intro w hSw; obtain ⟨s0, s1⟩ := hSw; go_simp⟩) hHeld ?_
      simp only [tkS, Act.put]
      refine tkH 6 (.int .i64 ((j : Int))) rfl (Or.inl ⟨by kernel_rfl, by intro w hSw; obtain ⟨s0, s1⟩ := hSw; go_simp⟩) hHeld ?_
      simp only [tkS, Act.put]
      refine tkH 7 (.pointer (some ⟨gc, j, none⟩)) rfl (Or.inl ⟨by kernel_rfl, by intro w hSw; obtain ⟨s0, s1⟩ := hSw; go_simp⟩) hHeld ?_
      simp only [tkS, Act.put]
      refine wpAnyH_ready (rs := [8]) (by kernel_rfl) (by simp) ?_
      refine AllReadyH.cons rfl (fun K hK => ?_) AllReadyH.nil
      have c8 := hcj
      have c8b : wr.cell? ⟨gc, j, none⟩ = some (.int .i64 c) := hcj
      go_simp
      refine hK.out _ _ (⟨hvb, hxj⟩) (fun hHeld => ?_)
      clear hK K
      refine tkH 9 (.int .i64 (c + 1)) rfl (Or.inl ⟨by kernel_rfl, by intro w hSw; obtain ⟨s0, s1⟩ := hSw; go_simp⟩) hHeld ?_
      simp only [tkS, Act.put]
      refine tkH 10 (.pointer (some ⟨gc, j, none⟩)) rfl (Or.inl ⟨by kernel_rfl, by intro w hSw; obtain ⟨s0, s1⟩ := hSw; go_simp⟩) hHeld ?_
      simp only [tkS, Act.put]
      refine wpAnyH_ready (rs := [11]) (by kernel_rfl) (by simp) ?_
      refine AllReadyH.cons rfl (fun K hK => ?_) AllReadyH.nil
      have c11 := hcj
      have c11b : wr.cell? ⟨gc, j, none⟩ = some (.int .i64 c) := hcj
      have f11 := hfj
      have f11b : wr.frozen? ⟨gc, j, none⟩ = false := hfj
      go_simp
      refine hK.out _ _ (⟨hv9, hx9⟩) (fun hHeld => ?_)
      clear hK K
      refine wpAnyH_done (by kernel_rfl) ?_ _
      go_wp2_with fail
      go_roundw
      case rel => exact ⟨k + 1, by omega, by go_num, HI2⟩
      case measure => simp [intOf]; omega
    · obtain rfl : k = L.length := by omega
      rw [List.take_of_length_le (Nat.le_refl _)] at ho
      have c1 := blk_cell hvo 0 rfl
      have c0 := blk_cell hro 0 rfl
      have f0 := blk_free hro 0
      have HO2 : Hid (Own 3 (wr.setCell ⟨w.heap.size, 0, none⟩ (.slice (some ⟨gc, 0, none⟩) 16 16)) w.heap.size (.slice (some ⟨gc, 0, none⟩) 16 16) ((cnts L).map (Value.int .i64))) := (ho.apart (grownBy_set wr w.heap.size 0 (.slice (some ⟨gc, 0, none⟩) 16 16)) (fun kk hk => by cases hk; omega)).mono (by omega)
      have HB2 : Hid (Below w.heap.size w (wr.setCell ⟨w.heap.size, 0, none⟩ (.slice (some ⟨gc, 0, none⟩) 16 16))) := hbel.setCell (p := ⟨w.heap.size, 0, none⟩) (Nat.le_refl _) _
      have q0 : (wr.setCell ⟨w.heap.size, 0, none⟩ (.slice (some ⟨gc, 0, none⟩) 16 16)).cell? ⟨w.heap.size, 0, none⟩ = some (.slice (some ⟨gc, 0, none⟩) 16 16) := World.cell?_setCell_same _ _ _ c0
      clear HI ho hvo hro hbel hrow hA
      go_wp2_with fail
      exact bodyPost_ret (v := .agg #[.slice (some ⟨gc, 0, none⟩) 16 16]) (by simp [results, Tryz.results27, go_sem, q0]) rfl ⟨_, rfl, HO2.out, HB2.out⟩
theorem l08Counts_any (C : Nat) (w : World) (v : Value) (L : List Ov) (hC : C ≤ w.heap.size) (hr : RdO C w v L) (hl : L.length ≤ 1024) (hA : ∀ x ∈ L, 0 ≤ x.a ∧ x.a < 16) :
    Calls Tryz.prog 27 #[v] w fun e w' => ∃ gc, e = .returned (.agg #[.slice (some ⟨gc, 0, none⟩) 16 16]) ∧ Own 3 w' w.heap.size (.slice (some ⟨gc, 0, none⟩) 16 16) ((cnts L).map (Value.int .i64)) ∧ Below w.heap.size w w' := l08Counts_wide C w v L hC hr (by omega) hA
end Go.Proofs.YtocffojhhjdeoaaGreat

namespace Go.Proofs.YtocffojhhjdeoaaGreat
open Go.RowKit
set_option linter.unusedVariables false

theorem owns_rdO {w : World} {B : Nat} {v : Value} {M : List Ov} (h : w.ownsRow B 37 12 v M.length (rowCs M)) (hd : ∀ x ∈ M, Rd w.heap.size w x.dv (x.ds.map (Value.int .i64))) : RdO w.heap.size w v M := by
  have h' := h
  obtain ⟨h1, h2⟩ := h
  rcases h2 with ⟨hv, hn⟩ | ⟨g, cap, cur, hv, hg, hh, hle, hm, hs, ht⟩
  · subst hv
    refine ⟨⟨none, 0, by rw [hn], by omega, by unfold maxLen; omega, fun _ => rfl, fun hp => absurd hp (by omega)⟩, hd⟩
  · subst hv
    exact ⟨⟨_, cap, rfl, hle, hm, fun e => (by cases e), fun hp => ⟨g, 0, rfl, (Array.getElem?_eq_some_iff.1 hh).1, fun k hk => by rw [Nat.zero_add]; exact row_at h' hk⟩⟩, hd⟩
end Go.Proofs.YtocffojhhjdeoaaGreat
