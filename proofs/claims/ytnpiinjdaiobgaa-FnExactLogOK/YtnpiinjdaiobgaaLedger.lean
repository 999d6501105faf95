/- The code's ledger: where it lies, and what isNext, suits and put do. -/
import Derived.Test.YtnpiinjdaiobgaaOpBase
import Derived.Deep.AppendLies
import Derived.BigQuiet
namespace Go.Proofs.Ytnpiinjdaiobgaa
open Go.RowKit
set_option linter.unusedVariables false

/-- What an object is by the kind of operation. -/
def thOf (k : Int) : Int := if k = 3 then 2 else k
set_option maxHeartbeats 400000 in
theorem thingOf_any (k : Int) (w : World) : Calls Try.prog 43 #[.int .i64 k] w fun e w' => e = .returned (.int .i64 (thOf k)) ∧ w' = w := by
  unfold thOf
  go_enter Try.func43, Try.ntmps43
  go_wp2_with fail
  all_goals go_ret
  all_goals exact ⟨by simp_all, rfl⟩

/-- The cells of operations, one behind the other. -/
def rowCs (L : List Ov) : List Value := (L.map Ov.cs).flatten
theorem rowCs_len (L : List Ov) : (rowCs L).length = L.length * 12 := by
  induction L with
  | nil => rfl
  | cons x L ih => simp only [rowCs, List.map_cons, List.flatten_cons, List.length_append, List.length_cons] at ih ⊢; rw [ih]; simp [Ov.cs]; omega
theorem rowCs_app (L M : List Ov) : rowCs (L ++ M) = rowCs L ++ rowCs M := by simp [rowCs]
/-- The operations of an actor. -/
def byA (P : List Ov) (a : Nat) : List Ov := P.filter fun x => decide (x.a = (a : Int))
/-- What each object is. -/
def tsOf (P : List Ov) : List Int := P.foldl (fun ts x => ts.set x.o.toNat (thOf x.k)) (List.replicate 101 0)
theorem tsOf_len (P : List Ov) : (tsOf P).length = 101 := by
  unfold tsOf
  generalize hts : List.replicate 101 (0 : Int) = ts
  have h : ts.length = 101 := by rw [← hts]; simp
  clear hts
  induction P generalizing ts with
  | nil => exact h
  | cons x P ih => exact ih _ (by simp [h])
theorem tsOf_snoc (P : List Ov) (x : Ov) : tsOf (P ++ [x]) = (tsOf P).set x.o.toNat (thOf x.k) := by simp [tsOf]
theorem byA_snoc (P : List Ov) (x : Ov) (a : Nat) : byA (P ++ [x]) a = if x.a = (a : Int) then byA P a ++ [x] else byA P a := by
  unfold byA
  rw [List.filter_append]
  by_cases h : x.a = (a : Int) <;> simp [h]
/-- The ledger's cells. -/
def ledCs (vs : List Value) (P : List Ov) : List Value := vs ++ ((tsOf P).map (Value.int .i64) ++ [.int .i64 (P.length : Int)])
theorem ledCs_len {vs : List Value} {P : List Ov} (h : vs.length = 16) : (ledCs vs P).length = 118 := by simp [ledCs, h, tsOf_len]
theorem led_vs {vs : List Value} {P : List Ov} (h : vs.length = 16) {a : Nat} (ha : a < 16) : (ledCs vs P)[a]? = some (vs.getD a undef) := by
  unfold ledCs
  rw [List.getElem?_append_left (by omega), List.getD_eq_getElem?_getD, List.getElem?_eq_getElem (by omega)]
  rfl
theorem led_ts {vs : List Value} {P : List Ov} (h : vs.length = 16) {j : Nat} (hj : j < 101) : (ledCs vs P)[16 + j]? = some (.int .i64 ((tsOf P).getD j 0)) := by
  unfold ledCs
  rw [List.getElem?_append_right (by omega), List.getElem?_append_left (by simp [tsOf_len]; omega), List.getElem?_map, h, Nat.add_sub_cancel_left, List.getD_eq_getElem?_getD, List.getElem?_eq_getElem (by rw [tsOf_len]; omega)]
  rfl
theorem led_sz {vs : List Value} {P : List Ov} (h : vs.length = 16) : (ledCs vs P)[117]? = some (.int .i64 (P.length : Int)) := by
  unfold ledCs
  rw [List.getElem?_append_right (by omega), List.getElem?_append_right (by simp [tsOf_len, h])]
  simp [h, tsOf_len]

/-- The ledger of the operations P lies in block lb: its cells, and the rows of each actor, all of the call's own, from block B on, no two in one block. -/
structure Led (w : World) (B lb : Nat) (vs : List Value) (P : List Ov) : Prop where
  len : vs.length = 16
  blk : w.heap[lb]? = some (.cells (ledCs vs P).toArray 63 (0, 0))
  low : B ≤ lb
  row : ∀ a, a < 16 → w.ownsRow B 41 12 (vs.getD a undef) (byA P a).length (rowCs (byA P a))
  far : ∀ a, a < 16 → (vs.getD a undef).ownBlock ≠ some lb
  part : ∀ a b, a < 16 → b < 16 → a ≠ b → ∀ g, (vs.getD a undef).ownBlock = some g → (vs.getD b undef).ownBlock ≠ some g
theorem Led.cell {w : World} {B lb : Nat} {vs : List Value} {P : List Ov} (h : Led w B lb vs P) {k : Nat} {v : Value} (hk : (ledCs vs P)[k]? = some v) : w.cell? ⟨lb, k, none⟩ = some v := by
  unfold World.cell?
  rw [show w.heap[(⟨lb, k, none⟩ : Addr).block]? = some (.cells (ledCs vs P).toArray 63 (0, 0)) from h.blk]
  simpa using hk
theorem Led.lt {w : World} {B lb : Nat} {vs : List Value} {P : List Ov} (h : Led w B lb vs P) : lb < w.heap.size := (Array.getElem?_eq_some_iff.1 h.blk).1
theorem Led.free {w : World} {B lb : Nat} {vs : List Value} {P : List Ov} (h : Led w B lb vs P) (k : Nat) : w.frozen? ⟨lb, k, none⟩ = false := by
  unfold World.frozen?
  rw [show w.heap[(⟨lb, k, none⟩ : Addr).block]? = some (.cells (ledCs vs P).toArray 63 (0, 0)) from h.blk]
  simp
theorem owns_on {w w' : World} {C B : Nat} {e : TypeId} {s n : Nat} {v : Value} {xs : List Value} (h : w.ownsRow B e s v n xs) (hb : Below C w w') (hc : w.heap.size ≤ C) : w'.ownsRow B e s v n xs := by
  obtain ⟨h1, h2⟩ := h
  refine ⟨h1, ?_⟩
  rcases h2 with h2 | ⟨g, cap, cur, rfl, hg, hh, r⟩
  · exact .inl h2
  · have hl : g < w.heap.size := (Array.getElem?_eq_some_iff.1 hh).1
    exact .inr ⟨g, cap, cur, rfl, hg, (hb.block g (by omega)).trans hh, r⟩
theorem Led.on {w w' : World} {C B lb : Nat} {vs : List Value} {P : List Ov} (h : Led w B lb vs P) (hb : Below C w w') (hc : w.heap.size ≤ C) : Led w' B lb vs P :=
  ⟨h.len, (hb.block lb (by have := h.lt; omega)).trans h.blk, h.low, fun a ha => owns_on (h.row a ha) hb hc, h.far, h.part⟩
/-- What an actor's slice looks like. -/
theorem Led.slice {w : World} {B lb : Nat} {vs : List Value} {P : List Ov} (h : Led w B lb vs P) {a : Nat} (ha : a < 16) : ∃ ao cap, vs.getD a undef = .slice ao (byA P a).length cap := by
  obtain ⟨_, h2⟩ := h.row a ha
  rcases h2 with ⟨hv, hn⟩ | ⟨g, cap, cur, hv, _⟩
  · exact ⟨none, 0, by rw [hv, hn]⟩
  · exact ⟨_, cap, hv⟩

set_option maxHeartbeats 1000000 in
set_option maxRecDepth 100000 in
theorem isNext_any (B lb : Nat) (vs : List Value) (P : List Ov) (x : Ov) (w : World) (hL : Led w B lb vs P) (a : Nat) (ha : a < 16) (hx : x.a = (a : Int)) (hP : P.length ≤ 1024) :
    Calls Try.prog 29 #[.pointer (some ⟨lb, 0, none⟩), .agg #[.int .i64 x.a, .int .i64 x.s, .int .i64 x.t, x.dv, .int .i64 x.k, .int .i64 x.o, .int .i64 x.n, .int .i64 x.u, .int .i64 x.pt, .int .i64 x.pa, .string x.ky, .string x.tx]] w fun e w' => e = .returned (.bool (decide (x.s = ((byA P a).length : Int) + 1))) ∧ Below w.heap.size w w' := by
  have hl := hL.on (below_alloc w (.cells #[.int .i64 x.a, .int .i64 x.s, .int .i64 x.t, x.dv, .int .i64 x.k, .int .i64 x.o, .int .i64 x.n, .int .i64 x.u, .int .i64 x.pt, .int .i64 x.pa, .string x.ky, .string x.tx] 41)) (Nat.le_refl _)
  obtain ⟨ao, cap, hv⟩ := hL.slice ha
  have c0 := hl.cell (led_vs hL.len ha)
  rw [hv] at c0
  have hle : (byA P a).length ≤ 1024 := Nat.le_trans (List.length_filter_le _ _) hP
  obtain ⟨xa, xs, xt, xdv, xk, xo, xn, xu, xpt, xpa, xky, xtx, xds⟩ := x
  simp only at hx c0 hl ⊢
  subst hx
  generalize (byA P a).length = m at *
  have hm : (m : Int) ≤ 1024 := by omega
  have ha' : (a : Int) < 16 := by omega
  clear hv hl hL
  go_enter Try.func29, Try.ntmps29
  go_wp2_with fail
  go_quiet (fail)
  go_wp2_with fail
  go_ret
  refine ⟨?_, below_drewN (below_alloc _ _) _⟩
  simp
  rw [Bool.eq_iff_iff]
  simp

set_option maxHeartbeats 1000000 in
set_option maxRecDepth 100000 in
theorem suits_any (B lb : Nat) (vs : List Value) (P : List Ov) (x : Ov) (w : World) (hL : Led w B lb vs P) (j : Nat) (hj : j < 101) (hx : x.o = (j : Int)) :
    Calls Try.prog 30 #[.pointer (some ⟨lb, 0, none⟩), .agg #[.int .i64 x.a, .int .i64 x.s, .int .i64 x.t, x.dv, .int .i64 x.k, .int .i64 x.o, .int .i64 x.n, .int .i64 x.u, .int .i64 x.pt, .int .i64 x.pa, .string x.ky, .string x.tx]] w fun e w' => e = .returned (.bool (decide ((tsOf P).getD j 0 = 0 ∨ (tsOf P).getD j 0 = thOf x.k))) ∧ Below w.heap.size w w' := by
  have hl := hL.on (below_alloc w (.cells #[.int .i64 x.a, .int .i64 x.s, .int .i64 x.t, x.dv, .int .i64 x.k, .int .i64 x.o, .int .i64 x.n, .int .i64 x.u, .int .i64 x.pt, .int .i64 x.pa, .string x.ky, .string x.tx] 41)) (Nat.le_refl _)
  have c0 := hl.cell (led_ts hL.len hj)
  obtain ⟨xa, xs, xt, xdv, xk, xo, xn, xu, xpt, xpa, xky, xtx, xds⟩ := x
  simp only at hx c0 hl ⊢
  subst hx
  generalize (tsOf P).getD j 0 = q at *
  have hj' : (j : Int) < 101 := by omega
  clear hl hL
  go_enter Try.func30, Try.ntmps30
  go_wp2_with fail
  go_quiet (fail)
  go_wp2_with (first | (go_at_call 43; refine (thingOf_any _ _).mono ?_; rintro e w' ⟨rfl, hw⟩; obtain rfl := hw.symm))
  all_goals go_ret
  all_goals refine ⟨?_, below_drewN (below_alloc _ _) _⟩
  all_goals first | (simp [*]; done) | (simp [*]; rw [Bool.eq_iff_iff]; simp; intro h; omega)

theorem own_full {w : World} {g : Nat} {T : TypeId} {cs : List Value} (h : w.heap[g]? = some (.cells cs.toArray T (0, 0))) (hm : cs.length ≤ maxLen) : Own T w g (.slice (some ⟨g, 0, none⟩) cs.length cs.length) cs :=
  ⟨by simp, .inr ⟨g, cs.length, cs.toArray, rfl, Nat.le_refl _, h, Nat.le_refl _, hm, by simp, by simp⟩⟩
theorem full_own {w : World} {g B n : Nat} {T : TypeId} {cs : List Value} (h : Own T w B (.slice (some ⟨g, 0, none⟩) n n) cs) (hn : cs.length = n) : w.heap[g]? = some (.cells cs.toArray T (0, 0)) := by
  obtain ⟨h1, h2⟩ := h
  rcases h2 with ⟨hv, _⟩ | ⟨g', cap, cur, hv, _, hh, _, _, hs, ht⟩
  · simp at hv
  · simp only [Value.slice.injEq, Option.some.injEq, Addr.mk.injEq, and_true] at hv
    obtain ⟨rfl, e1, rfl⟩ := hv
    rw [hh]
    have : cur = cs.toArray := by
      apply Array.ext'
      rw [← ht, List.take_of_length_le (by rw [Array.length_toList]; omega)]
    rw [this]
theorem cs_one (x : Ov) (hd : x.dv.oneCell' = true) : ∀ u ∈ x.cs, u.oneCell' = true := by
  intro u hu
  simp only [Ov.cs, List.mem_cons, List.not_mem_nil, or_false] at hu
  rcases hu with rfl | rfl | rfl | rfl | rfl | rfl | rfl | rfl | rfl | rfl | rfl | rfl
  all_goals first | exact hd | rfl

end Go.Proofs.Ytnpiinjdaiobgaa
