/- The code's ledger: what put does. -/
import Derived.Test.YtaglbacicpknaaaLedger
import Derived.Test.YtaglbacicpknaaaTakeKit
namespace Go.Proofs.Ytaglbacicpknaaa
open Go.RowKit
set_option linter.unusedVariables false

theorem infoOp : (Try.prog.info? 36).map (fun i => (i.zero, i.size, i.bytes)) = some (some (.agg #[.int .i64 0, .int .i64 0, .int .i64 0, .slice none 0 0, .int .i64 0, .int .i64 0, .int .i64 0, .int .i64 0, .int .i64 0, .int .i64 0, .string ByteArray.empty, .string ByteArray.empty]), 12, 128) := by kernel_rfl
theorem blk_cell {w : World} {g : Nat} {cs : Array Value} {T : TypeId} (h : w.heap[g]? = some (.cells cs T (0, 0))) (k : Nat) {v : Value} (hk : cs[k]? = some v) : w.cell? ⟨g, k, none⟩ = some v := by
  unfold World.cell?
  rw [show w.heap[(⟨g, k, none⟩ : Addr).block]? = some (.cells cs T (0, 0)) from h]
  exact hk
theorem blk_free {w : World} {g : Nat} {cs : Array Value} {T : TypeId} (h : w.heap[g]? = some (.cells cs T (0, 0))) (k : Nat) : w.frozen? ⟨g, k, none⟩ = false := by
  unfold World.frozen?
  rw [show w.heap[(⟨g, k, none⟩ : Addr).block]? = some (.cells cs T (0, 0)) from h]
  simp
theorem own_at {w : World} {T : TypeId} {B g n cap : Nat} {cs : List Value} (h : Own T w B (.slice (some ⟨g, 0, none⟩) n cap) cs) {k : Nat} {v : Value} (hk : cs[k]? = some v) : w.cell? ⟨g, k, none⟩ = some v := by
  obtain ⟨h1, h2⟩ := List.getElem?_eq_some_iff.1 hk
  rw [own_cell h h1, h2]
theorem owns_blk {w w' : World} {B : Nat} {e : TypeId} {s n g c m : Nat} {xs : List Value} (h : w.ownsRow B e s (.slice (some ⟨g, 0, none⟩) m c) n xs) (hb : w'.heap[g]? = w.heap[g]?) : w'.ownsRow B e s (.slice (some ⟨g, 0, none⟩) m c) n xs := by
  obtain ⟨h1, h2⟩ := h
  refine ⟨h1, ?_⟩
  rcases h2 with h2 | ⟨g', cap, cur, hv, hg, hh, r⟩
  · exact .inl h2
  · simp only [Value.slice.injEq, Option.some.injEq, Addr.mk.injEq, and_true] at hv
    obtain ⟨rfl, rfl, rfl⟩ := hv
    exact .inr ⟨g, c, cur, rfl, hg, hb.trans hh, r⟩
theorem owns_all {w w' : World} {B : Nat} {e : TypeId} {s n : Nat} {v : Value} {xs : List Value} (h : w.ownsRow B e s v n xs) (hb : ∀ k, v.ownBlock = some k → w'.heap[k]? = w.heap[k]?) : w'.ownsRow B e s v n xs := by
  obtain ⟨h1, h2⟩ := h
  refine ⟨h1, ?_⟩
  rcases h2 with h2 | ⟨g', cap, cur, rfl, hg, hh, r⟩
  · exact .inl h2
  · exact .inr ⟨g', cap, cur, rfl, hg, (hb g' rfl).trans hh, r⟩
theorem led_set {vs : List Value} {P : List Ov} {x : Ov} {a j : Nat} {v : Value} (h : vs.length = 16) (ha : a < 16) (hj : j < 101) (hx : x.o = (j : Int)) :
    ((((ledCs vs P).set a v).set (16 + j) (.int .i64 (thOf x.k))).set 117 (.int .i64 ((P.length : Int) + 1))) = ledCs (vs.set a v) (P ++ [x]) := by
  unfold ledCs
  have e1 : (vs ++ ((tsOf P).map (Value.int .i64) ++ [Value.int .i64 (P.length : Int)])).set a v = vs.set a v ++ ((tsOf P).map (Value.int .i64) ++ [Value.int .i64 (P.length : Int)]) := by rw [List.set_append_left _ _ (by omega)]
  have e2 : ∀ (us : List Value), us.length = 16 → (us ++ ((tsOf P).map (Value.int .i64) ++ [Value.int .i64 (P.length : Int)])).set (16 + j) (.int .i64 (thOf x.k)) = us ++ (((tsOf P).set j (thOf x.k)).map (Value.int .i64) ++ [Value.int .i64 (P.length : Int)]) := by
    intro us hu
    rw [List.set_append_right _ _ (by omega), show 16 + j - us.length = j by omega, List.set_append_left _ _ (by simp [tsOf_len]; omega), List.map_set]
  have e3 : ∀ (us : List Value) (ts : List Int), us.length = 16 → ts.length = 101 → (us ++ (ts.map (Value.int .i64) ++ [Value.int .i64 (P.length : Int)])).set 117 (.int .i64 ((P.length : Int) + 1)) = us ++ (ts.map (Value.int .i64) ++ [Value.int .i64 ((P.length : Int) + 1)]) := by
    intro us ts hu ht
    rw [List.set_append_right _ _ (by omega), List.set_append_right _ _ (by simp; omega), show 117 - us.length - (List.map (Value.int .i64) ts).length = 0 by simp; omega]
    rfl
  rw [e1, e2 _ (by simp [h]), e3 _ _ (by simp [h]) (by simp [tsOf_len]), tsOf_snoc, hx, Int.toNat_natCast]
  simp

end Go.Proofs.Ytaglbacicpknaaa
