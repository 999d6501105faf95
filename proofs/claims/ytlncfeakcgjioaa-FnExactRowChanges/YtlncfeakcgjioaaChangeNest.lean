/- The laws' own functions over lists of changes: what they are, one of them. No condition: they are lemmas. -/
import Derived.Test.YtlncfeakcgjioaaNestTexts
namespace Go.Proofs.Ytlncfeakcgjioaa
open Go.RowKit
set_option linter.unusedVariables false

theorem infoChange : (Try.prog.info? 51).map (fun i => (i.zero, i.size, i.bytes)) = some (some (.agg #[.string ByteArray.empty, .slice none 0 0, .slice none 0 0]), 3, 64) := by kernel_rfl

/-- What a change says; the same with the slices in which its texts lie. -/
abbrev Cg := ByteArray × List ByteArray × List ByteArray
structure CgF where
  x : Cg
  u : Value
  v : Value
def CgF.cs (f : CgF) : List Value := [.string f.x.1, f.u, f.v]
def CgF.sb (f : CgF) : List (Value × List ByteArray) := [(f.u, f.x.2.1), (f.v, f.x.2.2)]
def cgFcs (M : List CgF) : List Value := M.flatMap CgF.cs
def cgFsb (M : List CgF) : List (Value × List ByteArray) := M.flatMap CgF.sb
def cgFx (M : List CgF) : List Cg := M.map CgF.x
theorem cgFcs_app (a b : List CgF) : cgFcs (a ++ b) = cgFcs a ++ cgFcs b := List.flatMap_append
theorem cgFsb_app (a b : List CgF) : cgFsb (a ++ b) = cgFsb a ++ cgFsb b := List.flatMap_append
theorem cgFx_app (a b : List CgF) : cgFx (a ++ b) = cgFx a ++ cgFx b := List.map_append
theorem cgFcs_cons (f : CgF) (r : List CgF) : cgFcs (f :: r) = f.cs ++ cgFcs r := List.flatMap_cons
theorem cgFsb_cons (f : CgF) (r : List CgF) : cgFsb (f :: r) = f.sb ++ cgFsb r := List.flatMap_cons
theorem cgFcs_len : ∀ M : List CgF, (cgFcs M).length = M.length * 3
  | [] => rfl
  | f :: r => by rw [cgFcs_cons, List.length_append, cgFcs_len r, List.length_cons]; show 3 + _ = _; omega
theorem cgFcs_get (a : List CgF) (f : CgF) (r : List CgF) (j : Nat) (hj : j < 3) : (cgFcs (a ++ f :: r))[a.length * 3 + j]? = f.cs[j]? := by
  rw [cgFcs_app, List.getElem?_append_right (by rw [cgFcs_len]; omega), cgFcs_len, Nat.add_sub_cancel_left, cgFcs_cons, List.getElem?_append_left (by show j < 3; omega)]
theorem cgFcs_set (a : List CgF) (f : CgF) (r : List CgF) (t : ByteArray) : (cgFcs (a ++ f :: r)).set (a.length * 3) (.string t) = cgFcs (a ++ { f with x := (t, f.x.2) } :: r) := by
  rw [cgFcs_app, cgFcs_app]
  have := set_app (cgFcs a) (cgFcs (f :: r)) (a.length * 3) 0 (.string t) (cgFcs_len a)
  rw [Nat.add_zero] at this
  rw [this]
  rfl

/-- A change lies at a place of block g; its texts can be read. -/
def CgAt (C : Nat) (w : World) (g o : Nat) (x : Cg) : Prop := w.cell? ⟨g, o, none⟩ = some (.string x.1) ∧ ∃ u v, w.cell? ⟨g, o + 1, none⟩ = some u ∧ w.cell? ⟨g, o + 2, none⟩ = some v ∧ Rd C w u (x.2.1.map Value.string) ∧ Rd C w v (x.2.2.map Value.string)
theorem CgAt.below {C : Nat} {w w' : World} {g o : Nat} {x : Cg} (h : CgAt C w g o x) (hb : Below C w w') (hg : g < C) : CgAt C w' g o x := by
  obtain ⟨d0, u, v, d1, d2, r1, r2⟩ := h
  exact ⟨(hb.cell (p := ⟨g, o, none⟩) hg).trans d0, u, v, (hb.cell (p := ⟨g, o + 1, none⟩) hg).trans d1, (hb.cell (p := ⟨g, o + 2, none⟩) hg).trans d2, r1.below hb, r2.below hb⟩
theorem CgAt.mono {C C' : Nat} {w : World} {g o : Nat} {x : Cg} (h : CgAt C w g o x) (hc : C ≤ C') : CgAt C' w g o x := by
  obtain ⟨d0, u, v, d1, d2, r1, r2⟩ := h
  exact ⟨d0, u, v, d1, d2, r1.mono hc, r2.mono hc⟩
/-- The slice v reads as these changes, in blocks below C. -/
def RdCg (C : Nat) (w : World) (v : Value) (P : List Cg) : Prop :=
  ∃ ao cap, v = .slice ao P.length cap ∧ P.length ≤ cap ∧ cap ≤ maxLen ∧ (ao = none → cap = 0) ∧ (0 < P.length → ∃ g off, ao = some ⟨g, off, none⟩ ∧ g < C ∧ ∀ k x, P[k]? = some x → CgAt C w g (off + k * 3) x)
theorem RdCg.below {C : Nat} {w w' : World} {v : Value} {P : List Cg} (h : RdCg C w v P) (hb : Below C w w') : RdCg C w' v P := by
  obtain ⟨ao, cap, rfl, h1, h2, h3, h⟩ := h
  refine ⟨ao, cap, rfl, h1, h2, h3, fun hp => ?_⟩
  obtain ⟨g, off, rfl, hg, hr⟩ := h hp
  exact ⟨g, off, rfl, hg, fun k x hk => (hr k x hk).below hb hg⟩
theorem RdCg.mono {C C' : Nat} {w : World} {v : Value} {P : List Cg} (h : RdCg C w v P) (hc : C ≤ C') : RdCg C' w v P := by
  obtain ⟨ao, cap, rfl, h1, h2, h3, h⟩ := h
  refine ⟨ao, cap, rfl, h1, h2, h3, fun hp => ?_⟩
  obtain ⟨g, off, rfl, hg, hr⟩ := h hp
  exact ⟨g, off, rfl, by omega, fun k x hk => (hr k x hk).mono hc⟩
theorem RdCg.on {C : Nat} {w w' : World} {v : Value} {P : List Cg} (h : RdCg C w v P) (hC : C ≤ w.heap.size) (hb : Below w.heap.size w w') : RdCg C w' v P := h.below (hb.mono hC)
theorem RdCg.slice {C : Nat} {w : World} {v : Value} {P : List Cg} (h : RdCg C w v P) : ∃ ao cap, v = .slice ao P.length cap := by
  obtain ⟨ao, cap, rfl, _⟩ := h
  exact ⟨_, _, rfl⟩

/-- Changes of the call's own, in blocks from B up to E. -/
def OwCg (w : World) (B E : Nat) (v : Value) (P : List Cg) : Prop := ∃ M : List CgF, cgFx M = P ∧ Nest 51 3 w B E v M.length (cgFcs M) (cgFsb M)
theorem OwCg.same {w w' : World} {B E : Nat} {v : Value} {P : List Cg} (h : OwCg w B E v P) (hb : ∀ k, B ≤ k → k < E → k < w.heap.size → w'.heap[k]? = w.heap[k]?) : OwCg w' B E v P := by
  obtain ⟨M, hM, h⟩ := h
  exact ⟨M, hM, h.same hb⟩
theorem OwCg.below {w w' : World} {B E : Nat} {v : Value} {P : List Cg} (h : OwCg w B E v P) (hb : Below w.heap.size w w') : OwCg w' B E v P := h.same fun k _ _ hl => hb.block k hl
theorem OwCg.rd {w : World} {B E : Nat} {v : Value} {P : List Cg} (h : OwCg w B E v P) : RdCg w.heap.size w v P := by
  obtain ⟨M, rfl, h⟩ := h
  have hl : (cgFx M).length = M.length := by simp [cgFx]
  rcases ownM_shape h.row with ⟨rfl, h0, _⟩ | ⟨g, c, rfl, _, hlt, hc, hm⟩
  · exact ⟨none, 0, by rw [hl, h0], by omega, Nat.zero_le _, fun _ => rfl, fun hp => absurd hp (by omega)⟩
  · refine ⟨_, c, by rw [hl], by omega, hm, (fun e => by cases e), fun _ => ⟨g, 0, rfl, hlt, fun k x hk => ?_⟩⟩
    obtain ⟨f, hf, rfl⟩ : ∃ f, M[k]? = some f ∧ f.x = x := by
      unfold cgFx at hk
      rw [List.getElem?_map] at hk
      cases hm : M[k]? with
      | none => rw [hm] at hk; cases hk
      | some f => rw [hm] at hk; exact ⟨f, rfl, by simpa using hk⟩
    obtain ⟨a, r, rfl, rfl⟩ := split_at hf
    have hs : ∀ p ∈ f.sb, Rd w.heap.size w p.1 (p.2.map Value.string) := fun p hp => Own.rd (h.sub p (by rw [cgFsb_app, cgFsb_cons]; exact List.mem_append_right _ (List.mem_append_left _ hp)))
    rw [Nat.zero_add]
    have c0 := cgFcs_get a f r 0 (by omega)
    rw [Nat.add_zero] at c0
    exact ⟨h.cell c0, f.u, f.v, h.cell (cgFcs_get a f r 1 (by omega)), h.cell (cgFcs_get a f r 2 (by omega)), hs (f.u, f.x.2.1) (by simp [CgF.sb]), hs (f.v, f.x.2.2) (by simp [CgF.sb])⟩

set_option maxHeartbeats 2000000 in
set_option maxRecDepth 100000 in
theorem eqChange_same (C C' : Nat) (w : World) (xk : ByteArray) (a b : List ByteArray) (u v u' v' : Value) (ha : a.length ≤ 140737488355328) (hb : b.length ≤ 140737488355328) (hC : C ≤ w.heap.size) (hC' : C' ≤ w.heap.size) (hr1 : Rd C w u (a.map Value.string)) (hs1 : Rd C' w u' (a.map Value.string)) (hr2 : Rd C w v (b.map Value.string)) (hs2 : Rd C' w v' (b.map Value.string)) :
    Calls Try.prog 27 #[.agg #[.string xk, u, v], .agg #[.string xk, u', v']] w fun e w' => e = .returned (.bool true) ∧ Below w.heap.size w w' := by
  have hB0 : Below w.heap.size w ((w.alloc (.cells #[.string xk, u, v] 51)).alloc (.cells #[.string xk, u', v'] 51)) := below_then (below_alloc _ _) _
  have hE1 := fun (w9 : World) (h : Below w.heap.size w w9) => eqStringS_same C C' w9 u u' a ha (hr1.below (h.mono hC)) (hs1.below (h.mono hC'))
  obtain ⟨ua, uc, rfl⟩ := rd_slice hr1
  obtain ⟨ua', uc', rfl⟩ := rd_slice hs1
  have hE2 := fun (w9 : World) (h : Below w.heap.size w w9) => eqStringS_same C C' w9 v v' b hb (hr2.below (h.mono hC)) (hs2.below (h.mono hC'))
  obtain ⟨va, vc, rfl⟩ := rd_slice hr2
  obtain ⟨va', vc', rfl⟩ := rd_slice hs2
  go_enter Try.func27, Try.ntmps27
  go_wp2_with fail
  refine (hE1 _ hB0).mono ?_
  rintro e w1 ⟨rfl, n1, rfl⟩
  replace hB0 := nest_drewN hB0 n1
  clear hE1
  go_wp2_with fail
  refine (hE2 _ hB0).mono ?_
  rintro e w2 ⟨rfl, n2, rfl⟩
  replace hB0 := nest_drewN hB0 n2
  clear hE2
  go_wp2_with fail
  go_ret
  exact ⟨rfl, ⟨hB0.os, hB0.tape, hB0.output, hB0.size, hB0.block⟩⟩
end Go.Proofs.Ytlncfeakcgjioaa
