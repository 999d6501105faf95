/- The laws' own functions over lists of rows: what they are, one of them. No condition: they are lemmas. -/
import Derived.Test.YtlncfeakcgjioaaNestTexts
namespace Go.Proofs.Ytlncfeakcgjioaa
open Go.RowKit
set_option linter.unusedVariables false

theorem infoRow : (Try.prog.info? 49).map (fun i => (i.zero, i.size, i.bytes)) = some (some (.agg #[.string ByteArray.empty, .slice none 0 0]), 2, 40) := by kernel_rfl

/-- What a row says; the same with the slices in which its texts lie. -/
abbrev Rw := ByteArray × List ByteArray
structure RwF where
  x : Rw
  u : Value
def RwF.cs (f : RwF) : List Value := [.string f.x.1, f.u]
def RwF.sb (f : RwF) : List (Value × List ByteArray) := [(f.u, f.x.2)]
def rwFcs (M : List RwF) : List Value := M.flatMap RwF.cs
def rwFsb (M : List RwF) : List (Value × List ByteArray) := M.flatMap RwF.sb
def rwFx (M : List RwF) : List Rw := M.map RwF.x
theorem rwFcs_app (a b : List RwF) : rwFcs (a ++ b) = rwFcs a ++ rwFcs b := List.flatMap_append
theorem rwFsb_app (a b : List RwF) : rwFsb (a ++ b) = rwFsb a ++ rwFsb b := List.flatMap_append
theorem rwFx_app (a b : List RwF) : rwFx (a ++ b) = rwFx a ++ rwFx b := List.map_append
theorem rwFcs_cons (f : RwF) (r : List RwF) : rwFcs (f :: r) = f.cs ++ rwFcs r := List.flatMap_cons
theorem rwFsb_cons (f : RwF) (r : List RwF) : rwFsb (f :: r) = f.sb ++ rwFsb r := List.flatMap_cons
theorem rwFcs_len : ∀ M : List RwF, (rwFcs M).length = M.length * 2
  | [] => rfl
  | f :: r => by rw [rwFcs_cons, List.length_append, rwFcs_len r, List.length_cons]; show 2 + _ = _; omega
theorem rwFcs_get (a : List RwF) (f : RwF) (r : List RwF) (j : Nat) (hj : j < 2) : (rwFcs (a ++ f :: r))[a.length * 2 + j]? = f.cs[j]? := by
  rw [rwFcs_app, List.getElem?_append_right (by rw [rwFcs_len]; omega), rwFcs_len, Nat.add_sub_cancel_left, rwFcs_cons, List.getElem?_append_left (by show j < 2; omega)]
theorem rwFcs_set (a : List RwF) (f : RwF) (r : List RwF) (t : ByteArray) : (rwFcs (a ++ f :: r)).set (a.length * 2) (.string t) = rwFcs (a ++ { f with x := (t, f.x.2) } :: r) := by
  rw [rwFcs_app, rwFcs_app]
  have := set_app (rwFcs a) (rwFcs (f :: r)) (a.length * 2) 0 (.string t) (rwFcs_len a)
  rw [Nat.add_zero] at this
  rw [this]
  rfl

/-- A row lies at a place of block g; its texts can be read. -/
def RwAt (C : Nat) (w : World) (g o : Nat) (x : Rw) : Prop := w.cell? ⟨g, o, none⟩ = some (.string x.1) ∧ ∃ u, w.cell? ⟨g, o + 1, none⟩ = some u ∧ Rd C w u (x.2.map Value.string)
theorem RwAt.below {C : Nat} {w w' : World} {g o : Nat} {x : Rw} (h : RwAt C w g o x) (hb : Below C w w') (hg : g < C) : RwAt C w' g o x := by
  obtain ⟨d0, u, d1, r1⟩ := h
  exact ⟨(hb.cell (p := ⟨g, o, none⟩) hg).trans d0, u, (hb.cell (p := ⟨g, o + 1, none⟩) hg).trans d1, r1.below hb⟩
theorem RwAt.mono {C C' : Nat} {w : World} {g o : Nat} {x : Rw} (h : RwAt C w g o x) (hc : C ≤ C') : RwAt C' w g o x := by
  obtain ⟨d0, u, d1, r1⟩ := h
  exact ⟨d0, u, d1, r1.mono hc⟩
/-- The slice v reads as these rows, in blocks below C. -/
def RdRw (C : Nat) (w : World) (v : Value) (P : List Rw) : Prop :=
  ∃ ao cap, v = .slice ao P.length cap ∧ P.length ≤ cap ∧ cap ≤ maxLen ∧ (ao = none → cap = 0) ∧ (0 < P.length → ∃ g off, ao = some ⟨g, off, none⟩ ∧ g < C ∧ ∀ k x, P[k]? = some x → RwAt C w g (off + k * 2) x)
theorem RdRw.below {C : Nat} {w w' : World} {v : Value} {P : List Rw} (h : RdRw C w v P) (hb : Below C w w') : RdRw C w' v P := by
  obtain ⟨ao, cap, rfl, h1, h2, h3, h⟩ := h
  refine ⟨ao, cap, rfl, h1, h2, h3, fun hp => ?_⟩
  obtain ⟨g, off, rfl, hg, hr⟩ := h hp
  exact ⟨g, off, rfl, hg, fun k x hk => (hr k x hk).below hb hg⟩
theorem RdRw.mono {C C' : Nat} {w : World} {v : Value} {P : List Rw} (h : RdRw C w v P) (hc : C ≤ C') : RdRw C' w v P := by
  obtain ⟨ao, cap, rfl, h1, h2, h3, h⟩ := h
  refine ⟨ao, cap, rfl, h1, h2, h3, fun hp => ?_⟩
  obtain ⟨g, off, rfl, hg, hr⟩ := h hp
  exact ⟨g, off, rfl, by omega, fun k x hk => (hr k x hk).mono hc⟩
theorem RdRw.on {C : Nat} {w w' : World} {v : Value} {P : List Rw} (h : RdRw C w v P) (hC : C ≤ w.heap.size) (hb : Below w.heap.size w w') : RdRw C w' v P := h.below (hb.mono hC)
theorem RdRw.slice {C : Nat} {w : World} {v : Value} {P : List Rw} (h : RdRw C w v P) : ∃ ao cap, v = .slice ao P.length cap := by
  obtain ⟨ao, cap, rfl, _⟩ := h
  exact ⟨_, _, rfl⟩

/-- Rows of the call's own, in blocks from B up to E. -/
def OwRw (w : World) (B E : Nat) (v : Value) (P : List Rw) : Prop := ∃ M : List RwF, rwFx M = P ∧ Nest 49 2 w B E v M.length (rwFcs M) (rwFsb M)
theorem OwRw.same {w w' : World} {B E : Nat} {v : Value} {P : List Rw} (h : OwRw w B E v P) (hb : ∀ k, B ≤ k → k < E → k < w.heap.size → w'.heap[k]? = w.heap[k]?) : OwRw w' B E v P := by
  obtain ⟨M, hM, h⟩ := h
  exact ⟨M, hM, h.same hb⟩
theorem OwRw.below {w w' : World} {B E : Nat} {v : Value} {P : List Rw} (h : OwRw w B E v P) (hb : Below w.heap.size w w') : OwRw w' B E v P := h.same fun k _ _ hl => hb.block k hl
theorem OwRw.rd {w : World} {B E : Nat} {v : Value} {P : List Rw} (h : OwRw w B E v P) : RdRw w.heap.size w v P := by
  obtain ⟨M, rfl, h⟩ := h
  have hl : (rwFx M).length = M.length := by simp [rwFx]
  rcases ownM_shape h.row with ⟨rfl, h0, _⟩ | ⟨g, c, rfl, _, hlt, hc, hm⟩
  · exact ⟨none, 0, by rw [hl, h0], by omega, Nat.zero_le _, fun _ => rfl, fun hp => absurd hp (by omega)⟩
  · refine ⟨_, c, by rw [hl], by omega, hm, (fun e => by cases e), fun _ => ⟨g, 0, rfl, hlt, fun k x hk => ?_⟩⟩
    obtain ⟨f, hf, rfl⟩ : ∃ f, M[k]? = some f ∧ f.x = x := by
      unfold rwFx at hk
      rw [List.getElem?_map] at hk
      cases hm : M[k]? with
      | none => rw [hm] at hk; cases hk
      | some f => rw [hm] at hk; exact ⟨f, rfl, by simpa using hk⟩
    obtain ⟨a, r, rfl, rfl⟩ := split_at hf
    have hs : ∀ p ∈ f.sb, Rd w.heap.size w p.1 (p.2.map Value.string) := fun p hp => Own.rd (h.sub p (by rw [rwFsb_app, rwFsb_cons]; exact List.mem_append_right _ (List.mem_append_left _ hp)))
    rw [Nat.zero_add]
    have c0 := rwFcs_get a f r 0 (by omega)
    rw [Nat.add_zero] at c0
    exact ⟨h.cell c0, f.u, h.cell (rwFcs_get a f r 1 (by omega)), hs (f.u, f.x.2) (by simp [RwF.sb])⟩

set_option maxHeartbeats 2000000 in
set_option maxRecDepth 100000 in
theorem toRow_any (C : Nat) (w : World) (xk : ByteArray) (a : List ByteArray) (u : Value) (ha : a.length ≤ 1048576) (hC : C ≤ w.heap.size) (hr1 : Rd C w u (a.map Value.string)) :
    Calls Try.prog 23 #[.agg #[.string xk, u]] w fun e w' => ∃ u', e = .returned (.agg #[.string xk, u']) ∧ Own 9 w' w.heap.size u' (a.map Value.string) ∧ Apts [u'] ∧ Below w.heap.size w w' := by
  have hB0 : Below w.heap.size w (((w.alloc (.cells #[.string xk, u] 46)).alloc (.cells #[.string ⟨#[]⟩, .slice none 0 0] 49)).alloc (.cells #[.string xk, .slice none 0 0] 49)) := below_then (below_then (below_alloc _ _) _) _
  have hs0 : (((w.alloc (.cells #[.string xk, u] 46)).alloc (.cells #[.string ⟨#[]⟩, .slice none 0 0] 49)).alloc (.cells #[.string xk, .slice none 0 0] 49)).heap.size = w.heap.size + 1 + 1 + 1 := by simp
  have hT1 := fun (w9 : World) (h : Below w.heap.size w w9) => toStringS_any C w9 u a ha (Nat.le_trans hC h.size) (hr1.below (h.mono hC))
  obtain ⟨ua, uc, rfl⟩ := rd_slice hr1
  have HF : Hid ((((w.alloc (.cells #[.string xk, (.slice ua a.length uc)] 46)).alloc (.cells #[.string ⟨#[]⟩, .slice none 0 0] 49)).alloc (.cells #[.string xk, .slice none 0 0] 49)).cell? ⟨w.heap.size, 0, none⟩ = some (.string xk) ∧ (((w.alloc (.cells #[.string xk, (.slice ua a.length uc)] 46)).alloc (.cells #[.string ⟨#[]⟩, .slice none 0 0] 49)).alloc (.cells #[.string xk, .slice none 0 0] 49)).cell? ⟨w.heap.size, 1, none⟩ = some (.slice ua a.length uc) ∧ (((w.alloc (.cells #[.string xk, (.slice ua a.length uc)] 46)).alloc (.cells #[.string ⟨#[]⟩, .slice none 0 0] 49)).alloc (.cells #[.string xk, .slice none 0 0] 49)).cell? ⟨w.heap.size + 1, 0, none⟩ = some (.string ⟨#[]⟩) ∧ (((w.alloc (.cells #[.string xk, (.slice ua a.length uc)] 46)).alloc (.cells #[.string ⟨#[]⟩, .slice none 0 0] 49)).alloc (.cells #[.string xk, .slice none 0 0] 49)).cell? ⟨w.heap.size + 1, 1, none⟩ = some (.slice none 0 0) ∧ (((w.alloc (.cells #[.string xk, (.slice ua a.length uc)] 46)).alloc (.cells #[.string ⟨#[]⟩, .slice none 0 0] 49)).alloc (.cells #[.string xk, .slice none 0 0] 49)).cell? ⟨w.heap.size + 1 + 1, 0, none⟩ = some (.string xk) ∧ (((w.alloc (.cells #[.string xk, (.slice ua a.length uc)] 46)).alloc (.cells #[.string ⟨#[]⟩, .slice none 0 0] 49)).alloc (.cells #[.string xk, .slice none 0 0] 49)).cell? ⟨w.heap.size + 1 + 1, 1, none⟩ = some (.slice none 0 0)) := by
    unfold Hid
    refine ⟨?_, ?_, ?_, ?_, ?_, ?_⟩ <;> go_simp
  have HZ : Hid ((((w.alloc (.cells #[.string xk, (.slice ua a.length uc)] 46)).alloc (.cells #[.string ⟨#[]⟩, .slice none 0 0] 49)).alloc (.cells #[.string xk, .slice none 0 0] 49)).frozen? ⟨w.heap.size + 1, 0, none⟩ = false ∧ (((w.alloc (.cells #[.string xk, (.slice ua a.length uc)] 46)).alloc (.cells #[.string ⟨#[]⟩, .slice none 0 0] 49)).alloc (.cells #[.string xk, .slice none 0 0] 49)).frozen? ⟨w.heap.size + 1, 1, none⟩ = false ∧ (((w.alloc (.cells #[.string xk, (.slice ua a.length uc)] 46)).alloc (.cells #[.string ⟨#[]⟩, .slice none 0 0] 49)).alloc (.cells #[.string xk, .slice none 0 0] 49)).frozen? ⟨w.heap.size + 1 + 1, 0, none⟩ = false ∧ (((w.alloc (.cells #[.string xk, (.slice ua a.length uc)] 46)).alloc (.cells #[.string ⟨#[]⟩, .slice none 0 0] 49)).alloc (.cells #[.string xk, .slice none 0 0] 49)).frozen? ⟨w.heap.size + 1 + 1, 1, none⟩ = false) := by
    unfold Hid
    refine ⟨?_, ?_, ?_, ?_⟩ <;> go_simp
  go_enter Try.func23, Try.ntmps23
  go_wp2_with fail
  generalize (((w.alloc (.cells #[.string xk, (.slice ua a.length uc)] 46)).alloc (.cells #[.string ⟨#[]⟩, .slice none 0 0] 49)).alloc (.cells #[.string xk, .slice none 0 0] 49)) = e0 at *
  refine (hT1 e0 hB0).mono ?_
  rintro e w1 ⟨r1, rfl, ho1, hb1⟩
  clear hT1
  have hB1 : Below w.heap.size w w1 := below_seq hB0 hb1
  obtain ⟨c00, c01, c10, c11, c20, c21⟩ := HF.out
  obtain ⟨z10, z11, z20, z21⟩ := HZ.out
  have hs1 := hb1.size
  replace c00 := (hb1.cell (p := ⟨w.heap.size, 0, none⟩) (by show w.heap.size < _; omega)).trans c00
  replace c01 := (hb1.cell (p := ⟨w.heap.size, 1, none⟩) (by show w.heap.size < _; omega)).trans c01
  replace c10 := (hb1.cell (p := ⟨w.heap.size + 1, 0, none⟩) (by show w.heap.size + 1 < _; omega)).trans c10
  replace c11 := (hb1.cell (p := ⟨w.heap.size + 1, 1, none⟩) (by show w.heap.size + 1 < _; omega)).trans c11
  replace c20 := (hb1.cell (p := ⟨w.heap.size + 1 + 1, 0, none⟩) (by show w.heap.size + 1 + 1 < _; omega)).trans c20
  replace c21 := (hb1.cell (p := ⟨w.heap.size + 1 + 1, 1, none⟩) (by show w.heap.size + 1 + 1 < _; omega)).trans c21
  replace z10 := (hb1.frozen (p := ⟨w.heap.size + 1, 0, none⟩) (by show w.heap.size + 1 < _; omega)).trans z10
  replace z11 := (hb1.frozen (p := ⟨w.heap.size + 1, 1, none⟩) (by show w.heap.size + 1 < _; omega)).trans z11
  replace z20 := (hb1.frozen (p := ⟨w.heap.size + 1 + 1, 0, none⟩) (by show w.heap.size + 1 + 1 < _; omega)).trans z20
  replace z21 := (hb1.frozen (p := ⟨w.heap.size + 1 + 1, 1, none⟩) (by show w.heap.size + 1 + 1 < _; omega)).trans z21
  obtain ⟨s1a, s1c, rfl⟩ := rd_slice ho1.rd
  have hBF : Below w.heap.size w (((w1.setCell ⟨w.heap.size + 1 + 1, 1, none⟩ (.slice s1a a.length s1c)).setCell ⟨w.heap.size + 1, 0, none⟩ (.string xk)).setCell ⟨w.heap.size + 1, 1, none⟩ (.slice s1a a.length s1c)) := ((hB1.setCell (by show w.heap.size ≤ _; first | omega | (simp; done) | (simp; omega)) _).setCell (by show w.heap.size ≤ _; first | omega | (simp; done) | (simp; omega)) _).setCell (by show w.heap.size ≤ _; first | omega | (simp; done) | (simp; omega)) _
  have hOF1 : Own 9 (((w1.setCell ⟨w.heap.size + 1 + 1, 1, none⟩ (.slice s1a a.length s1c)).setCell ⟨w.heap.size + 1, 0, none⟩ (.string xk)).setCell ⟨w.heap.size + 1, 1, none⟩ (.slice s1a a.length s1c)) w.heap.size (.slice s1a a.length s1c) (a.map Value.string) := Own.mono ((((ho1.apart (grownBy_set _ (w.heap.size + 1 + 1) 1 _) (fun k hk => by cases hk; omega)).apart (grownBy_set _ (w.heap.size + 1) 0 _) (fun k hk => by cases hk; omega))).apart (grownBy_set _ (w.heap.size + 1) 1 _) (fun k hk => by cases hk; omega)) (by omega)
  have k0 : ((w1.setCell ⟨w.heap.size + 1 + 1, 1, none⟩ (.slice s1a a.length s1c)).setCell ⟨w.heap.size + 1, 0, none⟩ (.string xk)).cell? ⟨w.heap.size + 1, 0, none⟩ = some (.string xk) := by go_simp
  have k1 : (((w1.setCell ⟨w.heap.size + 1 + 1, 1, none⟩ (.slice s1a a.length s1c)).setCell ⟨w.heap.size + 1, 0, none⟩ (.string xk)).setCell ⟨w.heap.size + 1, 1, none⟩ (.slice s1a a.length s1c)).cell? ⟨w.heap.size + 1, 1, none⟩ = some (.slice s1a a.length s1c) := by go_simp
  clear ho1 hb1 hB1 hB0 HF HZ
  go_wp2_with fail
  refine bodyPost_ret (v := .agg #[.string xk, (.slice s1a a.length s1c)]) ?_ rfl ⟨(.slice s1a a.length s1c), rfl, hOF1, Apts.one, hBF⟩
  simp [results, Try.results23, go_sem, k0, k1]

set_option maxHeartbeats 2000000 in
set_option maxRecDepth 100000 in
theorem eqRow_same (C C' : Nat) (w : World) (xk : ByteArray) (a : List ByteArray) (u u' : Value) (ha : a.length ≤ 140737488355328) (hC : C ≤ w.heap.size) (hC' : C' ≤ w.heap.size) (hr1 : Rd C w u (a.map Value.string)) (hs1 : Rd C' w u' (a.map Value.string)) :
    Calls Try.prog 29 #[.agg #[.string xk, u], .agg #[.string xk, u']] w fun e w' => e = .returned (.bool true) ∧ Below w.heap.size w w' := by
  have hB0 : Below w.heap.size w ((w.alloc (.cells #[.string xk, u] 49)).alloc (.cells #[.string xk, u'] 49)) := below_then (below_alloc _ _) _
  have hE1 := fun (w9 : World) (h : Below w.heap.size w w9) => eqStringS_same C C' w9 u u' a ha (hr1.below (h.mono hC)) (hs1.below (h.mono hC'))
  obtain ⟨ua, uc, rfl⟩ := rd_slice hr1
  obtain ⟨ua', uc', rfl⟩ := rd_slice hs1
  go_enter Try.func29, Try.ntmps29
  go_wp2_with fail
  refine (hE1 _ hB0).mono ?_
  rintro e w1 ⟨rfl, n1, rfl⟩
  replace hB0 := nest_drewN hB0 n1
  clear hE1
  go_wp2_with fail
  go_ret
  exact ⟨rfl, ⟨hB0.os, hB0.tape, hB0.output, hB0.size, hB0.block⟩⟩

set_option maxHeartbeats 2000000 in
theorem szRow_any (C : Nat) (w : World) (xk : ByteArray) (a : List ByteArray) (u : Value) (l : Int) (h0 : 0 ≤ l) (h1 : l ≤ 1048576) (hk : xk.size ≤ maxLen) (ha : a.length ≤ maxLen) (ta : ∀ t ∈ a, t.size ≤ maxLen) (hC : C ≤ w.heap.size) (hr1 : Rd C w u (a.map Value.string)) :
    Calls Try.prog 18 #[.agg #[.string xk, u], .int .i64 l] w fun e w' => (∃ x : Int, e = .returned (.int .i64 x) ∧ -1 ≤ x ∧ x ≤ l ∧ (0 ≤ x → x + (a.length : Int) ≤ l)) ∧ Below w.heap.size w w' := by
  have hkm : (xk.size : Int) ≤ 9223372036854775807 := by unfold maxLen at hk; omega
  have hB0 : Below w.heap.size w (w.alloc (.cells #[.string xk, u] 46)) := below_alloc _ _
  have hZ1 := fun (w9 : World) (h : Below w.heap.size w w9) (l9 : Int) (k0 : 0 ≤ l9) (k1 : l9 ≤ 1048576) => szStringL_any C w9 u a l9 k0 k1 ha ta (Nat.le_trans hC h.size) (hr1.below (h.mono hC))
  obtain ⟨ua, uc, rfl⟩ := rd_slice hr1
  by_cases hn : l - (xk.size : Int) < 0
  · go_enter Try.func18, Try.ntmps18
    go_wp2_with fail
    go_ret
    exact ⟨⟨_, rfl, by omega, by omega, by omega⟩, hB0⟩
  · have hn0 : decide (l - (xk.size : Int) < 0) = false := by simp; omega
    go_enter Try.func18, Try.ntmps18
    go_wp2_with fail
    refine (hZ1 _ hB0 _ (by omega) (by omega)).mono ?_
    rintro e w1 ⟨⟨y, rfl, y0, y1, y2⟩, hb1⟩
    replace hB0 := below_seq hB0 hb1
    by_cases hy : y < 0
    · go_wp2_with fail
      go_ret
      exact ⟨⟨_, rfl, by omega, by omega, by omega⟩, hB0⟩
    · have hy0 : decide (y < 0) = false := by simp; omega
      have y2' := y2 (by omega)
      clear y2
      go_wp2_with fail
      go_ret
      exact ⟨⟨_, rfl, by omega, by omega, by omega⟩, hB0⟩

end Go.Proofs.Ytlncfeakcgjioaa
