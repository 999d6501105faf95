/- What told does at a map of the kind Set. What told does at a map of the kind Multi. What the code's MultiWrite does; over the contract of slices.SortFunc at one stamp. What the specification's l03Write does. What the specification's MultiWrite does. -/
import Derived.Deep.RegionHeld3
import Derived.Test.YtfnlnigeaioocaaGreatQPartsImpl
import Derived.Test.YtfnlnigeaioocaaGreatQEntCellsToSvBase
import Derived.Test.YtfnlnigeaioocaaGreatQNextImplToMultiOf
import Derived.Test.YtfnlnigeaioocaaGreatQTakeKit
import Derived.Test.YtfnlnigeaioocaaGreatQInfoToTrBase
import Derived.Test.YtfnlnigeaioocaaGreatQEntriesOK
namespace Go.Proofs.YtfnlnigeaioocaaGreat
open Go.RowKit
set_option linter.unusedVariables false

/-- What told answers: the counts, and the entries by rising stamps; too many of them. -/
def ToSet (X : List Int) (ls : List En) (w : World) (e : Ending) (w' : World) : Prop :=
  (ls.length ≤ 256 ∧ ∃ es, es.Perm ls ∧ es.Pairwise upE ∧ SvAns X es 0 w e w') ∨ (¬ ls.length ≤ 256 ∧ SvAns [] [] 11 w e w')

set_option maxHeartbeats 2000000 in
set_option maxRecDepth 100000 in
theorem toldSet_any (N : Nat) (hSort : SortsTo N) (hN : N ≤ 1048576) (w : World) (n b : Nat) (X : List Int) (ls : List En) (hJ : Jm w n X b) (hX : X.length = 16) (hM : Mp Tryz.prog 56 w b (ls.map kvE)) (hl : ls.length = N ∨ ¬ ls.length ≤ 256) :
    Calls Tryz.prog 19 #[.pointer (some ⟨n, 0, none⟩)] w (ToSet X ls w) := by
  have hB0 := below_alloc w (.cells #[.slice none 0 0, .slice none 0 0] 28)
  have hP := parts_any N hSort hN _ n b X ls (hJ.on hB0) hX (hM.on hB0) hl
  have hD := Dy.made w (.slice none 0 0) (.slice none 0 0) 28
  go_enter Tryz.func19, Tryz.ntmps19
  go_wp2_with fail
  refine hP.mono ?_
  rintro e w1 (⟨h256, a, r, es, rfl, hp, hu, ho, hE, hr, hb⟩ | ⟨h256, rfl, hb⟩)
  · rw [World.size_alloc] at ho hE
    have hD1 := hD.on hb
    have hsz := hD1.lt
    obtain ⟨g, c, rfl, _⟩ : ∃ g c, r = .slice (some ⟨g, 0, none⟩) es.length c ∧ True := by
      rcases ownE_shape hE with ⟨rfl, _⟩ | ⟨g, c, rfl, _⟩
      · exact absurd rfl hr
      · exact ⟨g, c, rfl, trivial⟩
    have hap : Apart (.slice a 16 16) (.slice (some ⟨g, 0, none⟩) es.length c) := fun i j hi hj e => by
      rcases row_ne ho hE (by decide) with h | h
      · rw [h] at hj; cases hj
      · exact h (by rw [hi, hj, e])
    have hbo := ho.blk
    have hbe := fun i hi => (hE.lt i hi).2
    have hR := ((Dy.set1 (Dy.set0 hD1 (.slice a 16 16)) (.slice (some ⟨g, 0, none⟩) es.length c)).on (below_alloc _ (.cells #[.slice a 16 16] 25))).1
    have HR : Hid _ := hR
    obtain ⟨⟨d0, d1⟩, df⟩ := hD1
    have f0 := df 0
    have f1 := df 1
    have HF : Hid (Sv (((w1.setCell ⟨w.heap.size, 0, none⟩ (.slice a 16 16)).setCell ⟨w.heap.size, 1, none⟩ (.slice (some ⟨g, 0, none⟩) es.length c)).alloc (.cells #[.slice a 16 16] 25)) w.heap.size w1.heap.size (.slice a 16 16) (.slice (some ⟨g, 0, none⟩) es.length c) X es) :=
      Sv.alloc ⟨_, (Own.setK (Own.setK ho 0 _ (by omega)) 1 _ (by omega)).mono (by omega), (OwnE.aside (OwnE.aside hE w.heap.size (by omega) 0 _) w.heap.size (by omega) 1 _).mono (by omega), hap, hbo, hbe⟩ _
    have hBf := below_then (((below_seq hB0 hb).setCell (p := ⟨w.heap.size, 0, none⟩) (Nat.le_refl _) (.slice a 16 16)).setCell (p := ⟨w.heap.size, 1, none⟩) (Nat.le_refl _) (.slice (some ⟨g, 0, none⟩) es.length c)) (.cells #[.slice a 16 16] 25)
    clear hR hP hD ho hE hap
    go_wp2_with fail
    refine bodyPost_ret (v := .tuple #[.agg #[.slice a 16 16, .slice (some ⟨g, 0, none⟩) es.length c], .int .i64 0]) ?_ rfl (.inl ⟨h256, es, hp, hu, _, _, rfl, HF.out.mono (Nat.le_refl _) (by simp), hBf⟩)
    simp [results, Tryz.results19, go_sem, HR.out.1, HR.out.2]
  · have hD1 := hD.on hb
    have hsz := hD1.lt
    have hR := ((Dy.set1 (Dy.set0 hD1 (.slice none 0 0)) (.slice none 0 0)).on (below_alloc _ (.cells #[.slice none 0 0] 25))).1
    have HR : Hid _ := hR
    obtain ⟨⟨d0, d1⟩, df⟩ := hD1
    have f0 := df 0
    have f1 := df 1
    have hBf := below_then (((below_seq hB0 hb).setCell (p := ⟨w.heap.size, 0, none⟩) (Nat.le_refl _) (.slice none 0 0)).setCell (p := ⟨w.heap.size, 1, none⟩) (Nat.le_refl _) (.slice none 0 0)) (.cells #[.slice none 0 0] 25)
    clear hR hP hD
    go_wp2_with fail
    refine bodyPost_ret (v := .tuple #[.agg #[.slice none 0 0, .slice none 0 0], .int .i64 11]) ?_ rfl (.inr ⟨h256, _, _, rfl, svNone _ _ _, hBf⟩)
    simp [results, Tryz.results19, go_sem, HR.out.1, HR.out.2]

end Go.Proofs.YtfnlnigeaioocaaGreat

namespace Go.Proofs.YtfnlnigeaioocaaGreat
open Go.RowKit
set_option linter.unusedVariables false

/-- What told answers: the counts, and the entries by rising stamps; too many of them. -/
def ToMulti (X : List Int) (ls : List En) (w : World) (e : Ending) (w' : World) : Prop :=
  (ls.length ≤ 256 ∧ ∃ es, es.Perm ls ∧ es.Pairwise upE ∧ SvAns X es 0 w e w') ∨ (¬ ls.length ≤ 256 ∧ SvAns [] [] 11 w e w')

end Go.Proofs.YtfnlnigeaioocaaGreat

namespace Go.Proofs.YtfnlnigeaioocaaGreat
open Go.RowKit
open Go.ChangeMaps (setBlock heap_setBlock_same)
open Go.MapKept (Stamped)
set_option linter.unusedVariables false

theorem Mp.clear {P : Program} {k t e : TypeId} {w : World} {b : Nat} {L : List (Value × Value)} (h : Mp P k w b L) (ht : P.underlying t = some (.map k e)) (ty : TypeId) :
    ∃ w', (Builtin.clear_ #[t] ty #[.map (some b)]).run P w = .ok (.tuple #[]) w' ∧ Mp P k w' b [] ∧ w.grownBy w' (some b) := by
  obtain ⟨es, clock, hb, hs, rfl, hK⟩ := h
  refine ⟨_, by simp [Builtin.clear_, run_underlying ht, MapKept.run_getObj_map hb, MapKept.run_setObj_map _ hb, Result.andThen]; rfl, ⟨#[], clock, heap_setBlock_same hb _, MapKept.stamped_empty clock, rfl, by simp⟩, grown_setBlock hb _⟩
theorem wpList_clear_mp {P : Program} {ops : Array Oper} {rest : List Oper} {o : Oper} {a : Act} {w : World} {Q : Exit → Act → World → Prop} (hg : o.guard = none) (m : Operand) (t : TypeId) (hop : o.op = Op.call { callee := Callee.builtin Builtin.clear, args := #[m], argTypes := #[t] })
    (k e : TypeId) (ht : P.underlying t = some (.map k e)) (b : Nat) (L : List (Value × Value)) (hm : a.eval m = .map (some b)) (hM : Mp P k w b L)
    (hK : ∀ w', Mp P k w' b [] → w.grownBy w' (some b) → wpList P ops Q rest (a.put o.dst (.tuple #[])) w') : wpList P ops Q (o :: rest) a w := by
  refine wpList_plain hg fun K' hK' => ?_
  obtain ⟨w', hrun, h1, h2⟩ := hM.clear ht o.type
  unfold Oper.wp
  simp [execOp, hop, resolve, invoke, builtin, hm, hrun, Result.andThen]
  exact hK' _ _ (hK w' h1 h2)
/-- The code of a writing; the counts and the entries behind it. -/
def inA (c : Int) : Prop := 0 ≤ c ∧ c < 16
def wrC (xs : List Int) (ls : List En) (c : Int) (s : ByteArray) : Int :=
  if okJ xs ls = true then (if (0 ≤ c ∧ c < 16) ∧ s.size ≤ 200 then (if xs.getD c.toNat 0 = 1000000000000 then 11 else 0) else 4) else 1
def wrV (xs : List Int) (ls : List En) (c : Int) (s : ByteArray) : List Int := if wrC xs ls c s = 0 then xs.set c.toNat (xs.getD c.toNat 0 + 1) else []
def wrE (xs : List Int) (ls : List En) (c : Int) (s : ByteArray) : List En := if wrC xs ls c s = 0 then [(xs.getD c.toNat 0 + 1, c, s)] else []
theorem wr_bad {xs : List Int} {ls : List En} (c : Int) (s : ByteArray) (h : okJ xs ls = false) : wrC xs ls c s = 1 ∧ wrV xs ls c s = [] ∧ wrE xs ls c s = [] := by
  have : wrC xs ls c s = 1 := by simp [wrC, h]
  simp [wrV, wrE, this]
theorem wr_out {xs : List Int} {ls : List En} {c : Int} {s : ByteArray} (h : okJ xs ls = true) (hc : ¬ ((0 ≤ c ∧ c < 16) ∧ s.size ≤ 200)) : wrC xs ls c s = 4 ∧ wrV xs ls c s = [] ∧ wrE xs ls c s = [] := by
  have : wrC xs ls c s = 4 := by unfold wrC; rw [if_pos h, if_neg hc]
  simp [wrV, wrE, this]
theorem wr_full {xs : List Int} {ls : List En} {c : Int} {s : ByteArray} (h : okJ xs ls = true) (hc : (0 ≤ c ∧ c < 16) ∧ s.size ≤ 200) (hx : xs.getD c.toNat 0 = 1000000000000) : wrC xs ls c s = 11 ∧ wrV xs ls c s = [] ∧ wrE xs ls c s = [] := by
  have : wrC xs ls c s = 11 := by unfold wrC; rw [if_pos h, if_pos hc, if_pos hx]
  simp [wrV, wrE, this]
theorem wr_done {xs : List Int} {ls : List En} {c : Int} {s : ByteArray} (h : okJ xs ls = true) (hc : (0 ≤ c ∧ c < 16) ∧ s.size ≤ 200) (hx : ¬ xs.getD c.toNat 0 = 1000000000000) : wrC xs ls c s = 0 ∧ wrV xs ls c s = xs.set c.toNat (xs.getD c.toNat 0 + 1) ∧ wrE xs ls c s = [(xs.getD c.toNat 0 + 1, c, s)] := by
  have : wrC xs ls c s = 0 := by unfold wrC; rw [if_pos h, if_pos hc, if_neg hx]
  simp [wrV, wrE, this]
theorem vecOK_of {xs : List Int} {ls : List En} (h : okJ xs ls = true) : vecOK xs = true ∧ ls.length ≤ 256 := by
  unfold okJ at h
  simp only [Bool.and_eq_true, decide_eq_true_eq] at h
  exact ⟨h.1, h.2.1⟩
/-- What multiOf answered at a valid value, laid into a new block. -/
theorem jm_laid {w w2 : World} {b : Nat} {xs : List Int} {ls : List En} {T : TypeId} (h16 : xs.length = 16) (hM : Mp Tryz.prog 56 w2 b (ls.map kvE)) :
    Jm ((w2.alloc (.cells zeroJ.toArray T)).setCells w2.heap.size 0 (arrC xs ++ [Value.map (some b)])) w2.heap.size xs b ∧ Mp Tryz.prog 56 ((w2.alloc (.cells zeroJ.toArray T)).setCells w2.heap.size 0 (arrC xs ++ [Value.map (some b)])) b (ls.map kvE) := by
  have hl : (arrC xs ++ [Value.map (some b)]).length = 17 := by simp [arrC_len, h16]
  have ht : (w2.alloc (.cells zeroJ.toArray T)).there w2.heap.size 0 17 := there_new (n := 17) (by rw [zeroJ_size]; exact Nat.le_refl _)
  have hlt := hM.lt
  exact ⟨⟨World.rangeAt_setCells_same _ _ _ _ (by rw [hl]; exact ht), World.there_setCells ht _ _ _⟩, mp_setCells (hM.alloc _) (by omega) _ _⟩

end Go.Proofs.YtfnlnigeaioocaaGreat

namespace Go.Proofs.YtfnlnigeaioocaaGreat
open Go.RowKit
set_option linter.unusedVariables false

/-- What l03Write answers. -/
def LwAns (xs : List Int) (c : Int) (s : ByteArray) (w : World) (e : Ending) (w' : World) : Prop :=
  (¬ ((0 ≤ c ∧ c < 16) ∧ s.size ≤ 200) ∧ e = .returned (.tuple #[.agg #[.slice none 0 0], .agg #[.int .i64 0, .int .i64 0, .string ByteArray.empty], .int .i64 4]) ∧ Below w.heap.size w w') ∨
  (((0 ≤ c ∧ c < 16) ∧ s.size ≤ 200) ∧ xs.getD c.toNat 0 = 1000000000000 ∧ e = .returned (.tuple #[.agg #[.slice none 0 0], .agg #[.int .i64 0, .int .i64 0, .string ByteArray.empty], .int .i64 11]) ∧ Below w.heap.size w w') ∨
  (((0 ≤ c ∧ c < 16) ∧ s.size ≤ 200) ∧ ¬ xs.getD c.toNat 0 = 1000000000000 ∧ ∃ g cap, e = .returned (.tuple #[.agg #[.slice (some ⟨g, 0, none⟩) 16 cap], .agg #[.int .i64 (xs.getD c.toNat 0 + 1), .int .i64 c, .string s], .int .i64 0]) ∧ Own 3 w' w.heap.size (.slice (some ⟨g, 0, none⟩) 16 cap) ((xs.set c.toNat (xs.getD c.toNat 0 + 1)).map (Value.int .i64)) ∧ Below w.heap.size w w')

set_option maxHeartbeats 4000000 in
set_option maxRecDepth 100000 in
theorem l03Write_any (C : Nat) (w : World) (v : Value) (xs : List Int) (c : Int) (s : ByteArray) (hs : s.size ≤ 9223372036854775807) (hC : C ≤ w.heap.size) (hvk : vecOK xs = true) (hv : Rd C w v (xs.map (Value.int .i64))) :
    Calls Tryz.prog 21 #[.agg #[v], .int .i64 c, .string s] w (LwAns xs c s w) := by
  obtain ⟨h16, hxb⟩ := vecOK_get hvk
  have hB0 : Below w.heap.size w (((w.alloc (.cells #[v] 25)).alloc (.cells #[.slice none 0 0] 25)).alloc (.cells #[.int .i64 0, .int .i64 0, .string ⟨#[]⟩] 60)) := below_then (below_then (below_alloc _ _) _) _
  have hv0 := hv
  obtain ⟨ao, cap, rfl, hcap, hmax, hnil, hrd⟩ := hv0
  have e16 : (List.map (Value.int .i64) xs).length = 16 := by simp [h16]
  rw [e16] at hv hB0 hcap hrd ⊢
  clear e16
  obtain ⟨g, off, rfl, hgC, hcell⟩ := hrd (by omega)
  by_cases hin : (0 ≤ c ∧ c < 16) ∧ s.size ≤ 200
  · have hin' := hin
    obtain ⟨hc, hs200⟩ := hin
    obtain ⟨k, rfl⟩ : ∃ k : Nat, c = (k : Int) := ⟨c.toNat, by omega⟩
    have hk : k < 16 := by omega
    have hgd : xs.getD k 0 = xs[k] := by simp [List.getD, h16, hk]
    have hxk := hxb k (by omega)
    have cK := hcell k (.int .i64 xs[k]) (by simp [h16, hk])
    have cK0 := (hB0.cell (p := ⟨g, off + k, none⟩) (by show g < w.heap.size; omega)).trans cK
    have HQ : Hid (∀ e w', LwAns xs (k : Int) s w e w' ↔ (xs[k] = 1000000000000 ∧ e = .returned (.tuple #[.agg #[.slice none 0 0], .agg #[.int .i64 0, .int .i64 0, .string ByteArray.empty], .int .i64 11]) ∧ Below w.heap.size w w') ∨ (¬ xs[k] = 1000000000000 ∧ ∃ g cap, e = .returned (.tuple #[.agg #[.slice (some ⟨g, 0, none⟩) 16 cap], .agg #[.int .i64 (xs[k] + 1), .int .i64 (k : Int), .string s], .int .i64 0]) ∧ Own 3 w' w.heap.size (.slice (some ⟨g, 0, none⟩) 16 cap) ((xs.set k (xs[k] + 1)).map (Value.int .i64)) ∧ Below w.heap.size w w')) := by
      intro e w'
      unfold LwAns
      rw [Int.toNat_natCast, hgd]
      simp only [hin', not_true_eq_false, false_and, false_or, true_and]
    have i0 : ¬ (k : Int) < 0 := by omega
    have i1 : ¬ (16 : Int) ≤ (k : Int) := by omega
    have i2 : ¬ (200 : Int) < (s.size : Int) := by omega
    have j0 : (0 : Int) ≤ (k : Int) := by omega
    have j1 : (k : Int) < 16 := by omega
    have hcp := l02Copy_any C _ _ xs (by omega : xs.length ≤ 1048576) (Nat.le_trans hC hB0.size) (hv.belowW hB0 hC)
    rw [h16] at hcp
    have hget : xs[k]? = some xs[k] := List.getElem?_eq_getElem (by omega)
    generalize xs[k] = x at *
    by_cases hx : x = 1000000000000
    · subst hx
      clear hcp
      go_enter Tryz.func21, Tryz.ntmps21
      go_wp2_with fail
      refine bodyPost_ret (v := .tuple #[.agg #[.slice none 0 0], .agg #[.int .i64 0, .int .i64 0, .string ByteArray.empty], .int .i64 11]) ?_ rfl ((HQ.out _ _).2 (.inl ⟨by first | rfl | trivial, rfl, hB0⟩))
      simp [results, Tryz.results21, go_sem]; rfl
    · have hxd : decide (x = 1000000000000) = false := by simp [hx]
      have hxw : IntKind.i64.wrap (x + 1) = x + 1 := by rw [IntKind.wrap_i64]; omega
      go_enter Tryz.func21, Tryz.ntmps21
      go_wp2_with fail
      refine hcp.mono ?_
      rintro e w3 ⟨a3, k3, rfl, ho3, hb3⟩
      obtain ⟨g3, qq, hq3, hbg, hlg, hc3⟩ := ho3.some (by simp [h16])
      simp only [Value.slice.injEq] at hq3
      obtain ⟨rfl, -, rfl⟩ := hq3
      have ck3 := hc3 k (.int .i64 x) (by simp [hget])
      rw [Addr.add_lit, Nat.zero_add] at ck3
      have fk3 := own_free ho3 k
      have hz3 := hb3.size
      simp only [World.size_alloc] at hz3 hbg

      clear hcp cK0 hc3
      have hT0 : (((w.alloc (.cells #[.slice (some ⟨g, off, none⟩) 16 cap] 25)).alloc (.cells #[.slice none 0 0] 25)).alloc (.cells #[.int .i64 0, .int .i64 0, .string ⟨#[]⟩] 60)).heap[w.heap.size + 1 + 1]? = some (.cells #[.int .i64 0, .int .i64 0, .string ⟨#[]⟩] 60 (0, 0)) := by
        have := heap_alloc_new ((w.alloc (.cells #[.slice (some ⟨g, off, none⟩) 16 cap] 25)).alloc (.cells #[.slice none 0 0] 25)) (.cells #[.int .i64 0, .int .i64 0, .string ⟨#[]⟩] 60)
        rw [World.size_alloc, World.size_alloc] at this
        exact this
      have hV0 : (((w.alloc (.cells #[.slice (some ⟨g, off, none⟩) 16 cap] 25)).alloc (.cells #[.slice none 0 0] 25)).alloc (.cells #[.int .i64 0, .int .i64 0, .string ⟨#[]⟩] 60)).heap[w.heap.size + 1]? = some (.cells #[.slice none 0 0] 25 (0, 0)) := by
        rw [(below_alloc _ _).block _ (by simp)]
        have := heap_alloc_new (w.alloc (.cells #[.slice (some ⟨g, off, none⟩) 16 cap] 25)) (.cells #[.slice none 0 0] 25)
        rw [World.size_alloc] at this
        exact this
      have hT3 := (hb3.block (w.heap.size + 1 + 1) (by simp)).trans hT0
      have hV3 := (hb3.block (w.heap.size + 1) (by simp)).trans hV0
      go_upto_region 7 with fail
      have hgen : ∃ w5, (w3.setCell ⟨g3, k, none⟩ (.int .i64 (x + 1))).alloc (.cells #[.slice (some ⟨g3, 0, none⟩) 16 k3] 25) = w5 := ⟨_, rfl⟩
      obtain ⟨w5, hw5⟩ := hgen
      have hbx : w5.cell? ⟨w3.heap.size, 0, none⟩ = some (.slice (some ⟨g3, 0, none⟩) 16 k3) := by
        rw [← hw5]
        have := cell_made1 (Below.refl ((w3.setCell ⟨g3, k, none⟩ (.int .i64 (x + 1))).alloc (.cells #[.slice (some ⟨g3, 0, none⟩) 16 k3] 25)).heap.size ((w3.setCell ⟨g3, k, none⟩ (.int .i64 (x + 1))).alloc (.cells #[.slice (some ⟨g3, 0, none⟩) 16 k3] 25)))
        simpa using this
      have hck : w5.cell? ⟨g3, k, none⟩ = some (.int .i64 (x + 1)) := by
        rw [← hw5]
        exact alloc_keep (World.cell?_setCell_same' w3 ⟨g3, k, none⟩ (.int .i64 (x + 1)) (by rw [ck3]; rfl)) _
      have ho5 : Own 3 w5 (w.heap.size + 1 + 1 + 1) (.slice (some ⟨g3, 0, none⟩) 16 k3) ((xs.set k (x + 1)).map (Value.int .i64)) := by
        rw [← hw5, List.map_set]
        exact World.ownsRow.alloc (own_set (ho3.mono (B' := w.heap.size + 1 + 1 + 1) (by simp)) k (.int .i64 (x + 1))) _
      have hT5 : Tr w5 (w.heap.size + 1 + 1) (.int .i64 0) (.int .i64 0) (.string ⟨#[]⟩) := by
        have hE5 : w5.heap[w.heap.size + 1 + 1]? = some (.cells #[.int .i64 0, .int .i64 0, .string ⟨#[]⟩] 60 (0, 0)) := by
          rw [← hw5]
          exact ((below_alloc _ _).block _ (by simp; omega)).trans ((heap_setCell_other w3 ⟨g3, k, none⟩ (w.heap.size + 1 + 1) _ (by show w.heap.size + 1 + 1 ≠ g3; omega)).trans hT3)
        exact ⟨⟨by simp [World.cell?, hE5], by simp [World.cell?, hE5], by simp [World.cell?, hE5]⟩, fun j => by simp [World.frozen?, hE5]⟩
      have hV5 : w5.heap[w.heap.size + 1]? = some (.cells #[.slice none 0 0] 25 (0, 0)) := by
        rw [← hw5]
        exact ((below_alloc _ _).block _ (by simp; omega)).trans ((heap_setCell_other w3 ⟨g3, k, none⟩ (w.heap.size + 1) _ (by show w.heap.size + 1 ≠ g3; omega)).trans hV3)
      have hB5 : Below w.heap.size w w5 := by
        rw [← hw5]
        exact below_then ((below_seq hB0 hb3).setCell (p := ⟨g3, k, none⟩) (by show w.heap.size ≤ g3; omega) _) _
      change Code.wp _ _ _ _ ((w3.setCell ⟨g3, k, none⟩ (.int .i64 (x + 1))).alloc (.cells #[.slice (some ⟨g3, 0, none⟩) 16 k3] 25))
      rw [hw5]
      have hz5 : w3.heap.size < w5.heap.size := cell_lt hbx
      clear hw5 ck3 fk3 hT0 hV0 hT3 hV3 ho3 hb3
      refine wp_region_held_drew (S := fun w' => w'.cell? ⟨w3.heap.size, 0, none⟩ = some (.slice (some ⟨g3, 0, none⟩) 16 k3) ∧ w'.cell? ⟨g3, k, none⟩ = some (.int .i64 (x + 1))) (by kernel_rfl) ⟨hbx, hck⟩ (fun hHeld => ?_)
      refine tkH 0 ((.agg #[.slice (some ⟨g3, 0, none⟩) 16 k3])) rfl (Or.inl ⟨by rfl, by intro w hSw; obtain ⟨s0, s1⟩ := hSw; go_simp⟩) hHeld ?_
      simp only [tkS, Act.put]
      refine tkH 1 ((.pointer (some ⟨w3.heap.size, 0, none⟩))) rfl (Or.inl ⟨by rfl, by intro w hSw; obtain ⟨s0, s1⟩ := hSw; go_simp⟩) hHeld ?_
      simp only [tkS, Act.put]
      refine tkH 2 ((.slice (some ⟨g3, 0, none⟩) 16 k3)) rfl (Or.inl ⟨by rfl, by intro w hSw; obtain ⟨s0, s1⟩ := hSw; go_simp⟩) hHeld ?_
      simp only [tkS, Act.put]
      refine tkH 3 ((.int .i64 (k : Int))) rfl (Or.inl ⟨by rfl, by intro w hSw; obtain ⟨s0, s1⟩ := hSw; go_simp⟩) hHeld ?_
      simp only [tkS, Act.put]
      refine tkH 4 ((.pointer (some ⟨g3, k, none⟩))) rfl (Or.inl ⟨by rfl, by intro w hSw; obtain ⟨s0, s1⟩ := hSw; go_simp⟩) hHeld ?_
      simp only [tkS, Act.put]
      refine tkH 5 ((.int .i64 (x + 1))) rfl (Or.inl ⟨by rfl, by intro w hSw; obtain ⟨s0, s1⟩ := hSw; go_simp⟩) hHeld ?_
      simp only [tkS, Act.put]
      refine tkH 6 ((.int .i64 (k : Int))) rfl (Or.inl ⟨by rfl, by intro w hSw; obtain ⟨s0, s1⟩ := hSw; go_simp⟩) hHeld ?_
      simp only [tkS, Act.put]
      refine tkH 7 ((.agg #[.int .i64 (x + 1), .int .i64 (k : Int)])) rfl (Or.inl ⟨by rfl, by intro w hSw; obtain ⟨s0, s1⟩ := hSw; go_simp⟩) hHeld ?_
      simp only [tkS, Act.put]
      refine tkH 8 ((.string s)) rfl (Or.inl ⟨by rfl, by intro w hSw; obtain ⟨s0, s1⟩ := hSw; go_simp⟩) hHeld ?_
      simp only [tkS, Act.put]
      refine tkH 9 ((.agg #[.int .i64 (x + 1), .int .i64 (k : Int), .string s])) rfl (Or.inl ⟨by rfl, by intro w hSw; obtain ⟨s0, s1⟩ := hSw; go_simp⟩) hHeld ?_
      simp only [tkS, Act.put]
      have hvc : w5.drew.cell? ⟨w.heap.size + 1, 0, none⟩ = some (.slice none 0 0) := by
        show w5.cell? _ = _
        simp [World.cell?, hV5]
      have hvf : w5.drew.frozen? ⟨w.heap.size + 1, 0, none⟩ = false := by
        show w5.frozen? _ = _
        simp [World.frozen?, hV5]
      refine wpAnyH_ready (rs := [10]) (by kernel_rfl) (by simp) ?_
      refine AllReadyH.cons rfl (fun K hK => ?_) AllReadyH.nil
      go_simp
      have hset : ∀ (z : World) (m j p q : Nat) (u y : Value), m ≠ p → z.cell? ⟨m, j, none⟩ = some y → (z.setCell ⟨p, q, none⟩ u).cell? ⟨m, j, none⟩ = some y := fun z m j p q u y hne h => by
        rw [← h]
        exact World.cell?_of_block (a := ⟨m, j, none⟩) (heap_setCell_other z ⟨p, q, none⟩ m u hne)
      refine hK.out _ _ ⟨hset _ _ _ _ _ _ _ (by omega) hHeld.1, hset _ _ _ _ _ _ _ (by omega) hHeld.2⟩ (fun hHeld1 => ?_)
      clear hK K
      have hT6 : Tr (w5.setCell ⟨w.heap.size + 1, 0, none⟩ (.slice (some ⟨g3, 0, none⟩) 16 k3)).drew (w.heap.size + 1 + 1) (.int .i64 0) (.int .i64 0) (.string ⟨#[]⟩) := ⟨⟨hset _ _ _ _ _ _ _ (by omega) hT5.1.1, hset _ _ _ _ _ _ _ (by omega) hT5.1.2.1, hset _ _ _ _ _ _ _ (by omega) hT5.1.2.2⟩, fun j => by show (w5.setCell _ _).frozen? _ = false; rw [World.frozen?_setCell]; exact hT5.2 j⟩
      have hv6 : (w5.setCell ⟨w.heap.size + 1, 0, none⟩ (.slice (some ⟨g3, 0, none⟩) 16 k3)).drew.cell? ⟨w.heap.size + 1, 0, none⟩ = some (.slice (some ⟨g3, 0, none⟩) 16 k3) := World.cell?_setCell_same' w5 ⟨w.heap.size + 1, 0, none⟩ _ (by rw [show w5.cell? ⟨w.heap.size + 1, 0, none⟩ = _ from hvc]; rfl)
      have ho6 : Own 3 (w5.setCell ⟨w.heap.size + 1, 0, none⟩ (.slice (some ⟨g3, 0, none⟩) 16 k3)).drew (w.heap.size + 1 + 1 + 1) (.slice (some ⟨g3, 0, none⟩) 16 k3) ((xs.set k (x + 1)).map (Value.int .i64)) := Own.setK ho5 0 _ (by omega)
      have hB6 : Below w.heap.size w (w5.setCell ⟨w.heap.size + 1, 0, none⟩ (.slice (some ⟨g3, 0, none⟩) 16 k3)).drew := (hB5.setCell (p := ⟨w.heap.size + 1, 0, none⟩) (by show w.heap.size ≤ w.heap.size + 1; omega) _).drew
      clear hT5 ho5 hB5 hV5 hvc hvf hbx hck
      change wpAnyH _ _ _ _ _ _ _ _ (w5.setCell ⟨w.heap.size + 1, 0, none⟩ (.slice (some ⟨g3, 0, none⟩) 16 k3)).drew
      generalize (w5.setCell ⟨w.heap.size + 1, 0, none⟩ (.slice (some ⟨g3, 0, none⟩) 16 k3)).drew = w6 at *
      obtain ⟨⟨t0, t1, t2⟩, tf⟩ := hT6
      have tf0 := tf 0
      have tf1 := tf 1
      have tf2 := tf 2
      refine wpAnyH_ready (rs := [11]) (by kernel_rfl) (by simp) ?_
      refine AllReadyH.cons rfl (fun K hK => ?_) AllReadyH.nil
      go_simp
      refine hK.out _ _ ⟨hset _ _ _ _ _ _ _ (by omega) (hset _ _ _ _ _ _ _ (by omega) (hset _ _ _ _ _ _ _ (by omega) hHeld1.1)), hset _ _ _ _ _ _ _ (by omega) (hset _ _ _ _ _ _ _ (by omega) (hset _ _ _ _ _ _ _ (by omega) hHeld1.2))⟩ (fun hHeld2 => ?_)
      clear hK K
      refine wpAnyH_take (i := 12) (v := .int .i64 0) rfl (by kernel_rfl) (by kernel_rfl) (by kernel_rfl) (fun _ _ _ h => h) (Or.inl ⟨by rfl, by intro w hSw; go_simp⟩) hHeld2 ?_
      simp only [tkS, Act.put]
      refine wpAnyH_done (by kernel_rfl) ?_ _
      have hT7 := Tr.put (show Tr w6 (w.heap.size + 1 + 1) _ _ _ from ⟨⟨t0, t1, t2⟩, tf⟩) (.int .i64 (x + 1)) (.int .i64 (k : Int)) (.string s)
      have HT7 : Hid _ := hT7.1
      have hv7 : (((w6.setCell ⟨w.heap.size + 1 + 1, 0, none⟩ (.int .i64 (x + 1))).setCell ⟨w.heap.size + 1 + 1, 1, none⟩ (.int .i64 (k : Int))).setCell ⟨w.heap.size + 1 + 1, 2, none⟩ (.string s)).cell? ⟨w.heap.size + 1, 0, none⟩ = some (.slice (some ⟨g3, 0, none⟩) 16 k3) := hset _ _ _ _ _ _ _ (by omega) (hset _ _ _ _ _ _ _ (by omega) (hset _ _ _ _ _ _ _ (by omega) hv6))
      have ho7 : Own 3 (((w6.setCell ⟨w.heap.size + 1 + 1, 0, none⟩ (.int .i64 (x + 1))).setCell ⟨w.heap.size + 1 + 1, 1, none⟩ (.int .i64 (k : Int))).setCell ⟨w.heap.size + 1 + 1, 2, none⟩ (.string s)) w.heap.size (.slice (some ⟨g3, 0, none⟩) 16 k3) ((xs.set k (x + 1)).map (Value.int .i64)) := (Own.setK (Own.setK (Own.setK ho6 0 _ (by omega)) 1 _ (by omega)) 2 _ (by omega)).mono (by omega)
      have hB7 : Below w.heap.size w (((w6.setCell ⟨w.heap.size + 1 + 1, 0, none⟩ (.int .i64 (x + 1))).setCell ⟨w.heap.size + 1 + 1, 1, none⟩ (.int .i64 (k : Int))).setCell ⟨w.heap.size + 1 + 1, 2, none⟩ (.string s)) := below_put hB6 (by omega) _ _ _
      clear hT7 ho6 hB6 hv6 t0 t1 t2 tf tf0 tf1 tf2 hHeld hHeld1 hHeld2 hset
      generalize (((w6.setCell ⟨w.heap.size + 1 + 1, 0, none⟩ (.int .i64 (x + 1))).setCell ⟨w.heap.size + 1 + 1, 1, none⟩ (.int .i64 (k : Int))).setCell ⟨w.heap.size + 1 + 1, 2, none⟩ (.string s)) = w7 at *
      obtain ⟨u0, u1, u2⟩ := HT7.out
      go_wp2_with fail
      refine bodyPost_ret (v := .tuple #[.agg #[.slice (some ⟨g3, 0, none⟩) 16 k3], .agg #[.int .i64 (x + 1), .int .i64 (k : Int), .string s], .int .i64 0]) ?_ rfl ((HQ.out _ _).2 (.inr ⟨hx, g3, k3, rfl, ho7, hB7⟩))
      simp [results, Tryz.results21, go_sem, hv7, u0, u1, u2]
  · have HQ : Hid (∀ e w', e = .returned (.tuple #[.agg #[.slice none 0 0], .agg #[.int .i64 0, .int .i64 0, .string ByteArray.empty], .int .i64 4]) → Below w.heap.size w w' → LwAns xs c s w e w') := fun e w' h1 h2 => .inl ⟨hin, h1, h2⟩
    by_cases h0 : c < 0
    · clear hin
      go_enter Tryz.func21, Tryz.ntmps21
      go_wp2_with fail
      refine bodyPost_ret (v := .tuple #[.agg #[.slice none 0 0], .agg #[.int .i64 0, .int .i64 0, .string ByteArray.empty], .int .i64 4]) ?_ rfl (HQ.out _ _ rfl hB0)
      simp [results, Tryz.results21, go_sem]; rfl
    · by_cases h1 : (16 : Int) ≤ c
      · clear hin
        go_enter Tryz.func21, Tryz.ntmps21
        go_wp2_with fail
        refine bodyPost_ret (v := .tuple #[.agg #[.slice none 0 0], .agg #[.int .i64 0, .int .i64 0, .string ByteArray.empty], .int .i64 4]) ?_ rfl (HQ.out _ _ rfl hB0)
        simp [results, Tryz.results21, go_sem]; rfl
      · have h2 : (200 : Int) < (s.size : Int) := by
          have : ¬ s.size ≤ 200 := fun e => hin ⟨⟨by omega, by omega⟩, e⟩
          omega
        clear hin
        go_enter Tryz.func21, Tryz.ntmps21
        go_wp2_with fail
        refine bodyPost_ret (v := .tuple #[.agg #[.slice none 0 0], .agg #[.int .i64 0, .int .i64 0, .string ByteArray.empty], .int .i64 4]) ?_ rfl (HQ.out _ _ rfl hB0)
        simp [results, Tryz.results21, go_sem]; rfl

end Go.Proofs.YtfnlnigeaioocaaGreat

namespace Go.Proofs.YtfnlnigeaioocaaGreat
open Go.RowKit
set_option linter.unusedVariables false

set_option maxHeartbeats 4000000 in
set_option maxRecDepth 100000 in
theorem specMultiWrite_any (C : Nat) (w : World) (v ve : Value) (xs : List Int) (ls : List En) (c : Int) (s : ByteArray) (hs : s.size ≤ 9223372036854775807) (hC : C ≤ w.heap.size) (hv : Rd C w v (xs.map (Value.int .i64))) (he : RdE C w ve ls) :
    Calls Tryz.prog 69 #[.agg #[v, ve], .int .i64 c, .string s] w (SvAns (wrV xs ls c s) (wrE xs ls c s) (wrC xs ls c s) w) := by
  have hB0 : Below w.heap.size w ((w.alloc (.cells #[v, ve] 74)).alloc (.cells #[.slice none 0 0, .slice none 0 0] 74)) := below_then (below_alloc _ _) _
  have h1 := l03EntriesOK_any C ((w.alloc (.cells #[v, ve] 74)).alloc (.cells #[.slice none 0 0, .slice none 0 0] 74)) v ve xs ls (Nat.le_trans hC hB0.size) (hv.belowW hB0 hC) (he.below (hB0.mono hC))
  have hsl : ∃ ao len cap, v = .slice ao len cap := by
    obtain ⟨ao, cap, rfl, _⟩ := hv
    exact ⟨_, _, _, rfl⟩
  obtain ⟨ao, la, ca, rfl⟩ := hsl
  have he0 := he
  obtain ⟨eo, ec, rfl, _⟩ := he0
  have hD0 : Dy ((w.alloc (.cells #[.slice ao la ca, .slice eo ls.length ec] 74)).alloc (.cells #[.slice none 0 0, .slice none 0 0] 74)) w.heap.size (.slice ao la ca) (.slice eo ls.length ec) := (Dy.made w (.slice ao la ca) (.slice eo ls.length ec) 74).on (below_alloc _ _)
  have hR0 : Dy ((w.alloc (.cells #[.slice ao la ca, .slice eo ls.length ec] 74)).alloc (.cells #[.slice none 0 0, .slice none 0 0] 74)) (w.heap.size + 1) (.slice none 0 0) (.slice none 0 0) := by
    have := Dy.made (w.alloc (.cells #[.slice ao la ca, .slice eo ls.length ec] 74)) (.slice none 0 0) (.slice none 0 0) 74
    rw [World.size_alloc] at this
    exact this
  have HD0 : Hid _ := hD0
  obtain ⟨⟨e0, e1⟩, _⟩ := hD0
  cases hok : okJ xs ls with
  | false =>
    obtain ⟨q1, q2, q3⟩ := wr_bad c s hok
    have HA : Hid _ := And.intro q1 (And.intro q2 q3)
    rw [hok] at h1
    clear q1 q2 q3 hok
    go_enter Tryz.func69, Tryz.ntmps69
    go_wp2_with fail
    refine h1.mono ?_
    rintro e w1 ⟨rfl, hB⟩
    have hB1 := below_seq hB0 hB
    obtain ⟨⟨r0, r1⟩, rf⟩ := hR0.on hB
    have f0 := rf 0
    have f1 := rf 1
    have HR : Hid _ := (Dy.set1 (Dy.set0 (show Dy w1 (w.heap.size + 1) _ _ from ⟨⟨r0, r1⟩, rf⟩) (.slice none 0 0)) (.slice none 0 0)).1
    have hBf := (hB1.setCell (p := ⟨w.heap.size + 1, 0, none⟩) (by show w.heap.size ≤ w.heap.size + 1; omega) (.slice none 0 0)).setCell (p := ⟨w.heap.size + 1, 1, none⟩) (by show w.heap.size ≤ w.heap.size + 1; omega) (.slice none 0 0)
    clear e0 e1 h1 hR0
    go_wp2_with fail
    refine bodyPost_ret (v := .tuple #[.agg #[.slice none 0 0, .slice none 0 0], .int .i64 1]) ?_ rfl ⟨_, _, by rw [HA.out.1], by rw [HA.out.2.1, HA.out.2.2]; exact svNone _ _ _, hBf⟩
    simp [results, Tryz.results69, go_sem, HR.out.1, HR.out.2]
  | true =>
    have hvk := vecOK_of hok
    have HW1 : Hid (¬ ((0 ≤ c ∧ c < 16) ∧ s.size ≤ 200) → wrC xs ls c s = 4 ∧ wrV xs ls c s = [] ∧ wrE xs ls c s = []) := fun h => wr_out hok h
    have HW2 : Hid ((0 ≤ c ∧ c < 16) ∧ s.size ≤ 200 → xs.getD c.toNat 0 = 1000000000000 → wrC xs ls c s = 11 ∧ wrV xs ls c s = [] ∧ wrE xs ls c s = []) := fun h h' => wr_full hok h h'
    have HW3 : Hid ((0 ≤ c ∧ c < 16) ∧ s.size ≤ 200 → ¬ xs.getD c.toNat 0 = 1000000000000 → wrC xs ls c s = 0 ∧ wrV xs ls c s = xs.set c.toNat (xs.getD c.toNat 0 + 1) ∧ wrE xs ls c s = [(xs.getD c.toNat 0 + 1, c, s)]) := fun h h' => wr_done hok h h'
    rw [hok] at h1
    clear hok
    go_enter Tryz.func69, Tryz.ntmps69
    go_wp2_with fail
    refine h1.mono ?_
    rintro e w1 ⟨rfl, hB⟩
    have hB1 := below_seq hB0 hB
    have hR1 := hR0.on hB
    clear e0 e1
    obtain ⟨⟨e0, e1⟩, _⟩ := Dy.on HD0.out hB
    go_wp2_with fail
    refine (l03Write_any C w1 (.slice ao la ca) xs c s hs (Nat.le_trans hC hB1.size) hvk.1 (hv.belowW hB1 hC)).mono ?_
    rintro e w2 hL
    have hR1l := hR1.lt
    clear h1 hR0 e0 e1
    rcases hL with ⟨hin, rfl, hb2⟩ | ⟨hin, hx, rfl, hb2⟩ | ⟨hin, hx, g, cap, rfl, ho2, hb2⟩
    · have HA : Hid _ := HW1.out hin
      have hb4 := below_seq hb2 (below_then (below_alloc w2 (.cells #[.slice none 0 0] 25)) (.cells #[.int .i64 0, .int .i64 0, .string ByteArray.empty] 60))
      have hR4 := hR1.on hb4
      have hB4 := below_seq hB1 hb4
      clear hR1 hB1 hb2 hb4
      go_upto_region 4 with fail
      change Code.wp _ _ _ _ ((w2.alloc (.cells #[.slice none 0 0] 25)).alloc (.cells #[.int .i64 0, .int .i64 0, .string ByteArray.empty] 60))
      generalize (w2.alloc (.cells #[.slice none 0 0] 25)).alloc (.cells #[.int .i64 0, .int .i64 0, .string ByteArray.empty] 60) = w4 at hR4 hB4 ⊢
      obtain ⟨⟨r0, r1⟩, rf⟩ := hR4
      have f0 := rf 0
      have f1 := rf 1
      have HR : Hid _ := (Dy.set1 (Dy.set0 (show Dy w4 (w.heap.size + 1) _ _ from ⟨⟨r0, r1⟩, rf⟩) (.slice none 0 0)) (.slice none 0 0)).1
      have hBf := (hB4.setCell (p := ⟨w.heap.size + 1, 0, none⟩) (by show w.heap.size ≤ w.heap.size + 1; omega) (.slice none 0 0)).setCell (p := ⟨w.heap.size + 1, 1, none⟩) (by show w.heap.size ≤ w.heap.size + 1; omega) (.slice none 0 0)
      go_wp2_with fail
      refine bodyPost_ret (v := .tuple #[.agg #[.slice none 0 0, .slice none 0 0], .int .i64 4]) ?_ rfl ⟨_, _, by rw [HA.out.1], by rw [HA.out.2.1, HA.out.2.2]; exact svNone _ _ _, hBf⟩
      simp [results, Tryz.results69, go_sem, HR.out.1, HR.out.2]
    · have HA : Hid _ := HW2.out hin hx
      have hb4 := below_seq hb2 (below_then (below_alloc w2 (.cells #[.slice none 0 0] 25)) (.cells #[.int .i64 0, .int .i64 0, .string ByteArray.empty] 60))
      have hR4 := hR1.on hb4
      have hB4 := below_seq hB1 hb4
      clear hR1 hB1 hb2 hb4
      go_upto_region 4 with fail
      change Code.wp _ _ _ _ ((w2.alloc (.cells #[.slice none 0 0] 25)).alloc (.cells #[.int .i64 0, .int .i64 0, .string ByteArray.empty] 60))
      generalize (w2.alloc (.cells #[.slice none 0 0] 25)).alloc (.cells #[.int .i64 0, .int .i64 0, .string ByteArray.empty] 60) = w4 at hR4 hB4 ⊢
      obtain ⟨⟨r0, r1⟩, rf⟩ := hR4
      have f0 := rf 0
      have f1 := rf 1
      have HR : Hid _ := (Dy.set1 (Dy.set0 (show Dy w4 (w.heap.size + 1) _ _ from ⟨⟨r0, r1⟩, rf⟩) (.slice none 0 0)) (.slice none 0 0)).1
      have hBf := (hB4.setCell (p := ⟨w.heap.size + 1, 0, none⟩) (by show w.heap.size ≤ w.heap.size + 1; omega) (.slice none 0 0)).setCell (p := ⟨w.heap.size + 1, 1, none⟩) (by show w.heap.size ≤ w.heap.size + 1; omega) (.slice none 0 0)
      go_wp2_with fail
      refine bodyPost_ret (v := .tuple #[.agg #[.slice none 0 0, .slice none 0 0], .int .i64 11]) ?_ rfl ⟨_, _, by rw [HA.out.1], by rw [HA.out.2.1, HA.out.2.2]; exact svNone _ _ _, hBf⟩
      simp [results, Tryz.results69, go_sem, HR.out.1, HR.out.2]
    · have HA : Hid _ := HW3.out hin hx
      obtain ⟨y, hy⟩ : ∃ y, xs.getD c.toNat 0 + 1 = y := ⟨_, rfl⟩
      rw [hy] at HA ho2 ⊢
      clear hx hy HW1 HW2 HW3
      have hz1 := hb2.size
      have hgl := ho2.blk g rfl
      have hgb := ho2.lt g rfl
      have hb4 := below_seq hb2 (below_then (below_alloc w2 (.cells #[.slice (some ⟨g, 0, none⟩) 16 cap] 25)) (.cells #[.int .i64 y, .int .i64 c, .string s] 60))
      have hR4 := hR1.on hb4
      have hB4 := below_seq hB1 hb4
      have ho4 : Own 3 ((w2.alloc (.cells #[.slice (some ⟨g, 0, none⟩) 16 cap] 25)).alloc (.cells #[.int .i64 y, .int .i64 c, .string s] 60)) w1.heap.size (.slice (some ⟨g, 0, none⟩) 16 cap) ((xs.set c.toNat y).map (Value.int .i64)) := World.ownsRow.alloc (World.ownsRow.alloc ho2 _) _
      have v4 : ((w2.alloc (.cells #[.slice (some ⟨g, 0, none⟩) 16 cap] 25)).alloc (.cells #[.int .i64 y, .int .i64 c, .string s] 60)).cell? ⟨w2.heap.size, 0, none⟩ = some (.slice (some ⟨g, 0, none⟩) 16 cap) := alloc_keep (cell_made1 (Below.refl (w2.alloc (.cells #[.slice (some ⟨g, 0, none⟩) 16 cap] 25)).heap.size (w2.alloc (.cells #[.slice (some ⟨g, 0, none⟩) 16 cap] 25)))) _
      have t4 := three_cells (Below.refl ((w2.alloc (.cells #[.slice (some ⟨g, 0, none⟩) 16 cap] 25)).alloc (.cells #[.int .i64 y, .int .i64 c, .string s] 60)).heap.size ((w2.alloc (.cells #[.slice (some ⟨g, 0, none⟩) 16 cap] 25)).alloc (.cells #[.int .i64 y, .int .i64 c, .string s] 60)))
      have hz4 : ((w2.alloc (.cells #[.slice (some ⟨g, 0, none⟩) 16 cap] 25)).alloc (.cells #[.int .i64 y, .int .i64 c, .string s] 60)).heap.size = w2.heap.size + 1 + 1 := by simp
      rw [World.size_alloc] at t4
      clear hR1 hB1 hb2 hb4 ho2
      go_upto_region 4 with fail
      change Code.wp _ _ _ _ ((w2.alloc (.cells #[.slice (some ⟨g, 0, none⟩) 16 cap] 25)).alloc (.cells #[.int .i64 y, .int .i64 c, .string s] 60))
      generalize (w2.alloc (.cells #[.slice (some ⟨g, 0, none⟩) 16 cap] 25)).alloc (.cells #[.int .i64 y, .int .i64 c, .string s] 60) = w4 at hR4 hB4 ho4 v4 t4 hz4 ⊢
      obtain ⟨t0, t1, t2⟩ := t4
      obtain ⟨⟨r0, r1⟩, rf⟩ := hR4
      have f0 := rf 0
      have f1 := rf 1
      have hlt4 : w.heap.size + 1 < w4.heap.size := by omega
      have HR : Hid _ := ((Dy.set1 (Dy.set0 (show Dy w4 (w.heap.size + 1) _ _ from ⟨⟨r0, r1⟩, rf⟩) (.slice (some ⟨g, 0, none⟩) 16 cap)) (.slice (some ⟨w4.heap.size, 0, none⟩) 1 1)).on (below_alloc _ (.cells #[.int .i64 y, .int .i64 c, .string s] 60))).1
      have hBf := below_then ((hB4.setCell (p := ⟨w.heap.size + 1, 0, none⟩) (by show w.heap.size ≤ w.heap.size + 1; omega) (.slice (some ⟨g, 0, none⟩) 16 cap)).setCell (p := ⟨w.heap.size + 1, 1, none⟩) (by show w.heap.size ≤ w.heap.size + 1; omega) (.slice (some ⟨w4.heap.size, 0, none⟩) 1 1)) (.cells #[.int .i64 y, .int .i64 c, .string s] 60)
      have hoV : Own 3 (((w4.setCell ⟨w.heap.size + 1, 0, none⟩ (.slice (some ⟨g, 0, none⟩) 16 cap)).setCell ⟨w.heap.size + 1, 1, none⟩ (.slice (some ⟨w4.heap.size, 0, none⟩) 1 1)).alloc (.cells #[.int .i64 y, .int .i64 c, .string s] 60)) w.heap.size (.slice (some ⟨g, 0, none⟩) 16 cap) ((xs.set c.toNat y).map (Value.int .i64)) := Own.mono (B := w1.heap.size) (World.ownsRow.alloc (Own.setK (Own.setK ho4 0 _ hR1l) 1 _ hR1l) _) (by omega)
      have hoE : OwnE (((w4.setCell ⟨w.heap.size + 1, 0, none⟩ (.slice (some ⟨g, 0, none⟩) 16 cap)).setCell ⟨w.heap.size + 1, 1, none⟩ (.slice (some ⟨w4.heap.size, 0, none⟩) 1 1)).alloc (.cells #[.int .i64 y, .int .i64 c, .string s] 60)) w.heap.size (.slice (some ⟨w4.heap.size, 0, none⟩) 1 1) [(y, c, s)] := by
        have := World.ownsRow_lit ((w4.setCell ⟨w.heap.size + 1, 0, none⟩ (.slice (some ⟨g, 0, none⟩) 16 cap)).setCell ⟨w.heap.size + 1, 1, none⟩ (.slice (some ⟨w4.heap.size, 0, none⟩) 1 1)) (e := 60) (size := 3) #[.int .i64 y, .int .i64 c, .string s] 1 (Nat.le_refl _) (by decide) (by simp)
        have hsz : ((w4.setCell ⟨w.heap.size + 1, 0, none⟩ (.slice (some ⟨g, 0, none⟩) 16 cap)).setCell ⟨w.heap.size + 1, 1, none⟩ (.slice (some ⟨w4.heap.size, 0, none⟩) 1 1)).heap.size = w4.heap.size := by simp
        rw [hsz] at this
        exact OwnE.mono (show OwnE _ _ _ [(y, c, s)] from this) (by omega)
      have hap : Apart (.slice (some ⟨g, 0, none⟩) 16 cap) (.slice (some ⟨w4.heap.size, 0, none⟩) 1 1) := fun i j hi hj => by
        have h1 : g = i := by simpa [Value.ownBlock] using hi
        have h2 : w4.heap.size = j := by simpa [Value.ownBlock] using hj
        omega
      have HS : Hid (Sv _ _ _ _ _ _ _) := ⟨3, hoV, hoE, hap, hoV.blk, fun i hi => (hoE.lt i hi).2⟩
      clear ho4 hB4 hap hoV hoE hz4
      go_wp2_with fail
      refine bodyPost_ret (v := .tuple #[.agg #[.slice (some ⟨g, 0, none⟩) 16 cap, .slice (some ⟨w4.heap.size, 0, none⟩) 1 1], .int .i64 0]) ?_ rfl ⟨_, _, by rw [HA.out.1], by rw [HA.out.2.1, HA.out.2.2]; exact HS.out, hBf⟩
      simp [results, Tryz.results69, go_sem, HR.out.1, HR.out.2]

end Go.Proofs.YtfnlnigeaioocaaGreat
