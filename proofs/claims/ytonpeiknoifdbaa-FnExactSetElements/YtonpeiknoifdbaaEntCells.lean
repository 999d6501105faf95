/- The laws' own functions over entries: their size, their copy, that two alike are alike, and the writing over. -/
import Derived.Test.YtonpeiknoifdbaaJoinedBase
import Derived.Test.YtonpeiknoifdbaaStampNextEq
import Derived.Test.YtonpeiknoifdbaaTextsCells
import Derived.Test.YtonpeiknoifdbaaTrBase
import Derived.Deep.RegionHeld2
namespace Go.Proofs.Ytonpeiknoifdbaa
open Go.RowKit
set_option linter.unusedVariables false

theorem infoEntry : (Try.prog.info? 106).map (fun i => (i.zero, i.size, i.bytes)) = some (some (.agg #[.int .i64 0, .int .i64 0, .string ByteArray.empty]), 3, 32) := by kernel_rfl

/-- A row of entries that the call owns, the first k of which are those of ls. -/
def RowE (w : World) (B g n : Nat) (ls : List En) (k : Nat) : Prop :=
  ∃ xs, w.ownsRow B 106 3 (.slice (some ⟨g, 0, none⟩) n n) n xs ∧ ∀ j, j < k → xs[j * 3]? = some (.int .i64 (enAt ls j).1) ∧ xs[j * 3 + 1]? = some (.int .i64 (enAt ls j).2.1) ∧ xs[j * 3 + 2]? = some (.string (enAt ls j).2.2)
theorem RowE.cells {w : World} {B g n : Nat} {ls : List En} {k : Nat} (h : RowE w B g n ls k) {j : Nat} (hj : j < n) :
    ∃ u v z, w.cell? ⟨g, j * 3, none⟩ = some u ∧ w.cell? ⟨g, j * 3 + 1, none⟩ = some v ∧ w.cell? ⟨g, j * 3 + 2, none⟩ = some z ∧ w.frozen? ⟨g, j * 3, none⟩ = false ∧ w.frozen? ⟨g, j * 3 + 1, none⟩ = false ∧ w.frozen? ⟨g, j * 3 + 2, none⟩ = false := by
  obtain ⟨xs, ho, _⟩ := h
  have hl := ho.1
  have h0 : j * 3 < xs.length := by omega
  have h1 : j * 3 + 1 < xs.length := by omega
  have h2 : j * 3 + 2 < xs.length := by omega
  refine ⟨xs[j * 3], xs[j * 3 + 1], xs[j * 3 + 2], ?_, ?_, ?_, World.ownsRow.frozenAt ho _, World.ownsRow.frozenAt ho _, World.ownsRow.frozenAt ho _⟩
  · rw [World.ownsRow.cellAt ho _ (by omega), List.getElem?_eq_getElem h0]
  · rw [World.ownsRow.cellAt ho _ (by omega), List.getElem?_eq_getElem h1]
  · rw [World.ownsRow.cellAt ho _ (by omega), List.getElem?_eq_getElem h2]
theorem RowE.put {w : World} {B g n : Nat} {ls : List En} {k : Nat} (h : RowE w B g n ls k) (hk : k < n) :
    RowE (((w.setCell ⟨g, k * 3, none⟩ (.int .i64 (enAt ls k).1)).setCell ⟨g, k * 3 + 1, none⟩ (.int .i64 (enAt ls k).2.1)).setCell ⟨g, k * 3 + 2, none⟩ (.string (enAt ls k).2.2)) B g n ls (k + 1) := by
  obtain ⟨xs, ho, hx⟩ := h
  have hl := ho.1
  refine ⟨_, (World.ownsRow.stored (World.ownsRow.stored (World.ownsRow.stored ho (k * 3) _).1 (k * 3 + 1) _).1 (k * 3 + 2) _).1, fun j hj => ?_⟩
  by_cases e : j = k
  · subst e
    refine ⟨?_, ?_, ?_⟩
    · rw [List.getElem?_set_ne (by omega), List.getElem?_set_ne (by omega), List.getElem?_set_self (by omega)]
    · rw [List.getElem?_set_ne (by omega), List.getElem?_set_self (by rw [List.length_set]; omega)]
    · rw [List.getElem?_set_self (by rw [List.length_set, List.length_set]; omega)]
  · have := hx j (by omega)
    refine ⟨?_, ?_, ?_⟩
    · rw [List.getElem?_set_ne (by omega), List.getElem?_set_ne (by omega), List.getElem?_set_ne (by omega)]; exact this.1
    · rw [List.getElem?_set_ne (by omega), List.getElem?_set_ne (by omega), List.getElem?_set_ne (by omega)]; exact this.2.1
    · rw [List.getElem?_set_ne (by omega), List.getElem?_set_ne (by omega), List.getElem?_set_ne (by omega)]; exact this.2.2
theorem RowE.lt {w : World} {B g n : Nat} {ls : List En} {k : Nat} (h : RowE w B g n ls k) : B ≤ g ∧ g < w.heap.size := by
  obtain ⟨xs, ho, _⟩ := h
  exact World.ownsRow.lt ho g rfl
theorem RowE.kept {w w' : World} {B g n : Nat} {ls : List En} {k : Nat} {row : Option Nat} (h : RowE w B g n ls k) (hg : w.grownBy w' row) (hn : row ≠ some g) : RowE w' B g n ls k := by
  obtain ⟨xs, ho, hx⟩ := h
  exact ⟨xs, ho.kept hg (.inr (fun e => hn (by simpa [Value.ownBlock] using e.symm))), hx⟩
theorem RowE.on {w w' : World} {B g n : Nat} {ls : List En} {k : Nat} (h : RowE w B g n ls k) (hb : Below w.heap.size w w') : RowE w' B g n ls k := h.kept (grownBy_below hb (Nat.le_refl _) none) (by simp)
theorem RowE.fresh {w : World} {B g n : Nat} {ls ls' : List En} {k : Nat} (h : RowE w B g n ls k) : RowE w B g n ls' 0 := by
  obtain ⟨xs, ho, _⟩ := h
  exact ⟨xs, ho, fun j hj => absurd hj (Nat.not_lt_zero _)⟩
theorem RowE.rd {w : World} {B g : Nat} {ls : List En} (h : RowE w B g ls.length ls ls.length) : RdE w.heap.size w (.slice (some ⟨g, 0, none⟩) ls.length ls.length) ls := by
  have hlt := h.lt
  obtain ⟨xs, ho, hx⟩ := h
  refine ⟨_, _, rfl, fun _ => ⟨g, 0, rfl, hlt.2, fun k hk => ?_⟩⟩
  have := hx k hk
  rw [Nat.zero_add, Nat.zero_add, Nat.zero_add, World.ownsRow.cellAt ho _ (by omega), World.ownsRow.cellAt ho _ (by omega), World.ownsRow.cellAt ho _ (by omega)]
  exact this

set_option maxHeartbeats 1000000 in
set_option maxRecDepth 100000 in
theorem toEntry_any (t a : Int) (s : ByteArray) (w : World) :
    Calls Try.prog 86 #[.agg #[.int .i64 t, .int .i64 a, .string s]] w fun e w' => e = .returned (.agg #[.int .i64 t, .int .i64 a, .string s]) ∧ Below w.heap.size w w' := by
  have hB := Below.refl (((w.alloc (.cells #[.int .i64 t, .int .i64 a, .string s] 131)).alloc (.cells #[.int .i64 0, .int .i64 0, .string ⟨#[]⟩] 106)).alloc (.cells #[.int .i64 0, .int .i64 0, .string ⟨#[]⟩] 106)).heap.size (((w.alloc (.cells #[.int .i64 t, .int .i64 a, .string s] 131)).alloc (.cells #[.int .i64 0, .int .i64 0, .string ⟨#[]⟩] 106)).alloc (.cells #[.int .i64 0, .int .i64 0, .string ⟨#[]⟩] 106))
  go_enter Try.func86, Try.ntmps86
  go_wp2_with fail
  refine (toStamp_any t a _).mono ?_
  rintro e w1 ⟨rfl, hb⟩
  replace hB := below_seq hB hb
  clear hb
  have hB2 := below_seq (below_alloc _ _) hB
  have hB3 := below_seq (below_alloc _ _) hB2
  have HV : Hid (Tr w1 (w.heap.size + 1 + 1) (.int .i64 0) (.int .i64 0) (.string ⟨#[]⟩)) := by
    have := three_cells hB
    have f := frozen_made hB
    rw [World.size_alloc, World.size_alloc] at this f
    exact ⟨this, f⟩
  have HU : Hid (Tr w1 (w.heap.size + 1) (.int .i64 0) (.int .i64 0) (.string ⟨#[]⟩)) := by
    have := three_cells hB2
    have f := frozen_made hB2
    rw [World.size_alloc] at this f
    exact ⟨this, f⟩
  obtain ⟨a0, a1, a2⟩ := three_cells hB3
  obtain ⟨⟨b0, b1, b2⟩, hf⟩ := HV.out
  have f0 := hf 0
  have f1 := hf 1
  have f2 := hf 2
  obtain ⟨⟨u0, u1, u2⟩, hg⟩ := HU.out
  have g0 := hg 0
  have g1 := hg 1
  have g2 := hg 2
  go_wp2_with fail
  have hp := ((HU.out.beside (by omega : w.heap.size + 1 ≠ w.heap.size + 1 + 1) (.int .i64 t) (.int .i64 a) (.string s)).put (.int .i64 t) (.int .i64 a) (.string s)).1
  refine bodyPost_ret (v := .agg #[.int .i64 t, .int .i64 a, .string s]) ?_ rfl ⟨rfl, below_put (below_put (below_seq (below_alloc _ _) hB3) (by omega) _ _ _) (by omega) _ _ _⟩
  simp [results, Try.results86, go_sem, hp.1, hp.2.1, hp.2.2]

set_option maxHeartbeats 1000000 in
set_option maxRecDepth 100000 in
theorem eqEntry_same (t a : Int) (s : ByteArray) (w : World) :
    Calls Try.prog 90 #[.agg #[.int .i64 t, .int .i64 a, .string s], .agg #[.int .i64 t, .int .i64 a, .string s]] w fun e w' => e = .returned (.bool true) ∧ Below w.heap.size w w' := by
  go_enter Try.func90, Try.ntmps90
  go_wp2_with fail
  refine (eqStamp_same t a _).mono ?_
  rintro e w1 ⟨rfl, hb⟩
  have hA := three_cells (below_seq (below_alloc (w.alloc (.cells #[.int .i64 t, .int .i64 a, .string s] 106)) (.cells #[.int .i64 t, .int .i64 a, .string s] 106)) hb)
  have hB := three_cells hb
  rw [World.size_alloc] at hB
  have c2 := hA.2.2
  have d2 := hB.2.2
  have hBf : Below w.heap.size w w1 := below_seq (below_then (below_alloc _ _) _) hb
  clear hA hB hb
  go_wp2_with fail
  go_ret
  exact ⟨rfl, hBf⟩

set_option maxHeartbeats 2000000 in
set_option maxRecDepth 100000 in
theorem toEntryS_any (C : Nat) (w : World) (v : Value) (ls : List En) (hl : ls.length ≤ 1048576) (hC : C ≤ w.heap.size) (hr : RdE C w v ls) :
    Calls Try.prog 68 #[v] w fun e w' => e = .returned (.slice (some ⟨w.heap.size, 0, none⟩) ls.length ls.length) ∧ RowE w' w.heap.size w.heap.size ls.length ls ls.length ∧ Below w.heap.size w w' := by
  obtain ⟨i0, hi, hz0, hz1, hz2⟩ := info_parts infoEntry
  obtain ⟨ao, cap, rfl, hr⟩ := hr
  go_enter Try.func68, Try.ntmps68
  go_wp2_with (at_make; refine wpList_make_full _ rfl _ _ 72 rfl w.heap.size 106 i0 (.agg #[.int .i64 0, .int .i64 0, .string ByteArray.empty]) 3 Try.underlying72 hi hz0 hz1 _ _ _ _ ls.length rfl rfl rfl rfl (by rw [hz2]; omega) (by unfold maxLen; omega) (Nat.le_refl _) ?_)
  intro w1 hown hgrow
  have hb1 : Below w.heap.size w w1 := (Below.refl _ _).grown hgrow (Nat.le_refl _) (fun k hk => by cases hk)
  have H1 : Hid (RowE w1 w.heap.size w.heap.size ls.length ls 0) := ⟨_, hown, fun j hj => absurd hj (Nat.not_lt_zero _)⟩
  clear hown hgrow
  go_wp2_with fail
  go_loopw [4] (fun i wr => ∃ k : Nat, k ≤ ls.length ∧ i = .int .i64 k ∧ Hid (RowE wr w.heap.size w.heap.size ls.length ls k) ∧ Below w.heap.size w wr) (fun i _ => ls.length - (intOf i).toNat)
  case atStart => exact ⟨0, Nat.zero_le _, rfl, H1, hb1⟩
  case round =>
    clear H1 hb1
    obtain ⟨k, hk, rfl, HR, hbel⟩ := hrel
    by_cases hlt : k < ls.length
    · obtain ⟨g, off, rfl, hg, hc⟩ := hr (by omega)
      have d0 : wr.cell? ⟨g, off + k * 3, none⟩ = _ := (hbel.cell (p := ⟨g, off + k * 3, none⟩) (by show g < _; omega)).trans (hc k hlt).1
      have d1 : wr.cell? ⟨g, off + k * 3 + 1, none⟩ = _ := (hbel.cell (p := ⟨g, off + (k * 3 + 1), none⟩) (by show g < _; omega)).trans (hc k hlt).2.1
      have d2 : wr.cell? ⟨g, off + k * 3 + 2, none⟩ = _ := (hbel.cell (p := ⟨g, off + (k * 3 + 2), none⟩) (by show g < _; omega)).trans (hc k hlt).2.2
      have HP : Hid (∀ {w'}, RowE w' w.heap.size w.heap.size ls.length ls k → RowE (((w'.setCell ⟨w.heap.size, k * 3, none⟩ (.int .i64 (enAt ls k).1)).setCell ⟨w.heap.size, k * 3 + 1, none⟩ (.int .i64 (enAt ls k).2.1)).setCell ⟨w.heap.size, k * 3 + 2, none⟩ (.string (enAt ls k).2.2)) w.heap.size w.heap.size ls.length ls (k + 1)) := fun h => h.put hlt
      have j0 : (0 : Int) ≤ (k : Int) := by omega
      have j1 : (k : Int) < (ls.length : Int) := by omega
      have j2 : (k : Int) + 1 < 9223372036854775808 := by omega
      clear hc hr
      generalize (enAt ls k).1 = t at d0 HP
      generalize (enAt ls k).2.1 = a at d1 HP
      generalize (enAt ls k).2.2 = s at d2 HP
      go_wp2_with ((go_at_call 86; refine (toEntry_any t a s _).mono ?_; rintro e w' ⟨rfl, hb⟩; replace HR : Hid (RowE w' w.heap.size w.heap.size ls.length ls k) := RowE.on HR.out hb; replace hbel := below_seq hbel hb; clear hb; obtain ⟨u, v, z, c0, c1, c2, f0, f1, f2⟩ := RowE.cells HR.out hlt))
      exact ⟨⟨k + 1, by omega, by go_num, HP.out HR.out, ((hbel.setCell (Nat.le_refl _) _).setCell (Nat.le_refl _) _).setCell (Nat.le_refl _) _⟩, by simp [intOf]; omega⟩
    · obtain rfl : k = ls.length := by omega
      go_wp2_with fail
      go_ret
      exact ⟨rfl, HR.out, hbel⟩

end Go.Proofs.Ytonpeiknoifdbaa
