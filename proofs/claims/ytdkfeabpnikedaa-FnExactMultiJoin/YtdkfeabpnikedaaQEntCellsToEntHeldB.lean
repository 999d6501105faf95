/- The laws' own functions over entries: their size, their copy, that two alike are alike, and the writing over. The laws' own functions over lists of entries: that two alike are alike, their size, and the writing over. The laws' own functions over sets: the copy of one that came in, that two alike are alike, their size, and the writing over. Rows of entries of any capacity: what markEntryS and heldEntryS do with them. A value with a vector and entries that a call owns: plain facts. The laws' own functions over registers of several: the copy of one that came in, that two alike are alike, their size, and the writing over. The laws' functions over values of the kind Multi, in the words of what a call owns. Entries are marked from any number on. -/
import Derived.Deep.RegionHeld2
import Derived.Test.YtdkfeabpnikedaaQJoinedBaseToEntRows
import Derived.Test.YtdkfeabpnikedaaQStampLessWalkToStampNextEq
import Derived.Test.YtdkfeabpnikedaaQTextsCells
import Derived.Test.YtdkfeabpnikedaaQInfoToVecCopy
namespace Go.Proofs.Ytdkfeabpnikedaa
open Go.RowKit
set_option linter.unusedVariables false

theorem infoEntry : (Try.prog.info? 60).map (fun i => (i.zero, i.size, i.bytes)) = some (some (.agg #[.int .i64 0, .int .i64 0, .string ByteArray.empty]), 3, 32) := by kernel_rfl

/-- A row of entries that the call owns, the first k of which are those of ls. -/
def RowE (w : World) (B g n : Nat) (ls : List En) (k : Nat) : Prop :=
  ∃ xs, w.ownsRow B 60 3 (.slice (some ⟨g, 0, none⟩) n n) n xs ∧ ∀ j, j < k → xs[j * 3]? = some (.int .i64 (enAt ls j).1) ∧ xs[j * 3 + 1]? = some (.int .i64 (enAt ls j).2.1) ∧ xs[j * 3 + 2]? = some (.string (enAt ls j).2.2)
theorem RowE.cells {w : World} {B g n : Nat} {ls : List En} {k : Nat} (h : RowE w B g n ls k) {j : Nat} (hj : j < n) :
    ∃ u v z, w.cell? ⟨g, j * 3, none⟩ = some u ∧ w.cell? ⟨g, j * 3 + 1, none⟩ = some v ∧ w.cell? ⟨g, j * 3 + 2, none⟩ = some z ∧ w.frozen? ⟨g, j * 3, none⟩ = false ∧ w.frozen? ⟨g, j * 3 + 1, none⟩ = false ∧ w.frozen? ⟨g, j * 3 + 2, none⟩ = false := by
  obtain ⟨xs, ho, _⟩ := h
  have hl := ho.1
  have h0 : j * 3 < xs.length := by omega
  have h1 : j * 3 + 1 < xs.length := by omega
  have h2 : j * 3 + 2 < xs.length := by omega
  refine ⟨xs[j * 3], xs[j * 3 + 1], xs[j * 3 + 2], ?_, ?_, ?_, World.ownsRow.frozenAt ho _, World.ownsRow.frozenAt ho _, World.ownsRow.frozenAt ho _⟩
  · rw [World.ownsRow.cellAt ho _ (by omega), List.getElem?_eq_getElem h0]
  · rw [World.ownsRow.cellAt ho _ (by omega), List.getElem?_eq_getElem h1]
  · rw [World.ownsRow.cellAt ho _ (by omega), List.getElem?_eq_getElem h2]
theorem RowE.put {w : World} {B g n : Nat} {ls : List En} {k : Nat} (h : RowE w B g n ls k) (hk : k < n) :
    RowE (((w.setCell ⟨g, k * 3, none⟩ (.int .i64 (enAt ls k).1)).setCell ⟨g, k * 3 + 1, none⟩ (.int .i64 (enAt ls k).2.1)).setCell ⟨g, k * 3 + 2, none⟩ (.string (enAt ls k).2.2)) B g n ls (k + 1) := by
  obtain ⟨xs, ho, hx⟩ := h
  have hl := ho.1
  refine ⟨_, (World.ownsRow.stored (World.ownsRow.stored (World.ownsRow.stored ho (k * 3) _).1 (k * 3 + 1) _).1 (k * 3 + 2) _).1, fun j hj => ?_⟩
  by_cases e : j = k
  · subst e
    refine ⟨?_, ?_, ?_⟩
    · rw [List.getElem?_set_ne (by omega), List.getElem?_set_ne (by omega), List.getElem?_set_self (by omega)]
    · rw [List.getElem?_set_ne (by omega), List.getElem?_set_self (by rw [List.length_set]; omega)]
    · rw [List.getElem?_set_self (by rw [List.length_set, List.length_set]; omega)]
  · have := hx j (by omega)
    refine ⟨?_, ?_, ?_⟩
    · rw [List.getElem?_set_ne (by omega), List.getElem?_set_ne (by omega), List.getElem?_set_ne (by omega)]; exact this.1
    · rw [List.getElem?_set_ne (by omega), List.getElem?_set_ne (by omega), List.getElem?_set_ne (by omega)]; exact this.2.1
    · rw [List.getElem?_set_ne (by omega), List.getElem?_set_ne (by omega), List.getElem?_set_ne (by omega)]; exact this.2.2
theorem RowE.lt {w : World} {B g n : Nat} {ls : List En} {k : Nat} (h : RowE w B g n ls k) : B ≤ g ∧ g < w.heap.size := by
  obtain ⟨xs, ho, _⟩ := h
  exact World.ownsRow.lt ho g rfl
theorem RowE.kept {w w' : World} {B g n : Nat} {ls : List En} {k : Nat} {row : Option Nat} (h : RowE w B g n ls k) (hg : w.grownBy w' row) (hn : row ≠ some g) : RowE w' B g n ls k := by
  obtain ⟨xs, ho, hx⟩ := h
  exact ⟨xs, ho.kept hg (.inr (fun e => hn (by simpa [Value.ownBlock] using e.symm))), hx⟩
theorem RowE.on {w w' : World} {B g n : Nat} {ls : List En} {k : Nat} (h : RowE w B g n ls k) (hb : Below w.heap.size w w') : RowE w' B g n ls k := h.kept (grownBy_below hb (Nat.le_refl _) none) (by simp)
theorem RowE.fresh {w : World} {B g n : Nat} {ls ls' : List En} {k : Nat} (h : RowE w B g n ls k) : RowE w B g n ls' 0 := by
  obtain ⟨xs, ho, _⟩ := h
  exact ⟨xs, ho, fun j hj => absurd hj (Nat.not_lt_zero _)⟩
theorem RowE.rd {w : World} {B g : Nat} {ls : List En} (h : RowE w B g ls.length ls ls.length) : RdE w.heap.size w (.slice (some ⟨g, 0, none⟩) ls.length ls.length) ls := by
  have hlt := h.lt
  obtain ⟨xs, ho, hx⟩ := h
  refine ⟨_, _, rfl, fun _ => ⟨g, 0, rfl, hlt.2, fun k hk => ?_⟩⟩
  have := hx k hk
  rw [Nat.zero_add, Nat.zero_add, Nat.zero_add, World.ownsRow.cellAt ho _ (by omega), World.ownsRow.cellAt ho _ (by omega), World.ownsRow.cellAt ho _ (by omega)]
  exact this

set_option maxHeartbeats 1000000 in
set_option maxRecDepth 100000 in
theorem toEntry_any (t a : Int) (s : ByteArray) (w : World) :
    Calls Try.prog 61 #[.agg #[.int .i64 t, .int .i64 a, .string s]] w fun e w' => e = .returned (.agg #[.int .i64 t, .int .i64 a, .string s]) ∧ Below w.heap.size w w' := by
  have hB := Below.refl (((w.alloc (.cells #[.int .i64 t, .int .i64 a, .string s] 100)).alloc (.cells #[.int .i64 0, .int .i64 0, .string ⟨#[]⟩] 60)).alloc (.cells #[.int .i64 0, .int .i64 0, .string ⟨#[]⟩] 60)).heap.size (((w.alloc (.cells #[.int .i64 t, .int .i64 a, .string s] 100)).alloc (.cells #[.int .i64 0, .int .i64 0, .string ⟨#[]⟩] 60)).alloc (.cells #[.int .i64 0, .int .i64 0, .string ⟨#[]⟩] 60))
  go_enter Try.func61, Try.ntmps61
  go_wp2_with fail
  refine (toStamp_any t a _).mono ?_
  rintro e w1 ⟨rfl, hb⟩
  replace hB := below_seq hB hb
  clear hb
  have hB2 := below_seq (below_alloc _ _) hB
  have hB3 := below_seq (below_alloc _ _) hB2
  have HV : Hid (Tr w1 (w.heap.size + 1 + 1) (.int .i64 0) (.int .i64 0) (.string ⟨#[]⟩)) := by
    have := three_cells hB
    have f := frozen_made hB
    rw [World.size_alloc, World.size_alloc] at this f
    exact ⟨this, f⟩
  have HU : Hid (Tr w1 (w.heap.size + 1) (.int .i64 0) (.int .i64 0) (.string ⟨#[]⟩)) := by
    have := three_cells hB2
    have f := frozen_made hB2
    rw [World.size_alloc] at this f
    exact ⟨this, f⟩
  obtain ⟨a0, a1, a2⟩ := three_cells hB3
  obtain ⟨⟨b0, b1, b2⟩, hf⟩ := HV.out
  have f0 := hf 0
  have f1 := hf 1
  have f2 := hf 2
  obtain ⟨⟨u0, u1, u2⟩, hg⟩ := HU.out
  have g0 := hg 0
  have g1 := hg 1
  have g2 := hg 2
  go_wp2_with fail
  have hp := ((HU.out.beside (by omega : w.heap.size + 1 ≠ w.heap.size + 1 + 1) (.int .i64 t) (.int .i64 a) (.string s)).put (.int .i64 t) (.int .i64 a) (.string s)).1
  refine bodyPost_ret (v := .agg #[.int .i64 t, .int .i64 a, .string s]) ?_ rfl ⟨rfl, below_put (below_put (below_seq (below_alloc _ _) hB3) (by omega) _ _ _) (by omega) _ _ _⟩
  simp [results, Try.results61, go_sem, hp.1, hp.2.1, hp.2.2]

set_option maxHeartbeats 1000000 in
set_option maxRecDepth 100000 in
theorem eqEntry_same (t a : Int) (s : ByteArray) (w : World) :
    Calls Try.prog 65 #[.agg #[.int .i64 t, .int .i64 a, .string s], .agg #[.int .i64 t, .int .i64 a, .string s]] w fun e w' => e = .returned (.bool true) ∧ Below w.heap.size w w' := by
  go_enter Try.func65, Try.ntmps65
  go_wp2_with fail
  refine (eqStamp_same t a _).mono ?_
  rintro e w1 ⟨rfl, hb⟩
  have hA := three_cells (below_seq (below_alloc (w.alloc (.cells #[.int .i64 t, .int .i64 a, .string s] 60)) (.cells #[.int .i64 t, .int .i64 a, .string s] 60)) hb)
  have hB := three_cells hb
  rw [World.size_alloc] at hB
  have c2 := hA.2.2
  have d2 := hB.2.2
  have hBf : Below w.heap.size w w1 := below_seq (below_then (below_alloc _ _) _) hb
  clear hA hB hb
  go_wp2_with fail
  go_ret
  exact ⟨rfl, hBf⟩

set_option maxHeartbeats 2000000 in
set_option maxRecDepth 100000 in
theorem toEntryS_any (C : Nat) (w : World) (v : Value) (ls : List En) (hl : ls.length ≤ 1048576) (hC : C ≤ w.heap.size) (hr : RdE C w v ls) :
    Calls Try.prog 33 #[v] w fun e w' => e = .returned (.slice (some ⟨w.heap.size, 0, none⟩) ls.length ls.length) ∧ RowE w' w.heap.size w.heap.size ls.length ls ls.length ∧ Below w.heap.size w w' := by
  obtain ⟨i0, hi, hz0, hz1, hz2⟩ := info_parts infoEntry
  obtain ⟨ao, cap, rfl, hr⟩ := hr
  go_enter Try.func33, Try.ntmps33
  go_wp2_with (at_make; refine wpList_make_full _ rfl _ _ 30 rfl w.heap.size 60 i0 (.agg #[.int .i64 0, .int .i64 0, .string ByteArray.empty]) 3 Try.underlying30 hi hz0 hz1 _ _ _ _ ls.length rfl rfl rfl rfl (by rw [hz2]; omega) (by unfold maxLen; omega) (Nat.le_refl _) ?_)
  intro w1 hown hgrow
  have hb1 : Below w.heap.size w w1 := (Below.refl _ _).grown hgrow (Nat.le_refl _) (fun k hk => by cases hk)
  have H1 : Hid (RowE w1 w.heap.size w.heap.size ls.length ls 0) := ⟨_, hown, fun j hj => absurd hj (Nat.not_lt_zero _)⟩
  clear hown hgrow
  go_wp2_with fail
  go_loopw [4] (fun i wr => ∃ k : Nat, k ≤ ls.length ∧ i = .int .i64 k ∧ Hid (RowE wr w.heap.size w.heap.size ls.length ls k) ∧ Below w.heap.size w wr) (fun i _ => ls.length - (intOf i).toNat)
  case atStart => exact ⟨0, Nat.zero_le _, rfl, H1, hb1⟩
  case round =>
    clear H1 hb1
    obtain ⟨k, hk, rfl, HR, hbel⟩ := hrel
    by_cases hlt : k < ls.length
    · obtain ⟨g, off, rfl, hg, hc⟩ := hr (by omega)
      have d0 : wr.cell? ⟨g, off + k * 3, none⟩ = _ := (hbel.cell (p := ⟨g, off + k * 3, none⟩) (by show g < _; omega)).trans (hc k hlt).1
      have d1 : wr.cell? ⟨g, off + k * 3 + 1, none⟩ = _ := (hbel.cell (p := ⟨g, off + (k * 3 + 1), none⟩) (by show g < _; omega)).trans (hc k hlt).2.1
      have d2 : wr.cell? ⟨g, off + k * 3 + 2, none⟩ = _ := (hbel.cell (p := ⟨g, off + (k * 3 + 2), none⟩) (by show g < _; omega)).trans (hc k hlt).2.2
      have HP : Hid (∀ {w'}, RowE w' w.heap.size w.heap.size ls.length ls k → RowE (((w'.setCell ⟨w.heap.size, k * 3, none⟩ (.int .i64 (enAt ls k).1)).setCell ⟨w.heap.size, k * 3 + 1, none⟩ (.int .i64 (enAt ls k).2.1)).setCell ⟨w.heap.size, k * 3 + 2, none⟩ (.string (enAt ls k).2.2)) w.heap.size w.heap.size ls.length ls (k + 1)) := fun h => h.put hlt
      have j0 : (0 : Int) ≤ (k : Int) := by omega
      have j1 : (k : Int) < (ls.length : Int) := by omega
      have j2 : (k : Int) + 1 < 9223372036854775808 := by omega
      clear hc hr
      generalize (enAt ls k).1 = t at d0 HP
      generalize (enAt ls k).2.1 = a at d1 HP
      generalize (enAt ls k).2.2 = s at d2 HP
      go_wp2_with ((go_at_call 61; refine (toEntry_any t a s _).mono ?_; rintro e w' ⟨rfl, hb⟩; replace HR : Hid (RowE w' w.heap.size w.heap.size ls.length ls k) := RowE.on HR.out hb; replace hbel := below_seq hbel hb; clear hb; obtain ⟨u, v, z, c0, c1, c2, f0, f1, f2⟩ := RowE.cells HR.out hlt))
      exact ⟨⟨k + 1, by omega, by go_num, HP.out HR.out, ((hbel.setCell (Nat.le_refl _) _).setCell (Nat.le_refl _) _).setCell (Nat.le_refl _) _⟩, by simp [intOf]; omega⟩
    · obtain rfl : k = ls.length := by omega
      go_wp2_with fail
      go_ret
      exact ⟨rfl, HR.out, hbel⟩

end Go.Proofs.Ytdkfeabpnikedaa

namespace Go.Proofs.Ytdkfeabpnikedaa
open Go.RowKit
set_option linter.unusedVariables false

set_option maxHeartbeats 2000000 in
set_option maxRecDepth 100000 in
theorem eqEntryS_same (C C' : Nat) (w : World) (va vb : Value) (ls : List En) (hl : ls.length ≤ 140737488355328) (hC : C ≤ w.heap.size) (hC' : C' ≤ w.heap.size) (ha : RdE C w va ls) (hb : RdE C' w vb ls) :
    Calls Try.prog 41 #[va, vb] w fun e w' => e = .returned (.bool true) ∧ Below w.heap.size w w' := by
  obtain ⟨ao, ca, rfl, ha⟩ := ha
  obtain ⟨bo, cb, rfl, hb⟩ := hb
  go_enter Try.func41, Try.ntmps41
  go_wp2_with fail
  go_loopw [5] (fun ti wr => ∃ k : Nat, k ≤ ls.length ∧ ti = .int .i64 (k : Int) ∧ Below w.heap.size w wr) (fun ti _ => ls.length - (intOf ti).toNat)
  case atStart => exact ⟨0, Nat.zero_le _, rfl, Below.refl _ _⟩
  case round =>
    obtain ⟨k, hk, rfl, hB⟩ := hrel
    by_cases hlt : k < ls.length
    · obtain ⟨g, off, rfl, hg, hc⟩ := ha (by omega)
      obtain ⟨g', off', rfl, hg', hc'⟩ := hb (by omega)
      have d0 : wr.cell? ⟨g, off + k * 3, none⟩ = _ := (hB.cell (p := ⟨g, off + k * 3, none⟩) (by show g < _; omega)).trans (hc k hlt).1
      have d1 : wr.cell? ⟨g, off + k * 3 + 1, none⟩ = _ := (hB.cell (p := ⟨g, off + (k * 3 + 1), none⟩) (by show g < _; omega)).trans (hc k hlt).2.1
      have d2 : wr.cell? ⟨g, off + k * 3 + 2, none⟩ = _ := (hB.cell (p := ⟨g, off + (k * 3 + 2), none⟩) (by show g < _; omega)).trans (hc k hlt).2.2
      have b0 : wr.cell? ⟨g', off' + k * 3, none⟩ = _ := (hB.cell (p := ⟨g', off' + k * 3, none⟩) (by show g' < _; omega)).trans (hc' k hlt).1
      have b1 : wr.cell? ⟨g', off' + k * 3 + 1, none⟩ = _ := (hB.cell (p := ⟨g', off' + (k * 3 + 1), none⟩) (by show g' < _; omega)).trans (hc' k hlt).2.1
      have b2 : wr.cell? ⟨g', off' + k * 3 + 2, none⟩ = _ := (hB.cell (p := ⟨g', off' + (k * 3 + 2), none⟩) (by show g' < _; omega)).trans (hc' k hlt).2.2
      have j0 : (0 : Int) ≤ (k : Int) := by omega
      have j1 : (k : Int) < (ls.length : Int) := by omega
      have j2 : (k : Int) + 1 < 9223372036854775808 := by omega
      generalize (enAt ls k).1 = t at d0 b0
      generalize (enAt ls k).2.1 = a at d1 b1
      generalize (enAt ls k).2.2 = s at d2 b2
      clear hc hc' ha hb
      go_wp2_with fail
      go_region_held2 (fun w' => w'.cell? ⟨g, off + k * 3, none⟩ = some (.int .i64 t) ∧ w'.cell? ⟨g, off + k * 3 + 1, none⟩ = some (.int .i64 a) ∧ w'.cell? ⟨g, off + k * 3 + 2, none⟩ = some (.string s) ∧ w'.cell? ⟨g', off' + k * 3, none⟩ = some (.int .i64 t) ∧ w'.cell? ⟨g', off' + k * 3 + 1, none⟩ = some (.int .i64 a) ∧ w'.cell? ⟨g', off' + k * 3 + 2, none⟩ = some (.string s)) (exact ⟨d0, d1, d2, b0, b1, b2⟩) ((go_at_call 65; refine (eqEntry_same t a s _).mono ?_; rintro e w' ⟨rfl, hb⟩; replace d0 := cell_on hb d0; replace d1 := cell_on hb d1; replace d2 := cell_on hb d2; replace b0 := cell_on hb b0; replace b1 := cell_on hb b1; replace b2 := cell_on hb b2; replace hB := below_seq hB.drew hb; clear hb))
      go_wp2_with fail
      go_roundw
      case rel => exact ⟨k + 1, by omega, by go_num, hB⟩
      case measure => simp [intOf]; omega
    · obtain rfl : k = ls.length := by omega
      go_wp2_with fail
      go_ret
      exact ⟨rfl, hB⟩

set_option maxHeartbeats 1000000 in
theorem szEntry_any (t a : Int) (s : ByteArray) (l : Int) (h0 : 0 ≤ l) (h1 : l ≤ 1048576) (hs : s.size ≤ 9223372036854775807) (w : World) :
    Calls Try.prog 56 #[.agg #[.int .i64 t, .int .i64 a, .string s], .int .i64 l] w fun e w' => (∃ x : Int, e = .returned (.int .i64 x) ∧ -1 ≤ x ∧ x ≤ l ∧ (0 ≤ x → (s.size : Int) ≤ 1048576)) ∧ Below w.heap.size w w' := by
  by_cases h : l - (s.size : Int) < 0
  · go_enter Try.func56, Try.ntmps56
    go_wp2_with fail
    go_ret
    exact ⟨⟨_, rfl, by omega, by omega, by omega⟩, below_alloc _ _⟩
  · replace h : ¬ l - (s.size : Int) < 0 := h
    go_enter Try.func56, Try.ntmps56
    go_wp2_with fail
    go_ret
    exact ⟨⟨_, rfl, by omega, by omega, by omega⟩, below_alloc _ _⟩

set_option maxHeartbeats 2000000 in
set_option maxRecDepth 100000 in
theorem szEntryS_any (C : Nat) (w : World) (v : Value) (ls : List En) (l : Int) (h0 : 0 ≤ l) (h1 : l ≤ 1048576) (hn : ls.length ≤ 9223372036854775807) (hs : ∀ k, (enAt ls k).2.2.size ≤ 9223372036854775807) (hC : C ≤ w.heap.size) (hr : RdE C w v ls) :
    Calls Try.prog 29 #[v, .int .i64 l] w fun e w' => (∃ x : Int, e = .returned (.int .i64 x) ∧ -1 ≤ x ∧ x ≤ 1048576 ∧ (0 ≤ x → ls.length ≤ 1048576)) ∧ Below w.heap.size w w' := by
  obtain ⟨ao, cap, rfl, hr⟩ := hr
  by_cases h : l - (ls.length : Int) < 0
  · go_enter Try.func29, Try.ntmps29
    go_wp2_with fail
    go_ret
    exact ⟨⟨_, rfl, by omega, by omega, by omega⟩, Below.refl _ _⟩
  · have hlen : ls.length ≤ 1048576 := by omega
    go_enter Try.func29, Try.ntmps29
    go_wp2_with fail
    go_loopw [1, 5] (fun tl ti wr => ∃ (k : Nat) (x : Int), k ≤ ls.length ∧ ti = .int .i64 (k : Int) ∧ tl = .int .i64 x ∧ 0 ≤ x ∧ x ≤ 1048576 ∧ Below w.heap.size w wr) (fun _ ti _ => ls.length - (intOf ti).toNat)
    case atStart => exact ⟨0, _, Nat.zero_le _, rfl, rfl, by omega, by omega, Below.refl _ _⟩
    case round =>
      obtain ⟨k, x, hk, rfl, rfl, x0, x1, hB⟩ := hrel
      by_cases hlt : k < ls.length
      · obtain ⟨g, off, rfl, hg, hc⟩ := hr (by omega)
        have d0 : wr.cell? ⟨g, off + k * 3, none⟩ = _ := (hB.cell (p := ⟨g, off + k * 3, none⟩) (by show g < _; omega)).trans (hc k hlt).1
        have d1 : wr.cell? ⟨g, off + k * 3 + 1, none⟩ = _ := (hB.cell (p := ⟨g, off + (k * 3 + 1), none⟩) (by show g < _; omega)).trans (hc k hlt).2.1
        have d2 : wr.cell? ⟨g, off + k * 3 + 2, none⟩ = _ := (hB.cell (p := ⟨g, off + (k * 3 + 2), none⟩) (by show g < _; omega)).trans (hc k hlt).2.2
        have j0 : (0 : Int) ≤ (k : Int) := by omega
        have j1 : (k : Int) < (ls.length : Int) := by omega
        have j2 : (k : Int) + 1 < 9223372036854775808 := by omega
        have hsk := hs k
        generalize (enAt ls k).1 = t at d0
        generalize (enAt ls k).2.1 = a at d1
        generalize (enAt ls k).2.2 = s at d2 hsk
        clear hc hr hs
        go_wp2_with fail
        refine (szEntry_any t a s x x0 x1 hsk _).mono ?_
        rintro e w2 ⟨⟨y, rfl, y0, y1, _⟩, hb2⟩
        replace hB := below_seq hB hb2
        by_cases hy : y < 0
        · go_wp2_with fail
          go_ret
          exact ⟨⟨_, rfl, by omega, by omega, by omega⟩, hB⟩
        · have hy0 : decide (y < 0) = false := by simp; omega
          have hy1 : 0 ≤ y := by omega
          clear hy
          go_wp2_with fail
          go_roundw
          case rel => exact ⟨k + 1, y, by omega, by go_num, rfl, by omega, by omega, hB⟩
          case measure => simp [intOf]; omega
      · obtain rfl : k = ls.length := by omega
        go_wp2_with fail
        go_ret
        exact ⟨⟨_, rfl, by omega, by omega, fun _ => hlen⟩, hB⟩

/-- What is written over n entries, from q on. -/
def marksE (q n : Nat) : List En := (List.range n).map fun i => (((q + 3 * i : Nat) : Int), ((q + 3 * i + 1 : Nat) : Int), mt (q + 3 * i + 2))
theorem marksE_at {q n k : Nat} (h : k < n) : enAt (marksE q n) k = (((q + 3 * k : Nat) : Int), ((q + 3 * k + 1 : Nat) : Int), mt (q + 3 * k + 2)) := by simp [enAt, marksE, h]
theorem marksE_len (q n : Nat) : (marksE q n).length = n := by simp [marksE]

/-- A row of entries, of the k-th of which the numbers are written already. -/
def RowP (w : World) (B g n : Nat) (ls : List En) (k : Nat) : Prop :=
  ∃ xs, w.ownsRow B 60 3 (.slice (some ⟨g, 0, none⟩) n n) n xs ∧ (∀ j, j < k → xs[j * 3]? = some (.int .i64 (enAt ls j).1) ∧ xs[j * 3 + 1]? = some (.int .i64 (enAt ls j).2.1) ∧ xs[j * 3 + 2]? = some (.string (enAt ls j).2.2)) ∧ xs[k * 3]? = some (.int .i64 (enAt ls k).1) ∧ xs[k * 3 + 1]? = some (.int .i64 (enAt ls k).2.1)
theorem RowE.two {w : World} {B g n : Nat} {ls : List En} {k : Nat} (h : RowE w B g n ls k) (hk : k < n) :
    RowP ((w.setCell ⟨g, k * 3, none⟩ (.int .i64 (enAt ls k).1)).setCell ⟨g, k * 3 + 1, none⟩ (.int .i64 (enAt ls k).2.1)) B g n ls k := by
  obtain ⟨xs, ho, hx⟩ := h
  have hl := ho.1
  refine ⟨_, (World.ownsRow.stored (World.ownsRow.stored ho (k * 3) _).1 (k * 3 + 1) _).1, fun j hj => ?_, ?_, ?_⟩
  · have := hx j hj
    refine ⟨?_, ?_, ?_⟩
    · rw [List.getElem?_set_ne (by omega), List.getElem?_set_ne (by omega)]; exact this.1
    · rw [List.getElem?_set_ne (by omega), List.getElem?_set_ne (by omega)]; exact this.2.1
    · rw [List.getElem?_set_ne (by omega), List.getElem?_set_ne (by omega)]; exact this.2.2
  · rw [List.getElem?_set_ne (by omega), List.getElem?_set_self (by omega)]
  · rw [List.getElem?_set_self (by rw [List.length_set]; omega)]
theorem RowP.on {w w' : World} {B g n : Nat} {ls : List En} {k : Nat} (h : RowP w B g n ls k) (hb : Below w.heap.size w w') : RowP w' B g n ls k := by
  obtain ⟨xs, ho, hx⟩ := h
  exact ⟨xs, ho.kept (grownBy_below hb (Nat.le_refl _) none) (by simp [Value.ownBlock]), hx⟩
theorem RowP.cell {w : World} {B g n : Nat} {ls : List En} {k : Nat} (h : RowP w B g n ls k) (hk : k < n) : ∃ z, w.cell? ⟨g, k * 3 + 2, none⟩ = some z ∧ w.frozen? ⟨g, k * 3 + 2, none⟩ = false := by
  obtain ⟨xs, ho, _⟩ := h
  have hl := ho.1
  have h2 : k * 3 + 2 < xs.length := by omega
  exact ⟨xs[k * 3 + 2], by rw [World.ownsRow.cellAt ho _ (by omega), List.getElem?_eq_getElem h2], World.ownsRow.frozenAt ho _⟩
theorem RowP.put {w : World} {B g n : Nat} {ls : List En} {k : Nat} (h : RowP w B g n ls k) (hk : k < n) : RowE (w.setCell ⟨g, k * 3 + 2, none⟩ (.string (enAt ls k).2.2)) B g n ls (k + 1) := by
  obtain ⟨xs, ho, hx, h0, h1⟩ := h
  have hl := ho.1
  refine ⟨_, (World.ownsRow.stored ho (k * 3 + 2) _).1, fun j hj => ?_⟩
  by_cases e : j = k
  · subst e
    refine ⟨?_, ?_, ?_⟩
    · rw [List.getElem?_set_ne (by omega)]; exact h0
    · rw [List.getElem?_set_ne (by omega)]; exact h1
    · rw [List.getElem?_set_self (by omega)]
  · have := hx j (by omega)
    refine ⟨?_, ?_, ?_⟩
    · rw [List.getElem?_set_ne (by omega)]; exact this.1
    · rw [List.getElem?_set_ne (by omega)]; exact this.2.1
    · rw [List.getElem?_set_ne (by omega)]; exact this.2.2

set_option maxHeartbeats 4000000 in
set_option maxRecDepth 100000 in
theorem markEntryS_any (B g n : Nat) (w : World) (ls : List En) (k0 q : Nat) (hn : n ≤ 1048576) (hq : q ≤ 2097152) (hR : RowE w B g n ls k0) :
    Calls Try.prog 43 #[.slice (some ⟨g, 0, none⟩) n n, .int .i64 (q : Int)] w fun e w' => e = .returned (.int .i64 ((q + 3 * n : Nat) : Int)) ∧ RowE w' B g n (marksE q n) n ∧ w.grownBy w' (some g) := by
  have HR0 : Hid (RowE w B g n (marksE q n) 0) := hR.fresh
  clear hR
  go_enter Try.func43, Try.ntmps43
  go_wp2_with fail
  go_loopw [1, 5] (fun tq ti wr => ∃ k : Nat, k ≤ n ∧ ti = .int .i64 (k : Int) ∧ tq = .int .i64 ((q + 3 * k : Nat) : Int) ∧ Hid (RowE wr B g n (marksE q n) k) ∧ w.grownBy wr (some g)) (fun _ ti _ => n - (intOf ti).toNat)
  case atStart => exact ⟨0, Nat.zero_le _, rfl, rfl, HR0, World.grownBy.refl _ _⟩
  case round =>
    clear HR0
    obtain ⟨k, hk, rfl, rfl, HR, hG⟩ := hrel
    by_cases hlt : k < n
    · have j0 : (0 : Int) ≤ (k : Int) := by omega
      have j1 : (k : Int) < (n : Int) := by omega
      have j2 : (k : Int) + 1 < 9223372036854775808 := by omega
      have hat := marksE_at (q := q) hlt
      have h2 := RowE.two HR.out hlt
      have HPP : Hid (∀ {w'}, RowP w' B g n (marksE q n) k → RowE (w'.setCell ⟨g, k * 3 + 2, none⟩ (.string (enAt (marksE q n) k).2.2)) B g n (marksE q n) (k + 1)) := fun h => h.put hlt
      rw [hat] at h2 HPP
      have hq2 : ((q + 3 * k + 1 : Nat) : Int) = ((q + 3 * k : Nat) : Int) + 1 := by omega
      have hT := fun w => markText_any (q + 3 * k + 2) (by omega) w
      have hq3 : ((q + 3 * k + 2 : Nat) : Int) = ((q + 3 * k : Nat) : Int) + 1 + 1 := by omega
      have HQ : Hid (((q + 3 * (k + 1) : Nat) : Int) = ((q + 3 * k : Nat) : Int) + 1 + 1 + 1) := by show _ = _; omega
      rw [hq3] at hT
      simp only [hq2] at h2
      have hm0 : ((q + 3 * k : Nat) : Int) + 1 + 1 + 1 < 9223372036854775808 := by omega
      obtain ⟨x, hx⟩ : ∃ x : Int, ((q + 3 * k : Nat) : Int) = x := ⟨_, rfl⟩
      have hx0 : 0 ≤ x := by omega
      simp only [hx] at h2 hT HQ hm0 ⊢
      obtain ⟨u, v, z, c0, c1, c2, f0, f1, f2⟩ := RowE.cells HR.out hlt
      have H2 : Hid _ := h2
      have HT : Hid (mt (q + 3 * k + 2) = mt (q + 3 * k + 2)) := rfl
      have hG2 : w.grownBy ((wr.setCell ⟨g, k * 3, none⟩ (.int .i64 x)).setCell ⟨g, k * 3 + 1, none⟩ (.int .i64 (x + 1))) (some g) := grownBy_trans (grownBy_trans hG (grownBy_set wr g (k * 3) _)) (grownBy_set _ g (k * 3 + 1) _)
      clear hat hq2 hq3 hx h2 hG HR
      go_wp2_with fail
      refine (hT _).mono ?_
      rintro e w3 ⟨rfl, hb3⟩
      have hP3 := RowP.on H2.out hb3
      obtain ⟨z3, y0, y1⟩ := RowP.cell hP3 hlt
      have hG3 := grownBy_trans hG2 (grownBy_below hb3 (Nat.le_refl _) (some g))
      have HR4 := HPP.out hP3
      have hG4 := grownBy_trans hG3 (grownBy_set w3 g (k * 3 + 2) (.string (mt (q + 3 * k + 2))))
      clear hP3 hb3 hG2 hG3 H2 HPP hT
      go_wp2_with fail
      go_roundw
      case rel => exact ⟨k + 1, by omega, by go_num, by rw [HQ.out], HR4, hG4⟩
      case measure => simp [intOf]; omega
    · obtain rfl : k = n := by omega
      go_wp2_with fail
      go_ret
      exact ⟨rfl, HR.out, hG⟩

end Go.Proofs.Ytdkfeabpnikedaa

namespace Go.Proofs.Ytdkfeabpnikedaa
open Go.RowKit
set_option linter.unusedVariables false

theorem RowE.mono {w : World} {B B' g n : Nat} {ls : List En} {k : Nat} (h : RowE w B g n ls k) (hb : B' ≤ B) : RowE w B' g n ls k := by
  obtain ⟨xs, ho, hx⟩ := h
  refine ⟨xs, ?_, hx⟩
  obtain ⟨h1, h2⟩ := ho
  refine ⟨h1, ?_⟩
  rcases h2 with h2 | ⟨g', cap, cur, hv, hg, hh, r⟩
  · exact .inl h2
  · exact .inr ⟨g', cap, cur, hv, by omega, hh, r⟩

set_option maxHeartbeats 2000000 in
set_option maxRecDepth 100000 in
theorem toSet_any (C D : Nat) (w : World) (va vb : Value) (xs : List Int) (ls : List En) (hl : xs.length ≤ 1048576) (hl' : ls.length ≤ 1048576) (hC : C ≤ w.heap.size) (hD : D ≤ w.heap.size) (ha : Rd C w va (xs.map (Value.int .i64))) (hb : RdE D w vb ls) :
    Calls Try.prog 19 #[.agg #[va, vb]] w fun e w' => ∃ a c g, e = .returned (.agg #[.slice a xs.length c, .slice (some ⟨g, 0, none⟩) ls.length ls.length]) ∧ Own 3 w' w.heap.size (.slice a xs.length c) (xs.map (Value.int .i64)) ∧ RowE w' w.heap.size g ls.length ls ls.length ∧ (∀ k, (Value.slice a xs.length c).ownBlock = some k → k ≠ g) ∧ Below w.heap.size w w' := by
  have hB := Below.refl (((w.alloc (.cells #[va, vb] 41)).alloc (.cells #[.slice none 0 0, .slice none 0 0] 43)).alloc (.cells #[.slice none 0 0, .slice none 0 0] 43)).heap.size (((w.alloc (.cells #[va, vb] 41)).alloc (.cells #[.slice none 0 0, .slice none 0 0] 43)).alloc (.cells #[.slice none 0 0, .slice none 0 0] 43))
  have HA : Hid (Dy (((w.alloc (.cells #[va, vb] 41)).alloc (.cells #[.slice none 0 0, .slice none 0 0] 43)).alloc (.cells #[.slice none 0 0, .slice none 0 0] 43)) w.heap.size va vb) := ((Dy.made w va vb 41).on (below_alloc _ _)).on (below_alloc _ _)
  have HU : Hid (Dy (((w.alloc (.cells #[va, vb] 41)).alloc (.cells #[.slice none 0 0, .slice none 0 0] 43)).alloc (.cells #[.slice none 0 0, .slice none 0 0] 43)) (w.heap.size + 1) (.slice none 0 0) (.slice none 0 0)) := by
    have := (Dy.made (w.alloc (.cells #[va, vb] 41)) (.slice none 0 0) (.slice none 0 0) 43).on (below_alloc _ (.cells #[.slice none 0 0, .slice none 0 0] 43))
    rw [World.size_alloc] at this
    exact this
  have HV : Hid (Dy (((w.alloc (.cells #[va, vb] 41)).alloc (.cells #[.slice none 0 0, .slice none 0 0] 43)).alloc (.cells #[.slice none 0 0, .slice none 0 0] 43)) (w.heap.size + 1 + 1) (.slice none 0 0) (.slice none 0 0)) := by
    have := Dy.made ((w.alloc (.cells #[va, vb] 41)).alloc (.cells #[.slice none 0 0, .slice none 0 0] 43)) (.slice none 0 0) (.slice none 0 0) 43
    rw [World.size_alloc, World.size_alloc] at this
    exact this
  have hB0 : Below w.heap.size w (((w.alloc (.cells #[va, vb] 41)).alloc (.cells #[.slice none 0 0, .slice none 0 0] 43)).alloc (.cells #[.slice none 0 0, .slice none 0 0] 43)) := below_then (below_then (below_alloc _ _) _) _
  go_enter Try.func19, Try.ntmps19
  go_wp2_with fail
  refine (toVector_any C _ va xs hl (Nat.le_trans hC hB0.size) (ha.belowW hB0 hC)).mono ?_
  rintro e w1 ⟨a1, c1, rfl, ho1, hb1⟩
  have hB1 := below_seq hB0 hb1
  replace HA : Hid (Dy w1 w.heap.size va vb) := HA.out.on hb1
  replace HU : Hid (Dy w1 (w.heap.size + 1) _ _) := HU.out.on hb1
  replace HV : Hid (Dy w1 (w.heap.size + 1 + 1) _ _) := HV.out.on hb1
  replace HA : Hid (Dy (w1.setCell ⟨w.heap.size + 1 + 1, 0, none⟩ (.slice a1 xs.length c1)) w.heap.size va vb) := HA.out.aside (by omega) _ _
  replace HU : Hid (Dy (w1.setCell ⟨w.heap.size + 1 + 1, 0, none⟩ (.slice a1 xs.length c1)) (w.heap.size + 1) _ _) := HU.out.aside (by omega) _ _
  obtain ⟨⟨v0, v1⟩, hf⟩ := HV.out
  have f0 := hf 0
  replace HV : Hid (Dy (w1.setCell ⟨w.heap.size + 1 + 1, 0, none⟩ (.slice a1 xs.length c1)) (w.heap.size + 1 + 1) (.slice a1 xs.length c1) (.slice none 0 0)) := HV.out.set0 _
  have hP3 : w.heap.size + 1 + 1 + 1 ≤ (w1.setCell ⟨w.heap.size + 1 + 1, 0, none⟩ (.slice a1 xs.length c1)).heap.size := HV.out.lt
  have hBs : Below w.heap.size w (w1.setCell ⟨w.heap.size + 1 + 1, 0, none⟩ (.slice a1 xs.length c1)) := hB1.setCell (by show w.heap.size ≤ w.heap.size + 1 + 1; omega) _
  have ho1s : Own 3 (w1.setCell ⟨w.heap.size + 1 + 1, 0, none⟩ (.slice a1 xs.length c1)) (w.heap.size + 1 + 1 + 1) (.slice a1 xs.length c1) (xs.map (Value.int .i64)) := by
    simp only [World.size_alloc] at ho1
    exact Own.set ho1 _ (by omega)
  clear hb1 hB1 ho1 hB
  obtain ⟨⟨x0, x1⟩, _⟩ := HA.out
  go_wp2_with fail
  refine (toEntryS_any D _ vb ls hl' (Nat.le_trans hD hBs.size) (hb.below (hBs.mono hD))).mono ?_
  clear v0 v1 hf f0
  rintro e w2 ⟨rfl, ho2, hb2⟩
  generalize hg2 : (w1.setCell ⟨w.heap.size + 1 + 1, 0, none⟩ (.slice a1 xs.length c1)).heap.size = g2 at ho2 ⊢
  have hB2 := below_seq hBs hb2
  replace HU : Hid (Dy w2 (w.heap.size + 1) _ _) := HU.out.on hb2
  replace HV : Hid (Dy w2 (w.heap.size + 1 + 1) _ _) := HV.out.on hb2
  have ho1t := ho1s.below hb2 (Nat.le_refl _)
  have hsb : w.heap.size + 1 + 1 + 1 ≤ (w1.setCell ⟨w.heap.size + 1 + 1, 0, none⟩ (.slice a1 xs.length c1)).heap.size := hP3
  have hap : ∀ k, (Value.slice a1 xs.length c1).ownBlock = some k → k ≠ g2 := fun i hi => by
    have := ho1s.blk i hi
    omega
  have ho2t := ho2
  clear ho1s ho2 hP3 hb2 hBs x0 x1 HA
  obtain ⟨⟨v0, v1⟩, hf⟩ := HV.out
  have f1 := hf 1
  have hV3 := HV.out.set1 (.slice (some ⟨g2, 0, none⟩) ls.length ls.length)
  have q0 := hV3.1.1
  have q1 := hV3.1.2
  have hU3 := HU.out.aside (m := w.heap.size + 1 + 1) (by omega) 1 (.slice (some ⟨g2, 0, none⟩) ls.length ls.length)
  have hU4 := (Dy.set1 (Dy.set0 hU3 (.slice a1 xs.length c1)) (.slice (some ⟨g2, 0, none⟩) ls.length ls.length)).1
  clear hU3
  obtain ⟨⟨u0, u1⟩, hg⟩ := HU.out
  have g0 := hg 0
  have g1 := hg 1
  have k1 := Own.setK (Own.setK (Own.setK ho1t (P := w.heap.size + 1 + 1) 1 (.slice (some ⟨g2, 0, none⟩) ls.length ls.length) (by omega)) (P := w.heap.size + 1) 0 (.slice a1 xs.length c1) (by omega)) (P := w.heap.size + 1) 1 (.slice (some ⟨g2, 0, none⟩) ls.length ls.length) (by omega)
  have k2 := ((ho2t.kept (grownBy_set w2 (w.heap.size + 1 + 1) 1 (.slice (some ⟨g2, 0, none⟩) ls.length ls.length)) (fun e => by simp at e; omega)).kept (grownBy_set _ (w.heap.size + 1) 0 (.slice a1 xs.length c1)) (fun e => by simp at e; omega)).kept (grownBy_set _ (w.heap.size + 1) 1 (.slice (some ⟨g2, 0, none⟩) ls.length ls.length)) (fun e => by simp at e; omega)
  have hB4 := ((hB2.setCell (p := ⟨w.heap.size + 1 + 1, 1, none⟩) (by show w.heap.size ≤ w.heap.size + 1 + 1; omega) (.slice (some ⟨g2, 0, none⟩) ls.length ls.length)).setCell (p := ⟨w.heap.size + 1, 0, none⟩) (by show w.heap.size ≤ w.heap.size + 1; omega) (.slice a1 xs.length c1)).setCell (p := ⟨w.heap.size + 1, 1, none⟩) (by show w.heap.size ≤ w.heap.size + 1; omega) (.slice (some ⟨g2, 0, none⟩) ls.length ls.length)
  clear ho1t ho2t hB2 HU HV hV3
  go_wp2_with fail
  refine bodyPost_ret (v := .agg #[.slice a1 xs.length c1, .slice (some ⟨g2, 0, none⟩) ls.length ls.length]) ?_ rfl ⟨_, _, _, rfl, k1.mono (by omega), k2.mono (by omega), hap, hB4⟩
  simp [results, Try.results19, go_sem, hU4.1, hU4.2]

set_option maxHeartbeats 1000000 in
set_option maxRecDepth 100000 in
theorem eqSet_same (C C' D D' : Nat) (w : World) (va vb va' vb' : Value) (xs : List Int) (ls : List En) (hl : xs.length ≤ 140737488355328) (hl' : ls.length ≤ 140737488355328) (hC : C ≤ w.heap.size) (hC' : C' ≤ w.heap.size) (hD : D ≤ w.heap.size) (hD' : D' ≤ w.heap.size)
    (ha : Rd C w va (xs.map (Value.int .i64))) (hb : RdE D w vb ls) (ha' : Rd C' w va' (xs.map (Value.int .i64))) (hb' : RdE D' w vb' ls) :
    Calls Try.prog 21 #[.agg #[va, vb], .agg #[va', vb']] w fun e w' => e = .returned (.bool true) ∧ Below w.heap.size w w' := by
  have hB0 : Below w.heap.size w ((w.alloc (.cells #[va, vb] 43)).alloc (.cells #[va', vb'] 43)) := below_then (below_alloc _ _) _
  have HA : Hid (Dy ((w.alloc (.cells #[va, vb] 43)).alloc (.cells #[va', vb'] 43)) w.heap.size va vb) := (Dy.made w va vb 43).on (below_alloc _ _)
  have HU : Hid (Dy ((w.alloc (.cells #[va, vb] 43)).alloc (.cells #[va', vb'] 43)) (w.heap.size + 1) va' vb') := by
    have := Dy.made (w.alloc (.cells #[va, vb] 43)) va' vb' 43
    rw [World.size_alloc] at this
    exact this
  go_enter Try.func21, Try.ntmps21
  go_wp2_with fail
  refine (eqVector_same C C' _ va va' xs hl (Nat.le_trans hC hB0.size) (Nat.le_trans hC' hB0.size) (ha.belowW hB0 hC) (ha'.belowW hB0 hC')).mono ?_
  rintro e w1 ⟨rfl, hb1⟩
  have hB1 := below_seq hB0 hb1
  replace HA : Hid (Dy w1 w.heap.size va vb) := HA.out.on hb1
  replace HU : Hid (Dy w1 (w.heap.size + 1) va' vb') := HU.out.on hb1
  obtain ⟨⟨x0, x1⟩, _⟩ := HA.out
  obtain ⟨⟨y0, y1⟩, _⟩ := HU.out
  go_wp2_with fail
  refine (eqEntryS_same D D' _ vb vb' ls hl' (Nat.le_trans hD hB1.size) (Nat.le_trans hD' hB1.size) (hb.below (hB1.mono hD)) (hb'.below (hB1.mono hD'))).mono ?_
  rintro e w2 ⟨rfl, hb2⟩
  go_wp2_with fail
  go_ret
  exact ⟨rfl, below_seq hB1 hb2⟩

set_option maxHeartbeats 1000000 in
set_option maxRecDepth 100000 in
theorem markSet_any (B D : Nat) (w : World) (a : Option Addr) (n c g m : Nat) (cs : List Value) (ls : List En) (hB : B ≤ w.heap.size) (hm : cs.length ≤ 1048576) (hn : m ≤ 1048576) (ho : Own 3 w B (.slice a n c) cs) (hR : RowE w D g m ls m) (hap : ∀ k, (Value.slice a n c).ownBlock = some k → k ≠ g) :
    Calls Try.prog 22 #[.agg #[.slice a n c, .slice (some ⟨g, 0, none⟩) m m], .int .i64 1] w fun e w' => (∃ x : Int, e = .returned (.int .i64 x) ∧ 0 ≤ x) ∧ (∀ i, i < w.heap.size → (Value.slice a n c).ownBlock ≠ some i → i ≠ g → w'.heap[i]? = w.heap[i]?) ∧ w.heap.size ≤ w'.heap.size ∧ (∀ C, C ≤ B → C ≤ g → C ≤ w.heap.size → Below C w w') := by
  have hB0 := below_alloc w (.cells #[.slice a n c, .slice (some ⟨g, 0, none⟩) m m] 43)
  have ho1 : Own 3 (w.alloc (.cells #[.slice a n c, .slice (some ⟨g, 0, none⟩) m m] 43)) B (.slice a n c) cs := World.ownsRow.alloc ho _
  have hR1 := hR.on hB0
  have hD := Dy.made w (.slice a n c) (.slice (some ⟨g, 0, none⟩) m m) 43
  have hblk := ho.blk
  have hlg := hR.lt.2
  go_enter Try.func22, Try.ntmps22
  go_wp2_with fail
  refine (markVector_any B _ a n c cs 1 (by omega) (by omega) (by simp; omega) ho1).mono ?_
  rintro e w1 ⟨rfl, _, hb1, hg1⟩
  have hne : (Value.slice a n c).ownBlock ≠ some w.heap.size := fun e => by have := hblk _ e; omega
  have c0 := hg1.cell (a := ⟨w.heap.size, 0, none⟩) hD.1.1 (fun e => hne e.symm)
  have c1 := hg1.cell (a := ⟨w.heap.size, 1, none⟩) hD.1.2 (fun e => hne e.symm)
  have hR2 := hR1.kept hg1 (fun e => hap g e rfl)
  clear ho1 hR1 hD
  go_wp2_with fail
  refine (markEntryS_any D g m w1 ls m (1 + cs.length) hn (by omega) hR2).mono ?_
  rintro e w2 ⟨rfl, _, hg2⟩
  have hz1 := hg1.size
  rw [World.size_alloc] at hz1
  have hz2 := hg2.size
  have hfin : ∀ i, i < w.heap.size → (Value.slice a n c).ownBlock ≠ some i → i ≠ g → w2.heap[i]? = w.heap[i]? := fun i hi h1 h2 => ((hg2.block i (by omega) (fun e => h2 (by simpa using e))).trans (hg1.block i (by rw [World.size_alloc]; omega) (fun e => h1 e.symm))).trans (hB0.block i hi)
  have hBel : ∀ C, C ≤ B → C ≤ g → C ≤ w.heap.size → Below C w w2 := fun C h1 h2 h3 => ((hB0.mono h3).grown hg1 (by rw [World.size_alloc]; omega) (fun k hk => by have := ho.lt k hk; omega)).grown hg2 (by omega) (fun k hk => by cases hk; exact h2)
  clear hR2 c0 c1
  go_wp2_with fail
  go_ret
  exact ⟨⟨_, rfl, by omega⟩, hfin, by omega, hBel⟩

set_option maxHeartbeats 1000000 in
set_option maxRecDepth 100000 in
theorem szSet_any (C : Nat) (w : World) (ao : Option Addr) (n cap : Nat) (ve : Value) (ls : List En) (hn : n ≤ maxLen) (hl : ls.length ≤ 9223372036854775807) (hs : ∀ k, (enAt ls k).2.2.size ≤ 9223372036854775807) (hC : C ≤ w.heap.size) (hr : RdE C w ve ls) :
    Calls Try.prog 17 #[.agg #[.slice ao n cap, ve], .int .i64 1048576] w fun e w' => (∃ x : Int, e = .returned (.int .i64 x) ∧ (0 ≤ x → n ≤ 1048576 ∧ ls.length ≤ 1048576)) ∧ Below w.heap.size w w' := by
  have hB0 := below_alloc w (.cells #[.slice ao n cap, ve] 41)
  have hD := Dy.made w (.slice ao n cap) ve 41
  have hve := hr
  obtain ⟨eo, ec, rfl, _⟩ := hve
  go_enter Try.func17, Try.ntmps17
  go_wp2_with fail
  refine (szVector_any ao n cap 1048576 (by omega) hn _).mono ?_
  by_cases h : n ≤ 1048576
  · rw [if_pos h]
    rintro e w1 ⟨rfl, hb1⟩
    have hB1 := below_seq hB0 hb1
    obtain ⟨⟨c0, c1⟩, _⟩ := Dy.on hD hb1
    obtain ⟨l, hl0⟩ : ∃ l : Int, ((1048576 - n : Nat) : Int) = l := ⟨_, rfl⟩
    have hl1 : 0 ≤ l := by omega
    have hl2 : l ≤ 1048576 := by omega
    rw [hl0]
    have hd : decide (l < 0) = false := by simp; omega
    clear hl0
    go_wp2_with fail
    refine (szEntryS_any C w1 _ ls l hl1 hl2 hl hs (Nat.le_trans hC hB1.size) (hr.below (hB1.mono hC))).mono ?_
    rintro e w2 ⟨⟨x, rfl, x0, x1, hx⟩, hb2⟩
    by_cases hx0 : x < 0
    · go_wp2_with fail
      go_ret
      exact ⟨⟨_, rfl, by omega⟩, below_seq hB1 hb2⟩
    · have hx2 : decide (x < 0) = false := by simp; omega
      have hx1 := hx (by omega)
      have hx3 : 0 ≤ x := by omega
      clear hx0
      go_wp2_with fail
      go_ret
      exact ⟨⟨_, rfl, fun _ => ⟨h, hx1⟩⟩, below_seq hB1 hb2⟩
  · rw [if_neg h]
    rintro e w1 ⟨rfl, hb1⟩
    go_wp2_with fail
    go_ret
    exact ⟨⟨_, rfl, by omega⟩, below_seq hB0 hb1⟩

end Go.Proofs.Ytdkfeabpnikedaa

namespace Go.Proofs.Ytdkfeabpnikedaa
open Go.RowKit
set_option linter.unusedVariables false

/-- A row of entries that the call owns, the first k of which are those of ls. -/
def RowF (w : World) (B g n c : Nat) (ls : List En) (k : Nat) : Prop :=
  ∃ xs, w.ownsRow B 60 3 (.slice (some ⟨g, 0, none⟩) n c) n xs ∧ ∀ j, j < k → xs[j * 3]? = some (.int .i64 (enAt ls j).1) ∧ xs[j * 3 + 1]? = some (.int .i64 (enAt ls j).2.1) ∧ xs[j * 3 + 2]? = some (.string (enAt ls j).2.2)
theorem RowF.cells {w : World} {B g n c : Nat} {ls : List En} {k : Nat} (h : RowF w B g n c ls k) {j : Nat} (hj : j < n) :
    ∃ u v z, w.cell? ⟨g, j * 3, none⟩ = some u ∧ w.cell? ⟨g, j * 3 + 1, none⟩ = some v ∧ w.cell? ⟨g, j * 3 + 2, none⟩ = some z ∧ w.frozen? ⟨g, j * 3, none⟩ = false ∧ w.frozen? ⟨g, j * 3 + 1, none⟩ = false ∧ w.frozen? ⟨g, j * 3 + 2, none⟩ = false := by
  obtain ⟨xs, ho, _⟩ := h
  have hl := ho.1
  have h0 : j * 3 < xs.length := by omega
  have h1 : j * 3 + 1 < xs.length := by omega
  have h2 : j * 3 + 2 < xs.length := by omega
  refine ⟨xs[j * 3], xs[j * 3 + 1], xs[j * 3 + 2], ?_, ?_, ?_, World.ownsRow.frozenAt ho _, World.ownsRow.frozenAt ho _, World.ownsRow.frozenAt ho _⟩
  · rw [World.ownsRow.cellAt ho _ (by omega), List.getElem?_eq_getElem h0]
  · rw [World.ownsRow.cellAt ho _ (by omega), List.getElem?_eq_getElem h1]
  · rw [World.ownsRow.cellAt ho _ (by omega), List.getElem?_eq_getElem h2]
theorem RowF.put {w : World} {B g n c : Nat} {ls : List En} {k : Nat} (h : RowF w B g n c ls k) (hk : k < n) :
    RowF (((w.setCell ⟨g, k * 3, none⟩ (.int .i64 (enAt ls k).1)).setCell ⟨g, k * 3 + 1, none⟩ (.int .i64 (enAt ls k).2.1)).setCell ⟨g, k * 3 + 2, none⟩ (.string (enAt ls k).2.2)) B g n c ls (k + 1) := by
  obtain ⟨xs, ho, hx⟩ := h
  have hl := ho.1
  refine ⟨_, (World.ownsRow.stored (World.ownsRow.stored (World.ownsRow.stored ho (k * 3) _).1 (k * 3 + 1) _).1 (k * 3 + 2) _).1, fun j hj => ?_⟩
  by_cases e : j = k
  · subst e
    refine ⟨?_, ?_, ?_⟩
    · rw [List.getElem?_set_ne (by omega), List.getElem?_set_ne (by omega), List.getElem?_set_self (by omega)]
    · rw [List.getElem?_set_ne (by omega), List.getElem?_set_self (by rw [List.length_set]; omega)]
    · rw [List.getElem?_set_self (by rw [List.length_set, List.length_set]; omega)]
  · have := hx j (by omega)
    refine ⟨?_, ?_, ?_⟩
    · rw [List.getElem?_set_ne (by omega), List.getElem?_set_ne (by omega), List.getElem?_set_ne (by omega)]; exact this.1
    · rw [List.getElem?_set_ne (by omega), List.getElem?_set_ne (by omega), List.getElem?_set_ne (by omega)]; exact this.2.1
    · rw [List.getElem?_set_ne (by omega), List.getElem?_set_ne (by omega), List.getElem?_set_ne (by omega)]; exact this.2.2
theorem RowF.lt {w : World} {B g n c : Nat} {ls : List En} {k : Nat} (h : RowF w B g n c ls k) : B ≤ g ∧ g < w.heap.size := by
  obtain ⟨xs, ho, _⟩ := h
  exact World.ownsRow.lt ho g rfl
theorem RowF.kept {w w' : World} {B g n c : Nat} {ls : List En} {k : Nat} {row : Option Nat} (h : RowF w B g n c ls k) (hg : w.grownBy w' row) (hn : row ≠ some g) : RowF w' B g n c ls k := by
  obtain ⟨xs, ho, hx⟩ := h
  exact ⟨xs, ho.kept hg (.inr (fun e => hn (by simpa [Value.ownBlock] using e.symm))), hx⟩
theorem RowF.on {w w' : World} {B g n c : Nat} {ls : List En} {k : Nat} (h : RowF w B g n c ls k) (hb : Below w.heap.size w w') : RowF w' B g n c ls k := h.kept (grownBy_below hb (Nat.le_refl _) none) (by simp)
theorem RowF.fresh {w : World} {B g n c : Nat} {ls ls' : List En} {k : Nat} (h : RowF w B g n c ls k) : RowF w B g n c ls' 0 := by
  obtain ⟨xs, ho, _⟩ := h
  exact ⟨xs, ho, fun j hj => absurd hj (Nat.not_lt_zero _)⟩

/-- A row of entries, of the k-th of which the numbers are written already. -/
def RowG (w : World) (B g n c : Nat) (ls : List En) (k : Nat) : Prop :=
  ∃ xs, w.ownsRow B 60 3 (.slice (some ⟨g, 0, none⟩) n c) n xs ∧ (∀ j, j < k → xs[j * 3]? = some (.int .i64 (enAt ls j).1) ∧ xs[j * 3 + 1]? = some (.int .i64 (enAt ls j).2.1) ∧ xs[j * 3 + 2]? = some (.string (enAt ls j).2.2)) ∧ xs[k * 3]? = some (.int .i64 (enAt ls k).1) ∧ xs[k * 3 + 1]? = some (.int .i64 (enAt ls k).2.1)
theorem RowF.two {w : World} {B g n c : Nat} {ls : List En} {k : Nat} (h : RowF w B g n c ls k) (hk : k < n) :
    RowG ((w.setCell ⟨g, k * 3, none⟩ (.int .i64 (enAt ls k).1)).setCell ⟨g, k * 3 + 1, none⟩ (.int .i64 (enAt ls k).2.1)) B g n c ls k := by
  obtain ⟨xs, ho, hx⟩ := h
  have hl := ho.1
  refine ⟨_, (World.ownsRow.stored (World.ownsRow.stored ho (k * 3) _).1 (k * 3 + 1) _).1, fun j hj => ?_, ?_, ?_⟩
  · have := hx j hj
    refine ⟨?_, ?_, ?_⟩
    · rw [List.getElem?_set_ne (by omega), List.getElem?_set_ne (by omega)]; exact this.1
    · rw [List.getElem?_set_ne (by omega), List.getElem?_set_ne (by omega)]; exact this.2.1
    · rw [List.getElem?_set_ne (by omega), List.getElem?_set_ne (by omega)]; exact this.2.2
  · rw [List.getElem?_set_ne (by omega), List.getElem?_set_self (by omega)]
  · rw [List.getElem?_set_self (by rw [List.length_set]; omega)]
theorem RowG.on {w w' : World} {B g n c : Nat} {ls : List En} {k : Nat} (h : RowG w B g n c ls k) (hb : Below w.heap.size w w') : RowG w' B g n c ls k := by
  obtain ⟨xs, ho, hx⟩ := h
  exact ⟨xs, ho.kept (grownBy_below hb (Nat.le_refl _) none) (by simp [Value.ownBlock]), hx⟩
theorem RowG.cell {w : World} {B g n c : Nat} {ls : List En} {k : Nat} (h : RowG w B g n c ls k) (hk : k < n) : ∃ z, w.cell? ⟨g, k * 3 + 2, none⟩ = some z ∧ w.frozen? ⟨g, k * 3 + 2, none⟩ = false := by
  obtain ⟨xs, ho, _⟩ := h
  have hl := ho.1
  have h2 : k * 3 + 2 < xs.length := by omega
  exact ⟨xs[k * 3 + 2], by rw [World.ownsRow.cellAt ho _ (by omega), List.getElem?_eq_getElem h2], World.ownsRow.frozenAt ho _⟩
theorem RowG.put {w : World} {B g n c : Nat} {ls : List En} {k : Nat} (h : RowG w B g n c ls k) (hk : k < n) : RowF (w.setCell ⟨g, k * 3 + 2, none⟩ (.string (enAt ls k).2.2)) B g n c ls (k + 1) := by
  obtain ⟨xs, ho, hx, h0, h1⟩ := h
  have hl := ho.1
  refine ⟨_, (World.ownsRow.stored ho (k * 3 + 2) _).1, fun j hj => ?_⟩
  by_cases e : j = k
  · subst e
    refine ⟨?_, ?_, ?_⟩
    · rw [List.getElem?_set_ne (by omega)]; exact h0
    · rw [List.getElem?_set_ne (by omega)]; exact h1
    · rw [List.getElem?_set_self (by omega)]
  · have := hx j (by omega)
    refine ⟨?_, ?_, ?_⟩
    · rw [List.getElem?_set_ne (by omega)]; exact this.1
    · rw [List.getElem?_set_ne (by omega)]; exact this.2.1
    · rw [List.getElem?_set_ne (by omega)]; exact this.2.2

set_option maxHeartbeats 4000000 in
set_option maxRecDepth 100000 in
theorem markEntryF_any (B g n c : Nat) (w : World) (ls : List En) (k0 q : Nat) (hn : n ≤ 1048576) (hq : q ≤ 2097152) (hR : RowF w B g n c ls k0) :
    Calls Try.prog 43 #[.slice (some ⟨g, 0, none⟩) n c, .int .i64 (q : Int)] w fun e w' => e = .returned (.int .i64 ((q + 3 * n : Nat) : Int)) ∧ RowF w' B g n c (marksE q n) n ∧ w.grownBy w' (some g) := by
  have HR0 : Hid (RowF w B g n c (marksE q n) 0) := hR.fresh
  clear hR
  go_enter Try.func43, Try.ntmps43
  go_wp2_with fail
  go_loopw [1, 5] (fun tq ti wr => ∃ k : Nat, k ≤ n ∧ ti = .int .i64 (k : Int) ∧ tq = .int .i64 ((q + 3 * k : Nat) : Int) ∧ Hid (RowF wr B g n c (marksE q n) k) ∧ w.grownBy wr (some g)) (fun _ ti _ => n - (intOf ti).toNat)
  case atStart => exact ⟨0, Nat.zero_le _, rfl, rfl, HR0, World.grownBy.refl _ _⟩
  case round =>
    clear HR0
    obtain ⟨k, hk, rfl, rfl, HR, hG⟩ := hrel
    by_cases hlt : k < n
    · have j0 : (0 : Int) ≤ (k : Int) := by omega
      have j1 : (k : Int) < (n : Int) := by omega
      have j2 : (k : Int) + 1 < 9223372036854775808 := by omega
      have hat := marksE_at (q := q) hlt
      have h2 := RowF.two HR.out hlt
      have HPP : Hid (∀ {w'}, RowG w' B g n c (marksE q n) k → RowF (w'.setCell ⟨g, k * 3 + 2, none⟩ (.string (enAt (marksE q n) k).2.2)) B g n c (marksE q n) (k + 1)) := fun h => h.put hlt
      rw [hat] at h2 HPP
      have hq2 : ((q + 3 * k + 1 : Nat) : Int) = ((q + 3 * k : Nat) : Int) + 1 := by omega
      have hT := fun w => markText_any (q + 3 * k + 2) (by omega) w
      have hq3 : ((q + 3 * k + 2 : Nat) : Int) = ((q + 3 * k : Nat) : Int) + 1 + 1 := by omega
      have HQ : Hid (((q + 3 * (k + 1) : Nat) : Int) = ((q + 3 * k : Nat) : Int) + 1 + 1 + 1) := by show _ = _; omega
      rw [hq3] at hT
      simp only [hq2] at h2
      have hm0 : ((q + 3 * k : Nat) : Int) + 1 + 1 + 1 < 9223372036854775808 := by omega
      obtain ⟨x, hx⟩ : ∃ x : Int, ((q + 3 * k : Nat) : Int) = x := ⟨_, rfl⟩
      have hx0 : 0 ≤ x := by omega
      simp only [hx] at h2 hT HQ hm0 ⊢
      obtain ⟨u, v, z, c0, c1, c2, f0, f1, f2⟩ := RowF.cells HR.out hlt
      have H2 : Hid _ := h2
      have HT : Hid (mt (q + 3 * k + 2) = mt (q + 3 * k + 2)) := rfl
      have hG2 : w.grownBy ((wr.setCell ⟨g, k * 3, none⟩ (.int .i64 x)).setCell ⟨g, k * 3 + 1, none⟩ (.int .i64 (x + 1))) (some g) := grownBy_trans (grownBy_trans hG (grownBy_set wr g (k * 3) _)) (grownBy_set _ g (k * 3 + 1) _)
      clear hat hq2 hq3 hx h2 hG HR
      go_wp2_with fail
      refine (hT _).mono ?_
      rintro e w3 ⟨rfl, hb3⟩
      have hP3 := RowG.on H2.out hb3
      obtain ⟨z3, y0, y1⟩ := RowG.cell hP3 hlt
      have hG3 := grownBy_trans hG2 (grownBy_below hb3 (Nat.le_refl _) (some g))
      have HR4 := HPP.out hP3
      have hG4 := grownBy_trans hG3 (grownBy_set w3 g (k * 3 + 2) (.string (mt (q + 3 * k + 2))))
      clear hP3 hb3 hG2 hG3 H2 HPP hT
      go_wp2_with fail
      go_roundw
      case rel => exact ⟨k + 1, by omega, by go_num, by rw [HQ.out], HR4, hG4⟩
      case measure => simp [intOf]; omega
    · obtain rfl : k = n := by omega
      go_wp2_with fail
      go_ret
      exact ⟨rfl, HR.out, hG⟩


theorem enCs_of {xs : List Value} {ls : List En} (hl : xs.length = ls.length * 3) (h : ∀ j, j < ls.length → xs[j * 3]? = some (.int .i64 (enAt ls j).1) ∧ xs[j * 3 + 1]? = some (.int .i64 (enAt ls j).2.1) ∧ xs[j * 3 + 2]? = some (.string (enAt ls j).2.2)) : xs = enCs ls := by
  have hl2 := enCs_len ls
  refine List.ext_getElem? fun i => ?_
  by_cases hi : i < ls.length * 3
  · obtain ⟨j, hj, r, hr, rfl⟩ : ∃ j, j < ls.length ∧ ∃ r, r < 3 ∧ i = j * 3 + r := ⟨i / 3, by omega, i % 3, by omega, by omega⟩
    obtain ⟨a0, a1, a2⟩ := h j hj
    obtain ⟨b0, b1, b2⟩ := enCs_at hj
    obtain rfl | rfl | rfl : r = 0 ∨ r = 1 ∨ r = 2 := by omega
    · rw [Nat.add_zero, a0, b0]
    · rw [a1, b1]
    · rw [a2, b2]
  · rw [List.getElem?_eq_none (by omega), List.getElem?_eq_none (by omega)]
theorem RowF.own {w : World} {B g n c : Nat} {ls : List En} (h : RowF w B g n c ls n) (hn : n = ls.length) : OwnE w B (.slice (some ⟨g, 0, none⟩) n c) ls := by
  subst hn
  obtain ⟨xs, ho, hx⟩ := h
  have := enCs_of ho.1 hx
  subst this
  exact ho
theorem rowF_of {w : World} {B g n c : Nat} {ls : List En} (h : OwnE w B (.slice (some ⟨g, 0, none⟩) n c) ls) (hn : n = ls.length) : RowF w B g n c ls n := by
  subst hn
  exact ⟨_, h, fun j hj => enCs_at hj⟩
theorem RowE.own {w : World} {B g n : Nat} {ls : List En} (h : RowE w B g n ls n) (hn : n = ls.length) : OwnE w B (.slice (some ⟨g, 0, none⟩) n n) ls := by
  subst hn
  obtain ⟨xs, ho, hx⟩ := h
  have := enCs_of ho.1 hx
  subst this
  exact ho
theorem ownE_shape {w : World} {B : Nat} {v : Value} {ls : List En} (h : OwnE w B v ls) : (v = .slice none 0 0 ∧ ls = []) ∨ ∃ g c, v = .slice (some ⟨g, 0, none⟩) ls.length c ∧ B ≤ g ∧ g < w.heap.size := by
  have hlt := h.lt
  rcases h.2 with ⟨hv, hn⟩ | ⟨g, cap, cur, hv, hb, hg, _⟩
  · exact .inl ⟨hv, List.eq_nil_of_length_eq_zero hn⟩
  · exact .inr ⟨g, cap, hv, hb, (Array.getElem?_eq_some_iff.1 hg).1⟩
theorem ownE_rd {w : World} {B : Nat} {v : Value} {ls : List En} (h : OwnE w B v ls) : RdE w.heap.size w v ls := by
  rcases ownE_shape h with ⟨rfl, rfl⟩ | ⟨g, c, rfl, _, hlt⟩
  · exact ⟨none, 0, rfl, fun h => absurd h (by simp)⟩
  · refine ⟨_, c, rfl, fun _ => ⟨g, 0, rfl, hlt, fun k hk => ?_⟩⟩
    have hl := enCs_len ls
    obtain ⟨b0, b1, b2⟩ := enCs_at hk
    rw [Nat.zero_add, Nat.zero_add, Nat.zero_add, World.ownsRow.cellAt h _ (by omega), World.ownsRow.cellAt h _ (by omega), World.ownsRow.cellAt h _ (by omega)]
    exact ⟨b0, b1, b2⟩

set_option maxHeartbeats 1000000 in
set_option maxRecDepth 100000 in
theorem markEntryS_own (B : Nat) (w : World) (v : Value) (ls : List En) (q : Nat) (hn : ls.length ≤ 1048576) (hq : q ≤ 2097152) (ho : OwnE w B v ls) :
    Calls Try.prog 43 #[v, .int .i64 (q : Int)] w fun e w' => e = .returned (.int .i64 ((q + 3 * ls.length : Nat) : Int)) ∧ OwnE w' B v (marksE q ls.length) ∧ w.grownBy w' v.ownBlock := by
  rcases ownE_shape ho with ⟨rfl, rfl⟩ | ⟨g, c, rfl, _, hlt⟩
  · have ho' : OwnE w B (.slice none 0 0) (marksE q ([] : List En).length) := ho
    clear ho
    go_enter Try.func43, Try.ntmps43
    go_wp2_with fail
    go_loopw [1, 5] (fun tq ti wr => ti = .int .i64 0 ∧ tq = .int .i64 (q : Int) ∧ wr = w) (fun _ ti _ => 0)
    case atStart => exact ⟨rfl, rfl, rfl⟩
    case round =>
      obtain ⟨rfl, rfl, rfl⟩ := hrel
      go_wp2_with fail
      go_ret
      exact ⟨by simp, ho', World.grownBy.refl _ _⟩
  · refine (markEntryF_any B g ls.length c w ls ls.length q hn hq (rowF_of ho rfl)).mono ?_
    rintro e w' ⟨rfl, hR, hg⟩
    exact ⟨rfl, hR.own (marksE_len _ _).symm, hg⟩

set_option maxHeartbeats 2000000 in
set_option maxRecDepth 100000 in
theorem heldEntryS_same (C : Nat) (w : World) (v : Value) (q n : Nat) (hn : n ≤ 1048576) (hq : q ≤ 2097152) (hC : C ≤ w.heap.size) (hr : RdE C w v (marksE q n)) :
    Calls Try.prog 45 #[v, .int .i64 (q : Int)] w fun e w' => e = .returned (.int .i64 ((q + 3 * n : Nat) : Int)) ∧ Below w.heap.size w w' := by
  obtain ⟨eo, ec, rfl, hE⟩ := hr
  rw [marksE_len] at hE ⊢
  go_enter Try.func45, Try.ntmps45
  go_wp2_with fail
  go_loopw [1, 5] (fun tq ti wr => ∃ k : Nat, k ≤ n ∧ ti = .int .i64 (k : Int) ∧ tq = .int .i64 ((q + 3 * k : Nat) : Int) ∧ Below w.heap.size w wr) (fun _ ti _ => n - (intOf ti).toNat)
  case atStart => exact ⟨0, Nat.zero_le _, rfl, rfl, Below.refl _ _⟩
  case round =>
    obtain ⟨k, hk, rfl, rfl, hB⟩ := hrel
    by_cases hlt : k < n
    · obtain ⟨g, off, rfl, hg, hc⟩ := hE (by omega)
      obtain ⟨q0, q1, q2⟩ := hc k hlt
      rw [← hB.cell (p := ⟨g, off + k * 3, none⟩) (by show g < _; omega)] at q0
      rw [← hB.cell (p := ⟨g, off + (k * 3 + 1), none⟩) (by show g < _; omega)] at q1
      rw [← hB.cell (p := ⟨g, off + (k * 3 + 2), none⟩) (by show g < _; omega)] at q2
      rw [marksE_at hlt] at q0 q1 q2
      replace q0 : wr.cell? ⟨g, off + k * 3, none⟩ = some (.int .i64 ((q + 3 * k : Nat) : Int)) := q0
      replace q1 : wr.cell? ⟨g, off + k * 3 + 1, none⟩ = some (.int .i64 ((q + 3 * k + 1 : Nat) : Int)) := q1
      replace q2 : wr.cell? ⟨g, off + k * 3 + 2, none⟩ = some (.string (mt (q + 3 * k + 2))) := q2
      have hq2 : ((q + 3 * k + 1 : Nat) : Int) = ((q + 3 * k : Nat) : Int) + 1 := by omega
      have hT := fun w => markText_any (q + 3 * k + 2) (by omega) w
      have hq3 : ((q + 3 * k + 2 : Nat) : Int) = ((q + 3 * k : Nat) : Int) + 1 + 1 := by omega
      have HQ : Hid (((q + 3 * (k + 1) : Nat) : Int) = ((q + 3 * k : Nat) : Int) + 1 + 1 + 1) := by show _ = _; omega
      rw [hq3] at hT
      rw [hq2] at q1
      have hm0 : ((q + 3 * k : Nat) : Int) + 1 + 1 + 1 < 9223372036854775808 := by omega
      obtain ⟨x, hx⟩ : ∃ x : Int, ((q + 3 * k : Nat) : Int) = x := ⟨_, rfl⟩
      have hx0 : 0 ≤ x := by omega
      simp only [hx] at hT HQ hm0 q0 q1 ⊢
      generalize mt (q + 3 * k + 2) = tx at hT q2
      have j0 : (0 : Int) ≤ (k : Int) := by omega
      have j1 : (k : Int) < (n : Int) := by omega
      have j2 : (k : Int) + 1 < 9223372036854775808 := by omega
      clear hc hE hx hq2 hq3
      go_wp2_with fail
      go_region_held2 (fun w' => w'.cell? ⟨g, off + k * 3 + 2, none⟩ = some (.string tx)) (first | exact q2 | exact cell_on hbT q2) (first | (go_at_call 67; refine (hT _).mono ?_; rintro e w3 ⟨rfl, hbT⟩))
      have hB3 := below_seq hB.drew hbT
      clear hT q0 q1 q2
      go_wp2_with fail
      go_roundw
      case rel => exact ⟨k + 1, by omega, by go_num, by rw [HQ.out], hB3⟩
      case measure => simp [intOf]; omega
    · obtain rfl : k = n := by omega
      go_wp2_with fail
      go_ret
      exact ⟨rfl, hB⟩

end Go.Proofs.Ytdkfeabpnikedaa

namespace Go.Proofs.Ytdkfeabpnikedaa
open Go.RowKit
set_option linter.unusedVariables false

/-- Two slices of the call's own, in blocks from B on and below E: these counts, these entries. -/
def Sv (w : World) (B E : Nat) (u v : Value) (xs : List Int) (ls : List En) : Prop :=
  ∃ T, Own T w B u (xs.map (Value.int .i64)) ∧ OwnE w B v ls ∧ Apart u v ∧ (∀ i, u.ownBlock = some i → i < E) ∧ (∀ i, v.ownBlock = some i → i < E)
/-- All blocks but those from B on and below E are as they were. -/
def Away (w w' : World) (B E : Nat) : Prop := w.heap.size ≤ w'.heap.size ∧ ∀ i, i < w.heap.size → i < B ∨ E ≤ i → w'.heap[i]? = w.heap[i]?
theorem Sv.shape {w : World} {B E : Nat} {u v : Value} {xs : List Int} {ls : List En} (h : Sv w B E u v xs ls) : ∃ a n c b m d, u = .slice a n c ∧ v = .slice b m d := by
  obtain ⟨T, h1, h2, _⟩ := h
  obtain ⟨a, c, rfl, _⟩ := h1.slice
  rcases ownE_shape h2 with ⟨rfl, _⟩ | ⟨g, d, rfl, _⟩
  · exact ⟨_, _, _, _, _, _, rfl, rfl⟩
  · exact ⟨_, _, _, _, _, _, rfl, rfl⟩
theorem Sv.rd {w : World} {B E : Nat} {u v : Value} {xs : List Int} {ls : List En} (h : Sv w B E u v xs ls) : Rd w.heap.size w u (xs.map (Value.int .i64)) := by
  obtain ⟨T, h1, _⟩ := h
  exact h1.rd
theorem Sv.rdE {w : World} {B E : Nat} {u v : Value} {xs : List Int} {ls : List En} (h : Sv w B E u v xs ls) : RdE w.heap.size w v ls := by
  obtain ⟨T, _, h2, _⟩ := h
  exact ownE_rd h2
theorem Sv.on {w w' : World} {B E : Nat} {u v : Value} {xs : List Int} {ls : List En} (h : Sv w B E u v xs ls) (hb : Below w.heap.size w w') : Sv w' B E u v xs ls := by
  obtain ⟨T, h1, h2, h3⟩ := h
  refine ⟨T, h1.below hb (Nat.le_refl _), ?_, h3⟩
  obtain ⟨k1, k2⟩ := h2
  refine ⟨k1, ?_⟩
  rcases k2 with k2 | ⟨g, cap, cur, hv, hg, hh, r⟩
  · exact .inl k2
  · exact .inr ⟨g, cap, cur, hv, hg, (hb.block g (Array.getElem?_eq_some_iff.1 hh).1).trans hh, r⟩
theorem Sv.alloc {w : World} {B E : Nat} {u v : Value} {xs : List Int} {ls : List En} (h : Sv w B E u v xs ls) (o : Obj) : Sv (w.alloc o) B E u v xs ls := h.on (below_alloc w o)
theorem Sv.drew {w : World} {B E : Nat} {u v : Value} {xs : List Int} {ls : List En} (h : Sv w B E u v xs ls) : Sv w.drew B E u v xs ls := h
theorem Sv.mono {w : World} {B B' E E' : Nat} {u v : Value} {xs : List Int} {ls : List En} (h : Sv w B E u v xs ls) (hb : B' ≤ B) (he : E ≤ E') : Sv w B' E' u v xs ls := by
  obtain ⟨T, h1, h2, h3, h4, h5⟩ := h
  exact ⟨T, h1.mono hb, h2.mono hb, h3, fun i hi => Nat.lt_of_lt_of_le (h4 i hi) he, fun i hi => Nat.lt_of_lt_of_le (h5 i hi) he⟩
theorem Sv.away {w w' : World} {B E B' E' : Nat} {u v : Value} {xs : List Int} {ls : List En} (h : Sv w B E u v xs ls) (hk : Away w w' B' E') (hd : E ≤ B' ∨ E' ≤ B) : Sv w' B E u v xs ls := by
  obtain ⟨T, h1, h2, h3, h4, h5⟩ := h
  refine ⟨T, ?_, ?_, h3, h4, h5⟩
  · obtain ⟨k1, k2⟩ := h1
    refine ⟨k1, ?_⟩
    rcases k2 with k2 | ⟨g, cap, cur, hv, hg, hh, r⟩
    · exact .inl k2
    · have hl := h4 g (by rw [hv]; rfl)
      exact .inr ⟨g, cap, cur, hv, hg, (hk.2 g (Array.getElem?_eq_some_iff.1 hh).1 (by omega)).trans hh, r⟩
  · obtain ⟨k1, k2⟩ := h2
    refine ⟨k1, ?_⟩
    rcases k2 with k2 | ⟨g, cap, cur, hv, hg, hh, r⟩
    · exact .inl k2
    · have hl := h5 g (by rw [hv]; rfl)
      exact .inr ⟨g, cap, cur, hv, hg, (hk.2 g (Array.getElem?_eq_some_iff.1 hh).1 (by omega)).trans hh, r⟩
theorem Away.dy {w w' : World} {B E n : Nat} {x y : Value} (h : Away w w' B E) (hd : Dy w n x y) (hn : n < B ∨ E ≤ n) : Dy w' n x y := by
  have hb := h.2 n hd.lt hn
  exact ⟨⟨(World.cell?_of_block (a := ⟨n, 0, none⟩) hb).trans hd.1.1, (World.cell?_of_block (a := ⟨n, 1, none⟩) hb).trans hd.1.2⟩, fun k => (World.frozen?_of_block (a := ⟨n, k, none⟩) hb).trans (hd.2 k)⟩
/-- A value with a vector and entries of the call's own, and a code. -/
def SvAns (xs : List Int) (ls : List En) (k : Int) (w : World) (e : Ending) (w' : World) : Prop :=
  ∃ u v, e = .returned (.tuple #[.agg #[u, v], .int .i64 k]) ∧ Sv w' w.heap.size w'.heap.size u v xs ls ∧ Below w.heap.size w w'
theorem svNone (w : World) (B E : Nat) : Sv w B E (.slice none 0 0) (.slice none 0 0) [] [] :=
  ⟨3, World.ownsRow_nil _ _ _ _, World.ownsRow_nil _ _ _ _, fun i j h => by simp [Value.ownBlock] at h, fun i h => by simp [Value.ownBlock] at h, fun i h => by simp [Value.ownBlock] at h⟩

theorem away_set (w : World) (p k : Nat) (u : Value) : Away w (w.setCell ⟨p, k, none⟩ u) p (p + 1) := ⟨by simp, fun i _ hi => heap_setCell_other w ⟨p, k, none⟩ i u (by show i ≠ p; omega)⟩
theorem sv_put {w : World} {B E : Nat} {u v : Value} {xs : List Int} {ls : List En} (h : Sv w B E u v xs ls) (p : Nat) (hp : p < B) (x y : Value) : Sv ((w.setCell ⟨p, 0, none⟩ x).setCell ⟨p, 1, none⟩ y) B E u v xs ls :=
  (h.away (away_set w p 0 x) (.inr (by omega))).away (away_set _ p 1 y) (.inr (by omega))
theorem Dy.grown {w w' : World} {n : Nat} {x y : Value} {row : Option Nat} (h : Dy w n x y) (hg : w.grownBy w' row) (hr : row ≠ some n) : Dy w' n x y := by
  have hb : w'.heap[n]? = w.heap[n]? := hg.block n h.lt (fun e => hr e.symm)
  exact ⟨⟨(World.cell?_of_block (a := ⟨n, 0, none⟩) hb).trans h.1.1, (World.cell?_of_block (a := ⟨n, 1, none⟩) hb).trans h.1.2⟩, fun k => (World.frozen?_of_block (a := ⟨n, k, none⟩) hb).trans (h.2 k)⟩

end Go.Proofs.Ytdkfeabpnikedaa

namespace Go.Proofs.Ytdkfeabpnikedaa
open Go.RowKit
set_option linter.unusedVariables false

set_option maxHeartbeats 2000000 in
set_option maxRecDepth 100000 in
theorem toMulti_any (C D : Nat) (w : World) (va vb : Value) (xs : List Int) (ls : List En) (hl : xs.length ≤ 1048576) (hl' : ls.length ≤ 1048576) (hC : C ≤ w.heap.size) (hD : D ≤ w.heap.size) (ha : Rd C w va (xs.map (Value.int .i64))) (hb : RdE D w vb ls) :
    Calls Try.prog 10 #[.agg #[va, vb]] w fun e w' => ∃ a c g, e = .returned (.agg #[.slice a xs.length c, .slice (some ⟨g, 0, none⟩) ls.length ls.length]) ∧ Own 3 w' w.heap.size (.slice a xs.length c) (xs.map (Value.int .i64)) ∧ RowE w' w.heap.size g ls.length ls ls.length ∧ (∀ k, (Value.slice a xs.length c).ownBlock = some k → k ≠ g) ∧ Below w.heap.size w w' := by
  have hB := Below.refl (((w.alloc (.cells #[va, vb] 27)).alloc (.cells #[.slice none 0 0, .slice none 0 0] 32)).alloc (.cells #[.slice none 0 0, .slice none 0 0] 32)).heap.size (((w.alloc (.cells #[va, vb] 27)).alloc (.cells #[.slice none 0 0, .slice none 0 0] 32)).alloc (.cells #[.slice none 0 0, .slice none 0 0] 32))
  have HA : Hid (Dy (((w.alloc (.cells #[va, vb] 27)).alloc (.cells #[.slice none 0 0, .slice none 0 0] 32)).alloc (.cells #[.slice none 0 0, .slice none 0 0] 32)) w.heap.size va vb) := ((Dy.made w va vb 27).on (below_alloc _ _)).on (below_alloc _ _)
  have HU : Hid (Dy (((w.alloc (.cells #[va, vb] 27)).alloc (.cells #[.slice none 0 0, .slice none 0 0] 32)).alloc (.cells #[.slice none 0 0, .slice none 0 0] 32)) (w.heap.size + 1) (.slice none 0 0) (.slice none 0 0)) := by
    have := (Dy.made (w.alloc (.cells #[va, vb] 27)) (.slice none 0 0) (.slice none 0 0) 32).on (below_alloc _ (.cells #[.slice none 0 0, .slice none 0 0] 32))
    rw [World.size_alloc] at this
    exact this
  have HV : Hid (Dy (((w.alloc (.cells #[va, vb] 27)).alloc (.cells #[.slice none 0 0, .slice none 0 0] 32)).alloc (.cells #[.slice none 0 0, .slice none 0 0] 32)) (w.heap.size + 1 + 1) (.slice none 0 0) (.slice none 0 0)) := by
    have := Dy.made ((w.alloc (.cells #[va, vb] 27)).alloc (.cells #[.slice none 0 0, .slice none 0 0] 32)) (.slice none 0 0) (.slice none 0 0) 32
    rw [World.size_alloc, World.size_alloc] at this
    exact this
  have hB0 : Below w.heap.size w (((w.alloc (.cells #[va, vb] 27)).alloc (.cells #[.slice none 0 0, .slice none 0 0] 32)).alloc (.cells #[.slice none 0 0, .slice none 0 0] 32)) := below_then (below_then (below_alloc _ _) _) _
  go_enter Try.func10, Try.ntmps10
  go_wp2_with fail
  refine (toVector_any C _ va xs hl (Nat.le_trans hC hB0.size) (ha.belowW hB0 hC)).mono ?_
  rintro e w1 ⟨a1, c1, rfl, ho1, hb1⟩
  have hB1 := below_seq hB0 hb1
  replace HA : Hid (Dy w1 w.heap.size va vb) := HA.out.on hb1
  replace HU : Hid (Dy w1 (w.heap.size + 1) _ _) := HU.out.on hb1
  replace HV : Hid (Dy w1 (w.heap.size + 1 + 1) _ _) := HV.out.on hb1
  replace HA : Hid (Dy (w1.setCell ⟨w.heap.size + 1 + 1, 0, none⟩ (.slice a1 xs.length c1)) w.heap.size va vb) := HA.out.aside (by omega) _ _
  replace HU : Hid (Dy (w1.setCell ⟨w.heap.size + 1 + 1, 0, none⟩ (.slice a1 xs.length c1)) (w.heap.size + 1) _ _) := HU.out.aside (by omega) _ _
  obtain ⟨⟨v0, v1⟩, hf⟩ := HV.out
  have f0 := hf 0
  replace HV : Hid (Dy (w1.setCell ⟨w.heap.size + 1 + 1, 0, none⟩ (.slice a1 xs.length c1)) (w.heap.size + 1 + 1) (.slice a1 xs.length c1) (.slice none 0 0)) := HV.out.set0 _
  have hP3 : w.heap.size + 1 + 1 + 1 ≤ (w1.setCell ⟨w.heap.size + 1 + 1, 0, none⟩ (.slice a1 xs.length c1)).heap.size := HV.out.lt
  have hBs : Below w.heap.size w (w1.setCell ⟨w.heap.size + 1 + 1, 0, none⟩ (.slice a1 xs.length c1)) := hB1.setCell (by show w.heap.size ≤ w.heap.size + 1 + 1; omega) _
  have ho1s : Own 3 (w1.setCell ⟨w.heap.size + 1 + 1, 0, none⟩ (.slice a1 xs.length c1)) (w.heap.size + 1 + 1 + 1) (.slice a1 xs.length c1) (xs.map (Value.int .i64)) := by
    simp only [World.size_alloc] at ho1
    exact Own.set ho1 _ (by omega)
  clear hb1 hB1 ho1 hB
  obtain ⟨⟨x0, x1⟩, _⟩ := HA.out
  go_wp2_with fail
  refine (toEntryS_any D _ vb ls hl' (Nat.le_trans hD hBs.size) (hb.below (hBs.mono hD))).mono ?_
  clear v0 v1 hf f0
  rintro e w2 ⟨rfl, ho2, hb2⟩
  generalize hg2 : (w1.setCell ⟨w.heap.size + 1 + 1, 0, none⟩ (.slice a1 xs.length c1)).heap.size = g2 at ho2 ⊢
  have hB2 := below_seq hBs hb2
  replace HU : Hid (Dy w2 (w.heap.size + 1) _ _) := HU.out.on hb2
  replace HV : Hid (Dy w2 (w.heap.size + 1 + 1) _ _) := HV.out.on hb2
  have ho1t := ho1s.below hb2 (Nat.le_refl _)
  have hsb : w.heap.size + 1 + 1 + 1 ≤ (w1.setCell ⟨w.heap.size + 1 + 1, 0, none⟩ (.slice a1 xs.length c1)).heap.size := hP3
  have hap : ∀ k, (Value.slice a1 xs.length c1).ownBlock = some k → k ≠ g2 := fun i hi => by
    have := ho1s.blk i hi
    omega
  have ho2t := ho2
  clear ho1s ho2 hP3 hb2 hBs x0 x1 HA
  obtain ⟨⟨v0, v1⟩, hf⟩ := HV.out
  have f1 := hf 1
  have hV3 := HV.out.set1 (.slice (some ⟨g2, 0, none⟩) ls.length ls.length)
  have q0 := hV3.1.1
  have q1 := hV3.1.2
  have hU3 := HU.out.aside (m := w.heap.size + 1 + 1) (by omega) 1 (.slice (some ⟨g2, 0, none⟩) ls.length ls.length)
  have hU4 := (Dy.set1 (Dy.set0 hU3 (.slice a1 xs.length c1)) (.slice (some ⟨g2, 0, none⟩) ls.length ls.length)).1
  clear hU3
  obtain ⟨⟨u0, u1⟩, hg⟩ := HU.out
  have g0 := hg 0
  have g1 := hg 1
  have k1 := Own.setK (Own.setK (Own.setK ho1t (P := w.heap.size + 1 + 1) 1 (.slice (some ⟨g2, 0, none⟩) ls.length ls.length) (by omega)) (P := w.heap.size + 1) 0 (.slice a1 xs.length c1) (by omega)) (P := w.heap.size + 1) 1 (.slice (some ⟨g2, 0, none⟩) ls.length ls.length) (by omega)
  have k2 := ((ho2t.kept (grownBy_set w2 (w.heap.size + 1 + 1) 1 (.slice (some ⟨g2, 0, none⟩) ls.length ls.length)) (fun e => by simp at e; omega)).kept (grownBy_set _ (w.heap.size + 1) 0 (.slice a1 xs.length c1)) (fun e => by simp at e; omega)).kept (grownBy_set _ (w.heap.size + 1) 1 (.slice (some ⟨g2, 0, none⟩) ls.length ls.length)) (fun e => by simp at e; omega)
  have hB4 := ((hB2.setCell (p := ⟨w.heap.size + 1 + 1, 1, none⟩) (by show w.heap.size ≤ w.heap.size + 1 + 1; omega) (.slice (some ⟨g2, 0, none⟩) ls.length ls.length)).setCell (p := ⟨w.heap.size + 1, 0, none⟩) (by show w.heap.size ≤ w.heap.size + 1; omega) (.slice a1 xs.length c1)).setCell (p := ⟨w.heap.size + 1, 1, none⟩) (by show w.heap.size ≤ w.heap.size + 1; omega) (.slice (some ⟨g2, 0, none⟩) ls.length ls.length)
  clear ho1t ho2t hB2 HU HV hV3
  go_wp2_with fail
  refine bodyPost_ret (v := .agg #[.slice a1 xs.length c1, .slice (some ⟨g2, 0, none⟩) ls.length ls.length]) ?_ rfl ⟨_, _, _, rfl, k1.mono (by omega), k2.mono (by omega), hap, hB4⟩
  simp [results, Try.results10, go_sem, hU4.1, hU4.2]

set_option maxHeartbeats 1000000 in
set_option maxRecDepth 100000 in
theorem eqMulti_same (C C' D D' : Nat) (w : World) (va vb va' vb' : Value) (xs : List Int) (ls : List En) (hl : xs.length ≤ 140737488355328) (hl' : ls.length ≤ 140737488355328) (hC : C ≤ w.heap.size) (hC' : C' ≤ w.heap.size) (hD : D ≤ w.heap.size) (hD' : D' ≤ w.heap.size)
    (ha : Rd C w va (xs.map (Value.int .i64))) (hb : RdE D w vb ls) (ha' : Rd C' w va' (xs.map (Value.int .i64))) (hb' : RdE D' w vb' ls) :
    Calls Try.prog 12 #[.agg #[va, vb], .agg #[va', vb']] w fun e w' => e = .returned (.bool true) ∧ Below w.heap.size w w' := by
  have hB0 : Below w.heap.size w ((w.alloc (.cells #[va, vb] 32)).alloc (.cells #[va', vb'] 32)) := below_then (below_alloc _ _) _
  have HA : Hid (Dy ((w.alloc (.cells #[va, vb] 32)).alloc (.cells #[va', vb'] 32)) w.heap.size va vb) := (Dy.made w va vb 32).on (below_alloc _ _)
  have HU : Hid (Dy ((w.alloc (.cells #[va, vb] 32)).alloc (.cells #[va', vb'] 32)) (w.heap.size + 1) va' vb') := by
    have := Dy.made (w.alloc (.cells #[va, vb] 32)) va' vb' 32
    rw [World.size_alloc] at this
    exact this
  go_enter Try.func12, Try.ntmps12
  go_wp2_with fail
  refine (eqVector_same C C' _ va va' xs hl (Nat.le_trans hC hB0.size) (Nat.le_trans hC' hB0.size) (ha.belowW hB0 hC) (ha'.belowW hB0 hC')).mono ?_
  rintro e w1 ⟨rfl, hb1⟩
  have hB1 := below_seq hB0 hb1
  replace HA : Hid (Dy w1 w.heap.size va vb) := HA.out.on hb1
  replace HU : Hid (Dy w1 (w.heap.size + 1) va' vb') := HU.out.on hb1
  obtain ⟨⟨x0, x1⟩, _⟩ := HA.out
  obtain ⟨⟨y0, y1⟩, _⟩ := HU.out
  go_wp2_with fail
  refine (eqEntryS_same D D' _ vb vb' ls hl' (Nat.le_trans hD hB1.size) (Nat.le_trans hD' hB1.size) (hb.below (hB1.mono hD)) (hb'.below (hB1.mono hD'))).mono ?_
  rintro e w2 ⟨rfl, hb2⟩
  go_wp2_with fail
  go_ret
  exact ⟨rfl, below_seq hB1 hb2⟩

set_option maxHeartbeats 1000000 in
set_option maxRecDepth 100000 in
theorem markMulti_any (B D : Nat) (w : World) (a : Option Addr) (n c g m : Nat) (cs : List Value) (ls : List En) (hB : B ≤ w.heap.size) (hm : cs.length ≤ 1048576) (hn : m ≤ 1048576) (ho : Own 3 w B (.slice a n c) cs) (hR : RowE w D g m ls m) (hap : ∀ k, (Value.slice a n c).ownBlock = some k → k ≠ g) :
    Calls Try.prog 13 #[.agg #[.slice a n c, .slice (some ⟨g, 0, none⟩) m m], .int .i64 1] w fun e w' => (∃ x : Int, e = .returned (.int .i64 x) ∧ 0 ≤ x) ∧ (∀ i, i < w.heap.size → (Value.slice a n c).ownBlock ≠ some i → i ≠ g → w'.heap[i]? = w.heap[i]?) ∧ w.heap.size ≤ w'.heap.size ∧ (∀ C, C ≤ B → C ≤ g → C ≤ w.heap.size → Below C w w') := by
  have hB0 := below_alloc w (.cells #[.slice a n c, .slice (some ⟨g, 0, none⟩) m m] 32)
  have ho1 : Own 3 (w.alloc (.cells #[.slice a n c, .slice (some ⟨g, 0, none⟩) m m] 32)) B (.slice a n c) cs := World.ownsRow.alloc ho _
  have hR1 := hR.on hB0
  have hD := Dy.made w (.slice a n c) (.slice (some ⟨g, 0, none⟩) m m) 32
  have hblk := ho.blk
  have hlg := hR.lt.2
  go_enter Try.func13, Try.ntmps13
  go_wp2_with fail
  refine (markVector_any B _ a n c cs 1 (by omega) (by omega) (by simp; omega) ho1).mono ?_
  rintro e w1 ⟨rfl, _, hb1, hg1⟩
  have hne : (Value.slice a n c).ownBlock ≠ some w.heap.size := fun e => by have := hblk _ e; omega
  have c0 := hg1.cell (a := ⟨w.heap.size, 0, none⟩) hD.1.1 (fun e => hne e.symm)
  have c1 := hg1.cell (a := ⟨w.heap.size, 1, none⟩) hD.1.2 (fun e => hne e.symm)
  have hR2 := hR1.kept hg1 (fun e => hap g e rfl)
  clear ho1 hR1 hD
  go_wp2_with fail
  refine (markEntryS_any D g m w1 ls m (1 + cs.length) hn (by omega) hR2).mono ?_
  rintro e w2 ⟨rfl, _, hg2⟩
  have hz1 := hg1.size
  rw [World.size_alloc] at hz1
  have hz2 := hg2.size
  have hfin : ∀ i, i < w.heap.size → (Value.slice a n c).ownBlock ≠ some i → i ≠ g → w2.heap[i]? = w.heap[i]? := fun i hi h1 h2 => ((hg2.block i (by omega) (fun e => h2 (by simpa using e))).trans (hg1.block i (by rw [World.size_alloc]; omega) (fun e => h1 e.symm))).trans (hB0.block i hi)
  have hBel : ∀ C, C ≤ B → C ≤ g → C ≤ w.heap.size → Below C w w2 := fun C h1 h2 h3 => ((hB0.mono h3).grown hg1 (by rw [World.size_alloc]; omega) (fun k hk => by have := ho.lt k hk; omega)).grown hg2 (by omega) (fun k hk => by cases hk; exact h2)
  clear hR2 c0 c1
  go_wp2_with fail
  go_ret
  exact ⟨⟨_, rfl, by omega⟩, hfin, by omega, hBel⟩

set_option maxHeartbeats 1000000 in
set_option maxRecDepth 100000 in
theorem szMulti_any (C : Nat) (w : World) (ao : Option Addr) (n cap : Nat) (ve : Value) (ls : List En) (hn : n ≤ maxLen) (hl : ls.length ≤ 9223372036854775807) (hs : ∀ k, (enAt ls k).2.2.size ≤ 9223372036854775807) (hC : C ≤ w.heap.size) (hr : RdE C w ve ls) :
    Calls Try.prog 8 #[.agg #[.slice ao n cap, ve], .int .i64 1048576] w fun e w' => (∃ x : Int, e = .returned (.int .i64 x) ∧ (0 ≤ x → n ≤ 1048576 ∧ ls.length ≤ 1048576)) ∧ Below w.heap.size w w' := by
  have hB0 := below_alloc w (.cells #[.slice ao n cap, ve] 27)
  have hD := Dy.made w (.slice ao n cap) ve 27
  have hve := hr
  obtain ⟨eo, ec, rfl, _⟩ := hve
  go_enter Try.func8, Try.ntmps8
  go_wp2_with fail
  refine (szVector_any ao n cap 1048576 (by omega) hn _).mono ?_
  by_cases h : n ≤ 1048576
  · rw [if_pos h]
    rintro e w1 ⟨rfl, hb1⟩
    have hB1 := below_seq hB0 hb1
    obtain ⟨⟨c0, c1⟩, _⟩ := Dy.on hD hb1
    obtain ⟨l, hl0⟩ : ∃ l : Int, ((1048576 - n : Nat) : Int) = l := ⟨_, rfl⟩
    have hl1 : 0 ≤ l := by omega
    have hl2 : l ≤ 1048576 := by omega
    rw [hl0]
    have hd : decide (l < 0) = false := by simp; omega
    clear hl0
    go_wp2_with fail
    refine (szEntryS_any C w1 _ ls l hl1 hl2 hl hs (Nat.le_trans hC hB1.size) (hr.below (hB1.mono hC))).mono ?_
    rintro e w2 ⟨⟨x, rfl, x0, x1, hx⟩, hb2⟩
    by_cases hx0 : x < 0
    · go_wp2_with fail
      go_ret
      exact ⟨⟨_, rfl, by omega⟩, below_seq hB1 hb2⟩
    · have hx2 : decide (x < 0) = false := by simp; omega
      have hx1 := hx (by omega)
      have hx3 : 0 ≤ x := by omega
      clear hx0
      go_wp2_with fail
      go_ret
      exact ⟨⟨_, rfl, fun _ => ⟨h, hx1⟩⟩, below_seq hB1 hb2⟩
  · rw [if_neg h]
    rintro e w1 ⟨rfl, hb1⟩
    go_wp2_with fail
    go_ret
    exact ⟨⟨_, rfl, by omega⟩, below_seq hB0 hb1⟩

end Go.Proofs.Ytdkfeabpnikedaa

namespace Go.Proofs.Ytdkfeabpnikedaa
open Go.RowKit
set_option linter.unusedVariables false

theorem toMulti_sv (C D : Nat) (w : World) (va vb : Value) (xs : List Int) (ls : List En) (hl : xs.length ≤ 1048576) (hl' : ls.length ≤ 1048576) (hC : C ≤ w.heap.size) (hD : D ≤ w.heap.size) (ha : Rd C w va (xs.map (Value.int .i64))) (hb : RdE D w vb ls) :
    Calls Try.prog 10 #[.agg #[va, vb]] w fun e w' => ∃ a n c b m d, e = .returned (.agg #[.slice a n c, .slice b m d]) ∧ Sv w' w.heap.size w'.heap.size (.slice a n c) (.slice b m d) xs ls ∧ Below w.heap.size w w' := by
  refine (toMulti_any C D w va vb xs ls hl hl' hC hD ha hb).mono ?_
  rintro e w' ⟨a, c, g, rfl, ho, hR, hap, hB⟩
  refine ⟨a, _, c, _, _, _, rfl, ⟨3, ho, hR.own rfl, fun i j hi hj e => hap i hi (by subst e; simpa [Value.ownBlock] using hj.symm), ho.blk, fun i hi => ?_⟩, hB⟩
  have : g = i := by simpa [Value.ownBlock] using hi
  subst this
  exact hR.lt.2

theorem eqMulti_sv (w : World) (B E B' E' : Nat) (va vb va' vb' : Value) (xs : List Int) (ls : List En) (hl : xs.length ≤ 140737488355328) (hl' : ls.length ≤ 140737488355328) (h : Sv w B E va vb xs ls) (h' : Sv w B' E' va' vb' xs ls) :
    Calls Try.prog 12 #[.agg #[va, vb], .agg #[va', vb']] w fun e w' => e = .returned (.bool true) ∧ Below w.heap.size w w' :=
  eqMulti_same _ _ _ _ w va vb va' vb' xs ls hl hl' (Nat.le_refl _) (Nat.le_refl _) (Nat.le_refl _) (Nat.le_refl _) h.rd h.rdE h'.rd h'.rdE

set_option maxHeartbeats 1000000 in
set_option maxRecDepth 100000 in
theorem markMulti_sv (B E : Nat) (w : World) (a : Option Addr) (n c : Nat) (b : Option Addr) (m d : Nat) (xs : List Int) (ls : List En) (hB : B ≤ w.heap.size) (hE : E ≤ w.heap.size) (hm : xs.length ≤ 1048576) (hn : ls.length ≤ 1048576) (h : Sv w B E (.slice a n c) (.slice b m d) xs ls) :
    Calls Try.prog 13 #[.agg #[.slice a n c, .slice b m d], .int .i64 1] w fun e w' => e = .returned (.int .i64 ((1 + xs.length + 3 * ls.length : Nat) : Int)) ∧ Sv w' B E (.slice a n c) (.slice b m d) (marksI 1 xs.length) (marksE (1 + xs.length) ls.length) ∧ Away w w' B E ∧ Below B w w' := by
  obtain ⟨T, ho, hR, hap, hu, hv⟩ := h
  have hB0 := below_alloc w (.cells #[.slice a n c, .slice b m d] 32)
  have ho1 : Own T (w.alloc (.cells #[.slice a n c, .slice b m d] 32)) B (.slice a n c) (xs.map (Value.int .i64)) := World.ownsRow.alloc ho _
  have hR1 : OwnE (w.alloc (.cells #[.slice a n c, .slice b m d] 32)) B (.slice b m d) ls := World.ownsRow.alloc hR _
  have hD := Dy.made w (.slice a n c) (.slice b m d) 32
  have hblk := ho.blk
  have hlo := ho.lt
  have hlE := hR.lt
  go_enter Try.func13, Try.ntmps13
  go_wp2_with fail
  refine (markVector_any B _ a n c _ 1 (by simp; omega) (by omega) (by simp; omega) ho1).mono ?_
  rintro e w1 ⟨rfl, ho2, hb1, hg1⟩
  rw [List.length_map] at ho2 ⊢
  have hne : (Value.slice a n c).ownBlock ≠ some w.heap.size := fun e => by have := hblk _ e; omega
  have c0 := hg1.cell (a := ⟨w.heap.size, 0, none⟩) hD.1.1 (fun e => hne e.symm)
  have c1 := hg1.cell (a := ⟨w.heap.size, 1, none⟩) hD.1.2 (fun e => hne e.symm)
  have hR2 : OwnE w1 B (.slice b m d) ls := World.ownsRow.kept hR1 hg1 (by
    cases hv : (Value.slice b m d).ownBlock with
    | none => exact .inl rfl
    | some j => exact .inr (fun e => hap j j e.symm hv rfl))
  clear ho1 hR1 hD
  go_wp2_with fail
  refine (markEntryS_own B w1 _ ls (1 + xs.length) hn (by omega) hR2).mono ?_
  rintro e w2 ⟨rfl, hR3, hg2⟩
  have ho3 : Own T w2 B (.slice a n c) ((marksI 1 xs.length).map (Value.int .i64)) := World.ownsRow.kept ho2 hg2 (by
    cases hv : (Value.slice a n c).ownBlock with
    | none => exact .inl rfl
    | some j => exact .inr (fun e => hap j j hv e.symm rfl))
  have hz1 := hg1.size
  rw [World.size_alloc] at hz1
  have hz2 := hg2.size
  have hfin : ∀ i, i < w.heap.size → i < B ∨ E ≤ i → w2.heap[i]? = w.heap[i]? := fun i hi h1 => ((hg2.block i (by omega) (fun e => by have := hlE i e.symm; have := hv i e.symm; omega)).trans (hg1.block i (by rw [World.size_alloc]; omega) (fun e => by have := hlo i e.symm; have := hu i e.symm; omega))).trans (hB0.block i hi)
  have hBel : Below B w w2 := ((hB0.mono hB).grown hg1 (by rw [World.size_alloc]; omega) (fun k hk => hlo k hk)).grown hg2 (by omega) (fun k hk => (hlE k hk).1)
  clear hR2 c0 c1
  go_wp2_with fail
  go_ret
  exact ⟨rfl, ⟨T, ho3, hR3, hap, hu, hv⟩, ⟨by omega, hfin⟩, hBel⟩

set_option maxHeartbeats 1000000 in
set_option maxRecDepth 100000 in
theorem heldMulti_sv (B E : Nat) (w : World) (a : Option Addr) (n c : Nat) (b : Option Addr) (m d : Nat) (k j : Nat) (hk : k ≤ 1048576) (hj : j ≤ 1048576) (h : Sv w B E (.slice a n c) (.slice b m d) (marksI 1 k) (marksE (1 + k) j)) :
    Calls Try.prog 14 #[.agg #[.slice a n c, .slice b m d], .int .i64 1] w fun e w' => e = .returned (.int .i64 ((1 + k + 3 * j : Nat) : Int)) ∧ Below w.heap.size w w' := by
  have h1 : ¬ ((1 + k : Nat) : Int) < 0 := by omega
  have h2 : ¬ ((1 + k + 3 * j : Nat) : Int) < 0 := by omega
  have hB0 := below_alloc w (.cells #[.slice a n c, .slice b m d] 32)
  have hr := heldVector_same w.heap.size _ (.slice a n c) 1 k (by omega) (by omega) (by simp) (h.rd.alloc (.cells #[.slice a n c, .slice b m d] 32) (Nat.le_refl _))
  have hE := h.rdE
  go_enter Try.func14, Try.ntmps14
  go_wp2_with fail
  refine hr.mono ?_
  rintro e w1 ⟨rfl, hb1⟩
  obtain ⟨c0, c1⟩ := two_cells hb1
  have hB1 := below_seq hB0 hb1
  go_wp2_with fail
  refine (heldEntryS_same w.heap.size w1 _ (1 + k) j hj (by omega) hB1.size (hE.below hB1)).mono ?_
  rintro e w2 ⟨rfl, hb2⟩
  go_wp2_with fail
  go_ret
  exact ⟨rfl, below_seq hB1 hb2⟩

end Go.Proofs.Ytdkfeabpnikedaa

namespace Go.Proofs.Ytdkfeabpnikedaa
open Go.RowKit
set_option linter.unusedVariables false

set_option maxHeartbeats 4000000 in
set_option maxRecDepth 100000 in
theorem markEntryF_big (B g n c : Nat) (w : World) (ls : List En) (k0 q : Nat) (hn : n ≤ 1048576) (hq : q ≤ 16777216) (hR : RowF w B g n c ls k0) :
    Calls Try.prog 43 #[.slice (some ⟨g, 0, none⟩) n c, .int .i64 (q : Int)] w fun e w' => e = .returned (.int .i64 ((q + 3 * n : Nat) : Int)) ∧ RowF w' B g n c (marksE q n) n ∧ w.grownBy w' (some g) := by
  have HR0 : Hid (RowF w B g n c (marksE q n) 0) := hR.fresh
  clear hR
  go_enter Try.func43, Try.ntmps43
  go_wp2_with fail
  go_loopw [1, 5] (fun tq ti wr => ∃ k : Nat, k ≤ n ∧ ti = .int .i64 (k : Int) ∧ tq = .int .i64 ((q + 3 * k : Nat) : Int) ∧ Hid (RowF wr B g n c (marksE q n) k) ∧ w.grownBy wr (some g)) (fun _ ti _ => n - (intOf ti).toNat)
  case atStart => exact ⟨0, Nat.zero_le _, rfl, rfl, HR0, World.grownBy.refl _ _⟩
  case round =>
    clear HR0
    obtain ⟨k, hk, rfl, rfl, HR, hG⟩ := hrel
    by_cases hlt : k < n
    · have j0 : (0 : Int) ≤ (k : Int) := by omega
      have j1 : (k : Int) < (n : Int) := by omega
      have j2 : (k : Int) + 1 < 9223372036854775808 := by omega
      have hat := marksE_at (q := q) hlt
      have h2 := RowF.two HR.out hlt
      have HPP : Hid (∀ {w'}, RowG w' B g n c (marksE q n) k → RowF (w'.setCell ⟨g, k * 3 + 2, none⟩ (.string (enAt (marksE q n) k).2.2)) B g n c (marksE q n) (k + 1)) := fun h => h.put hlt
      rw [hat] at h2 HPP
      have hq2 : ((q + 3 * k + 1 : Nat) : Int) = ((q + 3 * k : Nat) : Int) + 1 := by omega
      have hT := fun w => markText_any (q + 3 * k + 2) (by omega) w
      have hq3 : ((q + 3 * k + 2 : Nat) : Int) = ((q + 3 * k : Nat) : Int) + 1 + 1 := by omega
      have HQ : Hid (((q + 3 * (k + 1) : Nat) : Int) = ((q + 3 * k : Nat) : Int) + 1 + 1 + 1) := by show _ = _; omega
      rw [hq3] at hT
      simp only [hq2] at h2
      have hm0 : ((q + 3 * k : Nat) : Int) + 1 + 1 + 1 < 9223372036854775808 := by omega
      obtain ⟨x, hx⟩ : ∃ x : Int, ((q + 3 * k : Nat) : Int) = x := ⟨_, rfl⟩
      have hx0 : 0 ≤ x := by omega
      simp only [hx] at h2 hT HQ hm0 ⊢
      obtain ⟨u, v, z, c0, c1, c2, f0, f1, f2⟩ := RowF.cells HR.out hlt
      have H2 : Hid _ := h2
      have HT : Hid (mt (q + 3 * k + 2) = mt (q + 3 * k + 2)) := rfl
      have hG2 : w.grownBy ((wr.setCell ⟨g, k * 3, none⟩ (.int .i64 x)).setCell ⟨g, k * 3 + 1, none⟩ (.int .i64 (x + 1))) (some g) := grownBy_trans (grownBy_trans hG (grownBy_set wr g (k * 3) _)) (grownBy_set _ g (k * 3 + 1) _)
      clear hat hq2 hq3 hx h2 hG HR
      go_wp2_with fail
      refine (hT _).mono ?_
      rintro e w3 ⟨rfl, hb3⟩
      have hP3 := RowG.on H2.out hb3
      obtain ⟨z3, y0, y1⟩ := RowG.cell hP3 hlt
      have hG3 := grownBy_trans hG2 (grownBy_below hb3 (Nat.le_refl _) (some g))
      have HR4 := HPP.out hP3
      have hG4 := grownBy_trans hG3 (grownBy_set w3 g (k * 3 + 2) (.string (mt (q + 3 * k + 2))))
      clear hP3 hb3 hG2 hG3 H2 HPP hT
      go_wp2_with fail
      go_roundw
      case rel => exact ⟨k + 1, by omega, by go_num, by rw [HQ.out], HR4, hG4⟩
      case measure => simp [intOf]; omega
    · obtain rfl : k = n := by omega
      go_wp2_with fail
      go_ret
      exact ⟨rfl, HR.out, hG⟩

set_option maxHeartbeats 1000000 in
set_option maxRecDepth 100000 in
theorem markEntryS_big (B : Nat) (w : World) (v : Value) (ls : List En) (q : Nat) (hn : ls.length ≤ 1048576) (hq : q ≤ 16777216) (ho : OwnE w B v ls) :
    Calls Try.prog 43 #[v, .int .i64 (q : Int)] w fun e w' => e = .returned (.int .i64 ((q + 3 * ls.length : Nat) : Int)) ∧ OwnE w' B v (marksE q ls.length) ∧ w.grownBy w' v.ownBlock := by
  rcases ownE_shape ho with ⟨rfl, rfl⟩ | ⟨g, c, rfl, _, hlt⟩
  · have ho' : OwnE w B (.slice none 0 0) (marksE q ([] : List En).length) := ho
    clear ho
    go_enter Try.func43, Try.ntmps43
    go_wp2_with fail
    go_loopw [1, 5] (fun tq ti wr => ti = .int .i64 0 ∧ tq = .int .i64 (q : Int) ∧ wr = w) (fun _ ti _ => 0)
    case atStart => exact ⟨rfl, rfl, rfl⟩
    case round =>
      obtain ⟨rfl, rfl, rfl⟩ := hrel
      go_wp2_with fail
      go_ret
      exact ⟨by simp, ho', World.grownBy.refl _ _⟩
  · refine (markEntryF_big B g ls.length c w ls ls.length q hn hq (rowF_of ho rfl)).mono ?_
    rintro e w' ⟨rfl, hR, hg⟩
    exact ⟨rfl, hR.own (marksE_len _ _).symm, hg⟩

end Go.Proofs.Ytdkfeabpnikedaa
