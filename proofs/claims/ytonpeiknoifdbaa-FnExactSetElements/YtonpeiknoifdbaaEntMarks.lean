/- The laws' own functions over lists of entries: that two alike are alike, their size, and the writing over. -/
import Derived.Test.YtonpeiknoifdbaaEntCells
namespace Go.Proofs.Ytonpeiknoifdbaa
open Go.RowKit
set_option linter.unusedVariables false

set_option maxHeartbeats 2000000 in
set_option maxRecDepth 100000 in
theorem eqEntryS_same (C C' : Nat) (w : World) (va vb : Value) (ls : List En) (hl : ls.length ≤ 140737488355328) (hC : C ≤ w.heap.size) (hC' : C' ≤ w.heap.size) (ha : RdE C w va ls) (hb : RdE C' w vb ls) :
    Calls Try.prog 72 #[va, vb] w fun e w' => e = .returned (.bool true) ∧ Below w.heap.size w w' := by
  obtain ⟨ao, ca, rfl, ha⟩ := ha
  obtain ⟨bo, cb, rfl, hb⟩ := hb
  go_enter Try.func72, Try.ntmps72
  go_wp2_with fail
  go_loopw [5] (fun ti wr => ∃ k : Nat, k ≤ ls.length ∧ ti = .int .i64 (k : Int) ∧ Below w.heap.size w wr) (fun ti _ => ls.length - (intOf ti).toNat)
  case atStart => exact ⟨0, Nat.zero_le _, rfl, Below.refl _ _⟩
  case round =>
    obtain ⟨k, hk, rfl, hB⟩ := hrel
    by_cases hlt : k < ls.length
    · obtain ⟨g, off, rfl, hg, hc⟩ := ha (by omega)
      obtain ⟨g', off', rfl, hg', hc'⟩ := hb (by omega)
      have d0 : wr.cell? ⟨g, off + k * 3, none⟩ = _ := (hB.cell (p := ⟨g, off + k * 3, none⟩) (by show g < _; omega)).trans (hc k hlt).1
      have d1 : wr.cell? ⟨g, off + k * 3 + 1, none⟩ = _ := (hB.cell (p := ⟨g, off + (k * 3 + 1), none⟩) (by show g < _; omega)).trans (hc k hlt).2.1
      have d2 : wr.cell? ⟨g, off + k * 3 + 2, none⟩ = _ := (hB.cell (p := ⟨g, off + (k * 3 + 2), none⟩) (by show g < _; omega)).trans (hc k hlt).2.2
      have b0 : wr.cell? ⟨g', off' + k * 3, none⟩ = _ := (hB.cell (p := ⟨g', off' + k * 3, none⟩) (by show g' < _; omega)).trans (hc' k hlt).1
      have b1 : wr.cell? ⟨g', off' + k * 3 + 1, none⟩ = _ := (hB.cell (p := ⟨g', off' + (k * 3 + 1), none⟩) (by show g' < _; omega)).trans (hc' k hlt).2.1
      have b2 : wr.cell? ⟨g', off' + k * 3 + 2, none⟩ = _ := (hB.cell (p := ⟨g', off' + (k * 3 + 2), none⟩) (by show g' < _; omega)).trans (hc' k hlt).2.2
      have j0 : (0 : Int) ≤ (k : Int) := by omega
      have j1 : (k : Int) < (ls.length : Int) := by omega
      have j2 : (k : Int) + 1 < 9223372036854775808 := by omega
      generalize (enAt ls k).1 = t at d0 b0
      generalize (enAt ls k).2.1 = a at d1 b1
      generalize (enAt ls k).2.2 = s at d2 b2
      clear hc hc' ha hb
      go_wp2_with fail
      go_region_held2 (fun w' => w'.cell? ⟨g, off + k * 3, none⟩ = some (.int .i64 t) ∧ w'.cell? ⟨g, off + k * 3 + 1, none⟩ = some (.int .i64 a) ∧ w'.cell? ⟨g, off + k * 3 + 2, none⟩ = some (.string s) ∧ w'.cell? ⟨g', off' + k * 3, none⟩ = some (.int .i64 t) ∧ w'.cell? ⟨g', off' + k * 3 + 1, none⟩ = some (.int .i64 a) ∧ w'.cell? ⟨g', off' + k * 3 + 2, none⟩ = some (.string s)) (exact ⟨d0, d1, d2, b0, b1, b2⟩) ((go_at_call 90; refine (eqEntry_same t a s _).mono ?_; rintro e w' ⟨rfl, hb⟩; replace d0 := cell_on hb d0; replace d1 := cell_on hb d1; replace d2 := cell_on hb d2; replace b0 := cell_on hb b0; replace b1 := cell_on hb b1; replace b2 := cell_on hb b2; replace hB := below_seq hB.drew hb; clear hb))
      go_wp2_with fail
      go_roundw
      case rel => exact ⟨k + 1, by omega, by go_num, hB⟩
      case measure => simp [intOf]; omega
    · obtain rfl : k = ls.length := by omega
      go_wp2_with fail
      go_ret
      exact ⟨rfl, hB⟩

set_option maxHeartbeats 1000000 in
theorem szEntry_any (t a : Int) (s : ByteArray) (l : Int) (h0 : 0 ≤ l) (h1 : l ≤ 1048576) (hs : s.size ≤ 9223372036854775807) (w : World) :
    Calls Try.prog 85 #[.agg #[.int .i64 t, .int .i64 a, .string s], .int .i64 l] w fun e w' => (∃ x : Int, e = .returned (.int .i64 x) ∧ -1 ≤ x ∧ x ≤ l ∧ (0 ≤ x → (s.size : Int) ≤ 1048576)) ∧ Below w.heap.size w w' := by
  by_cases h : l - (s.size : Int) < 0
  · go_enter Try.func85, Try.ntmps85
    go_wp2_with fail
    go_ret
    exact ⟨⟨_, rfl, by omega, by omega, by omega⟩, below_alloc _ _⟩
  · replace h : ¬ l - (s.size : Int) < 0 := h
    go_enter Try.func85, Try.ntmps85
    go_wp2_with fail
    go_ret
    exact ⟨⟨_, rfl, by omega, by omega, by omega⟩, below_alloc _ _⟩

set_option maxHeartbeats 2000000 in
set_option maxRecDepth 100000 in
theorem szEntryS_any (C : Nat) (w : World) (v : Value) (ls : List En) (l : Int) (h0 : 0 ≤ l) (h1 : l ≤ 1048576) (hn : ls.length ≤ 9223372036854775807) (hs : ∀ k, (enAt ls k).2.2.size ≤ 9223372036854775807) (hC : C ≤ w.heap.size) (hr : RdE C w v ls) :
    Calls Try.prog 66 #[v, .int .i64 l] w fun e w' => (∃ x : Int, e = .returned (.int .i64 x) ∧ -1 ≤ x ∧ x ≤ 1048576 ∧ (0 ≤ x → ls.length ≤ 1048576)) ∧ Below w.heap.size w w' := by
  obtain ⟨ao, cap, rfl, hr⟩ := hr
  by_cases h : l - (ls.length : Int) < 0
  · go_enter Try.func66, Try.ntmps66
    go_wp2_with fail
    go_ret
    exact ⟨⟨_, rfl, by omega, by omega, by omega⟩, Below.refl _ _⟩
  · have hlen : ls.length ≤ 1048576 := by omega
    go_enter Try.func66, Try.ntmps66
    go_wp2_with fail
    go_loopw [1, 5] (fun tl ti wr => ∃ (k : Nat) (x : Int), k ≤ ls.length ∧ ti = .int .i64 (k : Int) ∧ tl = .int .i64 x ∧ 0 ≤ x ∧ x ≤ 1048576 ∧ Below w.heap.size w wr) (fun _ ti _ => ls.length - (intOf ti).toNat)
    case atStart => exact ⟨0, _, Nat.zero_le _, rfl, rfl, by omega, by omega, Below.refl _ _⟩
    case round =>
      obtain ⟨k, x, hk, rfl, rfl, x0, x1, hB⟩ := hrel
      by_cases hlt : k < ls.length
      · obtain ⟨g, off, rfl, hg, hc⟩ := hr (by omega)
        have d0 : wr.cell? ⟨g, off + k * 3, none⟩ = _ := (hB.cell (p := ⟨g, off + k * 3, none⟩) (by show g < _; omega)).trans (hc k hlt).1
        have d1 : wr.cell? ⟨g, off + k * 3 + 1, none⟩ = _ := (hB.cell (p := ⟨g, off + (k * 3 + 1), none⟩) (by show g < _; omega)).trans (hc k hlt).2.1
        have d2 : wr.cell? ⟨g, off + k * 3 + 2, none⟩ = _ := (hB.cell (p := ⟨g, off + (k * 3 + 2), none⟩) (by show g < _; omega)).trans (hc k hlt).2.2
        have j0 : (0 : Int) ≤ (k : Int) := by omega
        have j1 : (k : Int) < (ls.length : Int) := by omega
        have j2 : (k : Int) + 1 < 9223372036854775808 := by omega
        have hsk := hs k
        generalize (enAt ls k).1 = t at d0
        generalize (enAt ls k).2.1 = a at d1
        generalize (enAt ls k).2.2 = s at d2 hsk
        clear hc hr hs
        go_wp2_with fail
        refine (szEntry_any t a s x x0 x1 hsk _).mono ?_
        rintro e w2 ⟨⟨y, rfl, y0, y1, _⟩, hb2⟩
        replace hB := below_seq hB hb2
        by_cases hy : y < 0
        · go_wp2_with fail
          go_ret
          exact ⟨⟨_, rfl, by omega, by omega, by omega⟩, hB⟩
        · have hy0 : decide (y < 0) = false := by simp; omega
          have hy1 : 0 ≤ y := by omega
          clear hy
          go_wp2_with fail
          go_roundw
          case rel => exact ⟨k + 1, y, by omega, by go_num, rfl, by omega, by omega, hB⟩
          case measure => simp [intOf]; omega
      · obtain rfl : k = ls.length := by omega
        go_wp2_with fail
        go_ret
        exact ⟨⟨_, rfl, by omega, by omega, fun _ => hlen⟩, hB⟩

/-- What is written over n entries, from q on. -/
def marksE (q n : Nat) : List En := (List.range n).map fun i => (((q + 3 * i : Nat) : Int), ((q + 3 * i + 1 : Nat) : Int), mt (q + 3 * i + 2))
theorem marksE_at {q n k : Nat} (h : k < n) : enAt (marksE q n) k = (((q + 3 * k : Nat) : Int), ((q + 3 * k + 1 : Nat) : Int), mt (q + 3 * k + 2)) := by simp [enAt, marksE, h]
theorem marksE_len (q n : Nat) : (marksE q n).length = n := by simp [marksE]

/-- A row of entries, of the k-th of which the numbers are written already. -/
def RowP (w : World) (B g n : Nat) (ls : List En) (k : Nat) : Prop :=
  ∃ xs, w.ownsRow B 106 3 (.slice (some ⟨g, 0, none⟩) n n) n xs ∧ (∀ j, j < k → xs[j * 3]? = some (.int .i64 (enAt ls j).1) ∧ xs[j * 3 + 1]? = some (.int .i64 (enAt ls j).2.1) ∧ xs[j * 3 + 2]? = some (.string (enAt ls j).2.2)) ∧ xs[k * 3]? = some (.int .i64 (enAt ls k).1) ∧ xs[k * 3 + 1]? = some (.int .i64 (enAt ls k).2.1)
theorem RowE.two {w : World} {B g n : Nat} {ls : List En} {k : Nat} (h : RowE w B g n ls k) (hk : k < n) :
    RowP ((w.setCell ⟨g, k * 3, none⟩ (.int .i64 (enAt ls k).1)).setCell ⟨g, k * 3 + 1, none⟩ (.int .i64 (enAt ls k).2.1)) B g n ls k := by
  obtain ⟨xs, ho, hx⟩ := h
  have hl := ho.1
  refine ⟨_, (World.ownsRow.stored (World.ownsRow.stored ho (k * 3) _).1 (k * 3 + 1) _).1, fun j hj => ?_, ?_, ?_⟩
  · have := hx j hj
    refine ⟨?_, ?_, ?_⟩
    · rw [List.getElem?_set_ne (by omega), List.getElem?_set_ne (by omega)]; exact this.1
    · rw [List.getElem?_set_ne (by omega), List.getElem?_set_ne (by omega)]; exact this.2.1
    · rw [List.getElem?_set_ne (by omega), List.getElem?_set_ne (by omega)]; exact this.2.2
  · rw [List.getElem?_set_ne (by omega), List.getElem?_set_self (by omega)]
  · rw [List.getElem?_set_self (by rw [List.length_set]; omega)]
theorem RowP.on {w w' : World} {B g n : Nat} {ls : List En} {k : Nat} (h : RowP w B g n ls k) (hb : Below w.heap.size w w') : RowP w' B g n ls k := by
  obtain ⟨xs, ho, hx⟩ := h
  exact ⟨xs, ho.kept (grownBy_below hb (Nat.le_refl _) none) (by simp [Value.ownBlock]), hx⟩
theorem RowP.cell {w : World} {B g n : Nat} {ls : List En} {k : Nat} (h : RowP w B g n ls k) (hk : k < n) : ∃ z, w.cell? ⟨g, k * 3 + 2, none⟩ = some z ∧ w.frozen? ⟨g, k * 3 + 2, none⟩ = false := by
  obtain ⟨xs, ho, _⟩ := h
  have hl := ho.1
  have h2 : k * 3 + 2 < xs.length := by omega
  exact ⟨xs[k * 3 + 2], by rw [World.ownsRow.cellAt ho _ (by omega), List.getElem?_eq_getElem h2], World.ownsRow.frozenAt ho _⟩
theorem RowP.put {w : World} {B g n : Nat} {ls : List En} {k : Nat} (h : RowP w B g n ls k) (hk : k < n) : RowE (w.setCell ⟨g, k * 3 + 2, none⟩ (.string (enAt ls k).2.2)) B g n ls (k + 1) := by
  obtain ⟨xs, ho, hx, h0, h1⟩ := h
  have hl := ho.1
  refine ⟨_, (World.ownsRow.stored ho (k * 3 + 2) _).1, fun j hj => ?_⟩
  by_cases e : j = k
  · subst e
    refine ⟨?_, ?_, ?_⟩
    · rw [List.getElem?_set_ne (by omega)]; exact h0
    · rw [List.getElem?_set_ne (by omega)]; exact h1
    · rw [List.getElem?_set_self (by omega)]
  · have := hx j (by omega)
    refine ⟨?_, ?_, ?_⟩
    · rw [List.getElem?_set_ne (by omega)]; exact this.1
    · rw [List.getElem?_set_ne (by omega)]; exact this.2.1
    · rw [List.getElem?_set_ne (by omega)]; exact this.2.2

set_option maxHeartbeats 4000000 in
set_option maxRecDepth 100000 in
theorem markEntryS_any (B g n : Nat) (w : World) (ls : List En) (k0 q : Nat) (hn : n ≤ 1048576) (hq : q ≤ 2097152) (hR : RowE w B g n ls k0) :
    Calls Try.prog 73 #[.slice (some ⟨g, 0, none⟩) n n, .int .i64 (q : Int)] w fun e w' => e = .returned (.int .i64 ((q + 3 * n : Nat) : Int)) ∧ RowE w' B g n (marksE q n) n ∧ w.grownBy w' (some g) := by
  have HR0 : Hid (RowE w B g n (marksE q n) 0) := hR.fresh
  clear hR
  go_enter Try.func73, Try.ntmps73
  go_wp2_with fail
  go_loopw [1, 5] (fun tq ti wr => ∃ k : Nat, k ≤ n ∧ ti = .int .i64 (k : Int) ∧ tq = .int .i64 ((q + 3 * k : Nat) : Int) ∧ Hid (RowE wr B g n (marksE q n) k) ∧ w.grownBy wr (some g)) (fun _ ti _ => n - (intOf ti).toNat)
  case atStart => exact ⟨0, Nat.zero_le _, rfl, rfl, HR0, World.grownBy.refl _ _⟩
  case round =>
    clear HR0
    obtain ⟨k, hk, rfl, rfl, HR, hG⟩ := hrel
    by_cases hlt : k < n
    · have j0 : (0 : Int) ≤ (k : Int) := by omega
      have j1 : (k : Int) < (n : Int) := by omega
      have j2 : (k : Int) + 1 < 9223372036854775808 := by omega
      have hat := marksE_at (q := q) hlt
      have h2 := RowE.two HR.out hlt
      have HPP : Hid (∀ {w'}, RowP w' B g n (marksE q n) k → RowE (w'.setCell ⟨g, k * 3 + 2, none⟩ (.string (enAt (marksE q n) k).2.2)) B g n (marksE q n) (k + 1)) := fun h => h.put hlt
      rw [hat] at h2 HPP
      have hq2 : ((q + 3 * k + 1 : Nat) : Int) = ((q + 3 * k : Nat) : Int) + 1 := by omega
      have hT := fun w => markText_any (q + 3 * k + 2) (by omega) w
      have hq3 : ((q + 3 * k + 2 : Nat) : Int) = ((q + 3 * k : Nat) : Int) + 1 + 1 := by omega
      have HQ : Hid (((q + 3 * (k + 1) : Nat) : Int) = ((q + 3 * k : Nat) : Int) + 1 + 1 + 1) := by show _ = _; omega
      rw [hq3] at hT
      simp only [hq2] at h2
      have hm0 : ((q + 3 * k : Nat) : Int) + 1 + 1 + 1 < 9223372036854775808 := by omega
      obtain ⟨x, hx⟩ : ∃ x : Int, ((q + 3 * k : Nat) : Int) = x := ⟨_, rfl⟩
      have hx0 : 0 ≤ x := by omega
      simp only [hx] at h2 hT HQ hm0 ⊢
      obtain ⟨u, v, z, c0, c1, c2, f0, f1, f2⟩ := RowE.cells HR.out hlt
      have H2 : Hid _ := h2
      have HT : Hid (mt (q + 3 * k + 2) = mt (q + 3 * k + 2)) := rfl
      have hG2 : w.grownBy ((wr.setCell ⟨g, k * 3, none⟩ (.int .i64 x)).setCell ⟨g, k * 3 + 1, none⟩ (.int .i64 (x + 1))) (some g) := grownBy_trans (grownBy_trans hG (grownBy_set wr g (k * 3) _)) (grownBy_set _ g (k * 3 + 1) _)
      clear hat hq2 hq3 hx h2 hG HR
      go_wp2_with fail
      refine (hT _).mono ?_
      rintro e w3 ⟨rfl, hb3⟩
      have hP3 := RowP.on H2.out hb3
      obtain ⟨z3, y0, y1⟩ := RowP.cell hP3 hlt
      have hG3 := grownBy_trans hG2 (grownBy_below hb3 (Nat.le_refl _) (some g))
      have HR4 := HPP.out hP3
      have hG4 := grownBy_trans hG3 (grownBy_set w3 g (k * 3 + 2) (.string (mt (q + 3 * k + 2))))
      clear hP3 hb3 hG2 hG3 H2 HPP hT
      go_wp2_with fail
      go_roundw
      case rel => exact ⟨k + 1, by omega, by go_num, by rw [HQ.out], HR4, hG4⟩
      case measure => simp [intOf]; omega
    · obtain rfl : k = n := by omega
      go_wp2_with fail
      go_ret
      exact ⟨rfl, HR.out, hG⟩

end Go.Proofs.Ytonpeiknoifdbaa
