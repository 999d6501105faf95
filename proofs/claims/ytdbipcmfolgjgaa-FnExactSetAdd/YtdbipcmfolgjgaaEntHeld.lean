/- Rows of entries of any capacity: what markEntryS and heldEntryS do with them. -/
import Derived.Test.YtdbipcmfolgjgaaEntMarks
import Derived.Test.YtdbipcmfolgjgaaEntRows
import Derived.Test.YtdbipcmfolgjgaaSetLaws
namespace Go.Proofs.Ytdbipcmfolgjgaa
open Go.RowKit
set_option linter.unusedVariables false

/-- A row of entries that the call owns, the first k of which are those of ls. -/
def RowF (w : World) (B g n c : Nat) (ls : List En) (k : Nat) : Prop :=
  ∃ xs, w.ownsRow B 72 3 (.slice (some ⟨g, 0, none⟩) n c) n xs ∧ ∀ j, j < k → xs[j * 3]? = some (.int .i64 (enAt ls j).1) ∧ xs[j * 3 + 1]? = some (.int .i64 (enAt ls j).2.1) ∧ xs[j * 3 + 2]? = some (.string (enAt ls j).2.2)
theorem RowF.cells {w : World} {B g n c : Nat} {ls : List En} {k : Nat} (h : RowF w B g n c ls k) {j : Nat} (hj : j < n) :
    ∃ u v z, w.cell? ⟨g, j * 3, none⟩ = some u ∧ w.cell? ⟨g, j * 3 + 1, none⟩ = some v ∧ w.cell? ⟨g, j * 3 + 2, none⟩ = some z ∧ w.frozen? ⟨g, j * 3, none⟩ = false ∧ w.frozen? ⟨g, j * 3 + 1, none⟩ = false ∧ w.frozen? ⟨g, j * 3 + 2, none⟩ = false := by
  obtain ⟨xs, ho, _⟩ := h
  have hl := ho.1
  have h0 : j * 3 < xs.length := by omega
  have h1 : j * 3 + 1 < xs.length := by omega
  have h2 : j * 3 + 2 < xs.length := by omega
  refine ⟨xs[j * 3], xs[j * 3 + 1], xs[j * 3 + 2], ?_, ?_, ?_, World.ownsRow.frozenAt ho _, World.ownsRow.frozenAt ho _, World.ownsRow.frozenAt ho _⟩
  · rw [World.ownsRow.cellAt ho _ (by omega), List.getElem?_eq_getElem h0]
  · rw [World.ownsRow.cellAt ho _ (by omega), List.getElem?_eq_getElem h1]
  · rw [World.ownsRow.cellAt ho _ (by omega), List.getElem?_eq_getElem h2]
theorem RowF.put {w : World} {B g n c : Nat} {ls : List En} {k : Nat} (h : RowF w B g n c ls k) (hk : k < n) :
    RowF (((w.setCell ⟨g, k * 3, none⟩ (.int .i64 (enAt ls k).1)).setCell ⟨g, k * 3 + 1, none⟩ (.int .i64 (enAt ls k).2.1)).setCell ⟨g, k * 3 + 2, none⟩ (.string (enAt ls k).2.2)) B g n c ls (k + 1) := by
  obtain ⟨xs, ho, hx⟩ := h
  have hl := ho.1
  refine ⟨_, (World.ownsRow.stored (World.ownsRow.stored (World.ownsRow.stored ho (k * 3) _).1 (k * 3 + 1) _).1 (k * 3 + 2) _).1, fun j hj => ?_⟩
  by_cases e : j = k
  · subst e
    refine ⟨?_, ?_, ?_⟩
    · rw [List.getElem?_set_ne (by omega), List.getElem?_set_ne (by omega), List.getElem?_set_self (by omega)]
    · rw [List.getElem?_set_ne (by omega), List.getElem?_set_self (by rw [List.length_set]; omega)]
    · rw [List.getElem?_set_self (by rw [List.length_set, List.length_set]; omega)]
  · have := hx j (by omega)
    refine ⟨?_, ?_, ?_⟩
    · rw [List.getElem?_set_ne (by omega), List.getElem?_set_ne (by omega), List.getElem?_set_ne (by omega)]; exact this.1
    · rw [List.getElem?_set_ne (by omega), List.getElem?_set_ne (by omega), List.getElem?_set_ne (by omega)]; exact this.2.1
    · rw [List.getElem?_set_ne (by omega), List.getElem?_set_ne (by omega), List.getElem?_set_ne (by omega)]; exact this.2.2
theorem RowF.lt {w : World} {B g n c : Nat} {ls : List En} {k : Nat} (h : RowF w B g n c ls k) : B ≤ g ∧ g < w.heap.size := by
  obtain ⟨xs, ho, _⟩ := h
  exact World.ownsRow.lt ho g rfl
theorem RowF.kept {w w' : World} {B g n c : Nat} {ls : List En} {k : Nat} {row : Option Nat} (h : RowF w B g n c ls k) (hg : w.grownBy w' row) (hn : row ≠ some g) : RowF w' B g n c ls k := by
  obtain ⟨xs, ho, hx⟩ := h
  exact ⟨xs, ho.kept hg (.inr (fun e => hn (by simpa [Value.ownBlock] using e.symm))), hx⟩
theorem RowF.on {w w' : World} {B g n c : Nat} {ls : List En} {k : Nat} (h : RowF w B g n c ls k) (hb : Below w.heap.size w w') : RowF w' B g n c ls k := h.kept (grownBy_below hb (Nat.le_refl _) none) (by simp)
theorem RowF.fresh {w : World} {B g n c : Nat} {ls ls' : List En} {k : Nat} (h : RowF w B g n c ls k) : RowF w B g n c ls' 0 := by
  obtain ⟨xs, ho, _⟩ := h
  exact ⟨xs, ho, fun j hj => absurd hj (Nat.not_lt_zero _)⟩

/-- A row of entries, of the k-th of which the numbers are written already. -/
def RowG (w : World) (B g n c : Nat) (ls : List En) (k : Nat) : Prop :=
  ∃ xs, w.ownsRow B 72 3 (.slice (some ⟨g, 0, none⟩) n c) n xs ∧ (∀ j, j < k → xs[j * 3]? = some (.int .i64 (enAt ls j).1) ∧ xs[j * 3 + 1]? = some (.int .i64 (enAt ls j).2.1) ∧ xs[j * 3 + 2]? = some (.string (enAt ls j).2.2)) ∧ xs[k * 3]? = some (.int .i64 (enAt ls k).1) ∧ xs[k * 3 + 1]? = some (.int .i64 (enAt ls k).2.1)
theorem RowF.two {w : World} {B g n c : Nat} {ls : List En} {k : Nat} (h : RowF w B g n c ls k) (hk : k < n) :
    RowG ((w.setCell ⟨g, k * 3, none⟩ (.int .i64 (enAt ls k).1)).setCell ⟨g, k * 3 + 1, none⟩ (.int .i64 (enAt ls k).2.1)) B g n c ls k := by
  obtain ⟨xs, ho, hx⟩ := h
  have hl := ho.1
  refine ⟨_, (World.ownsRow.stored (World.ownsRow.stored ho (k * 3) _).1 (k * 3 + 1) _).1, fun j hj => ?_, ?_, ?_⟩
  · have := hx j hj
    refine ⟨?_, ?_, ?_⟩
    · rw [List.getElem?_set_ne (by omega), List.getElem?_set_ne (by omega)]; exact this.1
    · rw [List.getElem?_set_ne (by omega), List.getElem?_set_ne (by omega)]; exact this.2.1
    · rw [List.getElem?_set_ne (by omega), List.getElem?_set_ne (by omega)]; exact this.2.2
  · rw [List.getElem?_set_ne (by omega), List.getElem?_set_self (by omega)]
  · rw [List.getElem?_set_self (by rw [List.length_set]; omega)]
theorem RowG.on {w w' : World} {B g n c : Nat} {ls : List En} {k : Nat} (h : RowG w B g n c ls k) (hb : Below w.heap.size w w') : RowG w' B g n c ls k := by
  obtain ⟨xs, ho, hx⟩ := h
  exact ⟨xs, ho.kept (grownBy_below hb (Nat.le_refl _) none) (by simp [Value.ownBlock]), hx⟩
theorem RowG.cell {w : World} {B g n c : Nat} {ls : List En} {k : Nat} (h : RowG w B g n c ls k) (hk : k < n) : ∃ z, w.cell? ⟨g, k * 3 + 2, none⟩ = some z ∧ w.frozen? ⟨g, k * 3 + 2, none⟩ = false := by
  obtain ⟨xs, ho, _⟩ := h
  have hl := ho.1
  have h2 : k * 3 + 2 < xs.length := by omega
  exact ⟨xs[k * 3 + 2], by rw [World.ownsRow.cellAt ho _ (by omega), List.getElem?_eq_getElem h2], World.ownsRow.frozenAt ho _⟩
theorem RowG.put {w : World} {B g n c : Nat} {ls : List En} {k : Nat} (h : RowG w B g n c ls k) (hk : k < n) : RowF (w.setCell ⟨g, k * 3 + 2, none⟩ (.string (enAt ls k).2.2)) B g n c ls (k + 1) := by
  obtain ⟨xs, ho, hx, h0, h1⟩ := h
  have hl := ho.1
  refine ⟨_, (World.ownsRow.stored ho (k * 3 + 2) _).1, fun j hj => ?_⟩
  by_cases e : j = k
  · subst e
    refine ⟨?_, ?_, ?_⟩
    · rw [List.getElem?_set_ne (by omega)]; exact h0
    · rw [List.getElem?_set_ne (by omega)]; exact h1
    · rw [List.getElem?_set_self (by omega)]
  · have := hx j (by omega)
    refine ⟨?_, ?_, ?_⟩
    · rw [List.getElem?_set_ne (by omega)]; exact this.1
    · rw [List.getElem?_set_ne (by omega)]; exact this.2.1
    · rw [List.getElem?_set_ne (by omega)]; exact this.2.2

set_option maxHeartbeats 4000000 in
set_option maxRecDepth 100000 in
theorem markEntryF_any (B g n c : Nat) (w : World) (ls : List En) (k0 q : Nat) (hn : n ≤ 1048576) (hq : q ≤ 2097152) (hR : RowF w B g n c ls k0) :
    Calls Try.prog 38 #[.slice (some ⟨g, 0, none⟩) n c, .int .i64 (q : Int)] w fun e w' => e = .returned (.int .i64 ((q + 3 * n : Nat) : Int)) ∧ RowF w' B g n c (marksE q n) n ∧ w.grownBy w' (some g) := by
  have HR0 : Hid (RowF w B g n c (marksE q n) 0) := hR.fresh
  clear hR
  go_enter Try.func38, Try.ntmps38
  go_wp2_with fail
  go_loopw [1, 5] (fun tq ti wr => ∃ k : Nat, k ≤ n ∧ ti = .int .i64 (k : Int) ∧ tq = .int .i64 ((q + 3 * k : Nat) : Int) ∧ Hid (RowF wr B g n c (marksE q n) k) ∧ w.grownBy wr (some g)) (fun _ ti _ => n - (intOf ti).toNat)
  case atStart => exact ⟨0, Nat.zero_le _, rfl, rfl, HR0, World.grownBy.refl _ _⟩
  case round =>
    clear HR0
    obtain ⟨k, hk, rfl, rfl, HR, hG⟩ := hrel
    by_cases hlt : k < n
    · have j0 : (0 : Int) ≤ (k : Int) := by omega
      have j1 : (k : Int) < (n : Int) := by omega
      have j2 : (k : Int) + 1 < 9223372036854775808 := by omega
      have hat := marksE_at (q := q) hlt
      have h2 := RowF.two HR.out hlt
      have HPP : Hid (∀ {w'}, RowG w' B g n c (marksE q n) k → RowF (w'.setCell ⟨g, k * 3 + 2, none⟩ (.string (enAt (marksE q n) k).2.2)) B g n c (marksE q n) (k + 1)) := fun h => h.put hlt
      rw [hat] at h2 HPP
      have hq2 : ((q + 3 * k + 1 : Nat) : Int) = ((q + 3 * k : Nat) : Int) + 1 := by omega
      have hT := fun w => markText_any (q + 3 * k + 2) (by omega) w
      have hq3 : ((q + 3 * k + 2 : Nat) : Int) = ((q + 3 * k : Nat) : Int) + 1 + 1 := by omega
      have HQ : Hid (((q + 3 * (k + 1) : Nat) : Int) = ((q + 3 * k : Nat) : Int) + 1 + 1 + 1) := by show _ = _; omega
      rw [hq3] at hT
      simp only [hq2] at h2
      have hm0 : ((q + 3 * k : Nat) : Int) + 1 + 1 + 1 < 9223372036854775808 := by omega
      obtain ⟨x, hx⟩ : ∃ x : Int, ((q + 3 * k : Nat) : Int) = x := ⟨_, rfl⟩
      have hx0 : 0 ≤ x := by omega
      simp only [hx] at h2 hT HQ hm0 ⊢
      obtain ⟨u, v, z, c0, c1, c2, f0, f1, f2⟩ := RowF.cells HR.out hlt
      have H2 : Hid _ := h2
      have HT : Hid (mt (q + 3 * k + 2) = mt (q + 3 * k + 2)) := rfl
      have hG2 : w.grownBy ((wr.setCell ⟨g, k * 3, none⟩ (.int .i64 x)).setCell ⟨g, k * 3 + 1, none⟩ (.int .i64 (x + 1))) (some g) := grownBy_trans (grownBy_trans hG (grownBy_set wr g (k * 3) _)) (grownBy_set _ g (k * 3 + 1) _)
      clear hat hq2 hq3 hx h2 hG HR
      go_wp2_with fail
      refine (hT _).mono ?_
      rintro e w3 ⟨rfl, hb3⟩
      have hP3 := RowG.on H2.out hb3
      obtain ⟨z3, y0, y1⟩ := RowG.cell hP3 hlt
      have hG3 := grownBy_trans hG2 (grownBy_below hb3 (Nat.le_refl _) (some g))
      have HR4 := HPP.out hP3
      have hG4 := grownBy_trans hG3 (grownBy_set w3 g (k * 3 + 2) (.string (mt (q + 3 * k + 2))))
      clear hP3 hb3 hG2 hG3 H2 HPP hT
      go_wp2_with fail
      go_roundw
      case rel => exact ⟨k + 1, by omega, by go_num, by rw [HQ.out], HR4, hG4⟩
      case measure => simp [intOf]; omega
    · obtain rfl : k = n := by omega
      go_wp2_with fail
      go_ret
      exact ⟨rfl, HR.out, hG⟩


theorem enCs_of {xs : List Value} {ls : List En} (hl : xs.length = ls.length * 3) (h : ∀ j, j < ls.length → xs[j * 3]? = some (.int .i64 (enAt ls j).1) ∧ xs[j * 3 + 1]? = some (.int .i64 (enAt ls j).2.1) ∧ xs[j * 3 + 2]? = some (.string (enAt ls j).2.2)) : xs = enCs ls := by
  have hl2 := enCs_len ls
  refine List.ext_getElem? fun i => ?_
  by_cases hi : i < ls.length * 3
  · obtain ⟨j, hj, r, hr, rfl⟩ : ∃ j, j < ls.length ∧ ∃ r, r < 3 ∧ i = j * 3 + r := ⟨i / 3, by omega, i % 3, by omega, by omega⟩
    obtain ⟨a0, a1, a2⟩ := h j hj
    obtain ⟨b0, b1, b2⟩ := enCs_at hj
    obtain rfl | rfl | rfl : r = 0 ∨ r = 1 ∨ r = 2 := by omega
    · rw [Nat.add_zero, a0, b0]
    · rw [a1, b1]
    · rw [a2, b2]
  · rw [List.getElem?_eq_none (by omega), List.getElem?_eq_none (by omega)]
theorem RowF.own {w : World} {B g n c : Nat} {ls : List En} (h : RowF w B g n c ls n) (hn : n = ls.length) : OwnE w B (.slice (some ⟨g, 0, none⟩) n c) ls := by
  subst hn
  obtain ⟨xs, ho, hx⟩ := h
  have := enCs_of ho.1 hx
  subst this
  exact ho
theorem rowF_of {w : World} {B g n c : Nat} {ls : List En} (h : OwnE w B (.slice (some ⟨g, 0, none⟩) n c) ls) (hn : n = ls.length) : RowF w B g n c ls n := by
  subst hn
  exact ⟨_, h, fun j hj => enCs_at hj⟩
theorem RowE.own {w : World} {B g n : Nat} {ls : List En} (h : RowE w B g n ls n) (hn : n = ls.length) : OwnE w B (.slice (some ⟨g, 0, none⟩) n n) ls := by
  subst hn
  obtain ⟨xs, ho, hx⟩ := h
  have := enCs_of ho.1 hx
  subst this
  exact ho
theorem ownE_shape {w : World} {B : Nat} {v : Value} {ls : List En} (h : OwnE w B v ls) : (v = .slice none 0 0 ∧ ls = []) ∨ ∃ g c, v = .slice (some ⟨g, 0, none⟩) ls.length c ∧ B ≤ g ∧ g < w.heap.size := by
  have hlt := h.lt
  rcases h.2 with ⟨hv, hn⟩ | ⟨g, cap, cur, hv, hb, hg, _⟩
  · exact .inl ⟨hv, List.eq_nil_of_length_eq_zero hn⟩
  · exact .inr ⟨g, cap, hv, hb, (Array.getElem?_eq_some_iff.1 hg).1⟩
theorem ownE_rd {w : World} {B : Nat} {v : Value} {ls : List En} (h : OwnE w B v ls) : RdE w.heap.size w v ls := by
  rcases ownE_shape h with ⟨rfl, rfl⟩ | ⟨g, c, rfl, _, hlt⟩
  · exact ⟨none, 0, rfl, fun h => absurd h (by simp)⟩
  · refine ⟨_, c, rfl, fun _ => ⟨g, 0, rfl, hlt, fun k hk => ?_⟩⟩
    have hl := enCs_len ls
    obtain ⟨b0, b1, b2⟩ := enCs_at hk
    rw [Nat.zero_add, Nat.zero_add, Nat.zero_add, World.ownsRow.cellAt h _ (by omega), World.ownsRow.cellAt h _ (by omega), World.ownsRow.cellAt h _ (by omega)]
    exact ⟨b0, b1, b2⟩

set_option maxHeartbeats 1000000 in
set_option maxRecDepth 100000 in
theorem markEntryS_own (B : Nat) (w : World) (v : Value) (ls : List En) (q : Nat) (hn : ls.length ≤ 1048576) (hq : q ≤ 2097152) (ho : OwnE w B v ls) :
    Calls Try.prog 38 #[v, .int .i64 (q : Int)] w fun e w' => e = .returned (.int .i64 ((q + 3 * ls.length : Nat) : Int)) ∧ OwnE w' B v (marksE q ls.length) ∧ w.grownBy w' v.ownBlock := by
  rcases ownE_shape ho with ⟨rfl, rfl⟩ | ⟨g, c, rfl, _, hlt⟩
  · have ho' : OwnE w B (.slice none 0 0) (marksE q ([] : List En).length) := ho
    clear ho
    go_enter Try.func38, Try.ntmps38
    go_wp2_with fail
    go_loopw [1, 5] (fun tq ti wr => ti = .int .i64 0 ∧ tq = .int .i64 (q : Int) ∧ wr = w) (fun _ ti _ => 0)
    case atStart => exact ⟨rfl, rfl, rfl⟩
    case round =>
      obtain ⟨rfl, rfl, rfl⟩ := hrel
      go_wp2_with fail
      go_ret
      exact ⟨by simp, ho', World.grownBy.refl _ _⟩
  · refine (markEntryF_any B g ls.length c w ls ls.length q hn hq (rowF_of ho rfl)).mono ?_
    rintro e w' ⟨rfl, hR, hg⟩
    exact ⟨rfl, hR.own (marksE_len _ _).symm, hg⟩

set_option maxHeartbeats 2000000 in
set_option maxRecDepth 100000 in
theorem heldEntryS_same (C : Nat) (w : World) (v : Value) (q n : Nat) (hn : n ≤ 1048576) (hq : q ≤ 2097152) (hC : C ≤ w.heap.size) (hr : RdE C w v (marksE q n)) :
    Calls Try.prog 40 #[v, .int .i64 (q : Int)] w fun e w' => e = .returned (.int .i64 ((q + 3 * n : Nat) : Int)) ∧ Below w.heap.size w w' := by
  obtain ⟨eo, ec, rfl, hE⟩ := hr
  rw [marksE_len] at hE ⊢
  go_enter Try.func40, Try.ntmps40
  go_wp2_with fail
  go_loopw [1, 5] (fun tq ti wr => ∃ k : Nat, k ≤ n ∧ ti = .int .i64 (k : Int) ∧ tq = .int .i64 ((q + 3 * k : Nat) : Int) ∧ Below w.heap.size w wr) (fun _ ti _ => n - (intOf ti).toNat)
  case atStart => exact ⟨0, Nat.zero_le _, rfl, rfl, Below.refl _ _⟩
  case round =>
    obtain ⟨k, hk, rfl, rfl, hB⟩ := hrel
    by_cases hlt : k < n
    · obtain ⟨g, off, rfl, hg, hc⟩ := hE (by omega)
      obtain ⟨q0, q1, q2⟩ := hc k hlt
      rw [← hB.cell (p := ⟨g, off + k * 3, none⟩) (by show g < _; omega)] at q0
      rw [← hB.cell (p := ⟨g, off + (k * 3 + 1), none⟩) (by show g < _; omega)] at q1
      rw [← hB.cell (p := ⟨g, off + (k * 3 + 2), none⟩) (by show g < _; omega)] at q2
      rw [marksE_at hlt] at q0 q1 q2
      replace q0 : wr.cell? ⟨g, off + k * 3, none⟩ = some (.int .i64 ((q + 3 * k : Nat) : Int)) := q0
      replace q1 : wr.cell? ⟨g, off + k * 3 + 1, none⟩ = some (.int .i64 ((q + 3 * k + 1 : Nat) : Int)) := q1
      replace q2 : wr.cell? ⟨g, off + k * 3 + 2, none⟩ = some (.string (mt (q + 3 * k + 2))) := q2
      have hq2 : ((q + 3 * k + 1 : Nat) : Int) = ((q + 3 * k : Nat) : Int) + 1 := by omega
      have hT := fun w => markText_any (q + 3 * k + 2) (by omega) w
      have hq3 : ((q + 3 * k + 2 : Nat) : Int) = ((q + 3 * k : Nat) : Int) + 1 + 1 := by omega
      have HQ : Hid (((q + 3 * (k + 1) : Nat) : Int) = ((q + 3 * k : Nat) : Int) + 1 + 1 + 1) := by show _ = _; omega
      rw [hq3] at hT
      rw [hq2] at q1
      have hm0 : ((q + 3 * k : Nat) : Int) + 1 + 1 + 1 < 9223372036854775808 := by omega
      obtain ⟨x, hx⟩ : ∃ x : Int, ((q + 3 * k : Nat) : Int) = x := ⟨_, rfl⟩
      have hx0 : 0 ≤ x := by omega
      simp only [hx] at hT HQ hm0 q0 q1 ⊢
      generalize mt (q + 3 * k + 2) = tx at hT q2
      have j0 : (0 : Int) ≤ (k : Int) := by omega
      have j1 : (k : Int) < (n : Int) := by omega
      have j2 : (k : Int) + 1 < 9223372036854775808 := by omega
      clear hc hE hx hq2 hq3
      go_wp2_with fail
      go_region_held2 (fun w' => w'.cell? ⟨g, off + k * 3 + 2, none⟩ = some (.string tx)) (first | exact q2 | exact cell_on hbT q2) (first | (go_at_call 67; refine (hT _).mono ?_; rintro e w3 ⟨rfl, hbT⟩))
      have hB3 := below_seq hB.drew hbT
      clear hT q0 q1 q2
      go_wp2_with fail
      go_roundw
      case rel => exact ⟨k + 1, by omega, by go_num, by rw [HQ.out], hB3⟩
      case measure => simp [intOf]; omega
    · obtain rfl : k = n := by omega
      go_wp2_with fail
      go_ret
      exact ⟨rfl, hB⟩

end Go.Proofs.Ytdbipcmfolgjgaa
