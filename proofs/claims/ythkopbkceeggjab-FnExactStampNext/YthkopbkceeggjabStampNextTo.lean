/- The law's own functions over lists of stamps: their size, and the copy of one that came in. -/
import Derived.Test.YthkopbkceeggjabStampNextEq
namespace Go.Proofs.Ythkopbkceeggjab
open Go.RowKit
set_option linter.unusedVariables false

theorem infoStamp : (Try.prog.info? 25).map (fun i => (i.zero, i.size, i.bytes)) = some (some (.agg #[.int .i64 0, .int .i64 0]), 2, 16) := by kernel_rfl

/-- A list of stamps that came in, in a block below C. -/
def SlIn (C : Nat) (w : World) (ao : Option Addr) (ls : List (Int × Int)) : Prop :=
  0 < ls.length → ∃ g off, ao = some ⟨g, off, none⟩ ∧ g < C ∧ ∀ k, k < ls.length → w.cell? ⟨g, off + k * 2, none⟩ = some (.int .i64 (ls.getD k (0, 0)).1) ∧ w.cell? ⟨g, off + k * 2 + 1, none⟩ = some (.int .i64 (ls.getD k (0, 0)).2)
theorem SlIn.of_below {C : Nat} {w w' : World} {ao : Option Addr} {ls : List (Int × Int)} (h : SlIn C w ao ls) (hb : Below C w w') : SlIn C w' ao ls := fun hp => by
  obtain ⟨g, off, rfl, hg, hc⟩ := h hp
  refine ⟨g, off, rfl, hg, fun k hk => ?_⟩
  rw [hb.cell (p := ⟨g, off + k * 2, none⟩) hg, hb.cell (p := ⟨g, off + k * 2 + 1, none⟩) hg]
  exact hc k hk

/-- A row of stamps that the call owns, the first k of which are those of ls. -/
def RowS (w : World) (g n : Nat) (ls : List (Int × Int)) (k : Nat) : Prop :=
  ∃ xs, w.ownsRow g 25 2 (.slice (some ⟨g, 0, none⟩) n n) n xs ∧ ∀ j, j < k → xs[j * 2]? = some (.int .i64 (ls.getD j (0, 0)).1) ∧ xs[j * 2 + 1]? = some (.int .i64 (ls.getD j (0, 0)).2)
theorem RowS.cells {w : World} {g n : Nat} {ls : List (Int × Int)} {k : Nat} (h : RowS w g n ls k) (hk : k < n) :
    ∃ u v, w.cell? ⟨g, k * 2, none⟩ = some u ∧ w.cell? ⟨g, k * 2 + 1, none⟩ = some v ∧ w.frozen? ⟨g, k * 2, none⟩ = false ∧ w.frozen? ⟨g, k * 2 + 1, none⟩ = false := by
  obtain ⟨xs, ho, _⟩ := h
  have hl := ho.1
  have h0 : k * 2 < xs.length := by omega
  have h1 : k * 2 + 1 < xs.length := by omega
  refine ⟨xs[k * 2], xs[k * 2 + 1], ?_, ?_, World.ownsRow.frozenAt ho _, World.ownsRow.frozenAt ho _⟩
  · rw [World.ownsRow.cellAt ho _ (by omega), List.getElem?_eq_getElem h0]
  · rw [World.ownsRow.cellAt ho _ (by omega), List.getElem?_eq_getElem h1]
theorem RowS.put {w : World} {g n : Nat} {ls : List (Int × Int)} {k : Nat} (h : RowS w g n ls k) (hk : k < n) :
    RowS ((w.setCell ⟨g, k * 2, none⟩ (.int .i64 (ls.getD k (0, 0)).1)).setCell ⟨g, k * 2 + 1, none⟩ (.int .i64 (ls.getD k (0, 0)).2)) g n ls (k + 1) := by
  obtain ⟨xs, ho, hx⟩ := h
  have hl := ho.1
  refine ⟨_, (World.ownsRow.stored (World.ownsRow.stored ho (k * 2) _).1 (k * 2 + 1) _).1, fun j hj => ?_⟩
  by_cases e : j = k
  · subst e
    constructor
    · rw [List.getElem?_set_ne (by omega), List.getElem?_set_self (by omega)]
    · rw [List.getElem?_set_self (by rw [List.length_set]; omega)]
  · have := hx j (by omega)
    constructor
    · rw [List.getElem?_set_ne (by omega), List.getElem?_set_ne (by omega)]; exact this.1
    · rw [List.getElem?_set_ne (by omega), List.getElem?_set_ne (by omega)]; exact this.2
theorem RowS.on {w w' : World} {g n : Nat} {ls : List (Int × Int)} {k : Nat} (h : RowS w g n ls k) (hb : Below w.heap.size w w') : RowS w' g n ls k := by
  obtain ⟨xs, ho, hx⟩ := h
  exact ⟨xs, ho.kept (grownBy_below hb (Nat.le_refl _) none) (by simp [Value.ownBlock]), hx⟩
theorem RowS.done {w : World} {g : Nat} {ls : List (Int × Int)} (h : RowS w g ls.length ls ls.length) : SlS w g ls := fun k hk => by
  obtain ⟨xs, ho, hx⟩ := h
  have := hx k hk
  rw [World.ownsRow.cellAt ho _ (by omega), World.ownsRow.cellAt ho _ (by omega)]
  exact this

set_option maxHeartbeats 400000 in
theorem szStampS_any (ao : Option Addr) (n cap l : Nat) (hl : l ≤ 1048576) (hn : n ≤ maxLen) (w : World) :
    Calls Try.prog 12 #[.slice ao n cap, .int .i64 (l : Int)] w fun e w' => e = .returned (.int .i64 (if n ≤ l then ((l - n : Nat) : Int) else -1)) ∧ w' = w := by
  unfold maxLen at hn
  by_cases h : n ≤ l
  · have h1 : ¬ (l : Int) - (n : Int) < 0 := by omega
    have e1 : (l : Int) - (n : Int) = ((l - n : Nat) : Int) := by omega
    rw [if_pos h]
    have H : Hid _ := e1
    clear h e1
    go_enter Try.func12, Try.ntmps12
    go_wp2_with fail
    go_ret
    exact ⟨by rw [← H.out]; rfl, rfl⟩
  · have h1 : (l : Int) - (n : Int) < 0 := by omega
    rw [if_neg h]
    clear h
    go_enter Try.func12, Try.ntmps12
    go_wp2_with fail
    go_ret
    exact ⟨rfl, rfl⟩

set_option maxHeartbeats 2000000 in
set_option maxRecDepth 100000 in
theorem toStampS_any (C : Nat) (w : World) (ao : Option Addr) (cap : Nat) (ls : List (Int × Int)) (hl : ls.length ≤ 1048576) (hC : C ≤ w.heap.size) (hr : SlIn C w ao ls) :
    Calls Try.prog 14 #[.slice ao ls.length cap] w fun e w' => e = .returned (.slice (some ⟨w.heap.size, 0, none⟩) ls.length ls.length) ∧ SlS w' w.heap.size ls ∧ Below w.heap.size w w' ∧ w.heap.size < w'.heap.size := by
  obtain ⟨i0, hi, hz0, hz1, hz2⟩ := info_parts infoStamp
  go_enter Try.func14, Try.ntmps14
  go_wp2_with (at_make; refine wpList_make_full _ rfl _ _ 32 rfl w.heap.size 25 i0 (.agg #[.int .i64 0, .int .i64 0]) 2 Try.underlying32 hi hz0 hz1 _ _ _ _ ls.length rfl rfl rfl rfl (by rw [hz2]; omega) (by unfold maxLen; omega) (Nat.le_refl _) ?_)
  intro w1 hown hgrow
  have hb1 : Below w.heap.size w w1 := (Below.refl _ _).grown hgrow (Nat.le_refl _) (fun k hk => by cases hk)
  have H1 : Hid (RowS w1 w.heap.size ls.length ls 0) := ⟨_, hown, fun j hj => absurd hj (Nat.not_lt_zero _)⟩
  have hs1 : w.heap.size < w1.heap.size := (World.ownsRow.lt hown w.heap.size rfl).2
  clear hown hgrow
  go_wp2_with fail
  go_loopw [4] (fun i wr => ∃ k : Nat, k ≤ ls.length ∧ i = .int .i64 k ∧ Hid (RowS wr w.heap.size ls.length ls k) ∧ Below w.heap.size w wr ∧ w.heap.size < wr.heap.size) (fun i _ => ls.length - (intOf i).toNat)
  case atStart => exact ⟨0, Nat.zero_le _, rfl, H1, hb1, hs1⟩
  case round =>
    clear H1 hb1 hs1
    obtain ⟨k, hk, rfl, HR, hbel, hs⟩ := hrel
    by_cases hlt : k < ls.length
    · obtain ⟨g, off, rfl, hg, hc⟩ := hr (by omega)
      have d0 := (hbel.cell (p := ⟨g, off + k * 2, none⟩) (by show g < _; omega)).trans (hc k hlt).1
      have d1 := (hbel.cell (p := ⟨g, off + k * 2 + 1, none⟩) (by show g < _; omega)).trans (hc k hlt).2
      have HP : Hid (∀ {w'}, RowS w' w.heap.size ls.length ls k → RowS ((w'.setCell ⟨w.heap.size, k * 2, none⟩ (.int .i64 (ls.getD k (0, 0)).1)).setCell ⟨w.heap.size, k * 2 + 1, none⟩ (.int .i64 (ls.getD k (0, 0)).2)) w.heap.size ls.length ls (k + 1)) := fun h => h.put hlt
      have j0 : (0 : Int) ≤ (k : Int) := by omega
      have j1 : (k : Int) < (ls.length : Int) := by omega
      have j2 : (k : Int) + 1 < 9223372036854775808 := by omega
      clear hc hr
      generalize (ls.getD k (0, 0)).1 = t at d0 HP
      generalize (ls.getD k (0, 0)).2 = a at d1 HP
      go_wp2_with ((go_at_call 10; refine (toStamp_any t a _).mono ?_; rintro e w' ⟨rfl, hb⟩; replace HR : Hid (RowS w' w.heap.size ls.length ls k) := HR.out.on hb; replace hbel := below_seq hbel hb; replace hs := Nat.lt_of_lt_of_le hs hb.size; clear hb; obtain ⟨u, v, c0, c1, f0, f1⟩ := HR.out.cells hlt))
      exact ⟨⟨k + 1, by omega, by go_num, HP.out HR.out, (hbel.setCell (Nat.le_refl _) _).setCell (Nat.le_refl _) _, by simpa using hs⟩, by simp [intOf]; omega⟩
    · obtain rfl : k = ls.length := by omega
      go_wp2_with fail
      go_ret
      exact ⟨rfl, HR.out.done, hbel, hs⟩
end Go.Proofs.Ythkopbkceeggjab
