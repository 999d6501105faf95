/- The size of a value of the kind Multi out of any number left, its marks from any number on. -/
import Derived.Test.YtdkfeabpnikedaaQEntCellsToEntHeldB
namespace Go.Proofs.Ytdkfeabpnikedaa
open Go.RowKit
set_option linter.unusedVariables false

set_option maxHeartbeats 1000000 in
set_option maxRecDepth 100000 in
theorem szMulti_at (C L : Nat) (hL : L ≤ 1048576) (w : World) (ao : Option Addr) (n cap : Nat) (ve : Value) (ls : List En) (hn : n ≤ maxLen) (hl : ls.length ≤ 9223372036854775807) (hs : ∀ k, (enAt ls k).2.2.size ≤ 9223372036854775807) (hC : C ≤ w.heap.size) (hr : RdE C w ve ls) :
    Calls Try.prog 8 #[.agg #[.slice ao n cap, ve], .int .i64 (L : Int)] w fun e w' => (∃ x : Int, e = .returned (.int .i64 x) ∧ -1 ≤ x ∧ x ≤ 1048576 ∧ (0 ≤ x → n ≤ 1048576 ∧ ls.length ≤ 1048576)) ∧ Below w.heap.size w w' := by
  have hB0 := below_alloc w (.cells #[.slice ao n cap, ve] 27)
  have hD := Dy.made w (.slice ao n cap) ve 27
  have hve := hr
  obtain ⟨eo, ec, rfl, _⟩ := hve
  go_enter Try.func8, Try.ntmps8
  go_wp2_with fail
  refine (szVector_any ao n cap L hL hn _).mono ?_
  by_cases h : n ≤ L
  · rw [if_pos h]
    rintro e w1 ⟨rfl, hb1⟩
    have hB1 := below_seq hB0 hb1
    obtain ⟨⟨c0, c1⟩, _⟩ := Dy.on hD hb1
    obtain ⟨l, hl0⟩ : ∃ l : Int, ((L - n : Nat) : Int) = l := ⟨_, rfl⟩
    have hl1 : 0 ≤ l := by omega
    have hl2 : l ≤ 1048576 := by omega
    rw [hl0]
    have hd : decide (l < 0) = false := by simp; omega
    clear hl0
    go_wp2_with fail
    refine (szEntryS_any C w1 _ ls l hl1 hl2 hl hs (Nat.le_trans hC hB1.size) (hr.below (hB1.mono hC))).mono ?_
    rintro e w2 ⟨⟨x, rfl, x0, x1, hx⟩, hb2⟩
    by_cases hx0 : x < 0
    · go_wp2_with fail
      go_ret
      exact ⟨⟨_, rfl, by omega, by omega, by omega⟩, below_seq hB1 hb2⟩
    · have hx2 : decide (x < 0) = false := by simp; omega
      have hx1 := hx (by omega)
      have hx3 : 0 ≤ x := by omega
      clear hx0
      go_wp2_with fail
      go_ret
      exact ⟨⟨_, rfl, by omega, by omega, fun _ => ⟨by omega, hx1⟩⟩, below_seq hB1 hb2⟩
  · rw [if_neg h]
    rintro e w1 ⟨rfl, hb1⟩
    go_wp2_with fail
    go_ret
    exact ⟨⟨_, rfl, by omega, by omega, by omega⟩, below_seq hB0 hb1⟩

set_option maxHeartbeats 1000000 in
set_option maxRecDepth 100000 in
theorem markMulti_at (B E q : Nat) (hq : q ≤ 8388608) (w : World) (a : Option Addr) (n c : Nat) (b : Option Addr) (m d : Nat) (xs : List Int) (ls : List En) (hB : B ≤ w.heap.size) (hE : E ≤ w.heap.size) (hm : xs.length ≤ 1048576) (hn : ls.length ≤ 1048576) (h : Sv w B E (.slice a n c) (.slice b m d) xs ls) :
    Calls Try.prog 13 #[.agg #[.slice a n c, .slice b m d], .int .i64 (q : Int)] w fun e w' => e = .returned (.int .i64 ((q + xs.length + 3 * ls.length : Nat) : Int)) ∧ Sv w' B E (.slice a n c) (.slice b m d) (marksI q xs.length) (marksE (q + xs.length) ls.length) ∧ Away w w' B E ∧ Below B w w' := by
  obtain ⟨T, ho, hR, hap, hu, hv⟩ := h
  have hB0 := below_alloc w (.cells #[.slice a n c, .slice b m d] 32)
  have ho1 : Own T (w.alloc (.cells #[.slice a n c, .slice b m d] 32)) B (.slice a n c) (xs.map (Value.int .i64)) := World.ownsRow.alloc ho _
  have hR1 : OwnE (w.alloc (.cells #[.slice a n c, .slice b m d] 32)) B (.slice b m d) ls := World.ownsRow.alloc hR _
  have hD := Dy.made w (.slice a n c) (.slice b m d) 32
  have hblk := ho.blk
  have hlo := ho.lt
  have hlE := hR.lt
  go_enter Try.func13, Try.ntmps13
  go_wp2_with fail
  refine (markVector_any B _ a n c _ q (by simp; omega) (by omega) (by simp; omega) ho1).mono ?_
  rintro e w1 ⟨rfl, ho2, hb1, hg1⟩
  rw [List.length_map] at ho2 ⊢
  have hne : (Value.slice a n c).ownBlock ≠ some w.heap.size := fun e => by have := hblk _ e; omega
  have c0 := hg1.cell (a := ⟨w.heap.size, 0, none⟩) hD.1.1 (fun e => hne e.symm)
  have c1 := hg1.cell (a := ⟨w.heap.size, 1, none⟩) hD.1.2 (fun e => hne e.symm)
  have hR2 : OwnE w1 B (.slice b m d) ls := World.ownsRow.kept hR1 hg1 (by
    cases hv : (Value.slice b m d).ownBlock with
    | none => exact .inl rfl
    | some j => exact .inr (fun e => hap j j e.symm hv rfl))
  clear ho1 hR1 hD
  go_wp2_with fail
  refine (markEntryS_big B w1 _ ls (q + xs.length) hn (by omega) hR2).mono ?_
  rintro e w2 ⟨rfl, hR3, hg2⟩
  have ho3 : Own T w2 B (.slice a n c) ((marksI q xs.length).map (Value.int .i64)) := World.ownsRow.kept ho2 hg2 (by
    cases hv : (Value.slice a n c).ownBlock with
    | none => exact .inl rfl
    | some j => exact .inr (fun e => hap j j hv e.symm rfl))
  have hz1 := hg1.size
  rw [World.size_alloc] at hz1
  have hz2 := hg2.size
  have hfin : ∀ i, i < w.heap.size → i < B ∨ E ≤ i → w2.heap[i]? = w.heap[i]? := fun i hi h1 => ((hg2.block i (by omega) (fun e => by have := hlE i e.symm; have := hv i e.symm; omega)).trans (hg1.block i (by rw [World.size_alloc]; omega) (fun e => by have := hlo i e.symm; have := hu i e.symm; omega))).trans (hB0.block i hi)
  have hBel : Below B w w2 := ((hB0.mono hB).grown hg1 (by rw [World.size_alloc]; omega) (fun k hk => hlo k hk)).grown hg2 (by omega) (fun k hk => (hlE k hk).1)
  clear hR2 c0 c1
  go_wp2_with fail
  go_ret
  exact ⟨rfl, ⟨T, ho3, hR3, hap, hu, hv⟩, ⟨by omega, hfin⟩, hBel⟩

end Go.Proofs.Ytdkfeabpnikedaa
