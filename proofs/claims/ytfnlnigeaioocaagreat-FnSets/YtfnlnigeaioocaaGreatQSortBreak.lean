/- What breakPatternsCmpFunc does at stamps. -/
import Derived.Deep.CutBlock
import Derived.Shelf.SlGeneric
import Derived.Ground.SlsfProg
import Derived.Shelf.SlSortCmp.Xorshift
import Derived.Sort.Walk7
import Derived.Test.YtfnlnigeaioocaaGreatQTakeKit
import Derived.Test.YtfnlnigeaioocaaGreatQSortIns
import Derived.Test.YtfnlnigeaioocaaGreatQSortHeapToSortPiv
namespace Go.Proofs.YtfnlnigeaioocaaGreat
open Go.RowKit
open Go.Sort (swp insInner insOuter insertionSort siftDown heapBuild heapPop heapSort reverseLoop reverseRange)
set_option linter.unusedVariables false

open Go.Sort (breakPatterns bitsLen xorNext xorNextN xorNext_toNat xorNextN_lt two_pow_bitsLen_le)

shelf_lay_g SlLaysF0.n48 Slsf 48 at Tryz 84 as YtfnlnigeaioocaaGreat.xorL
shelf_lay_g SlLaysF0.n47 Slsf 47 at Tryz 83 as YtfnlnigeaioocaaGreat.powL
/-- The row, and the drawer's cell in a block that was made since. -/
structure Rn (W0 : World) (B g cap cb r : Nat) (d : Array Sp) (w : World) : Prop where
  sw : Sw W0 B g cap d w
  cell : w.cell? ⟨cb, 0, none⟩ = some (.int .u64 (r : Int))
  free : w.frozen? ⟨cb, 0, none⟩ = false
  lo : W0.heap.size ≤ cb
  gw : g < W0.heap.size
theorem Rn.on {W0 w w' : World} {B g cap cb r : Nat} {d : Array Sp} (h : Rn W0 B g cap cb r d w) (hb : Below w.heap.size w w') : Rn W0 B g cap cb r d w' :=
  ⟨h.sw.on hb, cell_on hb h.cell, (hb.frozen (p := ⟨cb, 0, none⟩) (cell_lt h.cell)).trans h.free, h.lo, h.gw⟩
theorem Rn.drew {W0 w : World} {B g cap cb r : Nat} {d : Array Sp} (h : Rn W0 B g cap cb r d w) : Rn W0 B g cap cb r d w.drew := h.on (show Below _ w w.drew from (Below.refl _ w).drew)
theorem Rn.bump {W0 w : World} {B g cap cb r : Nat} {d : Array Sp} (h : Rn W0 B g cap cb r d w) (t : Nat) : Rn W0 B g cap cb t d (w.setCell ⟨cb, 0, none⟩ (.int .u64 (t : Int))) := by
  have hlo := h.lo
  have hgw := h.gw
  refine ⟨⟨?_, ?_⟩, World.cell?_setCell_same' _ _ _ (by rw [h.cell]; rfl), by rw [World.frozen?_setCell]; exact h.free, h.lo, h.gw⟩
  · obtain ⟨k1, k2⟩ := h.sw.own
    refine ⟨k1, ?_⟩
    rcases k2 with k2 | ⟨g', cap', cur, hv, hg, hh, r⟩
    · exact .inl k2
    · have hgg : g = g' := by have := hv; simp at this; exact this.1
      exact .inr ⟨g', cap', cur, hv, hg, (heap_setCell_other w ⟨cb, 0, none⟩ g' _ (by show g' ≠ cb; omega)).trans hh, r⟩
  · have hgr := h.sw.gr
    exact ⟨hgr.os, hgr.tape, hgr.output, by simpa using hgr.size, fun i hi hn => (heap_setCell_other w ⟨cb, 0, none⟩ i _ (by show i ≠ cb; omega)).trans (hgr.block i hi hn)⟩
theorem Rn.at {W0 w : World} {B g cap cb r : Nat} {d : Array Sp} (h : Rn W0 B g cap cb r d w) {i : Nat} (hi : i < d.size) : w.cell? ⟨g, i * 2, none⟩ = some (.int .i64 d[i]!.1) ∧ w.cell? ⟨g, i * 2 + 1, none⟩ = some (.int .i64 d[i]!.2) := h.sw.at hi
theorem Rn.swp {W0 w : World} {B g cap cb r : Nat} {d : Array Sp} (h : Rn W0 B g cap cb r d w) {i j : Nat} (hi : i < d.size) (hj : j < d.size) :
    Rn W0 B g cap cb r (Go.Sort.swp d i j) ((((w.setCell ⟨g, i * 2, none⟩ (.int .i64 d[j]!.1)).setCell ⟨g, i * 2 + 1, none⟩ (.int .i64 d[j]!.2)).setCell ⟨g, j * 2, none⟩ (.int .i64 d[i]!.1)).setCell ⟨g, j * 2 + 1, none⟩ (.int .i64 d[i]!.2)) := by
  have hlo := h.lo
  have hgw := h.gw
  have hne : g ≠ cb := by omega
  refine ⟨h.sw.swp hi hj, ?_, ?_, h.lo, h.gw⟩
  · rw [World.cell?_setCell_far _ _ _ _ hne, World.cell?_setCell_far _ _ _ _ hne, World.cell?_setCell_far _ _ _ _ hne, World.cell?_setCell_far _ _ _ _ hne]
    exact h.cell
  · simp only [World.frozen?_setCell]
    exact h.free
theorem rnDrew {W0 w : World} {B g cap cb r : Nat} {d : Array Sp} (h : Hid (Rn W0 B g cap cb r d w)) : Hid (Rn W0 B g cap cb r d w.drew) := h.out.drew
theorem next_calls (cb R0 : Nat) (hR : R0 < 18446744073709551616) (w : World) (hc : w.cell? ⟨cb, 0, none⟩ = some (.int .u64 R0)) (hf : w.frozen? ⟨cb, 0, none⟩ = false) :
    Calls Tryz.prog 84 #[.pointer (some ⟨cb, 0, none⟩)] w fun e w' => e = .returned (.int .u64 (xorNextN R0 : Nat)) ∧ w' = (w.setCell ⟨cb, 0, none⟩ (.int .u64 (xorNextN R0 : Nat))).drewN 3 :=
  AnyF.xorshift_Next YtfnlnigeaioocaaGreat.xorL cb 0 R0 hR w hc hf
theorem pow_calls (L : Nat) (hL : L < 4611686018427387904) (w : World) :
    Calls Tryz.prog 83 #[.int .i64 L] w fun e w' => e = .returned (.int .u64 ((1 <<< bitsLen L : Nat) : Int)) ∧ w' = w :=
  AnyF.nextPowerOfTwo YtfnlnigeaioocaaGreat.powL L hL w

set_option maxHeartbeats 8000000 in
set_option maxRecDepth 200000 in
theorem break_any (W0 : World) (B g cap n a L : Nat) (d : Array Sp) (w : World) (hn : d.size = n) (hsz : n ≤ 1048576) (h8 : 8 ≤ L) (hb : a + L ≤ n) (hgw : g < W0.heap.size) (hS : Sw W0 B g cap d w) :
    Calls Tryz.prog 100 #[.slice (some ⟨g, 0, none⟩) n cap, .int .i64 (a : Int), .int .i64 ((a + L : Nat) : Int), ordV] w fun e w' => e = .returned (.tuple #[]) ∧ Sw W0 B g cap (breakPatterns d a (a + L)) w' := by
  unfold ordV
  rw [breakPatterns_eq d a L h8]
  obtain ⟨M, hM⟩ : ∃ M : Nat, M = 1 <<< bitsLen L := ⟨_, rfl⟩
  have hM1 : 1 ≤ M := by rw [hM, Nat.one_shiftLeft]; exact Nat.two_pow_pos _
  have hM2 : M ≤ 2 * L := by rw [hM, Nat.one_shiftLeft]; exact two_pow_bitsLen_le (by omega)
  have hNP : ∀ w, Calls Tryz.prog 83 #[.int .i64 (L : Int)] w fun e w' => e = .returned (.int .u64 (M : Int)) ∧ w' = w := by rw [hM]; exact fun w => pow_calls L (by omega) w
  rw [← hM]
  clear hM
  obtain ⟨i0, hi0⟩ : ∃ i0 : Nat, i0 = a + L / 4 * 2 - 1 := ⟨_, rfl⟩
  rw [← hi0]
  have i0I : (a : Int) + (L : Int) / 4 * 2 - 1 = (i0 : Int) := by omega
  clear hi0
  have hLz : ((a : Int) + (L : Int) - (a : Int)) = (L : Int) := by omega
  have h8z : (8 : Int) ≤ (L : Int) := by omega
  have HR0 : Hid (∀ ty, Rn W0 B g cap w.heap.size L d (w.alloc (.cells #[.int .u64 (L : Int)] ty))) := fun ty => ⟨hS.on (below_alloc w _), by simp, by simp, hS.gr.size, hgw⟩
  clear hS
  go_enter Tryz.func100, Tryz.ntmps100
  go_wp2_with (first | (go_at_call 83; refine (hNP _).mono ?_; rintro e w' ⟨rfl, rfl⟩))
  go_loopw [11] (fun t11 wr => ∃ (p t : Nat) (ru : UInt64) (rr : Nat) (dk : Array Sp), t11 = .int .i64 (p : Int) ∧ t ≤ 3 ∧ dk.size = n ∧ Hid (p = i0 + t ∧ rr = ru.toNat) ∧ Hid (Rn W0 B g cap w.heap.size rr dk wr) ∧ Hid (bpRest a L M i0 (3 - t) t (ru, dk) = bpRest a L M i0 3 0 (UInt64.ofNat L, d))) (fun t11 _ => i0 + 3 - (intOf t11).toNat)
  case atStart =>
    refine ⟨i0, 0, UInt64.ofNat L, L, d, by go_num, by omega, hn, ⟨rfl, ?_⟩, HR0.out _, rfl⟩
    rw [show (UInt64.ofNat L).toNat = L from by simp; omega]
  case round =>
    clear HR0
    obtain ⟨p, t, ru, rr, dk, rfl, ht, hdk, HP, HS, HR⟩ := hrel
    by_cases ht3 : t < 3
    · have hle : (p : Int) ≤ (a : Int) + (L : Int) / 4 * 2 + 1 := by have := HP.out.1; omega
      have p0 : (0 : Int) ≤ (p : Int) := by omega
      have p1 : (p : Int) < (n : Int) := by omega
      have p2 : (p : Int) + 1 < 9223372036854775808 := by omega
      have lR : rr < 18446744073709551616 := by rw [HP.out.2]; exact ru.toNat_lt
      obtain ⟨R1, hR1⟩ : ∃ R1 : Nat, R1 = xorNextN rr := ⟨_, rfl⟩
      have lR1 : R1 < 18446744073709551616 := by rw [hR1]; exact xorNextN_lt rr lR
      obtain ⟨O, hO⟩ : ∃ O : Nat, O = R1 &&& (M - 1) := ⟨_, rfl⟩
      have lO : O ≤ M - 1 := by rw [hO]; exact Nat.and_le_right
      have eAnd : bits .and .u64 (R1 : Int) ((M : Int) - 1) = (O : Int) := by
        rw [show ((M : Int) - 1) = ((M - 1 : Nat) : Int) by omega, bits_and_u64_nat _ _ lR1 (by omega), hO]
      have hNext : Calls Tryz.prog 84 #[.pointer (some ⟨w.heap.size, 0, none⟩)] wr fun e w' => e = .returned (.int .u64 (R1 : Int)) ∧ w' = (wr.setCell ⟨w.heap.size, 0, none⟩ (.int .u64 (R1 : Int))).drewN 3 := by
        rw [hR1]; exact next_calls _ rr lR wr HS.out.cell HS.out.free
      have HN : Hid (R1 = (xorNext ru).toNat ∧ O = (xorNext ru).toNat &&& (M - 1)) := by
        have e : R1 = (xorNext ru).toNat := by rw [hR1, HP.out.2, xorNext_toNat]
        exact ⟨e, by rw [hO, e]⟩
      have HS2 : Hid (Rn W0 B g cap w.heap.size R1 dk ((wr.setCell ⟨w.heap.size, 0, none⟩ (.int .u64 (R1 : Int))).drewN 3)) := (HS.out.bump R1).on (below_drewN (Below.refl _ _) 3)
      clear hR1 hO HS lR
      generalize (wr.setCell ⟨w.heap.size, 0, none⟩ (.int .u64 (R1 : Int))).drewN 3 = w2 at hNext HS2
      have HS := HS2
      clear HS2
      by_cases hLO : L ≤ O
      · have hLOz :  (L : Int) ≤ (O : Int) := by omega
        obtain ⟨q, hq⟩ : ∃ q, q = a + (O - L) := ⟨_, rfl⟩
        have hqI : (a : Int) + ((O : Int) - (L : Int)) = (q : Int) := by omega
        have q0 : (0 : Int) ≤ (q : Int) := by omega
        have q1 : (q : Int) < (n : Int) := by omega
        have HB : Hid (bpRest a L M i0 (3 - t) t (ru, dk) = bpRest a L M i0 (3 - (t + 1)) (t + 1) (xorNext ru, swp dk p q)) := by
          unfold Hid
          rw [bp_step a L M i0 t ru dk (O - L) ht3 (by rw [← HN.out.2, if_pos (by omega)]), HP.out.1, hq]
        clear hq
        go_wp2_with (go_at_call 84; refine hNext.mono ?_; rintro e w' ⟨rfl, hw'⟩; obtain rfl : w2 = w' := hw'.symm)
        have hxy := cmp_lt dk[p]! dk[q]!
        obtain ⟨x0, x1⟩ := HS.out.at (i := p) (by omega)
        obtain ⟨y0, y1⟩ := HS.out.at (i := q) (by omega)
        have HWW : Hid _ := fun w' (h : Rn W0 B g cap w.heap.size R1 dk w') => h.swp (i := p) (j := q) (by omega) (by omega)
        obtain ⟨⟨xt, xa⟩, hx⟩ : ∃ x, dk[p]! = x := ⟨_, rfl⟩
        obtain ⟨⟨yt, ya⟩, hy⟩ : ∃ x, dk[q]! = x := ⟨_, rfl⟩
        rw [hx, hy] at hxy HWW
        rw [hx] at x0 x1
        rw [hy] at y0 y1
        simp only at x0 x1 y0 y1 hxy
        have hC := fun w => order_any xt xa yt ya w
        generalize cmpS xt xa yt ya = r at hC hxy
        clear hxy hC x0 x1 y0 y1
        have hSd := (rnDrew HS).out
        obtain ⟨x0, x1⟩ := hSd.at (i := p) (by omega)
        obtain ⟨y0, y1⟩ := hSd.at (i := q) (by omega)
        rw [hx] at x0 x1
        rw [hy] at y0 y1
        obtain ⟨u0, u1, u2, u3, ⟨e0, f0⟩, ⟨e1, f1⟩, ⟨e2, f2⟩, ⟨e3, f3⟩⟩ := HS.out.sw.steps (i := p) (j := q) (by omega) (by omega) (.int .i64 yt) (.int .i64 ya) (.int .i64 xt)
        have HF : Hid (Rn W0 B g cap w.heap.size R1 (swp dk p q) ((((w2.setCell ⟨g, p * 2, none⟩ (.int .i64 yt)).setCell ⟨g, p * 2 + 1, none⟩ (.int .i64 ya)).setCell ⟨g, q * 2, none⟩ (.int .i64 xt)).setCell ⟨g, q * 2 + 1, none⟩ (.int .i64 xa)).drew) := HWW.out _ hSd
        simp only at x0 x1 y0 y1
        clear hSd hx hy e0
        refine wp_region_held_drew (S := fun w' => True) (by kernel_rfl) trivial (fun hHeld => ?_)
        refine tkH 0 ((.slice (some ⟨g, 0, none⟩) n cap)) rfl (Or.inl ⟨by rfl, by intro w hSw; go_simp⟩) hHeld ?_
        simp only [tkS, Act.put]
        refine tkH 1 ((.int .i64 (p : Int))) rfl (Or.inl ⟨by rfl, by intro w hSw; go_simp⟩) hHeld ?_
        simp only [tkS, Act.put]
        refine tkH 2 ((.slice (some ⟨g, 0, none⟩) n cap)) rfl (Or.inl ⟨by rfl, by intro w hSw; go_simp⟩) hHeld ?_
        simp only [tkS, Act.put]
        refine tkH 3 ((.int .i64 (a : Int))) rfl (Or.inl ⟨by rfl, by intro w hSw; go_simp⟩) hHeld ?_
        simp only [tkS, Act.put]
        refine tkH 4 ((.int .i64 ((O : Int) - (L : Int)))) rfl (Or.inl ⟨by rfl, by intro w hSw; go_simp⟩) hHeld ?_
        simp only [tkS, Act.put]
        refine tkH 5 ((.int .i64 (q : Int))) rfl (Or.inl ⟨by rfl, by intro w hSw; go_simp; rw [IntKind.wrap_i64]; omega⟩) hHeld ?_
        simp only [tkS, Act.put]
        refine tkH 6 ((.slice (some ⟨g, 0, none⟩) n cap)) rfl (Or.inl ⟨by rfl, by intro w hSw; go_simp⟩) hHeld ?_
        simp only [tkS, Act.put]
        refine tkH 7 ((.int .i64 (a : Int))) rfl (Or.inl ⟨by rfl, by intro w hSw; go_simp⟩) hHeld ?_
        simp only [tkS, Act.put]
        refine tkH 8 ((.int .i64 ((O : Int) - (L : Int)))) rfl (Or.inl ⟨by rfl, by intro w hSw; go_simp⟩) hHeld ?_
        simp only [tkS, Act.put]
        refine tkH 9 ((.int .i64 (q : Int))) rfl (Or.inl ⟨by rfl, by intro w hSw; go_simp; rw [IntKind.wrap_i64]; omega⟩) hHeld ?_
        simp only [tkS, Act.put]
        refine tkH 10 ((.pointer (some ⟨g, q * 2, none⟩))) rfl (Or.inl ⟨by rfl, by intro w hSw; go_simp⟩) hHeld ?_
        simp only [tkS, Act.put]
        refine tkH 12 ((.slice (some ⟨g, 0, none⟩) n cap)) rfl (Or.inl ⟨by rfl, by intro w hSw; go_simp⟩) hHeld ?_
        simp only [tkS, Act.put]
        refine tkH 13 ((.int .i64 (p : Int))) rfl (Or.inl ⟨by rfl, by intro w hSw; go_simp⟩) hHeld ?_
        simp only [tkS, Act.put]
        refine tkH 14 ((.pointer (some ⟨g, p * 2, none⟩))) rfl (Or.inl ⟨by rfl, by intro w hSw; go_simp⟩) hHeld ?_
        simp only [tkS, Act.put]
        refine wpAnyH_ready (rs := [11, 15]) (by kernel_rfl) (by simp) ?_
        refine AllReadyH.cons rfl (fun K hK => ?wayA1) (AllReadyH.cons rfl (fun K hK => ?wayB1) AllReadyH.nil)
        case' wayA1 =>
          go_simp
          refine hK.out _ _ trivial (fun hHeld1 => ?_)
          clear hK K
          refine wpAnyH_ready (rs := [15]) (by kernel_rfl) (by simp) ?_
          refine AllReadyH.cons rfl (fun K hK => ?_) AllReadyH.nil
          go_simp
          refine hK.out _ _ trivial (fun hHeld2 => ?_)
          clear hK K
        case' wayB1 =>
          go_simp
          refine hK.out _ _ trivial (fun hHeld1 => ?_)
          clear hK K
          refine wpAnyH_ready (rs := [11]) (by kernel_rfl) (by simp) ?_
          refine AllReadyH.cons rfl (fun K hK => ?_) AllReadyH.nil
          go_simp
          refine hK.out _ _ trivial (fun hHeld2 => ?_)
          clear hK K
        all_goals
          refine wpAnyH_take (i := 16) (v := (.pointer (some ⟨g, p * 2, none⟩))) rfl (by kernel_rfl) (by kernel_rfl) (by kernel_rfl) (fun _ _ _ h => h) (Or.inl ⟨by rfl, by intro w hSw; go_simp⟩) hHeld2 ?_
          simp only [tkS, Act.put]
          refine wpAnyH_ready (rs := [17]) (by kernel_rfl) (by simp) ?_
          refine AllReadyH.cons rfl (fun K hK => ?_) AllReadyH.nil
          go_simp
          refine hK.out _ _ trivial (fun hHeld3 => ?_)
          clear hK K
          refine wpAnyH_take (i := 18) (v := (.pointer (some ⟨g, q * 2, none⟩))) rfl (by kernel_rfl) (by kernel_rfl) (by kernel_rfl) (fun _ _ _ h => h) (Or.inl ⟨by rfl, by intro w hSw; go_simp⟩) hHeld3 ?_
          simp only [tkS, Act.put]
          refine wpAnyH_ready (rs := [19]) (by kernel_rfl) (by simp) ?_
          refine AllReadyH.cons rfl (fun K hK => ?_) AllReadyH.nil
          go_simp
          refine hK.out _ _ trivial (fun hHeld4 => ?_)
          clear hK K
          refine wpAnyH_done (by kernel_rfl) ?_ _
        all_goals
          go_wp2_with fail
          go_roundw
          case rel => exact ⟨p + 1, t + 1, xorNext ru, R1, swp dk p q, by go_num, by omega, by rw [swp_size]; exact hdk, ⟨by rw [HP.out.1]; omega, HN.out.1⟩, HF, by unfold Hid; rw [← HR.out, HB.out]⟩
          case measure => have := HP.out.1; simp [intOf]; omega
      · have hLOz : ¬ (L : Int) ≤ (O : Int) := by omega
        obtain ⟨q, hq⟩ : ∃ q, q = a + (O) := ⟨_, rfl⟩
        have hqI : (a : Int) + (O : Int) = (q : Int) := by omega
        have q0 : (0 : Int) ≤ (q : Int) := by omega
        have q1 : (q : Int) < (n : Int) := by omega
        have HB : Hid (bpRest a L M i0 (3 - t) t (ru, dk) = bpRest a L M i0 (3 - (t + 1)) (t + 1) (xorNext ru, swp dk p q)) := by
          unfold Hid
          rw [bp_step a L M i0 t ru dk (O) ht3 (by rw [← HN.out.2, if_neg (by omega)]), HP.out.1, hq]
        clear hq
        go_wp2_with (go_at_call 84; refine hNext.mono ?_; rintro e w' ⟨rfl, hw'⟩; obtain rfl : w2 = w' := hw'.symm)
        have hxy := cmp_lt dk[p]! dk[q]!
        obtain ⟨x0, x1⟩ := HS.out.at (i := p) (by omega)
        obtain ⟨y0, y1⟩ := HS.out.at (i := q) (by omega)
        have HWW : Hid _ := fun w' (h : Rn W0 B g cap w.heap.size R1 dk w') => h.swp (i := p) (j := q) (by omega) (by omega)
        obtain ⟨⟨xt, xa⟩, hx⟩ : ∃ x, dk[p]! = x := ⟨_, rfl⟩
        obtain ⟨⟨yt, ya⟩, hy⟩ : ∃ x, dk[q]! = x := ⟨_, rfl⟩
        rw [hx, hy] at hxy HWW
        rw [hx] at x0 x1
        rw [hy] at y0 y1
        simp only at x0 x1 y0 y1 hxy
        have hC := fun w => order_any xt xa yt ya w
        generalize cmpS xt xa yt ya = r at hC hxy
        clear hxy hC x0 x1 y0 y1
        have hSd := (rnDrew HS).out
        obtain ⟨x0, x1⟩ := hSd.at (i := p) (by omega)
        obtain ⟨y0, y1⟩ := hSd.at (i := q) (by omega)
        rw [hx] at x0 x1
        rw [hy] at y0 y1
        obtain ⟨u0, u1, u2, u3, ⟨e0, f0⟩, ⟨e1, f1⟩, ⟨e2, f2⟩, ⟨e3, f3⟩⟩ := HS.out.sw.steps (i := p) (j := q) (by omega) (by omega) (.int .i64 yt) (.int .i64 ya) (.int .i64 xt)
        have HF : Hid (Rn W0 B g cap w.heap.size R1 (swp dk p q) ((((w2.setCell ⟨g, p * 2, none⟩ (.int .i64 yt)).setCell ⟨g, p * 2 + 1, none⟩ (.int .i64 ya)).setCell ⟨g, q * 2, none⟩ (.int .i64 xt)).setCell ⟨g, q * 2 + 1, none⟩ (.int .i64 xa)).drew) := HWW.out _ hSd
        simp only at x0 x1 y0 y1
        clear hSd hx hy e0
        refine wp_region_held_drew (S := fun w' => True) (by kernel_rfl) trivial (fun hHeld => ?_)
        refine tkH 0 ((.slice (some ⟨g, 0, none⟩) n cap)) rfl (Or.inl ⟨by rfl, by intro w hSw; go_simp⟩) hHeld ?_
        simp only [tkS, Act.put]
        refine tkH 1 ((.int .i64 (p : Int))) rfl (Or.inl ⟨by rfl, by intro w hSw; go_simp⟩) hHeld ?_
        simp only [tkS, Act.put]
        refine tkH 2 ((.slice (some ⟨g, 0, none⟩) n cap)) rfl (Or.inl ⟨by rfl, by intro w hSw; go_simp⟩) hHeld ?_
        simp only [tkS, Act.put]
        refine tkH 3 ((.int .i64 (a : Int))) rfl (Or.inl ⟨by rfl, by intro w hSw; go_simp⟩) hHeld ?_
        simp only [tkS, Act.put]
        refine tkH 4 ((.int .i64 (O : Int))) rfl (Or.inl ⟨by rfl, by intro w hSw; go_simp⟩) hHeld ?_
        simp only [tkS, Act.put]
        refine tkH 5 ((.int .i64 (q : Int))) rfl (Or.inl ⟨by rfl, by intro w hSw; go_simp; rw [IntKind.wrap_i64]; omega⟩) hHeld ?_
        simp only [tkS, Act.put]
        refine tkH 6 ((.slice (some ⟨g, 0, none⟩) n cap)) rfl (Or.inl ⟨by rfl, by intro w hSw; go_simp⟩) hHeld ?_
        simp only [tkS, Act.put]
        refine tkH 7 ((.int .i64 (a : Int))) rfl (Or.inl ⟨by rfl, by intro w hSw; go_simp⟩) hHeld ?_
        simp only [tkS, Act.put]
        refine tkH 8 ((.int .i64 (O : Int))) rfl (Or.inl ⟨by rfl, by intro w hSw; go_simp⟩) hHeld ?_
        simp only [tkS, Act.put]
        refine tkH 9 ((.int .i64 (q : Int))) rfl (Or.inl ⟨by rfl, by intro w hSw; go_simp; rw [IntKind.wrap_i64]; omega⟩) hHeld ?_
        simp only [tkS, Act.put]
        refine tkH 10 ((.pointer (some ⟨g, q * 2, none⟩))) rfl (Or.inl ⟨by rfl, by intro w hSw; go_simp⟩) hHeld ?_
        simp only [tkS, Act.put]
        refine tkH 12 ((.slice (some ⟨g, 0, none⟩) n cap)) rfl (Or.inl ⟨by rfl, by intro w hSw; go_simp⟩) hHeld ?_
        simp only [tkS, Act.put]
        refine tkH 13 ((.int .i64 (p : Int))) rfl (Or.inl ⟨by rfl, by intro w hSw; go_simp⟩) hHeld ?_
        simp only [tkS, Act.put]
        refine tkH 14 ((.pointer (some ⟨g, p * 2, none⟩))) rfl (Or.inl ⟨by rfl, by intro w hSw; go_simp⟩) hHeld ?_
        simp only [tkS, Act.put]
        refine wpAnyH_ready (rs := [11, 15]) (by kernel_rfl) (by simp) ?_
        refine AllReadyH.cons rfl (fun K hK => ?wayA2) (AllReadyH.cons rfl (fun K hK => ?wayB2) AllReadyH.nil)
        case' wayA2 =>
          go_simp
          refine hK.out _ _ trivial (fun hHeld1 => ?_)
          clear hK K
          refine wpAnyH_ready (rs := [15]) (by kernel_rfl) (by simp) ?_
          refine AllReadyH.cons rfl (fun K hK => ?_) AllReadyH.nil
          go_simp
          refine hK.out _ _ trivial (fun hHeld2 => ?_)
          clear hK K
        case' wayB2 =>
          go_simp
          refine hK.out _ _ trivial (fun hHeld1 => ?_)
          clear hK K
          refine wpAnyH_ready (rs := [11]) (by kernel_rfl) (by simp) ?_
          refine AllReadyH.cons rfl (fun K hK => ?_) AllReadyH.nil
          go_simp
          refine hK.out _ _ trivial (fun hHeld2 => ?_)
          clear hK K
        all_goals
          refine wpAnyH_take (i := 16) (v := (.pointer (some ⟨g, p * 2, none⟩))) rfl (by kernel_rfl) (by kernel_rfl) (by kernel_rfl) (fun _ _ _ h => h) (Or.inl ⟨by rfl, by intro w hSw; go_simp⟩) hHeld2 ?_
          simp only [tkS, Act.put]
          refine wpAnyH_ready (rs := [17]) (by kernel_rfl) (by simp) ?_
          refine AllReadyH.cons rfl (fun K hK => ?_) AllReadyH.nil
          go_simp
          refine hK.out _ _ trivial (fun hHeld3 => ?_)
          clear hK K
          refine wpAnyH_take (i := 18) (v := (.pointer (some ⟨g, q * 2, none⟩))) rfl (by kernel_rfl) (by kernel_rfl) (by kernel_rfl) (fun _ _ _ h => h) (Or.inl ⟨by rfl, by intro w hSw; go_simp⟩) hHeld3 ?_
          simp only [tkS, Act.put]
          refine wpAnyH_ready (rs := [19]) (by kernel_rfl) (by simp) ?_
          refine AllReadyH.cons rfl (fun K hK => ?_) AllReadyH.nil
          go_simp
          refine hK.out _ _ trivial (fun hHeld4 => ?_)
          clear hK K
          refine wpAnyH_done (by kernel_rfl) ?_ _
        all_goals
          go_wp2_with fail
          go_roundw
          case rel => exact ⟨p + 1, t + 1, xorNext ru, R1, swp dk p q, by go_num, by omega, by rw [swp_size]; exact hdk, ⟨by rw [HP.out.1]; omega, HN.out.1⟩, HF, by unfold Hid; rw [← HR.out, HB.out]⟩
          case measure => have := HP.out.1; simp [intOf]; omega
    · have ht33 : t = 3 := by omega
      have hle : ¬ (p : Int) ≤ (a : Int) + (L : Int) / 4 * 2 + 1 := by have := HP.out.1; omega
      rw [ht33] at HR
      go_wp2_with fail
      go_end0
      refine ⟨rfl, ?_⟩
      rw [← HR.out]
      exact HS.out.sw

end Go.Proofs.YtfnlnigeaioocaaGreat
