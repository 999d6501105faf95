/- The specification's l08Grow: three devices that work and tell each other. -/
import Derived.Test.YtmmkmkaannlkhaaGreatDoorQGrowBase
import Derived.Test.YtmmkmkaannlkhaaGreatDoorQSpecAddAny
import Derived.Test.YtmmkmkaannlkhaaGreatDoorQDrawSome
namespace Go.Proofs.YtmmkmkaannlkhaaGreatDoor
open Go.RowKit
set_option linter.unusedVariables false

/-- Three empty logs. -/
theorem Gw.start {C : Nat} {w : World} {b A : Nat} (h : Src C w b A) : Gw C w ((((w.alloc (.cells #[] 29)).alloc (.cells #[] 29)).alloc (.cells #[] 29)).alloc (.cells #[.slice (some ⟨w.heap.size, 0, none⟩) 0 0, .slice (some ⟨w.heap.size + 1, 0, none⟩) 0 0, .slice (some ⟨w.heap.size + 1 + 1, 0, none⟩) 0 0] 33)) b A (w.heap.size + 1 + 1 + 1) (fun k => .slice (some ⟨w.heap.size + k, 0, none⟩) 0 0) (fun _ => []) 0 2048 := by
  have hb := below_then (below_then (below_then (below_alloc w (.cells #[] 29)) (.cells #[] 29)) (.cells #[] 29)) (.cells #[.slice (some ⟨w.heap.size, 0, none⟩) 0 0, .slice (some ⟨w.heap.size + 1, 0, none⟩) 0 0, .slice (some ⟨w.heap.size + 1 + 1, 0, none⟩) 0 0] 33)
  refine ⟨h.below hb h.lt, grownBy_below hb (Nat.le_refl _) _, ?_, by omega, h.lt, fun k hk => ⟨⟨_, 0, rfl, Nat.le_refl _, Nat.zero_le _, fun _ => rfl, fun hp => absurd hp (by simp)⟩, fun x hx => absurd hx (by simp)⟩, fun k hk => drL_nil _ _ _⟩
  have e := heap_alloc_new (((w.alloc (.cells #[] 29)).alloc (.cells #[] 29)).alloc (.cells #[] 29)) (.cells #[.slice (some ⟨w.heap.size, 0, none⟩) 0 0, .slice (some ⟨w.heap.size + 1, 0, none⟩) 0 0, .slice (some ⟨w.heap.size + 1 + 1, 0, none⟩) 0 0] 33)
  simp only [World.size_alloc] at e
  exact e

set_option maxHeartbeats 8000000 in
set_option maxRecDepth 100000 in
theorem l08Grow_any (C b A m : Nat) (w : World) (h : Src C w b A) (hA : A ≤ 1000000) (hm1 : 1 ≤ m) (hm : m ≤ 24) :
    Calls Tryz.prog 17 #[.pointer (some ⟨b, 0, none⟩), .int .i64 (m : Int)] w fun e w' => ∃ gl V LL, e = .returned (.slice (some ⟨gl, 0, none⟩) 3 3) ∧ Gw C w w' b (A + 4000) gl V LL 72 2120 := by
  have hG0 := Gw.start h
  clear h
  go_enter Tryz.func17, Tryz.ntmps17
  go_wp2_with fail
  generalize hgl : w.heap.size + 1 + 1 + 1 = gl at *
  generalize (((w.alloc (.cells #[] 29)).alloc (.cells #[] 29)).alloc (.cells #[] 29)).alloc (.cells #[.slice (some ⟨w.heap.size, 0, none⟩) 0 0, .slice (some ⟨w.heap.size + 1, 0, none⟩) 0 0, .slice (some ⟨w.heap.size + 1 + 1, 0, none⟩) 0 0] 33) = w0 at *
  clear hgl
  refine (size_any C b A (m : Int) w0 hG0.src (by omega)).mono ?_
  rintro e w1 ⟨sz, rfl, hs1, hs2, hw1⟩
  obtain rfl := hw1.symm
  go_wp2_with fail
  refine (srcNext_any C b A (3 * sz + 1) w0 hG0.src (by omega) (by omega) (by omega)).mono ?_
  rintro e w6 ⟨n0, rfl, hn0, hn1, hS, hG⟩
  obtain ⟨i0, rfl⟩ := Int.eq_ofNat_of_zero_le hn0
  have hi0 : i0 ≤ 72 := by omega
  have hG1 := hG0.next hS hG
  clear hG0 hS hG hn1 hn0 hs1 hs2
  go_wp2_with fail
  go_loopw [6] (fun ti wr => ∃ (i j : Nat) (V : Nat → Value) (LL : Nat → List Ov), i + j ≤ 72 ∧ ti = .int .i64 (i : Int) ∧ Gw C w wr b (A + 10 + 50 * j) gl V LL j (2048 + j)) (fun ti _ => (intOf ti).toNat)
  case atStart => exact ⟨i0, 0, _, _, by omega, rfl, hG1.mono (by omega) (by omega) (by omega)⟩
  case round =>
    clear hG1 hi0
    obtain ⟨i, j, V, LL, hij, rfl, hW⟩ := hrel
    cases i with
    | zero =>
      go_wp2_with fail
      go_ret
      exact ⟨gl, V, LL, rfl, hW.mono (by omega) (by omega) (by omega)⟩
    | succ i =>
      have hki : (0 : Int) < ((i + 1 : Nat) : Int) := by omega
      go_wp2_with fail
      refine (srcNext_any C b _ 3 wr hW.src (by omega) (by omega) (by omega)).mono ?_
      rintro e w1 ⟨r, rfl, hr0, hr1, hS, hG⟩
      obtain ⟨k, rfl⟩ := Int.eq_ofNat_of_zero_le hr0
      have hk : k < 3 := by omega
      have hki0 : (0 : Int) ≤ (k : Int) := by omega
      have hki3 : (k : Int) < 3 := by omega
      have hW1 := hW.next hS hG
      clear hW hS hG hr0 hr1
      go_wp2_with fail
      refine (chance_any C b _ 4 w1 hW1.src (by omega) (by omega) (by omega)).mono ?_
      rintro e w2 ⟨c, rfl, hS, hG⟩
      have hW2 := hW1.next hS hG
      clear hW1 hS hG
      cases c with
      | true =>
        go_wp2_with fail
        have hWd := hW2.drew
        refine wp_region_held_drew (S := fun w' => w'.heap[gl]? = some (.cells #[V 0, V 1, V 2] 33 (0, 0))) (by kernel_rfl) hWd.row (fun hHeld => ?_)
        clear hW2
        generalize w2.drew = w3 at *
        refine tkH 0 (.slice (some ⟨gl, 0, none⟩) 3 3) rfl (Or.inl ⟨by kernel_rfl, by intro w hSw; clear hSw; go_simp⟩) hHeld ?_
        simp only [tkS, Act.put]
        refine tkH 1 (.int .i64 (k : Int)) rfl (Or.inl ⟨by kernel_rfl, by intro w hSw; clear hSw; go_simp⟩) hHeld ?_
        simp only [tkS, Act.put]
        refine tkH 2 (.pointer (some ⟨gl, k, none⟩)) rfl (Or.inl ⟨by kernel_rfl, by intro w hSw; clear hSw; go_simp⟩) hHeld ?_
        simp only [tkS, Act.put]
        refine tkH 3 (V k) rfl (Or.inl ⟨by kernel_rfl, by intro w hSw; have s0 := blk_cell hSw k (row3 V k hk); clear hSw; go_simp⟩) hHeld ?_
        simp only [tkS, Act.put]
        refine tkH 4 (.slice (some ⟨gl, 0, none⟩) 3 3) rfl (Or.inl ⟨by kernel_rfl, by intro w hSw; clear hSw; go_simp⟩) hHeld ?_
        simp only [tkS, Act.put]
        refine tkH 5 (.pointer (some ⟨b, 0, none⟩)) rfl (Or.inl ⟨by kernel_rfl, by intro w hSw; clear hSw; go_simp⟩) hHeld ?_
        simp only [tkS, Act.put]
        refine wpAnyH_ready (rs := [6]) (by kernel_rfl) (by simp) ?_
        refine AllReadyH.cons rfl (fun K hK => ?_) AllReadyH.nil
        go_simp
        refine (srcNext_any C b _ 3 w3 hWd.src (by omega) (by omega) (by omega)).mono ?_
        rintro e w4 ⟨r2, rfl, h20, h21, hS2, hG2⟩
        obtain ⟨q, rfl⟩ := Int.eq_ofNat_of_zero_le h20
        have hq : q < 3 := by omega
        have hW4 := hWd.next hS2 hG2
        clear hWd hS2 hG2
        go_wp2_with fail
        refine hK.out _ _ (hW4.row) (fun hHeld => ?_)
        clear hK K
        try simp only [tkS, Act.put]
        refine tkH 7 (.pointer (some ⟨gl, q, none⟩)) rfl (Or.inl ⟨by kernel_rfl, by intro w hSw; clear hSw; go_simp⟩) hHeld ?_
        simp only [tkS, Act.put]
        refine tkH 8 (V q) rfl (Or.inl ⟨by kernel_rfl, by intro w hSw; have s0 := blk_cell hSw q (row3 V q hq); clear hSw; go_simp⟩) hHeld ?_
        simp only [tkS, Act.put]
        refine wpAnyH_ready (rs := [9]) (by kernel_rfl) (by simp) ?_
        refine AllReadyH.cons rfl (fun K hK => ?_) AllReadyH.nil
        have hla := specAdd_any w4.heap.size w4 (V k) (V q) (LL k) (LL q) (Nat.le_refl _) (hW4.log k hk) (hW4.log q hq)
        obtain ⟨z, HZ⟩ : ∃ z, Hid ((resAdd (LL k) (LL q)).1 = z) := ⟨_, rfl⟩
        rw [HZ.out] at hla
        clear HZ
        go_simp
        refine hla.mono ?_
        rintro e w5 ⟨v0, v1, S0, S1, rfl, hs0, -, hR0, hR1, hb5⟩
        obtain ⟨xa, xc, rfl⟩ : ∃ a c, v0 = .slice a S0.length c := by obtain ⟨⟨a, c, h, _⟩, _⟩ := hR0; exact ⟨a, c, h⟩
        have hD5 := drL_add (hW4.dr k hk) (hW4.dr q hq) hs0 (by omega)
        have hW5 := hW4.below hb5
        clear hla hs0 hb5 hR1
        go_wp2_with fail
        refine hK.out _ _ (hW5.row) (fun hHeld => ?_)
        clear hK K
        try simp only [tkS, Act.put]
        refine tkH 10 (.tuple #[.slice xa S0.length xc, v1, .int .i64 z]) rfl (Or.inl ⟨by kernel_rfl, by intro w hSw; clear hSw; go_simp⟩) hHeld ?_
        simp only [tkS, Act.put]
        refine tkH 11 (.slice xa S0.length xc) rfl (Or.inl ⟨by kernel_rfl, by intro w hSw; clear hSw; go_simp⟩) hHeld ?_
        simp only [tkS, Act.put]
        refine tkH 12 (v1) rfl (Or.inl ⟨by kernel_rfl, by intro w hSw; clear hSw; go_simp⟩) hHeld ?_
        simp only [tkS, Act.put]
        refine tkH 13 (.int .i64 z) rfl (Or.inl ⟨by kernel_rfl, by intro w hSw; clear hSw; go_simp⟩) hHeld ?_
        simp only [tkS, Act.put]
        refine tkH 14 (.slice xa S0.length xc) rfl (Or.inl ⟨by kernel_rfl, by intro w hSw; clear hSw; go_simp⟩) hHeld ?_
        simp only [tkS, Act.put]
        refine tkH 15 (v1) rfl (Or.inl ⟨by kernel_rfl, by intro w hSw; clear hSw; go_simp⟩) hHeld ?_
        simp only [tkS, Act.put]
        refine tkH 16 (.int .i64 z) rfl (Or.inl ⟨by kernel_rfl, by intro w hSw; clear hSw; go_simp⟩) hHeld ?_
        simp only [tkS, Act.put]
        refine wpAnyH_done (by kernel_rfl) ?_ _
        by_cases hz : z = 0
        · subst hz
          have c5 := hW5.at hk
          have f5 := hW5.free k
          go_wp2_with fail
          go_roundw
          case rel => exact ⟨i, j + 1, _, _, by omega, by go_num, (hW5.put hk hR0 hD5).mono (by omega) (by omega) (by omega)⟩
          case measure => simp [intOf]
        · have hzb : (z == 0) = false := by simpa using hz
          clear hz
          go_wp2_with fail
          go_roundw
          case rel => exact ⟨i, j + 1, _, _, by omega, by go_num, (hW5).mono (by omega) (by omega) (by omega)⟩
          case measure => simp [intOf]
      | false =>
        go_wp2_with fail
        have hWd := hW2.drew
        refine wp_region_held_drew (S := fun w' => True) (by kernel_rfl) trivial (fun hHeld => ?_)
        clear hW2
        generalize w2.drew = w3 at *
        have c3 := hWd.at hk
        refine tkH 0 (.slice (some ⟨gl, 0, none⟩) 3 3) rfl (Or.inl ⟨by kernel_rfl, by intro w hSw; clear hSw; go_simp⟩) hHeld ?_
        simp only [tkS, Act.put]
        refine tkH 1 (.int .i64 (k : Int)) rfl (Or.inl ⟨by kernel_rfl, by intro w hSw; clear hSw; go_simp⟩) hHeld ?_
        simp only [tkS, Act.put]
        refine tkH 2 (.slice (some ⟨gl, 0, none⟩) 3 3) rfl (Or.inl ⟨by kernel_rfl, by intro w hSw; clear hSw; go_simp⟩) hHeld ?_
        simp only [tkS, Act.put]
        refine tkH 3 (.int .i64 (k : Int)) rfl (Or.inl ⟨by kernel_rfl, by intro w hSw; clear hSw; go_simp⟩) hHeld ?_
        simp only [tkS, Act.put]
        refine tkH 4 (.pointer (some ⟨gl, k, none⟩)) rfl (Or.inl ⟨by kernel_rfl, by intro w hSw; clear hSw; go_simp⟩) hHeld ?_
        simp only [tkS, Act.put]
        refine tkH 6 (.pointer (some ⟨b, 0, none⟩)) rfl (Or.inl ⟨by kernel_rfl, by intro w hSw; clear hSw; go_simp⟩) hHeld ?_
        simp only [tkS, Act.put]
        refine tkH 7 (.slice (some ⟨gl, 0, none⟩) 3 3) rfl (Or.inl ⟨by kernel_rfl, by intro w hSw; clear hSw; go_simp⟩) hHeld ?_
        simp only [tkS, Act.put]
        refine tkH 8 (.int .i64 (k : Int)) rfl (Or.inl ⟨by kernel_rfl, by intro w hSw; clear hSw; go_simp⟩) hHeld ?_
        simp only [tkS, Act.put]
        refine tkH 9 (.pointer (some ⟨gl, k, none⟩)) rfl (Or.inl ⟨by kernel_rfl, by intro w hSw; clear hSw; go_simp⟩) hHeld ?_
        simp only [tkS, Act.put]
        refine tkH 11 (.int .i64 (k : Int)) rfl (Or.inl ⟨by kernel_rfl, by intro w hSw; clear hSw; go_simp⟩) hHeld ?_
        simp only [tkS, Act.put]
        refine wpAnyH_ready (rs := [5, 10]) (by kernel_rfl) (by simp) ?_
        refine AllReadyH.cons rfl (fun K hK => ?wayA) (AllReadyH.cons rfl (fun K hK => ?wayB) AllReadyH.nil)
        case' wayA =>
          go_simp
          refine hK.out _ _ (trivial) (fun hHeld => ?_)
          clear hK K
          try simp only [tkS, Act.put]
          refine wpAnyH_ready (rs := [10]) (by kernel_rfl) (by simp) ?_
          refine AllReadyH.cons rfl (fun K hK => ?_) AllReadyH.nil
          go_simp
          refine hK.out _ _ (trivial) (fun hHeld => ?_)
          clear hK K
          try simp only [tkS, Act.put]
          refine wpAnyH_ready (rs := [12]) (by kernel_rfl) (by simp) ?_
          refine AllReadyH.cons rfl (fun K hK => ?_) AllReadyH.nil
          have hso := l08Some_any C b _ w3 (V k) (LL k) k j (by omega) (by omega) hWd.src (by omega) (hWd.log k hk) (by have := (hWd.dr k hk).1; omega) (fun x hx => ⟨⟨((hWd.dr k hk).2 x hx).1.1, by have := ((hWd.dr k hk).2 x hx).1.2; omega⟩, ((hWd.dr k hk).2 x hx).2.1, ((hWd.dr k hk).2 x hx).2.2.1⟩)
          go_simp
          refine hso.mono ?_
          rintro e w4 ⟨X, rfl, hXa, hXd, hX0, hX1, hXk, hXt, hXo, hS4, hG4⟩
          have hW4 := hWd.next hS4 hG4
          have hXr := (hXo.rd).mono (Nat.le_refl _)
          have hDX : DrO 3 (j + 1) X := ⟨⟨by omega, by omega⟩, hXd, ⟨hX0, by omega⟩, hXk, hXt⟩
          clear hso hS4 hG4 hXa hXd hX0 hX1 hXo hXk hXt
          go_wp2_with fail
          refine hK.out _ _ (trivial) (fun hHeld => ?_)
          clear hK K
          try simp only [tkS, Act.put]
        case' wayB =>
          go_simp
          refine hK.out _ _ (trivial) (fun hHeld => ?_)
          clear hK K
          try simp only [tkS, Act.put]
          refine wpAnyH_ready (rs := [5, 12]) (by kernel_rfl) (by simp) ?_
          refine AllReadyH.cons rfl (fun K hK => ?wayC) (AllReadyH.cons rfl (fun K hK => ?wayD) AllReadyH.nil)
        case' wayC =>
          go_simp
          refine hK.out _ _ (trivial) (fun hHeld => ?_)
          clear hK K
          try simp only [tkS, Act.put]
          refine wpAnyH_ready (rs := [12]) (by kernel_rfl) (by simp) ?_
          refine AllReadyH.cons rfl (fun K hK => ?_) AllReadyH.nil
          have hso := l08Some_any C b _ w3 (V k) (LL k) k j (by omega) (by omega) hWd.src (by omega) (hWd.log k hk) (by have := (hWd.dr k hk).1; omega) (fun x hx => ⟨⟨((hWd.dr k hk).2 x hx).1.1, by have := ((hWd.dr k hk).2 x hx).1.2; omega⟩, ((hWd.dr k hk).2 x hx).2.1, ((hWd.dr k hk).2 x hx).2.2.1⟩)
          go_simp
          refine hso.mono ?_
          rintro e w4 ⟨X, rfl, hXa, hXd, hX0, hX1, hXk, hXt, hXo, hS4, hG4⟩
          have hW4 := hWd.next hS4 hG4
          have hXr := (hXo.rd).mono (Nat.le_refl _)
          have hDX : DrO 3 (j + 1) X := ⟨⟨by omega, by omega⟩, hXd, ⟨hX0, by omega⟩, hXk, hXt⟩
          clear hso hS4 hG4 hXa hXd hX0 hX1 hXo hXk hXt
          go_wp2_with fail
          refine hK.out _ _ (trivial) (fun hHeld => ?_)
          clear hK K
          try simp only [tkS, Act.put]
        case' wayD =>
          have hso := l08Some_any C b _ w3 (V k) (LL k) k j (by omega) (by omega) hWd.src (by omega) (hWd.log k hk) (by have := (hWd.dr k hk).1; omega) (fun x hx => ⟨⟨((hWd.dr k hk).2 x hx).1.1, by have := ((hWd.dr k hk).2 x hx).1.2; omega⟩, ((hWd.dr k hk).2 x hx).2.1, ((hWd.dr k hk).2 x hx).2.2.1⟩)
          go_simp
          refine hso.mono ?_
          rintro e w4 ⟨X, rfl, hXa, hXd, hX0, hX1, hXk, hXt, hXo, hS4, hG4⟩
          have hW4 := hWd.next hS4 hG4
          have hXr := (hXo.rd).mono (Nat.le_refl _)
          have hDX : DrO 3 (j + 1) X := ⟨⟨by omega, by omega⟩, hXd, ⟨hX0, by omega⟩, hXk, hXt⟩
          clear hso hS4 hG4 hXa hXd hX0 hX1 hXo hXk hXt
          go_wp2_with fail
          refine hK.out _ _ (trivial) (fun hHeld => ?_)
          clear hK K
          try simp only [tkS, Act.put]
          have c4 := hW4.at hk
          refine wpAnyH_ready (rs := [5]) (by kernel_rfl) (by simp) ?_
          refine AllReadyH.cons rfl (fun K hK => ?_) AllReadyH.nil
          go_simp
          refine hK.out _ _ (trivial) (fun hHeld => ?_)
          clear hK K
          try simp only [tkS, Act.put]
          clear c4
        all_goals
          refine wpAnyH_ready (rs := [13]) (by kernel_rfl) (by simp) ?_
          refine AllReadyH.cons rfl (fun K hK => ?_) AllReadyH.nil
          have hin := l08Insert_drawn w4 (V k) (LL k) X j (2048 + j) (hW4.log k hk) (hW4.dr k hk) hDX (by omega) hXr
          go_simp
          refine hin.mono ?_
          rintro e w5 ⟨v5, M5, rfl, hR5, hD5, hb5⟩
          obtain ⟨xa, xc, rfl⟩ : ∃ a c, v5 = .slice a M5.length c := by obtain ⟨⟨a, c, h, _⟩, _⟩ := hR5; exact ⟨a, c, h⟩
          have hW5 := (hW4.below hb5).mono (Nat.le_refl _) (Nat.le_succ j) (Nat.le_succ (2048 + j))
          have c5 := hW5.at hk
          have f5 := hW5.free k
          clear hin hb5 hXr hDX hW4
          go_wp2_with fail
          refine hK.out _ _ (trivial) (fun hHeld => ?_)
          clear hK K
          try simp only [tkS, Act.put]
          refine tkH 14 (.pointer (some ⟨gl, k, none⟩)) rfl (Or.inl ⟨by kernel_rfl, by intro w hSw; clear hSw; go_simp⟩) hHeld ?_
          simp only [tkS, Act.put]
          refine wpAnyH_ready (rs := [15]) (by kernel_rfl) (by simp) ?_
          refine AllReadyH.cons rfl (fun K hK => ?_) AllReadyH.nil
          go_simp
          refine hK.out _ _ (trivial) (fun hHeld => ?_)
          clear hK K
          try simp only [tkS, Act.put]
          refine wpAnyH_done (by kernel_rfl) ?_ _
          go_wp2_with fail
          go_roundw
          case rel => exact ⟨i, j + 1, _, _, by omega, by go_num, (hW5.put hk hR5 hD5).mono (by omega) (by omega) (by omega)⟩
          case measure => simp [intOf]
end Go.Proofs.YtmmkmkaannlkhaaGreatDoor
