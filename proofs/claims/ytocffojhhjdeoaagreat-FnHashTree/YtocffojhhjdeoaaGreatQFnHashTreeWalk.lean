/- The walk of the law FnHashTree: nodes above the leaves, actors without operations, one operation more. -/
import Derived.Test.YtocffojhhjdeoaaGreatQDrawLogToDrawTree
import Derived.Test.YtocffojhhjdeoaaGreatQOpBytesSpecToLeafImpl
import Derived.Test.YtocffojhhjdeoaaGreatQLawNext
import Derived.Test.YtocffojhhjdeoaaGreatQResValid
import Derived.Test.YtocffojhhjdeoaaGreatQBuildBaseToTreeImpl
import Derived.Test.YtocffojhhjdeoaaGreatQFrame
namespace Go.Proofs.YtocffojhhjdeoaaGreat
open Go.RowKit
set_option linter.unusedVariables false

/-- A row of one operation that was just made. -/
theorem rdO_one (w : World) (X : Ov) (h : Rd w.heap.size w X.dv (X.ds.map (Value.int .i64))) : RdO (w.alloc (.cells X.cs.toArray 37)).heap.size (w.alloc (.cells X.cs.toArray 37)) (.slice (some ⟨w.heap.size, 0, none⟩) 1 1) [X] := by
  have hba := below_alloc w (.cells X.cs.toArray 37)
  have hO : OpBlk (w.alloc (.cells X.cs.toArray 37)) w.heap.size X := heap_alloc_new w _
  refine ⟨⟨_, 1, rfl, Nat.le_refl _, by unfold maxLen; omega, fun e => (by cases e), fun _ => ⟨w.heap.size, 0, rfl, by rw [World.size_alloc]; omega, fun k hk => ?_⟩⟩, fun x hx => ?_⟩
  · obtain rfl : k = 0 := by simp at hk; omega
    refine opAt_cs fun j hj => ?_
    have h12 : X.cs.length = 12 := rfl
    rw [show 0 + 0 * 12 + j = j by omega]
    show _ = X.cs[j]?
    rw [List.getElem?_eq_getElem (by omega)]
    exact hO.at j (List.getElem?_eq_getElem (by omega))
  · obtain rfl := List.mem_singleton.1 hx
    exact (h.below hba).mono hba.size

set_option maxHeartbeats 4000000 in
set_option maxRecDepth 100000 in
theorem lawHash_walk (a0 : Option Addr) (l0 c0 : Nat) (z0 : List Int) (w : World) (h0 : IsRow .u8 w a0 l0 c0 z0) :
    Calls Tryz.prog 3 #[.slice a0 l0 c0] w fun e w' => e = .returned (.bool true) ∧ Below w.heap.size w w' := by
  obtain ⟨hr0, hl0⟩ := h0.rd
  have hX0 := h0.bytes
  generalize z0.take l0 = zs at hr0 hl0 hX0
  clear h0
  subst hl0
  by_cases q0 : zs.length ≤ 1048576
  · have i0 : ¬ (1048576 : Int) < (zs.length : Int) := by omega
    go_enter Tryz.func3, Tryz.ntmps3
    go_wp2_with fail
    refine (drawTreeSum_any w.heap.size w _ zs (Nat.le_refl _) hr0 hX0 q0).mono ?_
    rintro e w1 ⟨r, M, a, l, p, rfl, hR, hM, hlb, hpb, hB⟩
    clear hr0 hX0
    obtain ⟨ra, rc, rfl⟩ : ∃ ra rc, r = .slice ra M.length rc := by obtain ⟨⟨ao, cap, h, _⟩, _⟩ := hR; exact ⟨_, _, h⟩
    have hml : M.length ≤ 2120 := hM.1
    have HM7 : Hid (∀ x ∈ M, x.a ≠ 7) := fun x hx => (hM.2 x hx).1
    have HI : Hid (∀ w' a l p, Below w1.heap.size w1 w' → Calls Tryz.prog 6 #[.slice ra M.length rc, .int .i64 a, .int .i64 l, .int .i64 p] w' fun e w'' => e = .returned (.tuple #[.int .i64 ((treeV M a l p : Nat) : Int), .int .i64 (treeC M a l p)]) ∧ Below w'.heap.size w' w'') := fun w' a l p h => implTreeSum_any w1.heap.size w' _ M a l p h.size (hR.below h)
    have HP : Hid (∀ w' a l p, Below w1.heap.size w1 w' → Calls Tryz.prog 5 #[.slice ra M.length rc, .int .i64 a, .int .i64 l, .int .i64 p] w' fun e w'' => e = .returned (.tuple #[.int .i64 ((treeV M a l p : Nat) : Int), .int .i64 (treeC M a l p)]) ∧ Below w'.heap.size w' w'') := fun w' a l p h => specTreeSum_any w1.heap.size w' _ M a l p h.size (hR.below h)
    have HB : Hid (∀ w', Below w1.heap.size w1 w' → Below w.heap.size w w') := fun w' h => below_seq hB h
    have HR : Hid (RdO w1.heap.size w1 (.slice ra M.length rc) M) := hR
    clear hR hB hM
    have hb1 := Below.refl w1.heap.size w1
    have hp := HP.out w1 a l p hb1
    have HUP : Hid (treeC M a l p = 0 → l ≠ 0 → treeC M a (l - 1) (2 * p) = 0 ∧ treeC M a (l - 1) (2 * p + 1) = 0 ∧ (treeV M a (l - 1) (2 * p) = 0 → treeV M a (l - 1) (2 * p + 1) = 0 → treeV M a l p = 0)) := tree_up
    have HOK : Hid (treeC M a l p = 0 → logI M = true) := fun h => (tree_ok h).1
    have hi := fun w' h => HI.out w' a l p h
    generalize treeC M a l p = cd at *
    generalize treeV M a l p = tv at *
    go_wp2_with fail
    refine hp.mono ?_
    rintro e w2 ⟨rfl, hb2⟩
    replace hb2 := hb1.trans (hb2.mono (Nat.le_refl _))
    have hi2 := hi w2 hb2
    clear hp hi hb1
    go_wp2_with fail
    refine hi2.mono ?_
    rintro e w3 ⟨rfl, hb3⟩
    replace hb3 := hb2.trans (hb3.mono hb2.size)
    clear hi2 hb2
    by_cases hc : cd = 0
    · by_cases hl : l = 0
      · subst hc hl
        go_wp2_with fail
        go_ret
        exact ⟨rfl, HB.out _ hb3⟩
      · subst hc
        have hlb2 : (l == 0) = false := by simpa using hl
        obtain ⟨e1, e2, e3⟩ := HUP.out rfl hl
        have hlog := HOK.out rfl
        have hix := HI.out w3 a (l - 1) (2 * p) hb3
        have hiy := fun w' h => HI.out w' a (l - 1) (2 * p + 1) h
        rw [e1] at hix
        simp only [e2] at hiy
        have HE3 : Hid _ := e3
        generalize treeV M a (l - 1) (2 * p) = xv at *
        generalize treeV M a (l - 1) (2 * p + 1) = yv at *
        obtain ⟨t1, t2⟩ := tree_none hlog HM7.out
        have hi7 := fun w' h => HI.out w' 7 8 0 h
        simp only [t1, t2] at hi7
        have hlen : M.length ≤ 1024 := (okL hlog).1
        have hfr := fun w' (h : Below w1.heap.size w1 w') => fresh_any w1.heap.size w' (.slice ra M.length rc) M 9 (HR.out.below h) (by omega)
        have hnx := fun w' (h : Below w1.heap.size w1 w') => next7_any w1.heap.size w' (.slice ra M.length rc) M h.size (HR.out.below h) (by omega) (fun x hx => (ok_parts ((okL hlog).2 x hx)).1)
        clear e1 e2 e3 t1 t2 HUP HOK hl HI HP
        go_wp2_with fail
        refine hix.mono ?_
        rintro e w4 ⟨rfl, hb4⟩
        replace hb4 := hb3.trans (hb4.mono hb3.size)
        have hiy4 := hiy w4 hb4
        clear hix hiy hb3
        go_wp2_with fail
        refine hiy4.mono ?_
        rintro e w5 ⟨rfl, hb5⟩
        replace hb5 := hb4.trans (hb5.mono hb4.size)
        have hi75 := hi7 w5 hb5
        clear hiy4 hi7 hb4
        have hcase : (((xv : Nat) : Int) == 0) = false ∨ ((((xv : Nat) : Int) == 0) = true ∧ (((yv : Nat) : Int) == 0) = false) ∨ ((((xv : Nat) : Int) == 0) = true ∧ (((yv : Nat) : Int) == 0) = true ∧ (((tv : Nat) : Int) != 0) = false) := by
          by_cases hx : xv = 0
          · by_cases hy : yv = 0
            · have := HE3.out hx hy
              subst this
              exact .inr (.inr ⟨by simp [hx], by simp [hy], by simp⟩)
            · exact .inr (.inl ⟨by simp [hx], by simpa using hy⟩)
          · exact .inl (by simpa using hx)
        clear HE3
        rcases hcase with k1 | ⟨k1, k2⟩ | ⟨k1, k2, k3⟩
        all_goals
          go_upto_region 14 with fail
          clear k1
          try clear k2
          try clear k3
          go_wp2_with fail
          refine hi75.mono ?_
          rintro e w6 ⟨rfl, hb6⟩
          replace hb6 := hb5.trans (hb6.mono hb5.size)
          have hfr6 := hfr w6 hb6
          clear hi75 hb5 hfr
          by_cases hfull : M.length = 1024
          · have hfi : (1024 : Int) ≤ (M.length : Int) := by omega
            go_wp2_with fail
            go_ret
            exact ⟨rfl, HB.out _ hb6⟩
          · have hfi : ¬ (1024 : Int) ≤ (M.length : Int) := by omega
            go_wp2_with fail
            refine hfr6.mono ?_
            rintro e w7 ⟨fb, rfl, hw7⟩
            obtain rfl := hw7.symm
            clear hfr6
            cases fb with
            | false =>
              go_wp2_with fail
              go_ret
              exact ⟨rfl, HB.out _ hb6⟩
            | true =>
              have hnx6 := hnx w6 hb6
              clear hnx
              go_wp2_with fail
              refine hnx6.mono ?_
              rintro e w8 ⟨X, rfl, ⟨xa, xn, xc, hXd⟩, hXr, -, -, hb8⟩
              replace hb8 := hb6.trans (hb8.mono hb6.size)
              clear hnx6 hb6
              have hba := below_alloc w8 (.cells X.cs.toArray 37)
              have hRX := rdO_one w8 X hXr
              have hb9 : Below w1.heap.size w1 (w8.alloc (.cells X.cs.toArray 37)) := hb8.trans (hba.mono hb8.size)
              have hla := specAdd_any _ (w8.alloc (.cells X.cs.toArray 37)) (.slice ra M.length rc) (.slice (some ⟨w8.heap.size, 0, none⟩) 1 1) M [X] (Nat.le_refl _) ((HR.out.below hb9).mono hb9.size) hRX
              have HV : Hid ((resAdd M [X]).1 = 0 → logI (resAdd M [X]).2.1 = true) := res_valid
              obtain ⟨z, HZ⟩ : ∃ z, Hid ((resAdd M [X]).1 = z) := ⟨_, rfl⟩
              rw [HZ.out] at hla HV
              have HOK : Hid (∀ S0, SameL S0 (resAdd M [X]).2.1 → z = 0 → logI S0 = true) := fun S0 h1 h2 => (logI_same h1).trans (HV.out h2)
              unfold Ov.cs at hla hb9 ⊢
              rw [hXd] at hla hb9 ⊢
              clear HZ HV hRX hba hXr
              go_wp2_with fail
              refine hla.mono ?_
              rintro e w10 ⟨r0, r1, S0, S1, rfl, hs0, -, hR0, -, hb10⟩
              have hb11 := hb9.trans (hb10.mono hb9.size)
              clear hla hb10 hb9
              by_cases hz : z = 0
              · subst hz
                have hlg := HOK.out S0 hs0 rfl
                have hit := implTreeSum_any _ w10 r0 S0 7 8 0 (Nat.le_refl _) hR0
                have hst := fun w' (h : Below w10.heap.size w10 w') => specTreeSum_any w10.heap.size w' r0 S0 7 8 0 h.size (hR0.below h)
                obtain ⟨tc, -⟩ := tree_code (a := 7) (l := 8) (p := 0) hlg (by decide)
                rw [tc] at hit
                simp only [tc] at hst
                generalize treeV S0 7 8 0 = tz at *
                clear tc hlg HOK hs0 hR0
                go_wp2_with fail
                refine hit.mono ?_
                rintro e w12 ⟨rfl, hb12⟩
                have hst12 := hst w12 hb12
                clear hit hst
                go_wp2_with fail
                refine hst12.mono ?_
                rintro e w13 ⟨rfl, hb13⟩
                clear hst12
                go_wp2_with fail
                go_ret
                exact ⟨rfl, HB.out _ (hb11.trans ((hb12.trans (hb13.mono hb12.size)).mono hb11.size))⟩
              · have hzb : (z != 0) = true := by simpa using hz
                clear hz HOK hs0 hR0
                go_wp2_with fail
                go_ret
                exact ⟨rfl, HB.out _ hb11⟩
    · have hcb : (cd != 0) = true := by simpa using hc
      clear hc
      go_wp2_with fail
      go_ret
      exact ⟨rfl, HB.out _ hb3⟩
  · have i0 : (1048576 : Int) < (zs.length : Int) := by omega
    go_enter Tryz.func3, Tryz.ntmps3
    go_wp2_with fail
    go_ret
    exact ⟨rfl, Below.refl _ _⟩
end Go.Proofs.YtocffojhhjdeoaaGreat
