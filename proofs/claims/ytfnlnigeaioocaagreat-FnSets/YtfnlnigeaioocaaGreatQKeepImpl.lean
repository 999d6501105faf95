/- What keep does. -/
import Derived.Deep.RegionHeld2
import Derived.Deep.CutBlock
import Derived.Test.YtfnlnigeaioocaaGreatQTakeKit
import Derived.Test.YtfnlnigeaioocaaGreatQKeysIterToKeepMath
import Derived.Test.YtfnlnigeaioocaaGreatQInfoToTrBase
namespace Go.Proofs.YtfnlnigeaioocaaGreat
open Go.RowKit
set_option linter.unusedVariables false

/-- What the look for a twin reads: the other's map, the stamp. -/
def KpS (n2 b2 sb : Nat) (t a : Int) (ls2 : List En) (w : World) : Prop :=
  w.cell? ⟨n2, 16, none⟩ = some (.map (some b2)) ∧ w.cell? ⟨sb, 0, none⟩ = some (.int .i64 t) ∧ w.cell? ⟨sb, 1, none⟩ = some (.int .i64 a) ∧ Mp Tryz.prog 56 w b2 (ls2.map kvE)
theorem KpS.on {n2 b2 sb : Nat} {t a : Int} {ls2 : List En} {w w' : World} (h : KpS n2 b2 sb t a ls2 w) (hb : Below w.heap.size w w') : KpS n2 b2 sb t a ls2 w' :=
  ⟨cell_on hb h.1, cell_on hb h.2.1, cell_on hb h.2.2.1, h.2.2.2.on hb⟩

/-- The entries behind a keeping. -/
def KeptIs (out0 ls1 ls2 : List En) (X2 : List Int) (out : List En) : Prop := ∀ x, x ∈ out ↔ x ∈ out0 ∨ ∃ e ∈ ls1, keepE ls2 X2 e = some x

set_option maxHeartbeats 8000000 in
set_option maxRecDepth 100000 in
theorem keep_any (w : World) (nj bj n1 b1 n2 b2 : Nat) (Xj X1 X2 : List Int) (out0 ls1 ls2 : List En) (hJj : Jm w nj Xj bj) (hXj : Xj.length = 16) (hMj : Mp Tryz.prog 56 w bj (out0.map kvE)) (hJ1 : Jm w n1 X1 b1) (hX1 : X1.length = 16) (hM1 : Mp Tryz.prog 56 w b1 (ls1.map kvE))
    (hJ2 : Jm w n2 X2 b2) (hX2 : X2.length = 16) (hM2 : Mp Tryz.prog 56 w b2 (ls2.map kvE)) (h1j : b1 ≠ bj) (h2j : b2 ≠ bj) (hact : ∀ e ∈ ls1, 0 ≤ e.2.1 ∧ e.2.1 < 16)
    (hsame : ∀ e ∈ ls1, ∀ x, keepE ls2 X2 e = some x → ∀ o ∈ out0, o.1 = x.1 ∧ o.2.1 = x.2.1 → o = x) :
    Calls Tryz.prog 41 #[.pointer (some ⟨nj, 0, none⟩), .pointer (some ⟨n1, 0, none⟩), .pointer (some ⟨n2, 0, none⟩)] w fun e w' => e = .returned (.tuple #[]) ∧ ∃ out : List En, Mp Tryz.prog 56 w' bj (out.map kvE) ∧ KeptIs out0 ls1 ls2 X2 out ∧ w.grownBy w' (some bj) := by
  have m1 := hJ1.map hX1
  have hj2 := jm_ne hJ2 hMj
  have hjj := jm_ne hJj hMj
  have l1 := hM1.lt
  have l2 := hM2.lt
  have lj := hMj.lt
  have ln2 := hJ2.lt
  go_enter Tryz.func41, Tryz.ntmps41
  go_wp2_with (first
    | (at_range; refine wpList_range_mp rfl _ 46 rfl 56 60 Tryz.underlying46 b1 _ rfl hM1 ?_; intro w0 hrg0 hg0 hs0)
    | go_in)
  go_frame
  go_loopw [15] (fun _ wr => ∃ (out M : List En), Rg Tryz.prog 56 wr b1 w.heap.size (ls1.map kvE) (M.map kvE) ∧ Mp Tryz.prog 56 wr bj (out.map kvE) ∧ w.grownBy wr (some bj) ∧ Hid (Kp ls1 ls2 X2 out0 out M)) (fun _ wr => rgLeft wr b1 w.heap.size)
  case atStart => exact ⟨out0, ls1, hrg0, hMj.kept hg0 (by simp), hg0.but _, Kp.start ls1 ls2 X2 out0⟩
  case round =>
    obtain ⟨out, M, hrg, hMo, hgw, HD⟩ := hrel
    go_wp2_with (first
      | (at_next; refine wpList_next_rg rfl _ rfl 56 b1 w.heap.size _ _ rfl hrg ?_ ?_)
      | go_in)
    · intro hM0
      obtain rfl : M = [] := by simpa using hM0
      go_wp2_with fail
      go_end0
      exact ⟨rfl, out, hMo, Kp.done HD.out, hgw⟩
    · intro M1 pk pv M2 w2 hMM hrg2 hg2 hs2 hen
      obtain ⟨A, e, B, rfl, rfl, hpe, rfl⟩ := split_kv hMM
      obtain ⟨L1, L2, hL, hne1, hne2⟩ := Rg.came (w' := wr) hrg
      obtain ⟨t, a, x⟩ := e
      simp only [kvE, Prod.mk.injEq] at hpe
      obtain ⟨rfl, rfl⟩ := hpe
      rw [← List.map_append] at hrg2
      have hmem : (t, a, x) ∈ ls1 := by rw [hL]; simp
      have hnAB : (t, a, x) ∉ A ++ B := fun h => hne2 _ (List.mem_map.2 ⟨_, h, rfl⟩) rfl
      obtain ⟨lk, hlk⟩ := hrg.mp.keys (kvE (t, a, x)) (List.mem_map.2 ⟨_, hmem, rfl⟩)
      obtain ⟨a0, a16⟩ := hact _ hmem
      simp only at a0 a16
      obtain ⟨ka, rfl⟩ : ∃ ka : Nat, a = (ka : Int) := ⟨a.toNat, by omega⟩
      have hka : ka < 16 := by omega
      have hr2 : w.heap.size < w2.heap.size := by have := hrg2.lt; omega
      have hgw2 := hgw.andThen hg2 (fun j hj => by cases hj; exact Or.inl (Nat.le_refl _))
      have hMo2 := hMo.kept hg2 (by simp; omega)
      have hgA := World.grownBy_alloc w2 (.cells #[.int .i64 t, .int .i64 (ka : Int)] 56) none
      have hgB := World.grownBy_alloc (w2.alloc (.cells #[.int .i64 t, .int .i64 (ka : Int)] 56)) (.cells #[.int .i64 t, .int .i64 (ka : Int), .string x] 60) none
      have hrgB := (hrg2.kept hgA (by simp) (by simp)).kept hgB (by simp) (by simp)
      have hMoB := (hMo2.kept hgA (by simp)).kept hgB (by simp)
      have hgwB := (hgw2.andThen hgA (fun j hj => by cases hj)).andThen hgB (fun j hj => by cases hj)
      have hst := ((Dy.made w2 (.int .i64 t) (.int .i64 (ka : Int)) 56).on (below_alloc _ (.cells #[.int .i64 t, .int .i64 (ka : Int), .string x] 60))).1
      have hent := three_cells (Below.refl ((w2.alloc (.cells #[.int .i64 t, .int .i64 (ka : Int)] 56)).alloc (.cells #[.int .i64 t, .int .i64 (ka : Int), .string x] 60)).heap.size ((w2.alloc (.cells #[.int .i64 t, .int .i64 (ka : Int)] 56)).alloc (.cells #[.int .i64 t, .int .i64 (ka : Int), .string x] 60)))
      rw [World.size_alloc] at hent
      have hJ2B := hJ2.kept hgwB (fun e => hj2 (by simpa using e.symm))
      have hJjB := hJj.kept hgwB (fun e => hjj (by simpa using e.symm))
      have hM2B := hM2.kept hgwB (fun e => h2j (by simpa using e.symm))
      have hzB : ((w2.alloc (.cells #[.int .i64 t, .int .i64 (ka : Int)] 56)).alloc (.cells #[.int .i64 t, .int .i64 (ka : Int), .string x] 60)).heap.size = w2.heap.size + 1 + 1 := by simp
      have HNE : Hid _ := And.intro hmem hnAB
      clear hs2 hMM hgA hgB hne1 hne2 hL hmem hnAB hrg2 hMo2 hgw2
      go_upto_region 3 with fail
      change Code.wp _ _ _ _ ((w2.alloc (.cells #[.int .i64 t, .int .i64 (ka : Int)] 56)).alloc (.cells #[.int .i64 t, .int .i64 (ka : Int), .string x] 60))
      generalize (w2.alloc (.cells #[.int .i64 t, .int .i64 (ka : Int)] 56)).alloc (.cells #[.int .i64 t, .int .i64 (ka : Int), .string x] 60) = wB at *
      have hKS : KpS n2 b2 w2.heap.size t (ka : Int) ls2 wB.drew := ⟨hJ2B.map hX2, hst.1, hst.2, hM2B⟩
      have hKB : KpS n2 b2 w2.heap.size t (ka : Int) ls2 wB := hKS
      have hzero : ∀ w, (zeroValue 60).run Tryz.prog w = .ok (.agg #[.int .i64 0, .int .i64 0, .string ByteArray.empty]) w := fun w => by rfl
      cases hf : ls2.find? (twinE (t, (ka : Int), x)) with
      | some y =>
        obtain ⟨ty, ay, y⟩ := y
        have hhit := find_hit hf
        simp only [kvE] at hhit
        have HH : Hid _ := hhit
        clear hhit
        refine wp_region_held_drew (S := KpS n2 b2 w2.heap.size t (ka : Int) ls2) (by kernel_rfl) hKS (fun hHeld => ?_)
        refine tkH 0 ((.pointer (some ⟨n2, 0, none⟩))) rfl (Or.inl ⟨by rfl, by intro w hSw; obtain ⟨q0, q1, q2, q3⟩ := hSw; go_simp⟩) hHeld ?_
        simp only [tkS, Act.put]
        refine tkH 1 ((.pointer (some ⟨n2, 0, none⟩))) rfl (Or.inl ⟨by rfl, by intro w hSw; obtain ⟨q0, q1, q2, q3⟩ := hSw; go_simp⟩) hHeld ?_
        simp only [tkS, Act.put]
        refine tkH 2 ((.pointer (some ⟨n2, 16, none⟩))) rfl (Or.inl ⟨by rfl, by intro w hSw; obtain ⟨q0, q1, q2, q3⟩ := hSw; go_simp⟩) hHeld ?_
        simp only [tkS, Act.put]
        refine tkH 3 ((.map (some b2))) rfl (Or.inl ⟨by rfl, by intro w hSw; obtain ⟨q0, q1, q2, q3⟩ := hSw; go_simp⟩) hHeld ?_
        simp only [tkS, Act.put]
        refine tkH 4 ((.agg #[.int .i64 t, .int .i64 (ka : Int)])) rfl (Or.inl ⟨by rfl, by intro w hSw; obtain ⟨q0, q1, q2, q3⟩ := hSw; go_simp⟩) hHeld ?_
        simp only [tkS, Act.put]
        refine tkH 5 ((.tuple #[(.agg #[.int .i64 ty, .int .i64 ay, .string y]), .bool true])) rfl (Or.inl ⟨by rfl, by intro w hSw; obtain ⟨q0, q1, q2, q3⟩ := hSw; have hlk := (q3.hit stKeyed Tryz.underlying46 HH.out).1; go_simp⟩) hHeld ?_
        simp only [tkS, Act.put]
        refine tkH 6 ((.tuple #[(.agg #[.int .i64 ty, .int .i64 ay, .string y]), .bool true])) rfl (Or.inl ⟨by rfl, by intro w hSw; obtain ⟨q0, q1, q2, q3⟩ := hSw; go_simp⟩) hHeld ?_
        simp only [tkS, Act.put]
        refine tkH 7 ((.agg #[.int .i64 ty, .int .i64 ay, .string y])) rfl (Or.inl ⟨by rfl, by intro w hSw; obtain ⟨q0, q1, q2, q3⟩ := hSw; go_simp⟩) hHeld ?_
        simp only [tkS, Act.put]
        refine tkH 8 ((.bool true)) rfl (Or.inl ⟨by rfl, by intro w hSw; obtain ⟨q0, q1, q2, q3⟩ := hSw; go_simp⟩) hHeld ?_
        simp only [tkS, Act.put]
        refine wpAnyH_ready (rs := [9]) (by kernel_rfl) (by simp) ?_
        refine AllReadyH.cons rfl (fun K hK => ?_) AllReadyH.nil
        go_simp
        refine hK.out _ _ (hKB.on (below_alloc wB (.cells #[.int .i64 0, .int .i64 0, .string ⟨#[]⟩] 60)).drew) (fun hHeld2 => ?_)
        clear hK K
        refine wpAnyH_ready (rs := [10]) (by kernel_rfl) (by simp) ?_
        refine AllReadyH.cons rfl (fun K hK => ?_) AllReadyH.nil
        go_simp
        refine hK.out _ _ (hKB.on (below_alloc wB (.cells #[.int .i64 ty, .int .i64 ay, .string y] 60)).drew) (fun hHeld3 => ?_)
        clear hK K
        refine wpAnyH_take (i := 11) (v := (.bool true)) rfl (by kernel_rfl) (by kernel_rfl) (by kernel_rfl) (fun _ _ _ h => h) (Or.inl ⟨by rfl, by intro w hSw; go_simp⟩) hHeld3 ?_
        simp only [tkS, Act.put]
        refine wpAnyH_done (by kernel_rfl) ?_ _
        clear hHeld hHeld2 hHeld3
        have hbC : Below wB.heap.size wB (wB.alloc (.cells #[.int .i64 ty, .int .i64 ay, .string y] 60)).drew := (below_alloc wB (.cells #[.int .i64 ty, .int .i64 ay, .string y] 60)).drew
        have htw := three_cells (w := wB) (Below.refl (wB.alloc (.cells #[.int .i64 ty, .int .i64 ay, .string y] 60)).heap.size (wB.alloc (.cells #[.int .i64 ty, .int .i64 ay, .string y] 60)))
        rw [hzB] at htw
        have htw' : (wB.alloc (.cells #[.int .i64 ty, .int .i64 ay, .string y] 60)).drew.cell? ⟨w2.heap.size + 1 + 1, 0, none⟩ = _ ∧ (wB.alloc (.cells #[.int .i64 ty, .int .i64 ay, .string y] 60)).drew.cell? ⟨w2.heap.size + 1 + 1, 1, none⟩ = _ ∧ (wB.alloc (.cells #[.int .i64 ty, .int .i64 ay, .string y] 60)).drew.cell? ⟨w2.heap.size + 1 + 1, 2, none⟩ = _ := htw
        clear htw
        generalize (wB.alloc (.cells #[.int .i64 ty, .int .i64 ay, .string y] 60)).drew = wC at *
        have hgC := grownBy_below hbC (Nat.le_refl _) none
        have hrgC := hrgB.kept hgC (by simp) (by simp)
        have hMoC := hMoB.kept hgC (by simp)
        have hgwC := hgwB.andThen hgC (fun j hj => by cases hj)
        have hJ2C := hJ2B.on hbC
        have hJjC := hJjB.on hbC
        have hs0 := cell_on hbC hst.1
        have hs1 := cell_on hbC hst.2
        have he0 := cell_on hbC hent.1
        have he1 := cell_on hbC hent.2.1
        have he2 := cell_on hbC hent.2.2
        obtain ⟨ht0, ht1, ht2⟩ := htw'
        clear hrgB hMoB hgwB hJ2B hJjB hst hent hKS hKB hbC hgC hM2B hzB
        obtain ⟨gt, ga, gs, hg⟩ : ∃ gt ga gs, grE (t, (ka : Int), x) (ty, ay, y) = (gt, ga, gs) := ⟨_, _, _, rfl⟩
        have hkeep : keepE ls2 X2 (t, (ka : Int), x) = some (gt, ga, gs) := by
          unfold keepE
          rw [hf]
          simp only [hg]
        have hgr := fun w => greaterE_any t (ka : Int) x ty ay y w
        rw [show (if lessR t (ka : Int) x ty ay y = true then Value.agg #[.int .i64 ty, .int .i64 ay, .string y] else Value.agg #[.int .i64 t, .int .i64 (ka : Int), .string x]) = .agg #[.int .i64 gt, .int .i64 ga, .string gs] by
          unfold grE at hg
          split at hg <;> (rename_i hc; simp only at hc; simp only [Prod.mk.injEq] at hg; obtain ⟨rfl, rfl, rfl⟩ := hg; simp [hc])] at hgr
        have hkst := keep_stamp hkeep
        simp only at hkst
        obtain ⟨out', hout, hput⟩ := Mp.putE hMoC stKeyed Tryz.underlying46 (x := (gt, ga, gs)) (l := lk) (by rw [show (kvE (gt, ga, gs)).1 = (kvE (t, (ka : Int), x)).1 from (key_iff _ _).2 hkst]; exact hlk) (Kp.fresh HD.out hM1.apart HNE.out.1 hkeep hsame)
        simp only [kvE] at hput
        have HK : Hid (Kp ls1 ls2 X2 out0 out' (A ++ B)) := Kp.step HD.out HNE.out.1 HNE.out.2 (fun z => by rw [hkeep]; exact hout z)
        clear hkeep hkst hg hf HH hout
        go_upto_region 5 with fail
        go_wp2_with (first | (go_at_call 55; refine (hgr _).mono ?_; rintro e wD ⟨rfl, hbD⟩))
        refine (put_any wD nj bj Xj (out.map kvE) (out'.map kvE) gt ga gs (hJjC.on hbD) hXj (hMoC.on hbD) (fun w1 h1 => hput w1 h1)).mono ?_
        rintro e wE ⟨rfl, hME, hgE⟩
        have hgD := grownBy_below hbD (Nat.le_refl _) none
        have hrgE := (hrgC.kept hgD (by simp) (by simp)).kept hgE (by simpa using fun e => h1j e.symm) (by simp; omega)
        have hgwE := (hgwC.andThen hgD (fun j hj => by cases hj)).andThen hgE (fun j hj => .inr hj)
        go_wp2_with fail
        go_roundw
        case rel => exact ⟨out', A ++ B, hrgE, hME, hgwE, HK⟩
        case measure => rw [hrgE.left_eq, hrg.left_eq]; simp
      | none =>
        have hmis := find_miss hf
        have hlk2 : keyOf Tryz.prog 56 (.agg #[.int .i64 t, .int .i64 (ka : Int)]) = some lk := hlk
        have HH : Hid _ := hmis
        clear hmis
        refine wp_region_held_drew (S := KpS n2 b2 w2.heap.size t (ka : Int) ls2) (by kernel_rfl) hKS (fun hHeld => ?_)
        refine tkH 0 ((.pointer (some ⟨n2, 0, none⟩))) rfl (Or.inl ⟨by rfl, by intro w hSw; obtain ⟨q0, q1, q2, q3⟩ := hSw; go_simp⟩) hHeld ?_
        simp only [tkS, Act.put]
        refine tkH 1 ((.pointer (some ⟨n2, 0, none⟩))) rfl (Or.inl ⟨by rfl, by intro w hSw; obtain ⟨q0, q1, q2, q3⟩ := hSw; go_simp⟩) hHeld ?_
        simp only [tkS, Act.put]
        refine tkH 2 ((.pointer (some ⟨n2, 16, none⟩))) rfl (Or.inl ⟨by rfl, by intro w hSw; obtain ⟨q0, q1, q2, q3⟩ := hSw; go_simp⟩) hHeld ?_
        simp only [tkS, Act.put]
        refine tkH 3 ((.map (some b2))) rfl (Or.inl ⟨by rfl, by intro w hSw; obtain ⟨q0, q1, q2, q3⟩ := hSw; go_simp⟩) hHeld ?_
        simp only [tkS, Act.put]
        refine tkH 4 ((.agg #[.int .i64 t, .int .i64 (ka : Int)])) rfl (Or.inl ⟨by rfl, by intro w hSw; obtain ⟨q0, q1, q2, q3⟩ := hSw; go_simp⟩) hHeld ?_
        simp only [tkS, Act.put]
        refine tkH 5 ((.tuple #[(.agg #[.int .i64 0, .int .i64 0, .string ByteArray.empty]), .bool false])) rfl (Or.inl ⟨by rfl, by intro w hSw; obtain ⟨q0, q1, q2, q3⟩ := hSw; have hlk := (q3.miss stKeyed Tryz.underlying46 (z := (.agg #[.int .i64 0, .int .i64 0, .string ByteArray.empty])) (hzero _) (key := .agg #[.int .i64 t, .int .i64 (ka : Int)]) hlk2 HH.out).1; go_simp⟩) hHeld ?_
        simp only [tkS, Act.put]
        refine tkH 6 ((.tuple #[(.agg #[.int .i64 0, .int .i64 0, .string ByteArray.empty]), .bool false])) rfl (Or.inl ⟨by rfl, by intro w hSw; obtain ⟨q0, q1, q2, q3⟩ := hSw; go_simp⟩) hHeld ?_
        simp only [tkS, Act.put]
        refine tkH 7 ((.agg #[.int .i64 0, .int .i64 0, .string ByteArray.empty])) rfl (Or.inl ⟨by rfl, by intro w hSw; obtain ⟨q0, q1, q2, q3⟩ := hSw; go_simp⟩) hHeld ?_
        simp only [tkS, Act.put]
        refine tkH 8 ((.bool false)) rfl (Or.inl ⟨by rfl, by intro w hSw; obtain ⟨q0, q1, q2, q3⟩ := hSw; go_simp⟩) hHeld ?_
        simp only [tkS, Act.put]
        refine wpAnyH_ready (rs := [9]) (by kernel_rfl) (by simp) ?_
        refine AllReadyH.cons rfl (fun K hK => ?_) AllReadyH.nil
        go_simp
        refine hK.out _ _ (hKB.on (below_alloc wB (.cells #[.int .i64 0, .int .i64 0, .string ⟨#[]⟩] 60)).drew) (fun hHeld2 => ?_)
        clear hK K
        refine wpAnyH_ready (rs := [10]) (by kernel_rfl) (by simp) ?_
        refine AllReadyH.cons rfl (fun K hK => ?_) AllReadyH.nil
        go_simp
        refine hK.out _ _ (hKB.on (below_alloc wB (.cells #[.int .i64 0, .int .i64 0, .string ByteArray.empty] 60)).drew) (fun hHeld3 => ?_)
        clear hK K
        refine wpAnyH_take (i := 11) (v := (.bool false)) rfl (by kernel_rfl) (by kernel_rfl) (by kernel_rfl) (fun _ _ _ h => h) (Or.inl ⟨by rfl, by intro w hSw; go_simp⟩) hHeld3 ?_
        simp only [tkS, Act.put]
        refine wpAnyH_done (by kernel_rfl) ?_ _
        clear hHeld hHeld2 hHeld3
        have hbC : Below wB.heap.size wB (wB.alloc (.cells #[.int .i64 0, .int .i64 0, .string ByteArray.empty] 60)).drew := (below_alloc wB (.cells #[.int .i64 0, .int .i64 0, .string ByteArray.empty] 60)).drew
        have htw := three_cells (w := wB) (Below.refl (wB.alloc (.cells #[.int .i64 0, .int .i64 0, .string ByteArray.empty] 60)).heap.size (wB.alloc (.cells #[.int .i64 0, .int .i64 0, .string ByteArray.empty] 60)))
        rw [hzB] at htw
        have htw' : (wB.alloc (.cells #[.int .i64 0, .int .i64 0, .string ByteArray.empty] 60)).drew.cell? ⟨w2.heap.size + 1 + 1, 0, none⟩ = _ ∧ (wB.alloc (.cells #[.int .i64 0, .int .i64 0, .string ByteArray.empty] 60)).drew.cell? ⟨w2.heap.size + 1 + 1, 1, none⟩ = _ ∧ (wB.alloc (.cells #[.int .i64 0, .int .i64 0, .string ByteArray.empty] 60)).drew.cell? ⟨w2.heap.size + 1 + 1, 2, none⟩ = _ := htw
        clear htw
        generalize (wB.alloc (.cells #[.int .i64 0, .int .i64 0, .string ByteArray.empty] 60)).drew = wC at *
        have hgC := grownBy_below hbC (Nat.le_refl _) none
        have hrgC := hrgB.kept hgC (by simp) (by simp)
        have hMoC := hMoB.kept hgC (by simp)
        have hgwC := hgwB.andThen hgC (fun j hj => by cases hj)
        have hJ2C := hJ2B.on hbC
        have hJjC := hJjB.on hbC
        have hs0 := cell_on hbC hst.1
        have hs1 := cell_on hbC hst.2
        have he0 := cell_on hbC hent.1
        have he1 := cell_on hbC hent.2.1
        have he2 := cell_on hbC hent.2.2
        obtain ⟨ht0, ht1, ht2⟩ := htw'
        clear hrgB hMoB hgwB hJ2B hJjB hst hent hKS hKB hbC hgC hM2B hzB
        have hsw := fun w h => saw_any w n2 b2 X2 t ka h hX2 hka
        by_cases hle : t ≤ X2.getD ka 0
        · have hkeep : keepE ls2 X2 (t, (ka : Int), x) = none := by
            unfold keepE
            rw [hf]
            simp only [Int.toNat_natCast, hle, if_true]
          have HK : Hid (Kp ls1 ls2 X2 out0 out (A ++ B)) := Kp.step HD.out HNE.out.1 HNE.out.2 (fun z => by rw [hkeep]; simp)
          rw [decide_eq_true hle] at hsw
          clear hkeep hf HH hle
          go_wp2_with (first | (go_at_call 50; refine (hsw _ hJ2C).mono ?_; rintro e wD ⟨rfl, hbD⟩))
          have hgD := grownBy_below hbD (Nat.le_refl _) none
          have hrgE := hrgC.kept hgD (by simp) (by simp)
          have hgwE := hgwC.andThen hgD (fun j hj => by cases hj)
          go_roundw
          case rel => exact ⟨out, A ++ B, hrgE, hMoC.on hbD, hgwE, HK⟩
          case measure => rw [hrgE.left_eq, hrg.left_eq]; simp
        · have hkeep : keepE ls2 X2 (t, (ka : Int), x) = some (t, (ka : Int), x) := by
            unfold keepE
            rw [hf]
            simp only [Int.toNat_natCast, hle, if_false]
          rw [decide_eq_false hle] at hsw
          obtain ⟨out', hout, hput⟩ := Mp.putE hMoC stKeyed Tryz.underlying46 (x := (t, (ka : Int), x)) (l := lk) hlk (Kp.fresh HD.out hM1.apart HNE.out.1 hkeep hsame)
          simp only [kvE] at hput
          have HK : Hid (Kp ls1 ls2 X2 out0 out' (A ++ B)) := Kp.step HD.out HNE.out.1 HNE.out.2 (fun z => by rw [hkeep]; exact hout z)
          clear hkeep hf HH hle hout
          go_upto_region 7 with (first | (go_at_call 50; refine (hsw _ hJ2C).mono ?_; rintro e wD ⟨rfl, hbD⟩))
          have k0 := cell_on hbD he0
          have k1 := cell_on hbD he1
          have k2 := cell_on hbD he2
          go_wp2_with fail
          refine (put_any wD nj bj Xj (out.map kvE) (out'.map kvE) t (ka : Int) x (hJjC.on hbD) hXj (hMoC.on hbD) (fun w1 h1 => hput w1 h1)).mono ?_
          rintro e wE ⟨rfl, hME, hgE⟩
          have hgD := grownBy_below hbD (Nat.le_refl _) none
          have hrgE := (hrgC.kept hgD (by simp) (by simp)).kept hgE (by simpa using fun e => h1j e.symm) (by simp; omega)
          have hgwE := (hgwC.andThen hgD (fun j hj => by cases hj)).andThen hgE (fun j hj => .inr hj)
          go_wp2_with fail
          go_roundw
          case rel => exact ⟨out', A ++ B, hrgE, hME, hgwE, HK⟩
          case measure => rw [hrgE.left_eq, hrg.left_eq]; simp

end Go.Proofs.YtfnlnigeaioocaaGreat
