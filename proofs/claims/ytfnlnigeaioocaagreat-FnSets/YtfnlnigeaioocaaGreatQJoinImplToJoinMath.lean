/- What join of two joined maps does. Joining of valid values: what of one map meets what of the other. -/
import Derived.Test.YtfnlnigeaioocaaGreatQTakeKit
import Derived.Test.YtfnlnigeaioocaaGreatQKeepImpl
import Derived.Test.YtfnlnigeaioocaaGreatQJoinedOf
import Derived.Test.YtfnlnigeaioocaaGreatQVecArrToVecJoinSpec
namespace Go.Proofs.YtfnlnigeaioocaaGreat
open Go.RowKit
set_option linter.unusedVariables false

/-- What join answers: the greater counts, and a new map of what stays of both. -/
def JnAns (X Y : List Int) (ls1 ls2 : List En) (w : World) (e : Ending) (w' : World) : Prop :=
  ∃ b out1 out, e = .returned (.agg (arrC (List.zipWith mxI X Y) ++ [Value.map (some b)]).toArray) ∧ w.heap.size ≤ b ∧ Mp Tryz.prog 56 w' b (out.map kvE) ∧ KeptIs [] ls1 ls2 Y out1 ∧ KeptIs out1 ls2 ls1 X out ∧ Below w.heap.size w w'

set_option maxHeartbeats 8000000 in
set_option maxRecDepth 100000 in
theorem joined_any (w : World) (n0 b0 n1 b1 : Nat) (X Y : List Int) (ls1 ls2 : List En) (hJ0 : Jm w n0 X b0) (hX : X.length = 16) (hM0 : Mp Tryz.prog 56 w b0 (ls1.map kvE)) (hJ1 : Jm w n1 Y b1) (hY : Y.length = 16) (hM1 : Mp Tryz.prog 56 w b1 (ls2.map kvE)) (hact1 : ∀ e ∈ ls1, 0 ≤ e.2.1 ∧ e.2.1 < 16) (hact2 : ∀ e ∈ ls2, 0 ≤ e.2.1 ∧ e.2.1 < 16) (hsame : ∀ out1, KeptIs [] ls1 ls2 Y out1 → ∀ e ∈ ls2, ∀ x, keepE ls1 X e = some x → ∀ o ∈ out1, o.1 = x.1 ∧ o.2.1 = x.2.1 → o = x) :
    Calls Tryz.prog 24 #[.pointer (some ⟨n0, 0, none⟩), .pointer (some ⟨n1, 0, none⟩)] w (JnAns X Y ls1 ls2 w) := by
  have hbW := below_alloc w (.cells zeroJ.toArray 48)
  have hJ0W := hJ0.on hbW
  have hJ1W := hJ1.on hbW
  have hM0W := hM0.on hbW
  have hM1W := hM1.on hbW
  have hTW : (w.alloc (.cells zeroJ.toArray 48)).there w.heap.size 0 17 := there17 w
  have lb0 := hM0W.lt
  have lb1 := hM1W.lt
  have HWW : Hid ((w.alloc (.cells zeroJ.toArray 48)).heap.size = w.heap.size + 1) := by unfold Hid; simp
  have hl0 := hJ0W.lt
  have hl1 := hJ1W.lt
  obtain ⟨Z, hZZ⟩ : ∃ Z, List.zipWith mxI X Y = Z := ⟨_, rfl⟩
  have hZ : Z.length = 16 := by rw [← hZZ]; simp [hX, hY]
  have hj := fun w => join_any w X Y hX hY
  go_enter Tryz.func24, Tryz.ntmps24
  go_upto_region 1 with fail
  change Code.wp _ _ _ _ (w.alloc (.cells zeroJ.toArray 48))
  have hr0 : (w.alloc (.cells zeroJ.toArray 48)).rangeAt n0 0 (arrC X) := fun j v hj => hJ0W.1 j v (by rw [List.getElem?_append_left (by have := (List.getElem?_eq_some_iff.1 hj).1; omega)]; exact hj)
  have hr1 : (w.alloc (.cells zeroJ.toArray 48)).rangeAt n1 0 (arrC Y) := fun j v hj => hJ1W.1 j v (by rw [List.getElem?_append_left (by have := (List.getElem?_eq_some_iff.1 hj).1; omega)]; exact hj)
  rw [hZZ] at hj
  generalize w.alloc (.cells zeroJ.toArray 48) = W at *
  go_cut [5] from 6 to 16 (fun s5 wx => ∃ n b, s5 = .pointer (some ⟨n, 0, none⟩) ∧ Jm wx n Z b ∧ Mp Tryz.prog 56 wx b [] ∧ Below W.heap.size W wx ∧ W.heap.size ≤ n ∧ W.heap.size ≤ b)
  case first =>
    have HX : Hid _ := arr_info hX
    have HY : Hid _ := arr_info hY
    have HB : Hid (∀ b w, (Instr.build 48 #[(0, .agg (arrC Z).toArray), (1, .map (some b))]).run Tryz.prog w = .ok (.agg (arrC Z ++ [Value.map (some b)]).toArray) w) := fun b w => built_jm Z hZ b w
    have HC : Hid (∀ b, (arrC Z ++ [Value.map (some b)]).toArray.size = 17 ∧ (arrC Z ++ [Value.map (some b)]).toArray.all (·.oneCell') = true) := fun b => ⟨by simp [arrC_len, hZ], all_oneCell_toArray (fun v hv => by rcases List.mem_append.1 hv with h | h; exact arrC_one Z v h; rw [List.mem_singleton.1 h]; rfl)⟩
    have hBw : Below W.heap.size W W.drew := (Below.refl _ _).drew
    refine wp_region_held_drew (S := fun w' => w'.rangeAt n0 0 (arrC X) ∧ w'.rangeAt n1 0 (arrC Y)) (by kernel_rfl) ⟨(World.rangeAt_drew _ _ _ _).2 hr0, (World.rangeAt_drew _ _ _ _).2 hr1⟩ (fun hS => ?_)
    refine wpAnyH_take (i := 0) (v := (.pointer (some ⟨n0, 0, none⟩))) rfl (by kernel_rfl) (by kernel_rfl) (by kernel_rfl) (fun _ _ _ h => h) (Or.inl ⟨by rfl, by intro w hSw; go_simp⟩) hS ?_
    simp only [tkS, Act.put]
    refine wpAnyH_take (i := 1) (v := (.pointer (some ⟨n0, 0, none⟩))) rfl (by kernel_rfl) (by kernel_rfl) (by kernel_rfl) (fun _ _ _ h => h) (Or.inl ⟨by rfl, by intro w hSw; go_simp⟩) hS ?_
    simp only [tkS, Act.put]
    refine wpAnyH_take (i := 2) (v := (.pointer (some ⟨n0, 0, none⟩))) rfl (by kernel_rfl) (by kernel_rfl) (by kernel_rfl) (fun _ _ _ h => h) (Or.inl ⟨by rfl, by intro w hSw; go_simp⟩) hS ?_
    simp only [tkS, Act.put]
    refine wpAnyH_take (i := 3) (v := .agg (arrC X).toArray) rfl (by kernel_rfl) (by kernel_rfl) (by kernel_rfl) (fun _ _ _ h => h) (yieldsIf_load_mid rfl _ _ rfl n0 0 rfl (arrC X) _ (fun w h => h.1) Tryz.underlying45 rfl HX.out) hS ?_
    simp only [tkS, Act.put]
    refine wpAnyH_take (i := 4) (v := (.pointer (some ⟨n1, 0, none⟩))) rfl (by kernel_rfl) (by kernel_rfl) (by kernel_rfl) (fun _ _ _ h => h) (Or.inl ⟨by rfl, by intro w hSw; go_simp⟩) hS ?_
    simp only [tkS, Act.put]
    refine wpAnyH_take (i := 5) (v := (.pointer (some ⟨n1, 0, none⟩))) rfl (by kernel_rfl) (by kernel_rfl) (by kernel_rfl) (fun _ _ _ h => h) (Or.inl ⟨by rfl, by intro w hSw; go_simp⟩) hS ?_
    simp only [tkS, Act.put]
    refine wpAnyH_take (i := 6) (v := (.pointer (some ⟨n1, 0, none⟩))) rfl (by kernel_rfl) (by kernel_rfl) (by kernel_rfl) (fun _ _ _ h => h) (Or.inl ⟨by rfl, by intro w hSw; go_simp⟩) hS ?_
    simp only [tkS, Act.put]
    refine wpAnyH_take (i := 7) (v := .agg (arrC Y).toArray) rfl (by kernel_rfl) (by kernel_rfl) (by kernel_rfl) (fun _ _ _ h => h) (yieldsIf_load_mid rfl _ _ rfl n1 0 rfl (arrC Y) _ (fun w h => h.2) Tryz.underlying45 rfl HY.out) hS ?_
    simp only [tkS, Act.put]
    refine wpAnyH_ready (rs := [8, 9, 11]) (by kernel_rfl) (by simp) ?_
    refine AllReadyH.cons rfl (fun K hK => ?_) (AllReadyH.cons rfl (fun K hK => ?_) (AllReadyH.cons rfl (fun K hK => ?_) AllReadyH.nil))
    · go_simp
      refine (hj _).mono ?_
      rintro e u1 ⟨rfl, hb⟩
      go_wp2_with fail
      have zz : W.heap.size ≤ u1.heap.size := by have := hb.size; simpa using this
      refine hK.out _ _ ⟨range_below hb (by first | omega | (simp; done) | (simp; omega)) hS.1, range_below hb (by first | omega | (simp; done) | (simp; omega)) hS.2⟩ (fun hS => ?_)
      clear hK K
      replace hBw := below_seq hBw hb
      clear hb
      refine wpAnyH_ready (rs := [9, 11]) (by kernel_rfl) (by simp) ?_
      refine AllReadyH.cons rfl (fun K hK => ?_) (AllReadyH.cons rfl (fun K hK => ?_) AllReadyH.nil)
      · go_simp
        refine hK.out _ _ ⟨World.rangeAt_alloc hS.1 _, World.rangeAt_alloc hS.2 _⟩ (fun hS => ?_)
        clear hK K
        have hMp := Mp.made Tryz.prog 56 (u1)
        rw [show (u1).heap.size = u1.heap.size by simp] at hMp
        replace hBw := below_then hBw (.map #[] 0)
        refine wpAnyH_take (i := 10) (v := (.agg (arrC Z ++ [Value.map (some (u1.heap.size))]).toArray)) rfl (by kernel_rfl) (by kernel_rfl) (by kernel_rfl) (fun _ _ _ h => h) (yieldsIf_build rfl _ _ rfl _ (by simp; exact ⟨rfl, rfl⟩) _ (HB.out (u1.heap.size))) hS ?_
        simp only [tkS, Act.put]
        refine wpAnyH_ready (rs := [11]) (by kernel_rfl) (by simp) ?_
        refine AllReadyH.cons rfl (fun K hK => ?_) AllReadyH.nil
        · go_simp
          refine hK.out _ _ ⟨World.rangeAt_alloc hS.1 _, World.rangeAt_alloc hS.2 _⟩ (fun hS => ?_)
          clear hK K
          have hTh := there17 (u1.alloc (.map #[] 0))
          rw [show (u1.alloc (.map #[] 0)).heap.size = u1.heap.size + 1 by simp] at hTh
          replace hBw := below_then hBw (.cells zeroJ.toArray 48)
          replace hMp := hMp.alloc (.cells zeroJ.toArray 48)
          refine wpAnyH_ready (rs := [12]) (by kernel_rfl) (by simp) ?_
          refine AllReadyH.cons rfl (fun K hK => ?_) AllReadyH.nil
          refine wp_store_mid 48 _ _ rfl (u1.heap.size + 1) 0 (arrC Z ++ [Value.map (some (u1.heap.size))]).toArray rfl rfl ?st (by rw [(HC.out _).1]; exact jm_info) (HC.out _).2 ?_
          case st => rw [(HC.out _).1]; exact hTh
          have hfin := jm_made (n := u1.heap.size + 1) (b := u1.heap.size) hZ hTh hMp (by omega)
          have hBf : Below W.heap.size W (((u1.alloc (.map #[] 0)).alloc (.cells zeroJ.toArray 48)).setCells (u1.heap.size + 1) 0 (arrC Z ++ [Value.map (some (u1.heap.size))])) := below_setCells (by omega) _ _ _ hBw
          refine hK.out _ _ ⟨World.rangeAt_setCells_apart hS.1 _ _ _ (.inl (by omega)), World.rangeAt_setCells_apart hS.2 _ _ _ (.inl (by omega))⟩ (fun hS => ?_)
          clear hK K
          refine wpAnyH_done (by kernel_rfl) ?_ _
          go_wp2_with fail
          go_meet
          exact ⟨_, _, rfl, hfin.1, hfin.2, hBf, by omega, by omega⟩
      · go_simp
        refine hK.out _ _ ⟨World.rangeAt_alloc hS.1 _, World.rangeAt_alloc hS.2 _⟩ (fun hS => ?_)
        clear hK K
        have hTh := there17 (u1)
        rw [show (u1).heap.size = u1.heap.size by simp] at hTh
        replace hBw := below_then hBw (.cells zeroJ.toArray 48)
        refine wpAnyH_ready (rs := [9]) (by kernel_rfl) (by simp) ?_
        refine AllReadyH.cons rfl (fun K hK => ?_) AllReadyH.nil
        · go_simp
          refine hK.out _ _ ⟨World.rangeAt_alloc hS.1 _, World.rangeAt_alloc hS.2 _⟩ (fun hS => ?_)
          clear hK K
          have hMp := Mp.made Tryz.prog 56 (u1.alloc (.cells zeroJ.toArray 48))
          rw [show (u1.alloc (.cells zeroJ.toArray 48)).heap.size = u1.heap.size + 1 by simp] at hMp
          replace hTh := World.there_alloc hTh (.map #[] 0)
          replace hBw := below_then hBw (.map #[] 0)
          refine wpAnyH_take (i := 10) (v := (.agg (arrC Z ++ [Value.map (some (u1.heap.size + 1))]).toArray)) rfl (by kernel_rfl) (by kernel_rfl) (by kernel_rfl) (fun _ _ _ h => h) (yieldsIf_build rfl _ _ rfl _ (by simp; exact ⟨rfl, rfl⟩) _ (HB.out (u1.heap.size + 1))) hS ?_
          simp only [tkS, Act.put]
          refine wpAnyH_ready (rs := [12]) (by kernel_rfl) (by simp) ?_
          refine AllReadyH.cons rfl (fun K hK => ?_) AllReadyH.nil
          refine wp_store_mid 48 _ _ rfl (u1.heap.size) 0 (arrC Z ++ [Value.map (some (u1.heap.size + 1))]).toArray rfl rfl ?st (by rw [(HC.out _).1]; exact jm_info) (HC.out _).2 ?_
          case st => rw [(HC.out _).1]; exact hTh
          have hfin := jm_made (n := u1.heap.size) (b := u1.heap.size + 1) hZ hTh hMp (by omega)
          have hBf : Below W.heap.size W (((u1.alloc (.cells zeroJ.toArray 48)).alloc (.map #[] 0)).setCells (u1.heap.size) 0 (arrC Z ++ [Value.map (some (u1.heap.size + 1))])) := below_setCells (by omega) _ _ _ hBw
          refine hK.out _ _ ⟨World.rangeAt_setCells_apart hS.1 _ _ _ (.inl (by omega)), World.rangeAt_setCells_apart hS.2 _ _ _ (.inl (by omega))⟩ (fun hS => ?_)
          clear hK K
          refine wpAnyH_done (by kernel_rfl) ?_ _
          go_wp2_with fail
          go_meet
          exact ⟨_, _, rfl, hfin.1, hfin.2, hBf, by omega, by omega⟩
    · go_simp
      refine hK.out _ _ ⟨World.rangeAt_alloc hS.1 _, World.rangeAt_alloc hS.2 _⟩ (fun hS => ?_)
      clear hK K
      have hMp := Mp.made Tryz.prog 56 (W.drew)
      rw [show (W.drew).heap.size = W.heap.size by simp] at hMp
      replace hBw := below_then hBw (.map #[] 0)
      refine wpAnyH_ready (rs := [8, 11]) (by kernel_rfl) (by simp) ?_
      refine AllReadyH.cons rfl (fun K hK => ?_) (AllReadyH.cons rfl (fun K hK => ?_) AllReadyH.nil)
      · go_simp
        refine (hj _).mono ?_
        rintro e u1 ⟨rfl, hb⟩
        go_wp2_with fail
        have zz : W.heap.size + 1 ≤ u1.heap.size := by have := hb.size; simpa using this
        refine hK.out _ _ ⟨range_below hb (by first | omega | (simp; done) | (simp; omega)) hS.1, range_below hb (by first | omega | (simp; done) | (simp; omega)) hS.2⟩ (fun hS => ?_)
        clear hK K
        replace hBw := below_seq hBw hb
        replace hMp := hMp.on hb
        clear hb
        refine wpAnyH_take (i := 10) (v := (.agg (arrC Z ++ [Value.map (some (W.heap.size))]).toArray)) rfl (by kernel_rfl) (by kernel_rfl) (by kernel_rfl) (fun _ _ _ h => h) (yieldsIf_build rfl _ _ rfl _ (by simp; exact ⟨rfl, rfl⟩) _ (HB.out (W.heap.size))) hS ?_
        simp only [tkS, Act.put]
        refine wpAnyH_ready (rs := [11]) (by kernel_rfl) (by simp) ?_
        refine AllReadyH.cons rfl (fun K hK => ?_) AllReadyH.nil
        · go_simp
          refine hK.out _ _ ⟨World.rangeAt_alloc hS.1 _, World.rangeAt_alloc hS.2 _⟩ (fun hS => ?_)
          clear hK K
          have hTh := there17 (u1)
          rw [show (u1).heap.size = u1.heap.size by simp] at hTh
          replace hBw := below_then hBw (.cells zeroJ.toArray 48)
          replace hMp := hMp.alloc (.cells zeroJ.toArray 48)
          refine wpAnyH_ready (rs := [12]) (by kernel_rfl) (by simp) ?_
          refine AllReadyH.cons rfl (fun K hK => ?_) AllReadyH.nil
          refine wp_store_mid 48 _ _ rfl (u1.heap.size) 0 (arrC Z ++ [Value.map (some (W.heap.size))]).toArray rfl rfl ?st (by rw [(HC.out _).1]; exact jm_info) (HC.out _).2 ?_
          case st => rw [(HC.out _).1]; exact hTh
          have hfin := jm_made (n := u1.heap.size) (b := W.heap.size) hZ hTh hMp (by omega)
          have hBf : Below W.heap.size W ((u1.alloc (.cells zeroJ.toArray 48)).setCells (u1.heap.size) 0 (arrC Z ++ [Value.map (some (W.heap.size))])) := below_setCells (by omega) _ _ _ hBw
          refine hK.out _ _ ⟨World.rangeAt_setCells_apart hS.1 _ _ _ (.inl (by omega)), World.rangeAt_setCells_apart hS.2 _ _ _ (.inl (by omega))⟩ (fun hS => ?_)
          clear hK K
          refine wpAnyH_done (by kernel_rfl) ?_ _
          go_wp2_with fail
          go_meet
          exact ⟨_, _, rfl, hfin.1, hfin.2, hBf, by omega, by omega⟩
      · go_simp
        refine hK.out _ _ ⟨World.rangeAt_alloc hS.1 _, World.rangeAt_alloc hS.2 _⟩ (fun hS => ?_)
        clear hK K
        have hTh := there17 (W.drew.alloc (.map #[] 0))
        rw [show (W.drew.alloc (.map #[] 0)).heap.size = W.heap.size + 1 by simp] at hTh
        replace hBw := below_then hBw (.cells zeroJ.toArray 48)
        replace hMp := hMp.alloc (.cells zeroJ.toArray 48)
        refine wpAnyH_ready (rs := [8]) (by kernel_rfl) (by simp) ?_
        refine AllReadyH.cons rfl (fun K hK => ?_) AllReadyH.nil
        · go_simp
          refine (hj _).mono ?_
          rintro e u1 ⟨rfl, hb⟩
          go_wp2_with fail
          have zz : W.heap.size + 1 + 1 ≤ u1.heap.size := by have := hb.size; simpa using this
          refine hK.out _ _ ⟨range_below hb (by first | omega | (simp; done) | (simp; omega)) hS.1, range_below hb (by first | omega | (simp; done) | (simp; omega)) hS.2⟩ (fun hS => ?_)
          clear hK K
          replace hBw := below_seq hBw hb
          replace hMp := hMp.on hb
          replace hTh := there_on hTh hb (by first | omega | (simp; done) | (simp; omega))
          clear hb
          refine wpAnyH_take (i := 10) (v := (.agg (arrC Z ++ [Value.map (some (W.heap.size))]).toArray)) rfl (by kernel_rfl) (by kernel_rfl) (by kernel_rfl) (fun _ _ _ h => h) (yieldsIf_build rfl _ _ rfl _ (by simp; exact ⟨rfl, rfl⟩) _ (HB.out (W.heap.size))) hS ?_
          simp only [tkS, Act.put]
          refine wpAnyH_ready (rs := [12]) (by kernel_rfl) (by simp) ?_
          refine AllReadyH.cons rfl (fun K hK => ?_) AllReadyH.nil
          refine wp_store_mid 48 _ _ rfl (W.heap.size + 1) 0 (arrC Z ++ [Value.map (some (W.heap.size))]).toArray rfl rfl ?st (by rw [(HC.out _).1]; exact jm_info) (HC.out _).2 ?_
          case st => rw [(HC.out _).1]; exact hTh
          have hfin := jm_made (n := W.heap.size + 1) (b := W.heap.size) hZ hTh hMp (by omega)
          have hBf : Below W.heap.size W ((u1).setCells (W.heap.size + 1) 0 (arrC Z ++ [Value.map (some (W.heap.size))])) := below_setCells (by omega) _ _ _ hBw
          refine hK.out _ _ ⟨World.rangeAt_setCells_apart hS.1 _ _ _ (.inl (by omega)), World.rangeAt_setCells_apart hS.2 _ _ _ (.inl (by omega))⟩ (fun hS => ?_)
          clear hK K
          refine wpAnyH_done (by kernel_rfl) ?_ _
          go_wp2_with fail
          go_meet
          exact ⟨_, _, rfl, hfin.1, hfin.2, hBf, by omega, by omega⟩
    · go_simp
      refine hK.out _ _ ⟨World.rangeAt_alloc hS.1 _, World.rangeAt_alloc hS.2 _⟩ (fun hS => ?_)
      clear hK K
      have hTh : ((W.alloc (.cells zeroJ.toArray 48)).drew).there W.heap.size 0 17 := there17 W
      replace hBw : Below W.heap.size W ((W.alloc (.cells zeroJ.toArray 48)).drew) := (below_alloc W _).drew
      refine wpAnyH_ready (rs := [8, 9]) (by kernel_rfl) (by simp) ?_
      refine AllReadyH.cons rfl (fun K hK => ?_) (AllReadyH.cons rfl (fun K hK => ?_) AllReadyH.nil)
      · go_simp
        refine (hj _).mono ?_
        rintro e u1 ⟨rfl, hb⟩
        go_wp2_with fail
        have zz : W.heap.size + 1 ≤ u1.heap.size := by have := hb.size; simpa using this
        refine hK.out _ _ ⟨range_below hb (by first | omega | (simp; done) | (simp; omega)) hS.1, range_below hb (by first | omega | (simp; done) | (simp; omega)) hS.2⟩ (fun hS => ?_)
        clear hK K
        replace hBw := below_seq hBw hb
        replace hTh := there_on hTh hb (by first | omega | (simp; done) | (simp; omega))
        clear hb
        refine wpAnyH_ready (rs := [9]) (by kernel_rfl) (by simp) ?_
        refine AllReadyH.cons rfl (fun K hK => ?_) AllReadyH.nil
        · go_simp
          refine hK.out _ _ ⟨World.rangeAt_alloc hS.1 _, World.rangeAt_alloc hS.2 _⟩ (fun hS => ?_)
          clear hK K
          have hMp := Mp.made Tryz.prog 56 (u1)
          rw [show (u1).heap.size = u1.heap.size by simp] at hMp
          replace hTh := World.there_alloc hTh (.map #[] 0)
          replace hBw := below_then hBw (.map #[] 0)
          refine wpAnyH_take (i := 10) (v := (.agg (arrC Z ++ [Value.map (some (u1.heap.size))]).toArray)) rfl (by kernel_rfl) (by kernel_rfl) (by kernel_rfl) (fun _ _ _ h => h) (yieldsIf_build rfl _ _ rfl _ (by simp; exact ⟨rfl, rfl⟩) _ (HB.out (u1.heap.size))) hS ?_
          simp only [tkS, Act.put]
          refine wpAnyH_ready (rs := [12]) (by kernel_rfl) (by simp) ?_
          refine AllReadyH.cons rfl (fun K hK => ?_) AllReadyH.nil
          refine wp_store_mid 48 _ _ rfl (W.heap.size) 0 (arrC Z ++ [Value.map (some (u1.heap.size))]).toArray rfl rfl ?st (by rw [(HC.out _).1]; exact jm_info) (HC.out _).2 ?_
          case st => rw [(HC.out _).1]; exact hTh
          have hfin := jm_made (n := W.heap.size) (b := u1.heap.size) hZ hTh hMp (by omega)
          have hBf : Below W.heap.size W ((u1.alloc (.map #[] 0)).setCells (W.heap.size) 0 (arrC Z ++ [Value.map (some (u1.heap.size))])) := below_setCells (by omega) _ _ _ hBw
          refine hK.out _ _ ⟨World.rangeAt_setCells_apart hS.1 _ _ _ (.inl (by omega)), World.rangeAt_setCells_apart hS.2 _ _ _ (.inl (by omega))⟩ (fun hS => ?_)
          clear hK K
          refine wpAnyH_done (by kernel_rfl) ?_ _
          go_wp2_with fail
          go_meet
          exact ⟨_, _, rfl, hfin.1, hfin.2, hBf, by omega, by omega⟩
      · go_simp
        refine hK.out _ _ ⟨World.rangeAt_alloc hS.1 _, World.rangeAt_alloc hS.2 _⟩ (fun hS => ?_)
        clear hK K
        have hMp := Mp.made Tryz.prog 56 ((W.alloc (.cells zeroJ.toArray 48)).drew)
        rw [show ((W.alloc (.cells zeroJ.toArray 48)).drew).heap.size = W.heap.size + 1 by simp] at hMp
        replace hTh := World.there_alloc hTh (.map #[] 0)
        replace hBw := below_then hBw (.map #[] 0)
        refine wpAnyH_ready (rs := [8]) (by kernel_rfl) (by simp) ?_
        refine AllReadyH.cons rfl (fun K hK => ?_) AllReadyH.nil
        · go_simp
          refine (hj _).mono ?_
          rintro e u1 ⟨rfl, hb⟩
          go_wp2_with fail
          have zz : W.heap.size + 1 + 1 ≤ u1.heap.size := by have := hb.size; simpa using this
          refine hK.out _ _ ⟨range_below hb (by first | omega | (simp; done) | (simp; omega)) hS.1, range_below hb (by first | omega | (simp; done) | (simp; omega)) hS.2⟩ (fun hS => ?_)
          clear hK K
          replace hBw := below_seq hBw hb
          replace hMp := hMp.on hb
          replace hTh := there_on hTh hb (by first | omega | (simp; done) | (simp; omega))
          clear hb
          refine wpAnyH_take (i := 10) (v := (.agg (arrC Z ++ [Value.map (some (W.heap.size + 1))]).toArray)) rfl (by kernel_rfl) (by kernel_rfl) (by kernel_rfl) (fun _ _ _ h => h) (yieldsIf_build rfl _ _ rfl _ (by simp; exact ⟨rfl, rfl⟩) _ (HB.out (W.heap.size + 1))) hS ?_
          simp only [tkS, Act.put]
          refine wpAnyH_ready (rs := [12]) (by kernel_rfl) (by simp) ?_
          refine AllReadyH.cons rfl (fun K hK => ?_) AllReadyH.nil
          refine wp_store_mid 48 _ _ rfl (W.heap.size) 0 (arrC Z ++ [Value.map (some (W.heap.size + 1))]).toArray rfl rfl ?st (by rw [(HC.out _).1]; exact jm_info) (HC.out _).2 ?_
          case st => rw [(HC.out _).1]; exact hTh
          have hfin := jm_made (n := W.heap.size) (b := W.heap.size + 1) hZ hTh hMp (by omega)
          have hBf : Below W.heap.size W ((u1).setCells (W.heap.size) 0 (arrC Z ++ [Value.map (some (W.heap.size + 1))])) := below_setCells (by omega) _ _ _ hBw
          refine hK.out _ _ ⟨World.rangeAt_setCells_apart hS.1 _ _ _ (.inl (by omega)), World.rangeAt_setCells_apart hS.2 _ _ _ (.inl (by omega))⟩ (fun hS => ?_)
          clear hK K
          refine wpAnyH_done (by kernel_rfl) ?_ _
          go_wp2_with fail
          go_meet
          exact ⟨_, _, rfl, hfin.1, hfin.2, hBf, by omega, by omega⟩
  case rest =>
    clear hr0 hr1
    have hwW := HWW.out
    obtain ⟨nj, bj, rfl, hJj, hMj, hB, hnj, hbj⟩ := hcut
    have hne := jm_ne hJj hMj
    have hJ0c := hJ0W.on hB
    have hJ1c := hJ1W.on hB
    have hM0c := hM0W.on hB
    have hM1c := hM1W.on hB
    have hTc := there_on hTW hB (by omega)
    have hljc := hJj.lt
    have hlbc := hMj.lt
    have hk1 := keep_any wc nj bj n0 b0 n1 b1 Z X Y [] ls1 ls2 hJj hZ hMj hJ0c hX hM0c hJ1c hY hM1c (by omega) (by omega) hact1 (fun _ _ _ _ o ho => by cases ho)
    go_wp2_with fail
    refine hk1.mono ?_
    rintro e w3 ⟨rfl, out1, hM3, hK1, hg3⟩
    have hJj3 := hJj.kept hg3 (fun e => hne (by simpa using e.symm))
    have hJ03 := hJ0c.kept hg3 (by simp; omega)
    have hJ13 := hJ1c.kept hg3 (by simp; omega)
    have hM03 := hM0c.kept hg3 (by simp; omega)
    have hM13 := hM1c.kept hg3 (by simp; omega)
    have hT3 : w3.there w.heap.size 0 17 := fun j hj => by
      have hbk := hg3.block w.heap.size (by have := hB.size; omega) (by simp; omega)
      exact ⟨by rw [World.cell?_of_block (a := ⟨w.heap.size, 0 + j, none⟩) hbk]; exact (hTc j hj).1, by rw [World.frozen?_of_block (a := ⟨w.heap.size, 0 + j, none⟩) hbk]; exact (hTc j hj).2⟩
    have hk2 := keep_any w3 nj bj n1 b1 n0 b0 Z Y X out1 ls2 ls1 hJj3 hZ hM3 hJ13 hY hM13 hJ03 hX hM03 (by omega) (by omega) hact2 (hsame out1 hK1)
    go_wp2_with fail
    refine hk2.mono ?_
    rintro e w4 ⟨rfl, out, hM4, hK2, hg4⟩
    have hJj4 := hJj3.kept hg4 (fun e => hne (by simpa using e.symm))
    have hT4 : w4.there w.heap.size 0 17 := fun j hj => by
      have hbk := hg4.block w.heap.size (by have := hB.size; have := hg3.size; omega) (by simp; omega)
      exact ⟨by rw [World.cell?_of_block (a := ⟨w.heap.size, 0 + j, none⟩) hbk]; exact (hT3 j hj).1, by rw [World.frozen?_of_block (a := ⟨w.heap.size, 0 + j, none⟩) hbk]; exact (hT3 j hj).2⟩
    have hB4 : Below w.heap.size w w4 := below_grownE (below_grownE (below_seq hbW hB) (Nat.le_refl _) hg3 (fun g hg => by cases hg; omega)) (Nat.le_refl _) hg4 (fun g hg => by cases hg; omega)
    have hlw : (arrC Z ++ [Value.map (some bj)]).length = 17 := by simp [arrC_len, hZ]
    have hone : (arrC Z ++ [Value.map (some bj)]).toArray.all (·.oneCell') = true := all_oneCell_toArray (fun v hv => by rcases List.mem_append.1 hv with h | h; exact arrC_one Z v h; rw [List.mem_singleton.1 h]; rfl)
    have HA : Hid (∀ w', Mp Tryz.prog 56 w' bj (out.map kvE) → Below w.heap.size w w' → JnAns X Y ls1 ls2 w (.returned (.agg (arrC Z ++ [Value.map (some bj)]).toArray)) w') := fun w' h1 h2 => ⟨bj, out1, out, by rw [← hZZ], by omega, h1, hK1, hK2, h2⟩
    have hr4 := hJj4.1
    generalize arrC Z ++ [Value.map (some bj)] = V at hlw hone HA hr4
    have hiL : (Tryz.prog.info? 48).map (·.size) = some V.length := by rw [hlw]; exact jm_info
    have hiA : (Tryz.prog.info? 48).map (·.size) = some V.toArray.size := by rw [List.size_toArray]; exact hiL
    have hTV : w4.there w.heap.size 0 V.toArray.size := by rw [show V.toArray.size = 17 by rw [List.size_toArray]; exact hlw]; exact hT4
    have hld := run_loadVar_mid (P := Tryz.prog) (w4.setCells w.heap.size 0 V) w.heap.size 0 48 V _ (World.rangeAt_setCells_same _ _ _ _ (by rw [hlw]; exact hT4)) Tryz.underlying48 rfl hiL
    have HL : Hid _ := hld
    have hMf := mp_setCells hM4 (n := w.heap.size) (by omega) 0 V
    have hBf : Below w.heap.size w (w4.setCells w.heap.size 0 V) := below_setCells (Nat.le_refl _) _ _ _ hB4
    clear hld hk1 hk2
    go_wp2_with (first | (refine wpList_load_mid rfl 48 _ rfl nj 0 rfl V _ hr4 Tryz.underlying48 rfl hiL ?_) | (refine wpList_store_mid rfl 48 _ _ rfl w.heap.size 0 V.toArray rfl rfl hTV hiA hone ?_))
    refine bodyPost_ret (v := .agg V.toArray) ?_ rfl (HA.out _ hMf hBf)
    simp [results, Tryz.results24, asAddr, Act.put, HL.out]

end Go.Proofs.YtfnlnigeaioocaaGreat

namespace Go.Proofs.YtfnlnigeaioocaaGreat
open Go.RowKit
set_option linter.unusedVariables false

theorem bl_irreflK (x : List UInt8) : Op.bytesLess x x = false := by
  induction x with
  | nil => rfl
  | cons a x ih => simp [Op.bytesLess, ih]
theorem bl_transK : ∀ (x y z : List UInt8), Op.bytesLess x y = true → Op.bytesLess y z = true → Op.bytesLess x z = true := by
  intro x
  induction x with
  | nil =>
    intro y z h1 h2
    cases z with
    | nil => cases y <;> simp [Op.bytesLess] at h2
    | cons c z => rfl
  | cons a x ih =>
    intro y z h1 h2
    cases y with
    | nil => simp [Op.bytesLess] at h1
    | cons b y =>
      cases z with
      | nil => simp [Op.bytesLess] at h2
      | cons c z =>
        simp only [Op.bytesLess, Bool.or_eq_true, decide_eq_true_eq, Bool.and_eq_true, beq_iff_eq] at h1 h2 ⊢
        rcases h1 with h1 | ⟨rfl, h1⟩
        · rcases h2 with h2 | ⟨rfl, h2⟩
          · exact .inl (UInt8.lt_trans h1 h2)
          · exact .inl h1
        · rcases h2 with h2 | ⟨rfl, h2⟩
          · exact .inl h2
          · exact .inr ⟨rfl, ih y z h1 h2⟩
theorem bl_triK : ∀ x y : List UInt8, Op.bytesLess x y = true ∨ x = y ∨ Op.bytesLess y x = true := by
  intro x
  induction x with
  | nil =>
    intro y
    cases y with
    | nil => exact .inr (.inl rfl)
    | cons b y => exact .inl rfl
  | cons a x ih =>
    intro y
    cases y with
    | nil => exact .inr (.inr rfl)
    | cons b y =>
      simp only [Op.bytesLess, Bool.or_eq_true, decide_eq_true_eq, Bool.and_eq_true, beq_iff_eq]
      by_cases h1 : a < b
      · exact .inl (.inl h1)
      · by_cases h2 : b < a
        · exact .inr (.inr (.inl h2))
        · have e : a = b := by
            have h1' : ¬ a.toNat < b.toNat := h1
            have h2' : ¬ b.toNat < a.toNat := h2
            exact UInt8.toNat_inj.1 (by omega)
          subst e
          rcases ih y with h | rfl | h
          · exact .inl (.inr ⟨rfl, h⟩)
          · exact .inr (.inl rfl)
          · exact .inr (.inr (.inr ⟨rfl, h⟩))
theorem toList_sameK (a : ByteArray) : a.toList = a.data.toList := by
  have loop : ∀ (n i : Nat) (r : List UInt8), a.size - i = n → ByteArray.toList.loop a i r = r.reverse ++ a.data.toList.drop i := by
    intro n
    induction n with
    | zero =>
      intro i r h
      rw [ByteArray.toList.loop]
      have hi : ¬ i < a.size := by omega
      rw [if_neg hi, List.drop_of_length_le (by rw [Array.length_toList]; exact Nat.le_of_not_lt hi), List.append_nil]
    | succ n ih =>
      intro i r h
      rw [ByteArray.toList.loop]
      have hi : i < a.size := by omega
      rw [if_pos hi, ih (i + 1) _ (by omega), List.reverse_cons, List.append_assoc]
      congr 1
      have hj : i < a.data.toList.length := by rw [Array.length_toList]; exact hi
      rw [List.drop_eq_getElem_cons hj]
      simp [ByteArray.get!, hi]
  have := loop a.size 0 [] (by omega)
  simpa [ByteArray.toList] using this
theorem bytes_injK {a b : ByteArray} (h : a.toList = b.toList) : a = b := by
  rw [toList_sameK, toList_sameK] at h
  cases a with
  | mk x =>
    cases b with
    | mk y =>
      simp only [ByteArray.mk.injEq]
      exact Array.toList_inj.1 h

theorem cmpS_same (t a : Int) : cmpS t a t a = 0 := by
  unfold cmpS
  rw [(cmpI_zero t t).2 rfl, (cmpI_zero a a).2 rfl]
  rfl
theorem lessR_same (t a : Int) (s s' : ByteArray) : lessR t a s t a s' = Op.bytesLess s.toList s'.toList := by
  unfold lessR
  rw [cmpS_same]
  unfold orI cmpT
  rw [if_pos rfl]
  cases Op.bytesLess s.toList s'.toList
  · split
    · rename_i h; cases h
    · split <;> rfl
  · rfl
theorem gr_comm {e y : En} (h : y.1 = e.1 ∧ y.2.1 = e.2.1) : grE e y = grE y e := by
  obtain ⟨t, a, s⟩ := e
  obtain ⟨t', a', s'⟩ := y
  simp only at h
  obtain ⟨rfl, rfl⟩ := h
  unfold grE
  simp only [lessR_same]
  rcases bl_triK s.toList s'.toList with h | h | h
  · have h2 : Op.bytesLess s'.toList s.toList = false := by
      cases hc : Op.bytesLess s'.toList s.toList with
      | false => rfl
      | true => have := bl_transK _ _ _ h hc; rw [bl_irreflK] at this; cases this
    rw [h, h2]
    rfl
  · rw [bytes_injK h]
  · have h2 : Op.bytesLess s.toList s'.toList = false := by
      cases hc : Op.bytesLess s.toList s'.toList with
      | false => rfl
      | true => have := bl_transK _ _ _ h hc; rw [bl_irreflK] at this; cases this
    rw [h, h2]
    rfl
theorem apart_eq {ls : List En} (hap : (ls.map kvE).Pairwise (fun p q => p.1 ≠ q.1)) {z e : En} (h1 : z ∈ ls) (hm : e ∈ ls) (hst : z.1 = e.1 ∧ z.2.1 = e.2.1) : z = e := by
  have hz : (kvE z).1 = (kvE e).1 := (key_iff e z).2 hst
  obtain ⟨i, hi, rfl⟩ := List.getElem_of_mem h1
  obtain ⟨j, hj, rfl⟩ := List.getElem_of_mem hm
  rcases Nat.lt_trichotomy i j with hlt | rfl | hlt
  · exact absurd (by rw [List.getElem_map, List.getElem_map]; exact hz) (List.pairwise_iff_getElem.1 hap i j (by simpa using hi) (by simpa using hj) hlt)
  · rfl
  · exact absurd (by rw [List.getElem_map, List.getElem_map]; exact hz.symm) (List.pairwise_iff_getElem.1 hap j i (by simpa using hj) (by simpa using hi) hlt)
/-- An entry with a twin: the greater of both stays. -/
theorem keep_twin {ls : List En} {X : List Int} {e y : En} (hap : (ls.map kvE).Pairwise (fun p q => p.1 ≠ q.1)) (hm : y ∈ ls) (hst : y.1 = e.1 ∧ y.2.1 = e.2.1) : keepE ls X e = some (grE e y) := by
  unfold keepE
  cases hf : ls.find? (twinE e) with
  | none =>
    have := List.find?_eq_none.1 hf y hm
    unfold twinE at this
    exact absurd (by simpa using hst) this
  | some z =>
    have hz := List.find?_some hf
    have hzm := List.mem_of_find?_eq_some hf
    unfold twinE at hz
    simp only [decide_eq_true_eq] at hz
    rw [apart_eq hap hzm hm ⟨hz.1.trans hst.1.symm, hz.2.trans hst.2.symm⟩]
/-- What the second keeping puts over what the first one put is the same. -/
theorem same_both {ls1 ls2 : List En} {X Y : List Int} (h1 : (ls1.map kvE).Pairwise (fun p q => p.1 ≠ q.1)) (h2 : (ls2.map kvE).Pairwise (fun p q => p.1 ≠ q.1)) :
    ∀ out1, KeptIs [] ls1 ls2 Y out1 → ∀ e ∈ ls2, ∀ x, keepE ls1 X e = some x → ∀ o ∈ out1, o.1 = x.1 ∧ o.2.1 = x.2.1 → o = x := by
  intro out1 hK e he x hx o ho hst
  rcases (hK o).1 ho with h | ⟨z, hz, hkz⟩
  · cases h
  · have s1 := keep_stamp hkz
    have s2 := keep_stamp hx
    have hze : z.1 = e.1 ∧ z.2.1 = e.2.1 := ⟨by rw [← s1.1, hst.1, s2.1], by rw [← s1.2, hst.2, s2.2]⟩
    rw [keep_twin h1 hz hze] at hx
    rw [keep_twin h2 he ⟨hze.1.symm, hze.2.symm⟩] at hkz
    cases hx
    cases hkz
    exact gr_comm ⟨hze.1.symm, hze.2.symm⟩

end Go.Proofs.YtfnlnigeaioocaaGreat
