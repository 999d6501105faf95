/- What the code's LensFlip answers. -/
import Derived.Test.YtagnpahkhaighaaFlipMeth
import Derived.Test.YtagnpahkhaighaaBackSteps
import Derived.Test.YtagnpahkhaighaaStepConcat
namespace Go.Proofs.Ytagnpahkhaighaa
open Go.RowKit
set_option linter.unusedVariables false
attribute [local go_sem] Oper.semAt_some

def flipC (a : List St) : Int := if okLens a then 0 else 1
def flipL (a : List St) : List St := if okLens a then (a.map flipE).reverse else []
theorem flipL_len (a : List St) : (flipL a).length ≤ 1048576 := by
  unfold flipL
  split
  · rename_i h
    have : a.length ≤ 32 := by
      unfold okLens at h
      rw [Bool.and_eq_true] at h
      exact of_decide_eq_true h.1
    simp
    omega
  · simp
/-- What the steps of these places make, flipped. -/
def flipP (a : List St) (pre : List Nat) : List St := pre.map fun i => flipE (stAt a i)
theorem flipP_all (a : List St) : flipP a (fr a.length 0) = (a.map flipE).reverse := by
  unfold flipP fr
  rw [List.drop_zero, List.map_reverse]
  congr 1
  refine List.ext_getElem (by simp) fun i h1 h2 => ?_
  simp [stAt] at h1 ⊢
  simp [h1]

set_option maxRecDepth 100000 in
set_option maxHeartbeats 1000000 in
theorem flipBad_any (C : Nat) (w : World) (v : Value) (a : List St) (hl : a.length ≤ 1048576) (hC : C ≤ w.heap.size) (hr : RdSt C w v a) (hok : okLens a = false) :
    Calls Try.prog 21 #[v] w fun e w' => ∃ r, e = .returned (.tuple #[r, .int .i64 (flipC a)]) ∧ OwnSt w' w.heap.size r (flipL a) ∧ Below w.heap.size w w' := by
  have hS := lensStepsOf_any C w v a hl hC hr
  rw [hok] at hS
  have HE1 : Hid (flipC a = 1) := by unfold Hid flipC; rw [hok]; rfl
  have HE2 : Hid (flipL a = []) := by unfold Hid flipL; rw [hok]; rfl
  have hv : ∃ va vc, v = .slice va a.length vc := by obtain ⟨va, vc, h, _⟩ := hr; exact ⟨_, _, h⟩
  obtain ⟨va, vc, rfl⟩ := hv
  clear hok hr
  go_enter Try.func21, Try.ntmps21
  go_wp2_with fail
  refine hS.mono ?_
  rintro e w1 ⟨sv, rfl, _, hb1⟩
  go_wp2_with fail
  go_ret2
  exact ⟨_, by rw [HE1.out]; rfl, by rw [HE2.out]; exact ownM_nil _ _ _ _, hb1⟩

theorem own_sliceM {T : TypeId} {m : Nat} {w : World} {B : Nat} {v : Value} {n : Nat} {cs : List Value} (h : w.ownsRow B T m v n cs) : ∃ a c, v = .slice a n c := by
  rcases ownM_shape h with ⟨e, h0, _⟩ | ⟨g, c, e, _⟩
  · exact ⟨none, 0, by rw [e, h0]⟩
  · exact ⟨_, c, e⟩
theorem four_new (w : World) (x y z u : Value) (t : TypeId) : ∀ j v, [x, y, z, u][j]? = some v → (w.alloc (.cells #[x, y, z, u] t)).cell? ((⟨w.heap.size, 0, none⟩ : Addr).add j) = some v := by
  intro j v hj
  rw [Addr.add_lit, Nat.zero_add]
  match j, hj with
  | 0, hj => cases hj; exact cell_made (Below.refl _ _) (k := 0) rfl
  | 1, hj => cases hj; exact cell_made (Below.refl _ _) (k := 1) rfl
  | 2, hj => cases hj; exact cell_made (Below.refl _ _) (k := 2) rfl
  | 3, hj => cases hj; exact cell_made (Below.refl _ _) (k := 3) rfl

/-- The append of one step more, as it runs. -/
theorem flipApp_run (x y z u : Value) {W w2 : World} {B : Nat} {v : Value} {FP : List St} (h2 : W.ownsRow B 43 4 v FP.length (stCs FP)) (hb2 : Below W.drew.heap.size W.drew w2) (hlen : FP.length ≤ 1024) (hB : B ≤ W.heap.size) (hx : x.oneCell' = true) (hy : y.oneCell' = true) (hz : z.oneCell' = true) (hu : u.oneCell' = true) :
    ∃ v' w', (Builtin.append_ #[29, 29] 29 #[v, .slice (some ⟨w2.heap.size, 0, none⟩) 1 1]).run Try.prog (w2.alloc (.cells #[x, y, z, u] 43)) = .ok v' w' ∧ w'.ownsRow B 43 4 v' (FP.length + 1) (stCs FP ++ [x, y, z, u]) ∧ (w2.alloc (.cells #[x, y, z, u] 43)).grownBy w' v.ownBlock ∧ True := by
  obtain ⟨i0, hi, hz0, hz1, hz2⟩ := info_parts infoStep
  have hs2 : W.heap.size ≤ w2.heap.size := hb2.size
  have ho : (w2.alloc (.cells #[x, y, z, u] 43)).ownsRow B 43 4 v FP.length (stCs FP) := World.ownsRow.alloc (ownM_on (World.ownsRow.drew h2) hb2) _
  obtain ⟨v', w', hrun, r1, r2, _⟩ := run_append_own (P := Try.prog) (w2.alloc (.cells #[x, y, z, u] 43)) B 29 29 43 i0 (.agg #[.int .i64 0, .string ByteArray.empty, .string ByteArray.empty, .string ByteArray.empty]) 4 56 Try.underlying29 hi hz0 hz1 hz2 rfl (by decide) v FP.length (stCs FP) ho ⟨w2.heap.size, 0, none⟩ 1 1 [x, y, z, u] rfl (four_new _ _ _ _ _ _) (by simp [hx, hy, hz, hu]) (by unfold maxLen; omega) (by omega) (by simp; omega)
  exact ⟨v', w', hrun, r1, r2, trivial⟩

/-- An append whose run is known, as a step of a region that draws its order, inside a fence. -/
theorem step_runIn {F : Fence} {n : Nat} {P : Program} {w : World} {ops : Array Oper} {o : Oper} {a : Act} {K : Act → World → Prop} {Q : Exit → Act → World → Prop} {E : Prop} (hgd : o.guard = none) (s x : Operand) (t : TypeId)
    (hop : o.op = .call { callee := .builtin .append, args := #[s, x], argTypes := #[t, t] }) (sv xv : Value) (hs : a.eval s = sv) (hx : a.eval x = xv) (v' : Value) (w' : World) (hrun : (Builtin.append_ #[t, t] o.type #[sv, xv]).run P w = .ok v' w')
    (h : K (a.put o.dst v') w') : if Region.wanted o (yielded ops a.tmps) = true then Oper.wpIn F n P o a w K Q else E := by
  have hw : Region.wanted o (yielded ops a.tmps) = true := by simp [Region.wanted, hgd]
  rw [if_pos hw]
  unfold Oper.wpIn
  refine ⟨?_, ?_⟩
  · simp [Oper.about, hop, resolve, Target.leads, Sem.run_pure]
  · rw [Oper.semAt_plain F _ _ (by rw [hop]; intro c hc'; cases hc')]
    simp [execOp, hop, resolve, invoke, builtin, hs, hx, hrun, Result.andThen]
    exact h

/-- What the round leaves: the box can be written, and all that was kept is kept. -/
theorem flip_end {W w2 w6 w1 : World} {B b : Nat} {v v6 x y z u : Value} {FP : List St} {n6 : Nat} {cs6 : List Value} (h1 : Boxed W b 29 v) (h2 : W.ownsRow B 43 4 v FP.length (stCs FP)) (hb2 : Below W.drew.heap.size W.drew w2) (hg6 : (w2.alloc (.cells #[x, y, z, u] 43)).grownBy w6 v.ownBlock) (ho6 : w6.ownsRow B 43 4 v6 n6 cs6) (h4 : Below w1.heap.size w1 W) (h5 : B ≤ W.heap.size) (hbB : b + 1 < B) (hb : b = w1.heap.size) :
    w6.cell? ⟨b, 0, none⟩ = some v ∧ w6.frozen? ⟨b, 0, none⟩ = false ∧ (Boxed (w6.setCell ⟨b, 0, none⟩ v6) b 29 v6 ∧ (w6.setCell ⟨b, 0, none⟩ v6).ownsRow B 43 4 v6 n6 cs6 ∧ Below w1.heap.size w1 (w6.setCell ⟨b, 0, none⟩ v6) ∧ B ≤ (w6.setCell ⟨b, 0, none⟩ v6).heap.size ∧ KpB w1.heap.size (w1.heap.size + 1) W (w6.setCell ⟨b, 0, none⟩ v6) ∧ KeepsOthers W (w6.setCell ⟨b, 0, none⟩ v6)) := by
  subst hb
  have hb2' : Below W.heap.size W w2 := (Below.refl _ W).drew.trans hb2
  have hs2 := hb2'.size
  have hlt := h1.lt
  have h1' : Boxed w2 w1.heap.size 29 v := (hb2'.block _ hlt).trans h1
  have hvB : ∀ k, v.ownBlock = some k → B ≤ k := fun k hk => (World.ownsRow.lt h2 k hk).1
  have hne : some w1.heap.size ≠ v.ownBlock := fun e => by have := hvB _ e.symm; omega
  have h1'' : Boxed w6 w1.heap.size 29 v := (h1'.alloc _).kept hg6 hne
  have hs6 := hg6.size
  rw [World.size_alloc] at hs6
  have h4' : Below w1.heap.size w1 w6 := ((h4.trans (hb2'.mono (by omega))).alloc (by omega) _).grown hg6 (by rw [World.size_alloc]; omega) (fun k hk => by have := hvB k hk; omega)
  have hblk : w6.heap[w1.heap.size + 1]? = W.heap[w1.heap.size + 1]? := (hg6.block _ (by rw [World.size_alloc]; omega) (fun e => by have := hvB _ e.symm; omega)).trans ((Below.heap_alloc _ _ _ (by omega)).trans (hb2'.block _ (by omega)))
  have hk : Below w1.heap.size W w6 := ((hb2'.mono (by omega)).alloc (by omega) _).grown hg6 (by rw [World.size_alloc]; omega) (fun k hk => by have := hvB k hk; omega)
  refine ⟨h1''.cell, h1''.frozen, h1''.set v6, ownM_kept ho6 (grownBy_set w6 w1.heap.size 0 v6) (fun k hk e => by have := (World.ownsRow.lt ho6 k hk).1; have := Option.some.inj e; omega), h4'.setCell (Nat.le_refl _) _, by simp; omega, ⟨hk.setCell (Nat.le_refl _) _, ?_⟩, ?_⟩
  · rw [heap_setCell_other _ _ _ _ (by show w1.heap.size + 1 ≠ w1.heap.size; omega)]
    exact hblk
  · have hko : KeepsOthers W w2 := ⟨hs2, fun k o hk _ => (hb2'.block k (Array.getElem?_eq_some_iff.1 hk).1).trans hk⟩
    refine ((hko.trans (KeepsOthers.alloc w2 _)).trans (KeepsOthers.of_grownBy hg6 fun j o ej hj => ?_)).trans (KeepsOthers.setCell _ _ _)
    have h2' := World.ownsRow.alloc (ownM_on (World.ownsRow.drew h2) hb2) (.cells #[x, y, z, u] 43)
    rcases h2'.2 with ⟨rfl, _⟩ | ⟨g, cap, cur, rfl, _, hgb, _⟩
    · simp [Value.ownBlock] at ej
    · obtain rfl : g = j := by simpa [Value.ownBlock] using ej
      rw [hgb] at hj
      cases hj
      rfl

theorem flip_post {W W' w1 : World} {B b : Nat} {v v6 : Value} {FP L : List St} {x : St} (h1 : Boxed W b 29 v) (hL : L = FP ++ [x])
    (h : Boxed W' b 29 v6 ∧ W'.ownsRow B 43 4 v6 (FP.length + 1) (stCs FP ++ St.cs x) ∧ Below w1.heap.size w1 W' ∧ B ≤ W'.heap.size ∧ KpB w1.heap.size (w1.heap.size + 1) W W' ∧ KeepsOthers W W') :
    KeepsFrom B W W' ∧ KpB w1.heap.size (w1.heap.size + 1) W W' ∧ (∃ fv, Boxed W' b 29 fv ∧ W'.ownsRow B 43 4 fv L.length (stCs L) ∧ True) ∧ Below w1.heap.size w1 W' ∧ B ≤ W'.heap.size := by
  subst hL
  obtain ⟨a1, a2, a3, a4, a5, a6⟩ := h
  refine ⟨a6.from _, a5, ⟨v6, a1, ?_, trivial⟩, a3, a4⟩
  rw [stCs_app, List.length_append]
  show W'.ownsRow B 43 4 v6 (FP.length + 1) (stCs FP ++ (St.cs x ++ []))
  rw [List.append_nil]
  exact a2

set_option maxRecDepth 100000 in
set_option maxHeartbeats 4000000 in
theorem flipGood_in (C : Nat) (w : World) (v : Value) (a : List St) (hl : a.length ≤ 1048576) (hC : C ≤ w.heap.size) (hr : RdSt C w v a) (hok : okLens a = true) :
    CallsIn Fence.wide 6 Try.prog 21 #[v] w fun e w' => ∃ r, e = .returned (.tuple #[r, .int .i64 (flipC a)]) ∧ OwnSt w' w.heap.size r (flipL a) ∧ Below w.heap.size w w' := by
  have hS := lensStepsOf_any C w v a hl hC hr
  rw [hok] at hS
  obtain ⟨i0, hi, hz0, hz1, hz2⟩ := info_parts infoStep
  have hv : ∃ va vc, v = .slice va a.length vc := by obtain ⟨va, vc, h, _⟩ := hr; exact ⟨_, _, h⟩
  obtain ⟨va, vc, rfl⟩ := hv
  have HE1 : Hid (flipC a = 0) := by unfold Hid flipC; rw [hok]; rfl
  have HE2 : Hid (flipL a = flipP a (fr a.length 0)) := by unfold Hid flipL; rw [hok, flipP_all]; rfl
  have hl32 : a.length ≤ 32 := by
    unfold okLens at hok
    rw [Bool.and_eq_true] at hok
    exact of_decide_eq_true hok.1
  generalize flipC a = fc at *
  generalize flipL a = fl at *
  clear hr hok
  refine callsIn_of_wp_marks Try.func21 rfl trivial ?_ rfl
  simp only [Try.ntmps21, List.size_toArray, List.length_cons, List.length_nil, Nat.reduceAdd, Nat.reduceSub, Array.replicate_succ, Array.replicate_zero, List.push_toArray, List.append_toArray, List.nil_append, List.cons_append]
  have hf1 : Fence.wide.fn 41 := trivial
  have hf2 : Fence.wide.fn 33 := trivial
  gi_wp2_with (first | (gi_at_call 33; refine (callsIn_wide.2 hS).mono ?_; rintro e w1 ⟨sv, rfl, hown, hb1⟩) | gi_in)
  have ho := hown (by first | rfl | trivial)
  obtain ⟨sa, sc, hsv⟩ : ∃ sa sc, sv = .slice sa a.length sc := by
    rcases ho.shape with ⟨e, h0⟩ | ⟨g, c, e, _⟩
    · have : a.length = 0 := by have := congrArg List.length h0; simpa using this
      exact ⟨none, 0, by rw [e, this]⟩
    · exact ⟨_, c, by rw [e, List.length_map]⟩
  subst hsv
  have HO : Hid (Own 75 w1 w.heap.size (.slice sa a.length sc) (a.map stepV)) := ho
  clear ho hown hS
  gi_wp2_with (first | (gi_at_call 41; refine (backward_in Fence.wide _ trivial rfl _ ⟨_, _, _, rfl⟩ _).mono ?_; rintro e w' ⟨rfl, rfl⟩) | gi_in)
  obtain ⟨W0, hW0⟩ : ∃ W0, ((w1.alloc (.cells #[.slice none 0 0] 29)).alloc (.cells #[.slice sa a.length sc] 59)) = W0 := ⟨_, rfl⟩
  have hsz1 := hb1.size
  have hs0 : W0.heap.size = w1.heap.size + 1 + 1 := by rw [← hW0]; simp
  have hB0 : Boxed W0 w1.heap.size 29 (.slice none 0 0) := by
    rw [← hW0]
    exact (Boxed.new w1 29 (.slice none 0 0)).alloc (.cells #[.slice sa a.length sc] 59)
  have hb0 : Below w.heap.size w W0 := by rw [← hW0]; exact below_then (below_then hb1 _) _
  have hb10 : Below w1.heap.size w1 W0 := by rw [← hW0]; exact below_then (below_alloc _ _) _
  have hc0 : W0.cell? ⟨w1.heap.size + 1, 0, none⟩ = some (.slice sa a.length sc) := by
    rw [← hW0]
    have := (Boxed.new (w1.alloc (.cells #[.slice none 0 0] 29)) 59 (.slice sa a.length sc)).cell
    rw [World.size_alloc] at this
    exact this
  rw [hW0]
  have hR0 : Rd w1.heap.size W0 (.slice sa a.length sc) (a.map stepV) := HO.out.rd.below hb10
  clear hW0
  refine wpIn_rangeFunc_ownH rfl (by omega) (gf := 51) (lb := #[.pointer (some ⟨w1.heap.size + 1, 0, none⟩)]) rfl trivial (enters_of Try.func51 (by kernel_rfl) rfl)
    (back_stops Fence.wide _ trivial rfl (by omega) (w1.heap.size + 1) w1.heap.size _ a (by omega) W0 (by omega) (by omega) hc0 hR0) kpB_t (kpB_b (by omega) (by omega)) (Below.refl _ _) (fun _ => rfl)
    (fun pre W => (∃ fv, Boxed W w1.heap.size 29 fv ∧ W.ownsRow W0.heap.size 43 4 fv (flipP a pre).length (stCs (flipP a pre)) ∧ True) ∧ Below w1.heap.size w1 W ∧ W0.heap.size ≤ W.heap.size)
    (fun _ _ _ => False)
    (OwnFrom.and (Go.Own.from (holdsRow_own W0.heap.size w1.heap.size 29 43 4 (fun pre => (flipP a pre).length) (fun pre => stCs (flipP a pre)) (fun pre v => True)) _) (fun pre X Y row hs hg hrow => by
      obtain ⟨h4, h5⟩ := hs
      have hgs := hg.size
      exact ⟨h4.grown hg h4.size (fun k e => by have := (hrow k e).1; omega), by omega⟩))
    (fun _ _ _ _ _ hs _ _ => hs)
    ⟨⟨_, hB0, ownM_nil _ _ _ _, trivial⟩, hb10, Nat.le_refl _⟩
    (fun x a' W => a' = { tmps := #[.slice va a.length vc, undef, .slice none 0 0, .int .i64 0, .slice sa a.length sc, .bool true, .pointer (some ⟨w1.heap.size, 0, none⟩), undef, stepV (stAt a x), .tuple #[.slice sa a.length sc, .bool true], .slice va a.length vc, .tuple #[.slice sa a.length sc, .bool true], .slice sa a.length sc, .bool true, .bool true, .bool false, .slice sa a.length sc, .func (.func 51) #[] #[.pointer (some ⟨w1.heap.size + 1, 0, none⟩)], .int .i64 (x : Int), stepV (stAt a x), undef, undef, undef, undef, undef, undef], defers := [] })
    (fun x a' s X Y row hs hg hrow => hs) ?assign ?body ?done ?stop
  case assign =>
    rintro l pre x W K ⟨⟨fv, h1, h2, _⟩, h4, h5⟩ hK
    have HK : Hid _ := hK _ _ ((KeepsOthers.refl W).from _) (KpB.refl _ _ _) ⟨⟨fv, h1, h2, trivial⟩, h4, h5⟩ rfl
    unfold lsVs
    obtain ⟨sT, sd, hsd⟩ := stepV_iface (stAt a x)
    rw [hsd] at HK ⊢
    gi_wp2
    exact HK.out
  case body =>
    rintro l pre x a' W hlW ⟨r, hrl⟩ ⟨⟨fv, h1, h2, _⟩, h4, h5⟩ rfl hlt
    obtain ⟨fa, fcp, hfv⟩ : ∃ fa fcp, fv = .slice fa (flipP a pre).length fcp := by
      rcases ownM_shape h2 with ⟨e, h0, _⟩ | ⟨g, c, e, _⟩
      · exact ⟨none, 0, by rw [e, h0]⟩
      · exact ⟨_, c, e⟩
    subst hfv
    have hc := h1.cell
    have hcd : W.drew.cell? ⟨w1.heap.size, 0, none⟩ = some (.slice fa (flipP a pre).length fcp) := hc
    have HF : Hid (flipP a (pre ++ [x]) = flipP a pre ++ [flipE (stAt a x)]) := by unfold Hid flipP; rw [List.map_append]; rfl
    have hlen : (flipP a pre).length ≤ 1024 := by unfold flipP; rw [List.length_map]; omega
    have hW0z : W0.heap.size ≤ W.heap.size := h5
    generalize flipP a pre = FP at *
    generalize stAt a x = ee at *
    obtain ⟨k, nn, tt, uu⟩ := ee
    by_cases hk1 : k = 1
    · subst hk1
      have hfn1 : Fence.wide.fn 85 := trivial
      have hm : ∀ w, (method 228 92 (.agg #[.string nn, .string tt]) "loop.example/g00028/impl.flip").run Try.prog w = .ok (85, .agg #[.string nn, .string tt]) w := fun _ => by kernel_rfl
      rw [show stepV (1, nn, tt, uu) = .iface 92 (.agg #[.string nn, .string tt]) from rfl]
      have HS : Hid (flipP a (pre ++ [x]) = FP ++ [(1, tt, nn, ⟨#[]⟩)]) := by exact HF.out
      gi_wp2
      refine wpIn_region_any (by kernel_rfl) ?_
      refine wpAnyIn_ready (rs := [0, 1]) (by kernel_rfl) (by simp) ?_
      refine AllReadyIn.cons rfl (fun K hK => ?_) (AllReadyIn.cons rfl (fun K hK => ?_) AllReadyIn.nil)
      · skip
        go_simp
        refine hK _ _ ?_
        clear hK K
        refine wpAnyIn_ready (rs := [1]) (by kernel_rfl) (by simp) ?_
        refine AllReadyIn.cons rfl (fun K hK => ?_) AllReadyIn.nil
        go_simp
        refine hK _ _ ?_
        clear hK K
        refine wpAnyIn_ready (rs := [2]) (by kernel_rfl) (by simp) ?_
        refine AllReadyIn.cons rfl (fun K hK => ?_) AllReadyIn.nil
        go_simp
        gi_wp2_with (first | (gi_at_call 85; refine (CallsIn.inRound l (callsIn_wide.2 (renFlip_any nn tt _))).mono ?_; rintro e w2 ⟨rfl, hb2⟩; have hc2 := cell_on hb2 hcd; obtain ⟨v6, w6, hrun, ho6, hg6, _⟩ := flipApp_run (.int .i64 1) (.string tt) (.string nn) (.string ⟨#[]⟩) h2 hb2 hlen hW0z rfl rfl rfl rfl; obtain ⟨va6, vc6, rfl⟩ := own_sliceM ho6; obtain ⟨hc6, hf6, hend⟩ := flip_end h1 h2 hb2 hg6 ho6 h4 h5 (by omega) rfl; have hc2' := cell_on (below_alloc w2 (.cells #[.int .i64 1, .string tt, .string nn, .string ⟨#[]⟩] 43)) hc2) | gi_in)
        refine wpAnyIn_ready (rs := [3]) (by kernel_rfl) (by simp) ?_
        refine AllReadyIn.cons rfl (fun K hK => ?_) AllReadyIn.nil
        go_simp
        refine hK _ _ ?_
        clear hK K
        refine wpAnyIn_ready (rs := [4]) (by kernel_rfl) (by simp) ?_
        refine AllReadyIn.cons rfl (fun K hK => ?_) AllReadyIn.nil
        refine step_runIn rfl (.tmp 20) (.tmp 23) 29 rfl _ _ rfl rfl _ w6 hrun ?_
        refine hK _ _ ?_
        clear hK K
        refine wpAnyIn_ready (rs := [5]) (by kernel_rfl) (by simp) ?_
        refine AllReadyIn.cons rfl (fun K hK => ?_) AllReadyIn.nil
        go_simp
        refine hK _ _ ?_
        clear hK K
        refine wpAnyIn_done (by kernel_rfl) ?_ _
        exact flip_post h1 HS.out hend
      · skip
        go_simp
        refine hK _ _ ?_
        clear hK K
        refine wpAnyIn_ready (rs := [0, 2]) (by kernel_rfl) (by simp) ?_
        refine AllReadyIn.cons rfl (fun K hK => ?_) (AllReadyIn.cons rfl (fun K hK => ?_) AllReadyIn.nil)
        · skip
          go_simp
          refine hK _ _ ?_
          clear hK K
          refine wpAnyIn_ready (rs := [2]) (by kernel_rfl) (by simp) ?_
          refine AllReadyIn.cons rfl (fun K hK => ?_) AllReadyIn.nil
          go_simp
          gi_wp2_with (first | (gi_at_call 85; refine (CallsIn.inRound l (callsIn_wide.2 (renFlip_any nn tt _))).mono ?_; rintro e w2 ⟨rfl, hb2⟩; have hc2 := cell_on hb2 hcd; obtain ⟨v6, w6, hrun, ho6, hg6, _⟩ := flipApp_run (.int .i64 1) (.string tt) (.string nn) (.string ⟨#[]⟩) h2 hb2 hlen hW0z rfl rfl rfl rfl; obtain ⟨va6, vc6, rfl⟩ := own_sliceM ho6; obtain ⟨hc6, hf6, hend⟩ := flip_end h1 h2 hb2 hg6 ho6 h4 h5 (by omega) rfl; have hc2' := cell_on (below_alloc w2 (.cells #[.int .i64 1, .string tt, .string nn, .string ⟨#[]⟩] 43)) hc2) | gi_in)
          refine wpAnyIn_ready (rs := [3]) (by kernel_rfl) (by simp) ?_
          refine AllReadyIn.cons rfl (fun K hK => ?_) AllReadyIn.nil
          go_simp
          refine hK _ _ ?_
          clear hK K
          refine wpAnyIn_ready (rs := [4]) (by kernel_rfl) (by simp) ?_
          refine AllReadyIn.cons rfl (fun K hK => ?_) AllReadyIn.nil
          refine step_runIn rfl (.tmp 20) (.tmp 23) 29 rfl _ _ rfl rfl _ w6 hrun ?_
          refine hK _ _ ?_
          clear hK K
          refine wpAnyIn_ready (rs := [5]) (by kernel_rfl) (by simp) ?_
          refine AllReadyIn.cons rfl (fun K hK => ?_) AllReadyIn.nil
          go_simp
          refine hK _ _ ?_
          clear hK K
          refine wpAnyIn_done (by kernel_rfl) ?_ _
          exact flip_post h1 HS.out hend
        · skip
          go_simp
          gi_wp2_with (first | (gi_at_call 85; refine (CallsIn.inRound l (callsIn_wide.2 (renFlip_any nn tt _))).mono ?_; rintro e w2 ⟨rfl, hb2⟩; have hc2 := cell_on hb2 hcd; obtain ⟨v6, w6, hrun, ho6, hg6, _⟩ := flipApp_run (.int .i64 1) (.string tt) (.string nn) (.string ⟨#[]⟩) h2 hb2 hlen hW0z rfl rfl rfl rfl; obtain ⟨va6, vc6, rfl⟩ := own_sliceM ho6; obtain ⟨hc6, hf6, hend⟩ := flip_end h1 h2 hb2 hg6 ho6 h4 h5 (by omega) rfl; have hc2' := cell_on (below_alloc w2 (.cells #[.int .i64 1, .string tt, .string nn, .string ⟨#[]⟩] 43)) hc2) | gi_in)
          refine wpAnyIn_ready (rs := [0, 3]) (by kernel_rfl) (by simp) ?_
          refine AllReadyIn.cons rfl (fun K hK => ?_) (AllReadyIn.cons rfl (fun K hK => ?_) AllReadyIn.nil)
          · skip
            go_simp
            refine hK _ _ ?_
            clear hK K
            refine wpAnyIn_ready (rs := [3]) (by kernel_rfl) (by simp) ?_
            refine AllReadyIn.cons rfl (fun K hK => ?_) AllReadyIn.nil
            go_simp
            refine hK _ _ ?_
            clear hK K
            refine wpAnyIn_ready (rs := [4]) (by kernel_rfl) (by simp) ?_
            refine AllReadyIn.cons rfl (fun K hK => ?_) AllReadyIn.nil
            refine step_runIn rfl (.tmp 20) (.tmp 23) 29 rfl _ _ rfl rfl _ w6 hrun ?_
            refine hK _ _ ?_
            clear hK K
            refine wpAnyIn_ready (rs := [5]) (by kernel_rfl) (by simp) ?_
            refine AllReadyIn.cons rfl (fun K hK => ?_) AllReadyIn.nil
            go_simp
            refine hK _ _ ?_
            clear hK K
            refine wpAnyIn_done (by kernel_rfl) ?_ _
            exact flip_post h1 HS.out hend
          · skip
            go_simp
            refine hK _ _ ?_
            clear hK K
            refine wpAnyIn_ready (rs := [0]) (by kernel_rfl) (by simp) ?_
            refine AllReadyIn.cons rfl (fun K hK => ?_) AllReadyIn.nil
            go_simp
            refine hK _ _ ?_
            clear hK K
            refine wpAnyIn_ready (rs := [4]) (by kernel_rfl) (by simp) ?_
            refine AllReadyIn.cons rfl (fun K hK => ?_) AllReadyIn.nil
            refine step_runIn rfl (.tmp 20) (.tmp 23) 29 rfl _ _ rfl rfl _ w6 hrun ?_
            refine hK _ _ ?_
            clear hK K
            refine wpAnyIn_ready (rs := [5]) (by kernel_rfl) (by simp) ?_
            refine AllReadyIn.cons rfl (fun K hK => ?_) AllReadyIn.nil
            go_simp
            refine hK _ _ ?_
            clear hK K
            refine wpAnyIn_done (by kernel_rfl) ?_ _
            exact flip_post h1 HS.out hend
    by_cases hk2 : k = 2
    · subst hk2
      have hfn1 : Fence.wide.fn 88 := trivial
      have hm : ∀ w, (method 228 93 (.agg #[.string nn, .string uu]) "loop.example/g00028/impl.flip").run Try.prog w = .ok (88, .agg #[.string nn, .string uu]) w := fun _ => by kernel_rfl
      rw [show stepV (2, nn, tt, uu) = .iface 93 (.agg #[.string nn, .string uu]) from rfl]
      have HS : Hid (flipP a (pre ++ [x]) = FP ++ [(3, nn, ⟨#[]⟩, uu)]) := by exact HF.out
      gi_wp2
      refine wpIn_region_any (by kernel_rfl) ?_
      refine wpAnyIn_ready (rs := [0, 1]) (by kernel_rfl) (by simp) ?_
      refine AllReadyIn.cons rfl (fun K hK => ?_) (AllReadyIn.cons rfl (fun K hK => ?_) AllReadyIn.nil)
      · skip
        go_simp
        refine hK _ _ ?_
        clear hK K
        refine wpAnyIn_ready (rs := [1]) (by kernel_rfl) (by simp) ?_
        refine AllReadyIn.cons rfl (fun K hK => ?_) AllReadyIn.nil
        go_simp
        refine hK _ _ ?_
        clear hK K
        refine wpAnyIn_ready (rs := [2]) (by kernel_rfl) (by simp) ?_
        refine AllReadyIn.cons rfl (fun K hK => ?_) AllReadyIn.nil
        go_simp
        gi_wp2_with (first | (gi_at_call 88; refine (CallsIn.inRound l (callsIn_wide.2 (addFlip_any nn uu _))).mono ?_; rintro e w2 ⟨rfl, hb2⟩; have hc2 := cell_on hb2 hcd; obtain ⟨v6, w6, hrun, ho6, hg6, _⟩ := flipApp_run (.int .i64 3) (.string nn) (.string ⟨#[]⟩) (.string uu) h2 hb2 hlen hW0z rfl rfl rfl rfl; obtain ⟨va6, vc6, rfl⟩ := own_sliceM ho6; obtain ⟨hc6, hf6, hend⟩ := flip_end h1 h2 hb2 hg6 ho6 h4 h5 (by omega) rfl; have hc2' := cell_on (below_alloc w2 (.cells #[.int .i64 3, .string nn, .string ⟨#[]⟩, .string uu] 43)) hc2) | gi_in)
        refine wpAnyIn_ready (rs := [3]) (by kernel_rfl) (by simp) ?_
        refine AllReadyIn.cons rfl (fun K hK => ?_) AllReadyIn.nil
        go_simp
        refine hK _ _ ?_
        clear hK K
        refine wpAnyIn_ready (rs := [4]) (by kernel_rfl) (by simp) ?_
        refine AllReadyIn.cons rfl (fun K hK => ?_) AllReadyIn.nil
        refine step_runIn rfl (.tmp 20) (.tmp 23) 29 rfl _ _ rfl rfl _ w6 hrun ?_
        refine hK _ _ ?_
        clear hK K
        refine wpAnyIn_ready (rs := [5]) (by kernel_rfl) (by simp) ?_
        refine AllReadyIn.cons rfl (fun K hK => ?_) AllReadyIn.nil
        go_simp
        refine hK _ _ ?_
        clear hK K
        refine wpAnyIn_done (by kernel_rfl) ?_ _
        exact flip_post h1 HS.out hend
      · skip
        go_simp
        refine hK _ _ ?_
        clear hK K
        refine wpAnyIn_ready (rs := [0, 2]) (by kernel_rfl) (by simp) ?_
        refine AllReadyIn.cons rfl (fun K hK => ?_) (AllReadyIn.cons rfl (fun K hK => ?_) AllReadyIn.nil)
        · skip
          go_simp
          refine hK _ _ ?_
          clear hK K
          refine wpAnyIn_ready (rs := [2]) (by kernel_rfl) (by simp) ?_
          refine AllReadyIn.cons rfl (fun K hK => ?_) AllReadyIn.nil
          go_simp
          gi_wp2_with (first | (gi_at_call 88; refine (CallsIn.inRound l (callsIn_wide.2 (addFlip_any nn uu _))).mono ?_; rintro e w2 ⟨rfl, hb2⟩; have hc2 := cell_on hb2 hcd; obtain ⟨v6, w6, hrun, ho6, hg6, _⟩ := flipApp_run (.int .i64 3) (.string nn) (.string ⟨#[]⟩) (.string uu) h2 hb2 hlen hW0z rfl rfl rfl rfl; obtain ⟨va6, vc6, rfl⟩ := own_sliceM ho6; obtain ⟨hc6, hf6, hend⟩ := flip_end h1 h2 hb2 hg6 ho6 h4 h5 (by omega) rfl; have hc2' := cell_on (below_alloc w2 (.cells #[.int .i64 3, .string nn, .string ⟨#[]⟩, .string uu] 43)) hc2) | gi_in)
          refine wpAnyIn_ready (rs := [3]) (by kernel_rfl) (by simp) ?_
          refine AllReadyIn.cons rfl (fun K hK => ?_) AllReadyIn.nil
          go_simp
          refine hK _ _ ?_
          clear hK K
          refine wpAnyIn_ready (rs := [4]) (by kernel_rfl) (by simp) ?_
          refine AllReadyIn.cons rfl (fun K hK => ?_) AllReadyIn.nil
          refine step_runIn rfl (.tmp 20) (.tmp 23) 29 rfl _ _ rfl rfl _ w6 hrun ?_
          refine hK _ _ ?_
          clear hK K
          refine wpAnyIn_ready (rs := [5]) (by kernel_rfl) (by simp) ?_
          refine AllReadyIn.cons rfl (fun K hK => ?_) AllReadyIn.nil
          go_simp
          refine hK _ _ ?_
          clear hK K
          refine wpAnyIn_done (by kernel_rfl) ?_ _
          exact flip_post h1 HS.out hend
        · skip
          go_simp
          gi_wp2_with (first | (gi_at_call 88; refine (CallsIn.inRound l (callsIn_wide.2 (addFlip_any nn uu _))).mono ?_; rintro e w2 ⟨rfl, hb2⟩; have hc2 := cell_on hb2 hcd; obtain ⟨v6, w6, hrun, ho6, hg6, _⟩ := flipApp_run (.int .i64 3) (.string nn) (.string ⟨#[]⟩) (.string uu) h2 hb2 hlen hW0z rfl rfl rfl rfl; obtain ⟨va6, vc6, rfl⟩ := own_sliceM ho6; obtain ⟨hc6, hf6, hend⟩ := flip_end h1 h2 hb2 hg6 ho6 h4 h5 (by omega) rfl; have hc2' := cell_on (below_alloc w2 (.cells #[.int .i64 3, .string nn, .string ⟨#[]⟩, .string uu] 43)) hc2) | gi_in)
          refine wpAnyIn_ready (rs := [0, 3]) (by kernel_rfl) (by simp) ?_
          refine AllReadyIn.cons rfl (fun K hK => ?_) (AllReadyIn.cons rfl (fun K hK => ?_) AllReadyIn.nil)
          · skip
            go_simp
            refine hK _ _ ?_
            clear hK K
            refine wpAnyIn_ready (rs := [3]) (by kernel_rfl) (by simp) ?_
            refine AllReadyIn.cons rfl (fun K hK => ?_) AllReadyIn.nil
            go_simp
            refine hK _ _ ?_
            clear hK K
            refine wpAnyIn_ready (rs := [4]) (by kernel_rfl) (by simp) ?_
            refine AllReadyIn.cons rfl (fun K hK => ?_) AllReadyIn.nil
            refine step_runIn rfl (.tmp 20) (.tmp 23) 29 rfl _ _ rfl rfl _ w6 hrun ?_
            refine hK _ _ ?_
            clear hK K
            refine wpAnyIn_ready (rs := [5]) (by kernel_rfl) (by simp) ?_
            refine AllReadyIn.cons rfl (fun K hK => ?_) AllReadyIn.nil
            go_simp
            refine hK _ _ ?_
            clear hK K
            refine wpAnyIn_done (by kernel_rfl) ?_ _
            exact flip_post h1 HS.out hend
          · skip
            go_simp
            refine hK _ _ ?_
            clear hK K
            refine wpAnyIn_ready (rs := [0]) (by kernel_rfl) (by simp) ?_
            refine AllReadyIn.cons rfl (fun K hK => ?_) AllReadyIn.nil
            go_simp
            refine hK _ _ ?_
            clear hK K
            refine wpAnyIn_ready (rs := [4]) (by kernel_rfl) (by simp) ?_
            refine AllReadyIn.cons rfl (fun K hK => ?_) AllReadyIn.nil
            refine step_runIn rfl (.tmp 20) (.tmp 23) 29 rfl _ _ rfl rfl _ w6 hrun ?_
            refine hK _ _ ?_
            clear hK K
            refine wpAnyIn_ready (rs := [5]) (by kernel_rfl) (by simp) ?_
            refine AllReadyIn.cons rfl (fun K hK => ?_) AllReadyIn.nil
            go_simp
            refine hK _ _ ?_
            clear hK K
            refine wpAnyIn_done (by kernel_rfl) ?_ _
            exact flip_post h1 HS.out hend
    · skip
      have hfn1 : Fence.wide.fn 75 := trivial
      have hm : ∀ w, (method 228 90 (.agg #[.string nn, .string uu]) "loop.example/g00028/impl.flip").run Try.prog w = .ok (75, .agg #[.string nn, .string uu]) w := fun _ => by kernel_rfl
      rw [show stepV (k, nn, tt, uu) = .iface 90 (.agg #[.string nn, .string uu]) from by unfold stepV; rw [if_neg hk1, if_neg hk2]]
      have HS : Hid (flipP a (pre ++ [x]) = FP ++ [(2, nn, ⟨#[]⟩, uu)]) := by unfold Hid; rw [HF.out]; unfold flipE; rw [if_neg hk1, if_neg hk2]
      gi_wp2
      refine wpIn_region_any (by kernel_rfl) ?_
      refine wpAnyIn_ready (rs := [0, 1]) (by kernel_rfl) (by simp) ?_
      refine AllReadyIn.cons rfl (fun K hK => ?_) (AllReadyIn.cons rfl (fun K hK => ?_) AllReadyIn.nil)
      · skip
        go_simp
        refine hK _ _ ?_
        clear hK K
        refine wpAnyIn_ready (rs := [1]) (by kernel_rfl) (by simp) ?_
        refine AllReadyIn.cons rfl (fun K hK => ?_) AllReadyIn.nil
        go_simp
        refine hK _ _ ?_
        clear hK K
        refine wpAnyIn_ready (rs := [2]) (by kernel_rfl) (by simp) ?_
        refine AllReadyIn.cons rfl (fun K hK => ?_) AllReadyIn.nil
        go_simp
        gi_wp2_with (first | (gi_at_call 75; refine (CallsIn.inRound l (callsIn_wide.2 (dropFlip_any nn uu _))).mono ?_; rintro e w2 ⟨rfl, hb2⟩; have hc2 := cell_on hb2 hcd; obtain ⟨v6, w6, hrun, ho6, hg6, _⟩ := flipApp_run (.int .i64 2) (.string nn) (.string ⟨#[]⟩) (.string uu) h2 hb2 hlen hW0z rfl rfl rfl rfl; obtain ⟨va6, vc6, rfl⟩ := own_sliceM ho6; obtain ⟨hc6, hf6, hend⟩ := flip_end h1 h2 hb2 hg6 ho6 h4 h5 (by omega) rfl; have hc2' := cell_on (below_alloc w2 (.cells #[.int .i64 2, .string nn, .string ⟨#[]⟩, .string uu] 43)) hc2) | gi_in)
        refine wpAnyIn_ready (rs := [3]) (by kernel_rfl) (by simp) ?_
        refine AllReadyIn.cons rfl (fun K hK => ?_) AllReadyIn.nil
        go_simp
        refine hK _ _ ?_
        clear hK K
        refine wpAnyIn_ready (rs := [4]) (by kernel_rfl) (by simp) ?_
        refine AllReadyIn.cons rfl (fun K hK => ?_) AllReadyIn.nil
        refine step_runIn rfl (.tmp 20) (.tmp 23) 29 rfl _ _ rfl rfl _ w6 hrun ?_
        refine hK _ _ ?_
        clear hK K
        refine wpAnyIn_ready (rs := [5]) (by kernel_rfl) (by simp) ?_
        refine AllReadyIn.cons rfl (fun K hK => ?_) AllReadyIn.nil
        go_simp
        refine hK _ _ ?_
        clear hK K
        refine wpAnyIn_done (by kernel_rfl) ?_ _
        exact flip_post h1 HS.out hend
      · skip
        go_simp
        refine hK _ _ ?_
        clear hK K
        refine wpAnyIn_ready (rs := [0, 2]) (by kernel_rfl) (by simp) ?_
        refine AllReadyIn.cons rfl (fun K hK => ?_) (AllReadyIn.cons rfl (fun K hK => ?_) AllReadyIn.nil)
        · skip
          go_simp
          refine hK _ _ ?_
          clear hK K
          refine wpAnyIn_ready (rs := [2]) (by kernel_rfl) (by simp) ?_
          refine AllReadyIn.cons rfl (fun K hK => ?_) AllReadyIn.nil
          go_simp
          gi_wp2_with (first | (gi_at_call 75; refine (CallsIn.inRound l (callsIn_wide.2 (dropFlip_any nn uu _))).mono ?_; rintro e w2 ⟨rfl, hb2⟩; have hc2 := cell_on hb2 hcd; obtain ⟨v6, w6, hrun, ho6, hg6, _⟩ := flipApp_run (.int .i64 2) (.string nn) (.string ⟨#[]⟩) (.string uu) h2 hb2 hlen hW0z rfl rfl rfl rfl; obtain ⟨va6, vc6, rfl⟩ := own_sliceM ho6; obtain ⟨hc6, hf6, hend⟩ := flip_end h1 h2 hb2 hg6 ho6 h4 h5 (by omega) rfl; have hc2' := cell_on (below_alloc w2 (.cells #[.int .i64 2, .string nn, .string ⟨#[]⟩, .string uu] 43)) hc2) | gi_in)
          refine wpAnyIn_ready (rs := [3]) (by kernel_rfl) (by simp) ?_
          refine AllReadyIn.cons rfl (fun K hK => ?_) AllReadyIn.nil
          go_simp
          refine hK _ _ ?_
          clear hK K
          refine wpAnyIn_ready (rs := [4]) (by kernel_rfl) (by simp) ?_
          refine AllReadyIn.cons rfl (fun K hK => ?_) AllReadyIn.nil
          refine step_runIn rfl (.tmp 20) (.tmp 23) 29 rfl _ _ rfl rfl _ w6 hrun ?_
          refine hK _ _ ?_
          clear hK K
          refine wpAnyIn_ready (rs := [5]) (by kernel_rfl) (by simp) ?_
          refine AllReadyIn.cons rfl (fun K hK => ?_) AllReadyIn.nil
          go_simp
          refine hK _ _ ?_
          clear hK K
          refine wpAnyIn_done (by kernel_rfl) ?_ _
          exact flip_post h1 HS.out hend
        · skip
          go_simp
          gi_wp2_with (first | (gi_at_call 75; refine (CallsIn.inRound l (callsIn_wide.2 (dropFlip_any nn uu _))).mono ?_; rintro e w2 ⟨rfl, hb2⟩; have hc2 := cell_on hb2 hcd; obtain ⟨v6, w6, hrun, ho6, hg6, _⟩ := flipApp_run (.int .i64 2) (.string nn) (.string ⟨#[]⟩) (.string uu) h2 hb2 hlen hW0z rfl rfl rfl rfl; obtain ⟨va6, vc6, rfl⟩ := own_sliceM ho6; obtain ⟨hc6, hf6, hend⟩ := flip_end h1 h2 hb2 hg6 ho6 h4 h5 (by omega) rfl; have hc2' := cell_on (below_alloc w2 (.cells #[.int .i64 2, .string nn, .string ⟨#[]⟩, .string uu] 43)) hc2) | gi_in)
          refine wpAnyIn_ready (rs := [0, 3]) (by kernel_rfl) (by simp) ?_
          refine AllReadyIn.cons rfl (fun K hK => ?_) (AllReadyIn.cons rfl (fun K hK => ?_) AllReadyIn.nil)
          · skip
            go_simp
            refine hK _ _ ?_
            clear hK K
            refine wpAnyIn_ready (rs := [3]) (by kernel_rfl) (by simp) ?_
            refine AllReadyIn.cons rfl (fun K hK => ?_) AllReadyIn.nil
            go_simp
            refine hK _ _ ?_
            clear hK K
            refine wpAnyIn_ready (rs := [4]) (by kernel_rfl) (by simp) ?_
            refine AllReadyIn.cons rfl (fun K hK => ?_) AllReadyIn.nil
            refine step_runIn rfl (.tmp 20) (.tmp 23) 29 rfl _ _ rfl rfl _ w6 hrun ?_
            refine hK _ _ ?_
            clear hK K
            refine wpAnyIn_ready (rs := [5]) (by kernel_rfl) (by simp) ?_
            refine AllReadyIn.cons rfl (fun K hK => ?_) AllReadyIn.nil
            go_simp
            refine hK _ _ ?_
            clear hK K
            refine wpAnyIn_done (by kernel_rfl) ?_ _
            exact flip_post h1 HS.out hend
          · skip
            go_simp
            refine hK _ _ ?_
            clear hK K
            refine wpAnyIn_ready (rs := [0]) (by kernel_rfl) (by simp) ?_
            refine AllReadyIn.cons rfl (fun K hK => ?_) AllReadyIn.nil
            go_simp
            refine hK _ _ ?_
            clear hK K
            refine wpAnyIn_ready (rs := [4]) (by kernel_rfl) (by simp) ?_
            refine AllReadyIn.cons rfl (fun K hK => ?_) AllReadyIn.nil
            refine step_runIn rfl (.tmp 20) (.tmp 23) 29 rfl _ _ rfl rfl _ w6 hrun ?_
            refine hK _ _ ?_
            clear hK K
            refine wpAnyIn_ready (rs := [5]) (by kernel_rfl) (by simp) ?_
            refine AllReadyIn.cons rfl (fun K hK => ?_) AllReadyIn.nil
            go_simp
            refine hK _ _ ?_
            clear hK K
            refine wpAnyIn_done (by kernel_rfl) ?_ _
            exact flip_post h1 HS.out hend
  case done =>
    rintro D xs W hD hS ⟨⟨fv, h1, h2, _⟩, h4, h5⟩ hK
    subst hS
    have hc := h1.cell
    obtain ⟨fa, fcp, hfv⟩ : ∃ fa fcp, fv = .slice fa (flipP a (fr a.length 0)).length fcp := by
      rcases ownM_shape h2 with ⟨e, h0, _⟩ | ⟨g, c, e, _⟩
      · exact ⟨none, 0, by rw [e, h0]⟩
      · exact ⟨_, c, e⟩
    subst hfv
    gi_wp2
    refine ⟨by simp, .inl ⟨_, _, rfl, run_takeDeferred hK, ?_⟩⟩
    have hbl := belowK_b (w := w1) (Nat.le_refl _) W D _ (.deferred none) (by omega) hK rfl rfl
    have hown : OwnSt (W.putObj D (.deferred none)) w.heap.size (.slice fa (flipP a (fr a.length 0)).length fcp) fl := by
      rw [HE2.out]
      exact ownM_mono (ownsRow_putObj h2 _ hK rfl) (by omega)
    exact ⟨_, results_tmp2 rfl _ _ _, _, by rw [HE1.out]; rfl, hown, (hb1.trans (h4.mono hsz1)).trans (hbl.mono hsz1)⟩
  case stop =>
    rintro D c pre W _ _ h _
    exact h.elim

theorem implFlip_any (C : Nat) (w : World) (v : Value) (a : List St) (hl : a.length ≤ 1048576) (hC : C ≤ w.heap.size) (hr : RdM 4 C w v a.length (stCs a)) :
    Calls Try.prog 21 #[v] w fun e w' => ∃ r, e = .returned (.tuple #[r, .int .i64 (flipC a)]) ∧ OwnSt w' w.heap.size r (flipL a) ∧ Below w.heap.size w w' := by
  cases hok : okLens a with
  | false => exact flipBad_any C w v a hl hC hr.st hok
  | true => exact (callsIn_wide (n := 6)).1 (flipGood_in C w v a hl hC hr.st hok)
end Go.Proofs.Ytagnpahkhaighaa
