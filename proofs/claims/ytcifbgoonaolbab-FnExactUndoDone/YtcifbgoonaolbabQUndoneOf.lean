/- The code's undoneOf: a set of the Seqs that are undone. -/
import Derived.Maps.OwnIn
import Derived.Maps.OwnSet
import Derived.Test.YtcifbgoonaolbabQBackOps
import Derived.Test.YtcifbgoonaolbabQOpOKToOpSpecBase
namespace Go.Proofs.Ytcifbgoonaolbab
open Go.RowKit Go.Maps
attribute [local go_sem] Oper.semAt_some
set_option linter.unusedVariables false

theorem keyedInt : Keyed Try.prog 3 := int_keyed Try.underlying3
theorem zeroUnit (w : World) : (zeroValue 59).run Try.prog w = .ok (.agg #[]) w := by kernel_rfl
/-- A set of numbers in block b: these and no others. -/
def SetI (W : World) (b n : Nat) (U : List Int) : Prop := ∃ D : DataW Unit, W.ownsMap Try.prog 3 unitElem b n D ∧ ∀ s : Int, Maps.has D (.int .i64 s) = true ↔ s ∈ U
theorem SetI.kept {W W' : World} {b n : Nat} {U : List Int} {row : Option Nat} (h : SetI W b n U) (hg : W.grownBy W' row) (hne : some b ≠ row) : SetI W' b n U := by
  obtain ⟨D, h1, h2⟩ := h
  exact ⟨D, h1.kept hg hne, h2⟩
theorem SetI.alloc {W : World} {b n : Nat} {U : List Int} (h : SetI W b n U) (o : Obj) : SetI (W.alloc o) b n U := h.kept (World.grownBy_alloc W o none) (by simp)
theorem SetI.mono {W : World} {b n m : Nat} {U : List Int} (h : SetI W b n U) (hn : n ≤ m) : SetI W b m U := by
  obtain ⟨D, h1, h2⟩ := h
  exact ⟨D, h1.mono hn, h2⟩
theorem SetI.lt {W : World} {b n : Nat} {U : List Int} (h : SetI W b n U) : b < W.heap.size := by
  obtain ⟨D, h1, _⟩ := h
  exact h1.lt
theorem setI_made (w : World) : SetI (w.alloc (.map #[] 0)) w.heap.size 0 [] := ⟨.map [], World.ownsMap_made _ _ _ _, fun s => by simp [Maps.has]⟩
theorem wfI {t : Int} (h0 : -9223372036854775808 ≤ t) (h1 : t ≤ 9223372036854775807) : (Lit.int .i64 t).wf = true := by
  show (decide (IntKind.i64.min ≤ t) && decide (t ≤ IntKind.i64.max)) = true
  rw [show IntKind.i64.min = -9223372036854775808 by decide, show IntKind.i64.max = 9223372036854775807 by decide, decide_eq_true h0, decide_eq_true h1]
  rfl

set_option maxHeartbeats 1000000 in
theorem setHas_any (w : World) (b n : Nat) (U : List Int) (x : Int) (h : SetI w b n U) (hx : (Lit.int .i64 x).wf = true) :
    Calls Try.prog 40 #[.map (some b), .int .i64 x] w fun e w' => e = .returned (.bool (decide (x ∈ U))) ∧ w' = w.alloc (.cells #[] 59) := by
  obtain ⟨D, hown, hU⟩ := h
  have hkey := keyOf_int_mk Try.underlying3 hx
  have e : decide (x ∈ U) = Maps.has D (.int .i64 x) := by
    by_cases hm : x ∈ U
    · rw [(hU x).2 hm]; simp [hm]
    · cases hh : Maps.has D (.int .i64 x) with
      | false => simp [hm]
      | true => exact absurd ((hU x).1 hh) hm
  rw [e]
  clear e hU
  go_enter Try.func40, Try.ntmps40
  go_wp2_with (first | (at_lookup; refine wpList_lookup_own_unit _ rfl _ _ 58 rfl 3 59 keyedInt Try.underlying58 (zeroUnit _) b n D rfl hown _ _ rfl hkey ?_) | go_in)
  go_ret
  exact ⟨rfl, rfl⟩

set_option maxHeartbeats 1000000 in
theorem setPut_any (w : World) (b n : Nat) (U : List Int) (x : Int) (h : SetI w b n U) (hn : n < 1048576) (hx : (Lit.int .i64 x).wf = true) :
    Calls Try.prog 41 #[.map (some b), .int .i64 x] w fun e w' => e = .returned (.tuple #[]) ∧ SetI w' b (n + 1) (x :: U) ∧ w.grownBy w' (some b) := by
  obtain ⟨D, hown, hU⟩ := h
  have hkey := keyOf_int_mk Try.underlying3 hx
  have HM : Hid (IsMap D) := hown.isMap
  go_enter Try.func41, Try.ntmps41
  go_wp2_with (first | (at_mapUpdate; refine wpList_mapUpdate_own _ rfl _ _ _ 58 rfl 3 59 keyedInt Try.underlying58 (unitElem (H := Unit)) b n D rfl hown (by unfold maxLen; omega) _ _ _ rfl rfl hkey _ [] unitElem_mk ?_; intro w1 hown1 hgrow1) | go_in)
  go_end0
  refine ⟨rfl, ⟨_, hown1, fun s => ?_⟩, hgrow1⟩
  by_cases e : s = x
  · subst e
    rw [has_put_same HM.out (by trivial)]
    simp
  · rw [has_put_other (by intro h; cases h; exact e rfl), hU s]
    simp [e]

/-- An operation in a block of its own. -/
def OpBlk (W : World) (B : Nat) (x : Ov) : Prop := W.heap[B]? = some (.cells x.cs.toArray 47 (0, 0))
theorem OpBlk.cells {W : World} {B : Nat} {x : Ov} (h : OpBlk W B x) : W.cell? ⟨B, 1, none⟩ = some (.int .i64 x.s) ∧ W.cell? ⟨B, 7, none⟩ = some (.int .i64 x.u) := by
  constructor <;> simp [World.cell?, show W.heap[B]? = _ from h, Ov.cs]
theorem opBlk_own (B : Nat) (x : Ov) : Go.Own (fun (_ : Unit) W => OpBlk W B x) := fun s X Y row hs hg hrow => by
  refine (hg.block B (Array.getElem?_eq_some_iff.1 hs).1 (fun e' => ?_)).trans hs
  obtain ⟨o, ho, hc⟩ := hrow B e'.symm
  rw [show X.heap[B]? = _ from hs] at ho
  cases ho
  cases hc
theorem dv_slice {C : Nat} {w : World} {v : Value} {L : List Ov} (h : RdO C w v L) : ∀ i, ∃ a l c, (ovAt L i).dv = .slice a l c := by
  intro i
  by_cases hi : i < L.length
  · have := h.2 _ (ovAt_mem hi)
    obtain ⟨a, c, e, _⟩ := this
    exact ⟨_, _, _, e⟩
  · unfold ovAt
    rw [List.getD_eq_getElem?_getD, List.getElem?_eq_none (by omega)]
    exact ⟨_, _, _, rfl⟩
theorem wf_ov {L : List Ov} (h : ∀ x ∈ L, (Lit.int .i64 x.s).wf = true ∧ (Lit.int .i64 x.u).wf = true) (i : Nat) : (Lit.int .i64 (ovAt L i).s).wf = true ∧ (Lit.int .i64 (ovAt L i).u).wf = true := by
  by_cases hi : i < L.length
  · exact h _ (ovAt_mem hi)
  · unfold ovAt
    rw [List.getD_eq_getElem?_getD, List.getElem?_eq_none (by omega)]
    exact ⟨by decide, by decide⟩

set_option maxRecDepth 100000 in
set_option maxHeartbeats 4000000 in
theorem undoneOf_in (C : Nat) (w : World) (v : Value) (L : List Ov) (hC : C ≤ w.heap.size) (hr : RdO C w v L) (hl : L.length ≤ 1024) (hwf : ∀ x ∈ L, (Lit.int .i64 x.s).wf = true ∧ (Lit.int .i64 x.u).wf = true) :
    CallsIn Fence.wide 6 Try.prog 21 #[v] w fun e w' => ∃ b, e = .returned (.map (some b)) ∧ w.heap.size ≤ b ∧ SetI w' b L.length (undS L) ∧ Below w.heap.size w w' := by
  have hmm := @run_makeMap Try.prog
  have hdv := dv_slice hr
  have hwo := wf_ov hwf
  obtain ⟨va, vc, rfl⟩ : ∃ va vc, v = .slice va L.length vc := by obtain ⟨⟨ao, cap, h, _⟩, _⟩ := hr; exact ⟨_, _, h⟩
  refine callsIn_of_wp_marks Try.func21 rfl trivial ?_ rfl
  simp only [Try.ntmps21, List.size_toArray, List.length_cons, List.length_nil, Nat.reduceAdd, Nat.reduceSub, Array.replicate_succ, Array.replicate_zero, List.push_toArray, List.append_toArray, List.nil_append, List.cons_append]
  have hf1 : Fence.wide.fn 39 := trivial
  gi_wp2_with (first | (gi_at_call 39; refine (backward_in Fence.wide _ trivial rfl _ ⟨_, _, _, rfl⟩ _).mono ?_; rintro e w' ⟨rfl, rfl⟩) | gi_in)
  obtain ⟨W0, hW0⟩ : ∃ W0, ((w.alloc (.map #[] 0)).alloc (.cells #[.map (some w.heap.size)] 58)).alloc (.cells #[.slice va L.length vc] 27) = W0 := ⟨_, rfl⟩
  have hs0 : W0.heap.size = w.heap.size + 1 + 1 + 1 := by rw [← hW0]; simp
  have hB0 : Boxed W0 (w.heap.size + 1) 58 (.map (some w.heap.size)) := by
    rw [← hW0]
    have := (Boxed.new (w.alloc (.map #[] 0)) 58 (.map (some w.heap.size))).alloc (.cells #[.slice va L.length vc] 27)
    rwa [World.size_alloc] at this
  have hD0 : SetI W0 w.heap.size 0 [] := by rw [← hW0]; exact ((setI_made w).alloc _).alloc _
  have hb0 : Below w.heap.size w W0 := by rw [← hW0]; exact (((Below.refl _ w).alloc (Nat.le_refl _) _).alloc (by simp) _).alloc (by simp; omega) _
  have hc0 : W0.cell? ⟨w.heap.size + 1 + 1, 0, none⟩ = some (.slice va L.length vc) := by
    rw [← hW0]
    have := (Boxed.new ((w.alloc (.map #[] 0)).alloc (.cells #[.map (some w.heap.size)] 58)) 27 (.slice va L.length vc)).cell
    simpa using this
  rw [hW0]
  have hR0 : RdO w.heap.size W0 (.slice va L.length vc) L := (hr.mono hC).below hb0
  clear hW0
  refine wpIn_rangeFunc_ownH rfl (by omega) (gf := 65) (lb := #[.pointer (some ⟨w.heap.size + 1 + 1, 0, none⟩)]) rfl trivial (enters_of Try.func65 (by kernel_rfl) rfl)
    (back_stops Fence.wide _ trivial rfl (by omega) (w.heap.size + 1 + 1) w.heap.size _ L hl W0 (by omega) (by omega) hc0 hR0) kpB_t (kpB_b (by omega) (by omega)) (Below.refl _ _) (fun _ => rfl)
    (fun pre W => Boxed W (w.heap.size + 1) 58 (.map (some w.heap.size)) ∧ SetI W w.heap.size pre.length (undP L pre) ∧ Below w.heap.size w W ∧ w.heap.size + 1 + 1 < W.heap.size)
    (fun _ _ _ => False)
    (fun pre X Y row hs hg hrow => by
      obtain ⟨h1, h2, h3, h4⟩ := hs
      have hgs := hg.size
      have hne : ∀ b, b < W0.heap.size → some b ≠ row := fun b hb e => by have := (hrow b e.symm).1; omega
      exact ⟨h1.kept hg (hne _ (by omega)), h2.kept hg (hne _ (by omega)), h3.grown hg h3.size (fun k e => by have := (hrow k e).1; omega), by omega⟩)
    (fun _ _ _ _ _ hs _ _ => hs)
    ⟨hB0, hD0, hb0, by omega⟩
    (fun x a' W => ∃ Bx, w.heap.size + 1 + 1 < Bx ∧ OpBlk W Bx (ovAt L x) ∧ a' = { tmps := #[.slice va L.length vc, undef, .map none, .pointer (some ⟨w.heap.size + 1, 0, none⟩), undef, .pointer (some ⟨Bx, 0, none⟩), .map (some w.heap.size), .slice va L.length vc, .func (.func 65) #[] #[.pointer (some ⟨w.heap.size + 1 + 1, 0, none⟩)], .int .i64 (x : Int), .agg (ovAt L x).cs.toArray, undef, undef, undef, undef, undef, undef, undef, undef, undef, undef, undef, undef, undef, undef, undef], defers := [] })
    (fun x a' s X Y row hs hg hrow => by
      obtain ⟨Bx, hBx, hP, rfl⟩ := hs
      exact ⟨Bx, hBx, Go.Own.from (opBlk_own Bx (ovAt L x)) _ () X Y row hP hg hrow, rfl⟩) ?assign ?body ?done ?stop
  case assign =>
    rintro l pre x W K ⟨h1, h2, h3, h4⟩ hK
    obtain ⟨da, dn, dc, hd⟩ := hdv x
    have hP : OpBlk (W.alloc (.cells (ovAt L x).cs.toArray 47)) W.heap.size (ovAt L x) := World.alloc_heap_new W _
    have HK : Hid _ := hK _ _ ((KeepsOthers.alloc W (.cells (ovAt L x).cs.toArray 47)).from _) ⟨(Below.refl w.heap.size W).alloc (by omega) _, Below.heap_alloc _ _ _ h4⟩ ⟨h1.alloc _, h2.alloc _, h3.alloc (by omega) _, by rw [World.size_alloc]; omega⟩ ⟨W.heap.size, h4, hP, rfl⟩
    unfold opVs
    unfold Ov.cs at HK ⊢
    rw [hd] at HK ⊢
    gi_wp2
    exact HK.out
  case body =>
    rintro l pre x a' W hlW ⟨r, hrl⟩ ⟨h1, h2, h3, h4⟩ ⟨Bx, hBx, hP, rfl⟩ hlt
    obtain ⟨c1, c7⟩ := hP.cells
    obtain ⟨ws, wu⟩ := hwo x
    have hc := h1.cell
    have hfn1 : Fence.wide.fn 40 := trivial
    have hfn2 : Fence.wide.fn 41 := trivial
    have HS : Hid (undP L (pre ++ [x]) = stepU (ovAt L x) (undP L pre)) := undP_snoc _ _ _
    have HH := setHas_any W w.heap.size pre.length (undP L pre) (ovAt L x).s h2 ws
    have HE := h2.alloc (.cells #[] 59)
    have HPu := setPut_any (W.alloc (.cells #[] 59)) w.heap.size pre.length (undP L pre) (ovAt L x).u HE (by omega) wu
    have c7' : (W.alloc (.cells #[] 59)).cell? ⟨Bx, 7, none⟩ = some (.int .i64 (ovAt L x).u) := ((Below.refl W.heap.size W).alloc (Nat.le_refl _) _).cell (p := ⟨Bx, 7, none⟩) (Array.getElem?_eq_some_iff.1 hP).1 |>.trans c7
    have hc' : (W.alloc (.cells #[] 59)).cell? ⟨w.heap.size + 1, 0, none⟩ = some (.map (some w.heap.size)) := ((Below.refl W.heap.size W).alloc (Nat.le_refl _) _).cell (p := ⟨w.heap.size + 1, 0, none⟩) h1.lt |>.trans hc
    have HA : Hid (stepU (ovAt L x) (undP L pre) = if (ovAt L x).u ≠ 0 ∧ (ovAt L x).s ∉ undP L pre then (ovAt L x).u :: undP L pre else undP L pre) := rfl
    generalize (ovAt L x).cs.toArray = cs
    generalize (ovAt L x).s = xs at *
    generalize (ovAt L x).u = xu at *
    by_cases hu : xu = 0
    · have HF : Hid (undP L (pre ++ [x]) = undP L pre) := by unfold Hid; rw [HS.out, HA.out, if_neg (by simp [hu])]
      subst hu
      clear HH HPu HE HS HA c7' hc'
      gi_wp2
      exact ⟨(KeepsOthers.refl W).from _, KpB.refl _ _ _, h1, by rw [HF.out, List.length_append]; exact h2.mono (by omega), h3, h4⟩
    · have hub : (xu != 0) = true := by simpa using hu
      by_cases hm : xs ∈ undP L pre
      · have HF : Hid (undP L (pre ++ [x]) = undP L pre) := by unfold Hid; rw [HS.out, HA.out, if_neg (by simp [hm])]
        rw [decide_eq_true hm] at HH
        clear HPu HS HA c7' hc' hm hu
        gi_wp2_with (first | (gi_at_call 40; refine (CallsIn.inRound l (callsIn_wide.2 HH)).mono ?_; rintro e w' ⟨rfl, rfl⟩) | gi_in)
        exact ⟨(KeepsOthers.alloc _ _).from _, ⟨(Below.refl w.heap.size W).alloc (by omega) _, Below.heap_alloc _ _ _ h4⟩, h1.alloc _, by rw [HF.out, List.length_append]; exact HE.mono (by omega), h3.alloc (by omega) _, by rw [World.size_alloc]; omega⟩
      · have HF : Hid (undP L (pre ++ [x]) = xu :: undP L pre) := by unfold Hid; rw [HS.out, HA.out, if_pos ⟨hu, hm⟩]
        rw [decide_eq_false hm] at HH
        clear HS HA hm hu
        gi_wp2_with (first | (gi_at_call 40; refine (CallsIn.inRound l (callsIn_wide.2 HH)).mono ?_; rintro e w' ⟨rfl, rfl⟩) | (gi_at_call 41; refine (CallsIn.inRound l (callsIn_wide.2 HPu)).mono ?_; rintro e w1 ⟨rfl, hset, hg⟩) | gi_in)
        have hgs := hg.size
        rw [World.size_alloc] at hgs
        refine ⟨((KeepsOthers.alloc W (.cells #[] 59)).from _).trans (KeepsFrom.of_grownBy hg (fun j e => by cases e; omega)), ⟨((Below.refl w.heap.size W).alloc (by omega) _).grown hg (by rw [World.size_alloc]; omega) (fun k e => by cases e; omega), (hg.block _ (by rw [World.size_alloc]; omega) (fun e => by have := Option.some.inj e; omega)).trans (Below.heap_alloc _ _ _ h4)⟩, (h1.alloc _).kept hg (fun e => by have := Option.some.inj e; omega), by rw [HF.out, List.length_append]; exact hset, (h3.alloc (by omega) _).grown hg (by rw [World.size_alloc]; omega) (fun k e => by cases e; omega), by omega⟩
  case done =>
    rintro D xs W hD hS ⟨h1, h2, h3, h4⟩ hK
    subst hS
    have hc := h1.cell
    have HU : Hid (undP L (fr L.length 0) = undS L) := undP_all L
    have HL : Hid ((fr L.length 0).length = L.length) := by unfold Hid; rw [fr_len]; rfl
    rw [HU.out, HL.out] at h2
    clear HU HL
    gi_wp2
    refine ⟨by simp, .inl ⟨_, _, rfl, run_takeDeferred hK, ?_⟩⟩
    exact ⟨_, results_tmp rfl _ _ _, w.heap.size, rfl, Nat.le_refl _, h2.kept (grownBy_putObj' W D _) (fun e => by cases e; omega), h3.trans (belowK_b (w := w) (Nat.le_refl _) W D _ _ (by omega) hK rfl rfl)⟩
  case stop =>
    rintro D c pre W _ _ h _
    exact h.elim
theorem undoneOf_any (C : Nat) (w : World) (v : Value) (L : List Ov) (hC : C ≤ w.heap.size) (hr : RdO C w v L) (hl : L.length ≤ 1024) (hwf : ∀ x ∈ L, (Lit.int .i64 x.s).wf = true ∧ (Lit.int .i64 x.u).wf = true) :
    Calls Try.prog 21 #[v] w fun e w' => ∃ b, e = .returned (.map (some b)) ∧ w.heap.size ≤ b ∧ SetI w' b L.length (undS L) ∧ Below w.heap.size w w' := (callsIn_wide (n := 6)).1 (undoneOf_in C w v L hC hr hl hwf)
end Go.Proofs.Ytcifbgoonaolbab
