/- What attempt does with a vector's counts; and the code's ReadVec. -/
import Derived.Test.YtpiadcjkbbgggaaAttempt
import Derived.Test.YtpiadcjkbbgggaaVecReadImpl
namespace Go.Proofs.Ytpiadcjkbbgggaa
open Go.RowKit
set_option linter.unusedVariables false

theorem rv_cell {w : World} {g : Nat} {cs : Array Value} {T : TypeId} (h : w.heap[g]? = some (.cells cs T (0, 0))) (k : Nat) {v : Value} (hk : cs[k]? = some v) : w.cell? ⟨g, k, none⟩ = some v := by
  unfold World.cell?
  rw [show w.heap[(⟨g, k, none⟩ : Addr).block]? = some (.cells cs T (0, 0)) from h]
  exact hk
theorem rv_free {w : World} {g : Nat} {cs : Array Value} {T : TypeId} (h : w.heap[g]? = some (.cells cs T (0, 0))) (k : Nat) : w.frozen? ⟨g, k, none⟩ = false := by
  unfold World.frozen?
  rw [show w.heap[(⟨g, k, none⟩ : Addr).block]? = some (.cells cs T (0, 0)) from h]
  simp
/-- The array that attempt hands back. -/
def readA (bs : List Int) : List Int := match readV bs with
  | some X => X
  | none => pad []
theorem readA_len {bs : List Int} (hx : Bytes bs) : (readA bs).length = 16 := by
  unfold readA
  cases h : readV bs with
  | some X => exact readV_len hx h
  | none => exact pad_len (by simp)

/-- What counts answers where it is all of the bytes. -/
def countsT (bs : List Int) (e : Ending) : Prop := match readV bs with
  | some X => e = .returned (.agg (arrC X).toArray)
  | none => Bad e

set_option maxHeartbeats 2000000 in
set_option maxRecDepth 100000 in
theorem allCounts_any (C b k0 k1 : Nat) (w : World) (va : Value) (bs : List Int) (hx : Bytes bs) (hl : bs.length ≤ 1048576) (hC : C ≤ b) (hb : b < w.heap.size) (hr : Rd C w va (bs.map (Value.int .u8))) (hR : Rdr w b va 0) (hk0 : k0 < w.heap.size) (hk1 : k1 < w.heap.size) (hkb : k0 ≠ b) (h0 : w.cell? ⟨k0, 0, none⟩ = some va) (h1 : w.cell? ⟨k1, 0, none⟩ = some (.func (.func 52) #[] #[])) :
    Calls Try.prog 88 #[.pointer (some ⟨b, 0, none⟩), .pointer (some ⟨k1, 0, none⟩), .pointer (some ⟨k0, 0, none⟩)] w fun e w' => countsT bs e ∧ w.grownBy w' (some b) := by
  have hZ : (#[.int .i64 0, .int .i64 0, .int .i64 0, .int .i64 0, .int .i64 0, .int .i64 0, .int .i64 0, .int .i64 0, .int .i64 0, .int .i64 0, .int .i64 0, .int .i64 0, .int .i64 0, .int .i64 0, .int .i64 0, .int .i64 0] : Array Value) = (arrC (pad [])).toArray := rfl
  have hp0 : (pad []).length = 16 := pad_len (by simp)
  have hc := counts_any C b (w.alloc (.cells (arrC (pad [])).toArray 71)) va bs hx hl hC (by simp; omega) (hr.grown (World.grownBy_alloc w _ none) (fun k hk => by cases hk)) (hR.alloc _)
  have h1' : (w.alloc (.cells (arrC (pad [])).toArray 71)).cell? ⟨k1, 0, none⟩ = some (.func (.func 52) #[] #[]) := (World.cell?_of_block (w := w) (Below.heap_alloc w _ k1 hk1)).trans h1
  cases hG : readV bs with
  | none =>
    unfold readR at hc
    rw [hG] at hc
    have HN : Hid (∀ e, Bad e → countsT bs e) := fun e he => by unfold countsT; rw [hG]; exact he
    clear hG
    go_enter Try.func88, Try.ntmps88
    go_wp2_with fail
    refine hc.mono ?_
    rintro e w1 ⟨he, hg⟩
    have HB := HN.out e he
    unfold Bad at he
    subst he
    exact ⟨rfl, HB, grownBy_trans (World.grownBy_alloc w _ _) hg⟩
  | some X =>
    have hX := readV_len hx hG
    unfold readR at hc
    rw [hG] at hc
    have HN : Hid (countsT bs (.returned (.agg (arrC X).toArray))) := by unfold Hid countsT; rw [hG]
    clear hG
    have HI : Hid _ := arr_info hX
    have HI' : Hid _ := arr_info' hX
    obtain ⟨ao, cap, rfl, hrr⟩ := hr
    clear hrr
    rw [List.length_map] at h0 hR hc
    go_enter Try.func88, Try.ntmps88
    go_wp2_with fail
    refine hc.mono ?_
    rintro e w1 ⟨⟨rfl, hR1⟩, hg⟩
    have s1 := hg.size
    simp only [World.size_alloc] at s1
    have b0 : w1.heap[w.heap.size]? = some (.cells (arrC (pad [])).toArray 71 (0, 0)) := by
      rw [hg.block w.heap.size (by simp) (by simp; omega)]
      exact heap_alloc_new w _
    have o0 := own_arr b0 hp0 (Nat.le_refl _)
    have ht : w1.there w.heap.size 0 16 := fun j hj => by
      rw [Nat.zero_add, own_cell o0 (k := j) (by rw [arrC_len, hp0]; exact hj)]
      exact ⟨rfl, own_free o0 j⟩
    have c0 : w1.cell? ⟨k0, 0, none⟩ = some (.slice ao bs.length cap) := (World.cell?_of_block (w := w) ((hg.block k0 (by simp; omega) (by simpa using hkb)).trans (Below.heap_alloc w _ k0 hk0))).trans h0
    have hgw : w.grownBy w1 (some b) := grownBy_trans (World.grownBy_alloc w _ _) hg
    obtain ⟨hB2, hr2, ht2, hs2, hb2⟩ := arr_put (Below.refl w1.heap.size w1) (Nat.le_refl _) (arrC (pad [])).toArray (by simp [arrC_len, hp0]) 71 X hX
    have r1 : ((w1.alloc (.cells (arrC (pad [])).toArray 71)).setCells w1.heap.size 0 (arrC X)).cell? ⟨b, 1, none⟩ = some (.int .i64 (bs.length : Int)) := (World.cell?_of_block (w := w1) (hb2.block b (by omega))).trans hR1.c1
    have c2 : ((w1.alloc (.cells (arrC (pad [])).toArray 71)).setCells w1.heap.size 0 (arrC X)).cell? ⟨k0, 0, none⟩ = some (.slice ao bs.length cap) := (World.cell?_of_block (w := w1) (hb2.block k0 (by omega))).trans c0
    have ht3 : ((w1.alloc (.cells (arrC (pad [])).toArray 71)).setCells w1.heap.size 0 (arrC X)).there w.heap.size 0 (arrC X).toArray.size := by
      rw [show (arrC X).toArray.size = 16 by simp [arrC_len, hX]]
      exact there_more hb2 (by omega) ht
    have hg2 : w.grownBy ((w1.alloc (.cells (arrC (pad [])).toArray 71)).setCells w1.heap.size 0 (arrC X)) (some b) := grownBy_trans hgw (grownBy_below hb2 (Nat.le_refl _) _)
    clear hc hg hR hR1 b0 o0 ht c0 hgw h0 h1 h1' hB2
    go_wp2_with (first | (refine wpList_store_mid rfl 71 _ _ rfl w1.heap.size 0 (arrC X).toArray rfl rfl ht2 HI'.out (arrC_all X) ?_))
    generalize (w1.alloc (.cells (arrC (pad [])).toArray 71)).setCells w1.heap.size 0 (arrC X) = w2 at *
    go_quiet ((go_at_call 79; exact Calls.quiet_of_same (require_yes _ _)))
    have hr3 : (w2.drewN nq).rangeAt w1.heap.size 0 (arrC X) := hr2
    have ht4 : (w2.drewN nq).there w.heap.size 0 (arrC X).toArray.size := ht3
    have hg3 : w.grownBy (w2.drewN nq) (some b) := grownBy_trans hg2 (grownBy_drewN _ _ _)
    clear hr2 ht3 hg2 r1 c2
    generalize w2.drewN nq = w3 at *
    go_wp2_with (first | (refine wpList_load_mid rfl 71 _ rfl w1.heap.size 0 rfl (arrC X) _ hr3 Try.underlying71 rfl HI.out ?_) | (refine wpList_store_mid rfl 71 _ _ rfl w.heap.size 0 (arrC X).toArray rfl rfl ht4 HI'.out (arrC_all X) ?_))
    have hrs : (w3.setCells w.heap.size 0 (arrC X)).rangeAt w.heap.size 0 (arrC X) := World.rangeAt_setCells_same _ _ _ _ (by rw [show (arrC X).toArray.size = (arrC X).length by simp] at ht4; exact ht4)
    have hld := run_loadVar_mid (P := Try.prog) _ w.heap.size 0 71 (arrC X) _ hrs Try.underlying71 rfl HI.out
    have hgf : w.grownBy (w3.setCells w.heap.size 0 (arrC X)) (some b) := by
      have hB : Below w.heap.size w3 (w3.setCells w.heap.size 0 (arrC X)) := below_setCells (Nat.le_refl _) _ _ _ (Below.refl _ _)
      exact ⟨hB.os.trans hg3.os, hB.tape.trans hg3.tape, hB.output.trans hg3.output, Nat.le_trans hg3.size hB.size, fun k hk hn => (hB.block k hk).trans (hg3.block k hk hn)⟩
    exact bodyPost_ret (v := .agg (arrC X).toArray) (by simp [results, Try.results88, asAddr, Act.put, hld]) rfl ⟨HN.out, hgf⟩

set_option maxHeartbeats 400000 in
theorem catchCounts_panic (p : Addr) (x : Int) (w : World) (hc : w.cell? p = some (.int .i64 x)) (hz : w.frozen? p = false) :
    CallsD Try.prog 100 #[.pointer (some p)] (.panicking [{ v := .iface 108 (.int .i64 3), recovered := false }]) w fun e u' w' =>
      e = .returned (.tuple #[]) ∧ u' = .panicking [{ v := .iface 108 (.int .i64 3), recovered := true }] ∧ w' = w.setCell p (.int .i64 3) := by
  refine callsD_of_wpS Try.func100 rfl fun c₀ cs hu => ?_
  apply wpS_seq
  apply wpS_region
  simp [wpOpsS, go_sem, recoverD, hu, Try.ntmps100, Exit.thenS]
  refine wpS_of_wp ?_
  rw [show Array.replicate 6 undef = #[undef, undef, undef, undef, undef, undef] from rfl]
  simp
  go_wp2_with (first | (go_at_call 90; refine (faultCode_any _).mono ?_; rintro e w' ⟨rfl, rfl⟩))
  simp [bodyPostS, results, Try.results100]

set_option maxHeartbeats 400000 in
theorem catchCounts_idle (p : Addr) (w : World) :
    CallsD Try.prog 100 #[.pointer (some p)] .returning w fun e u' w' => e = .returned (.tuple #[]) ∧ u' = .returning ∧ w' = w := by
  refine callsD_of_wpS Try.func100 rfl fun c₀ cs hu => ?_
  apply wpS_seq
  apply wpS_region
  simp [wpOpsS, go_sem, recoverD, hu, Try.ntmps100, Exit.thenS]
  refine wpS_of_wp ?_
  rw [show Array.replicate 6 undef = #[undef, undef, undef, undef, undef, undef] from rfl]
  simp
  go_wp2
  cases c₀
  simp_all [bodyPostS, results, Try.results100]

set_option maxHeartbeats 2000000 in
set_option maxRecDepth 100000 in
theorem attemptCounts_any (C b k0 k1 : Nat) (w : World) (va : Value) (bs : List Int) (hx : Bytes bs) (hl : bs.length ≤ 1048576) (hC : C ≤ b) (hb : b < w.heap.size) (hr : Rd C w va (bs.map (Value.int .u8))) (hR : Rdr w b va 0) (hk0 : k0 < w.heap.size) (hk1 : k1 < w.heap.size) (hkb : k0 ≠ b) (h0 : w.cell? ⟨k0, 0, none⟩ = some va) (h1 : w.cell? ⟨k1, 0, none⟩ = some (.func (.func 52) #[] #[])) :
    Calls Try.prog 87 #[.pointer (some ⟨b, 0, none⟩), .func (.func 88) #[] #[.pointer (some ⟨k1, 0, none⟩), .pointer (some ⟨k0, 0, none⟩)]] w fun e w' => e = .returned (.tuple #[.agg (arrC (readA bs)).toArray, .int .i64 (readC bs)]) ∧ w.grownBy w' (some b) := by
  have hmf : ∀ (fn : Fn) (first cap : Array Value) (w : World), (Instr.makeFunc fn first cap).run Try.prog w = .ok (.func fn first cap) w := fun _ _ _ _ => rfl
  have hZ : (#[.int .i64 0, .int .i64 0, .int .i64 0, .int .i64 0, .int .i64 0, .int .i64 0, .int .i64 0, .int .i64 0, .int .i64 0, .int .i64 0, .int .i64 0, .int .i64 0, .int .i64 0, .int .i64 0, .int .i64 0, .int .i64 0] : Array Value) = (arrC (pad [])).toArray := rfl
  have hp0 : (pad []).length = 16 := pad_len (by simp)
  have hr2 : Rd C ((w.alloc (.cells (arrC (pad [])).toArray 71)).alloc (.cells #[.int .i64 0] 3)) va (bs.map (Value.int .u8)) := (hr.grown (World.grownBy_alloc w _ none) (fun k hk => by cases hk)).grown (World.grownBy_alloc _ _ none) (fun k hk => by cases hk)
  have hR2 := (hR.alloc (.cells (arrC (pad [])).toArray 71)).alloc (.cells #[.int .i64 0] 3)
  have q0 : ((w.alloc (.cells (arrC (pad [])).toArray 71)).alloc (.cells #[.int .i64 0] 3)).cell? ⟨k0, 0, none⟩ = some va := (World.cell?_of_block (w := w) ((Below.heap_alloc _ _ k0 (by simp; omega)).trans (Below.heap_alloc w _ k0 hk0))).trans h0
  have q1 : ((w.alloc (.cells (arrC (pad [])).toArray 71)).alloc (.cells #[.int .i64 0] 3)).cell? ⟨k1, 0, none⟩ = some (.func (.func 52) #[] #[]) := (World.cell?_of_block (w := w) ((Below.heap_alloc _ _ k1 (by simp; omega)).trans (Below.heap_alloc w _ k1 hk1))).trans h1
  have hc := allCounts_any C b k0 k1 _ va bs hx hl hC (by simp; omega) hr2 hR2 (by simp; omega) (by simp; omega) hkb q0 q1
  have facts : ∀ w1, ((w.alloc (.cells (arrC (pad [])).toArray 71)).alloc (.cells #[.int .i64 0] 3)).grownBy w1 (some b) →
      w1.cell? ⟨w.heap.size + 1, 0, none⟩ = some (.int .i64 0) ∧ w1.frozen? ⟨w.heap.size + 1, 0, none⟩ = false ∧ w1.there w.heap.size 0 16 ∧ w1.rangeAt w.heap.size 0 (arrC (pad [])) ∧ w.grownBy w1 (some b) := by
    intro w1 hg
    have k1 : w1.heap[w.heap.size + 1]? = some (.cells #[.int .i64 0] 3 (0, 0)) := by
      rw [hg.block (w.heap.size + 1) (by simp) (by simp; omega)]
      have := heap_alloc_new (w.alloc (.cells (arrC (pad [])).toArray 71)) (.cells #[.int .i64 0] 3)
      rw [World.size_alloc] at this
      exact this
    have k0 : w1.heap[w.heap.size]? = some (.cells (arrC (pad [])).toArray 71 (0, 0)) := by
      rw [hg.block w.heap.size (by simp; omega) (by simp; omega), Below.heap_alloc _ _ _ (by simp)]
      exact heap_alloc_new w _
    have o0 := own_arr k0 hp0 (Nat.le_refl _)
    refine ⟨by simp [World.cell?, k1], by simp [World.frozen?, k1], fun j hj => ?_, own_range o0, grownBy_trans (grownBy_trans (World.grownBy_alloc _ _ _) (World.grownBy_alloc _ _ _)) hg⟩
    rw [Nat.zero_add, own_cell o0 (k := j) (by rw [arrC_len, hp0]; exact hj)]
    exact ⟨rfl, own_free o0 j⟩
  have HI0 : Hid _ := arr_info hp0
  cases hG : readV bs with
  | none =>
    have e1 : readA bs = pad [] := by unfold readA; rw [hG]
    have e2 : readC bs = 3 := by unfold readC; rw [hG]
    rw [e1, e2]
    unfold countsT at hc
    rw [hG] at hc
    clear e1 e2 hG
    go_enter_defers Try.func87, Try.ntmps87
    go_wp2_with fail
    refine hc.mono ?_
    rintro e w1 ⟨he, hg⟩
    unfold Bad at he
    subst he
    obtain ⟨c1, f1, ht, hrg, hgw⟩ := facts w1 hg
    refine leaves_cons (f := 100) (args := #[.pointer (some ⟨w.heap.size + 1, 0, none⟩)]) (by simp) (by simp [go_sem]) ?_
    refine (catchCounts_panic ⟨w.heap.size + 1, 0, none⟩ 0 w1 c1 f1).mono ?_
    rintro e u' w'' ⟨rfl, rfl, rfl⟩
    have hcell : (w1.setCell ⟨w.heap.size + 1, 0, none⟩ (.int .i64 3)).cell? ⟨w.heap.size + 1, 0, none⟩ = some (.int .i64 3) := World.cell?_setCell_same w1 _ _ c1
    have hres : w.grownBy (w1.setCell ⟨w.heap.size + 1, 0, none⟩ (.int .i64 3)) (some b) := gr_setp hgw (by omega)
    have hr3 : (w1.setCell ⟨w.heap.size + 1, 0, none⟩ (.int .i64 3)).rangeAt w.heap.size 0 (arrC (pad [])) := World.rangeAt_setCells_apart hrg (w.heap.size + 1) 0 [.int .i64 3] (.inl (by omega))
    generalize w1.setCell ⟨w.heap.size + 1, 0, none⟩ (.int .i64 3) = w2 at hres hcell hr3 ⊢
    have hld := run_loadVar_mid (P := Try.prog) w2 w.heap.size 0 71 (arrC (pad [])) _ hr3 Try.underlying71 rfl HI0.out
    have hl5 := (by simp [go_sem, hcell] : (loadVar 3 ⟨w.heap.size + 1, 0, none⟩).run Try.prog w2 = .ok (.int .i64 3) w2)
    simp [Leaves, settle, results, Try.results87, asAddr, hld, hl5]
    exact hres
  | some X =>
    have hX := readV_len hx hG
    have e1 : readA bs = X := by unfold readA; rw [hG]
    have e2 : readC bs = 0 := by unfold readC; rw [hG]
    rw [e1, e2]
    unfold countsT at hc
    rw [hG] at hc
    clear e1 e2 hG
    have HI : Hid _ := arr_info hX
    have HI' : Hid _ := arr_info' hX
    have sX : (arrC X).toArray.size = 16 := by simp [arrC_len, hX]
    go_enter_defers Try.func87, Try.ntmps87
    go_wp2_with fail
    refine hc.mono ?_
    rintro e w1 ⟨rfl, hg⟩
    obtain ⟨c1, f1, ht, hrg, hgw⟩ := facts w1 hg
    have ht' : w1.there w.heap.size 0 (arrC X).toArray.size := by rw [sX]; exact ht
    have c2 : (w1.setCells w.heap.size 0 (arrC X)).cell? ⟨w.heap.size + 1, 0, none⟩ = some (.int .i64 0) := (World.cell?_setCells_out w.heap.size (arrC X) 0 w1 _ (fun e => absurd e (by show ¬ w.heap.size + 1 = w.heap.size; omega))).trans c1
    have f2 : (w1.setCells w.heap.size 0 (arrC X)).frozen? ⟨w.heap.size + 1, 0, none⟩ = false := (World.frozen?_setCells w.heap.size (arrC X) 0 _ _).trans f1
    have hrs : (w1.setCells w.heap.size 0 (arrC X)).rangeAt w.heap.size 0 (arrC X) := World.rangeAt_setCells_same _ _ _ _ (by rw [arrC_len, hX]; exact ht)
    have hB2 : Below w.heap.size w1 (w1.setCells w.heap.size 0 (arrC X)) := below_setCells (Nat.le_refl _) _ _ _ (Below.refl _ _)
    have hgf : w.grownBy (w1.setCells w.heap.size 0 (arrC X)) (some b) := ⟨hB2.os.trans hgw.os, hB2.tape.trans hgw.tape, hB2.output.trans hgw.output, Nat.le_trans hgw.size hB2.size, fun k hk hn => (hB2.block k hk).trans (hgw.block k hk hn)⟩
    clear hr hR hr2 hR2 hg hrg facts hc q0 q1 h0 h1
    go_wp2_with (first | (refine wpList_store_mid rfl 71 _ _ rfl w.heap.size 0 (arrC X).toArray rfl rfl ht' HI'.out (arrC_all X) ?_))
    refine leaves_cons (f := 100) (args := #[.pointer (some ⟨w.heap.size + 1, 0, none⟩)]) (by simp) (by simp [go_sem]) ?_
    refine (catchCounts_idle ⟨w.heap.size + 1, 0, none⟩ _).mono ?_
    rintro e u' w'' ⟨rfl, rfl, rfl⟩
    have hcell : ((w1.setCells w.heap.size 0 (arrC X)).setCell ⟨w.heap.size + 1, 0, none⟩ (.int .i64 0)).cell? ⟨w.heap.size + 1, 0, none⟩ = some (.int .i64 0) := World.cell?_setCell_same _ _ _ c2
    have hres : w.grownBy ((w1.setCells w.heap.size 0 (arrC X)).setCell ⟨w.heap.size + 1, 0, none⟩ (.int .i64 0)) (some b) := gr_setp hgf (by omega)
    have hr3 : ((w1.setCells w.heap.size 0 (arrC X)).setCell ⟨w.heap.size + 1, 0, none⟩ (.int .i64 0)).rangeAt w.heap.size 0 (arrC X) := World.rangeAt_setCells_apart hrs (w.heap.size + 1) 0 [.int .i64 0] (.inl (by omega))
    generalize (w1.setCells w.heap.size 0 (arrC X)).setCell ⟨w.heap.size + 1, 0, none⟩ (.int .i64 0) = w2 at hres hcell hr3 ⊢
    have hld := run_loadVar_mid (P := Try.prog) w2 w.heap.size 0 71 (arrC X) _ hr3 Try.underlying71 rfl HI.out
    have hl5 := (by simp [go_sem, hcell] : (loadVar 3 ⟨w.heap.size + 1, 0, none⟩).run Try.prog w2 = .ok (.int .i64 0) w2)
    simp [Leaves, settle, results, Try.results87, asAddr, hld, hl5]
    exact hres

set_option maxHeartbeats 2000000 in
set_option maxRecDepth 100000 in
theorem attemptAllCounts_any (C : Nat) (w : World) (v : Value) (bs : List Int) (hx : Bytes bs) (hl : bs.length ≤ 1048576) (hC : C ≤ w.heap.size) (hr : Rd C w v (bs.map (Value.int .u8))) :
    Calls Try.prog 51 #[v, .func (.func 52) #[] #[]] w fun e w' => e = .returned (.tuple #[.agg (arrC (readA bs)).toArray, .int .i64 (readC bs)]) ∧ Below w.heap.size w w' := by
  have hmf : ∀ (fn : Fn) (first cap : Array Value) (w : World), (Instr.makeFunc fn first cap).run Try.prog w = .ok (.func fn first cap) w := fun _ _ _ _ => rfl
  have hr0 := hr
  obtain ⟨ao, cap, rfl, hcap, hmax, hnil, hr⟩ := hr
  rw [List.length_map] at hr hr0 ⊢
  clear hr
  have hA := readA_len hx
  have HI : Hid _ := arr_info hA
  have HI' : Hid _ := arr_info' hA
  have hp0 : (pad []).length = 16 := pad_len (by simp)
  have hB0 : Below w.heap.size w ((((w.alloc (.cells #[.slice ao bs.length cap] 22)).alloc (.cells #[.func (.func 52) #[] #[]] 74)).alloc (.cells (arrC (pad [])).toArray 71)).alloc (.cells #[.slice ao bs.length cap, .int .i64 0] 80)) := below_then (below_then (below_then (below_alloc _ _) _) _) _
  have hR0 : Rdr ((((w.alloc (.cells #[.slice ao bs.length cap] 22)).alloc (.cells #[.func (.func 52) #[] #[]] 74)).alloc (.cells (arrC (pad [])).toArray 71)).alloc (.cells #[.slice ao bs.length cap, .int .i64 0] 80)) (w.heap.size + 3) (.slice ao bs.length cap) 0 := by
    have := heap_alloc_new (((w.alloc (.cells #[.slice ao bs.length cap] 22)).alloc (.cells #[.func (.func 52) #[] #[]] 74)).alloc (.cells (arrC (pad [])).toArray 71)) (.cells #[.slice ao bs.length cap, .int .i64 0] 80)
    rw [World.size_alloc, World.size_alloc, World.size_alloc] at this
    exact this
  have k0 : ((((w.alloc (.cells #[.slice ao bs.length cap] 22)).alloc (.cells #[.func (.func 52) #[] #[]] 74)).alloc (.cells (arrC (pad [])).toArray 71)).alloc (.cells #[.slice ao bs.length cap, .int .i64 0] 80)).heap[w.heap.size]? = some (.cells #[.slice ao bs.length cap] 22 (0, 0)) := by
    rw [Below.heap_alloc _ _ _ (by simp; omega), Below.heap_alloc _ _ _ (by simp; omega), Below.heap_alloc _ _ _ (by simp)]
    exact heap_alloc_new w _
  have k1 : ((((w.alloc (.cells #[.slice ao bs.length cap] 22)).alloc (.cells #[.func (.func 52) #[] #[]] 74)).alloc (.cells (arrC (pad [])).toArray 71)).alloc (.cells #[.slice ao bs.length cap, .int .i64 0] 80)).heap[w.heap.size + 1]? = some (.cells #[.func (.func 52) #[] #[]] 74 (0, 0)) := by
    rw [Below.heap_alloc _ _ _ (by simp only [World.size_alloc]; omega), Below.heap_alloc _ _ _ (by simp)]
    have := heap_alloc_new (w.alloc (.cells #[.slice ao bs.length cap] 22)) (.cells #[.func (.func 52) #[] #[]] 74)
    rw [World.size_alloc] at this
    exact this
  have k2 : ((((w.alloc (.cells #[.slice ao bs.length cap] 22)).alloc (.cells #[.func (.func 52) #[] #[]] 74)).alloc (.cells (arrC (pad [])).toArray 71)).alloc (.cells #[.slice ao bs.length cap, .int .i64 0] 80)).heap[w.heap.size + 2]? = some (.cells (arrC (pad [])).toArray 71 (0, 0)) := by
    rw [Below.heap_alloc _ _ _ (by simp)]
    have := heap_alloc_new ((w.alloc (.cells #[.slice ao bs.length cap] 22)).alloc (.cells #[.func (.func 52) #[] #[]] 74)) (.cells (arrC (pad [])).toArray 71)
    rw [World.size_alloc, World.size_alloc] at this
    exact this
  have hc := attemptCounts_any C (w.heap.size + 3) w.heap.size (w.heap.size + 1) _ _ bs hx hl (by omega) (by simp) (hr0.below (hB0.mono hC)) hR0 (by simp only [World.size_alloc]; omega) (by simp only [World.size_alloc]; omega) (by omega) (at_cell k0) (at_cell k1)
  generalize readA bs = X at *
  generalize readC bs = k at *
  go_enter Try.func51, Try.ntmps51
  go_wp2_with fail
  refine hc.mono ?_
  rintro e w1 ⟨rfl, hg⟩
  have hB1 : Below w.heap.size w w1 := hB0.grown hg (by simp; omega) (fun j hj => by cases hj; omega)
  have s1 := hg.size
  simp only [World.size_alloc] at s1
  have b2 : w1.heap[w.heap.size + 2]? = some (.cells (arrC (pad [])).toArray 71 (0, 0)) := by
    rw [hg.block (w.heap.size + 2) (by simp) (by simp)]
    exact k2
  have o2 := own_arr b2 hp0 (Nat.le_refl _)
  have ht : w1.there (w.heap.size + 2) 0 (arrC X).toArray.size := fun j hj => by
    have hj' : j < 16 := by simpa [arrC_len, hA] using hj
    rw [Nat.zero_add, own_cell o2 (k := j) (by rw [arrC_len, hp0]; exact hj')]
    exact ⟨rfl, own_free o2 j⟩
  clear hc hg hB0 hR0 k0 k1 k2 hr0 b2 o2
  go_wp2_with (first | (refine wpList_store_mid rfl 71 _ _ rfl (w.heap.size + 2) 0 (arrC X).toArray rfl rfl ht HI'.out (arrC_all X) ?_))
  have hrs : (w1.setCells (w.heap.size + 2) 0 (arrC X)).rangeAt (w.heap.size + 2) 0 (arrC X) := World.rangeAt_setCells_same _ _ _ _ (by rw [show (arrC X).toArray.size = (arrC X).length by simp] at ht; exact ht)
  have hld := run_loadVar_mid (P := Try.prog) _ (w.heap.size + 2) 0 71 (arrC X) _ hrs Try.underlying71 rfl HI.out
  have hBf : Below w.heap.size w (w1.setCells (w.heap.size + 2) 0 (arrC X)) := below_setCells (by omega) _ _ _ hB1
  exact bodyPost_ret (v := .tuple #[.agg (arrC X).toArray, .int .i64 k]) (by simp [results, Try.results51, asAddr, hld]) rfl ⟨rfl, hBf⟩

/-- What both functions ReadVec answer: a row of the call's own, and the code. -/
def RvAns (bs : List Int) (w : World) (e : Ending) (w' : World) : Prop :=
  ∃ a n c T, e = .returned (.tuple #[.agg #[.slice a n c], .int .i64 (readC bs)]) ∧ Own T w' w.heap.size (.slice a n c) ((readB bs).map (Value.int .i64)) ∧ Below w.heap.size w w'
theorem readB_len {bs : List Int} (hx : Bytes bs) : (readB bs).length ≤ 16 := by
  unfold readB
  cases h : readV bs with
  | some X => have := readV_len hx h; simp; omega
  | none => simp

set_option maxHeartbeats 2000000 in
set_option maxRecDepth 100000 in
theorem implReadVec_any (C : Nat) (w : World) (v : Value) (bs : List Int) (hx : Bytes bs) (hl : bs.length ≤ 1048576) (hC : C ≤ w.heap.size) (hr : Rd C w v (bs.map (Value.int .u8))) :
    Calls Try.prog 21 #[v] w (RvAns bs w) := by
  have hr0 := hr
  obtain ⟨ao, cap, rfl, hcap, hmax, hnil, hr⟩ := hr
  rw [List.length_map] at hr hr0 ⊢
  clear hr
  have hlen : ¬ (1048576 : Int) < (bs.length : Int) := by omega
  have hB0 : Below w.heap.size w (w.alloc (.cells #[.slice none 0 0] 38)) := below_alloc _ _
  have k0 : (w.alloc (.cells #[.slice none 0 0] 38)).heap[w.heap.size]? = some (.cells #[.slice none 0 0] 38 (0, 0)) := heap_alloc_new w _
  have hc := attemptAllCounts_any C (w.alloc (.cells #[.slice none 0 0] 38)) _ bs hx hl (by simp; omega) (hr0.below (hB0.mono hC))
  have hA := readA_len hx
  have HI : Hid _ := arr_info hA
  have HI' : Hid _ := arr_info' hA
  have HP : Hid ((readC bs = 0 ∧ readB bs = readA bs) ∨ (readC bs = 3 ∧ readB bs = [])) := by
    unfold Hid readC readB readA
    cases readV bs with
    | some X => exact .inl ⟨rfl, rfl⟩
    | none => exact .inr ⟨rfl, rfl⟩
  unfold RvAns
  generalize readA bs = X at *
  generalize readB bs = Y at *
  generalize readC bs = k at *
  go_enter Try.func21, Try.ntmps21
  go_wp2_with fail
  refine hc.mono ?_
  rintro e w1 ⟨rfl, hg⟩
  have hB1 : Below w.heap.size w w1 := below_seq hB0 hg
  have k1 : w1.heap[w.heap.size]? = some (.cells #[.slice none 0 0] 38 (0, 0)) := by
    rw [hg.block w.heap.size (by simp)]
    exact k0
  have s1 := hg.size
  simp only [World.size_alloc] at s1
  obtain ⟨hB2, hr2, ht2, hs2, hb2⟩ := arr_put hB1 hB1.size #[.int .i64 0, .int .i64 0, .int .i64 0, .int .i64 0, .int .i64 0, .int .i64 0, .int .i64 0, .int .i64 0, .int .i64 0, .int .i64 0, .int .i64 0, .int .i64 0, .int .i64 0, .int .i64 0, .int .i64 0, .int .i64 0] rfl 71 X hA
  have k2 := (hb2.block w.heap.size (by omega)).trans k1
  have c0 := rv_cell k2 0 rfl
  have f0 := rv_free k2 0
  clear hc hg hB0 k0 k1 hB1 hr0
  rcases HP.out with ⟨rfl, rfl⟩ | ⟨rfl, rfl⟩
  · clear HP
    go_wp2_with (first | (refine wpList_store_mid rfl 71 _ _ rfl w1.heap.size 0 (arrC Y).toArray rfl rfl ht2 HI'.out (arrC_all Y) ?_) | (refine wpList_load_mid rfl 71 _ rfl w1.heap.size 0 rfl (arrC Y) _ hr2 Try.underlying71 rfl HI.out ?_))
    refine (vector_any _ Y hA).mono ?_
    rintro e w3 ⟨a3, rfl, ho3, hb3⟩
    have k3 := (hb3.block w.heap.size (by omega)).trans k2
    have c3 := rv_cell k3 0 rfl
    have f3 := rv_free k3 0
    have hB3 := (below_seq hB2 hb3).setCell (p := ⟨w.heap.size, 0, none⟩) (Nat.le_refl _) (.slice a3 16 16)
    have ho4 := (ho3.apart (grownBy_set w3 w.heap.size 0 (.slice a3 16 16)) (fun j hj => by cases hj; omega)).mono (B' := w.heap.size) (by omega)
    have q0 : (w3.setCell ⟨w.heap.size, 0, none⟩ (.slice a3 16 16)).cell? ⟨w.heap.size, 0, none⟩ = some (.slice a3 16 16) := World.cell?_setCell_same _ _ _ c3
    clear ho3 hb3 hB2 hr2 ht2 c0 f0
    go_wp2_with fail
    refine bodyPost_ret (v := .tuple #[.agg #[.slice a3 16 16], .int .i64 0]) ?_ rfl ⟨_, _, _, _, rfl, ho4, hB3⟩
    simp [results, Try.results21, go_sem, q0]
  · clear HP
    have hB3 := hB2.setCell (p := ⟨w.heap.size, 0, none⟩) (Nat.le_refl _) (.slice none 0 0)
    have q0 : (((w1.alloc (.cells #[.int .i64 0, .int .i64 0, .int .i64 0, .int .i64 0, .int .i64 0, .int .i64 0, .int .i64 0, .int .i64 0, .int .i64 0, .int .i64 0, .int .i64 0, .int .i64 0, .int .i64 0, .int .i64 0, .int .i64 0, .int .i64 0] 71)).setCells w1.heap.size 0 (arrC X)).setCell ⟨w.heap.size, 0, none⟩ (.slice none 0 0)).cell? ⟨w.heap.size, 0, none⟩ = some (.slice none 0 0) := World.cell?_setCell_same _ _ _ c0
    clear hr2
    go_wp2_with (first | (refine wpList_store_mid rfl 71 _ _ rfl w1.heap.size 0 (arrC X).toArray rfl rfl ht2 HI'.out (arrC_all X) ?_))
    refine bodyPost_ret (v := .tuple #[.agg #[.slice none 0 0], .int .i64 3]) ?_ rfl ⟨_, _, _, 3, rfl, World.ownsRow_nil _ _ _ _, hB3⟩
    simp [results, Try.results21, go_sem, q0]

end Go.Proofs.Ytpiadcjkbbgggaa
