/- What attemptAll does with an operation. -/
import Derived.Test.YtmmkmkaannlkhaaGreatDoorQReadOpAny
import Derived.Test.YtmmkmkaannlkhaaGreatDoorQTextsImplToAttemptRuns
namespace Go.Proofs.YtmmkmkaannlkhaaGreatDoor
open Go.RowKit Go.Lib
set_option linter.unusedVariables false

/-- An operation that is all of the bytes. -/
def opT (o : Option Ov) (N : Nat) (e : Ending) (w' : World) : Prop := match o with
  | some x => ∃ ga, e = .returned (.agg (Ov.cs { x with dv := .slice (some ⟨ga, 0, none⟩) 16 16 }).toArray) ∧ N ≤ ga ∧ ga < w'.heap.size ∧ w'.rangeAt ga 0 (x.ds.map (Value.int .i64)) ∧ w'.there ga 0 16
  | none => Bad e

set_option maxHeartbeats 4000000 in
set_option maxRecDepth 100000 in
theorem allOp_any (C b k0 k1 : Nat) (w : World) (va : Value) (xs : List Int) (hx : Bytes xs) (hl : xs.length ≤ 1048576) (hC : C ≤ b) (hb : b < w.heap.size) (hr : Rd C w va (xs.map (Value.int .u8))) (hR : Rdr w b va 0) (hk : k0 < w.heap.size) (hk1 : k1 < w.heap.size) (hkb : k0 ≠ b) (h0 : w.cell? ⟨k0, 0, none⟩ = some va) (h1 : w.cell? ⟨k1, 0, none⟩ = some (.func (.func 104) #[] #[])) :
    Calls Tryz.prog 110 #[.pointer (some ⟨b, 0, none⟩), .pointer (some ⟨k1, 0, none⟩), .pointer (some ⟨k0, 0, none⟩)] w fun e w' => opT (opCd xs) w.heap.size e w' ∧ w.grownBy w' (some b) := by
  have hba := below_alloc w (.cells #[.int .i64 0, .int .i64 0, .int .i64 0, .slice none 0 0, .int .i64 0, .int .i64 0, .int .i64 0, .int .i64 0, .int .i64 0, .int .i64 0, .string ⟨#[]⟩, .string ⟨#[]⟩] 29)
  have hR0 : (w.alloc (.cells #[.int .i64 0, .int .i64 0, .int .i64 0, .slice none 0 0, .int .i64 0, .int .i64 0, .int .i64 0, .int .i64 0, .int .i64 0, .int .i64 0, .string ⟨#[]⟩, .string ⟨#[]⟩] 29)).heap[w.heap.size]? = some (.cells #[.int .i64 0, .int .i64 0, .int .i64 0, .slice none 0 0, .int .i64 0, .int .i64 0, .int .i64 0, .int .i64 0, .int .i64 0, .int .i64 0, .string ⟨#[]⟩, .string ⟨#[]⟩] 29 (0, 0)) := heap_alloc_new w _
  have hs0 : (w.alloc (.cells #[.int .i64 0, .int .i64 0, .int .i64 0, .slice none 0 0, .int .i64 0, .int .i64 0, .int .i64 0, .int .i64 0, .int .i64 0, .int .i64 0, .string ⟨#[]⟩, .string ⟨#[]⟩] 29)).heap.size = w.heap.size + 1 := World.size_alloc _ _
  have hop := op_any C b (w.alloc (.cells #[.int .i64 0, .int .i64 0, .int .i64 0, .slice none 0 0, .int .i64 0, .int .i64 0, .int .i64 0, .int .i64 0, .int .i64 0, .int .i64 0, .string ⟨#[]⟩, .string ⟨#[]⟩] 29)) va xs hx hl hC (by omega) (hr.below (hba.mono (by omega))) ((hba.block b hb).trans hR)
  have h0' : (w.alloc (.cells #[.int .i64 0, .int .i64 0, .int .i64 0, .slice none 0 0, .int .i64 0, .int .i64 0, .int .i64 0, .int .i64 0, .int .i64 0, .int .i64 0, .string ⟨#[]⟩, .string ⟨#[]⟩] 29)).cell? ⟨k0, 0, none⟩ = some va := (World.cell?_of_block (w := w) (a := ⟨k0, 0, none⟩) (hba.block k0 hk)).trans h0
  have h1' : (w.alloc (.cells #[.int .i64 0, .int .i64 0, .int .i64 0, .slice none 0 0, .int .i64 0, .int .i64 0, .int .i64 0, .int .i64 0, .int .i64 0, .int .i64 0, .string ⟨#[]⟩, .string ⟨#[]⟩] 29)).cell? ⟨k1, 0, none⟩ = some (.func (.func 104) #[] #[]) := (World.cell?_of_block (w := w) (a := ⟨k1, 0, none⟩) (hba.block k1 hk1)).trans h1
  clear h0 h1 hR
  go_enter Tryz.func110, Tryz.ntmps110
  go_upto_region 1 with fail
  generalize (w.alloc (.cells #[.int .i64 0, .int .i64 0, .int .i64 0, .slice none 0 0, .int .i64 0, .int .i64 0, .int .i64 0, .int .i64 0, .int .i64 0, .int .i64 0, .string ⟨#[]⟩, .string ⟨#[]⟩] 29)) = wa at *
  go_wp2_with fail
  refine hop.mono ?_
  rintro e w1 ⟨hn, hg⟩
  have hgs := hg.size
  have hres := (hg.block w.heap.size (by omega) (fun e => by cases e; omega)).trans hR0
  have hgw : w.grownBy w1 (some b) := grownBy_trans (grownBy_below hba (Nat.le_refl _) _) hg
  have c0 : w1.cell? ⟨k0, 0, none⟩ = some va := (World.cell?_of_block (w := wa) (a := ⟨k0, 0, none⟩) (hg.block k0 (by omega) (by simpa using hkb))).trans h0'
  clear h0' h1' hop hR0 hg
  rw [hs0] at hgs
  cases hT : opRd xs with
  | none =>
    rw [hT] at hn
    have HN : Hid (opT (opCd xs) w.heap.size e w1) := by
      unfold Hid
      rw [opCd_rd, hT]
      exact hn
    simp only at hn
    unfold Bad at hn
    subst hn
    exact ⟨rfl, HN.out, hgw⟩
  | some z =>
    obtain ⟨x, r⟩ := z
    rw [hT] at hn
    obtain ⟨ga, he, hlo, hhi, hrng, hth, hR1, hrl⟩ := hn
    obtain ⟨xa, xb, xt, xd, xk, xo, xn, xu, xpt, xpa, xky, xtx, ds⟩ := x
    have he2 : e = .returned (.agg #[.int .i64 xa, .int .i64 xb, .int .i64 xt, .slice (some ⟨ga, 0, none⟩) 16 16, .int .i64 xk, .int .i64 xo, .int .i64 xn, .int .i64 xu, .int .i64 xpt, .int .i64 xpa, .string xky, .string xtx]) := he
    clear he
    subst he2
    obtain ⟨ao, cap, rfl, hrr⟩ := hr
    rw [List.length_map] at hR1 c0
    clear hrr hba
    rw [hs0] at hlo
    have hb2 := below_alloc w1 (.cells #[.int .i64 xa, .int .i64 xb, .int .i64 xt, .slice (some ⟨ga, 0, none⟩) 16 16, .int .i64 xk, .int .i64 xo, .int .i64 xn, .int .i64 xu, .int .i64 xpt, .int .i64 xpa, .string xky, .string xtx] 29)
    have hbox : (w1.alloc (.cells #[.int .i64 xa, .int .i64 xb, .int .i64 xt, .slice (some ⟨ga, 0, none⟩) 16 16, .int .i64 xk, .int .i64 xo, .int .i64 xn, .int .i64 xu, .int .i64 xpt, .int .i64 xpa, .string xky, .string xtx] 29)).heap[w1.heap.size]? = some (.cells #[.int .i64 xa, .int .i64 xb, .int .i64 xt, .slice (some ⟨ga, 0, none⟩) 16 16, .int .i64 xk, .int .i64 xo, .int .i64 xn, .int .i64 xu, .int .i64 xpt, .int .i64 xpa, .string xky, .string xtx] 29 (0, 0)) := heap_alloc_new w1 _
    have r1 : (w1.alloc (.cells #[.int .i64 xa, .int .i64 xb, .int .i64 xt, .slice (some ⟨ga, 0, none⟩) 16 16, .int .i64 xk, .int .i64 xo, .int .i64 xn, .int .i64 xu, .int .i64 xpt, .int .i64 xpa, .string xky, .string xtx] 29)).cell? ⟨b, 1, none⟩ = some (.int .i64 (r : Int)) := (hb2.cell (p := ⟨b, 1, none⟩) (by show b < w1.heap.size; omega)).trans hR1.c1
    have c2 : (w1.alloc (.cells #[.int .i64 xa, .int .i64 xb, .int .i64 xt, .slice (some ⟨ga, 0, none⟩) 16 16, .int .i64 xk, .int .i64 xo, .int .i64 xn, .int .i64 xu, .int .i64 xpt, .int .i64 xpa, .string xky, .string xtx] 29)).cell? ⟨k0, 0, none⟩ = some (.slice ao xs.length cap) := (hb2.cell (p := ⟨k0, 0, none⟩) (by show k0 < w1.heap.size; omega)).trans c0
    have hres2 := (hb2.block w.heap.size (by omega)).trans hres
    have hrn2 : (w1.alloc (.cells #[.int .i64 xa, .int .i64 xb, .int .i64 xt, .slice (some ⟨ga, 0, none⟩) 16 16, .int .i64 xk, .int .i64 xo, .int .i64 xn, .int .i64 xu, .int .i64 xpt, .int .i64 xpa, .string xky, .string xtx] 29)).rangeAt ga 0 (ds.map (Value.int .i64)) := fun j u hj => (hb2.cell (p := ⟨ga, 0 + j, none⟩) hhi).trans (hrng j u hj)
    have hth2 := there_block hth (hb2.block ga hhi)
    have hg2 : w.grownBy (w1.alloc (.cells #[.int .i64 xa, .int .i64 xb, .int .i64 xt, .slice (some ⟨ga, 0, none⟩) 16 16, .int .i64 xk, .int .i64 xo, .int .i64 xn, .int .i64 xu, .int .i64 xpt, .int .i64 xpa, .string xky, .string xtx] 29)) (some b) := grownBy_trans hgw (grownBy_below hb2 (Nat.le_refl _) _)
    have hsz2 : (w1.alloc (.cells #[.int .i64 xa, .int .i64 xb, .int .i64 xt, .slice (some ⟨ga, 0, none⟩) 16 16, .int .i64 xk, .int .i64 xo, .int .i64 xn, .int .i64 xu, .int .i64 xpt, .int .i64 xpa, .string xky, .string xtx] 29)).heap.size = w1.heap.size + 1 := World.size_alloc _ _
    clear hR1 c0 hres hrng hth hgw hb2
    go_upto_region 2 with fail
    generalize (w1.alloc (.cells #[.int .i64 xa, .int .i64 xb, .int .i64 xt, .slice (some ⟨ga, 0, none⟩) 16 16, .int .i64 xk, .int .i64 xo, .int .i64 xn, .int .i64 xu, .int .i64 xpt, .int .i64 xpa, .string xky, .string xtx] 29)) = w2 at *
    generalize w1.heap.size = ob at *
    by_cases hpe : r = xs.length
    · subst hpe
      have hX : opCd xs = some (⟨xa, xb, xt, xd, xk, xo, xn, xu, xpt, xpa, xky, xtx, ds⟩ : Ov) := by
        rw [opCd_rd, hT]
        exact if_pos rfl
      have hopb : OpBlk w2 ob (⟨xa, xb, xt, .slice (some ⟨ga, 0, none⟩) 16 16, xk, xo, xn, xu, xpt, xpa, xky, xtx, ds⟩ : Ov) := hbox
      obtain ⟨cs, HCS⟩ : ∃ cs, Hid (Ov.cs (⟨xa, xb, xt, .slice (some ⟨ga, 0, none⟩) 16 16, xk, xo, xn, xu, xpt, xpa, xky, xtx, ds⟩ : Ov) = cs) := ⟨_, rfl⟩
      have hlen : cs.length = 12 := by rw [← HCS.out]; rfl
      have HN : Hid (∀ m, opT (opCd xs) w.heap.size (.returned (.agg cs.toArray)) ((w2.drewN m).setCells w.heap.size 0 cs) ∧ w.grownBy ((w2.drewN m).setCells w.heap.size 0 cs) (some b)) := by
        intro m
        have hgs := grownBy_setCells (w2.drewN m) w.heap.size cs 0
        have hsz := hgs.size
        have hsd : (w2.drewN m).heap.size = w2.heap.size := rfl
        have hga := hgs.block ga (by omega) (fun e => by cases e; omega)
        rw [hX]
        refine ⟨⟨ga, by rw [← HCS.out], by omega, by omega, fun j u hj => (World.cell?_of_block (w := w2) (a := ⟨ga, 0 + j, none⟩) hga).trans (hrn2 j u hj), there_block (w := w2) hth2 hga⟩, ⟨hgs.os.trans hg2.os, hgs.tape.trans hg2.tape, hgs.output.trans hg2.output, Nat.le_trans hg2.size hsz, fun k hk hne => (hgs.block k (by have := hg2.size; omega) (fun e => by cases e; omega)).trans (hg2.block k hk hne)⟩⟩
      have hrg : ∀ m, (w2.drewN m).rangeAt ob 0 cs := fun m => by
        have := opBlk_range hopb
        rw [← HCS.out]
        exact this
      have hthr : ∀ m, (w2.drewN m).there w.heap.size 0 cs.length := fun m => there_blk (w := w2) hres2 (by rw [hlen]; simp)
      have HLD : Hid (∀ m, Sem.run Tryz.prog (loadVar 29 ⟨w.heap.size, 0, none⟩) ((w2.drewN m).setCells w.heap.size 0 cs) = .ok (.agg cs.toArray) ((w2.drewN m).setCells w.heap.size 0 cs)) := fun m => run_loadVar_mid (P := Tryz.prog) _ w.heap.size 0 29 cs _ (World.rangeAt_setCells_same _ _ _ _ (hthr m)) Tryz.underlying29 rfl (by rw [← HCS.out]; exact infoOpB _)
      have hth' : ∀ m, (w2.drewN m).there w.heap.size 0 cs.toArray.size := hthr
      have HI1 : Hid ((Tryz.prog.info? 29).map (·.size) = some cs.length) := by rw [← HCS.out]; exact infoOpB _
      have HI2 : Hid ((Tryz.prog.info? 29).map (·.size) = some cs.toArray.size) := HI1
      have hone : cs.toArray.all (·.oneCell') = true := by rw [← HCS.out]; exact all_oneCell_toArray (cs_one (⟨xa, xb, xt, .slice (some ⟨ga, 0, none⟩) 16 16, xk, xo, xn, xu, xpt, xpa, xky, xtx, ds⟩ : Ov) rfl)
      clear hT hX hg2 hrn2 hth2 hbox hres2 hopb hthr hlen
      go_wp2_with fail
      go_quiet ((go_at_call 101; exact Calls.quiet_of_same (require_yes _ _)))
      go_wp2_with (first | (refine wpList_load_mid rfl 29 _ rfl ob 0 rfl cs _ (hrg _) Tryz.underlying29 rfl HI1.out ?_) | (refine wpList_store_mid rfl 29 _ _ rfl w.heap.size 0 cs.toArray rfl rfl (hth' _) HI2.out hone ?_))
      have hld := HLD.out
      exact bodyPost_ret (v := .agg cs.toArray) (by simp [results, Tryz.results110, asAddr, Act.put, hld]) rfl (HN.out _)
    · have HN : Hid (∀ w', opT (opCd xs) w.heap.size (.panicked [{ v := .iface 137 (.int .i64 3), recovered := false }]) w') := by
        intro w'
        rw [opCd_rd, hT]
        simp only
        rw [if_neg hpe]
        rfl
      have hpi : ((r : Int) == (xs.length : Int)) = false := by simp; omega
      have HG : Hid (∀ m, w.grownBy (w2.drewN m) (some b)) := fun m => grownBy_trans hg2 (grownBy_drewN _ _ _)
      generalize xs.length = len at hpi c2 hl hrl
      clear hT hpe hg2 hrn2 hth2 hbox hres2
      go_wp2_with fail
      go_region_held2 (fun w' => w'.cell? ⟨b, 1, none⟩ = some (.int .i64 (r : Int)) ∧ w'.cell? ⟨k0, 0, none⟩ = some (.slice ao len cap)) (go_keep) (first | (go_at_call 101; refine (require_none _ _).mono ?_; rintro e w' (⟨rfl, rfl, hF⟩ | ⟨rfl, rfl⟩); rotate_left; exact ⟨rfl, HN.out _, HG.out 1⟩))
      all_goals exact (hF.out).elim

set_option maxHeartbeats 400000 in
theorem catchOp_panic (p : Addr) (x : Int) (w : World) (hc : w.cell? p = some (.int .i64 x)) (hz : w.frozen? p = false) :
    CallsD Tryz.prog 97 #[.pointer (some p)] (.panicking [{ v := .iface 137 (.int .i64 3), recovered := false }]) w fun e u' w' =>
      e = .returned (.tuple #[]) ∧ u' = .panicking [{ v := .iface 137 (.int .i64 3), recovered := true }] ∧ w' = w.setCell p (.int .i64 3) := by
  refine callsD_of_wpS Tryz.func97 rfl fun c₀ cs hu => ?_
  apply wpS_seq
  apply wpS_region
  simp [wpOpsS, go_sem, recoverD, hu, Tryz.ntmps97, Exit.thenS]
  refine wpS_of_wp ?_
  rw [show Array.replicate 6 undef = #[undef, undef, undef, undef, undef, undef] from rfl]
  simp
  go_wp2_with (first | (go_at_call 98; refine (faultCode_any _).mono ?_; rintro e w' ⟨rfl, rfl⟩))
  simp [bodyPostS, results, Tryz.results97]

set_option maxHeartbeats 400000 in
theorem catchOp_idle (p : Addr) (w : World) :
    CallsD Tryz.prog 97 #[.pointer (some p)] .returning w fun e u' w' => e = .returned (.tuple #[]) ∧ u' = .returning ∧ w' = w := by
  refine callsD_of_wpS Tryz.func97 rfl fun c₀ cs hu => ?_
  apply wpS_seq
  apply wpS_region
  simp [wpOpsS, go_sem, recoverD, hu, Tryz.ntmps97, Exit.thenS]
  refine wpS_of_wp ?_
  rw [show Array.replicate 6 undef = #[undef, undef, undef, undef, undef, undef] from rfl]
  simp
  go_wp2
  cases c₀
  simp_all [bodyPostS, results, Tryz.results97]

/-- What attempt answers with an operation. -/
def opA (o : Option Ov) (N : Nat) (e : Ending) (w' : World) : Prop := match o with
  | some x => ∃ ga, e = .returned (.tuple #[.agg (Ov.cs { x with dv := .slice (some ⟨ga, 0, none⟩) 16 16 }).toArray, .int .i64 0]) ∧ N ≤ ga ∧ ga < w'.heap.size ∧ w'.rangeAt ga 0 (x.ds.map (Value.int .i64)) ∧ w'.there ga 0 16
  | none => e = .returned (.tuple #[.agg (Ov.cs ov0).toArray, .int .i64 3])
/-- What attempt writes lies in memory of its own. -/
theorem own_writes {w w1 w2 : World} {b : Nat} (hg : w.grownBy w1 (some b)) (ho : w2.os = w1.os ∧ w2.tape = w1.tape ∧ w2.output = w1.output ∧ w1.heap.size ≤ w2.heap.size) (hb : ∀ k, k < w.heap.size → w2.heap[k]? = w1.heap[k]?) : w.grownBy w2 (some b) :=
  ⟨ho.1.trans hg.os, ho.2.1.trans hg.tape, ho.2.2.1.trans hg.output, Nat.le_trans hg.size ho.2.2.2, fun k hk hne => (hb k hk).trans (hg.block k hk hne)⟩

set_option maxHeartbeats 4000000 in
set_option maxRecDepth 100000 in
theorem attemptAllOp_any (C b k0 k1 : Nat) (w : World) (va : Value) (xs : List Int) (hx : Bytes xs) (hl : xs.length ≤ 1048576) (hC : C ≤ b) (hb : b < w.heap.size) (hr : Rd C w va (xs.map (Value.int .u8))) (hR : Rdr w b va 0) (hk : k0 < w.heap.size) (hk1 : k1 < w.heap.size) (hkb : k0 ≠ b) (h0 : w.cell? ⟨k0, 0, none⟩ = some va) (h1 : w.cell? ⟨k1, 0, none⟩ = some (.func (.func 104) #[] #[])) :
    Calls Tryz.prog 61 #[.pointer (some ⟨b, 0, none⟩), .func (.func 110) #[] #[.pointer (some ⟨k1, 0, none⟩), .pointer (some ⟨k0, 0, none⟩)]] w fun e w' => opA (opCd xs) w.heap.size e w' ∧ w.grownBy w' (some b) := by
  have hmf : ∀ (fn : Fn) (first cap : Array Value) (w : World), (Instr.makeFunc fn first cap).run Tryz.prog w = .ok (.func fn first cap) w := fun _ _ _ _ => rfl
  have hB : Below w.heap.size w ((w.alloc (.cells #[.int .i64 0, .int .i64 0, .int .i64 0, .slice none 0 0, .int .i64 0, .int .i64 0, .int .i64 0, .int .i64 0, .int .i64 0, .int .i64 0, .string ⟨#[]⟩, .string ⟨#[]⟩] 29)).alloc (.cells #[.int .i64 0] 3)) := (below_alloc w _).trans ((below_alloc _ _).mono (by rw [World.size_alloc]; omega))
  have hsW : ((w.alloc (.cells #[.int .i64 0, .int .i64 0, .int .i64 0, .slice none 0 0, .int .i64 0, .int .i64 0, .int .i64 0, .int .i64 0, .int .i64 0, .int .i64 0, .string ⟨#[]⟩, .string ⟨#[]⟩] 29)).alloc (.cells #[.int .i64 0] 3)).heap.size = w.heap.size + 2 := by rw [World.size_alloc, World.size_alloc]
  have hcd : ((w.alloc (.cells #[.int .i64 0, .int .i64 0, .int .i64 0, .slice none 0 0, .int .i64 0, .int .i64 0, .int .i64 0, .int .i64 0, .int .i64 0, .int .i64 0, .string ⟨#[]⟩, .string ⟨#[]⟩] 29)).alloc (.cells #[.int .i64 0] 3)).heap[w.heap.size + 1]? = some (.cells #[.int .i64 0] 3 (0, 0)) := by
    have := heap_alloc_new (w.alloc (.cells #[.int .i64 0, .int .i64 0, .int .i64 0, .slice none 0 0, .int .i64 0, .int .i64 0, .int .i64 0, .int .i64 0, .int .i64 0, .int .i64 0, .string ⟨#[]⟩, .string ⟨#[]⟩] 29)) (.cells #[.int .i64 0] 3)
    rw [World.size_alloc] at this
    exact this
  have hrs : ((w.alloc (.cells #[.int .i64 0, .int .i64 0, .int .i64 0, .slice none 0 0, .int .i64 0, .int .i64 0, .int .i64 0, .int .i64 0, .int .i64 0, .int .i64 0, .string ⟨#[]⟩, .string ⟨#[]⟩] 29)).alloc (.cells #[.int .i64 0] 3)).heap[w.heap.size]? = some (.cells #[.int .i64 0, .int .i64 0, .int .i64 0, .slice none 0 0, .int .i64 0, .int .i64 0, .int .i64 0, .int .i64 0, .int .i64 0, .int .i64 0, .string ⟨#[]⟩, .string ⟨#[]⟩] 29 (0, 0)) := ((below_alloc (w.alloc (.cells #[.int .i64 0, .int .i64 0, .int .i64 0, .slice none 0 0, .int .i64 0, .int .i64 0, .int .i64 0, .int .i64 0, .int .i64 0, .int .i64 0, .string ⟨#[]⟩, .string ⟨#[]⟩] 29)) _).block w.heap.size (by rw [World.size_alloc]; omega)).trans (heap_alloc_new w _)
  have hop := allOp_any C b k0 k1 ((w.alloc (.cells #[.int .i64 0, .int .i64 0, .int .i64 0, .slice none 0 0, .int .i64 0, .int .i64 0, .int .i64 0, .int .i64 0, .int .i64 0, .int .i64 0, .string ⟨#[]⟩, .string ⟨#[]⟩] 29)).alloc (.cells #[.int .i64 0] 3)) va xs hx hl hC (by omega) (hr.below (hB.mono (by omega))) ((hB.block b hb).trans hR) (by omega) (by omega) hkb ((World.cell?_of_block (w := w) (a := ⟨k0, 0, none⟩) (hB.block k0 hk)).trans h0) ((World.cell?_of_block (w := w) (a := ⟨k1, 0, none⟩) (hB.block k1 hk1)).trans h1)
  have hgB := grownBy_below hB (Nat.le_refl _) (some b)
  rw [hsW] at hop
  clear hB h0 h1 hr hR
  go_enter_defers Tryz.func61, Tryz.ntmps61
  go_wp2_with fail
  refine hop.mono ?_
  rintro e w1 ⟨hn, hg⟩
  have hgw := grownBy_trans hgB hg
  have hsz := hg.size
  rw [hsW] at hsz
  have hcd1 := (hg.block (w.heap.size + 1) (by omega) (fun e => by cases e; omega)).trans hcd
  have hrs1 := (hg.block w.heap.size (by omega) (fun e => by cases e; omega)).trans hrs
  clear hop hcd hrs hgB hg hsW
  unfold opT at hn
  cases hO : opCd xs with
  | none =>
    rw [hO] at hn
    simp only at hn
    unfold Bad at hn
    subst hn
    have hc := at_cell hcd1
    have hf : w1.frozen? ⟨w.heap.size + 1, 0, none⟩ = false := blk_free hcd1 0
    refine leaves_cons (f := 97) (args := #[.pointer (some ⟨w.heap.size + 1, 0, none⟩)]) (by simp) (by simp [go_sem]) ?_
    refine (catchOp_panic ⟨w.heap.size + 1, 0, none⟩ 0 w1 hc hf).mono ?_
    rintro e u' w'' ⟨rfl, rfl, rfl⟩
    have hcell : (w1.setCell ⟨w.heap.size + 1, 0, none⟩ (.int .i64 3)).cell? ⟨w.heap.size + 1, 0, none⟩ = some (.int .i64 3) := World.cell?_setCell_same w1 _ _ hc
    have hg2 := grownBy_set w1 (w.heap.size + 1) 0 (.int .i64 3)
    have hrs2 := (hg2.block w.heap.size (by omega) (fun e => by injection e with e; omega)).trans hrs1
    have hres : w.grownBy (w1.setCell ⟨w.heap.size + 1, 0, none⟩ (.int .i64 3)) (some b) := own_writes hgw ⟨hg2.os, hg2.tape, hg2.output, hg2.size⟩ (fun k hk => hg2.block k (by omega) (fun e => by cases e; omega))
    have hrg : (w1.setCell ⟨w.heap.size + 1, 0, none⟩ (.int .i64 3)).rangeAt w.heap.size 0 ov0.cs := opBlk_range (x := ov0) hrs2
    have hld := run_loadVar_mid (P := Tryz.prog) _ w.heap.size 0 29 ov0.cs _ hrg Tryz.underlying29 rfl (infoOpB _)
    generalize w1.setCell ⟨w.heap.size + 1, 0, none⟩ (.int .i64 3) = w2 at hres hcell hld ⊢
    have hl3 : Sem.run Tryz.prog (loadVar 3 ⟨w.heap.size + 1, 0, none⟩) w2 = .ok (.int .i64 3) w2 := by simp [go_sem, hcell]
    simp [Leaves, settle, results, Tryz.results61, asAddr, hl3, hld]
    exact ⟨by rw [hO]; exact rfl, hres⟩
  | some x =>
    rw [hO] at hn
    obtain ⟨ga, rfl, hlo, hhi, hrng, hth⟩ := hn
    obtain ⟨cs, HCS⟩ : ∃ cs, Hid (Ov.cs { x with dv := .slice (some ⟨ga, 0, none⟩) 16 16 } = cs) := ⟨_, rfl⟩
    rw [HCS.out]
    have hlen : cs.length = 12 := by rw [← HCS.out]; rfl
    have hth1 : w1.there w.heap.size 0 cs.length := there_blk hrs1 (by rw [hlen]; simp)
    have hgs := grownBy_setCells w1 w.heap.size cs 0
    have hsz2 := hgs.size
    have hcd2 := (hgs.block (w.heap.size + 1) (by omega) (fun e => by injection e with e; omega)).trans hcd1
    have c5 : (w1.setCells w.heap.size 0 cs).cell? ⟨w.heap.size + 1, 0, none⟩ = some (.int .i64 0) := at_cell hcd2
    have f5 : (w1.setCells w.heap.size 0 cs).frozen? ⟨w.heap.size + 1, 0, none⟩ = false := blk_free hcd2 0
    have hrs2 : (w1.setCells w.heap.size 0 cs).rangeAt w.heap.size 0 cs := World.rangeAt_setCells_same _ _ _ _ hth1
    have hg3 := grownBy_set (w1.setCells w.heap.size 0 cs) (w.heap.size + 1) 0 (.int .i64 0)
    have hsz3 := hg3.size
    have hrs3 : ((w1.setCells w.heap.size 0 cs).setCell ⟨w.heap.size + 1, 0, none⟩ (.int .i64 0)).rangeAt w.heap.size 0 cs := fun j u hj => (World.cell?_of_block (w := w1.setCells w.heap.size 0 cs) (a := ⟨w.heap.size, 0 + j, none⟩) (hg3.block w.heap.size (by omega) (fun e => by injection e with e; omega))).trans (hrs2 j u hj)
    have HI1 : Hid ((Tryz.prog.info? 29).map (·.size) = some cs.length) := by rw [← HCS.out]; exact infoOpB _
    have HI2 : Hid ((Tryz.prog.info? 29).map (·.size) = some cs.toArray.size) := HI1
    have hone : cs.toArray.all (·.oneCell') = true := by rw [← HCS.out]; exact all_oneCell_toArray (cs_one _ rfl)
    have hld := run_loadVar_mid (P := Tryz.prog) _ w.heap.size 0 29 cs _ hrs3 Tryz.underlying29 rfl HI1.out
    have hcell : ((w1.setCells w.heap.size 0 cs).setCell ⟨w.heap.size + 1, 0, none⟩ (.int .i64 0)).cell? ⟨w.heap.size + 1, 0, none⟩ = some (.int .i64 0) := World.cell?_setCell_same _ _ _ c5
    have hga : ((w1.setCells w.heap.size 0 cs).setCell ⟨w.heap.size + 1, 0, none⟩ (.int .i64 0)).heap[ga]? = w1.heap[ga]? := (hg3.block ga (by omega) (fun e => by injection e with e; omega)).trans (hgs.block ga hhi (fun e => by injection e with e; omega))
    have HN : Hid (opA (opCd xs) w.heap.size (.returned (.tuple #[.agg cs.toArray, .int .i64 0])) ((w1.setCells w.heap.size 0 cs).setCell ⟨w.heap.size + 1, 0, none⟩ (.int .i64 0)) ∧ w.grownBy ((w1.setCells w.heap.size 0 cs).setCell ⟨w.heap.size + 1, 0, none⟩ (.int .i64 0)) (some b)) := by
      unfold Hid
      rw [hO]
      refine ⟨⟨ga, by rw [← HCS.out], by omega, by omega, fun j u hj => (World.cell?_of_block (w := w1) (a := ⟨ga, 0 + j, none⟩) hga).trans (hrng j u hj), there_block hth hga⟩, own_writes hgw ⟨hg3.os.trans hgs.os, hg3.tape.trans hgs.tape, hg3.output.trans hgs.output, by omega⟩ (fun k hk => (hg3.block k (by omega) (fun e => by injection e with e; omega)).trans (hgs.block k (by omega) (fun e => by injection e with e; omega)))⟩
    have HLD : Hid _ := hld
    have HCE : Hid _ := hcell
    have hth' : w1.there w.heap.size 0 cs.toArray.size := hth1
    clear hld hcell hga hrs3 hg3 hrs2 hcd2 hgs hth1 hlen hrng hth hcd1 hrs1 hgw
    go_wp2_with (first | (refine wpList_store_mid rfl 29 _ _ rfl w.heap.size 0 cs.toArray rfl rfl hth' HI2.out hone ?_))
    refine leaves_cons (f := 97) (args := #[.pointer (some ⟨w.heap.size + 1, 0, none⟩)]) (by simp) (by simp [go_sem]) ?_
    refine (catchOp_idle ⟨w.heap.size + 1, 0, none⟩ _).mono ?_
    rintro e u' w'' ⟨rfl, rfl, rfl⟩
    have hld := HLD.out
    have hcell := HCE.out
    have HN2 := HN.out
    generalize ((w1.setCells w.heap.size 0 cs).setCell ⟨w.heap.size + 1, 0, none⟩ (.int .i64 0)) = w2 at hld hcell HN2 ⊢
    have hl3 : Sem.run Tryz.prog (loadVar 3 ⟨w.heap.size + 1, 0, none⟩) w2 = .ok (.int .i64 0) w2 := by simp [go_sem, hcell]
    simp [Leaves, settle, results, Tryz.results61, asAddr, hl3, hld]
    exact HN2

/-- An answer of attempt, opened: its cells, and what keeps it. -/
theorem opA_open {o : Option Ov} {N : Nat} {e : Ending} {w' : World} (h : opA o N e w') : ∃ y c, e = .returned (.tuple #[.agg (Ov.cs y).toArray, .int .i64 c]) ∧ (∃ da dl dk, y.dv = .slice da dl dk) ∧ ((o = none ∧ c = 3) ∨ (o ≠ none ∧ c = 0)) ∧ ∀ N' w'', N' ≤ N → w'.heap.size ≤ w''.heap.size → (∀ k, N ≤ k → k < w'.heap.size → w''.heap[k]? = w'.heap[k]?) → opA o N' e w'' := by
  cases o with
  | none => exact ⟨ov0, 3, h, ⟨_, _, _, rfl⟩, .inl ⟨rfl, rfl⟩, fun _ _ _ _ _ => h⟩
  | some x =>
    obtain ⟨ga, he, hlo, hhi, hrng, hth⟩ := h
    refine ⟨_, 0, he, ⟨_, _, _, rfl⟩, .inr ⟨by simp, rfl⟩, fun N' w'' h1 h2 h3 => ?_⟩
    have hga := h3 ga hlo hhi
    exact ⟨ga, he, by omega, by omega, fun j u hj => (World.cell?_of_block (w := w') (a := ⟨ga, 0 + j, none⟩) hga).trans (hrng j u hj), there_block hth hga⟩

set_option maxHeartbeats 4000000 in
set_option maxRecDepth 100000 in
theorem attemptAllO_any (C : Nat) (w : World) (v : Value) (xs : List Int) (hx : Bytes xs) (hl : xs.length ≤ 1048576) (hC : C ≤ w.heap.size) (hr : Rd C w v (xs.map (Value.int .u8))) :
    Calls Tryz.prog 103 #[v, .func (.func 104) #[] #[]] w fun e w' => opA (opCd xs) w.heap.size e w' ∧ Below w.heap.size w w' := by
  have hmf : ∀ (fn : Fn) (first cap : Array Value) (w : World), (Instr.makeFunc fn first cap).run Tryz.prog w = .ok (.func fn first cap) w := fun _ _ _ _ => rfl
  have hr0 := hr
  obtain ⟨ao, cap, rfl, hcap, hmax, hnil, hr⟩ := hr
  rw [List.length_map] at hr hr0 ⊢
  clear hr
  have s1 : (w.alloc (.cells #[.slice ao xs.length cap] 22)).heap.size = w.heap.size + 1 := World.size_alloc _ _
  have s2 : ((w.alloc (.cells #[.slice ao xs.length cap] 22)).alloc (.cells #[.func (.func 104) #[] #[]] 93)).heap.size = w.heap.size + 2 := by rw [World.size_alloc, s1]
  have s3 : (((w.alloc (.cells #[.slice ao xs.length cap] 22)).alloc (.cells #[.func (.func 104) #[] #[]] 93)).alloc (.cells #[.int .i64 0, .int .i64 0, .int .i64 0, .slice none 0 0, .int .i64 0, .int .i64 0, .int .i64 0, .int .i64 0, .int .i64 0, .int .i64 0, .string ⟨#[]⟩, .string ⟨#[]⟩] 29)).heap.size = w.heap.size + 3 := by rw [World.size_alloc, s2]
  have s4 : ((((w.alloc (.cells #[.slice ao xs.length cap] 22)).alloc (.cells #[.func (.func 104) #[] #[]] 93)).alloc (.cells #[.int .i64 0, .int .i64 0, .int .i64 0, .slice none 0 0, .int .i64 0, .int .i64 0, .int .i64 0, .int .i64 0, .int .i64 0, .int .i64 0, .string ⟨#[]⟩, .string ⟨#[]⟩] 29)).alloc (.cells #[.slice ao xs.length cap, .int .i64 0] 90)).heap.size = w.heap.size + 4 := by rw [World.size_alloc, s3]
  have b1 := below_alloc w (.cells #[.slice ao xs.length cap] 22)
  have b2 := below_alloc (w.alloc (.cells #[.slice ao xs.length cap] 22)) (.cells #[.func (.func 104) #[] #[]] 93)
  have b3 := below_alloc ((w.alloc (.cells #[.slice ao xs.length cap] 22)).alloc (.cells #[.func (.func 104) #[] #[]] 93)) (.cells #[.int .i64 0, .int .i64 0, .int .i64 0, .slice none 0 0, .int .i64 0, .int .i64 0, .int .i64 0, .int .i64 0, .int .i64 0, .int .i64 0, .string ⟨#[]⟩, .string ⟨#[]⟩] 29)
  have b4 := below_alloc (((w.alloc (.cells #[.slice ao xs.length cap] 22)).alloc (.cells #[.func (.func 104) #[] #[]] 93)).alloc (.cells #[.int .i64 0, .int .i64 0, .int .i64 0, .slice none 0 0, .int .i64 0, .int .i64 0, .int .i64 0, .int .i64 0, .int .i64 0, .int .i64 0, .string ⟨#[]⟩, .string ⟨#[]⟩] 29)) (.cells #[.slice ao xs.length cap, .int .i64 0] 90)
  have n1 := heap_alloc_new w (.cells #[.slice ao xs.length cap] 22)
  have n2 := heap_alloc_new (w.alloc (.cells #[.slice ao xs.length cap] 22)) (.cells #[.func (.func 104) #[] #[]] 93)
  have n3 := heap_alloc_new ((w.alloc (.cells #[.slice ao xs.length cap] 22)).alloc (.cells #[.func (.func 104) #[] #[]] 93)) (.cells #[.int .i64 0, .int .i64 0, .int .i64 0, .slice none 0 0, .int .i64 0, .int .i64 0, .int .i64 0, .int .i64 0, .int .i64 0, .int .i64 0, .string ⟨#[]⟩, .string ⟨#[]⟩] 29)
  have n4 := heap_alloc_new (((w.alloc (.cells #[.slice ao xs.length cap] 22)).alloc (.cells #[.func (.func 104) #[] #[]] 93)).alloc (.cells #[.int .i64 0, .int .i64 0, .int .i64 0, .slice none 0 0, .int .i64 0, .int .i64 0, .int .i64 0, .int .i64 0, .int .i64 0, .int .i64 0, .string ⟨#[]⟩, .string ⟨#[]⟩] 29)) (.cells #[.slice ao xs.length cap, .int .i64 0] 90)
  rw [s1] at n2 b2
  rw [s2] at n3 b3
  rw [s3] at n4 b4
  have hB0 : Below w.heap.size w ((((w.alloc (.cells #[.slice ao xs.length cap] 22)).alloc (.cells #[.func (.func 104) #[] #[]] 93)).alloc (.cells #[.int .i64 0, .int .i64 0, .int .i64 0, .slice none 0 0, .int .i64 0, .int .i64 0, .int .i64 0, .int .i64 0, .int .i64 0, .int .i64 0, .string ⟨#[]⟩, .string ⟨#[]⟩] 29)).alloc (.cells #[.slice ao xs.length cap, .int .i64 0] 90)) := b1.trans ((b2.mono (by omega)).trans ((b3.mono (by omega)).trans (b4.mono (by omega))))
  have k0 := (b4.block w.heap.size (by omega)).trans ((b3.block w.heap.size (by omega)).trans ((b2.block w.heap.size (by omega)).trans n1))
  have k1 := (b4.block (w.heap.size + 1) (by omega)).trans ((b3.block (w.heap.size + 1) (by omega)).trans n2)
  have k2 := (b4.block (w.heap.size + 2) (by omega)).trans n3
  have hc := attemptAllOp_any C (w.heap.size + 3) w.heap.size (w.heap.size + 1) ((((w.alloc (.cells #[.slice ao xs.length cap] 22)).alloc (.cells #[.func (.func 104) #[] #[]] 93)).alloc (.cells #[.int .i64 0, .int .i64 0, .int .i64 0, .slice none 0 0, .int .i64 0, .int .i64 0, .int .i64 0, .int .i64 0, .int .i64 0, .int .i64 0, .string ⟨#[]⟩, .string ⟨#[]⟩] 29)).alloc (.cells #[.slice ao xs.length cap, .int .i64 0] 90)) (.slice ao xs.length cap) xs hx hl (by omega) (by omega) (hr0.below (hB0.mono hC)) n4 (by omega) (by omega) (by omega) (at_cell k0) (at_cell k1)
  rw [s4] at hc
  clear n1 n2 n3 n4 b1 b2 b3 b4 k0 k1 s1 s2 s3 hr0
  go_enter Tryz.func103, Tryz.ntmps103
  go_wp2_with fail
  refine hc.mono ?_
  rintro e w1 ⟨hn, hg⟩
  have hsz := hg.size
  rw [s4] at hsz
  have hres := (hg.block (w.heap.size + 2) (by omega) (fun e => by injection e with e; omega)).trans k2
  have hb1 : Below w.heap.size w w1 := hB0.grown hg (by omega) (fun k hk => by cases hk; omega)
  clear hc hg k2 hB0 s4
  obtain ⟨y, c, rfl, ⟨da, dl, dk, hdv⟩, hoc, hkeep⟩ := opA_open hn
  have hy : y.dv.oneCell' = true := by rw [hdv]; rfl
  clear hdv
  clear hn
  obtain ⟨cs, HCS⟩ : ∃ cs, Hid (Ov.cs y = cs) := ⟨_, rfl⟩
  rw [HCS.out] at hkeep ⊢
  have hlen : cs.length = 12 := by rw [← HCS.out]; rfl
  have hth1 : w1.there (w.heap.size + 2) 0 cs.length := there_blk hres (by rw [hlen]; simp)
  have hgs := grownBy_setCells w1 (w.heap.size + 2) cs 0
  have hsz2 := hgs.size
  have HI1 : Hid ((Tryz.prog.info? 29).map (·.size) = some cs.length) := by rw [← HCS.out]; exact infoOpB _
  have HI2 : Hid ((Tryz.prog.info? 29).map (·.size) = some cs.toArray.size) := HI1
  have hone : cs.toArray.all (·.oneCell') = true := by rw [← HCS.out]; exact all_oneCell_toArray (cs_one _ hy)
  have hld := run_loadVar_mid (P := Tryz.prog) _ (w.heap.size + 2) 0 29 cs _ (World.rangeAt_setCells_same w1 _ _ _ hth1) Tryz.underlying29 rfl HI1.out
  have HN : Hid (opA (opCd xs) w.heap.size (.returned (.tuple #[.agg cs.toArray, .int .i64 c])) (w1.setCells (w.heap.size + 2) 0 cs) ∧ Below w.heap.size w (w1.setCells (w.heap.size + 2) 0 cs)) :=
    ⟨hkeep _ _ (by omega) hsz2 (fun k h1 h2 => hgs.block k h2 (fun e => by injection e with e; omega)), below_cellsC (by omega) _ _ _ hb1⟩
  have HLD : Hid _ := hld
  have hth' : w1.there (w.heap.size + 2) 0 cs.toArray.size := hth1
  clear hld hgs hth1 hlen hres hkeep hb1
  go_wp2_with (first | (refine wpList_store_mid rfl 29 _ _ rfl (w.heap.size + 2) 0 cs.toArray rfl rfl hth' HI2.out hone ?_))
  have hld := HLD.out
  exact bodyPost_ret (v := .tuple #[.agg cs.toArray, .int .i64 c]) (by simp [results, Tryz.results103, asAddr, hld]) rfl HN.out
end Go.Proofs.YtmmkmkaannlkhaaGreatDoor
