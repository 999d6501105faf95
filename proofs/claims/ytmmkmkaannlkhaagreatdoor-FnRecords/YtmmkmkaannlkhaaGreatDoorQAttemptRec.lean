/- What attempt does with a record. -/
import Derived.Test.YtmmkmkaannlkhaaGreatDoorQReadRecToRecBack
namespace Go.Proofs.YtmmkmkaannlkhaaGreatDoor
open Go.RowKit Go.Lib
set_option linter.unusedVariables false

/-- What attempt answers with a record, and where the reader stands behind it. -/
def recA (xs : List Int) (p b : Nat) (va : Value) (N : Nat) (e : Ending) (w' : World) : Prop := match recRd xs p with
  | some (x, r) => ∃ ga, e = .returned (.tuple #[.agg (Ov.cs { x with dv := .slice (some ⟨ga, 0, none⟩) 16 16 }).toArray, .int .i64 0]) ∧ N ≤ ga ∧ ga < w'.heap.size ∧ w'.rangeAt ga 0 (x.ds.map (Value.int .i64)) ∧ w'.there ga 0 16 ∧ Rdr w' b va r ∧ r ≤ xs.length
  | none => e = .returned (.tuple #[.agg (Ov.cs ov0).toArray, .int .i64 3])

set_option maxHeartbeats 4000000 in
set_option maxRecDepth 100000 in
theorem attemptRec_any (C b p : Nat) (w : World) (va : Value) (xs : List Int) (hx : Bytes xs) (hl : xs.length ≤ 1048576) (hp : p ≤ xs.length) (hC : C ≤ b) (hb : b < w.heap.size) (hr : Rd C w va (xs.map (Value.int .u8))) (hR : Rdr w b va p) :
    Calls Tryz.prog 61 #[.pointer (some ⟨b, 0, none⟩), .func (.func 62) #[] #[]] w fun e w' => recA xs p b va w.heap.size e w' ∧ w.grownBy w' (some b) := by
  have hmf : ∀ (fn : Fn) (first cap : Array Value) (w : World), (Instr.makeFunc fn first cap).run Tryz.prog w = .ok (.func fn first cap) w := fun _ _ _ _ => rfl
  have hB : Below w.heap.size w ((w.alloc (.cells #[.int .i64 0, .int .i64 0, .int .i64 0, .slice none 0 0, .int .i64 0, .int .i64 0, .int .i64 0, .int .i64 0, .int .i64 0, .int .i64 0, .string ⟨#[]⟩, .string ⟨#[]⟩] 29)).alloc (.cells #[.int .i64 0] 3)) := (below_alloc w _).trans ((below_alloc _ _).mono (by rw [World.size_alloc]; omega))
  have hsW : ((w.alloc (.cells #[.int .i64 0, .int .i64 0, .int .i64 0, .slice none 0 0, .int .i64 0, .int .i64 0, .int .i64 0, .int .i64 0, .int .i64 0, .int .i64 0, .string ⟨#[]⟩, .string ⟨#[]⟩] 29)).alloc (.cells #[.int .i64 0] 3)).heap.size = w.heap.size + 2 := by rw [World.size_alloc, World.size_alloc]
  have hcd : ((w.alloc (.cells #[.int .i64 0, .int .i64 0, .int .i64 0, .slice none 0 0, .int .i64 0, .int .i64 0, .int .i64 0, .int .i64 0, .int .i64 0, .int .i64 0, .string ⟨#[]⟩, .string ⟨#[]⟩] 29)).alloc (.cells #[.int .i64 0] 3)).heap[w.heap.size + 1]? = some (.cells #[.int .i64 0] 3 (0, 0)) := by
    have := heap_alloc_new (w.alloc (.cells #[.int .i64 0, .int .i64 0, .int .i64 0, .slice none 0 0, .int .i64 0, .int .i64 0, .int .i64 0, .int .i64 0, .int .i64 0, .int .i64 0, .string ⟨#[]⟩, .string ⟨#[]⟩] 29)) (.cells #[.int .i64 0] 3)
    rw [World.size_alloc] at this
    exact this
  have hrs : ((w.alloc (.cells #[.int .i64 0, .int .i64 0, .int .i64 0, .slice none 0 0, .int .i64 0, .int .i64 0, .int .i64 0, .int .i64 0, .int .i64 0, .int .i64 0, .string ⟨#[]⟩, .string ⟨#[]⟩] 29)).alloc (.cells #[.int .i64 0] 3)).heap[w.heap.size]? = some (.cells #[.int .i64 0, .int .i64 0, .int .i64 0, .slice none 0 0, .int .i64 0, .int .i64 0, .int .i64 0, .int .i64 0, .int .i64 0, .int .i64 0, .string ⟨#[]⟩, .string ⟨#[]⟩] 29 (0, 0)) := ((below_alloc (w.alloc (.cells #[.int .i64 0, .int .i64 0, .int .i64 0, .slice none 0 0, .int .i64 0, .int .i64 0, .int .i64 0, .int .i64 0, .int .i64 0, .int .i64 0, .string ⟨#[]⟩, .string ⟨#[]⟩] 29)) _).block w.heap.size (by rw [World.size_alloc]; omega)).trans (heap_alloc_new w _)
  have hop := record_any C b p ((w.alloc (.cells #[.int .i64 0, .int .i64 0, .int .i64 0, .slice none 0 0, .int .i64 0, .int .i64 0, .int .i64 0, .int .i64 0, .int .i64 0, .int .i64 0, .string ⟨#[]⟩, .string ⟨#[]⟩] 29)).alloc (.cells #[.int .i64 0] 3)) va xs hx hl hp hC (by omega) (hr.below (hB.mono (by omega))) ((hB.block b hb).trans hR)
  have hgB := grownBy_below hB (Nat.le_refl _) (some b)
  clear hB hr hR
  go_enter_defers Tryz.func61, Tryz.ntmps61
  go_wp2_with fail
  refine hop.mono ?_
  rintro e w1 ⟨hn, hg⟩
  have hgw := grownBy_trans hgB hg
  have hsz := hg.size
  rw [hsW] at hsz
  have hcd1 := (hg.block (w.heap.size + 1) (by omega) (fun e => by cases e; omega)).trans hcd
  have hrs1 := (hg.block w.heap.size (by omega) (fun e => by cases e; omega)).trans hrs
  clear hop hcd hrs hgB hg
  cases hO : recRd xs p with
  | none =>
    rw [hO] at hn
    simp only at hn
    unfold Bad at hn
    subst hn
    have hc := at_cell hcd1
    have hf : w1.frozen? ⟨w.heap.size + 1, 0, none⟩ = false := blk_free hcd1 0
    refine leaves_cons (f := 97) (args := #[.pointer (some ⟨w.heap.size + 1, 0, none⟩)]) (by simp) (by simp [go_sem]) ?_
    refine (catchOp_panic ⟨w.heap.size + 1, 0, none⟩ 0 w1 hc hf).mono ?_
    rintro e u' w'' ⟨rfl, rfl, rfl⟩
    have hcell : (w1.setCell ⟨w.heap.size + 1, 0, none⟩ (.int .i64 3)).cell? ⟨w.heap.size + 1, 0, none⟩ = some (.int .i64 3) := World.cell?_setCell_same w1 _ _ hc
    have hg2 := grownBy_set w1 (w.heap.size + 1) 0 (.int .i64 3)
    have hrs2 := (hg2.block w.heap.size (by omega) (fun e => by injection e with e; omega)).trans hrs1
    have hres : w.grownBy (w1.setCell ⟨w.heap.size + 1, 0, none⟩ (.int .i64 3)) (some b) := own_writes hgw ⟨hg2.os, hg2.tape, hg2.output, hg2.size⟩ (fun k hk => hg2.block k (by omega) (fun e => by cases e; omega))
    have hrg : (w1.setCell ⟨w.heap.size + 1, 0, none⟩ (.int .i64 3)).rangeAt w.heap.size 0 ov0.cs := opBlk_range (x := ov0) hrs2
    have hld := run_loadVar_mid (P := Tryz.prog) _ w.heap.size 0 29 ov0.cs _ hrg Tryz.underlying29 rfl (infoOpB _)
    generalize w1.setCell ⟨w.heap.size + 1, 0, none⟩ (.int .i64 3) = w2 at hres hcell hld ⊢
    have hl3 : Sem.run Tryz.prog (loadVar 3 ⟨w.heap.size + 1, 0, none⟩) w2 = .ok (.int .i64 3) w2 := by simp [go_sem, hcell]
    simp [Leaves, settle, results, Tryz.results61, asAddr, hl3, hld]
    exact ⟨by unfold recA; rw [hO], hres⟩
  | some z =>
    obtain ⟨x, r⟩ := z
    rw [hO] at hn
    obtain ⟨ga, rfl, hlo, hhi, hrng, hth, hRr, hrl⟩ := hn
    rw [hsW] at hlo
    obtain ⟨cs, HCS⟩ : ∃ cs, Hid (Ov.cs { x with dv := .slice (some ⟨ga, 0, none⟩) 16 16 } = cs) := ⟨_, rfl⟩
    rw [HCS.out]
    have hlen : cs.length = 12 := by rw [← HCS.out]; rfl
    have hth1 : w1.there w.heap.size 0 cs.length := there_blk hrs1 (by rw [hlen]; simp)
    have hgs := grownBy_setCells w1 w.heap.size cs 0
    have hsz2 := hgs.size
    have hcd2 := (hgs.block (w.heap.size + 1) (by omega) (fun e => by injection e with e; omega)).trans hcd1
    have c5 : (w1.setCells w.heap.size 0 cs).cell? ⟨w.heap.size + 1, 0, none⟩ = some (.int .i64 0) := at_cell hcd2
    have f5 : (w1.setCells w.heap.size 0 cs).frozen? ⟨w.heap.size + 1, 0, none⟩ = false := blk_free hcd2 0
    have hrs2 : (w1.setCells w.heap.size 0 cs).rangeAt w.heap.size 0 cs := World.rangeAt_setCells_same _ _ _ _ hth1
    have hg3 := grownBy_set (w1.setCells w.heap.size 0 cs) (w.heap.size + 1) 0 (.int .i64 0)
    have hsz3 := hg3.size
    have hrs3 : ((w1.setCells w.heap.size 0 cs).setCell ⟨w.heap.size + 1, 0, none⟩ (.int .i64 0)).rangeAt w.heap.size 0 cs := fun j u hj => (World.cell?_of_block (w := w1.setCells w.heap.size 0 cs) (a := ⟨w.heap.size, 0 + j, none⟩) (hg3.block w.heap.size (by omega) (fun e => by injection e with e; omega))).trans (hrs2 j u hj)
    have HI1 : Hid ((Tryz.prog.info? 29).map (·.size) = some cs.length) := by rw [← HCS.out]; exact infoOpB _
    have HI2 : Hid ((Tryz.prog.info? 29).map (·.size) = some cs.toArray.size) := HI1
    have hone : cs.toArray.all (·.oneCell') = true := by rw [← HCS.out]; exact all_oneCell_toArray (cs_one _ rfl)
    have hld := run_loadVar_mid (P := Tryz.prog) _ w.heap.size 0 29 cs _ hrs3 Tryz.underlying29 rfl HI1.out
    have hcell : ((w1.setCells w.heap.size 0 cs).setCell ⟨w.heap.size + 1, 0, none⟩ (.int .i64 0)).cell? ⟨w.heap.size + 1, 0, none⟩ = some (.int .i64 0) := World.cell?_setCell_same _ _ _ c5
    have hga : ((w1.setCells w.heap.size 0 cs).setCell ⟨w.heap.size + 1, 0, none⟩ (.int .i64 0)).heap[ga]? = w1.heap[ga]? := (hg3.block ga (by omega) (fun e => by injection e with e; omega)).trans (hgs.block ga hhi (fun e => by injection e with e; omega))
    have HN : Hid (recA xs p b va w.heap.size (.returned (.tuple #[.agg cs.toArray, .int .i64 0])) ((w1.setCells w.heap.size 0 cs).setCell ⟨w.heap.size + 1, 0, none⟩ (.int .i64 0)) ∧ w.grownBy ((w1.setCells w.heap.size 0 cs).setCell ⟨w.heap.size + 1, 0, none⟩ (.int .i64 0)) (some b)) := by
      unfold Hid
      unfold recA
      rw [hO]
      refine ⟨⟨ga, by rw [← HCS.out], by omega, by omega, fun j u hj => (World.cell?_of_block (w := w1) (a := ⟨ga, 0 + j, none⟩) hga).trans (hrng j u hj), there_block hth hga, ((hg3.block b (by omega) (fun e => by injection e with e; omega)).trans (hgs.block b (by omega) (fun e => by injection e with e; omega))).trans hRr, hrl⟩, own_writes hgw ⟨hg3.os.trans hgs.os, hg3.tape.trans hgs.tape, hg3.output.trans hgs.output, by omega⟩ (fun k hk => (hg3.block k (by omega) (fun e => by injection e with e; omega)).trans (hgs.block k (by omega) (fun e => by injection e with e; omega)))⟩
    have HLD : Hid _ := hld
    have HCE : Hid _ := hcell
    have hth' : w1.there w.heap.size 0 cs.toArray.size := hth1
    clear hld hcell hga hrs3 hg3 hrs2 hcd2 hgs hth1 hlen hrng hth hcd1 hrs1 hgw
    go_wp2_with (first | (refine wpList_store_mid rfl 29 _ _ rfl w.heap.size 0 cs.toArray rfl rfl hth' HI2.out hone ?_))
    refine leaves_cons (f := 97) (args := #[.pointer (some ⟨w.heap.size + 1, 0, none⟩)]) (by simp) (by simp [go_sem]) ?_
    refine (catchOp_idle ⟨w.heap.size + 1, 0, none⟩ _).mono ?_
    rintro e u' w'' ⟨rfl, rfl, rfl⟩
    have hld := HLD.out
    have hcell := HCE.out
    have HN2 := HN.out
    generalize ((w1.setCells w.heap.size 0 cs).setCell ⟨w.heap.size + 1, 0, none⟩ (.int .i64 0)) = w2 at hld hcell HN2 ⊢
    have hl3 : Sem.run Tryz.prog (loadVar 3 ⟨w.heap.size + 1, 0, none⟩) w2 = .ok (.int .i64 0) w2 := by simp [go_sem, hcell]
    simp [Leaves, settle, results, Tryz.results61, asAddr, hl3, hld]
    exact HN2
end Go.Proofs.YtmmkmkaannlkhaaGreatDoor
