/- The code's recordAt. -/
import Derived.Test.YtmmkmkaannlkhaaGreatDoorQReadRecToAttemptRec
namespace Go.Proofs.YtmmkmkaannlkhaaGreatDoor
open Go.RowKit Go.Lib
set_option linter.unusedVariables false

/-- An answer of attempt with a record, opened. -/
theorem recA_open {xs : List Int} {p b : Nat} {va : Value} {N : Nat} {e : Ending} {w' : World} (h : recA xs p b va N e w') : ∃ y c, e = .returned (.tuple #[.agg (Ov.cs y).toArray, .int .i64 c]) ∧ (∃ da dl dk, y.dv = .slice da dl dk) ∧ ((recRd xs p = none ∧ c = 3) ∨ (∃ x r ga, recRd xs p = some (x, r) ∧ c = 0 ∧ r ≤ xs.length ∧ Rdr w' b va r ∧ y = { x with dv := .slice (some ⟨ga, 0, none⟩) 16 16 } ∧ N ≤ ga ∧ ga < w'.heap.size ∧ w'.rangeAt ga 0 (x.ds.map (Value.int .i64)) ∧ w'.there ga 0 16)) := by
  unfold recA at h
  cases hO : recRd xs p with
  | none =>
    rw [hO] at h
    exact ⟨ov0, 3, h, ⟨_, _, _, rfl⟩, .inl ⟨rfl, rfl⟩⟩
  | some z =>
    obtain ⟨x, r⟩ := z
    rw [hO] at h
    obtain ⟨ga, he, hlo, hhi, hrng, hth, hRr, hrl⟩ := h
    exact ⟨_, 0, he, ⟨_, _, _, rfl⟩, .inr ⟨x, r, ga, rfl, rfl, hrl, hRr, rfl, hlo, hhi, hrng, hth⟩⟩

/-- What recordAt answers. -/
def ratA (xs : List Int) (p : Nat) (a : Addr) (N : Nat) (e : Ending) (w' : World) : Prop := match recRd xs p with
  | some (x, r) => ∃ ga, e = .returned (.tuple #[.agg (Ov.cs { x with dv := .slice (some ⟨ga, 0, none⟩) 16 16 }).toArray, .int .i64 (r : Int), .nilIface]) ∧ N ≤ ga ∧ ga < w'.heap.size ∧ w'.rangeAt ga 0 (x.ds.map (Value.int .i64)) ∧ w'.there ga 0 16 ∧ r ≤ xs.length
  | none => ∃ g, e = .returned (.tuple #[.agg (Ov.cs ov0).toArray, .int .i64 (p : Int), .iface 95 (.pointer (some ⟨g, 0, none⟩))]) ∧ N ≤ g ∧ w'.heap[g]? = some (.cells #[.int .i64 (p : Int), .iface 151 (.pointer (some a))] 97 (0, 0))

set_option maxHeartbeats 4000000 in
set_option maxRecDepth 100000 in
theorem recordAt_any (C p : Nat) (w : World) (v : Value) (xs : List Int) (a : Addr) (hx : Bytes xs) (hl : xs.length ≤ 1048576) (hp : p ≤ xs.length) (hC : C ≤ w.heap.size) (hr : Rd C w v (xs.map (Value.int .u8))) (hw0 : 0 < w.heap.size) (hgl : w.cell? ⟨0, 0, none⟩ = some (.iface 151 (.pointer (some a)))) :
    Calls Tryz.prog 39 #[v, .int .i64 (p : Int)] w fun e w' => ratA xs p a w.heap.size e w' ∧ Below w.heap.size w w' := by
  have hr0 := hr
  obtain ⟨ao, cap, rfl, hcap, hmax, hnil, hr⟩ := hr
  rw [List.length_map] at hr hr0 ⊢
  clear hr
  have s1 : (w.alloc (.cells #[.int .i64 0, .int .i64 0, .int .i64 0, .slice none 0 0, .int .i64 0, .int .i64 0, .int .i64 0, .int .i64 0, .int .i64 0, .int .i64 0, .string ⟨#[]⟩, .string ⟨#[]⟩] 29)).heap.size = w.heap.size + 1 := World.size_alloc _ _
  have s2 : ((w.alloc (.cells #[.int .i64 0, .int .i64 0, .int .i64 0, .slice none 0 0, .int .i64 0, .int .i64 0, .int .i64 0, .int .i64 0, .int .i64 0, .int .i64 0, .string ⟨#[]⟩, .string ⟨#[]⟩] 29)).alloc (.cells #[.slice ao xs.length cap, .int .i64 (p : Int)] 90)).heap.size = w.heap.size + 2 := by rw [World.size_alloc, s1]
  have b1 := below_alloc w (.cells #[.int .i64 0, .int .i64 0, .int .i64 0, .slice none 0 0, .int .i64 0, .int .i64 0, .int .i64 0, .int .i64 0, .int .i64 0, .int .i64 0, .string ⟨#[]⟩, .string ⟨#[]⟩] 29)
  have b2 := below_alloc (w.alloc (.cells #[.int .i64 0, .int .i64 0, .int .i64 0, .slice none 0 0, .int .i64 0, .int .i64 0, .int .i64 0, .int .i64 0, .int .i64 0, .int .i64 0, .string ⟨#[]⟩, .string ⟨#[]⟩] 29)) (.cells #[.slice ao xs.length cap, .int .i64 (p : Int)] 90)
  have n1 := heap_alloc_new w (.cells #[.int .i64 0, .int .i64 0, .int .i64 0, .slice none 0 0, .int .i64 0, .int .i64 0, .int .i64 0, .int .i64 0, .int .i64 0, .int .i64 0, .string ⟨#[]⟩, .string ⟨#[]⟩] 29)
  have n2 := heap_alloc_new (w.alloc (.cells #[.int .i64 0, .int .i64 0, .int .i64 0, .slice none 0 0, .int .i64 0, .int .i64 0, .int .i64 0, .int .i64 0, .int .i64 0, .int .i64 0, .string ⟨#[]⟩, .string ⟨#[]⟩] 29)) (.cells #[.slice ao xs.length cap, .int .i64 (p : Int)] 90)
  rw [s1] at n2 b2
  have hB0 : Below w.heap.size w ((w.alloc (.cells #[.int .i64 0, .int .i64 0, .int .i64 0, .slice none 0 0, .int .i64 0, .int .i64 0, .int .i64 0, .int .i64 0, .int .i64 0, .int .i64 0, .string ⟨#[]⟩, .string ⟨#[]⟩] 29)).alloc (.cells #[.slice ao xs.length cap, .int .i64 (p : Int)] 90)) := b1.trans (b2.mono (by omega))
  have k1 := (b2.block w.heap.size (by omega)).trans n1
  have hc := attemptRec_any C (w.heap.size + 1) p ((w.alloc (.cells #[.int .i64 0, .int .i64 0, .int .i64 0, .slice none 0 0, .int .i64 0, .int .i64 0, .int .i64 0, .int .i64 0, .int .i64 0, .int .i64 0, .string ⟨#[]⟩, .string ⟨#[]⟩] 29)).alloc (.cells #[.slice ao xs.length cap, .int .i64 (p : Int)] 90)) (.slice ao xs.length cap) xs hx hl hp (by omega) (by omega) (hr0.below (hB0.mono hC)) n2
  rw [s2] at hc
  clear n1 n2 b1 b2 s1 hr0
  go_enter Tryz.func39, Tryz.ntmps39
  go_wp2_with fail
  refine hc.mono ?_
  rintro e w1 ⟨hn, hg⟩
  have hsz := hg.size
  rw [s2] at hsz
  have hres := (hg.block w.heap.size (by omega) (fun e => by injection e with e; omega)).trans k1
  have hb1 : Below w.heap.size w w1 := hB0.grown hg (by omega) (fun k hk => by cases hk; omega)
  have hgl1 : w1.cell? ⟨0, 0, none⟩ = some (.iface 151 (.pointer (some a))) := (hb1.cell (p := ⟨0, 0, none⟩) hw0).trans hgl
  clear hc hg k1 hB0 s2
  obtain ⟨y, c, he, ⟨da, dl, dk, hdv⟩, hoc⟩ := recA_open hn
  clear hn
  obtain ⟨ya, yb, yt, yd, yk, yo, yn, yu, ypt, ypa, yky, ytx, yds⟩ := y
  have hdv2 : yd = .slice da dl dk := hdv
  clear hdv
  subst hdv2
  have he2 : e = .returned (.tuple #[.agg #[.int .i64 ya, .int .i64 yb, .int .i64 yt, .slice da dl dk, .int .i64 yk, .int .i64 yo, .int .i64 yn, .int .i64 yu, .int .i64 ypt, .int .i64 ypa, .string yky, .string ytx], .int .i64 c]) := he
  clear he
  subst he2
  have hb3 := below_alloc w1 (.cells #[.int .i64 ya, .int .i64 yb, .int .i64 yt, .slice da dl dk, .int .i64 yk, .int .i64 yo, .int .i64 yn, .int .i64 yu, .int .i64 ypt, .int .i64 ypa, .string yky, .string ytx] 29)
  have hbox : (w1.alloc (.cells #[.int .i64 ya, .int .i64 yb, .int .i64 yt, .slice da dl dk, .int .i64 yk, .int .i64 yo, .int .i64 yn, .int .i64 yu, .int .i64 ypt, .int .i64 ypa, .string yky, .string ytx] 29)).heap[w1.heap.size]? = some (.cells #[.int .i64 ya, .int .i64 yb, .int .i64 yt, .slice da dl dk, .int .i64 yk, .int .i64 yo, .int .i64 yn, .int .i64 yu, .int .i64 ypt, .int .i64 ypa, .string yky, .string ytx] 29 (0, 0)) := heap_alloc_new w1 _
  have hs3 : (w1.alloc (.cells #[.int .i64 ya, .int .i64 yb, .int .i64 yt, .slice da dl dk, .int .i64 yk, .int .i64 yo, .int .i64 yn, .int .i64 yu, .int .i64 ypt, .int .i64 ypa, .string yky, .string ytx] 29)).heap.size = w1.heap.size + 1 := World.size_alloc _ _
  have hres3 := (hb3.block w.heap.size (by omega)).trans hres
  have hgl3 : (w1.alloc (.cells #[.int .i64 ya, .int .i64 yb, .int .i64 yt, .slice da dl dk, .int .i64 yk, .int .i64 yo, .int .i64 yn, .int .i64 yu, .int .i64 ypt, .int .i64 ypa, .string yky, .string ytx] 29)).cell? ⟨0, 0, none⟩ = some (.iface 151 (.pointer (some a))) := (hb3.cell (p := ⟨0, 0, none⟩) (by show 0 < w1.heap.size; omega)).trans hgl1
  have hB3 : Below w.heap.size w (w1.alloc (.cells #[.int .i64 ya, .int .i64 yb, .int .i64 yt, .slice da dl dk, .int .i64 yk, .int .i64 yo, .int .i64 yn, .int .i64 yu, .int .i64 ypt, .int .i64 ypa, .string yky, .string ytx] 29)) := hb1.trans (hb3.mono (by omega))
  go_upto_region 3 with fail
  clear hgl1 hres hb1
  generalize (w1.alloc (.cells #[.int .i64 ya, .int .i64 yb, .int .i64 yt, .slice da dl dk, .int .i64 yk, .int .i64 yo, .int .i64 yn, .int .i64 yu, .int .i64 ypt, .int .i64 ypa, .string yky, .string ytx] 29)) = w3 at *
  rcases hoc with ⟨ho, rfl⟩ | ⟨x, r, ga, ho, rfl, hrl, hRr, hyx, hlo, hhi, hrng, hth⟩
  · go_wp2_with fail
    have hth1 : w3.drew.there w.heap.size 0 ov0.cs.length := there_blk (w := w3) hres3 (by simp [Ov.cs])
    have hgd : w3.drew.cell? ⟨0, 0, none⟩ = some (.iface 151 (.pointer (some a))) := hgl3
    have hBd := hB3.drew
    have hsz3 : w3.drew.heap.size = w1.heap.size + 1 := hs3
    clear hbox hres3 hgl3 hB3 hb3 hs3
    refine wp_region_held_drew (S := fun w' => w'.cell? ⟨0, 0, none⟩ = some (.iface 151 (.pointer (some a)))) (by kernel_rfl) hgd (fun hHeld => ?_)
    generalize w3.drew = w4 at *
    refine tkH 0 (.agg #[.int .i64 0, .int .i64 0, .int .i64 0, .slice none 0 0, .int .i64 0, .int .i64 0, .int .i64 0, .int .i64 0, .int .i64 0, .int .i64 0, .string ⟨#[]⟩, .string ⟨#[]⟩]) rfl (Or.inl ⟨by kernel_rfl, by intro w hSw; clear hSw; go_simp⟩) hHeld ?_
    simp only [tkS, Act.put]
    refine tkH 1 (.int .i64 (p : Int)) rfl (Or.inl ⟨by kernel_rfl, by intro w hSw; clear hSw; go_simp⟩) hHeld ?_
    simp only [tkS, Act.put]
    refine tkH 2 (.int .i64 (p : Int)) rfl (Or.inl ⟨by kernel_rfl, by intro w hSw; clear hSw; go_simp⟩) hHeld ?_
    simp only [tkS, Act.put]
    refine tkH 3 (.iface 151 (.pointer (some a))) rfl (Or.inl ⟨by kernel_rfl, by intro w hSw; have s0 := hSw; go_simp⟩) hHeld ?_
    simp only [tkS, Act.put]
    refine tkH 4 (.agg #[.int .i64 (p : Int), .iface 151 (.pointer (some a))]) rfl (Or.inl ⟨by kernel_rfl, by intro w hSw; clear hSw; go_simp⟩) hHeld ?_
    simp only [tkS, Act.put]
    have hgs := grownBy_setCells w4 w.heap.size ov0.cs 0
    have hba := below_alloc w4 (.cells #[.int .i64 (p : Int), .iface 151 (.pointer (some a))] 97)
    have hna := heap_alloc_new w4 (.cells #[.int .i64 (p : Int), .iface 151 (.pointer (some a))] 97)
    refine wpAnyH_ready (rs := [5, 7]) (by kernel_rfl) (by simp) ?_
    refine AllReadyH.cons rfl (fun K hK => ?wayA) (AllReadyH.cons rfl (fun K hK => ?wayB) AllReadyH.nil)
    case wayA =>
      rw [if_pos (by kernel_rfl)]
      go_simp
      refine hK.out _ _ ((hba.cell (p := ⟨0, 0, none⟩) (by show 0 < w4.heap.size; omega)).trans hHeld) (fun hH2 => ?_)
      clear hK K
      have hth2 := there_block hth1 (hba.block w.heap.size (by omega))
      have hs5 : (w4.alloc (.cells #[.int .i64 (p : Int), .iface 151 (.pointer (some a))] 97)).heap.size = w4.heap.size + 1 := World.size_alloc _ _
      have hB5 : Below w.heap.size w (w4.alloc (.cells #[.int .i64 (p : Int), .iface 151 (.pointer (some a))] 97)) := hBd.trans (hba.mono (by omega))
      clear hgs
      generalize w4.alloc (.cells #[.int .i64 (p : Int), .iface 151 (.pointer (some a))] 97) = w5 at *
      refine tkH 6 (.iface 95 (.pointer (some ⟨w4.heap.size, 0, none⟩))) rfl (Or.inl ⟨by kernel_rfl, by intro w hSw; clear hSw; go_simp⟩) hH2 ?_
      simp only [tkS, Act.put]
      refine wpAnyH_ready (rs := [7]) (by kernel_rfl) (by simp) ?_
      refine AllReadyH.cons rfl (fun K hK => ?_) AllReadyH.nil
      rw [if_pos (by kernel_rfl)]
      refine wp_store_mid 29 _ _ rfl w.heap.size 0 ov0.cs.toArray rfl rfl hth2 (infoOpB _) (all_oneCell_toArray (cs_one _ rfl)) ?_
      have hgs := grownBy_setCells w5 w.heap.size ov0.cs 0
      refine hK.out _ _ ((World.cell?_of_block (w := w5) (a := ⟨0, 0, none⟩) (hgs.block 0 (by omega) (fun e => by injection e with e; omega))).trans hH2) (fun hH9 => ?_)
      clear hK K
      have hrz : (w5.setCells w.heap.size 0 ov0.cs).rangeAt w.heap.size 0 ov0.cs := World.rangeAt_setCells_same w5 _ _ _ hth2
      have hrec := (hgs.block w4.heap.size (by omega) (fun e => by injection e with e; omega)).trans hna
      have hB9 : Below w.heap.size w (w5.setCells w.heap.size 0 ov0.cs) := below_cellsC (by omega) _ _ _ hB5
      clear hgs hth2
      generalize w5.setCells w.heap.size 0 ov0.cs = w9 at *
      refine tkH 8 (.int .i64 (p : Int)) rfl (Or.inl ⟨by kernel_rfl, by intro w hSw; clear hSw; go_simp⟩) hH9 ?_
      simp only [tkS, Act.put]
      refine tkH 9 (.iface 95 (.pointer (some ⟨w4.heap.size, 0, none⟩))) rfl (Or.inl ⟨by kernel_rfl, by intro w hSw; clear hSw; go_simp⟩) hH9 ?_
      simp only [tkS, Act.put]
      refine wpAnyH_done (by kernel_rfl) ?_ _
      have hld := run_loadVar_mid (P := Tryz.prog) w9 w.heap.size 0 29 ov0.cs _ hrz Tryz.underlying29 rfl (infoOpB _)
      have HF : Hid (ratA xs p a w.heap.size (.returned (.tuple #[.agg ov0.cs.toArray, .int .i64 (p : Int), .iface 95 (.pointer (some ⟨w4.heap.size, 0, none⟩))])) w9 ∧ Below w.heap.size w w9) := by
        unfold Hid ratA
        rw [ho]
        exact ⟨⟨w4.heap.size, rfl, by omega, hrec⟩, hB9⟩
      have HLD : Hid _ := hld
      clear hld hrz hrec hB9 hH9
      go_wp2_with fail
      have hld := HLD.out
      exact bodyPost_ret (v := .tuple #[.agg ov0.cs.toArray, .int .i64 (p : Int), .iface 95 (.pointer (some ⟨w4.heap.size, 0, none⟩))]) (by simp [results, Tryz.results39, asAddr, hld]) rfl HF.out
    case wayB =>
      rw [if_pos (by kernel_rfl)]
      refine wp_store_mid 29 _ _ rfl w.heap.size 0 ov0.cs.toArray rfl rfl hth1 (infoOpB _) (all_oneCell_toArray (cs_one _ rfl)) ?_
      refine hK.out _ _ ((World.cell?_of_block (w := w4) (a := ⟨0, 0, none⟩) (hgs.block 0 (by omega) (fun e => by injection e with e; omega))).trans hHeld) (fun hH2 => ?_)
      clear hK K hba hna
      have hrz5 : (w4.setCells w.heap.size 0 ov0.cs).rangeAt w.heap.size 0 ov0.cs := World.rangeAt_setCells_same w4 _ _ _ hth1
      have hB5 : Below w.heap.size w (w4.setCells w.heap.size 0 ov0.cs) := below_cellsC (by omega) _ _ _ hBd
      have hs5 := hgs.size
      clear hgs hth1
      generalize w4.setCells w.heap.size 0 ov0.cs = w5 at *
      have hba := below_alloc w5 (.cells #[.int .i64 (p : Int), .iface 151 (.pointer (some a))] 97)
      have hrec := heap_alloc_new w5 (.cells #[.int .i64 (p : Int), .iface 151 (.pointer (some a))] 97)
      refine tkH 8 (.int .i64 (p : Int)) rfl (Or.inl ⟨by kernel_rfl, by intro w hSw; clear hSw; go_simp⟩) hH2 ?_
      simp only [tkS, Act.put]
      refine wpAnyH_ready (rs := [5]) (by kernel_rfl) (by simp) ?_
      refine AllReadyH.cons rfl (fun K hK => ?_) AllReadyH.nil
      rw [if_pos (by kernel_rfl)]
      go_simp
      refine hK.out _ _ ((hba.cell (p := ⟨0, 0, none⟩) (by show 0 < w5.heap.size; omega)).trans hH2) (fun hH9 => ?_)
      clear hK K
      have hrz : (w5.alloc (.cells #[.int .i64 (p : Int), .iface 151 (.pointer (some a))] 97)).rangeAt w.heap.size 0 ov0.cs := fun j u hj => (hba.cell (p := ⟨w.heap.size, 0 + j, none⟩) (by show w.heap.size < w5.heap.size; omega)).trans (hrz5 j u hj)
      have hB9 : Below w.heap.size w (w5.alloc (.cells #[.int .i64 (p : Int), .iface 151 (.pointer (some a))] 97)) := hB5.trans (hba.mono (by omega))
      clear hba hrz5
      generalize w5.alloc (.cells #[.int .i64 (p : Int), .iface 151 (.pointer (some a))] 97) = w9 at *
      refine tkH 6 (.iface 95 (.pointer (some ⟨w5.heap.size, 0, none⟩))) rfl (Or.inl ⟨by kernel_rfl, by intro w hSw; clear hSw; go_simp⟩) hH9 ?_
      simp only [tkS, Act.put]
      refine tkH 9 (.iface 95 (.pointer (some ⟨w5.heap.size, 0, none⟩))) rfl (Or.inl ⟨by kernel_rfl, by intro w hSw; clear hSw; go_simp⟩) hH9 ?_
      simp only [tkS, Act.put]
      refine wpAnyH_done (by kernel_rfl) ?_ _
      have hld := run_loadVar_mid (P := Tryz.prog) w9 w.heap.size 0 29 ov0.cs _ hrz Tryz.underlying29 rfl (infoOpB _)
      have HF : Hid (ratA xs p a w.heap.size (.returned (.tuple #[.agg ov0.cs.toArray, .int .i64 (p : Int), .iface 95 (.pointer (some ⟨w5.heap.size, 0, none⟩))])) w9 ∧ Below w.heap.size w w9) := by
        unfold Hid ratA
        rw [ho]
        exact ⟨⟨w5.heap.size, rfl, by omega, hrec⟩, hB9⟩
      have HLD : Hid _ := hld
      clear hld hrz hrec hB9 hH9
      go_wp2_with fail
      have hld := HLD.out
      exact bodyPost_ret (v := .tuple #[.agg ov0.cs.toArray, .int .i64 (p : Int), .iface 95 (.pointer (some ⟨w5.heap.size, 0, none⟩))]) (by simp [results, Tryz.results39, asAddr, hld]) rfl HF.out
  · have hR3 : Rdr w3 (w.heap.size + 1) (.slice ao xs.length cap) r := (hb3.block (w.heap.size + 1) (by omega)).trans hRr
    have r1 := hR3.c1
    go_wp2_with fail
    obtain ⟨cs, HCS⟩ : ∃ cs, Hid (Ov.cs (⟨ya, yb, yt, .slice da dl dk, yk, yo, yn, yu, ypt, ypa, yky, ytx, yds⟩ : Ov) = cs) := ⟨_, rfl⟩
    have hrg : w3.drew.rangeAt w1.heap.size 0 cs := by
      have := opBlk_range (W := w3) (x := (⟨ya, yb, yt, .slice da dl dk, yk, yo, yn, yu, ypt, ypa, yky, ytx, yds⟩ : Ov)) hbox
      rw [← HCS.out]
      exact this
    have hlen : cs.length = 12 := by rw [← HCS.out]; rfl
    have HI1 : Hid ((Tryz.prog.info? 29).map (·.size) = some cs.length) := by rw [← HCS.out]; exact infoOpB _
    have HI2 : Hid ((Tryz.prog.info? 29).map (·.size) = some cs.toArray.size) := HI1
    have hone : cs.toArray.all (·.oneCell') = true := by rw [← HCS.out]; exact all_oneCell_toArray (cs_one _ rfl)
    have hth1 : w3.drew.there w.heap.size 0 cs.length := there_blk (w := w3) hres3 (by rw [hlen]; simp)
    have r1d : w3.drew.cell? ⟨w.heap.size + 1, 1, none⟩ = some (.int .i64 (r : Int)) := r1
    have hBd := hB3.drew
    have hsz3 : w3.drew.heap.size = w1.heap.size + 1 := hs3
    have hb3d : Below w1.heap.size w1 w3.drew := hb3.drew
    have HYX : Hid (Ov.cs { x with dv := .slice (some ⟨ga, 0, none⟩) 16 16 } = cs) := by unfold Hid; rw [← HCS.out, hyx]
    clear hlen hbox hres3 hgl3 r1 hR3 hB3 HCS hb3 hs3 hRr hyx
    refine wp_region_held_drew (S := fun w' => w'.rangeAt w1.heap.size 0 cs ∧ w'.cell? ⟨w.heap.size + 1, 1, none⟩ = some (.int .i64 (r : Int))) (by kernel_rfl) ⟨hrg, r1d⟩ (fun hHeld => ?_)
    generalize w3.drew = w4 at *
    refine wpAnyH_take (i := 0) (v := .agg cs.toArray) rfl (by kernel_rfl) (by kernel_rfl) (by kernel_rfl) (fun _ _ _ h => h) (yieldsIf_load_mid rfl _ _ rfl w1.heap.size 0 rfl cs _ (fun w h => h.1) Tryz.underlying29 rfl HI1.out) hHeld ?_
    simp only [tkS, Act.put]
    refine tkH 1 (.pointer (some ⟨w.heap.size + 1, 0, none⟩)) rfl (Or.inl ⟨by kernel_rfl, by intro w hSw; clear hSw; go_simp⟩) hHeld ?_
    simp only [tkS, Act.put]
    refine tkH 2 (.pointer (some ⟨w.heap.size + 1, 0, none⟩)) rfl (Or.inl ⟨by kernel_rfl, by intro w hSw; clear hSw; go_simp⟩) hHeld ?_
    simp only [tkS, Act.put]
    refine tkH 3 (.pointer (some ⟨w.heap.size + 1, 1, none⟩)) rfl (Or.inl ⟨by kernel_rfl, by intro w hSw; clear hSw; go_simp⟩) hHeld ?_
    simp only [tkS, Act.put]
    refine tkH 4 (.int .i64 (r : Int)) rfl (Or.inl ⟨by kernel_rfl, by intro w hSw; have s0 := hSw.2; go_simp⟩) hHeld ?_
    simp only [tkS, Act.put]
    refine wpAnyH_ready (rs := [5]) (by kernel_rfl) (by simp) ?_
    refine AllReadyH.cons rfl (fun K hK => ?_) AllReadyH.nil
    rw [if_pos (by kernel_rfl)]
    refine wp_store_mid 29 _ _ rfl w.heap.size 0 cs.toArray rfl rfl hth1 HI2.out hone ?_
    have hgs := grownBy_setCells w4 w.heap.size cs 0
    refine hK.out _ _ ⟨World.rangeAt_setCells_apart hHeld.1 _ _ _ (.inl (by omega)), (World.cell?_of_block (w := w4) (a := ⟨w.heap.size + 1, 1, none⟩) (hgs.block (w.heap.size + 1) (by omega) (fun e => by injection e with e; omega))).trans hHeld.2⟩ (fun hHeld2 => ?_)
    clear hK K
    generalize hw5 : w4.setCells w.heap.size 0 cs = w5 at *
    refine tkH 6 (.int .i64 (r : Int)) rfl (Or.inl ⟨by kernel_rfl, by intro w hSw; clear hSw; go_simp⟩) hHeld2 ?_
    simp only [tkS, Act.put]
    refine tkH 7 .nilIface rfl (Or.inl ⟨by kernel_rfl, by intro w hSw; clear hSw; go_simp⟩) hHeld2 ?_
    simp only [tkS, Act.put]
    refine wpAnyH_done (by kernel_rfl) ?_ _
    have hld := run_loadVar_mid (P := Tryz.prog) _ w.heap.size 0 29 cs _ (World.rangeAt_setCells_same w4 _ _ _ hth1) Tryz.underlying29 rfl HI1.out
    rw [hw5] at hld
    have HF : Hid (ratA xs p a w.heap.size (.returned (.tuple #[.agg cs.toArray, .int .i64 (r : Int), .nilIface])) w5 ∧ Below w.heap.size w w5) := by
      have hszf := hgs.size
      have hga : w5.heap[ga]? = w1.heap[ga]? := (hgs.block ga (by omega) (fun e => by injection e with e; omega)).trans (hb3d.block ga hhi)
      unfold Hid ratA
      rw [ho]
      refine ⟨⟨ga, by rw [← HYX.out], by omega, by omega, fun j u hj => (World.cell?_of_block (w := w1) (a := ⟨ga, 0 + j, none⟩) hga).trans (hrng j u hj), there_block hth hga, hrl⟩, ?_⟩
      rw [← hw5]
      exact below_cellsC (by omega) _ _ _ hBd
    have HLD : Hid _ := hld
    clear hgs hld hHeld2 hw5
    go_wp2_with fail
    have hld := HLD.out
    exact bodyPost_ret (v := .tuple #[.agg cs.toArray, .int .i64 (r : Int), .nilIface]) (by simp [results, Tryz.results39, asAddr, hld]) rfl HF.out

end Go.Proofs.YtmmkmkaannlkhaaGreatDoor
