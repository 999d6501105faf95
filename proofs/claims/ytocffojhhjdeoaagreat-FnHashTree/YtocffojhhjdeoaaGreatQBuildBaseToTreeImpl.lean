/- The code's build: the sums of a hash tree, level by level. The code's build: the sums of a hash tree, level by level. The code's sum: a node of a hash tree that was just made. The code's TreeSum. -/
import Derived.Test.YtocffojhhjdeoaaGreatQOpBytesSpecToLeafImpl
import Derived.Test.YtocffojhhjdeoaaGreatQOncePartsToOnceDo
import Derived.Test.YtocffojhhjdeoaaGreatQTakeKitToBigKit
import Derived.Test.YtocffojhhjdeoaaGreatQLedClosedToLogOKImpl
import Derived.Test.YtocffojhhjdeoaaGreatQInfoToSignSpec
import Derived.Test.YtocffojhhjdeoaaGreatQThereKit
namespace Go.Proofs.YtocffojhhjdeoaaGreat
open Go.RowKit
set_option linter.unusedVariables false

theorem infoU : (Tryz.prog.info? 60).map (fun i => (i.zero, i.size, i.bytes)) = some (some (.int .u32 0), 1, 4) := by kernel_rfl
/-- A making of sums, as a step of a region that draws its order. -/
theorem step_makeU {w : World} {ops : Array Oper} {o : Oper} {a : Act} {K : Act → World → Prop} {Q : Exit → Act → World → Prop} {E : Prop} (hgd : o.guard = none) (l c : Operand) (hop : o.op = Op.makeSlice 69 l c)
    (m : Nat) (hl : a.eval l = .int .i64 (m : Int)) (hc : a.eval c = .int .i64 (m : Int)) (hm : m ≤ 1048576)
    (hK : ∀ w', Own 60 w' w.heap.size (.slice (some ⟨w.heap.size, 0, none⟩) m m) (List.replicate m (.int .u32 0)) → w.grownBy w' none → K (a.put o.dst (.slice (some ⟨w.heap.size, 0, none⟩) m m)) w') : if Region.wanted o (yielded ops a.tmps) = true then Oper.wp Tryz.prog o a w K Q else E := by
  have hw : Region.wanted o (yielded ops a.tmps) = true := by simp [Region.wanted, hgd]
  rw [if_pos hw]
  obtain ⟨i0, hi, hz0, hz1, hz2⟩ := info_parts infoU
  obtain ⟨w', hrun, r1, r2⟩ := run_make_full (P := Tryz.prog) w w.heap.size 69 60 i0 (.int .u32 0) 1 Tryz.underlying69 hi hz0 hz1 .i64 .i64 m (by rw [hz2]; omega) (by unfold maxLen; omega) (Nat.le_refl _)
  unfold Oper.wp
  simp [execOp, hop, hl, hc, hrun, Result.andThen]
  have ho4 : Own 60 w' w.heap.size (.slice (some ⟨w.heap.size, 0, none⟩) m m) (madeCells #[Value.int .u32 0] (m * 1)).toList := own_of r1
  rw [toList_madeCells_one, Nat.mul_one] at ho4
  exact hK w' ho4 r2
/-- The sums of a level. -/
def lvl (own : List Ov) (i k : Nat) : List Value := (List.range k).map fun p => Value.int .u32 ((nodeN own i p : Nat) : Int)
/-- A hash tree in block b, its first l levels built. -/
structure Tb (w : World) (b B : Nat) (v : Value) (own : List Ov) (l : Nat) (gs : Nat → Nat) : Prop where
  blk : b < w.heap.size
  lt : b < B
  c0 : w.cell? ⟨b, 0, none⟩ = some (.int .u32 0)
  c1 : w.cell? ⟨b, 1, none⟩ = some (.int .i32 1)
  c3 : w.cell? ⟨b, 3, none⟩ = some v
  th : w.there b 0 13
  row : ∀ i, i < l → w.cell? ⟨b, 4 + i, none⟩ = some (.slice (some ⟨gs i, 0, none⟩) (2 ^ (8 - i)) (2 ^ (8 - i))) ∧ Own 60 w B (.slice (some ⟨gs i, 0, none⟩) (2 ^ (8 - i)) (2 ^ (8 - i))) (lvl own i (2 ^ (8 - i)))
theorem Tb.on {w w' : World} {b B l : Nat} {v : Value} {own : List Ov} {gs : Nat → Nat} (h : Tb w b B v own l gs) (hb : Below w.heap.size w w') : Tb w' b B v own l gs :=
  ⟨Nat.lt_of_lt_of_le h.blk hb.size, h.lt, (hb.cell (p := ⟨b, 0, none⟩) h.blk).trans h.c0, (hb.cell (p := ⟨b, 1, none⟩) h.blk).trans h.c1, (hb.cell (p := ⟨b, 3, none⟩) h.blk).trans h.c3, fun j hj => by
    have := h.th j hj
    rw [hb.cell (p := ⟨b, 0 + j, none⟩) h.blk]
    refine ⟨this.1, ?_⟩
    have e : w'.heap[b]? = w.heap[b]? := hb.block b h.blk
    have h2 := this.2
    simp only [World.frozen?] at h2 ⊢
    rw [e]
    exact h2, fun i hi => ⟨(hb.cell (p := ⟨b, 4 + i, none⟩) h.blk).trans (h.row i hi).1, (h.row i hi).2.below hb (Nat.le_refl _)⟩⟩
/-- A new level's slice is laid into the tree. -/
theorem Tb.put {w : World} {b B l : Nat} {v : Value} {own : List Ov} {gs : Nat → Nat} (h : Tb w b B v own l gs) (x : Value) (hl : l < 9) : Tb (w.setCell ⟨b, 4 + l, none⟩ x) b B v own l gs ∧ (w.setCell ⟨b, 4 + l, none⟩ x).cell? ⟨b, 4 + l, none⟩ = some x := by
  have other : ∀ o, o ≠ 4 + l → (w.setCell ⟨b, 4 + l, none⟩ x).cell? ⟨b, o, none⟩ = w.cell? ⟨b, o, none⟩ := fun o ho => by
    rw [World.cell?_setCell_other]
    intro e
    simp only [Addr.mk.injEq] at e
    omega
  refine ⟨⟨by rw [World.size_setCell]; exact h.blk, h.lt, (other 0 (by omega)).trans h.c0, (other 1 (by omega)).trans h.c1, (other 3 (by omega)).trans h.c3, World.there_setCells h.th b (4 + l) [x], fun i hi => ⟨(other (4 + i) (by omega)).trans (h.row i hi).1, (h.row i hi).2.apart (grownBy_set w b (4 + l) x) (fun k hk => by cases hk; exact h.lt)⟩⟩, ?_⟩
  have := h.th (4 + l) (by omega)
  rw [Nat.zero_add] at this
  obtain ⟨z, hz⟩ := Option.isSome_iff_exists.1 this.1
  exact World.cell?_setCell_same _ _ _ hz
end Go.Proofs.YtocffojhhjdeoaaGreat

namespace Go.Proofs.YtocffojhhjdeoaaGreat
open Go.RowKit
set_option linter.unusedVariables false

theorem pow_le8' : ∀ n, n ≤ 8 → 2 ^ n ≤ 256 := by
  intro n h
  have : 2 ^ n ≤ 2 ^ 8 := Nat.pow_le_pow_right (by omega) h
  omega
/-- A cell of another block is written. -/
theorem Tb.side {w : World} {b B l g k : Nat} {v u : Value} {own : List Ov} {gs : Nat → Nat} (h : Tb w b B v own l gs) (hg : g ≠ b) (hgs : ∀ i, i < l → gs i ≠ g) : Tb (w.setCell ⟨g, k, none⟩ u) b B v own l gs := by
  have other : ∀ o, (w.setCell ⟨g, k, none⟩ u).cell? ⟨b, o, none⟩ = w.cell? ⟨b, o, none⟩ := fun o => by
    rw [World.cell?_setCell_other]
    intro e
    simp only [Addr.mk.injEq] at e
    exact hg e.1
  refine ⟨by rw [World.size_setCell]; exact h.blk, h.lt, (other 0).trans h.c0, (other 1).trans h.c1, (other 3).trans h.c3, World.there_setCells h.th g k [u], fun i hi => ⟨(other (4 + i)).trans (h.row i hi).1, ?_⟩⟩
  obtain ⟨h1, h2⟩ := (h.row i hi).2
  refine ⟨h1, ?_⟩
  rcases h2 with h2 | ⟨g', cap', cur, hv, hb, hh, r⟩
  · exact .inl h2
  · refine .inr ⟨g', cap', cur, hv, hb, ?_, r⟩
    have e : g' = gs i := by
      simp only [Value.slice.injEq, Option.some.injEq, Addr.mk.injEq] at hv
      exact hv.1.1.symm
    rw [heap_setCell_other w ⟨g, k, none⟩ g' u (by rw [e]; exact hgs i hi)]
    exact hh
theorem Tb.more {w : World} {b B l g : Nat} {v : Value} {own : List Ov} {gs : Nat → Nat} (h : Tb w b B v own l gs) (hc : w.cell? ⟨b, 4 + l, none⟩ = some (.slice (some ⟨g, 0, none⟩) (2 ^ (8 - l)) (2 ^ (8 - l)))) (ho : Own 60 w B (.slice (some ⟨g, 0, none⟩) (2 ^ (8 - l)) (2 ^ (8 - l))) (lvl own l (2 ^ (8 - l)))) : Tb w b B v own (l + 1) (fun i => if i = l then g else gs i) :=
  ⟨h.blk, h.lt, h.c0, h.c1, h.c3, h.th, fun i hi => by
    by_cases e : i = l
    · subst e
      rw [if_pos rfl]
      exact ⟨hc, ho⟩
    · rw [if_neg e]
      exact h.row i (by omega)⟩
theorem lvl_step (own : List Ov) (l n k : Nat) (h : k < n) : (lvl own l k ++ List.replicate (n - k) (Value.int .u32 0)).set k (.int .u32 ((nodeN own l k : Nat) : Int)) = lvl own l (k + 1) ++ List.replicate (n - (k + 1)) (Value.int .u32 0) := by
  unfold lvl
  rw [List.range_succ, List.map_append, List.append_assoc, List.set_append_right _ _ (by simp), List.length_map, List.length_range, Nat.sub_self, show n - k = (n - (k + 1)) + 1 by omega, List.replicate_succ, List.set_cons_zero]
  rfl

set_option maxHeartbeats 8000000 in
set_option maxRecDepth 100000 in
theorem build_any (C b B : Nat) (v : Value) (own : List Ov) (w : World) (hT : Tb w b B v own 0 (fun _ => 0)) (hBw : B ≤ w.heap.size) (hCb : C ≤ b) (hr : RdO C w v own) (hl : own.length ≤ 1024) (hok : ∀ x ∈ own, x.ok = true) :
    Calls Tryz.prog 45 #[.pointer (some ⟨b, 0, none⟩)] w fun e w' => e = .returned (.tuple #[]) ∧ (∃ gs, Tb w' b B v own 9 gs) ∧ Below b w w' := by
  have HOK : Hid (∀ x ∈ own, x.ok = true) := hok
  have HRD : Hid (∀ wz, Below b w wz → RdO C wz v own) := fun wz hz => hr.below (hz.mono hCb)
  clear hok hr
  go_enter Tryz.func45, Tryz.ntmps45
  go_wp2_with fail
  go_loopw [4] (fun ti wr => ∃ (l : Nat) (gs : Nat → Nat), l ≤ 9 ∧ ti = .int .i64 (l : Int) ∧ Hid (Tb wr b B v own l gs) ∧ Below b w wr) (fun ti _ => 9 - (intOf ti).toNat)
  case atStart => exact ⟨0, _, Nat.zero_le _, rfl, hT, Below.refl _ _⟩
  case round =>
    clear hT
    obtain ⟨l, gs, hl9, rfl, HT, hbel⟩ := hrel
    have hsz := hbel.size
    by_cases hlt : l < 9
    · obtain ⟨wo, hwo⟩ : ∃ wo : World, wo = wr := ⟨_, rfl⟩
      subst hwo
      have hli : (l : Int) < 9 := by omega
      have hli0 : (0 : Int) ≤ (l : Int) := by omega
      have hna := nodesAt_any l (by omega) wo.drew
      obtain ⟨n, HN⟩ : ∃ n : Nat, Hid (2 ^ (8 - l) = n) := ⟨2 ^ (8 - l), rfl⟩
      have hn256 : n ≤ 256 := by
        rw [← HN.out]
        exact pow_le8' (8 - l) (by omega)
      rw [HN.out] at hna
      have hblk := HT.out.blk
      have hbB := HT.out.lt
      go_wp2_with fail
      go_cut [] from 7 to 14 (fun wx => ∃ g : Nat, Hid (Tb wx b B v own l gs) ∧ wx.cell? ⟨b, 4 + l, none⟩ = some (.slice (some ⟨g, 0, none⟩) n n) ∧ Own 60 wx B (.slice (some ⟨g, 0, none⟩) n n) (List.replicate n (.int .u32 0)) ∧ Below b w wx ∧ Hid (g ≠ b ∧ ∀ i, i < l → gs i ≠ g))
      case first =>
        refine wp_region_held_drew (S := fun _ => True) (by kernel_rfl) trivial (fun hS => ?_)
        refine wpAnyH_take (i := 0) (v := .pointer (some ⟨b, 0, none⟩)) rfl (by kernel_rfl) (by kernel_rfl) (by kernel_rfl) (fun _ _ _ h => h) (Or.inl ⟨by rfl, by intro w' hSw; go_simp⟩) hS ?_
        simp only [tkS, Act.put]
        refine wpAnyH_take (i := 1) (v := .int .i64 (l : Int)) rfl (by kernel_rfl) (by kernel_rfl) (by kernel_rfl) (fun _ _ _ h => h) (Or.inl ⟨by rfl, by intro w' hSw; go_simp⟩) hS ?_
        simp only [tkS, Act.put]
        refine wpAnyH_take (i := 2) (v := .int .i64 (l : Int)) rfl (by kernel_rfl) (by kernel_rfl) (by kernel_rfl) (fun _ _ _ h => h) (Or.inl ⟨by rfl, by intro w' hSw; go_simp⟩) hS ?_
        simp only [tkS, Act.put]
        refine wpAnyH_take (i := 5) (v := .pointer (some ⟨b, 0, none⟩)) rfl (by kernel_rfl) (by kernel_rfl) (by kernel_rfl) (fun _ _ _ h => h) (Or.inl ⟨by rfl, by intro w' hSw; go_simp⟩) hS ?_
        simp only [tkS, Act.put]
        refine wpAnyH_take (i := 6) (v := .pointer (some ⟨b, 4, none⟩)) rfl (by kernel_rfl) (by kernel_rfl) (by kernel_rfl) (fun _ _ _ h => h) (Or.inl ⟨by rfl, by intro w' hSw; go_simp⟩) hS ?_
        simp only [tkS, Act.put]
        refine wpAnyH_ready (rs := [3]) (by kernel_rfl) (by simp) ?_
        refine AllReadyH.cons rfl (fun K hK => ?_) AllReadyH.nil
        go_simp
        refine hna.mono ?_
        rintro e w3 ⟨rfl, hw3⟩
        obtain rfl := hw3.symm
        go_wp2_with fail
        refine hK.out _ _ trivial (fun hS => ?_)
        clear hK K
        refine wpAnyH_ready (rs := [4]) (by kernel_rfl) (by simp) ?_
        refine AllReadyH.cons rfl (fun K hK => ?_) AllReadyH.nil
        refine step_makeU rfl (.tmp 10) (.tmp 10) rfl n rfl rfl (by omega) ?_
        intro w4 ho4 hg4
        refine hK.out _ _ trivial (fun hS => ?_)
        clear hK K
        simp only [tkS, Act.put]
        refine wpAnyH_take (i := 7) (v := .pointer (some ⟨b, 4 + l, none⟩)) rfl (by kernel_rfl) (by kernel_rfl) (by kernel_rfl) (fun _ _ _ h => h) (Or.inl ⟨by rfl, by intro w' hSw; go_simp⟩) hS ?_
        simp only [tkS, Act.put]
        have hb4 : Below wo.heap.size wo w4 := (Below.refl wo.heap.size wo).drew.grown hg4 (Nat.le_refl _) (fun k hk => by cases hk)
        have HT4 : Hid (Tb w4 b B v own l gs) := HT.out.on hb4
        have hth := HT4.out.th (4 + l) (by omega)
        rw [Nat.zero_add] at hth
        obtain ⟨z4, hz4⟩ := Option.isSome_iff_exists.1 hth.1
        have hfz := hth.2
        have hput := HT4.out.put (.slice (some ⟨wo.heap.size, 0, none⟩) n n) hlt
        have HP1 : Hid _ := hput.1
        have hp2 := hput.2
        have hob : Own 60 (w4.setCell ⟨b, 4 + l, none⟩ (.slice (some ⟨wo.heap.size, 0, none⟩) n n)) B (.slice (some ⟨wo.heap.size, 0, none⟩) n n) (List.replicate n (.int .u32 0)) := (ho4.apart (grownBy_set w4 b (4 + l) _) (fun kk hk => by cases hk; exact hblk)).mono (by have : wo.drew.heap.size = wo.heap.size := rfl; omega)
        have hbb : Below b w (w4.setCell ⟨b, 4 + l, none⟩ (.slice (some ⟨wo.heap.size, 0, none⟩) n n)) := (hbel.trans (hb4.mono (by omega))).setCell (p := ⟨b, 4 + l, none⟩) (Nat.le_refl _) _
        have HGS : Hid (wo.heap.size ≠ b ∧ ∀ i, i < l → gs i ≠ wo.heap.size) := ⟨by omega, fun i hi => by have h := (World.ownsRow.lt (HT.out.row i hi).2 (gs i) rfl).2; omega⟩
        clear hput hth ho4 hg4
        refine wpAnyH_ready (rs := [8]) (by kernel_rfl) (by simp) ?_
        refine AllReadyH.cons rfl (fun K hK => ?_) AllReadyH.nil
        go_simp
        refine hK.out _ _ trivial (fun hS => ?_)
        clear hK K
        refine wpAnyH_done (by kernel_rfl) ?_ _
        go_wp2_with fail
        go_meet
        exact ⟨wo.heap.size, HP1.out, hp2, hob, hbb, HGS⟩
      case rest =>
        clear HT hbel hna
        obtain ⟨g, HT5, hc5, ho5, hb5, HG5⟩ := hcut
        have hs5 := hb5.size
        go_wp2_with fail
        go_loopw [22] (fun ti wr => ∃ k : Nat, k ≤ n ∧ ti = .int .i64 (k : Int) ∧ Hid (Tb wr b B v own l gs) ∧ wr.cell? ⟨b, 4 + l, none⟩ = some (.slice (some ⟨g, 0, none⟩) n n) ∧ Own 60 wr B (.slice (some ⟨g, 0, none⟩) n n) (lvl own l k ++ List.replicate (n - k) (Value.int .u32 0)) ∧ Below b w wr) (fun ti _ => n - (intOf ti).toNat)
        case atStart => exact ⟨0, Nat.zero_le _, rfl, HT5, hc5, ho5, hb5⟩
        case round =>
          clear HT5 hc5 ho5 hb5 hs5
          obtain ⟨k, hk, rfl, HT, hc, ho, hbel⟩ := hrel
          have hsz := hbel.size
          by_cases hltk : k < n
          · have ck := own_cell ho (k := k) (by simp [lvl]; omega)
            have fk := own_free ho k
            have R := own_set ho k (.int .u32 ((nodeN own l k : Nat) : Int))
            rw [lvl_step own l n k hltk] at R
            generalize HZ : (lvl own l k ++ List.replicate (n - k) (Value.int .u32 0))[k]'(by simp [lvl]; omega) = zk at ck
            clear HZ
            have hki : (k : Int) < (n : Int) := by omega
            have hki0 : (0 : Int) ≤ (k : Int) := by omega
            have hblkr := HT.out.blk
            have hgr : g < wr.heap.size := (World.ownsRow.lt ho g rfl).2
            by_cases hl0 : l = 0
            · have HL0 : Hid (nodeN own l k = leafN (leafOf own k)) := by
                unfold Hid
                rw [hl0]
                rfl
              have hl0d : (((l : Nat) : Int) == 0) = true := by simp [hl0]
              clear hl0
              have c3 := HT.out.c3
              have hleaf := leaf_any C b k v own wr.drew (by omega) hl c3 (HRD.out wr.drew hbel.drew)
              have S0 : wr.drew.cell? ⟨b, 4 + l, none⟩ = some (.slice (some ⟨g, 0, none⟩) n n) := hc
              clear c3
              go_wp2_with fail
              refine wp_region_held_drew (S := fun w' => w'.cell? ⟨b, 4 + l, none⟩ = some (.slice (some ⟨g, 0, none⟩) n n)) (by kernel_rfl) S0 (fun hS => ?_)
              refine wpAnyH_take (i := 0) (v := .pointer (some ⟨b, 0, none⟩)) rfl (by kernel_rfl) (by kernel_rfl) (by kernel_rfl) (fun _ _ _ h => h) (Or.inl ⟨by rfl, by intro w' hSw; go_simp⟩) hS ?_
              simp only [tkS, Act.put]
              refine wpAnyH_take (i := 1) (v := .int .i64 (l : Int)) rfl (by kernel_rfl) (by kernel_rfl) (by kernel_rfl) (fun _ _ _ h => h) (Or.inl ⟨by rfl, by intro w' hSw; go_simp⟩) hS ?_
              simp only [tkS, Act.put]
              refine wpAnyH_take (i := 2) (v := .pointer (some ⟨b, 0, none⟩)) rfl (by kernel_rfl) (by kernel_rfl) (by kernel_rfl) (fun _ _ _ h => h) (Or.inl ⟨by rfl, by intro w' hSw; go_simp⟩) hS ?_
              simp only [tkS, Act.put]
              refine wpAnyH_take (i := 3) (v := .pointer (some ⟨b, 4, none⟩)) rfl (by kernel_rfl) (by kernel_rfl) (by kernel_rfl) (fun _ _ _ h => h) (Or.inl ⟨by rfl, by intro w' hSw; go_simp⟩) hS ?_
              simp only [tkS, Act.put]
              refine wpAnyH_take (i := 4) (v := .pointer (some ⟨b, 4 + l, none⟩)) rfl (by kernel_rfl) (by kernel_rfl) (by kernel_rfl) (fun _ _ _ h => h) (Or.inl ⟨by rfl, by intro w' hSw; go_simp⟩) hS ?_
              simp only [tkS, Act.put]
              refine wpAnyH_take (i := 5) (v := .slice (some ⟨g, 0, none⟩) n n) rfl (by kernel_rfl) (by kernel_rfl) (by kernel_rfl) (fun _ _ _ h => h) (Or.inl ⟨by rfl, by intro w' hSw; have h1 := hSw; clear hSw; go_simp⟩) hS ?_
              simp only [tkS, Act.put]
              refine wpAnyH_take (i := 6) (v := .int .i64 (k : Int)) rfl (by kernel_rfl) (by kernel_rfl) (by kernel_rfl) (fun _ _ _ h => h) (Or.inl ⟨by rfl, by intro w' hSw; go_simp⟩) hS ?_
              simp only [tkS, Act.put]
              refine wpAnyH_take (i := 7) (v := .pointer (some ⟨b, 0, none⟩)) rfl (by kernel_rfl) (by kernel_rfl) (by kernel_rfl) (fun _ _ _ h => h) (Or.inl ⟨by rfl, by intro w' hSw; go_simp⟩) hS ?_
              simp only [tkS, Act.put]
              refine wpAnyH_take (i := 8) (v := .int .i64 (k : Int)) rfl (by kernel_rfl) (by kernel_rfl) (by kernel_rfl) (fun _ _ _ h => h) (Or.inl ⟨by rfl, by intro w' hSw; go_simp⟩) hS ?_
              simp only [tkS, Act.put]
              refine wpAnyH_ready (rs := [9]) (by kernel_rfl) (by simp) ?_
              refine AllReadyH.cons rfl (fun K hK => ?_) AllReadyH.nil
              go_simp
              refine hleaf.mono ?_
              rintro e w5 ⟨r5, rfl, hR5, q5, rfl⟩
              go_wp2_with fail
              refine hK.out _ _ hS (fun hS => ?_)
              clear hK K hleaf
              have hR6 : RdO C (wr.drewN (1 + q5)) r5 (leafOf own k) := by
                have h := hR5.below (below_drewN (Below.refl C wr.drew) q5)
                rwa [show wr.drew.drewN q5 = wr.drewN (1 + q5) by go_simp] at h
              have hls := leafSum_any C r5 (leafOf own k) (wr.drewN (1 + q5)) (by have : (wr.drewN (1 + q5)).heap.size = wr.heap.size := rfl; omega) hR6 (by unfold leafOf; rw [List.length_take]; omega) (fun x hx => HOK.out x (List.mem_of_mem_drop (List.mem_of_mem_take hx)))
              rw [← HL0.out] at hls
              clear hR5 hR6
              refine wpAnyH_ready (rs := [10]) (by kernel_rfl) (by simp) ?_
              refine AllReadyH.cons rfl (fun K hK => ?_) AllReadyH.nil
              go_simp
              refine hls.mono ?_
              rintro e w6 ⟨rfl, hb6⟩
              have hW6 : Below wr.heap.size wr w6 := below_seq (below_drewN (Below.refl wr.heap.size wr) (1 + q5)) hb6
              go_wp2_with fail
              refine hK.out _ _ ((hW6.cell (p := ⟨b, 4 + l, none⟩) hblkr).trans hc) (fun hS => ?_)
              clear hK K hls hb6
              have ck6 := (hW6.cell (p := ⟨g, k, none⟩) hgr).trans ck
              have fk6 : w6.frozen? ⟨g, k, none⟩ = false := by
                have e : w6.heap[g]? = wr.heap[g]? := hW6.block g hgr
                simp only [World.frozen?] at fk ⊢
                rw [e]
                exact fk
              refine wpAnyH_take (i := 11) (v := .pointer (some ⟨g, k, none⟩)) rfl (by kernel_rfl) (by kernel_rfl) (by kernel_rfl) (fun _ _ _ h => h) (Or.inl ⟨by rfl, by intro w' hSw; go_simp⟩) hS ?_
              simp only [tkS, Act.put]
              have ho6 := own_set (ho.below hW6 (Nat.le_refl _)) k (.int .u32 ((nodeN own l k : Nat) : Int))
              rw [lvl_step own l n k hltk] at ho6
              have HT6 : Hid (Tb (w6.setCell ⟨g, k, none⟩ (.int .u32 ((nodeN own l k : Nat) : Int))) b B v own l gs) := (HT.out.on hW6).side HG5.out.1 HG5.out.2
              have hc6 : (w6.setCell ⟨g, k, none⟩ (.int .u32 ((nodeN own l k : Nat) : Int))).cell? ⟨b, 4 + l, none⟩ = some (.slice (some ⟨g, 0, none⟩) n n) := (World.cell?_setCell_other _ _ _ _ (by intro e; simp only [Addr.mk.injEq] at e; exact HG5.out.1 e.1)).trans hS
              have hbg : b ≤ g := by have := own_lt ho; omega
              have hb7 : Below b w (w6.setCell ⟨g, k, none⟩ (.int .u32 ((nodeN own l k : Nat) : Int))) := (hbel.trans (hW6.mono (by omega))).setCell (p := ⟨g, k, none⟩) hbg _
              clear R ho ck fk
              refine wpAnyH_ready (rs := [12]) (by kernel_rfl) (by simp) ?_
              refine AllReadyH.cons rfl (fun K hK => ?_) AllReadyH.nil
              go_simp
              refine hK.out _ _ hc6 (fun hS => ?_)
              clear hK K
              refine wpAnyH_done (by kernel_rfl) ?_ _
              clear ck6 fk6 hS
              go_wp2_with fail
              go_roundw
              case rel => exact ⟨k + 1, by omega, by go_num, HT6, hc6, ho6, hb7⟩
              case measure => simp [intOf]; omega
            · obtain ⟨m, HM⟩ : ∃ m : Nat, Hid (l = m + 1) := ⟨l - 1, by unfold Hid; omega⟩
              have hl0d : (((l : Nat) : Int) == 0) = false := by simp; omega
              have hlm : ((l : Nat) : Int) - 1 = (m : Int) := by have := HM.out; omega
              obtain ⟨hcm, hom⟩ := HT.out.row m (by have := HM.out; omega)
              obtain ⟨n2, HN2⟩ : ∃ n2 : Nat, Hid (2 ^ (8 - m) = n2 ∧ n2 = 2 * n) := ⟨2 ^ (8 - m), rfl, by
                rw [← HN.out, show 8 - m = (8 - l) + 1 by have := HM.out; omega, Nat.pow_succ, Nat.mul_comm]⟩
              rw [HN2.out.1] at hcm hom
              have hn2 : n2 = 2 * n := HN2.out.2
              have hx0 := own_cell hom (k := 2 * k) (by simp [lvl]; omega)
              have hy0 := own_cell hom (k := 2 * k + 1) (by simp [lvl]; omega)
              have hx : wr.cell? ⟨gs m, 2 * k, none⟩ = some (.int .u32 ((nodeN own m (2 * k) : Nat) : Int)) := by rw [hx0]; simp [lvl]
              have hy : wr.cell? ⟨gs m, 2 * k + 1, none⟩ = some (.int .u32 ((nodeN own m (2 * k + 1) : Nat) : Int)) := by rw [hy0]; simp [lvl]
              have HL0 : Hid (nodeN own l k = overN (nodeN own m (2 * k)) (nodeN own m (2 * k + 1))) := by
                unfold Hid
                rw [HM.out]
                rfl
              have hgmr : gs m < wr.heap.size := (World.ownsRow.lt hom (gs m) rfl).2
              have HGM : Hid (gs m ≠ g) := HG5.out.2 m (by have := HM.out; omega)
              have hns := nodeSum_any (nodeN own m (2 * k)) (nodeN own m (2 * k + 1)) (nodeN_lt _ _ _) (nodeN_lt _ _ _) wr.drew
              rw [← HL0.out] at hns
              generalize nodeN own m (2 * k) = X at hx hns
              generalize nodeN own m (2 * k + 1) = Y at hy hns
              have i1 : (2 : Int) * (k : Int) < (n2 : Int) := by omega
              have i2 : (2 : Int) * (k : Int) + 1 < (n2 : Int) := by omega
              have i3 : (0 : Int) ≤ 2 * (k : Int) := by omega
              have i4 : (0 : Int) ≤ 2 * (k : Int) + 1 := by omega
              have i5 : ((2 : Int) * (k : Int)).toNat = 2 * k := by omega
              have i6 : ((2 : Int) * (k : Int) + 1).toNat = 2 * k + 1 := by omega
              have m1 : (0 : Int) ≤ (m : Int) := by omega
              have m2 : (m : Int) < 9 := by omega
              have S0 : wr.drew.cell? ⟨b, 4 + l, none⟩ = some (.slice (some ⟨g, 0, none⟩) n n) ∧ wr.drew.cell? ⟨b, 4 + m, none⟩ = some (.slice (some ⟨gs m, 0, none⟩) n2 n2) ∧ wr.drew.cell? ⟨gs m, 2 * k, none⟩ = some (.int .u32 (X : Int)) ∧ wr.drew.cell? ⟨gs m, 2 * k + 1, none⟩ = some (.int .u32 (Y : Int)) := ⟨hc, hcm, hx, hy⟩
              generalize gs m = gm at S0 hcm hx hy hgmr HGM
              clear hl0 hx0 hy0 hom HL0 hn2 HN2 HM
              go_wp2_with fail
              refine wp_region_held_drew (S := fun w' => w'.cell? ⟨b, 4 + l, none⟩ = some (.slice (some ⟨g, 0, none⟩) n n) ∧ w'.cell? ⟨b, 4 + m, none⟩ = some (.slice (some ⟨gm, 0, none⟩) n2 n2) ∧ w'.cell? ⟨gm, 2 * k, none⟩ = some (.int .u32 (X : Int)) ∧ w'.cell? ⟨gm, 2 * k + 1, none⟩ = some (.int .u32 (Y : Int))) (by kernel_rfl) S0 (fun hS => ?_)
              refine wpAnyH_take (i := 0) (v := .pointer (some ⟨b, 0, none⟩)) rfl (by kernel_rfl) (by kernel_rfl) (by kernel_rfl) (fun _ _ _ h => h) (Or.inl ⟨by rfl, by intro w' hSw; go_simp⟩) hS ?_
              simp only [tkS, Act.put]
              refine wpAnyH_take (i := 1) (v := .int .i64 (l : Int)) rfl (by kernel_rfl) (by kernel_rfl) (by kernel_rfl) (fun _ _ _ h => h) (Or.inl ⟨by rfl, by intro w' hSw; go_simp⟩) hS ?_
              simp only [tkS, Act.put]
              refine wpAnyH_take (i := 2) (v := .pointer (some ⟨b, 0, none⟩)) rfl (by kernel_rfl) (by kernel_rfl) (by kernel_rfl) (fun _ _ _ h => h) (Or.inl ⟨by rfl, by intro w' hSw; go_simp⟩) hS ?_
              simp only [tkS, Act.put]
              refine wpAnyH_take (i := 3) (v := .pointer (some ⟨b, 4, none⟩)) rfl (by kernel_rfl) (by kernel_rfl) (by kernel_rfl) (fun _ _ _ h => h) (Or.inl ⟨by rfl, by intro w' hSw; go_simp⟩) hS ?_
              simp only [tkS, Act.put]
              refine wpAnyH_take (i := 4) (v := .pointer (some ⟨b, 4 + l, none⟩)) rfl (by kernel_rfl) (by kernel_rfl) (by kernel_rfl) (fun _ _ _ h => h) (Or.inl ⟨by rfl, by intro w' hSw; go_simp⟩) hS ?_
              simp only [tkS, Act.put]
              refine wpAnyH_take (i := 5) (v := .slice (some ⟨g, 0, none⟩) n n) rfl (by kernel_rfl) (by kernel_rfl) (by kernel_rfl) (fun _ _ _ h => h) (Or.inl ⟨by rfl, by intro w' hSw; have h1 := hSw.1; have h2 := hSw.2.1; have h3 := hSw.2.2.1; have h4 := hSw.2.2.2; clear hSw; go_simp⟩) hS ?_
              simp only [tkS, Act.put]
              refine wpAnyH_take (i := 6) (v := .int .i64 (k : Int)) rfl (by kernel_rfl) (by kernel_rfl) (by kernel_rfl) (fun _ _ _ h => h) (Or.inl ⟨by rfl, by intro w' hSw; go_simp⟩) hS ?_
              simp only [tkS, Act.put]
              refine wpAnyH_take (i := 7) (v := .pointer (some ⟨b, 0, none⟩)) rfl (by kernel_rfl) (by kernel_rfl) (by kernel_rfl) (fun _ _ _ h => h) (Or.inl ⟨by rfl, by intro w' hSw; go_simp⟩) hS ?_
              simp only [tkS, Act.put]
              refine wpAnyH_take (i := 8) (v := .int .i64 (l : Int)) rfl (by kernel_rfl) (by kernel_rfl) (by kernel_rfl) (fun _ _ _ h => h) (Or.inl ⟨by rfl, by intro w' hSw; go_simp⟩) hS ?_
              simp only [tkS, Act.put]
              refine wpAnyH_take (i := 9) (v := .int .i64 (m : Int)) rfl (by kernel_rfl) (by kernel_rfl) (by kernel_rfl) (fun _ _ _ h => h) (Or.inl ⟨by rfl, by intro w' hSw; go_simp; rw [IntKind.wrap_i64]; omega⟩) hS ?_
              simp only [tkS, Act.put]
              refine wpAnyH_take (i := 10) (v := .pointer (some ⟨b, 0, none⟩)) rfl (by kernel_rfl) (by kernel_rfl) (by kernel_rfl) (fun _ _ _ h => h) (Or.inl ⟨by rfl, by intro w' hSw; go_simp⟩) hS ?_
              simp only [tkS, Act.put]
              refine wpAnyH_take (i := 11) (v := .pointer (some ⟨b, 4, none⟩)) rfl (by kernel_rfl) (by kernel_rfl) (by kernel_rfl) (fun _ _ _ h => h) (Or.inl ⟨by rfl, by intro w' hSw; go_simp⟩) hS ?_
              simp only [tkS, Act.put]
              refine wpAnyH_take (i := 12) (v := .pointer (some ⟨b, 4 + m, none⟩)) rfl (by kernel_rfl) (by kernel_rfl) (by kernel_rfl) (fun _ _ _ h => h) (Or.inl ⟨by rfl, by intro w' hSw; go_simp⟩) hS ?_
              simp only [tkS, Act.put]
              refine wpAnyH_take (i := 13) (v := .slice (some ⟨gm, 0, none⟩) n2 n2) rfl (by kernel_rfl) (by kernel_rfl) (by kernel_rfl) (fun _ _ _ h => h) (Or.inl ⟨by rfl, by intro w' hSw; have h1 := hSw.1; have h2 := hSw.2.1; have h3 := hSw.2.2.1; have h4 := hSw.2.2.2; clear hSw; go_simp⟩) hS ?_
              simp only [tkS, Act.put]
              refine wpAnyH_take (i := 14) (v := .int .i64 (k : Int)) rfl (by kernel_rfl) (by kernel_rfl) (by kernel_rfl) (fun _ _ _ h => h) (Or.inl ⟨by rfl, by intro w' hSw; go_simp⟩) hS ?_
              simp only [tkS, Act.put]
              refine wpAnyH_take (i := 15) (v := .int .i64 (2 * (k : Int))) rfl (by kernel_rfl) (by kernel_rfl) (by kernel_rfl) (fun _ _ _ h => h) (Or.inl ⟨by rfl, by intro w' hSw; go_simp; rw [IntKind.wrap_i64]; omega⟩) hS ?_
              simp only [tkS, Act.put]
              refine wpAnyH_take (i := 16) (v := .pointer (some ⟨gm, 2 * k, none⟩)) rfl (by kernel_rfl) (by kernel_rfl) (by kernel_rfl) (fun _ _ _ h => h) (Or.inl ⟨by rfl, by intro w' hSw; go_simp⟩) hS ?_
              simp only [tkS, Act.put]
              refine wpAnyH_take (i := 17) (v := .int .u32 (X : Int)) rfl (by kernel_rfl) (by kernel_rfl) (by kernel_rfl) (fun _ _ _ h => h) (Or.inl ⟨by rfl, by intro w' hSw; have h1 := hSw.1; have h2 := hSw.2.1; have h3 := hSw.2.2.1; have h4 := hSw.2.2.2; clear hSw; go_simp⟩) hS ?_
              simp only [tkS, Act.put]
              refine wpAnyH_take (i := 18) (v := .pointer (some ⟨b, 0, none⟩)) rfl (by kernel_rfl) (by kernel_rfl) (by kernel_rfl) (fun _ _ _ h => h) (Or.inl ⟨by rfl, by intro w' hSw; go_simp⟩) hS ?_
              simp only [tkS, Act.put]
              refine wpAnyH_take (i := 19) (v := .int .i64 (l : Int)) rfl (by kernel_rfl) (by kernel_rfl) (by kernel_rfl) (fun _ _ _ h => h) (Or.inl ⟨by rfl, by intro w' hSw; go_simp⟩) hS ?_
              simp only [tkS, Act.put]
              refine wpAnyH_take (i := 20) (v := .int .i64 (m : Int)) rfl (by kernel_rfl) (by kernel_rfl) (by kernel_rfl) (fun _ _ _ h => h) (Or.inl ⟨by rfl, by intro w' hSw; go_simp; rw [IntKind.wrap_i64]; omega⟩) hS ?_
              simp only [tkS, Act.put]
              refine wpAnyH_take (i := 21) (v := .pointer (some ⟨b, 0, none⟩)) rfl (by kernel_rfl) (by kernel_rfl) (by kernel_rfl) (fun _ _ _ h => h) (Or.inl ⟨by rfl, by intro w' hSw; go_simp⟩) hS ?_
              simp only [tkS, Act.put]
              refine wpAnyH_take (i := 22) (v := .pointer (some ⟨b, 4, none⟩)) rfl (by kernel_rfl) (by kernel_rfl) (by kernel_rfl) (fun _ _ _ h => h) (Or.inl ⟨by rfl, by intro w' hSw; go_simp⟩) hS ?_
              simp only [tkS, Act.put]
              refine wpAnyH_take (i := 23) (v := .pointer (some ⟨b, 4 + m, none⟩)) rfl (by kernel_rfl) (by kernel_rfl) (by kernel_rfl) (fun _ _ _ h => h) (Or.inl ⟨by rfl, by intro w' hSw; go_simp⟩) hS ?_
              simp only [tkS, Act.put]
              refine wpAnyH_take (i := 24) (v := .slice (some ⟨gm, 0, none⟩) n2 n2) rfl (by kernel_rfl) (by kernel_rfl) (by kernel_rfl) (fun _ _ _ h => h) (Or.inl ⟨by rfl, by intro w' hSw; have h1 := hSw.1; have h2 := hSw.2.1; have h3 := hSw.2.2.1; have h4 := hSw.2.2.2; clear hSw; go_simp⟩) hS ?_
              simp only [tkS, Act.put]
              refine wpAnyH_take (i := 25) (v := .int .i64 (k : Int)) rfl (by kernel_rfl) (by kernel_rfl) (by kernel_rfl) (fun _ _ _ h => h) (Or.inl ⟨by rfl, by intro w' hSw; go_simp⟩) hS ?_
              simp only [tkS, Act.put]
              refine wpAnyH_take (i := 26) (v := .int .i64 (2 * (k : Int))) rfl (by kernel_rfl) (by kernel_rfl) (by kernel_rfl) (fun _ _ _ h => h) (Or.inl ⟨by rfl, by intro w' hSw; go_simp; rw [IntKind.wrap_i64]; omega⟩) hS ?_
              simp only [tkS, Act.put]
              refine wpAnyH_take (i := 27) (v := .int .i64 (2 * (k : Int) + 1)) rfl (by kernel_rfl) (by kernel_rfl) (by kernel_rfl) (fun _ _ _ h => h) (Or.inl ⟨by rfl, by intro w' hSw; go_simp; rw [IntKind.wrap_i64]; omega⟩) hS ?_
              simp only [tkS, Act.put]
              refine wpAnyH_take (i := 28) (v := .pointer (some ⟨gm, 2 * k + 1, none⟩)) rfl (by kernel_rfl) (by kernel_rfl) (by kernel_rfl) (fun _ _ _ h => h) (Or.inl ⟨by rfl, by intro w' hSw; go_simp⟩) hS ?_
              simp only [tkS, Act.put]
              refine wpAnyH_take (i := 29) (v := .int .u32 (Y : Int)) rfl (by kernel_rfl) (by kernel_rfl) (by kernel_rfl) (fun _ _ _ h => h) (Or.inl ⟨by rfl, by intro w' hSw; have h1 := hSw.1; have h2 := hSw.2.1; have h3 := hSw.2.2.1; have h4 := hSw.2.2.2; clear hSw; go_simp⟩) hS ?_
              simp only [tkS, Act.put]
              refine wpAnyH_ready (rs := [30]) (by kernel_rfl) (by simp) ?_
              refine AllReadyH.cons rfl (fun K hK => ?_) AllReadyH.nil
              go_simp
              refine hns.mono ?_
              rintro e w6 ⟨rfl, hb6⟩
              have hW6 : Below wr.heap.size wr w6 := below_seq (Below.refl wr.heap.size wr).drew hb6
              go_wp2_with fail
              have S6 : w6.cell? ⟨b, 4 + l, none⟩ = some (.slice (some ⟨g, 0, none⟩) n n) ∧ w6.cell? ⟨b, 4 + m, none⟩ = some (.slice (some ⟨gm, 0, none⟩) n2 n2) ∧ w6.cell? ⟨gm, 2 * k, none⟩ = some (.int .u32 (X : Int)) ∧ w6.cell? ⟨gm, 2 * k + 1, none⟩ = some (.int .u32 (Y : Int)) := ⟨(hW6.cell (p := ⟨b, 4 + l, none⟩) hblkr).trans hc, (hW6.cell (p := ⟨b, 4 + m, none⟩) hblkr).trans hcm, (hW6.cell (p := ⟨gm, 2 * k, none⟩) hgmr).trans hx, (hW6.cell (p := ⟨gm, 2 * k + 1, none⟩) hgmr).trans hy⟩
              refine hK.out _ _ S6 (fun hS => ?_)
              clear hK K hns hb6
              have ck6 := (hW6.cell (p := ⟨g, k, none⟩) hgr).trans ck
              have fk6 : w6.frozen? ⟨g, k, none⟩ = false := by
                have e : w6.heap[g]? = wr.heap[g]? := hW6.block g hgr
                simp only [World.frozen?] at fk ⊢
                rw [e]
                exact fk
              refine wpAnyH_take (i := 31) (v := .pointer (some ⟨g, k, none⟩)) rfl (by kernel_rfl) (by kernel_rfl) (by kernel_rfl) (fun _ _ _ h => h) (Or.inl ⟨by rfl, by intro w' hSw; go_simp⟩) hS ?_
              simp only [tkS, Act.put]
              have ho6 := own_set (ho.below hW6 (Nat.le_refl _)) k (.int .u32 ((nodeN own l k : Nat) : Int))
              rw [lvl_step own l n k hltk] at ho6
              have HT6 : Hid (Tb (w6.setCell ⟨g, k, none⟩ (.int .u32 ((nodeN own l k : Nat) : Int))) b B v own l gs) := (HT.out.on hW6).side HG5.out.1 HG5.out.2
              have o6 : ∀ bb oo u, bb ≠ g → w6.cell? ⟨bb, oo, none⟩ = some u → (w6.setCell ⟨g, k, none⟩ (.int .u32 ((nodeN own l k : Nat) : Int))).cell? ⟨bb, oo, none⟩ = some u := fun bb oo u hne h => (World.cell?_setCell_other _ _ _ _ (by intro e; simp only [Addr.mk.injEq] at e; exact hne e.1.symm)).trans h
              have hgb : b ≠ g := fun e => HG5.out.1 e.symm
              have S7 := And.intro (o6 _ _ _ hgb S6.1) (And.intro (o6 _ _ _ hgb S6.2.1) (And.intro (o6 _ _ _ HGM.out S6.2.2.1) (o6 _ _ _ HGM.out S6.2.2.2)))
              have hc6 := S7.1
              have hbg : b ≤ g := by have := own_lt ho; omega
              have hb7 : Below b w (w6.setCell ⟨g, k, none⟩ (.int .u32 ((nodeN own l k : Nat) : Int))) := (hbel.trans (hW6.mono (by omega))).setCell (p := ⟨g, k, none⟩) hbg _
              clear R ho ck fk hgb o6
              refine wpAnyH_ready (rs := [32]) (by kernel_rfl) (by simp) ?_
              refine AllReadyH.cons rfl (fun K hK => ?_) AllReadyH.nil
              go_simp
              refine hK.out _ _ S7 (fun hS => ?_)
              clear hK K
              refine wpAnyH_done (by kernel_rfl) ?_ _
              clear ck6 fk6 hS S6 S7 S0 hx hy hcm
              go_wp2_with fail
              go_roundw
              case rel => exact ⟨k + 1, by omega, by go_num, HT6, hc6, ho6, hb7⟩
              case measure => simp [intOf]; omega
          · obtain rfl : k = n := by omega
            rw [Nat.sub_self, List.replicate_zero, List.append_nil, ← HN.out] at ho
            have HT2 : Hid (Tb wr b B v own (l + 1) (fun i => if i = l then g else gs i)) := by
              unfold Hid
              have hc2 := hc
              rw [← HN.out] at hc2
              exact HT.out.more hc2 ho
            clear ho
            go_wp2_with fail
            go_roundw
            case rel => exact ⟨l + 1, _, by omega, by go_num, HT2, hbel⟩
            case measure => simp [intOf]; omega
    · obtain rfl : l = 9 := by omega
      go_wp2_with fail
      go_end0
      exact ⟨rfl, ⟨gs, HT.out⟩, hbel⟩
end Go.Proofs.YtocffojhhjdeoaaGreat

namespace Go.Proofs.YtocffojhhjdeoaaGreat
open Go.RowKit
set_option linter.unusedVariables false

set_option maxHeartbeats 2000000 in
set_option maxRecDepth 100000 in
theorem sum_any (C b : Nat) (v : Value) (own : List Ov) (w : World) (l p : Nat) (hl8 : l ≤ 8) (hp : p < 2 ^ (8 - l)) (hb : b < w.heap.size) (c0 : w.cell? ⟨b, 0, none⟩ = some (.int .u32 0)) (c1 : w.cell? ⟨b, 1, none⟩ = some (.int .i32 0)) (c3 : w.cell? ⟨b, 3, none⟩ = some v) (hth : w.there b 0 13) (hCb : C ≤ b) (hr : RdO C w v own) (hl : own.length ≤ 1024) (hok : ∀ x ∈ own, x.ok = true) :
    Calls Tryz.prog 21 #[.pointer (some ⟨b, 0, none⟩), .int .i64 (l : Int), .int .i64 (p : Int)] w fun e w' => e = .returned (.int .u32 ((nodeN own l p : Nat) : Int)) ∧ Below b w w' := by
  have other : ∀ (wz : World) (u : Value) (o : Nat), o ≠ 1 → (wz.setCell ⟨b, 1, none⟩ u).cell? ⟨b, o, none⟩ = wz.cell? ⟨b, o, none⟩ := fun wz u o ho => by
    rw [World.cell?_setCell_other]
    intro e
    simp only [Addr.mk.injEq] at e
    omega
  have hb1 : Below b w (w.setCell ⟨b, 1, none⟩ (.int .i32 1)) := (Below.refl b w).setCell (p := ⟨b, 1, none⟩) (Nat.le_refl _) _
  have hT : Tb (w.setCell ⟨b, 1, none⟩ (.int .i32 1)) b (w.setCell ⟨b, 1, none⟩ (.int .i32 1)).heap.size v own 0 (fun _ => 0) :=
    ⟨by rw [World.size_setCell]; exact hb, by rw [World.size_setCell]; exact hb, (other _ _ 0 (by omega)).trans c0, World.cell?_setCell_same _ _ _ c1, (other _ _ 3 (by omega)).trans c3, World.there_setCells hth b 1 [.int .i32 1], fun i hi => absurd hi (by omega)⟩
  have hbd := build_any C b _ v own _ hT (Nat.le_refl _) hCb (hr.below (hb1.mono hCb)) hl hok
  have hf1 := (hth 1 (by omega)).2
  rw [Nat.zero_add] at hf1
  have hdo := onceDo b w (fun w1 => (∃ gs, Tb w1 b (w.setCell ⟨b, 1, none⟩ (.int .i32 1)).heap.size v own 9 gs) ∧ Below b w w1) c0 c1 hf1 (hbd.mono fun e w' ⟨h1, ⟨gs, hT'⟩, h3⟩ => by
    have z0 := (hT'.th 0 (by omega)).2
    have z1 := (hT'.th 1 (by omega)).2
    rw [Nat.zero_add] at z0 z1
    exact ⟨h1, hT'.c0, hT'.c1, z0, z1, ⟨gs, hT'⟩, hb1.trans h3⟩)
  clear hbd hT hb1 hth c0 c1 c3 hr hf1
  go_enter Tryz.func21, Tryz.ntmps21
  go_wp2_with fail
  refine hdo.mono ?_
  rintro e w2 ⟨rfl, w1, ⟨⟨gs, hT1⟩, hb2⟩, hw2⟩
  have h4 : w2.cell? ⟨b, 4 + l, none⟩ = some (.slice (some ⟨gs l, 0, none⟩) (2 ^ (8 - l)) (2 ^ (8 - l))) := by
    rw [hw2, other _ _ (4 + l) (by omega), World.cell?_setCell_other _ _ _ _ (by intro e; simp only [Addr.mk.injEq] at e; omega)]
    exact (hT1.row l (by omega)).1
  have hne : gs l ≠ b := by
    have h5 := (World.ownsRow.lt (hT1.row l (by omega)).2 (gs l) rfl).1
    have h6 := hT1.lt
    omega
  have h5 : w2.cell? ⟨gs l, p, none⟩ = some (.int .u32 ((nodeN own l p : Nat) : Int)) := by
    rw [hw2, World.cell?_setCell_other _ _ _ _ (by intro e; simp only [Addr.mk.injEq] at e; exact hne e.1.symm), World.cell?_setCell_other _ _ _ _ (by intro e; simp only [Addr.mk.injEq] at e; exact hne e.1.symm)]
    have h6 := own_cell (hT1.row l (by omega)).2 (k := p) (by simp [lvl]; exact hp)
    have h7 : w1.cell? ⟨gs l, p, none⟩ = some (.int .u32 ((nodeN own l p : Nat) : Int)) := by rw [h6]; simp [lvl]
    exact h7
  have hB2 : Below b w w2 := by
    rw [hw2]
    exact (hb2.drew.setCell (p := ⟨b, 0, none⟩) (Nat.le_refl _) _).setCell (p := ⟨b, 1, none⟩) (Nat.le_refl _) _
  have i1 : (l : Int) < 9 := by omega
  have i2 : (p : Int) < ((2 ^ (8 - l) : Nat) : Int) := by omega
  generalize 2 ^ (8 - l) = n at h4 i2
  generalize gs l = g at h4 h5
  clear hT1 hw2 hne hdo hb2 other hp
  go_wp2_with fail
  go_ret
  exact ⟨rfl, hB2⟩
end Go.Proofs.YtocffojhhjdeoaaGreat

namespace Go.Proofs.YtocffojhhjdeoaaGreat
open Go.RowKit
set_option linter.unusedVariables false

set_option maxHeartbeats 4000000 in
set_option maxRecDepth 100000 in
theorem implTreeSum_any (C : Nat) (w : World) (v : Value) (L : List Ov) (a l p : Int) (hC : C ≤ w.heap.size) (hr : RdO C w v L) :
    Calls Tryz.prog 6 #[v, .int .i64 a, .int .i64 l, .int .i64 p] w fun e w' => e = .returned (.tuple #[.int .i64 ((treeV L a l p : Nat) : Int), .int .i64 (treeC L a l p)]) ∧ Below w.heap.size w w' := by
  have hlo := ledgerOf_any C w v L hC hr
  unfold LoAns at hlo
  obtain ⟨ao, cap, rfl⟩ : ∃ ao cap, v = .slice ao L.length cap := by
    obtain ⟨⟨ao, cap, rfl, _⟩, _⟩ := hr
    exact ⟨_, _, rfl⟩
  have HRD : Hid (∀ x ∈ L, Rd C w x.dv (x.ds.map (Value.int .i64))) := hr.2
  clear hr
  go_enter Tryz.func6, Tryz.ntmps6
  go_wp2_with fail
  refine hlo.mono ?_
  rintro e w1 ⟨hcs, hb1⟩
  clear hlo
  have hs1 := hb1.size
  rcases hcs with ⟨hlog, lb, rfl, vs, hL⟩ | ⟨hlog, rfl⟩
  · have hact := fun wz => isActor_any a wz
    by_cases hin : inTree a l p
    · obtain ⟨E1, E2⟩ := tree_in hlog hin
      have HE1 : Hid (treeV L a l p = nodeN (byA L a.toNat) l.toNat p.toNat) := E1
      have HE2 : Hid (treeC L a l p = 0) := E2
      clear E1 E2
      obtain ⟨hln, hok⟩ := okL hlog
      obtain ⟨h1, h2, h3, h4, h5, h6⟩ := hin
      obtain ⟨na, rfl⟩ := Int.eq_ofNat_of_zero_le h1
      obtain ⟨nl, rfl⟩ := Int.eq_ofNat_of_zero_le h3
      obtain ⟨np, rfl⟩ := Int.eq_ofNat_of_zero_le h5
      simp only [Int.toNat_natCast] at h6 HE1
      have hnl : nl ≤ 8 := by omega
      have hna : na < 16 := by omega
      have hpn : np < 2 ^ (8 - nl) := by omega
      rw [decide_eq_true (show 0 ≤ (na : Int) ∧ (na : Int) < 16 from ⟨by omega, by omega⟩)] at hact
      have hnd := fun wz => nodesAt_any nl hnl wz
      have hgd : decide (((2 ^ (8 - nl) : Nat) : Int) ≤ (np : Int)) = false := by simp only [decide_eq_false_iff_not]; omega
      have hgn : decide (2 ^ (8 - nl) ≤ np) = false := by simp only [decide_eq_false_iff_not]; omega
      have d3 : decide ((8 : Int) < (nl : Int)) = false := by simp; omega
      have d4 : decide ((nl : Int) < 0) = false := by simp
      have d5 : decide ((np : Int) < 0) = false := by simp
      have hrow := hL.row na hna
      obtain ⟨ra, rc, hrv⟩ : ∃ ra rc, vs.getD na undef = .slice ra (byA L na).length rc := by
        obtain ⟨_, h2⟩ := hrow
        rcases h2 with ⟨hv, hn⟩ | ⟨g, cap, cur, hv, _⟩
        · exact ⟨none, 0, by rw [hv, hn]⟩
        · exact ⟨_, cap, hv⟩
      have hcl : w1.cell? ⟨lb, na, none⟩ = some (.slice ra (byA L na).length rc) := by
        rw [← hrv]
        refine hL.cell ?_
        unfold ledCs
        rw [List.getElem?_append_left (by rw [hL.len]; exact hna), List.getD_eq_getElem?_getD, List.getElem?_eq_getElem (by rw [hL.len]; exact hna)]
        rfl
      rw [hrv] at hrow
      have HRO : Hid (RdO w1.heap.size w1 (.slice ra (byA L na).length rc) (byA L na)) := owns_rdO hrow (fun x hx => ((HRD.out x (byA_in hx)).below (hb1.mono hC)).mono (by omega))
      have HBL : Hid ((byA L na).length ≤ 1024) := by have := byA_length L na; unfold Hid; omega
      have HOK : Hid (∀ x ∈ byA L na, x.ok = true) := fun x hx => hok x (byA_in hx)
      have hna0 : (0 : Int) ≤ (na : Int) := by omega
      have hna1 : (na : Int) < 16 := by omega
      obtain ⟨P, HP⟩ : ∃ P : Nat, Hid (2 ^ (8 - nl) = P) := ⟨2 ^ (8 - nl), rfl⟩
      rw [HP.out] at hgd hgn
      simp only [HP.out] at hnd
      clear h1 h2 h3 h4 h5 h6 hrow hok hlog hL hrv
      generalize (byA L na).length = bn at hcl HRO HBL
      go_wp2_with (first | (go_at_call 19; refine (hact _).mono ?_; rintro e w2 ⟨rfl, hw2⟩; obtain rfl := hw2.symm) | (go_at_call 20; refine (hnd _).mono ?_; rintro e w2 ⟨rfl, hw2⟩; obtain rfl := hw2.symm))
      have hbA := below_alloc w1 (.cells #[.int .u32 0, .int .i32 0, .int .u32 0, .slice ra bn rc, .slice none 0 0, .slice none 0 0, .slice none 0 0, .slice none 0 0, .slice none 0 0, .slice none 0 0, .slice none 0 0, .slice none 0 0, .slice none 0 0] 72)
      have e0 := cell_made (w := w1) (cs := #[.int .u32 0, .int .i32 0, .int .u32 0, .slice ra bn rc, .slice none 0 0, .slice none 0 0, .slice none 0 0, .slice none 0 0, .slice none 0 0, .slice none 0 0, .slice none 0 0, .slice none 0 0, .slice none 0 0]) (T := 72) (Below.refl (w1.alloc (.cells #[.int .u32 0, .int .i32 0, .int .u32 0, .slice ra bn rc, .slice none 0 0, .slice none 0 0, .slice none 0 0, .slice none 0 0, .slice none 0 0, .slice none 0 0, .slice none 0 0, .slice none 0 0, .slice none 0 0] 72)).heap.size (w1.alloc (.cells #[.int .u32 0, .int .i32 0, .int .u32 0, .slice ra bn rc, .slice none 0 0, .slice none 0 0, .slice none 0 0, .slice none 0 0, .slice none 0 0, .slice none 0 0, .slice none 0 0, .slice none 0 0, .slice none 0 0] 72))) (k := 0) rfl
      have e1 := cell_made (w := w1) (cs := #[.int .u32 0, .int .i32 0, .int .u32 0, .slice ra bn rc, .slice none 0 0, .slice none 0 0, .slice none 0 0, .slice none 0 0, .slice none 0 0, .slice none 0 0, .slice none 0 0, .slice none 0 0, .slice none 0 0]) (T := 72) (Below.refl (w1.alloc (.cells #[.int .u32 0, .int .i32 0, .int .u32 0, .slice ra bn rc, .slice none 0 0, .slice none 0 0, .slice none 0 0, .slice none 0 0, .slice none 0 0, .slice none 0 0, .slice none 0 0, .slice none 0 0, .slice none 0 0] 72)).heap.size (w1.alloc (.cells #[.int .u32 0, .int .i32 0, .int .u32 0, .slice ra bn rc, .slice none 0 0, .slice none 0 0, .slice none 0 0, .slice none 0 0, .slice none 0 0, .slice none 0 0, .slice none 0 0, .slice none 0 0, .slice none 0 0] 72))) (k := 1) rfl
      have e3 := cell_made (w := w1) (cs := #[.int .u32 0, .int .i32 0, .int .u32 0, .slice ra bn rc, .slice none 0 0, .slice none 0 0, .slice none 0 0, .slice none 0 0, .slice none 0 0, .slice none 0 0, .slice none 0 0, .slice none 0 0, .slice none 0 0]) (T := 72) (Below.refl (w1.alloc (.cells #[.int .u32 0, .int .i32 0, .int .u32 0, .slice ra bn rc, .slice none 0 0, .slice none 0 0, .slice none 0 0, .slice none 0 0, .slice none 0 0, .slice none 0 0, .slice none 0 0, .slice none 0 0, .slice none 0 0] 72)).heap.size (w1.alloc (.cells #[.int .u32 0, .int .i32 0, .int .u32 0, .slice ra bn rc, .slice none 0 0, .slice none 0 0, .slice none 0 0, .slice none 0 0, .slice none 0 0, .slice none 0 0, .slice none 0 0, .slice none 0 0, .slice none 0 0] 72))) (k := 3) rfl
      have hth := there_made (n := 13) (Below.refl (w1.alloc (.cells #[.int .u32 0, .int .i32 0, .int .u32 0, .slice ra bn rc, .slice none 0 0, .slice none 0 0, .slice none 0 0, .slice none 0 0, .slice none 0 0, .slice none 0 0, .slice none 0 0, .slice none 0 0, .slice none 0 0] 72)).heap.size (w1.alloc (.cells #[.int .u32 0, .int .i32 0, .int .u32 0, .slice ra bn rc, .slice none 0 0, .slice none 0 0, .slice none 0 0, .slice none 0 0, .slice none 0 0, .slice none 0 0, .slice none 0 0, .slice none 0 0, .slice none 0 0] 72))) (by simp)
      have hsum := sum_any w1.heap.size w1.heap.size _ (byA L na) (w1.alloc (.cells #[.int .u32 0, .int .i32 0, .int .u32 0, .slice ra bn rc, .slice none 0 0, .slice none 0 0, .slice none 0 0, .slice none 0 0, .slice none 0 0, .slice none 0 0, .slice none 0 0, .slice none 0 0, .slice none 0 0] 72)) nl np hnl hpn (by rw [World.size_alloc]; omega) e0 e1 e3 hth (Nat.le_refl _) (HRO.out.below hbA) (by have := byA_length L na; omega) HOK.out
      have hlt32 := nodeN_lt (byA L na) nl np
      rw [← HE1.out] at hsum hlt32
      obtain ⟨V, HV⟩ : ∃ V : Nat, Hid (treeV L (na : Int) (nl : Int) (np : Int) = V) := ⟨treeV L (na : Int) (nl : Int) (np : Int), rfl⟩
      rw [HV.out] at hsum hlt32
      clear e0 e1 e3 hth hact hnd hgd hgn d3 d4 d5 hcl hpn HP
      refine hsum.mono ?_
      rintro e w4 ⟨rfl, hb4⟩
      have hbf : Below w.heap.size w w4 := (below_seq hb1 hbA).trans (hb4.mono hs1)
      clear hsum
      go_wp2_with fail
      go_ret2
      exact ⟨by rw [HE2.out, HV.out]; rfl, hbf⟩
    · obtain ⟨E1, E2⟩ := tree_out hlog hin
      have HE1 : Hid (treeV L a l p = 0) := E1
      have HE2 : Hid (treeC L a l p = 4) := E2
      clear E1 E2 hlog hL HRD
      by_cases c1 : 0 ≤ a ∧ a < 16
      · rw [decide_eq_true c1] at hact
        by_cases c3 : l < 0
        · have d3 : decide (l < 0) = true := by simp; omega
          clear hin c1 c3
          go_wp2_with (go_at_call 19; refine (hact _).mono ?_; rintro e w2 ⟨rfl, hw2⟩; obtain rfl := hw2.symm)
          go_ret2
          exact ⟨by rw [HE1.out, HE2.out]; rfl, hb1⟩
        · have d3 : decide (l < 0) = false := by simp; omega
          by_cases c4 : 8 < l
          · have d4 : decide ((8 : Int) < l) = true := by simp; omega
            clear hin c1 c3 c4
            go_wp2_with (go_at_call 19; refine (hact _).mono ?_; rintro e w2 ⟨rfl, hw2⟩; obtain rfl := hw2.symm)
            go_ret2
            exact ⟨by rw [HE1.out, HE2.out]; rfl, hb1⟩
          · have d4 : decide ((8 : Int) < l) = false := by simp; omega
            by_cases c5 : p < 0
            · have d5 : decide (p < 0) = true := by simp; omega
              clear hin c1 c3 c4 c5
              go_wp2_with (go_at_call 19; refine (hact _).mono ?_; rintro e w2 ⟨rfl, hw2⟩; obtain rfl := hw2.symm)
              go_ret2
              exact ⟨by rw [HE1.out, HE2.out]; rfl, hb1⟩
            · have d5 : decide (p < 0) = false := by simp; omega
              obtain ⟨nl, rfl⟩ := Int.eq_ofNat_of_zero_le (show 0 ≤ l by omega)
              have d6 : decide (((2 ^ (8 - nl) : Nat) : Int) ≤ p) = true := by
                simp only [decide_eq_true_eq]
                have h7 : ¬ p < ((2 ^ (8 - nl) : Nat) : Int) := fun h => hin ⟨by omega, by omega, by omega, by omega, by omega, by rw [Int.toNat_natCast]; exact h⟩
                omega
              have hnd := fun wz => nodesAt_any nl (by omega) wz
              generalize 2 ^ (8 - nl) = P at hnd d6
              clear hin c1 c3 c4 c5
              go_wp2_with (first | (go_at_call 19; refine (hact _).mono ?_; rintro e w2 ⟨rfl, hw2⟩; obtain rfl := hw2.symm) | (go_at_call 20; refine (hnd _).mono ?_; rintro e w2 ⟨rfl, hw2⟩; obtain rfl := hw2.symm))
              go_ret2
              exact ⟨by rw [HE1.out, HE2.out]; rfl, hb1⟩
      · rw [decide_eq_false c1] at hact
        clear hin c1
        go_wp2_with (go_at_call 19; refine (hact _).mono ?_; rintro e w2 ⟨rfl, hw2⟩; obtain rfl := hw2.symm)
        go_ret2
        exact ⟨by rw [HE1.out, HE2.out]; rfl, hb1⟩
  · obtain ⟨E1, E2⟩ := tree_bad hlog a l p
    have HE1 : Hid (treeV L a l p = 0) := E1
    have HE2 : Hid (treeC L a l p = 1) := E2
    clear E1 E2 hlog
    go_wp2_with fail
    go_ret2
    exact ⟨by rw [HE1.out, HE2.out]; rfl, hb1⟩
end Go.Proofs.YtocffojhhjdeoaaGreat
