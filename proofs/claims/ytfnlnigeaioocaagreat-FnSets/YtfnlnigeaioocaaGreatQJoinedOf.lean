/- What joinedOf does: the map that a vector and entries make, and whether they are valid. -/
import Derived.Deep.CutRange
import Derived.Test.YtfnlnigeaioocaaGreatQTakeKit
import Derived.Test.YtfnlnigeaioocaaGreatQJoinedBaseToEntRows
namespace Go.Proofs.YtfnlnigeaioocaaGreat
open Go.RowKit
set_option linter.unusedVariables false

theorem jm_info : (Tryz.prog.info? 48).map (·.size) = some 17 := by kernel_rfl
theorem zeroJ_size : zeroJ.toArray.size = 17 := by decide +kernel
theorem zeroJ_len : zeroJ.length = 17 := by decide +kernel
theorem jm_infoA : (Tryz.prog.info? 48).map (·.size) = some zeroJ.toArray.size := by rw [zeroJ_size]; exact jm_info
theorem jm_infoL : (Tryz.prog.info? 48).map (·.size) = some zeroJ.length := by rw [zeroJ_len]; exact jm_info
theorem zeroJ_one : zeroJ.toArray.all (·.oneCell') = true := by decide +kernel
theorem there_new {w : World} {cs : Array Value} {T : TypeId} {n : Nat} (hn : n ≤ cs.size) : (w.alloc (.cells cs T)).there w.heap.size 0 n := there_made (Below.refl _ _) hn
theorem built_zero (w : World) : (Instr.build 48 #[]).run Tryz.prog w = .ok (.agg zeroJ.toArray) w := run_build w _ _ _ (by kernel_rfl)
theorem wpList_build {P : Program} {w : World} {ops : Array Oper} {rest : List Oper} {o : Oper} {a : Act} {Q : Exit → Act → World → Prop} (hgd : o.guard = none) (t : TypeId) (parts : Array (Nat × Operand)) (ho : o.op = .build t parts) (ps : Array (Nat × Value)) (hps : parts.map (fun x => (x.1, a.eval x.2)) = ps) (v : Value)
    (h : (Instr.build t ps).run P w = .ok v w) (hK : wpList P ops Q rest (a.put o.dst v) w) : wpList P ops Q (o :: rest) a w := by
  subst hps
  refine wpList_plain hgd fun K hK' => ?_
  unfold Oper.wp
  simp [execOp, ho, h, Result.andThen]
  exact hK' _ _ hK
theorem run_makeMapN {P : Program} {t k e : TypeId} (ht : P.underlying t = some (.map k e)) (n : Nat) (w : World) : (Instr.makeMap t (some (.int .i64 (n : Int)))).run P w = .ok (.map (some w.heap.size)) (w.alloc (.map #[] 0)) := by
  simp [Instr.makeMap, run_underlying ht, asInt, asIntOf, Result.andThen]
theorem yieldsIf_build {P : Program} {ops : Array Oper} {S : World → Prop} {op : Oper} {a : Act} (hw : Region.wanted op (yielded ops a.tmps) = true) (t : TypeId) (parts : Array (Nat × Operand)) (ho : op.op = .build t parts) (ps : Array (Nat × Value)) (hps : parts.map (fun x => (x.1, a.eval x.2)) = ps) (v : Value)
    (h : ∀ w, (Instr.build t ps).run P w = .ok v w) : YieldsIf P ops S op v a :=
  .inl ⟨hw, fun w _ => by
    subst hps
    unfold execOp
    simp [ho, h, Result.andThen]⟩
theorem there17 (w : World) : (w.alloc (.cells zeroJ.toArray 48)).there w.heap.size 0 17 := there_new (n := 17) (by rw [zeroJ_size]; exact Nat.le_refl _)
theorem StAt.kept {w w' : World} {n : Nat} {t a : Int} {row : Option Nat} (h : StAt w n t a) (hg : w.grownBy w' row) (hn : row ≠ some n) : StAt w' n t a := by
  have e : w'.heap[n]? = w.heap[n]? := hg.block n (cell_lt h.1) (fun e => hn e.symm)
  have hf : ∀ j, w'.frozen? ⟨n, j, none⟩ = w.frozen? ⟨n, j, none⟩ := fun j => by
    unfold World.frozen?
    rw [show w'.heap[(⟨n, j, none⟩ : Addr).block]? = w.heap[(⟨n, j, none⟩ : Addr).block]? from e]
  exact ⟨hg.cell (a := ⟨n, 0, none⟩) h.1 (fun e => hn e.symm), hg.cell (a := ⟨n, 1, none⟩) h.2.1 (fun e => hn e.symm), (hf 0).trans h.2.2.1, (hf 1).trans h.2.2.2⟩
theorem mp_setCells {P : Program} {k : TypeId} {w : World} {b n : Nat} {L : List (Value × Value)} (h : Mp P k w b L) (hn : b ≠ n) (o : Nat) (vs : List Value) : Mp P k (w.setCells n o vs) b L := by
  obtain ⟨es, clock, hb, h2⟩ := h
  refine ⟨es, clock, ?_, h2⟩
  have : ∀ (vs : List Value) (o : Nat) (w : World), (w.setCells n o vs).heap[b]? = w.heap[b]? := by
    intro vs
    induction vs with
    | nil => intro o w; rfl
    | cons v vs ih => intro o w; exact (ih (o + 1) _).trans (heap_setCell_other w ⟨n, o, none⟩ b v hn)
  rw [this]
  exact hb
/-- A map that was made, and the parts that point to it, whichever was made first. -/
theorem jm_made {w : World} {n b : Nat} {X : List Int} (hX : X.length = 16) (ht : w.there n 0 17) (hM : Mp Tryz.prog 56 w b []) (hn : b ≠ n) : Jm (w.setCells n 0 (arrC X ++ [Value.map (some b)])) n X b ∧ Mp Tryz.prog 56 (w.setCells n 0 (arrC X ++ [Value.map (some b)])) b [] := by
  have hl : (arrC X ++ [Value.map (some b)]).length = 17 := by simp [arrC_len, hX]
  refine ⟨⟨World.rangeAt_setCells_same _ _ _ _ (by rw [hl]; exact ht), World.there_setCells ht _ _ _⟩, ?_⟩
  exact mp_setCells hM hn _ _
/-- What joinedOf answers. -/
def JoAns (w : World) (xs : List Int) (ls : List En) (e : Ending) (w' : World) : Prop :=
  (okJ xs ls = true ∧ ∃ b, e = .returned (.tuple #[.agg (arrC xs ++ [Value.map (some b)]).toArray, .bool true]) ∧ w.heap.size ≤ b ∧ Mp Tryz.prog 56 w' b (ls.map kvE) ∧ Below w.heap.size w w') ∨
  (okJ xs ls = false ∧ e = .returned (.tuple #[.agg zeroJ.toArray, .bool false]) ∧ Below w.heap.size w w')
theorem zero_load {w : World} {n : Nat} (ht : w.there n 0 17) : (loadVar 48 ⟨n, 0, none⟩).run Tryz.prog (w.setCells n 0 zeroJ) = .ok (.agg zeroJ.toArray) (w.setCells n 0 zeroJ) :=
  run_loadVar_mid (P := Tryz.prog) _ n 0 48 zeroJ _ (World.rangeAt_setCells_same _ _ _ _ (by rw [zeroJ_len]; exact ht)) Tryz.underlying48 rfl jm_infoL

set_option maxHeartbeats 4000000 in
set_option maxRecDepth 100000 in
theorem joinedOf_any (C : Nat) (w : World) (v ve : Value) (xs : List Int) (ls : List En) (hC : C ≤ w.heap.size) (hv : Rd C w v (xs.map (Value.int .i64))) (he : RdE C w ve ls) :
    Calls Tryz.prog 32 #[.agg #[v], ve] w (JoAns w xs ls) := by
  have hcn := countsOf_any C ((w.alloc (.cells #[v] 25)).alloc (.cells zeroJ.toArray 48)) v xs (by simp; omega) ((hv.alloc _ hC).alloc _ (by simp; omega))
  have hX := cnt_len xs
  obtain ⟨ao, la, ca, rfl⟩ : ∃ ao len cap, v = .slice ao len cap := by
    obtain ⟨ao, cap, rfl, _⟩ := hv
    exact ⟨_, _, _, rfl⟩
  have he0 := he
  obtain ⟨eo, ec, rfl, hE⟩ := he0
  cases hok : vecOK xs with
  | false =>
    rw [hok] at hcn
    have hJ := okJ_vec (ls := ls) hok
    generalize cnt xs = X at hcn hX
    go_enter Tryz.func32, Tryz.ntmps32
    go_wp2_with fail
    refine hcn.mono ?_
    rintro e w1 ⟨rfl, hb1⟩
    have ht := there_made hb1 (n := 17) (by simp [zeroJ, arrC])
    simp only [World.size_alloc] at ht
    have hB1 : Below w.heap.size w w1 := below_seq (below_then (below_alloc _ _) _) hb1
    have HI' : Hid _ := arr_info' hX
    have hs1 := hb1.size
    simp only [World.size_alloc] at hs1
    clear hcn hb1
    have h2 : (w1.alloc (.cells (arrC (List.replicate 16 0)).toArray 45)).there w1.heap.size 0 (arrC X).toArray.size := there_new (by simp [arrC_len, hX])
    go_upto_region 2 with (first | (refine wpList_store_mid rfl 45 _ _ rfl w1.heap.size 0 (arrC X).toArray rfl rfl h2 HI'.out (arrC_all X) ?_))
    have hB2 : Below w.heap.size w ((w1.alloc (.cells (arrC (List.replicate 16 0)).toArray 45)).setCells w1.heap.size 0 (arrC X)) := below_setCells (by omega) _ _ _ (below_then hB1 _)
    have ht2 : ((w1.alloc (.cells (arrC (List.replicate 16 0)).toArray 45)).setCells w1.heap.size 0 (arrC X)).there (w.heap.size + 1) 0 zeroJ.toArray.size := by rw [zeroJ_size]; exact World.there_setCells (World.there_alloc ht _) _ _ _
    have hr2 : ((w1.alloc (.cells (arrC (List.replicate 16 0)).toArray 45)).setCells w1.heap.size 0 (arrC X)).rangeAt w1.heap.size 0 (arrC X) := World.rangeAt_setCells_same _ _ _ _ (by rw [List.size_toArray] at h2; exact h2)
    have hgen : ∃ w2, ((w1.alloc (.cells (arrC (List.replicate 16 0)).toArray 45)).setCells w1.heap.size 0 (arrC X)) = w2 := ⟨_, rfl⟩
    obtain ⟨w2, hw2⟩ := hgen
    rw [hw2] at hB2 ht2 hr2
    change Code.wp _ _ _ _ ((w1.alloc (.cells (arrC (List.replicate 16 0)).toArray 45)).setCells w1.heap.size 0 (arrC X))
    rw [hw2]
    clear hw2 h2 ht hB1
    clear hr2
    have hld := zero_load (w := w2) (n := w.heap.size + 1) (by rw [← zeroJ_size]; exact ht2)
    have hzb := built_zero w2
    have hiA := jm_infoA
    have hone := zeroJ_one
    obtain ⟨Z, hZ⟩ : ∃ Z, zeroJ = Z := ⟨_, rfl⟩
    rw [hZ] at ht2 hld hzb hiA hone
    have HL : Hid _ := hld
    have HZ : Hid _ := hZ
    clear hld hZ
    go_upto_region 3 with fail
    refine wp_region_lit ?_
    refine wpList_build rfl _ _ rfl #[] (by simp) _ hzb ?_
    refine wpList_store_mid rfl 48 _ _ rfl (w.heap.size + 1) 0 Z.toArray rfl rfl ht2 hiA hone ?_
    clear ht2 hzb hiA hone
    go_wp2_with fail
    refine bodyPost_ret (v := .tuple #[.agg zeroJ.toArray, .bool false]) ?_ rfl (Or.inr ⟨hJ, rfl, below_setCells (by omega) _ _ _ hB2⟩)
    rw [HZ.out]
    simp [results, Tryz.results32, asAddr, HL.out]
  | true =>
    have hc : cnt xs = xs := by unfold cnt; rw [if_pos hok]
    rw [hok] at hcn
    rw [hc] at hcn hX
    obtain ⟨X, hXe⟩ : ∃ X, X = xs := ⟨_, rfl⟩
    subst hXe
    clear hc
    go_enter Tryz.func32, Tryz.ntmps32
    go_wp2_with fail
    refine hcn.mono ?_
    rintro e w1 ⟨rfl, hb1⟩
    have ht := there_made hb1 (n := 17) (by simp [zeroJ, arrC])
    simp only [World.size_alloc] at ht
    have hB1 : Below w.heap.size w w1 := below_seq (below_then (below_alloc _ _) _) hb1
    have HI' : Hid _ := arr_info' hX
    have hs1 := hb1.size
    simp only [World.size_alloc] at hs1
    clear hcn hb1
    have h2 : (w1.alloc (.cells (arrC (List.replicate 16 0)).toArray 45)).there w1.heap.size 0 (arrC X).toArray.size := there_new (by simp [arrC_len, hX])
    go_upto_region 2 with (first | (refine wpList_store_mid rfl 45 _ _ rfl w1.heap.size 0 (arrC X).toArray rfl rfl h2 HI'.out (arrC_all X) ?_))
    have hB2 : Below w.heap.size w ((w1.alloc (.cells (arrC (List.replicate 16 0)).toArray 45)).setCells w1.heap.size 0 (arrC X)) := below_setCells (by omega) _ _ _ (below_then hB1 _)
    have ht2 : ((w1.alloc (.cells (arrC (List.replicate 16 0)).toArray 45)).setCells w1.heap.size 0 (arrC X)).there (w.heap.size + 1) 0 zeroJ.toArray.size := by rw [zeroJ_size]; exact World.there_setCells (World.there_alloc ht _) _ _ _
    have hr2 : ((w1.alloc (.cells (arrC (List.replicate 16 0)).toArray 45)).setCells w1.heap.size 0 (arrC X)).rangeAt w1.heap.size 0 (arrC X) := World.rangeAt_setCells_same _ _ _ _ (by rw [List.size_toArray] at h2; exact h2)
    have hgen : ∃ w2, ((w1.alloc (.cells (arrC (List.replicate 16 0)).toArray 45)).setCells w1.heap.size 0 (arrC X)) = w2 := ⟨_, rfl⟩
    obtain ⟨w2, hw2⟩ := hgen
    rw [hw2] at hB2 ht2 hr2
    change Code.wp _ _ _ _ ((w1.alloc (.cells (arrC (List.replicate 16 0)).toArray 45)).setCells w1.heap.size 0 (arrC X))
    rw [hw2]
    clear hw2 h2 ht hB1
    by_cases hl : ls.length ≤ 256
    · have i0 : ¬ (256 : Int) < (ls.length : Int) := by omega
      go_upto_region 4 with fail
      go_cut [8] from 12 (fun s8 wx => ∃ n b, s8 = .pointer (some ⟨n, 0, none⟩) ∧ Jm wx n X b ∧ Mp Tryz.prog 56 wx b [] ∧ Below w2.heap.size w2 wx ∧ w2.heap.size ≤ n ∧ w2.heap.size ≤ b)
      case first =>
        have HX : Hid _ := arr_info hX
        have HB : Hid (∀ b w, (Instr.build 48 #[(0, .agg (arrC X).toArray), (1, .map (some b))]).run Tryz.prog w = .ok (.agg (arrC X ++ [Value.map (some b)]).toArray) w) := fun b w => built_jm X hX b w
        have HC : Hid (∀ b, (arrC X ++ [Value.map (some b)]).toArray.size = 17 ∧ (arrC X ++ [Value.map (some b)]).toArray.all (·.oneCell') = true) := fun b => ⟨by simp [arrC_len, hX], all_oneCell_toArray (fun v hv => by rcases List.mem_append.1 hv with h | h; exact arrC_one X v h; rw [List.mem_singleton.1 h]; rfl)⟩
        have hlt1 : w1.heap.size < w2.heap.size := some_lt (hr2.isSome 0 (by rw [arrC_len, hX]; omega))
        refine wp_region_held_drew (S := fun w' => w'.rangeAt w1.heap.size 0 (arrC X)) (by kernel_rfl) ((World.rangeAt_drew _ _ _ _).2 hr2) (fun hHeld => ?_)
        refine tkH 0 (.agg (arrC X).toArray) rfl (yieldsIf_load_mid rfl _ _ rfl w1.heap.size 0 rfl (arrC X) _ (fun w h => h) Tryz.underlying45 rfl HX.out) hHeld ?_
        simp only [tkS, Act.put]
        refine tkH 1 ((.slice eo ls.length ec)) rfl (Or.inl ⟨by rfl, by intro w hSw; go_simp⟩) hHeld ?_
        simp only [tkS, Act.put]
        refine tkH 2 ((.int .i64 (ls.length : Int))) rfl (Or.inl ⟨by rfl, by intro w hSw; go_simp⟩) hHeld ?_
        simp only [tkS, Act.put]
        refine wpAnyH_ready (rs := [3, 5]) (by kernel_rfl) (by simp) ?_
        refine AllReadyH.cons rfl (fun K hK => ?_) (AllReadyH.cons rfl (fun K hK => ?_) AllReadyH.nil)
        · have hmk := run_makeMapN (P := Tryz.prog) Tryz.underlying46 ls.length
          go_simp
          refine hK.out _ _ (World.rangeAt_alloc hHeld _) (fun hHeld => ?_)
          clear hK K hmk
          refine tkH 4 ((.agg (arrC X ++ [Value.map (some w2.heap.size)]).toArray)) rfl (yieldsIf_build rfl _ _ rfl _ (by simp; exact ⟨rfl, rfl⟩) _ (HB.out w2.heap.size)) hHeld ?_
          simp only [tkS, Act.put]
          refine wpAnyH_ready (rs := [5]) (by kernel_rfl) (by simp) ?_
          refine AllReadyH.cons rfl (fun K hK => ?_) AllReadyH.nil
          go_simp
          refine hK.out _ _ (World.rangeAt_alloc hHeld _) (fun hHeld => ?_)
          clear hK K
          refine wpAnyH_ready (rs := [6]) (by kernel_rfl) (by simp) ?_
          refine AllReadyH.cons rfl (fun K hK => ?_) AllReadyH.nil
          have h17 := there17 (w2.drew.alloc (.map #[] 0))
          rw [World.size_alloc] at h17
          refine wp_store_mid 48 _ _ rfl (w2.heap.size + 1) 0 (arrC X ++ [Value.map (some w2.heap.size)]).toArray rfl rfl ?st (by rw [(HC.out _).1]; exact jm_info) (HC.out _).2 ?_
          case st => rw [(HC.out _).1]; exact h17
          have hfin := jm_made (w := (w2.drew.alloc (.map #[] 0)).alloc (.cells zeroJ.toArray 48)) (n := w2.heap.size + 1) (b := w2.heap.size) hX h17 ((Mp.made Tryz.prog 56 w2.drew).alloc _) (by omega)
          have hBf : Below w2.heap.size w2 (((w2.drew.alloc (.map #[] 0)).alloc (.cells zeroJ.toArray 48)).setCells (w2.heap.size + 1) 0 (arrC X ++ [Value.map (some w2.heap.size)])) := below_setCells (by omega) _ _ _ (below_then (below_then (Below.refl _ _).drew _) _)
          refine hK.out _ _ (World.rangeAt_setCells_apart hHeld _ _ _ (.inl (by omega))) (fun hHeld => ?_)
          clear hK K
          refine wpAnyH_done (by kernel_rfl) ?_ _
          go_wp2_with fail
          go_meet
          exact ⟨_, _, rfl, hfin.1, hfin.2, hBf, by omega, Nat.le_refl _⟩
        · go_simp
          refine hK.out _ _ (World.rangeAt_alloc hHeld _) (fun hHeld => ?_)
          clear hK K
          have hmk := run_makeMapN (P := Tryz.prog) Tryz.underlying46 ls.length
          refine wpAnyH_ready (rs := [3]) (by kernel_rfl) (by simp) ?_
          refine AllReadyH.cons rfl (fun K hK => ?_) AllReadyH.nil
          go_simp
          refine hK.out _ _ (World.rangeAt_alloc hHeld _) (fun hHeld => ?_)
          clear hK K hmk
          refine tkH 4 ((.agg (arrC X ++ [Value.map (some (w2.heap.size + 1))]).toArray)) rfl (yieldsIf_build rfl _ _ rfl _ (by simp; exact ⟨rfl, rfl⟩) _ (HB.out (w2.heap.size + 1))) hHeld ?_
          simp only [tkS, Act.put]
          refine wpAnyH_ready (rs := [6]) (by kernel_rfl) (by simp) ?_
          refine AllReadyH.cons rfl (fun K hK => ?_) AllReadyH.nil
          have h17 : ((w2.alloc (.cells zeroJ.toArray 48)).drew.alloc (.map #[] 0)).there w2.heap.size 0 17 := World.there_alloc (show (w2.alloc (.cells zeroJ.toArray 48)).drew.there w2.heap.size 0 17 from there17 w2) _
          refine wp_store_mid 48 _ _ rfl w2.heap.size 0 (arrC X ++ [Value.map (some (w2.heap.size + 1))]).toArray rfl rfl ?st (by rw [(HC.out _).1]; exact jm_info) (HC.out _).2 ?_
          case st => rw [(HC.out _).1]; exact h17
          have hmm := Mp.made Tryz.prog 56 (w2.alloc (.cells zeroJ.toArray 48)).drew
          have hze : (w2.alloc (.cells zeroJ.toArray 48)).drew.heap.size = w2.heap.size + 1 := by rw [World.size_drew, World.size_alloc]
          rw [hze] at hmm
          have hfin := jm_made (w := (w2.alloc (.cells zeroJ.toArray 48)).drew.alloc (.map #[] 0)) (n := w2.heap.size) (b := w2.heap.size + 1) hX h17 hmm (by omega)
          have hBf : Below w2.heap.size w2 (((w2.alloc (.cells zeroJ.toArray 48)).drew.alloc (.map #[] 0)).setCells w2.heap.size 0 (arrC X ++ [Value.map (some (w2.heap.size + 1))])) := below_setCells (Nat.le_refl _) _ _ _ (below_then (below_alloc w2 _).drew _)
          refine hK.out _ _ (World.rangeAt_setCells_apart hHeld _ _ _ (.inl (by omega))) (fun hHeld => ?_)
          clear hK K
          refine wpAnyH_done (by kernel_rfl) ?_ _
          go_wp2_with fail
          go_meet
          exact ⟨_, _, rfl, hfin.1, hfin.2, hBf, Nat.le_refl _, by omega⟩
      case rest =>
      obtain ⟨n, b, rfl, hJm, hMp, hBc, hn, hb⟩ := hcut
      have hlt2 : w.heap.size + 1 < w2.heap.size := some_lt (ht2 0 (by rw [zeroJ_size]; omega)).1
      have ht3 : wc.there (w.heap.size + 1) 0 17 := there_on (by rw [zeroJ_size] at ht2; exact ht2) hBc hlt2
      have hB3 := below_seq hB2 hBc
      have hz3 := hBc.size
      have HJ : Hid _ := hJm
      have HM : Hid _ := hMp
      have HT0 : Hid _ := ht3
      have hbc := hMp.lt
      have hnc := hJm.lt
      have hbw : w.heap.size + 1 < b := by omega
      have hwc := hB3.size
      clear hJm hMp ht3 ht2 hr2 hB2 hBc HI'
      go_wp2_with fail
      go_loopw [32] (fun ti wr => ∃ k : Nat, k ≤ ls.length ∧ ti = .int .i64 (k : Int) ∧ Hid (allOne X ls k = true) ∧ Hid (Jm wr n X b) ∧ Hid (Mp Tryz.prog 56 wr b ((ls.take k).map kvE)) ∧ Hid (StAt wr wc.heap.size (prevS ls k).1 (prevS ls k).2) ∧ Hid (wr.there (w.heap.size + 1) 0 17) ∧ Below w.heap.size w wr) (fun ti _ => ls.length - (intOf ti).toNat)
      case atStart => exact ⟨0, Nat.zero_le _, rfl, rfl, Jm.on HJ.out (below_alloc _ _), Mp.alloc HM.out _, StAt.made wc 0 0 56, World.there_alloc HT0.out _, below_then hB3 _⟩
      case round =>
        clear HJ HM HT0 hB3
        obtain ⟨k, hk, rfl, HA, HJ, HM, HS, HT, hB⟩ := hrel
        have hltR : w.heap.size + 1 < wr.heap.size := some_lt (HT.out 0 (by omega)).1
        by_cases hlt : k < ls.length
        · obtain ⟨g, off, rfl, hg, hc⟩ := hE (by omega)
          obtain ⟨q0, q1, q2⟩ := hc k hlt
          rw [← hB.cell (p := ⟨g, off + k * 3, none⟩) (by show g < _; omega)] at q0
          rw [← hB.cell (p := ⟨g, off + (k * 3 + 1), none⟩) (by show g < _; omega)] at q1
          rw [← hB.cell (p := ⟨g, off + (k * 3 + 2), none⟩) (by show g < _; omega)] at q2
          have j0 : (0 : Int) ≤ (k : Int) := by omega
          have j1 : (k : Int) < (ls.length : Int) := by omega
          have j2 : (k : Int) + 1 < 9223372036854775808 := by omega
          have HKN : Hid (okOne X (prevS ls k) (enAt ls k) = true → ∀ p ∈ (ls.take k).map kvE, p.1 ≠ (kvE (enAt ls k)).1) := fun h => key_new hlt HA.out h
          have HTS : Hid _ := take_step hlt
          have HNX : Hid (prevS ls (k + 1) = ((enAt ls k).1, (enAt ls k).2.1)) := rfl
          have HAX : Hid (okOne X (prevS ls k) (enAt ls k) = true → allOne X ls (k + 1) = true) := fun h => allOne_step HA.out h
          have HBD : Hid (okOne X (prevS ls k) (enAt ls k) = false → okJ X ls = false) := fun h => okJ_bad hlt h
          have HOK : Hid (okOne X (prevS ls k) (enAt ls k) = ((stOK (enAt ls k).1 (enAt ls k).2.1 && decide ((enAt ls k).2.2.size ≤ 200)) && (lessS (prevS ls k).1 (prevS ls k).2 (enAt ls k).1 (enAt ls k).2.1 && decide ((enAt ls k).1 ≤ X.getD (enAt ls k).2.1.toNat 0)))) := rfl
          obtain ⟨t, a, s, he⟩ : ∃ t a s, enAt ls k = (t, a, s) := ⟨_, _, _, rfl⟩
          obtain ⟨p1, p2, hp⟩ : ∃ p1 p2, prevS ls k = (p1, p2) := ⟨_, _, rfl⟩
          rw [he] at q0 q1 q2 HKN HTS HNX HAX HBD HOK
          rw [hp] at HS HKN HAX HBD HOK
          replace q0 : wr.cell? ⟨g, off + k * 3, none⟩ = some (.int .i64 t) := q0
          replace q1 : wr.cell? ⟨g, off + k * 3 + 1, none⟩ = some (.int .i64 a) := q1
          replace q2 : wr.cell? ⟨g, off + k * 3 + 2, none⟩ = some (.string s) := q2
          have HX3 : Hid (X.length = 16) := hX
          clear hc hE HA he hp hX hok hv hC hs1 hg hz3 hn hb hlt2
          go_upto_region 9 with fail
          have hB9 := (Below.refl (wr.alloc (.cells #[.int .i64 t, .int .i64 a, .string s] 60)).heap.size (wr.alloc (.cells #[.int .i64 t, .int .i64 a, .string s] 60))).drew
          have HF : Hid (∀ wx, Below (wr.alloc (.cells #[.int .i64 t, .int .i64 a, .string s] 60)).heap.size (wr.alloc (.cells #[.int .i64 t, .int .i64 a, .string s] 60)) wx → wx.cell? ⟨wr.heap.size, 0, none⟩ = some (.int .i64 t) ∧ wx.cell? ⟨wr.heap.size, 1, none⟩ = some (.int .i64 a) ∧ wx.cell? ⟨wr.heap.size, 2, none⟩ = some (.string s) ∧ wx.cell? ⟨wc.heap.size, 0, none⟩ = some (.int .i64 p1) ∧ wx.cell? ⟨wc.heap.size, 1, none⟩ = some (.int .i64 p2)) := fun wx h => by
            have h1 := three_cells h
            have h2 := StAt.on HS.out (below_seq (below_alloc wr _) h)
            exact ⟨h1.1, h1.2.1, h1.2.2, h2.1, h2.2.1⟩
          have hS := fun w => entStamp_any t a s w
          have hO := fun w => entOK_any t a s w
          have hL := fun w => implStampLess_any p1 p2 t a w
          cases h1 : (stOK t a && decide (s.size ≤ 200)) with
          | false =>
            have HJ0 : Hid (okJ X ls = false) := HBD.out (by rw [HOK.out]; show ((stOK t a && decide (s.size ≤ 200)) && _) = false; rw [h1]; rfl)
            rw [h1] at hO
            clear h1 hS hL HKN HAX HBD HOK q0 q1 q2
            refine wp_region_held_drew (S := fun w' => w'.cell? ⟨wr.heap.size, 0, none⟩ = some (.int .i64 t) ∧ w'.cell? ⟨wr.heap.size, 1, none⟩ = some (.int .i64 a) ∧ w'.cell? ⟨wr.heap.size, 2, none⟩ = some (.string s) ∧ w'.cell? ⟨wc.heap.size, 0, none⟩ = some (.int .i64 p1) ∧ w'.cell? ⟨wc.heap.size, 1, none⟩ = some (.int .i64 p2)) (by kernel_rfl) (HF.out _ hB9) (fun hHeld => ?_)
            refine tkH 0 ((.agg #[.int .i64 t, .int .i64 a, .string s])) rfl (Or.inl ⟨by rfl, by intro w hSw; obtain ⟨s0, s1, s2, s3, s4⟩ := hSw; go_simp⟩) hHeld ?_
            simp only [tkS, Act.put]
            refine wpAnyH_ready (rs := [1]) (by kernel_rfl) (by simp) ?_
            refine AllReadyH.cons rfl (fun K hK => ?_) AllReadyH.nil
            go_simp
            refine (hO _).mono ?_
            rintro e wn ⟨rfl, hbn⟩
            replace hB9 := below_seq hB9 hbn
            clear hbn
            go_wp2_with fail
            refine hK.out _ _ (HF.out _ hB9) (fun hHeld => ?_)
            clear hK K
            refine tkH 2 ((.bool true)) rfl (Or.inl ⟨by rfl, by intro w hSw; obtain ⟨s0, s1, s2, s3, s4⟩ := hSw; go_simp⟩) hHeld ?_
            simp only [tkS, Act.put]
            refine tkH 3 ((.bool true)) rfl (Or.inl ⟨by rfl, by intro w hSw; obtain ⟨s0, s1, s2, s3, s4⟩ := hSw; go_simp⟩) hHeld ?_
            simp only [tkS, Act.put]
            refine tkH 4 (undef) rfl (Or.inr ⟨by rfl, rfl⟩) hHeld ?_
            simp only [tkS, Act.put]
            refine tkH 5 (undef) rfl (Or.inr ⟨by rfl, rfl⟩) hHeld ?_
            simp only [tkS, Act.put]
            refine tkH 6 (undef) rfl (Or.inr ⟨by rfl, rfl⟩) hHeld ?_
            simp only [tkS, Act.put]
            refine wpAnyH_ready (rs := [7]) (by kernel_rfl) (by simp) ?_
            refine AllReadyH.cons rfl (fun K hK => ?_) AllReadyH.nil
            go_simp
            refine hK.out _ _ (HF.out _ hB9) (fun hHeld => ?_)
            clear hK K
            refine wpAnyH_ready (rs := [8]) (by kernel_rfl) (by simp) ?_
            refine AllReadyH.cons rfl (fun K hK => ?_) AllReadyH.nil
            go_simp
            refine hK.out _ _ (HF.out _ hB9) (fun hHeld => ?_)
            clear hK K
            refine tkH 9 (undef) rfl (Or.inr ⟨by rfl, rfl⟩) hHeld ?_
            simp only [tkS, Act.put]
            refine tkH 10 ((.bool true)) rfl (Or.inl ⟨by rfl, by intro w hSw; obtain ⟨s0, s1, s2, s3, s4⟩ := hSw; go_simp⟩) hHeld ?_
            simp only [tkS, Act.put]
            refine tkH 11 ((.bool true)) rfl (Or.inl ⟨by rfl, by intro w hSw; obtain ⟨s0, s1, s2, s3, s4⟩ := hSw; go_simp⟩) hHeld ?_
            simp only [tkS, Act.put]
            refine tkH 12 (undef) rfl (Or.inr ⟨by rfl, rfl⟩) hHeld ?_
            simp only [tkS, Act.put]
            refine tkH 13 (undef) rfl (Or.inr ⟨by rfl, rfl⟩) hHeld ?_
            simp only [tkS, Act.put]
            refine wpAnyH_ready (rs := [14]) (by kernel_rfl) (by simp) ?_
            refine AllReadyH.cons rfl (fun K hK => ?_) AllReadyH.nil
            go_simp
            refine hK.out _ _ (HF.out _ hB9) (fun hHeld => ?_)
            clear hK K
            refine wpAnyH_ready (rs := [15]) (by kernel_rfl) (by simp) ?_
            refine AllReadyH.cons rfl (fun K hK => ?_) AllReadyH.nil
            go_simp
            refine hK.out _ _ (HF.out _ hB9) (fun hHeld => ?_)
            clear hK K
            refine tkH 16 (undef) rfl (Or.inr ⟨by rfl, rfl⟩) hHeld ?_
            simp only [tkS, Act.put]
            refine tkH 17 ((.bool true)) rfl (Or.inl ⟨by rfl, by intro w hSw; obtain ⟨s0, s1, s2, s3, s4⟩ := hSw; go_simp⟩) hHeld ?_
            simp only [tkS, Act.put]
            refine wpAnyH_done (by kernel_rfl) ?_ _
            have ht9 : wn.there (w.heap.size + 1) 0 zeroJ.toArray.size := by rw [zeroJ_size]; exact there_on HT.out (below_seq (below_alloc wr _) hB9) hltR
            have hB8 : Below w.heap.size w wn := below_seq hB (below_seq (below_alloc wr _) hB9)
            have hld := zero_load (w := wn) (n := w.heap.size + 1) (by rw [← zeroJ_size]; exact ht9)
            have hzb := built_zero wn
            have hiA := jm_infoA
            have hone := zeroJ_one
            obtain ⟨Z, hZ⟩ : ∃ Z, zeroJ = Z := ⟨_, rfl⟩
            rw [hZ] at ht9 hld hzb hiA hone
            have HL : Hid _ := hld
            have HZ : Hid _ := hZ
            clear hld hZ
            go_upto_region 10 with fail
            refine wp_region_lit ?_
            refine wpList_build rfl _ _ rfl #[] (by simp) _ hzb ?_
            refine wpList_store_mid rfl 48 _ _ rfl (w.heap.size + 1) 0 Z.toArray rfl rfl ht9 hiA hone ?_
            clear ht9 hzb hiA hone
            go_wp2_with fail
            refine bodyPost_ret (v := .tuple #[.agg zeroJ.toArray, .bool false]) ?_ rfl (Or.inr ⟨HJ0.out, rfl, below_setCells (by omega) _ _ _ hB8⟩)
            rw [HZ.out]
            simp [results, Tryz.results32, asAddr, HL.out]
          | true =>
            have h1' := h1
            rw [h1] at hO
            simp only [Bool.and_eq_true, decide_eq_true_eq] at h1'
            obtain ⟨h11, h12⟩ := h1'
            have hst : 1 ≤ t ∧ t ≤ 1000000000000 ∧ 0 ≤ a ∧ a < 16 := of_decide_eq_true h11
            cases h2 : lessS p1 p2 t a with
            | false =>
              have HJ0 : Hid (okJ X ls = false) := HBD.out (by rw [HOK.out]; show ((stOK t a && decide (s.size ≤ 200)) && (lessS p1 p2 t a && _)) = false; rw [h1, h2]; rfl)
              rw [h2] at hL
              clear h1 h2 h11 h12 hst HKN HAX HBD HOK q0 q1 q2
              refine wp_region_held_drew (S := fun w' => w'.cell? ⟨wr.heap.size, 0, none⟩ = some (.int .i64 t) ∧ w'.cell? ⟨wr.heap.size, 1, none⟩ = some (.int .i64 a) ∧ w'.cell? ⟨wr.heap.size, 2, none⟩ = some (.string s) ∧ w'.cell? ⟨wc.heap.size, 0, none⟩ = some (.int .i64 p1) ∧ w'.cell? ⟨wc.heap.size, 1, none⟩ = some (.int .i64 p2)) (by kernel_rfl) (HF.out _ hB9) (fun hHeld => ?_)
              refine tkH 0 ((.agg #[.int .i64 t, .int .i64 a, .string s])) rfl (Or.inl ⟨by rfl, by intro w hSw; obtain ⟨s0, s1, s2, s3, s4⟩ := hSw; go_simp⟩) hHeld ?_
              simp only [tkS, Act.put]
              refine wpAnyH_ready (rs := [1]) (by kernel_rfl) (by simp) ?_
              refine AllReadyH.cons rfl (fun K hK => ?_) AllReadyH.nil
              go_simp
              refine (hO _).mono ?_
              rintro e wn ⟨rfl, hbn⟩
              replace hB9 := below_seq hB9 hbn
              clear hbn
              go_wp2_with fail
              refine hK.out _ _ (HF.out _ hB9) (fun hHeld => ?_)
              clear hK K
              refine tkH 2 ((.bool false)) rfl (Or.inl ⟨by rfl, by intro w hSw; obtain ⟨s0, s1, s2, s3, s4⟩ := hSw; go_simp⟩) hHeld ?_
              simp only [tkS, Act.put]
              refine tkH 3 ((.bool false)) rfl (Or.inl ⟨by rfl, by intro w hSw; obtain ⟨s0, s1, s2, s3, s4⟩ := hSw; go_simp⟩) hHeld ?_
              simp only [tkS, Act.put]
              refine tkH 4 ((.agg #[.int .i64 p1, .int .i64 p2])) rfl (Or.inl ⟨by rfl, by intro w hSw; obtain ⟨s0, s1, s2, s3, s4⟩ := hSw; go_simp⟩) hHeld ?_
              simp only [tkS, Act.put]
              refine tkH 5 ((.agg #[.int .i64 t, .int .i64 a, .string s])) rfl (Or.inl ⟨by rfl, by intro w hSw; obtain ⟨s0, s1, s2, s3, s4⟩ := hSw; go_simp⟩) hHeld ?_
              simp only [tkS, Act.put]
              refine tkH 6 ((.iface 60 (.agg #[.int .i64 t, .int .i64 a, .string s]))) rfl (Or.inl ⟨by rfl, by intro w hSw; obtain ⟨s0, s1, s2, s3, s4⟩ := hSw; go_simp⟩) hHeld ?_
              simp only [tkS, Act.put]
              refine wpAnyH_ready (rs := [7]) (by kernel_rfl) (by simp) ?_
              refine AllReadyH.cons rfl (fun K hK => ?_) AllReadyH.nil
              go_simp
              refine (hS _).mono ?_
              rintro e wn ⟨rfl, hbn⟩
              replace hB9 := below_seq hB9 hbn
              clear hbn
              go_wp2_with fail
              refine hK.out _ _ (HF.out _ hB9) (fun hHeld => ?_)
              clear hK K
              refine wpAnyH_ready (rs := [8]) (by kernel_rfl) (by simp) ?_
              refine AllReadyH.cons rfl (fun K hK => ?_) AllReadyH.nil
              go_simp
              refine (hL _).mono ?_
              rintro e wn ⟨rfl, hbn⟩
              replace hB9 := below_seq hB9 hbn
              clear hbn
              go_wp2_with fail
              refine hK.out _ _ (HF.out _ hB9) (fun hHeld => ?_)
              clear hK K
              refine tkH 9 ((.bool true)) rfl (Or.inl ⟨by rfl, by intro w hSw; obtain ⟨s0, s1, s2, s3, s4⟩ := hSw; go_simp⟩) hHeld ?_
              simp only [tkS, Act.put]
              refine tkH 10 ((.bool true)) rfl (Or.inl ⟨by rfl, by intro w hSw; obtain ⟨s0, s1, s2, s3, s4⟩ := hSw; go_simp⟩) hHeld ?_
              simp only [tkS, Act.put]
              refine tkH 11 ((.bool true)) rfl (Or.inl ⟨by rfl, by intro w hSw; obtain ⟨s0, s1, s2, s3, s4⟩ := hSw; go_simp⟩) hHeld ?_
              simp only [tkS, Act.put]
              refine tkH 12 (undef) rfl (Or.inr ⟨by rfl, rfl⟩) hHeld ?_
              simp only [tkS, Act.put]
              refine tkH 13 (undef) rfl (Or.inr ⟨by rfl, rfl⟩) hHeld ?_
              simp only [tkS, Act.put]
              refine wpAnyH_ready (rs := [14]) (by kernel_rfl) (by simp) ?_
              refine AllReadyH.cons rfl (fun K hK => ?_) AllReadyH.nil
              go_simp
              refine hK.out _ _ (HF.out _ hB9) (fun hHeld => ?_)
              clear hK K
              refine wpAnyH_ready (rs := [15]) (by kernel_rfl) (by simp) ?_
              refine AllReadyH.cons rfl (fun K hK => ?_) AllReadyH.nil
              go_simp
              refine hK.out _ _ (HF.out _ hB9) (fun hHeld => ?_)
              clear hK K
              refine tkH 16 (undef) rfl (Or.inr ⟨by rfl, rfl⟩) hHeld ?_
              simp only [tkS, Act.put]
              refine tkH 17 ((.bool true)) rfl (Or.inl ⟨by rfl, by intro w hSw; obtain ⟨s0, s1, s2, s3, s4⟩ := hSw; go_simp⟩) hHeld ?_
              simp only [tkS, Act.put]
              refine wpAnyH_done (by kernel_rfl) ?_ _
              have ht9 : wn.there (w.heap.size + 1) 0 zeroJ.toArray.size := by rw [zeroJ_size]; exact there_on HT.out (below_seq (below_alloc wr _) hB9) hltR
              have hB8 : Below w.heap.size w wn := below_seq hB (below_seq (below_alloc wr _) hB9)
              have hld := zero_load (w := wn) (n := w.heap.size + 1) (by rw [← zeroJ_size]; exact ht9)
              have hzb := built_zero wn
              have hiA := jm_infoA
              have hone := zeroJ_one
              obtain ⟨Z, hZ⟩ : ∃ Z, zeroJ = Z := ⟨_, rfl⟩
              rw [hZ] at ht9 hld hzb hiA hone
              have HL : Hid _ := hld
              have HZ : Hid _ := hZ
              clear hld hZ
              go_upto_region 10 with fail
              refine wp_region_lit ?_
              refine wpList_build rfl _ _ rfl #[] (by simp) _ hzb ?_
              refine wpList_store_mid rfl 48 _ _ rfl (w.heap.size + 1) 0 Z.toArray rfl rfl ht9 hiA hone ?_
              clear ht9 hzb hiA hone
              go_wp2_with fail
              refine bodyPost_ret (v := .tuple #[.agg zeroJ.toArray, .bool false]) ?_ rfl (Or.inr ⟨HJ0.out, rfl, below_setCells (by omega) _ _ _ hB8⟩)
              rw [HZ.out]
              simp [results, Tryz.results32, asAddr, HL.out]
            | true =>
              rw [h2] at hL
              obtain ⟨a', rfl⟩ : ∃ m : Nat, a = (m : Int) := ⟨a.toNat, by omega⟩
              have hW : ∀ wx, Below (wr.alloc (.cells #[.int .i64 t, .int .i64 (a' : Int), .string s] 60)).heap.size (wr.alloc (.cells #[.int .i64 t, .int .i64 (a' : Int), .string s] 60)) wx → Calls Tryz.prog 50 #[.pointer (some ⟨n, 0, none⟩), .agg #[.int .i64 t, .int .i64 (a' : Int)]] wx fun e w' => e = .returned (.bool (decide (t ≤ X.getD a' 0))) ∧ Below wx.heap.size wx w' := fun wx h => saw_any wx n b X t a' (Jm.on HJ.out (below_seq (below_alloc wr _) h)) HX3.out (by omega)
              cases h3 : decide (t ≤ X.getD a' 0) with
              | false =>
                have HJ0 : Hid (okJ X ls = false) := HBD.out (by rw [HOK.out]; show ((stOK t (a' : Int) && decide (s.size ≤ 200)) && (lessS p1 p2 t (a' : Int) && decide (t ≤ X.getD (a' : Int).toNat 0))) = false; rw [h1, h2, Int.toNat_natCast, h3]; rfl)
                rw [h3] at hW
                clear h1 h2 h3 h11 h12 hst HKN HAX HBD HOK q0 q1 q2
                refine wp_region_held_drew (S := fun w' => w'.cell? ⟨wr.heap.size, 0, none⟩ = some (.int .i64 t) ∧ w'.cell? ⟨wr.heap.size, 1, none⟩ = some (.int .i64 (a' : Int)) ∧ w'.cell? ⟨wr.heap.size, 2, none⟩ = some (.string s) ∧ w'.cell? ⟨wc.heap.size, 0, none⟩ = some (.int .i64 p1) ∧ w'.cell? ⟨wc.heap.size, 1, none⟩ = some (.int .i64 p2)) (by kernel_rfl) (HF.out _ hB9) (fun hHeld => ?_)
                refine tkH 0 ((.agg #[.int .i64 t, .int .i64 (a' : Int), .string s])) rfl (Or.inl ⟨by rfl, by intro w hSw; obtain ⟨s0, s1, s2, s3, s4⟩ := hSw; go_simp⟩) hHeld ?_
                simp only [tkS, Act.put]
                refine wpAnyH_ready (rs := [1]) (by kernel_rfl) (by simp) ?_
                refine AllReadyH.cons rfl (fun K hK => ?_) AllReadyH.nil
                go_simp
                refine (hO _).mono ?_
                rintro e wn ⟨rfl, hbn⟩
                replace hB9 := below_seq hB9 hbn
                clear hbn
                go_wp2_with fail
                refine hK.out _ _ (HF.out _ hB9) (fun hHeld => ?_)
                clear hK K
                refine tkH 2 ((.bool false)) rfl (Or.inl ⟨by rfl, by intro w hSw; obtain ⟨s0, s1, s2, s3, s4⟩ := hSw; go_simp⟩) hHeld ?_
                simp only [tkS, Act.put]
                refine tkH 3 ((.bool false)) rfl (Or.inl ⟨by rfl, by intro w hSw; obtain ⟨s0, s1, s2, s3, s4⟩ := hSw; go_simp⟩) hHeld ?_
                simp only [tkS, Act.put]
                refine tkH 4 ((.agg #[.int .i64 p1, .int .i64 p2])) rfl (Or.inl ⟨by rfl, by intro w hSw; obtain ⟨s0, s1, s2, s3, s4⟩ := hSw; go_simp⟩) hHeld ?_
                simp only [tkS, Act.put]
                refine tkH 5 ((.agg #[.int .i64 t, .int .i64 (a' : Int), .string s])) rfl (Or.inl ⟨by rfl, by intro w hSw; obtain ⟨s0, s1, s2, s3, s4⟩ := hSw; go_simp⟩) hHeld ?_
                simp only [tkS, Act.put]
                refine tkH 6 ((.iface 60 (.agg #[.int .i64 t, .int .i64 (a' : Int), .string s]))) rfl (Or.inl ⟨by rfl, by intro w hSw; obtain ⟨s0, s1, s2, s3, s4⟩ := hSw; go_simp⟩) hHeld ?_
                simp only [tkS, Act.put]
                refine wpAnyH_ready (rs := [7]) (by kernel_rfl) (by simp) ?_
                refine AllReadyH.cons rfl (fun K hK => ?_) AllReadyH.nil
                go_simp
                refine (hS _).mono ?_
                rintro e wn ⟨rfl, hbn⟩
                replace hB9 := below_seq hB9 hbn
                clear hbn
                go_wp2_with fail
                refine hK.out _ _ (HF.out _ hB9) (fun hHeld => ?_)
                clear hK K
                refine wpAnyH_ready (rs := [8]) (by kernel_rfl) (by simp) ?_
                refine AllReadyH.cons rfl (fun K hK => ?_) AllReadyH.nil
                go_simp
                refine (hL _).mono ?_
                rintro e wn ⟨rfl, hbn⟩
                replace hB9 := below_seq hB9 hbn
                clear hbn
                go_wp2_with fail
                refine hK.out _ _ (HF.out _ hB9) (fun hHeld => ?_)
                clear hK K
                refine tkH 9 ((.bool false)) rfl (Or.inl ⟨by rfl, by intro w hSw; obtain ⟨s0, s1, s2, s3, s4⟩ := hSw; go_simp⟩) hHeld ?_
                simp only [tkS, Act.put]
                refine tkH 10 ((.bool false)) rfl (Or.inl ⟨by rfl, by intro w hSw; obtain ⟨s0, s1, s2, s3, s4⟩ := hSw; go_simp⟩) hHeld ?_
                simp only [tkS, Act.put]
                refine tkH 11 ((.bool false)) rfl (Or.inl ⟨by rfl, by intro w hSw; obtain ⟨s0, s1, s2, s3, s4⟩ := hSw; go_simp⟩) hHeld ?_
                simp only [tkS, Act.put]
                refine tkH 12 ((.agg #[.int .i64 t, .int .i64 (a' : Int), .string s])) rfl (Or.inl ⟨by rfl, by intro w hSw; obtain ⟨s0, s1, s2, s3, s4⟩ := hSw; go_simp⟩) hHeld ?_
                simp only [tkS, Act.put]
                refine tkH 13 ((.iface 60 (.agg #[.int .i64 t, .int .i64 (a' : Int), .string s]))) rfl (Or.inl ⟨by rfl, by intro w hSw; obtain ⟨s0, s1, s2, s3, s4⟩ := hSw; go_simp⟩) hHeld ?_
                simp only [tkS, Act.put]
                refine wpAnyH_ready (rs := [14]) (by kernel_rfl) (by simp) ?_
                refine AllReadyH.cons rfl (fun K hK => ?_) AllReadyH.nil
                go_simp
                refine (hS _).mono ?_
                rintro e wn ⟨rfl, hbn⟩
                replace hB9 := below_seq hB9 hbn
                clear hbn
                go_wp2_with fail
                refine hK.out _ _ (HF.out _ hB9) (fun hHeld => ?_)
                clear hK K
                refine wpAnyH_ready (rs := [15]) (by kernel_rfl) (by simp) ?_
                refine AllReadyH.cons rfl (fun K hK => ?_) AllReadyH.nil
                go_simp
                refine (hW _ hB9).mono ?_
                rintro e wn ⟨rfl, hbn⟩
                replace hB9 := below_seq hB9 hbn
                clear hbn
                go_wp2_with fail
                refine hK.out _ _ (HF.out _ hB9) (fun hHeld => ?_)
                clear hK K
                refine tkH 16 ((.bool true)) rfl (Or.inl ⟨by rfl, by intro w hSw; obtain ⟨s0, s1, s2, s3, s4⟩ := hSw; go_simp⟩) hHeld ?_
                simp only [tkS, Act.put]
                refine tkH 17 ((.bool true)) rfl (Or.inl ⟨by rfl, by intro w hSw; obtain ⟨s0, s1, s2, s3, s4⟩ := hSw; go_simp⟩) hHeld ?_
                simp only [tkS, Act.put]
                refine wpAnyH_done (by kernel_rfl) ?_ _
                have ht9 : wn.there (w.heap.size + 1) 0 zeroJ.toArray.size := by rw [zeroJ_size]; exact there_on HT.out (below_seq (below_alloc wr _) hB9) hltR
                have hB8 : Below w.heap.size w wn := below_seq hB (below_seq (below_alloc wr _) hB9)
                have hld := zero_load (w := wn) (n := w.heap.size + 1) (by rw [← zeroJ_size]; exact ht9)
                have hzb := built_zero wn
                have hiA := jm_infoA
                have hone := zeroJ_one
                obtain ⟨Z, hZ⟩ : ∃ Z, zeroJ = Z := ⟨_, rfl⟩
                rw [hZ] at ht9 hld hzb hiA hone
                have HL : Hid _ := hld
                have HZ : Hid _ := hZ
                clear hld hZ
                go_upto_region 10 with fail
                refine wp_region_lit ?_
                refine wpList_build rfl _ _ rfl #[] (by simp) _ hzb ?_
                refine wpList_store_mid rfl 48 _ _ rfl (w.heap.size + 1) 0 Z.toArray rfl rfl ht9 hiA hone ?_
                clear ht9 hzb hiA hone
                go_wp2_with fail
                refine bodyPost_ret (v := .tuple #[.agg zeroJ.toArray, .bool false]) ?_ rfl (Or.inr ⟨HJ0.out, rfl, below_setCells (by omega) _ _ _ hB8⟩)
                rw [HZ.out]
                simp [results, Tryz.results32, asAddr, HL.out]
              | true =>
                have HG : Hid (okOne X (p1, p2) (t, (a' : Int), s) = true) := by rw [HOK.out]; show ((stOK t (a' : Int) && decide (s.size ≤ 200)) && (lessS p1 p2 t (a' : Int) && decide (t ≤ X.getD (a' : Int).toNat 0))) = true; rw [h1, h2, Int.toNat_natCast, h3]; rfl
                rw [h3] at hW
                clear h1 h2 h3 h11 h12 HBD HOK q0 q1 q2
                refine wp_region_held_drew (S := fun w' => w'.cell? ⟨wr.heap.size, 0, none⟩ = some (.int .i64 t) ∧ w'.cell? ⟨wr.heap.size, 1, none⟩ = some (.int .i64 (a' : Int)) ∧ w'.cell? ⟨wr.heap.size, 2, none⟩ = some (.string s) ∧ w'.cell? ⟨wc.heap.size, 0, none⟩ = some (.int .i64 p1) ∧ w'.cell? ⟨wc.heap.size, 1, none⟩ = some (.int .i64 p2)) (by kernel_rfl) (HF.out _ hB9) (fun hHeld => ?_)
                refine tkH 0 ((.agg #[.int .i64 t, .int .i64 (a' : Int), .string s])) rfl (Or.inl ⟨by rfl, by intro w hSw; obtain ⟨s0, s1, s2, s3, s4⟩ := hSw; go_simp⟩) hHeld ?_
                simp only [tkS, Act.put]
                refine wpAnyH_ready (rs := [1]) (by kernel_rfl) (by simp) ?_
                refine AllReadyH.cons rfl (fun K hK => ?_) AllReadyH.nil
                go_simp
                refine (hO _).mono ?_
                rintro e wn ⟨rfl, hbn⟩
                replace hB9 := below_seq hB9 hbn
                clear hbn
                go_wp2_with fail
                refine hK.out _ _ (HF.out _ hB9) (fun hHeld => ?_)
                clear hK K
                refine tkH 2 ((.bool false)) rfl (Or.inl ⟨by rfl, by intro w hSw; obtain ⟨s0, s1, s2, s3, s4⟩ := hSw; go_simp⟩) hHeld ?_
                simp only [tkS, Act.put]
                refine tkH 3 ((.bool false)) rfl (Or.inl ⟨by rfl, by intro w hSw; obtain ⟨s0, s1, s2, s3, s4⟩ := hSw; go_simp⟩) hHeld ?_
                simp only [tkS, Act.put]
                refine tkH 4 ((.agg #[.int .i64 p1, .int .i64 p2])) rfl (Or.inl ⟨by rfl, by intro w hSw; obtain ⟨s0, s1, s2, s3, s4⟩ := hSw; go_simp⟩) hHeld ?_
                simp only [tkS, Act.put]
                refine tkH 5 ((.agg #[.int .i64 t, .int .i64 (a' : Int), .string s])) rfl (Or.inl ⟨by rfl, by intro w hSw; obtain ⟨s0, s1, s2, s3, s4⟩ := hSw; go_simp⟩) hHeld ?_
                simp only [tkS, Act.put]
                refine tkH 6 ((.iface 60 (.agg #[.int .i64 t, .int .i64 (a' : Int), .string s]))) rfl (Or.inl ⟨by rfl, by intro w hSw; obtain ⟨s0, s1, s2, s3, s4⟩ := hSw; go_simp⟩) hHeld ?_
                simp only [tkS, Act.put]
                refine wpAnyH_ready (rs := [7]) (by kernel_rfl) (by simp) ?_
                refine AllReadyH.cons rfl (fun K hK => ?_) AllReadyH.nil
                go_simp
                refine (hS _).mono ?_
                rintro e wn ⟨rfl, hbn⟩
                replace hB9 := below_seq hB9 hbn
                clear hbn
                go_wp2_with fail
                refine hK.out _ _ (HF.out _ hB9) (fun hHeld => ?_)
                clear hK K
                refine wpAnyH_ready (rs := [8]) (by kernel_rfl) (by simp) ?_
                refine AllReadyH.cons rfl (fun K hK => ?_) AllReadyH.nil
                go_simp
                refine (hL _).mono ?_
                rintro e wn ⟨rfl, hbn⟩
                replace hB9 := below_seq hB9 hbn
                clear hbn
                go_wp2_with fail
                refine hK.out _ _ (HF.out _ hB9) (fun hHeld => ?_)
                clear hK K
                refine tkH 9 ((.bool false)) rfl (Or.inl ⟨by rfl, by intro w hSw; obtain ⟨s0, s1, s2, s3, s4⟩ := hSw; go_simp⟩) hHeld ?_
                simp only [tkS, Act.put]
                refine tkH 10 ((.bool false)) rfl (Or.inl ⟨by rfl, by intro w hSw; obtain ⟨s0, s1, s2, s3, s4⟩ := hSw; go_simp⟩) hHeld ?_
                simp only [tkS, Act.put]
                refine tkH 11 ((.bool false)) rfl (Or.inl ⟨by rfl, by intro w hSw; obtain ⟨s0, s1, s2, s3, s4⟩ := hSw; go_simp⟩) hHeld ?_
                simp only [tkS, Act.put]
                refine tkH 12 ((.agg #[.int .i64 t, .int .i64 (a' : Int), .string s])) rfl (Or.inl ⟨by rfl, by intro w hSw; obtain ⟨s0, s1, s2, s3, s4⟩ := hSw; go_simp⟩) hHeld ?_
                simp only [tkS, Act.put]
                refine tkH 13 ((.iface 60 (.agg #[.int .i64 t, .int .i64 (a' : Int), .string s]))) rfl (Or.inl ⟨by rfl, by intro w hSw; obtain ⟨s0, s1, s2, s3, s4⟩ := hSw; go_simp⟩) hHeld ?_
                simp only [tkS, Act.put]
                refine wpAnyH_ready (rs := [14]) (by kernel_rfl) (by simp) ?_
                refine AllReadyH.cons rfl (fun K hK => ?_) AllReadyH.nil
                go_simp
                refine (hS _).mono ?_
                rintro e wn ⟨rfl, hbn⟩
                replace hB9 := below_seq hB9 hbn
                clear hbn
                go_wp2_with fail
                refine hK.out _ _ (HF.out _ hB9) (fun hHeld => ?_)
                clear hK K
                refine wpAnyH_ready (rs := [15]) (by kernel_rfl) (by simp) ?_
                refine AllReadyH.cons rfl (fun K hK => ?_) AllReadyH.nil
                go_simp
                refine (hW _ hB9).mono ?_
                rintro e wn ⟨rfl, hbn⟩
                replace hB9 := below_seq hB9 hbn
                clear hbn
                go_wp2_with fail
                refine hK.out _ _ (HF.out _ hB9) (fun hHeld => ?_)
                clear hK K
                refine tkH 16 ((.bool false)) rfl (Or.inl ⟨by rfl, by intro w hSw; obtain ⟨s0, s1, s2, s3, s4⟩ := hSw; go_simp⟩) hHeld ?_
                simp only [tkS, Act.put]
                refine tkH 17 ((.bool false)) rfl (Or.inl ⟨by rfl, by intro w hSw; obtain ⟨s0, s1, s2, s3, s4⟩ := hSw; go_simp⟩) hHeld ?_
                simp only [tkS, Act.put]
                refine wpAnyH_done (by kernel_rfl) ?_ _
                have hBr := below_seq (below_alloc wr _) hB9
                have hM9 := Mp.on HM.out hBr
                have hJ9 := Jm.on HJ.out hBr
                have hS9 := StAt.on HS.out hBr
                have ht9 := there_on HT.out hBr hltR
                have hB8 := below_seq hB hBr
                have hbl := Mp.lt HM.out
                obtain ⟨f0, f1, f2, _, _⟩ := HF.out _ hB9
                obtain ⟨l, hkl⟩ := stKey (t := t) (a := (a' : Int)) (by omega) (by omega) (by omega) (by omega)
                have hP : ∀ w1, Mp Tryz.prog 56 w1 b ((ls.take k).map kvE) → ∃ w', (Instr.mapUpdate 46 (.map (some b)) (.agg #[.int .i64 t, .int .i64 (a' : Int)]) (.agg #[.int .i64 t, .int .i64 (a' : Int), .string s])).run Tryz.prog w1 = .ok () w' ∧ Mp Tryz.prog 56 w' b ((ls.take (k + 1)).map kvE) ∧ w1.grownBy w' (some b) := fun w1 hM => by
                  rw [HTS.out]
                  exact Mp.new hM stKeyed Tryz.underlying46 hkl (HKN.out HG.out) _
                clear hO hS hL hW hB9 HF HM HJ HS HT hBr HKN hB
                go_wp2_with fail
                refine (put_any wn n b X _ _ t (a' : Int) s hJ9 HX3.out hM9 hP).mono ?_
                rintro e w5 ⟨rfl, hM5, hg5⟩
                have hnb := jm_ne hJ9 hM9
                have hJ5 := hJ9.kept hg5 (fun e => by cases e; exact hnb rfl)
                have hS5 := hS9.kept hg5 (fun e => by cases e; omega)
                have ht5 := there_grown ht9 hg5 (some_lt (ht9 0 (by omega)).1) (fun e => by cases e; omega)
                have hB5 : Below w.heap.size w w5 := hB8.grown hg5 hB8.size (fun k hk => by cases hk; omega)
                have f3 := hg5.cell (a := ⟨wr.heap.size, 0, none⟩) f0 (fun e => by simp at e; omega)
                have f4 := hg5.cell (a := ⟨wr.heap.size, 1, none⟩) f1 (fun e => by simp at e; omega)
                have f5 := hg5.cell (a := ⟨wr.heap.size, 2, none⟩) f2 (fun e => by simp at e; omega)
                clear f0 f1 f2 hJ9 hM9 hS9 ht9 hB8 hg5 hP
                go_wp2_with fail
                refine (entStamp_any t (a' : Int) s _).mono ?_
                rintro e w6 ⟨rfl, hb6⟩
                have hS6 := hS5.on hb6
                have hJ6 := hJ5.on hb6
                have hM6 := hM5.on hb6
                have ht6 := there_on ht5 hb6 (some_lt (ht5 0 (by omega)).1)
                have hB6 := below_seq hB5 hb6
                have HS6 : Hid _ := hS6
                obtain ⟨r0, r1, g0, g1⟩ := hS6
                clear f3 f4 f5 hS5 hJ5 hM5 ht5 hB5 hb6
                have hJ7 := (hJ6.kept (grownBy_set w6 wc.heap.size 0 (.int .i64 t)) (fun e => by cases e; omega)).kept (grownBy_set _ wc.heap.size 1 (.int .i64 (a' : Int))) (fun e => by cases e; omega)
                have hM7 := (hM6.set (n := wc.heap.size) (by omega) 0 (.int .i64 t)).set (n := wc.heap.size) (by omega) 1 (.int .i64 (a' : Int))
                have ht7 := there_grown (there_grown ht6 (grownBy_set w6 wc.heap.size 0 (.int .i64 t)) (some_lt (ht6 0 (by omega)).1) (fun e => by simp at e; omega)) (grownBy_set _ wc.heap.size 1 (.int .i64 (a' : Int))) (by rw [World.size_setCell]; exact some_lt (ht6 0 (by omega)).1) (fun e => by simp at e; omega)
                have hB7 := (hB6.setCell (p := ⟨wc.heap.size, 0, none⟩) hwc (.int .i64 t)).setCell (p := ⟨wc.heap.size, 1, none⟩) hwc (.int .i64 (a' : Int))
                have HS7 := StAt.put HS6.out t (a' : Int)
                have HAK := HAX.out HG.out
                clear hJ6 hM6 ht6 hB6 HAX HG
                go_wp2_with fail
                go_roundw
                case rel => exact ⟨k + 1, by omega, by go_num, HAK, hJ7, hM7, by rw [HNX.out]; exact HS7, ht7, hB7⟩
                case measure => simp [intOf]; omega
        · obtain rfl : k = ls.length := by omega
          have hJ := okJ_all hok hl HA.out
          have hM := HM.out
          rw [List.take_length] at hM
          have hJm := HJ.out
          have ht := HT.out
          have hlen : (arrC X ++ [Value.map (some b)]).length = 17 := by simp [arrC_len, hX]
          have hone : (arrC X ++ [Value.map (some b)]).toArray.all (·.oneCell') = true := all_oneCell_toArray (fun v hv => by rcases List.mem_append.1 hv with h | h; exact arrC_one X v h; rw [List.mem_singleton.1 h]; rfl)
          have HZ : Hid (∀ Y, Y = arrC X ++ [Value.map (some b)] → Ending.returned (.tuple #[.agg Y.toArray, .bool true]) = .returned (.tuple #[.agg (arrC X ++ [Value.map (some b)]).toArray, .bool true])) := fun Y h => by rw [h]
          obtain ⟨Z, hZ⟩ : ∃ Z, Z = arrC X ++ [Value.map (some b)] := ⟨_, rfl⟩
          have hR : wr.rangeAt n 0 Z := by rw [hZ]; exact hJm.1
          rw [← hZ] at hlen hone
          have hiL : (Tryz.prog.info? 48).map (·.size) = some Z.length := by rw [hlen]; exact jm_info
          have hiA : (Tryz.prog.info? 48).map (·.size) = some Z.toArray.size := by rw [List.size_toArray, hlen]; exact jm_info
          have hsz : Z.toArray.size = 17 := by rw [List.size_toArray]; exact hlen
          have htA : wr.there (w.heap.size + 1) 0 Z.toArray.size := by rw [hsz]; exact ht
          have hld := run_loadVar_mid (P := Tryz.prog) (wr.setCells (w.heap.size + 1) 0 Z) (w.heap.size + 1) 0 48 Z _ (World.rangeAt_setCells_same _ _ _ _ (by rw [hlen]; exact ht)) Tryz.underlying48 rfl hiL
          have HF : Hid (JoAns w X ls (.returned (.tuple #[.agg Z.toArray, .bool true])) (wr.setCells (w.heap.size + 1) 0 Z)) := Or.inl ⟨hJ, b, HZ.out Z hZ, by omega, mp_setCells hM (by omega) _ _, below_setCells (by omega) _ _ _ hB⟩
          have HL : Hid _ := hld
          clear hld hJ hM hJm ht hZ HZ hlen hsz hB HJ HM HS HT HA hok hX hv he hE
          go_upto_region 14 with fail
          refine wp_region_lit ?_
          refine wpList_load_mid rfl 48 _ rfl n 0 rfl Z _ hR Tryz.underlying48 rfl hiL ?_
          refine wpList_store_mid rfl 48 _ _ rfl (w.heap.size + 1) 0 Z.toArray rfl rfl htA hiA hone ?_
          clear hR hiL htA hiA hone
          go_wp2_with fail
          refine bodyPost_ret (v := .tuple #[.agg Z.toArray, .bool true]) ?_ rfl HF.out
          simp [results, Tryz.results32, asAddr, HL.out]
    · have hJ := okJ_long (xs := X) hl
      have i0 : (256 : Int) < (ls.length : Int) := by omega
      clear hr2
      have hld := zero_load (w := w2) (n := w.heap.size + 1) (by rw [← zeroJ_size]; exact ht2)
      have hzb := built_zero w2
      have hiA := jm_infoA
      have hone := zeroJ_one
      obtain ⟨Z, hZ⟩ : ∃ Z, zeroJ = Z := ⟨_, rfl⟩
      rw [hZ] at ht2 hld hzb hiA hone
      have HL : Hid _ := hld
      have HZ : Hid _ := hZ
      clear hld hZ
      go_upto_region 3 with fail
      refine wp_region_lit ?_
      refine wpList_build rfl _ _ rfl #[] (by simp) _ hzb ?_
      refine wpList_store_mid rfl 48 _ _ rfl (w.heap.size + 1) 0 Z.toArray rfl rfl ht2 hiA hone ?_
      clear ht2 hzb hiA hone
      go_wp2_with fail
      refine bodyPost_ret (v := .tuple #[.agg zeroJ.toArray, .bool false]) ?_ rfl (Or.inr ⟨hJ, rfl, below_setCells (by omega) _ _ _ hB2⟩)
      rw [HZ.out]
      simp [results, Tryz.results32, asAddr, HL.out]

end Go.Proofs.YtfnlnigeaioocaaGreat
