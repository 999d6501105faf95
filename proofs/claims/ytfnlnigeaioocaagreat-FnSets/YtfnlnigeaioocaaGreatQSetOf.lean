/- What setOf does: the map of a set, and whether it is valid. -/
import Derived.Test.YtfnlnigeaioocaaGreatQJoinedOf
import Derived.Test.YtfnlnigeaioocaaGreatQInfoToTrBase
namespace Go.Proofs.YtfnlnigeaioocaaGreat
open Go.RowKit
set_option linter.unusedVariables false

theorem setMap_info : (Tryz.prog.info? 50).map (·.size) = some 17 := by kernel_rfl
theorem built_set (Z : List Value) (hZ : Z.length = 17) (w : World) : (Instr.build 50 #[(0, .agg Z.toArray)]).run Tryz.prog w = .ok (.agg Z.toArray) w := by
  match Z, hZ with
  | [v0, v1, v2, v3, v4, v5, v6, v7, v8, v9, v10, v11, v12, v13, v14, v15, v16], _ => exact run_build w _ _ _ (by kernel_rfl)
/-- What joinedOf answered, for a caller that began in an elder world. -/
theorem JoAns.out {w W : World} {xs : List Int} {ls : List En} {e : Ending} {w' : World} (h : JoAns W xs ls e w') (hx : xs.length = 16 ∨ okJ xs ls = false) (hw : w.heap.size ≤ W.heap.size) : ∃ Z : List Value, e = .returned (.tuple #[.agg Z.toArray, .bool (okJ xs ls)]) ∧ Z.length = 17 ∧ Z.toArray.all (·.oneCell') = true ∧ Below W.heap.size W w' ∧
    ∀ w'', (∀ i, W.heap.size ≤ i → i < w'.heap.size → w''.heap[i]? = w'.heap[i]?) → Below w.heap.size w w'' → JoAns w xs ls (.returned (.tuple #[.agg Z.toArray, .bool (okJ xs ls)])) w'' := by
  rcases h with ⟨hJ, b, rfl, hb, hM, hB⟩ | ⟨hJ, rfl, hB⟩
  · rw [hJ]
    have h16 : xs.length = 16 := hx.resolve_right (by rw [hJ]; decide)
    refine ⟨_, rfl, by simp [arrC_len, h16], all_oneCell_toArray (fun v hv => by rcases List.mem_append.1 hv with h | h; exact arrC_one xs v h; rw [List.mem_singleton.1 h]; rfl), hB, fun w'' hh hB'' => .inl ⟨hJ, b, rfl, by omega, ?_, hB''⟩⟩
    have hlt := hM.lt
    obtain ⟨es, clock, he, h2⟩ := hM
    exact ⟨es, clock, (hh b hb hlt).trans he, h2⟩
  · rw [hJ]
    exact ⟨zeroJ, rfl, zeroJ_len, zeroJ_one, hB, fun w'' _ hB'' => .inr ⟨hJ, rfl, hB''⟩⟩
theorem heap_setCells_other {w : World} {n b o : Nat} (hn : b ≠ n) (vs : List Value) : (w.setCells n o vs).heap[b]? = w.heap[b]? := by
  have : ∀ (vs : List Value) (o : Nat) (w : World), (w.setCells n o vs).heap[b]? = w.heap[b]? := by
    intro vs
    induction vs with
    | nil => intro o w; rfl
    | cons v vs ih => intro o w; exact (ih (o + 1) _).trans (heap_setCell_other w ⟨n, o, none⟩ b v hn)
  exact this vs o w

set_option maxHeartbeats 2000000 in
set_option maxRecDepth 100000 in
theorem setOf_any (C : Nat) (w : World) (v ve : Value) (xs : List Int) (ls : List En) (hC : C ≤ w.heap.size) (hv : Rd C w v (xs.map (Value.int .i64))) (he : RdE C w ve ls) :
    Calls Tryz.prog 13 #[.agg #[v, ve]] w (JoAns w xs ls) := by
  have hxx : xs.length = 16 ∨ okJ xs ls = false := by
    cases hk : vecOK xs with
    | true => exact .inl (vecOK_get hk).1
    | false => exact .inr (okJ_vec hk)
  have hW : Below w.heap.size w ((w.alloc (.cells #[v, ve] 28)).alloc (.cells zeroJ.toArray 50)) := below_then (below_alloc _ _) _
  have hJ := joinedOf_any C ((w.alloc (.cells #[v, ve] 28)).alloc (.cells zeroJ.toArray 50)) v ve xs ls (Nat.le_trans hC hW.size) (hv.belowW hW hC) (he.below (hW.mono hC))
  have hsl : ∃ ao len cap, v = .slice ao len cap := by
    obtain ⟨ao, cap, rfl, _⟩ := hv
    exact ⟨_, _, _, rfl⟩
  obtain ⟨ao, la, ca, rfl⟩ := hsl
  obtain ⟨eo, ec, rfl, _⟩ := he
  go_enter Tryz.func13, Tryz.ntmps13
  go_wp2_with fail
  refine hJ.mono ?_
  intro e w2 hA
  obtain ⟨Z, rfl, hZ, hone, hb2, hfin⟩ := hA.out (w := w) hxx hW.size
  have ht := there_made hb2 (n := 17) (by simp [zeroJ, arrC])
  simp only [World.size_alloc] at ht hfin hb2
  have hs2 := hb2.size
  simp only [World.size_alloc] at hs2
  have hB2 : Below w.heap.size w w2 := below_seq hW (by simp only [World.size_alloc]; exact hb2)
  have hiS : (Tryz.prog.info? 50).map (·.size) = some Z.toArray.size := by rw [List.size_toArray, hZ]; exact setMap_info
  have hiJ : (Tryz.prog.info? 48).map (·.size) = some Z.toArray.size := by rw [List.size_toArray, hZ]; exact jm_info
  have hiL : (Tryz.prog.info? 48).map (·.size) = some Z.length := by rw [hZ]; exact jm_info
  have hiSL : (Tryz.prog.info? 50).map (·.size) = some Z.length := by rw [hZ]; exact setMap_info
  have hsz : Z.toArray.size = 17 := by rw [List.size_toArray]; exact hZ
  have h3 : (w2.alloc (.cells zeroJ.toArray 48)).there w2.heap.size 0 Z.toArray.size := by rw [hsz]; exact there17 w2
  clear hJ hA hW
  generalize okJ xs ls = bl at hfin ⊢
  go_upto_region 2 with (first | (refine wpList_store_mid rfl 48 _ _ rfl w2.heap.size 0 Z.toArray rfl rfl h3 hiJ hone ?_))
  have hr3 : ((w2.alloc (.cells zeroJ.toArray 48)).setCells w2.heap.size 0 Z).rangeAt w2.heap.size 0 Z := World.rangeAt_setCells_same _ _ _ _ (by rw [hZ]; exact there17 w2)
  have ht3 : ((w2.alloc (.cells zeroJ.toArray 48)).setCells w2.heap.size 0 Z).there (w.heap.size + 1) 0 17 := World.there_setCells (World.there_alloc ht _) _ _ _
  have hB3 : Below w.heap.size w ((w2.alloc (.cells zeroJ.toArray 48)).setCells w2.heap.size 0 Z) := below_setCells (by omega) _ _ _ (below_then hB2 _)
  have hh3 : ∀ i, i < w2.heap.size → ((w2.alloc (.cells zeroJ.toArray 48)).setCells w2.heap.size 0 Z).heap[i]? = w2.heap[i]? := fun i hi => (heap_setCells_other (by omega) Z).trans ((below_alloc w2 _).block i hi)
  have hgen : ∃ w3, ((w2.alloc (.cells zeroJ.toArray 48)).setCells w2.heap.size 0 Z) = w3 := ⟨_, rfl⟩
  obtain ⟨w3, hw3⟩ := hgen
  rw [hw3] at hr3 ht3 hB3 hh3
  change Code.wp _ _ _ _ ((w2.alloc (.cells zeroJ.toArray 48)).setCells w2.heap.size 0 Z)
  rw [hw3]
  have hld := run_loadVar_mid (P := Tryz.prog) (w3.setCells (w.heap.size + 1) 0 Z) (w.heap.size + 1) 0 50 Z _ (World.rangeAt_setCells_same _ _ _ _ (by rw [hZ]; exact ht3)) Tryz.underlying50 rfl hiSL
  have HF : Hid (JoAns w xs ls (.returned (.tuple #[.agg Z.toArray, .bool bl])) (w3.setCells (w.heap.size + 1) 0 Z)) := hfin _ (fun i h1 h2 => (heap_setCells_other (by omega) Z).trans (hh3 i h2)) (below_setCells (by omega) _ _ _ hB3)
  have HL : Hid _ := hld
  have htS : w3.there (w.heap.size + 1) 0 Z.toArray.size := by rw [hsz]; exact ht3
  have hbs := built_set Z hZ
  clear hw3 h3 ht hh3 hB3 hB2 hfin hld hb2
  refine wp_region_lit ?_
  refine wpList_load_mid rfl 48 _ rfl w2.heap.size 0 rfl Z _ hr3 Tryz.underlying48 rfl hiL ?_
  refine wpList_build rfl _ _ rfl #[(0, .agg Z.toArray)] (by simp; rfl) _ (hbs _) ?_
  go_wp2_with (first | (refine wpList_store_mid rfl 50 _ _ rfl (w.heap.size + 1) 0 Z.toArray rfl rfl htS hiS hone ?_))
  refine bodyPost_ret (v := .tuple #[.agg Z.toArray, .bool bl]) ?_ rfl HF.out
  simp [results, Tryz.results13, asAddr, HL.out]

end Go.Proofs.YtfnlnigeaioocaaGreat
