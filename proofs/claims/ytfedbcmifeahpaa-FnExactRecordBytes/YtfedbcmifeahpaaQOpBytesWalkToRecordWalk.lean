/- The walk of the law over both functions OpBytes: it answers true at every operation. The walk of the law over both functions RecordBytes: it answers true at every operation. -/
import Derived.Deep.RegionHeld2
import Derived.Deep.RegionHeld3
import Derived.Test.YtfedbcmifeahpaaQOpBytesSpecToRecBoth
import Derived.Test.YtfedbcmifeahpaaQOpEq
import Derived.Test.YtfedbcmifeahpaaQOpToToOpSz
import Derived.Test.YtfedbcmifeahpaaQInfoToCells
import Derived.Test.YtfedbcmifeahpaaQFrame
namespace Go.Proofs.Ytfedbcmifeahpaa
open Go.RowKit
set_option linter.unusedVariables false

theorem info12L : (Try.prog.info? 28).map (·.size) = some 12 := by kernel_rfl
theorem ownAllocL {e : TypeId} {w : World} {B : Nat} {v : Value} {cs : List Value} (h : Own e w B v cs) (o : Obj) : Own e (w.alloc o) B v cs := World.ownsRow.alloc h o

set_option maxHeartbeats 1000000 in
set_option maxRecDepth 100000 in
theorem markOp_any (B : Nat) (a s t k o n u pt pa : Int) (x : Option Addr) (m c : Nat) (ky tx : ByteArray) (cs : List Value) (q : Nat) (w : World) (hm : cs.length ≤ 140737488355328) (hq : q ≤ 140737488355328) (hB : B ≤ w.heap.size) (ho : Own 3 w B (.slice x m c) cs) :
    Calls Try.prog 10 #[.agg #[.int .i64 a, .int .i64 s, .int .i64 t, .slice x m c, .int .i64 k, .int .i64 o, .int .i64 n, .int .i64 u, .int .i64 pt, .int .i64 pa, .string ky, .string tx], .int .i64 (q : Int)] w fun e w' => e = .returned (.int .i64 ((q + cs.length : Nat) : Int)) ∧ Below B w w' ∧ w.grownBy w' (Value.slice x m c).ownBlock := by
  have ho1 := ownAllocL ho (.cells #[.int .i64 a, .int .i64 s, .int .i64 t, .slice x m c, .int .i64 k, .int .i64 o, .int .i64 n, .int .i64 u, .int .i64 pt, .int .i64 pa, .string ky, .string tx] 36)
  have hs1 : (w.alloc (.cells #[.int .i64 a, .int .i64 s, .int .i64 t, .slice x m c, .int .i64 k, .int .i64 o, .int .i64 n, .int .i64 u, .int .i64 pt, .int .i64 pa, .string ky, .string tx] 36)).heap.size = w.heap.size + 1 := World.size_alloc _ _
  have hc3 := (op_cells (Below.refl (w.alloc (.cells #[.int .i64 a, .int .i64 s, .int .i64 t, .slice x m c, .int .i64 k, .int .i64 o, .int .i64 n, .int .i64 u, .int .i64 pt, .int .i64 pa, .string ky, .string tx] 36)).heap.size (w.alloc (.cells #[.int .i64 a, .int .i64 s, .int .i64 t, .slice x m c, .int .i64 k, .int .i64 o, .int .i64 n, .int .i64 u, .int .i64 pt, .int .i64 pa, .string ky, .string tx] 36)))).2.2.2.1
  have hmv := markVector_any B (w.alloc (.cells #[.int .i64 a, .int .i64 s, .int .i64 t, .slice x m c, .int .i64 k, .int .i64 o, .int .i64 n, .int .i64 u, .int .i64 pt, .int .i64 pa, .string ky, .string tx] 36)) x m c cs q hm hq (by omega) ho1
  clear hs1
  go_enter Try.func10, Try.ntmps10
  go_wp2_with fail
  refine hmv.mono ?_
  rintro e w1 ⟨rfl, ho2, hb, hg⟩
  go_wp2_with fail
  go_ret
  exact ⟨rfl, ((below_alloc w _).mono hB).trans hb, grownBy_trans (World.grownBy_alloc w _ _) hg⟩

end Go.Proofs.Ytfedbcmifeahpaa

namespace Go.Proofs.Ytfedbcmifeahpaa
open Go.RowKit
set_option linter.unusedVariables false

set_option maxHeartbeats 8000000 in
set_option maxRecDepth 100000 in
theorem lawRecordBytes_walk (a s t k o n u pt pa : Int) (da : Option Addr) (dc : Nat) (ky tx : ByteArray) (ds : List Int) (w : World) (ha : Rd w.heap.size w (.slice da ds.length dc) (ds.map (Value.int .i64))) (hky : ky.size ≤ maxLen) (htx : tx.size ≤ maxLen) :
    Calls Try.prog 3 #[.agg #[.int .i64 a, .int .i64 s, .int .i64 t, .slice da ds.length dc, .int .i64 k, .int .i64 o, .int .i64 n, .int .i64 u, .int .i64 pt, .int .i64 pa, .string ky, .string tx]] w fun e w' => e = .returned (.bool true) ∧ Below w.heap.size w w' := by
  have hma : ds.length ≤ maxLen := by
    obtain ⟨_, cap', e, h1, h2, _⟩ := ha
    simp only [Value.slice.injEq, List.length_map] at e h1
    omega
  have hA0 := Below.refl (w.alloc (.cells #[.int .i64 a, .int .i64 s, .int .i64 t, .slice da ds.length dc, .int .i64 k, .int .i64 o, .int .i64 n, .int .i64 u, .int .i64 pt, .int .i64 pa, .string ky, .string tx] 28)).heap.size (w.alloc (.cells #[.int .i64 a, .int .i64 s, .int .i64 t, .slice da ds.length dc, .int .i64 k, .int .i64 o, .int .i64 n, .int .i64 u, .int .i64 pt, .int .i64 pa, .string ky, .string tx] 28))
  have HW : Hid (Below w.heap.size w (w.alloc (.cells #[.int .i64 a, .int .i64 s, .int .i64 t, .slice da ds.length dc, .int .i64 k, .int .i64 o, .int .i64 n, .int .i64 u, .int .i64 pt, .int .i64 pa, .string ky, .string tx] 28))) := below_alloc _ _
  have hr0 := range_op hA0
  have hsz := szOp_any a s t k o n u pt pa da ds.length dc ky tx 1048576 (w.alloc (.cells #[.int .i64 a, .int .i64 s, .int .i64 t, .slice da ds.length dc, .int .i64 k, .int .i64 o, .int .i64 n, .int .i64 u, .int .i64 pt, .int .i64 pa, .string ky, .string tx] 28)) (by omega) hma hky htx
  have hlB := recByB_len a s t k o n u pt pa ky tx ds
  have hsB : (w.alloc (.cells #[.int .i64 a, .int .i64 s, .int .i64 t, .slice da ds.length dc, .int .i64 k, .int .i64 o, .int .i64 n, .int .i64 u, .int .i64 pt, .int .i64 pa, .string ky, .string tx] 28)).heap.size = w.heap.size + 1 := World.size_alloc _ _
  go_enter Try.func3, Try.ntmps3
  go_wp2_with (refine wpList_load_mid rfl 28 _ rfl w.heap.size 0 rfl _ _ hr0 Try.underlying28 rfl info12L ?_)
  refine hsz.mono ?_
  rintro e w1 ⟨⟨z, rfl, hz⟩, hb1⟩
  have hA1 := below_seq hA0 hb1
  clear hsz hA0 hr0 hb1
  rcases hz with rfl | ⟨q, rfl, hq, hlx⟩
  · go_wp2_with fail
    go_ret
    exact ⟨rfl, below_seq HW.out hA1⟩
  · have hq0 : ¬ ((q : Nat) : Int) < 0 := by omega
    have hr1 := range_op hA1
    have hs1 := hA1.size
    have hto1 := toOp_any w.heap.size a s t k o n u pt pa (.slice da ds.length dc) ky tx ds w1 hlx (by omega) (ha.below (below_seq HW.out hA1))
    go_wp2_with (refine wpList_load_mid rfl 28 _ rfl w.heap.size 0 rfl _ _ hr1 Try.underlying28 rfl info12L ?_)
    refine hto1.mono ?_
    rintro e w2 ⟨a2, k2, rfl, ho2, hb2⟩
    have hA2 := below_seq hA1 hb2
    clear hr1 hA1 hto1 hb2 hs1
    go_wp2_with fail
    refine (specRecordBytes_any _ a s t k o n u pt pa _ ky tx ds w2 (Nat.le_refl _) ho2.rd).mono ?_
    rintro e w3 ⟨r3, rfl, ho3, hb3⟩
    have hA3 := below_seq hA2 hb3
    have rd3 := ho3.rd
    have hr3 := range_op hA3
    have hs3 := hA3.size
    have hto3 := toOp_any w.heap.size a s t k o n u pt pa (.slice da ds.length dc) ky tx ds w3 hlx (by omega) (ha.below (below_seq HW.out hA3))
    clear hA2 hb3 ho2 ho3
    go_wp2_with (refine wpList_load_mid rfl 28 _ rfl w.heap.size 0 rfl _ _ hr3 Try.underlying28 rfl info12L ?_)
    refine hto3.mono ?_
    rintro e w6 ⟨a6, k6, rfl, ho6, hb6⟩
    have hz6 := hb6.size
    have hk6 := ho6.blk
    have hA6 := below_then (below_seq hA3 hb6) (.cells #[.int .i64 a, .int .i64 s, .int .i64 t, .slice a6 ds.length k6, .int .i64 k, .int .i64 o, .int .i64 n, .int .i64 u, .int .i64 pt, .int .i64 pa, .string ky, .string tx] 36)
    have rd7 := (rd3.below hb6).alloc (.cells #[.int .i64 a, .int .i64 s, .int .i64 t, .slice a6 ds.length k6, .int .i64 k, .int .i64 o, .int .i64 n, .int .i64 u, .int .i64 pt, .int .i64 pa, .string ky, .string tx] 36) hb6.size
    have hx7 := ownAllocL ho6 (.cells #[.int .i64 a, .int .i64 s, .int .i64 t, .slice a6 ds.length k6, .int .i64 k, .int .i64 o, .int .i64 n, .int .i64 u, .int .i64 pt, .int .i64 pa, .string ky, .string tx] 36)
    have hX0 := Below.refl (w6.alloc (.cells #[.int .i64 a, .int .i64 s, .int .i64 t, .slice a6 ds.length k6, .int .i64 k, .int .i64 o, .int .i64 n, .int .i64 u, .int .i64 pt, .int .i64 pa, .string ky, .string tx] 36)).heap.size (w6.alloc (.cells #[.int .i64 a, .int .i64 s, .int .i64 t, .slice a6 ds.length k6, .int .i64 k, .int .i64 o, .int .i64 n, .int .i64 u, .int .i64 pt, .int .i64 pa, .string ky, .string tx] 36))
    have hrx := range_op hX0
    clear hr3 hto3 hA3 rd3 hb6 ho6
    go_wp2_with (refine wpList_load_mid rfl 36 _ rfl w6.heap.size 0 rfl _ _ hrx Try.underlying36 rfl info12 ?_)
    refine (implRecordBytes_any _ a s t k o n u pt pa _ ky tx ds _ (Nat.le_refl _) hx7.rd).mono ?_
    rintro e w8 ⟨r8, rfl, ho8, hb8⟩
    have hz8 := hb8.size
    have hsX : (w6.alloc (.cells #[.int .i64 a, .int .i64 s, .int .i64 t, .slice a6 ds.length k6, .int .i64 k, .int .i64 o, .int .i64 n, .int .i64 u, .int .i64 pt, .int .i64 pa, .string ky, .string tx] 36)).heap.size = w6.heap.size + 1 := World.size_alloc _ _
    have hA8 := below_seq hA6 hb8
    have rd8 := rd7.below (hb8.mono (by omega))
    have hx8 := hx7.below hb8 (Nat.le_refl _)
    have hk8 := ho8.blk
    clear hA6 rd7 hx7 hrx hX0
    go_wp2_with fail
    refine (eqByteS_same _ _ w8 r8 r3 (recByB a s t k o n u pt pa ky tx ds) (by omega) ho8.rd rd8).mono ?_
    rintro e w12 ⟨rfl, n12, rfl⟩
    have hA12 := (below_drewN hA8 n12).drew
    have hX12 := (below_drewN hb8 n12).drew
    have hx12 : Own 3 (w8.drewN n12).drew _ _ _ := hx8
    have hg12 : Own 5 (w8.drewN n12).drew _ _ _ := ho8
    have rd12 : Rd _ (w8.drewN n12).drew _ _ := rd8
    have hs12 : (w8.drewN n12).drew.heap.size = w8.heap.size := rfl
    clear hA8 hb8 rd8 hx8 ho8
    go_wp2_with fail
    refine wp_region_held_drew (S := fun w' => Below (w6.alloc (.cells #[.int .i64 a, .int .i64 s, .int .i64 t, .slice a6 ds.length k6, .int .i64 k, .int .i64 o, .int .i64 n, .int .i64 u, .int .i64 pt, .int .i64 pa, .string ky, .string tx] 36)).heap.size (w6.alloc (.cells #[.int .i64 a, .int .i64 s, .int .i64 t, .slice a6 ds.length k6, .int .i64 k, .int .i64 o, .int .i64 n, .int .i64 u, .int .i64 pt, .int .i64 pa, .string ky, .string tx] 36)) w' ∧ Below (w.alloc (.cells #[.int .i64 a, .int .i64 s, .int .i64 t, .slice da ds.length dc, .int .i64 k, .int .i64 o, .int .i64 n, .int .i64 u, .int .i64 pt, .int .i64 pa, .string ky, .string tx] 28)).heap.size (w.alloc (.cells #[.int .i64 a, .int .i64 s, .int .i64 t, .slice da ds.length dc, .int .i64 k, .int .i64 o, .int .i64 n, .int .i64 u, .int .i64 pt, .int .i64 pa, .string ky, .string tx] 28)) w') (by kernel_rfl) ⟨hX12, hA12⟩ (fun hS => ?_)
    generalize (w8.drewN n12).drew = w12 at *
    refine wpAnyH_take (i := 0) (v := .agg #[.int .i64 a, .int .i64 s, .int .i64 t, .slice a6 ds.length k6, .int .i64 k, .int .i64 o, .int .i64 n, .int .i64 u, .int .i64 pt, .int .i64 pa, .string ky, .string tx]) rfl (by kernel_rfl) (by kernel_rfl) (by kernel_rfl) (fun _ _ _ h => h) (yieldsIf_load_mid rfl _ _ rfl w6.heap.size 0 rfl _ _ (fun w h => range_op h.1) Try.underlying36 rfl info12) hS ?_
    simp only [tkS, Act.put]
    refine wpAnyH_take (i := 1) (v := .agg #[.int .i64 a, .int .i64 s, .int .i64 t, .slice da ds.length dc, .int .i64 k, .int .i64 o, .int .i64 n, .int .i64 u, .int .i64 pt, .int .i64 pa, .string ky, .string tx]) rfl (by kernel_rfl) (by kernel_rfl) (by kernel_rfl) (fun _ _ _ h => h) (yieldsIf_load_mid rfl _ _ rfl w.heap.size 0 rfl _ _ (fun w h => range_op h.2) Try.underlying28 rfl info12L) hS ?_
    simp only [tkS, Act.put]
    refine wpAnyH_ready (rs := [2]) (by kernel_rfl) (by simp) ?_
    refine AllReadyH.cons rfl (fun K hK => ?_) AllReadyH.nil
    go_simp
    refine (toOp_any w.heap.size a s t k o n u pt pa (.slice da ds.length dc) ky tx ds w12 hlx (by have := hA12.size; omega) (ha.below (below_seq HW.out hA12))).mono ?_
    rintro e w13 ⟨a13, k13, rfl, ho13, hb13⟩
    replace hA12 := below_seq hA12 hb13
    replace hX12 := below_seq hX12 hb13
    have hz13 := hb13.size
    replace rd12 := rd12.below (hb13.mono (by omega))
    replace hx12 := hx12.below hb13 (Nat.le_refl _)
    replace hg12 := hg12.below hb13 (Nat.le_refl _)
    go_wp2_with fail
    refine hK.out _ _ ⟨hX12, hA12⟩ (fun hS => ?_)
    clear hK K
    refine wpAnyH_ready (rs := [3]) (by kernel_rfl) (by simp) ?_
    refine AllReadyH.cons rfl (fun K hK => ?_) AllReadyH.nil
    go_simp
    refine (eqOp_same _ _ a s t k o n u pt pa _ _ ky tx ds w13 hlx (Nat.le_refl _) (Nat.le_refl _) hx12.rd ho13.rd).mono ?_
    rintro e w14 ⟨rfl, hb14⟩
    have hz14 := hb14.size
    replace hA12 := below_seq hA12 hb14
    replace hX12 := below_seq hX12 hb14
    replace rd12 := rd12.below (hb14.mono (by omega))
    replace hx12 := hx12.below hb14 (Nat.le_refl _)
    replace hg12 := hg12.below hb14 (Nat.le_refl _)
    go_wp2_with fail
    refine hK.out _ _ ⟨hX12, hA12⟩ (fun hS => ?_)
    clear hK K
    refine wpAnyH_take (i := 4) (v := .bool false) rfl (by kernel_rfl) (by kernel_rfl) (by kernel_rfl) (fun _ _ _ h => h) (Or.inl ⟨by rfl, by intro w' hSw; clear hSw; go_simp⟩) hS ?_
    simp only [tkS, Act.put]
    refine wpAnyH_done (by kernel_rfl) ?_ _
    clear ho13 hb13 hb14 hS
    have hrx := range_op hX12
    go_wp2_with (refine wpList_load_mid rfl 36 _ rfl w6.heap.size 0 rfl _ _ hrx Try.underlying36 rfl info12 ?_)
    refine (markOp_any w3.heap.size a s t k o n u pt pa _ _ _ ky tx _ 1 w14 (by simp; omega) (by omega) (by omega) hx12).mono ?_
    rintro e w17 ⟨rfl, hb17, hg17⟩
    rw [List.length_map]
    have hA17 : Below (w.alloc (.cells #[.int .i64 a, .int .i64 s, .int .i64 t, .slice da ds.length dc, .int .i64 k, .int .i64 o, .int .i64 n, .int .i64 u, .int .i64 pt, .int .i64 pa, .string ky, .string tx] 28)).heap.size (w.alloc (.cells #[.int .i64 a, .int .i64 s, .int .i64 t, .slice da ds.length dc, .int .i64 k, .int .i64 o, .int .i64 n, .int .i64 u, .int .i64 pt, .int .i64 pa, .string ky, .string tx] 28)) w17 := hA12.trans (hb17.mono (by omega))
    have rd17 := rd12.below hb17
    have hg17' := hg12.apart hg17 (fun k hk => by have := hk6 k hk; omega)
    have hz17 := hb17.size
    have hnk : ¬ ((1 + ds.length : Nat) : Int) < 0 := by omega
    clear hA12 rd12 hx12 hg12 hb17 hg17 hrx hX12
    go_wp2_with fail
    refine (eqByteS_same _ _ w17 r8 r3 (recByB a s t k o n u pt pa ky tx ds) (by omega) hg17'.rd rd17).mono ?_
    rintro e w18 ⟨rfl, n18, rfl⟩
    go_wp2_with fail
    refine (markByteS_any (w6.alloc (.cells #[.int .i64 a, .int .i64 s, .int .i64 t, .slice a6 ds.length k6, .int .i64 k, .int .i64 o, .int .i64 n, .int .i64 u, .int .i64 pt, .int .i64 pa, .string ky, .string tx] 36)).heap.size (w17.drewN n18) r8 _ 1 (by simp; omega) (by omega) hg17').mono ?_
    rintro e w19 ⟨rfl, ho19, hb19, hg19⟩
    rw [List.length_map] at ho19 ⊢
    have hz19 : w17.heap.size ≤ w19.heap.size := hb19.size
    have hA19 : Below (w.alloc (.cells #[.int .i64 a, .int .i64 s, .int .i64 t, .slice da ds.length dc, .int .i64 k, .int .i64 o, .int .i64 n, .int .i64 u, .int .i64 pt, .int .i64 pa, .string ky, .string tx] 28)).heap.size (w.alloc (.cells #[.int .i64 a, .int .i64 s, .int .i64 t, .slice da ds.length dc, .int .i64 k, .int .i64 o, .int .i64 n, .int .i64 u, .int .i64 pt, .int .i64 pa, .string ky, .string tx] 28)) w19 := (below_drewN hA17 n18).trans (hb19.mono (by omega))
    have rd19 := (rd17.drewN n18).below (hb19.mono (by omega))
    clear hA17 rd17 hg17' hb19 hg19
    go_wp2_with fail
    refine (heldByteS_same _ w19 r8 1 (recByB a s t k o n u pt pa ky tx ds).length (by omega) (by omega) ho19.rd).mono ?_
    rintro e w20 ⟨rfl, hw20⟩
    obtain rfl := hw20.symm
    have hr20 := range_op hA19
    have hto := toOp_any w.heap.size a s t k o n u pt pa (.slice da ds.length dc) ky tx ds w19 hlx (by have := hA19.size; omega) (ha.below (below_seq HW.out hA19))
    go_wp2_with (refine wpList_load_mid rfl 28 _ rfl w.heap.size 0 rfl _ _ hr20 Try.underlying28 rfl info12L ?_)
    refine hto.mono ?_
    rintro e w21 ⟨a21, k21, rfl, ho21, hb21⟩
    have hz21 := hb21.size
    have hA21 := below_seq hA19 hb21
    have rd21 := rd19.below (hb21.mono (by omega))
    have hm21 := ho19.below hb21 (Nat.le_refl _)
    clear hA19 rd19 ho19 hb21 hr20 hto
    go_wp2_with fail
    refine (implRecordBytes_any _ a s t k o n u pt pa _ ky tx ds w21 (Nat.le_refl _) ho21.rd).mono ?_
    rintro e w22 ⟨r22, rfl, ho22, hb22⟩
    have hz22 := hb22.size
    have hA22 := below_seq hA21 hb22
    have rd22 := rd21.below (hb22.mono (by omega))
    have hm22 := hm21.below hb22 (Nat.le_refl _)
    clear hA21 rd21 hm21 hb22 ho21
    go_wp2_with fail
    refine (eqByteS_same _ _ w22 r22 r3 (recByB a s t k o n u pt pa ky tx ds) (by omega) ho22.rd rd22).mono ?_
    rintro e w23 ⟨rfl, n23, rfl⟩
    go_wp2_with fail
    refine (heldByteS_same _ (w22.drewN n23) r8 1 (recByB a s t k o n u pt pa ky tx ds).length (by omega) (by omega) (show Rd _ (w22.drewN n23) r8 _ from hm22.rd)).mono ?_
    rintro e w24 ⟨rfl, hw24⟩
    obtain rfl := hw24.symm
    go_wp2_with fail
    go_ret
    exact ⟨rfl, below_drewN (below_seq HW.out hA22) n23⟩
end Go.Proofs.Ytfedbcmifeahpaa
