/- The code's OpBytes. -/
import Derived.Test.YtaglbacicpknaaaOpBytesCode
import Derived.Test.YtaglbacicpknaaaOpBytesSpec
namespace Go.Proofs.Ytaglbacicpknaaa
open Go.RowKit
set_option linter.unusedVariables false

set_option maxHeartbeats 2000000 in
set_option maxRecDepth 100000 in
theorem implOpBytes_any (C : Nat) (a s t k o n u pt pa : Int) (dv : Value) (ky tx : ByteArray) (ds : List Int) (w : World) (hC : C ≤ w.heap.size) (hr : Rd C w dv (ds.map (Value.int .i64))) :
    Calls Try.prog 7 #[.agg #[.int .i64 a, .int .i64 s, .int .i64 t, dv, .int .i64 k, .int .i64 o, .int .i64 n, .int .i64 u, .int .i64 pt, .int .i64 pa, .string ky, .string tx]] w fun e w' => ∃ r, e = .returned (.tuple #[r, .int .i64 (opByC a s t k o n u pt pa ky tx ds)]) ∧ Own 5 w' w.heap.size r ((opByB a s t k o n u pt pa ky tx ds).map (Value.int .u8)) ∧ Below w.heap.size w w' := by
  have hB0 := below_alloc w (.cells #[.int .i64 a, .int .i64 s, .int .i64 t, dv, .int .i64 k, .int .i64 o, .int .i64 n, .int .i64 u, .int .i64 pt, .int .i64 pa, .string ky, .string tx] 36)
  have hr0 := range_op (Below.refl (w.alloc (.cells #[.int .i64 a, .int .i64 s, .int .i64 t, dv, .int .i64 k, .int .i64 o, .int .i64 n, .int .i64 u, .int .i64 pt, .int .i64 pa, .string ky, .string tx] 36)).heap.size (w.alloc (.cells #[.int .i64 a, .int .i64 s, .int .i64 t, dv, .int .i64 k, .int .i64 o, .int .i64 n, .int .i64 u, .int .i64 pt, .int .i64 pa, .string ky, .string tx] 36)))
  have hok := opOK_any C a s t k o n u pt pa dv ky tx ds (w.alloc (.cells #[.int .i64 a, .int .i64 s, .int .i64 t, dv, .int .i64 k, .int .i64 o, .int .i64 n, .int .i64 u, .int .i64 pt, .int .i64 pa, .string ky, .string tx] 36)) (by have := hB0.size; omega) (hr.below (hB0.mono hC))
  obtain ⟨b, hb⟩ : ∃ b, opB a s t k o n u pt pa ky tx ds = b := ⟨_, rfl⟩
  have HBB : Hid (opByC a s t k o n u pt pa ky tx ds = (if b = true then 0 else 1) ∧ opByB a s t k o n u pt pa ky tx ds = (if b = true then opBy a s t k o n u pt pa ky tx ds else [])) := by
    unfold Hid opByC opByB
    rw [hb]
    exact ⟨rfl, rfl⟩
  rw [hb] at hok
  have HF : Hid (b = true → OpFacts a s t k o n u pt pa ky tx ds) := fun h => op_facts (hb.trans h)
  clear hb
  go_enter Try.func7, Try.ntmps7
  go_wp2_with (refine wpList_load_mid rfl 36 _ rfl w.heap.size 0 rfl _ _ hr0 Try.underlying36 rfl info12 ?_)
  refine hok.mono ?_
  rintro e w1 ⟨rfl, hb1⟩
  have hr1 := range_op hb1
  have hB1 := below_seq hB0 hb1
  have hs1 := hB1.size
  clear hr0 hB0 hb1 hok
  cases b with
  | true =>
    have hby := opBytes_any C a s t k o n u pt pa dv ky tx ds w1 (by omega) (HF.out rfl) (hr.below (hB1.mono hC))
    obtain ⟨E1, E2⟩ := HBB.out
    rw [if_pos rfl] at E1 E2
    have HE1 : Hid _ := E1
    have HE2 : Hid _ := E2
    clear E1 E2 HBB HF hr
    go_wp2_with (refine wpList_load_mid rfl 36 _ rfl w.heap.size 0 rfl _ _ hr1 Try.underlying36 rfl info12 ?_)
    refine hby.mono ?_
    rintro e w2 ⟨r2, rfl, ho2, hb2⟩
    clear hr1 hby
    go_wp2_with fail
    go_ret2
    exact ⟨_, by rw [HE1.out]; rfl, by rw [HE2.out]; exact ho2.mono hs1, below_seq hB1 hb2⟩
  | false =>
    obtain ⟨E1, E2⟩ := HBB.out
    rw [if_neg (by decide)] at E1 E2
    have HE1 : Hid _ := E1
    have HE2 : Hid _ := E2
    clear E1 E2 HBB HF hr hr1
    go_wp2_with fail
    go_ret2
    exact ⟨_, by rw [HE1.out]; rfl, by rw [HE2.out]; exact World.ownsRow_nil _ _ _ _, hB1⟩
end Go.Proofs.Ytaglbacicpknaaa
