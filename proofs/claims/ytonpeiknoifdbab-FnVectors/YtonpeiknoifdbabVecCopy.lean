/- What the specification's l02Copy does. -/
import Derived.Test.YtonpeiknoifdbabVecMarks
import Derived.Test.YtonpeiknoifdbabVecOKs
namespace Go.Proofs.Ytonpeiknoifdbab
open Go.RowKit
set_option linter.unusedVariables false

theorem intsOne (zs : List Int) : ∀ u ∈ zs.map (Value.int .i64), u.oneCell' = true := by
  intro u hu
  obtain ⟨z, _, rfl⟩ := List.mem_map.1 hu
  rfl

set_option maxHeartbeats 1000000 in
set_option maxRecDepth 100000 in
theorem l02Copy_any (C : Nat) (w : World) (v : Value) (xs : List Int) (hl : xs.length ≤ 1048576) (hC : C ≤ w.heap.size) (hr : Rd C w v (xs.map (Value.int .i64))) :
    Calls Try.prog 45 #[.agg #[v]] w fun e w' => ∃ a c, e = .returned (.agg #[.slice a xs.length c]) ∧ Own 3 w' w.heap.size (.slice a xs.length c) (xs.map (Value.int .i64)) ∧ Below w.heap.size w w' := by
  obtain ⟨i0, hi, hz0, hz1, hz2⟩ := info_parts info3
  have hb2 : Below w.heap.size w ((w.alloc (.cells #[v] 34)).alloc (.cells #[.slice none 0 0] 34)) := below_then (below_alloc _ _) _
  have hb3 := below_then hb2 (.cells #[] 3)
  have ho0 := own_lit ((w.alloc (.cells #[v] 34)).alloc (.cells #[.slice none 0 0] 34)) 3 [] 0 rfl (by decide)
  have hE := ((Env.add (w := w) (L := []) (fun p hp => by simp at hp) v 34).add (.slice none 0 0) 34).alloc (.cells #[] 3)
  rw [World.size_alloc] at hE
  have hr3 := hr.belowW hb3 hC
  simp only [World.size_alloc] at ho0
  go_enter Try.func45, Try.ntmps45
  go_wp2_with (at_builtin; refine wpList_append_rd rfl (.tmp 3) (.tmp 5) 32 rfl (w.heap.size + 1 + 1) 3 i0 (.int .i64 0) 8 Try.underlying32 hi hz0 hz1 hz2 rfl _ [] rfl ho0 C v (xs.map (Value.int .i64)) rfl hr3 (intsOne _) (by simp [maxLen]; omega) (by simp; omega) (by simp) ?_)
  intro v' w1 ho1 hg1
  obtain ⟨ao, cap, rfl, _⟩ := ho1.slice
  rw [List.length_map] at ho1 ⊢
  have hE1 : Env w1 _ := hE.mark hg1 (fun k hk p hp => by
    simp [Value.ownBlock] at hk
    simp at hp
    rcases hp with rfl | rfl
    · show w.heap.size + 1 ≠ k; omega
    · show w.heap.size ≠ k; omega)
  have hB1 : Below w.heap.size w w1 := hb3.grown hg1 (by simp only [World.size_alloc]; omega) (fun k hk => by simp [Value.ownBlock] at hk; omega)
  have cR := hE1 (w.heap.size + 1, .slice none 0 0) (by simp)
  have c0 := cR.1
  have f0 := cR.2
  have k1 := Own.set ho1 (.slice ao xs.length cap) (show w.heap.size + 1 < w.heap.size + 1 + 1 by omega)
  have hB2 := hB1.setCell (p := ⟨w.heap.size + 1, 0, none⟩) (by show w.heap.size ≤ w.heap.size + 1; omega) (.slice ao xs.length cap)
  have q0 : (w1.setCell ⟨w.heap.size + 1, 0, none⟩ (.slice ao xs.length cap)).cell? ⟨w.heap.size + 1, 0, none⟩ = some (.slice ao xs.length cap) := World.cell?_setCell_same _ _ _ c0
  clear hE hE1 cR hg1 ho1 hr3 hb3 hb2 ho0
  go_wp2_with fail
  refine bodyPost_ret (v := .agg #[.slice ao xs.length cap]) ?_ rfl ⟨ao, cap, rfl, k1.mono (by omega), hB2⟩
  simp [results, Try.results45, go_sem, q0]

end Go.Proofs.Ytonpeiknoifdbab
