/- The step that goes the other way: what the three methods flip answer. -/
import Derived.Test.YtagnpahkhaighaaLensOK
namespace Go.Proofs.Ytagnpahkhaighaa
open Go.RowKit
set_option linter.unusedVariables false

/-- The step that goes the other way. -/
def flipE (e : St) : St := if e.1 = 1 then (1, e.2.2.1, e.2.1, ⟨#[]⟩) else if e.1 = 2 then (3, e.2.1, ⟨#[]⟩, e.2.2.2) else (2, e.2.1, ⟨#[]⟩, e.2.2.2)

set_option maxHeartbeats 1000000 in
theorem renFlip_any (n t : ByteArray) (w : World) :
    Calls Try.prog 85 #[.agg #[.string n, .string t]] w fun e w' => e = .returned (.agg #[.int .i64 1, .string t, .string n, .string ⟨#[]⟩]) ∧ Below w.heap.size w w' := by
  go_enter Try.func85, Try.ntmps85
  go_wp2_with fail
  refine bodyPost_ret (v := .agg #[.int .i64 1, .string t, .string n, .string ⟨#[]⟩]) ?_ rfl ⟨rfl, ?_⟩
  · simp [results, Try.results85, go_sem]
  · repeat (first | exact below_alloc _ _ | refine below_then ?_ _ | refine Below.setCell ?_ (by show _ ≤ _; first | omega | (simp; done) | (simp; omega)) _)

set_option maxHeartbeats 1000000 in
theorem addFlip_any (n x : ByteArray) (w : World) :
    Calls Try.prog 88 #[.agg #[.string n, .string x]] w fun e w' => e = .returned (.agg #[.int .i64 3, .string n, .string ⟨#[]⟩, .string x]) ∧ Below w.heap.size w w' := by
  go_enter Try.func88, Try.ntmps88
  go_wp2_with fail
  refine bodyPost_ret (v := .agg #[.int .i64 3, .string n, .string ⟨#[]⟩, .string x]) ?_ rfl ⟨rfl, ?_⟩
  · simp [results, Try.results88, go_sem]
  · repeat (first | exact below_alloc _ _ | refine below_then ?_ _ | refine Below.setCell ?_ (by show _ ≤ _; first | omega | (simp; done) | (simp; omega)) _)

set_option maxHeartbeats 1000000 in
theorem dropFlip_any (n x : ByteArray) (w : World) :
    Calls Try.prog 75 #[.agg #[.string n, .string x]] w fun e w' => e = .returned (.agg #[.int .i64 2, .string n, .string ⟨#[]⟩, .string x]) ∧ Below w.heap.size w w' := by
  go_enter Try.func75, Try.ntmps75
  go_wp2_with fail
  refine bodyPost_ret (v := .agg #[.int .i64 2, .string n, .string ⟨#[]⟩, .string x]) ?_ rfl ⟨rfl, ?_⟩
  · simp [results, Try.results75, go_sem]
  · repeat (first | exact below_alloc _ _ | refine below_then ?_ _ | refine Below.setCell ?_ (by show _ ≤ _; first | omega | (simp; done) | (simp; omega)) _)

end Go.Proofs.Ytagnpahkhaighaa
