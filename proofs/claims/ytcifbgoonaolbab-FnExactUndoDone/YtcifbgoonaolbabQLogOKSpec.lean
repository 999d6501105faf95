/- What the specification's LogOK answers. -/
import Derived.Test.YtcifbgoonaolbabQLogSpA
import Derived.Test.YtcifbgoonaolbabQLogSpB0B1
import Derived.Test.YtcifbgoonaolbabQLogSpB2B3
import Derived.Test.YtcifbgoonaolbabQLogSpB4B5
namespace Go.Proofs.Ytcifbgoonaolbab
open Go.RowKit
set_option linter.unusedVariables false

set_option maxHeartbeats 1000000 in
set_option maxRecDepth 100000 in
theorem specLogOK_any (C : Nat) (w : World) (v : Value) (L : List Ov) (hC : C ≤ w.heap.size) (hr : RdO C w v L) :
    Calls Try.prog 14 #[v] w fun e w' => e = .returned (.bool (logI L)) ∧ Below w.heap.size w w' := by
  by_cases hlen : L.length ≤ 1024
  · rcases first_bad (stepN L) L.length with h | ⟨f, hf, hg, hb⟩
    · exact logSpec_A C w v L hC hr hlen h
    · rw [logI_stepN hf hb]
      rcases bad_at hf hg hb with h0 | ⟨hok, ⟨h0, hs⟩ | ⟨j, hj, ⟨h, hs⟩ | ⟨h, hs⟩ | ⟨h, hs⟩ | ⟨h, hs⟩⟩⟩
      · exact logSpec_B0 C w v L hC hr hlen f hf hg h0
      · exact logSpec_B1 C w v L hC hr hlen f hf hg hok h0 hs
      · exact logSpec_B2 C w v L hC hr hlen f hf hg hok j hj h hs
      · exact logSpec_B3 C w v L hC hr hlen f hf hg hok j hj h hs
      · exact logSpec_B4 C w v L hC hr hlen f hf hg hok j hj h hs
      · exact logSpec_B5 C w v L hC hr hlen f hf hg hok j hj h hs
  · rw [logI_long hlen]
    obtain ⟨⟨ao, cap, rfl, hcap, hmax, hnil, hrow⟩, hdv⟩ := hr
    have hlen' : (1024 : Int) < (L.length : Int) := by omega
    go_enter Try.func14, Try.ntmps14
    go_wp2_with fail
    go_ret
    exact ⟨rfl, Below.refl _ _⟩
end Go.Proofs.Ytcifbgoonaolbab
