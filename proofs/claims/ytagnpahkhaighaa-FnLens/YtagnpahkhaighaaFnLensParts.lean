/- What the law FnLens calls of its own, and lenses cut in two. -/
import Derived.Test.YtagnpahkhaighaaLensDrawL
import Derived.Test.YtagnpahkhaighaaLensMath
import Derived.BigQuiet
namespace Go.Proofs.Ytagnpahkhaighaa
open Go.RowKit
set_option linter.unusedVariables false

/-- What can be read is so behind whatever leaves old memory as it is. -/
theorem rdNx {m n : Nat} {w w' : World} {v : Value} {cs : List Value} (h : Hid (RdM m w.heap.size w v n cs)) (hb : Below w.heap.size w w') : Hid (RdM m w'.heap.size w' v n cs) := (h.out.on (Nat.le_refl _) hb).mono hb.size
theorem stCs_take (ls : List St) (p : Nat) : stCs (ls.take p) = (stCs ls).take (p * 4) := by
  by_cases hp : p ≤ ls.length
  · have h := stCs_app (ls.take p) (ls.drop p)
    rw [List.take_append_drop] at h
    have hl := stCs_len (ls.take p)
    rw [List.length_take, Nat.min_eq_left hp] at hl
    rw [h, List.take_append_of_le_length (by omega)]
    exact (List.take_of_length_le (by omega)).symm
  · rw [List.take_of_length_le (by omega), List.take_of_length_le (by rw [stCs_len]; omega)]
theorem stCs_drop (ls : List St) (p : Nat) : stCs (ls.drop p) = (stCs ls).drop (p * 4) := by
  by_cases hp : p ≤ ls.length
  · have h := stCs_app (ls.take p) (ls.drop p)
    rw [List.take_append_drop] at h
    have hl := stCs_len (ls.take p)
    rw [List.length_take, Nat.min_eq_left hp] at hl
    have hd : (stCs (ls.take p)).drop (p * 4) = [] := List.drop_eq_nil_of_le (by omega)
    rw [h, List.drop_append_of_le_length (by omega), hd, List.nil_append]
  · rw [List.drop_eq_nil_of_le (by omega), List.drop_eq_nil_of_le (by rw [stCs_len]; omega)]
    rfl
theorem rdM_takeS {C : Nat} {w : World} {ao : Option Addr} {cap n p : Nat} {ls : List St} (h : RdM 4 C w (.slice ao n cap) ls.length (stCs ls)) (hp : p ≤ ls.length) : RdM 4 C w (.slice ao p cap) (ls.take p).length (stCs (ls.take p)) := by
  obtain ⟨hl, ao1, cap1, e, h1, h2, h3, hr⟩ := h
  simp only [Value.slice.injEq] at e
  obtain ⟨rfl, rfl, rfl⟩ := e
  have hlen : (ls.take p).length = p := by simp; omega
  rw [hlen]
  refine ⟨by rw [stCs_len, hlen], _, _, rfl, by omega, h2, h3, fun hpos => ?_⟩
  obtain ⟨g, off, rfl, hg, hc⟩ := hr (by omega)
  refine ⟨g, off, rfl, hg, fun j u hj => hc j u ?_⟩
  rw [stCs_take, List.getElem?_take] at hj
  split at hj
  · exact hj
  · cases hj
theorem rdM_fromS {C : Nat} {w : World} {ao ao' : Option Addr} {cap n p k c : Nat} {ls : List St} (h : RdM 4 C w (.slice ao n cap) ls.length (stCs ls)) (hp : p ≤ ls.length) (hk : k = n - p) (hc' : c = cap - p) (ha : ao' = if cap = p then ao else ao.map (·.add (p * 4))) : RdM 4 C w (.slice ao' k c) (ls.drop p).length (stCs (ls.drop p)) := by
  obtain ⟨hl, ao1, cap1, e, h1, h2, h3, hr⟩ := h
  simp only [Value.slice.injEq] at e
  obtain ⟨rfl, rfl, rfl⟩ := e
  subst hk hc'
  have hlen : (ls.drop p).length = ls.length - p := by simp
  rw [hlen]
  refine ⟨by rw [stCs_len, hlen], _, _, rfl, by omega, by omega, fun hno => ?_, fun hpos => ?_⟩
  · subst ha
    split at hno
    · omega
    · cases ao with
      | none => have := h3 rfl; omega
      | some a => simp at hno
  · obtain ⟨g, off, rfl, hg, hc⟩ := hr (by omega)
    rw [if_neg (by omega)] at ha
    refine ⟨g, off + p * 4, by rw [ha]; rw [Option.map_some, Addr.add_lit], hg, fun j u hj => ?_⟩
    rw [stCs_drop, List.getElem?_drop] at hj
    have := hc (p * 4 + j) u hj
    rwa [← Nat.add_assoc] at this
theorem rdM_slice {m C : Nat} {w : World} {v : Value} {n : Nat} {cs : List Value} (h : RdM m C w v n cs) : ∃ a c, v = .slice a n c ∧ n ≤ c ∧ c ≤ maxLen := by
  obtain ⟨_, ao, cap, e, h1, h2, _⟩ := h
  exact ⟨ao, cap, e, h1, h2⟩

set_option maxHeartbeats 2000000 in
set_option maxRecDepth 100000 in
theorem samePairs_same (C : Nat) (w : World) (va vb : Value) (ls : List Pr) (hl : ls.length ≤ 1048576) (ha : RdM 2 C w va ls.length (prCs ls)) (hb : RdM 2 C w vb ls.length (prCs ls)) :
    Calls Try.prog 20 #[va, vb] w fun e w' => e = .returned (.bool true) ∧ Below w.heap.size w w' := by
  have HA := ha.pr
  have HB := hb.pr
  obtain ⟨aa, ca, rfl, hca, _⟩ := rdM_slice ha
  obtain ⟨ab, cb, rfl, hcb, _⟩ := rdM_slice hb
  have HRA : Hid (RdM 2 C w (.slice aa ls.length ca) ls.length (prCs ls)) := ha
  have HRB : Hid (RdM 2 C w (.slice ab ls.length cb) ls.length (prCs ls)) := hb
  clear ha hb HA HB
  go_enter Try.func20, Try.ntmps20
  go_wp2_with fail
  go_loopw [5] (fun ti wr => ∃ k : Nat, k ≤ ls.length ∧ ti = .int .i64 (k : Int) ∧ ∃ n, wr = w.drewN n) (fun ti _ => ls.length - (intOf ti).toNat)
  case atStart => exact ⟨0, by omega, rfl, 0, rfl⟩
  case round =>
    obtain ⟨k, hk, rfl, nd, rfl⟩ := hrel
    by_cases hk9 : k < ls.length
    · have q0 : (k : Int) < (ls.length : Int) := by omega
      have q1 : (0 : Int) ≤ (k : Int) := by omega
      obtain ⟨_, aa', ca', ea, _, _, _, hra⟩ := HRA.out
      obtain ⟨_, ab', cb', eb, _, _, _, hrb⟩ := HRB.out
      simp only [Value.slice.injEq] at ea eb
      obtain ⟨rfl, _, rfl⟩ := ea
      obtain ⟨rfl, _, rfl⟩ := eb
      obtain ⟨ga, oa, rfl, _, hcA⟩ := hra (by omega)
      obtain ⟨gb, ob, rfl, _, hcB⟩ := hrb (by omega)
      have hpa := prCs_at hk9
      have a0 : (w.drewN nd).cell? ⟨ga, oa + k * 2, none⟩ = _ := hcA _ _ hpa.1
      have a1 : (w.drewN nd).cell? ⟨ga, oa + k * 2 + 1, none⟩ = _ := hcA _ _ hpa.2
      have b0 : (w.drewN nd).cell? ⟨gb, ob + k * 2, none⟩ = _ := hcB _ _ hpa.1
      have b1 : (w.drewN nd).cell? ⟨gb, ob + k * 2 + 1, none⟩ = _ := hcB _ _ hpa.2
      generalize (prAt ls k).1 = x at *
      generalize (prAt ls k).2 = y at *
      clear hcA hcB hpa hra hrb
      have hbw : Below w.heap.size w (w.drewN nd) := below_drewNL (Below.refl _ _) nd
      have hrel9 : ∀ n, ∃ m, (w.drewN nd).drewN n = w.drewN m := fun n => ⟨_, World.drewN_drewN _ _ _⟩
      generalize w.drewN nd = wr at *
      go_upto_region 6 with fail
      go_quiet (fail)
      go_wp2_with fail
      go_roundw
      case rel => exact ⟨k + 1, by omega, by go_num, hrel9 _⟩
      case measure => simp [intOf]; omega
    · have q0 : ¬ (k : Int) < (ls.length : Int) := by omega
      go_wp2_with fail
      go_ret
      exact ⟨rfl, below_drewNL (Below.refl _ _) nd⟩
end Go.Proofs.Ytagnpahkhaighaa
