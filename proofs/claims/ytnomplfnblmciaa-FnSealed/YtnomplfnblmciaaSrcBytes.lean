/- Drawn bytes. -/
import Derived.Test.YtnomplfnblmciaaSrc
import Derived.Test.YtnomplfnblmciaaSealMath
namespace Go.Proofs.Ytnomplfnblmciaa
open Go.RowKit
set_option linter.unusedVariables false

theorem own_grown {w w' : World} {B b : Nat} {v : Value} {cs : List Value} (h : Own 5 w B v cs) (hg : w.grownBy w' (some b)) (hb : b < B) : Own 5 w' B v cs := h.apart hg (fun k hk => by cases hk; exact hb)

set_option maxHeartbeats 2000000 in
set_option maxRecDepth 100000 in
theorem bytes_any (C b A n : Nat) (w : World) (h : Src C w b A) (hA : A ≤ 800000000) (hn : n ≤ 4096) :
    Calls Try.prog 25 #[.pointer (some ⟨b, 0, none⟩), .int .i64 (n : Int)] w fun e w' => ∃ (r : Value) (xs : List Int), e = .returned r ∧ xs.length = n ∧ (∀ c ∈ xs, 0 ≤ c ∧ c ≤ 255) ∧ Own 5 w' w.heap.size r (xs.map (Value.int .u8)) ∧ Src C w' b (A + n) ∧ w.grownBy w' (some b) := by
  obtain ⟨i0, hi, hz0, hz1, hz2⟩ := info_parts info5
  have hlt := h.lt
  have ho0 : Own 5 (w.alloc (.cells #[] 5)) w.heap.size (.slice (some ⟨w.heap.size, 0, none⟩) 0 0) [] := own_lit w 5 [] 0 rfl (by decide)
  go_enter Try.func25, Try.ntmps25
  go_wp2_with fail
  go_loopw [5, 6] (fun to ti wr => ∃ (k : Nat) (xs : List Int), k ≤ n ∧ ti = .int .i64 k ∧ Hid (xs.length = k) ∧ Hid (∀ c ∈ xs, 0 ≤ c ∧ c ≤ 255) ∧ Hid (Own 5 wr w.heap.size to (xs.map (Value.int .u8))) ∧ Hid (Src C wr b (A + k)) ∧ Hid (w.grownBy wr (some b))) (fun _ ti _ => n - (intOf ti).toNat)
  case atStart => exact ⟨0, [], Nat.zero_le _, rfl, rfl, fun c hc => by simp at hc, ho0, h.alloc _, World.grownBy_alloc w _ _⟩
  case round =>
    obtain ⟨k, xs, hkn, rfl, HL, HB, HO, HS, HG⟩ := hrel
    by_cases hk : k < n
    · have j1 : (k : Int) < (n : Int) := by omega
      have hBY := fun (_ : World) => byte_any C b (A + k) wr HS.out (by omega)
      go_wp2_with fail
      refine (hBY wr).mono ?_
      rintro e w1 ⟨r, rfl, hr0, hr1, hS1, hG1⟩
      have hG : w.grownBy w1 (some b) := grownBy_trans HG.out hG1
      have z1 := hG.size
      have hO1 : Own 5 w1 w.heap.size _ _ := own_grown HO.out hG1 hlt
      have hlen : (xs.map (Value.int .u8)).length = k := by rw [List.length_map]; exact HL.out
      have hOA : Own 5 (w1.alloc (.cells #[.int .u8 r] 5)) w.heap.size _ _ := World.ownsRow.alloc hO1 _
      have hN : ∀ j u, ([Value.int .u8 r] : List Value)[j]? = some u → (w1.alloc (.cells #[.int .u8 r] 5)).cell? ((⟨w1.heap.size, 0, none⟩ : Addr).add j) = some u := fun j u hj => by
        cases j with
        | zero => simp at hj; subst hj; exact cell_made1 (w := w1) (T := 5) (Below.refl _ _)
        | succ j => simp at hj
      have hwr : IntKind.u8.wrap r = r := by rw [IntKind.wrap_u8]; omega
      have hRD : Rd (w1.heap.size + 1) (w1.alloc (.cells #[.int .u8 r] 5)) (.slice (some ⟨w1.heap.size, 0, none⟩) 1 1) [.int .u8 r] := ⟨_, 1, rfl, Nat.le_refl _, by decide, (fun h => by cases h), fun _ => ⟨w1.heap.size, 0, rfl, Nat.lt_succ_self _, fun j u hj => by have := hN j u hj; rwa [Addr.add_lit] at this⟩⟩
      have HM1 : Hid ((xs.map (Value.int .u8)).length + [Value.int .u8 r].length ≤ maxLen) := by unfold Hid maxLen; rw [hlen]; simp; omega
      have HM2 : Hid (((xs.map (Value.int .u8)).length + [Value.int .u8 r].length) * 1 ≤ 140737488355328) := by unfold Hid; rw [hlen]; simp; omega
      have hblk := hO1.lt
      have HBE : Hid (∀ k', (_ : Value).ownBlock = some k' → w.heap.size ≤ k') := hblk
      clear hBY hO1 hblk hlen hN HO
      go_wp2_with (at_builtin; refine wpList_append_rd rfl _ _ 22 rfl w.heap.size 5 i0 (.int .u8 0) 1 Try.underlying22 hi hz0 hz1 hz2 rfl _ _ rfl hOA _ _ [.int .u8 r] rfl hRD (fun u hu => by simp at hu; subst hu; rfl) HM1.out HM2.out (by rw [World.size_alloc]; omega) ?_)
      intro v2 w2 ho2 hg2
      have HO2 : Hid (Own 5 w2 w.heap.size v2 ((xs ++ [r]).map (Value.int .u8))) := by unfold Hid; rw [List.map_append]; exact ho2
      have hb2 : Below w.heap.size w1 w2 := ((Below.refl w.heap.size w1).alloc z1 _).grown hg2 (by rw [World.size_alloc]; omega) HBE.out
      have HS2 : Hid (Src C w2 b (A + (k + 1))) := (hS1.mono (by omega)).below hb2 hlt
      have HG2 : Hid (w.grownBy w2 (some b)) := by
        refine ⟨hb2.os.trans hG.os, hb2.tape.trans hG.tape, hb2.output.trans hG.output, Nat.le_trans z1 hb2.size, fun i hi hr => ?_⟩
        rw [hb2.block i hi]
        exact hG.block i hi hr
      have HL2 : Hid ((xs ++ [r]).length = k + 1) := by unfold Hid; rw [List.length_append, HL.out]; rfl
      have HB2 : Hid (∀ c ∈ xs ++ [r], 0 ≤ c ∧ c ≤ 255) := fun c hc => by
        rcases List.mem_append.1 hc with h | h
        · exact HB.out c h
        · simp at h; subst h; exact ⟨hr0, hr1⟩
      generalize xs ++ [r] = ys at *
      clear ho2 hg2 hb2 hRD hOA HL HB HS HG hG hG1 hS1 HM1 HM2 HBE
      go_wp2_with fail
      go_roundw
      case rel => exact ⟨k + 1, ys, by omega, by go_num, HL2, HB2, HO2, HS2, HG2⟩
      case measure => simp [intOf]; omega
    · go_wp2_with fail
      go_ret
      have hkn : k = n := by omega
      subst hkn
      exact ⟨_, xs, rfl, HL.out, HB.out, HO.out, HS.out, HG.out⟩
end Go.Proofs.Ytnomplfnblmciaa
