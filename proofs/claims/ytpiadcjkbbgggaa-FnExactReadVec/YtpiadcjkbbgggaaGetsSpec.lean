/- What l01Get and the specification's GetInt do. -/
import Derived.Test.YtpiadcjkbbgggaaNums
import Derived.Test.YtpiadcjkbbgggaaGets
namespace Go.Proofs.Ytpiadcjkbbgggaa
open Go.RowKit
set_option linter.unusedVariables false

/-- What l01Get answers. -/
def getR (xs : List Int) (p : Nat) (e : Ending) : Prop := match getL xs p with
  | some (a, q) => e = .returned (.tuple #[.int .i64 a, .int .i64 (q : Int), .bool true])
  | none => ∃ a b : Int, e = .returned (.tuple #[.int .i64 a, .int .i64 b, .bool false])

set_option maxHeartbeats 1000000 in
set_option maxRecDepth 100000 in
theorem l01Get_any (C : Nat) (w : World) (v : Value) (xs : List Int) (p : Nat) (hx : Bytes xs) (hl : xs.length ≤ 1048576) (hp : p ≤ xs.length) (hr : Rd C w v (xs.map (Value.int .u8))) :
    Calls Try.prog 86 #[v, .int .i64 (p : Int)] w fun e w' => getR xs p e ∧ w' = w := by
  obtain ⟨ao, cap, rfl, hcap, hmax, hnil, hr⟩ := hr
  rw [List.length_map] at hr ⊢
  go_enter Try.func86, Try.ntmps86
  go_wp2
  go_loop [7, 8, 9] (fun tv tu ti => ∃ (i : Nat) (v u : Int), i ≤ 8 ∧ ti = .int .i64 i ∧ tv = .int .i64 v ∧ tu = .int .i64 u ∧ Hid (u = 128 ^ i) ∧ 0 ≤ v ∧ v < u ∧ u ≤ 72057594037927936 ∧ Hid (getL xs p = getF xs (9 - i) i (p + i) v)) (fun _ _ ti => 9 - (intOf ti).toNat)
  case atStart => exact ⟨0, 0, 1, by omega, rfl, rfl, rfl, rfl, by omega, by omega, by omega, rfl⟩
  case round =>
    obtain ⟨i, v, u, hi, rfl, rfl, rfl, HU, hv0, hv1, hu, HG⟩ := hrel
    by_cases hlt : p + i < xs.length
    · obtain ⟨g, off, rfl, _, hc⟩ := hr (by omega)
      have c1 := hc (p + i) (.int .u8 xs[p + i]) (by simp [hlt])
      obtain ⟨hb0, hb1⟩ := hx xs[p + i] (List.getElem_mem hlt)
      have hcs := get_cases hi HU.out hv0 hv1 HG.out hlt rfl hb0 hb1
      generalize xs[p + i] = c at c1 hb0 hb1 hcs
      have hm := mul_bd (c := c % 128) (u := u) (k := 127) (by omega) (by omega) (by omega)
      clear hc hr HG
      rcases hcs with ⟨rfl, h1, hG⟩ | ⟨rfl, h1, hG⟩ | ⟨h1, rfl, hG⟩ | ⟨h1, h2, h3, h4, hG⟩ | ⟨h1, h2, hG, h3, h4, h5⟩
      · have HG : Hid _ := hG
        clear hG
        go_wp2
        go_ret3
        exact ⟨by rw [getR, HG.out]; exact ⟨_, _, rfl⟩, rfl⟩
      · have HG : Hid _ := hG
        rw [Nat.add_zero] at c1
        clear hG
        go_wp2
        go_ret3
        exact ⟨by rw [getR, HG.out]; rfl, rfl⟩
      · have HG : Hid _ := hG
        have hi0 : ((i : Int) == 0) = false := by rw [beq_eq_false_iff_ne]; omega
        clear hG
        go_wp2
        all_goals go_ret3
        all_goals exact ⟨by rw [getR, HG.out]; exact ⟨_, _, rfl⟩, rfl⟩
      · have HG : Hid _ := hG
        have hi0 : ((i : Int) == 0) = false := by rw [beq_eq_false_iff_ne]; omega
        clear hG
        by_cases h8 : i = 8
        · have h63 := h4 h8
          clear h4
          subst h8
          go_wp2
          all_goals go_ret3
          all_goals exact ⟨by rw [getR, HG.out]; rfl, rfl⟩
        · clear h4
          have hi8 : ((i : Int) == 8) = false := by rw [beq_eq_false_iff_ne]; omega
          go_wp2
          all_goals go_ret3
          all_goals exact ⟨by rw [getR, HG.out]; rfl, rfl⟩
      · have hu7 : u * 128 ≤ 72057594037927936 := by rw [h3]; exact pow_8 (by omega)
        have HG : Hid _ := hG
        have HU' : Hid _ := h3
        clear hG h3
        go_wp2
        go_round
        case rel => exact ⟨i + 1, v + c % 128 * u, u * 128, by omega, by go_num, rfl, rfl, HU', by omega, by omega, by omega, HG⟩
        case measure => simp [intOf]; omega
    · have HN : Hid (getL xs p = none) := get_stop HG.out (by omega)
      clear HG hr
      go_wp2
      go_ret3
      exact ⟨by rw [getR, HN.out]; exact ⟨_, _, rfl⟩, rfl⟩

/-- What GetInt answers, of at most MaxBytes bytes. -/
def getI (xs : List Int) (a : Int) : Int × Int × Int := if a < 0 ∨ (xs.length : Int) < a then (0, 0, 1) else match getL xs a.toNat with
  | some (v, q) => (v, (q : Int), 0)
  | none => (0, 0, 3)
theorem getI_out {xs : List Int} {a : Int} (h : a < 0 ∨ (xs.length : Int) < a) : getI xs a = (0, 0, 1) := by unfold getI; rw [if_pos h]
theorem getI_none {xs : List Int} {p : Nat} (h : p ≤ xs.length) (hG : getL xs p = none) : getI xs (p : Int) = (0, 0, 3) := by unfold getI; rw [if_neg (by omega), Int.toNat_natCast, hG]
theorem getI_some {xs : List Int} {p q : Nat} {v : Int} (h : p ≤ xs.length) (hG : getL xs p = some (v, q)) : getI xs (p : Int) = (v, (q : Int), 0) := by unfold getI; rw [if_neg (by omega), Int.toNat_natCast, hG]

end Go.Proofs.Ytpiadcjkbbgggaa
