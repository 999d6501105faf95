/- Lists of texts within structs: their size; that the blocks of two or three slices are apart. No condition: they are lemmas. -/
import Derived.Test.YtlncfeakcgjioaaNest
namespace Go.Proofs.Ytlncfeakcgjioaa
open Go.RowKit
set_option linter.unusedVariables false

theorem split_at {α : Type} : ∀ {M : List α} {k : Nat} {f : α}, M[k]? = some f → ∃ a r, M = a ++ f :: r ∧ a.length = k
  | [], k, f, h => by simp at h
  | x :: r, 0, f, h => by
    simp at h
    subst h
    exact ⟨[], r, rfl, rfl⟩
  | x :: r, k + 1, f, h => by
    obtain ⟨a, b, rfl, ha⟩ := split_at (M := r) (by simpa using h)
    exact ⟨x :: a, b, rfl, by simp [ha]⟩
theorem nest_drewN {B : Nat} {a w : World} (h : Below B a w) (n : Nat) : Below B a (w.drewN n) := ⟨h.os, h.tape, h.output, h.size, h.block⟩
theorem set_app : ∀ (a b : List Value) (i j : Nat) (x : Value), a.length = i → (a ++ b).set (i + j) x = a ++ b.set j x
  | [], b, i, j, x, h => by
    simp at h
    subst h
    rw [Nat.zero_add]
    rfl
  | y :: a, b, i, j, x, h => by
    obtain ⟨i, rfl⟩ : ∃ i', i = i' + 1 := ⟨a.length, by simpa using h.symm⟩
    rw [Nat.add_right_comm, List.cons_append, List.set_cons_succ, set_app a b i j x (by simpa using h), List.cons_append]
theorem rd_slice {C : Nat} {w : World} {v : Value} {ss : List ByteArray} (h : Rd C w v (ss.map Value.string)) : ∃ a c, v = .slice a ss.length c := by
  obtain ⟨a, c, rfl, _⟩ := h
  exact ⟨a, c, by rw [List.length_map]⟩
/-- The blocks of these slices are apart, two by two. -/
abbrev Apts (us : List Value) : Prop := us.Pairwise Apt
theorem Apts.one {u : Value} : Apts [u] := List.pairwise_singleton _ _
theorem Apts.two {u v : Value} (h : Apt u v) : Apts [u, v] := List.pairwise_cons.2 ⟨fun x hx => by simp at hx; subst hx; exact h, List.pairwise_singleton _ _⟩

set_option maxHeartbeats 1000000 in
theorem szStringL_any (C : Nat) (w : World) (v : Value) (ss : List ByteArray) (l : Int) (h0 : 0 ≤ l) (h1 : l ≤ 1048576) (hl : ss.length ≤ maxLen) (hs : ∀ t ∈ ss, t.size ≤ maxLen) (hC : C ≤ w.heap.size) (hr : Rd C w v (ss.map Value.string)) :
    Calls Try.prog 33 #[v, .int .i64 l] w fun e w' => (∃ x : Int, e = .returned (.int .i64 x) ∧ -1 ≤ x ∧ x ≤ l ∧ (0 ≤ x → x + (ss.length : Int) ≤ l)) ∧ Below w.heap.size w w' := by
  obtain ⟨ao, cap, rfl, _, _, _, hr⟩ := hr
  rw [List.length_map] at hr ⊢
  have hlm : (ss.length : Int) ≤ 9223372036854775807 := by unfold maxLen at hl; omega
  by_cases hb : l - (ss.length : Int) < 0
  · go_enter Try.func33, Try.ntmps33
    go_wp2
    go_ret
    exact ⟨⟨_, rfl, by omega, by omega, by omega⟩, Below.refl _ _⟩
  · go_enter Try.func33, Try.ntmps33
    go_wp2
    go_loop [1, 5] (fun t i => ∃ (k : Nat) (x : Int), k ≤ ss.length ∧ i = .int .i64 k ∧ t = .int .i64 x ∧ 0 ≤ x ∧ x + (ss.length : Int) ≤ l) (fun _ i => ss.length - (intOf i).toNat)
    case atStart => exact ⟨0, _, Nat.zero_le _, rfl, rfl, by omega, by omega⟩
    case round =>
      obtain ⟨k, x, hk, rfl, rfl, hx0, hx1⟩ := hrel
      by_cases hlt : k < ss.length
      · obtain ⟨g, off, rfl, _, hc⟩ := hr (by omega)
        have c1 := hc k (.string ss[k]) (by simp [hlt])
        have hsk := hs ss[k] (List.getElem_mem hlt)
        have hskm : ((ss[k]).size : Int) ≤ 9223372036854775807 := by unfold maxLen at hsk; omega
        have j2 : (k : Int) + 1 < 9223372036854775808 := by omega
        generalize ss[k] = t at *
        clear hc hr hs hsk
        by_cases hbig : x - (t.size : Int) < 0
        · go_wp2
          go_ret
          exact ⟨⟨_, rfl, by omega, by omega, by omega⟩, Below.refl _ _⟩
        · go_wp2
          go_round
          case rel => exact ⟨k + 1, _, by omega, by go_num, rfl, by omega, by omega⟩
          case measure => simp [intOf]; omega
      · obtain rfl : k = ss.length := by omega
        go_wp2
        go_ret
        exact ⟨⟨_, rfl, by omega, by omega, fun _ => by omega⟩, Below.refl _ _⟩
end Go.Proofs.Ytlncfeakcgjioaa
