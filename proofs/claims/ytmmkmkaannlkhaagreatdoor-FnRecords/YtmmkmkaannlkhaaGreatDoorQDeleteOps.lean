/- slices.Delete of one operation out of a row of the call's own. -/
import Derived.Deep.DeepAppendRoom
import Derived.Test.YtmmkmkaannlkhaaGreatDoorQOpNumsToRdCut
import Derived.Test.YtmmkmkaannlkhaaGreatDoorQLedClosedToUndoMath
import Derived.Test.YtmmkmkaannlkhaaGreatDoorQTakeKitToBigKit
namespace Go.Proofs.YtmmkmkaannlkhaaGreatDoor
open Go.RowKit
set_option linter.unusedVariables false

theorem step_append_spare {P : Program} {w : World} {ops : Array Oper} {o : Oper} {a : Act} {K : Act → World → Prop} {Q : Exit → Act → World → Prop} {E : Prop} (hgd : o.guard = none) (s x : Operand) (t : TypeId)
    (ho : o.op = .call { callee := .builtin .append, args := #[s, x], argTypes := #[t, t] })
    (base : Nat) (e : TypeId) (i : TypeInfo) (size : Nat) (ht : P.underlying t = some (.slice e)) (hi : P.info? e = some i) (hsize : i.size = size)
    (g n cap : Nat) (xs : List Value) (hs : a.eval s = .slice (some ⟨g, 0, none⟩) n cap) (hown : w.ownsRow base e size (.slice (some ⟨g, 0, none⟩) n cap) n xs)
    (ad : Addr) (m c : Nat) (news : List Value) (hx : a.eval x = .slice (some ad) m c) (hl : news.length = m * size) (hnews : ∀ j u, news[j]? = some u → w.cell? (ad.add j) = some u) (h1 : ∀ u ∈ news, u.oneCell' = true)
    (hroom : n + m ≤ cap)
    (h : ∀ w', w'.ownsRow base e size (.slice (some ⟨g, 0, none⟩) (n + m) cap) (n + m) (xs ++ news) → w.grownBy w' (some g) → K (a.put o.dst (.slice (some ⟨g, 0, none⟩) (n + m) cap)) w') : if Region.wanted o (yielded ops a.tmps) = true then Oper.wp P o a w K Q else E := by
  have hw : Region.wanted o (yielded ops a.tmps) = true := by simp [Region.wanted, hgd]
  rw [if_pos hw]
  exact wp_append_own_spare w s x t ho base e i size ht hi hsize g n cap xs hs hown ad m c news hx hl hnews h1 hroom h
theorem owns_cut {w : World} {B : Nat} {e : TypeId} {s g n cap : Nat} {xs : List Value} (h : w.ownsRow B e s (.slice (some ⟨g, 0, none⟩) n cap) n xs) {k : Nat} (hk : k ≤ n) : w.ownsRow B e s (.slice (some ⟨g, 0, none⟩) k cap) k (xs.take (k * s)) := by
  obtain ⟨h1, h2⟩ := h
  have hks : k * s ≤ n * s := Nat.mul_le_mul_right s hk
  refine ⟨by rw [List.length_take, h1]; omega, ?_⟩
  rcases h2 with ⟨h', _⟩ | ⟨g', cap', cur, h', hb, hg, hnc, hcm, hcs, ht⟩
  · simp at h'
  · simp only [Value.slice.injEq, Option.some.injEq, Addr.mk.injEq, and_true, true_and] at h'
    obtain ⟨rfl, rfl⟩ := h'
    exact .inr ⟨g, cap, cur, rfl, hb, hg, by omega, hcm, hcs, by rw [← ht, List.take_take, Nat.min_eq_left hks]⟩
theorem owns_behind {B : Nat} {e : TypeId} {s g n cap : Nat} {xs : List Value} : ∀ (vs : List Value) (o : Nat) (w : World), w.ownsRow B e s (.slice (some ⟨g, 0, none⟩) n cap) n xs → xs.length ≤ o → (w.setCells g o vs).ownsRow B e s (.slice (some ⟨g, 0, none⟩) n cap) n xs
  | [], o, w, h, _ => h
  | v :: vs, o, w, h, ho => by
    have := (World.ownsRow.stored h o v).1
    rw [List.set_eq_of_length_le ho] at this
    exact owns_behind vs (o + 1) _ this (by omega)
theorem grown_cells {g : Nat} : ∀ (vs : List Value) (o : Nat) (w : World), w.grownBy (w.setCells g o vs) (some g)
  | [], o, w => World.grownBy.refl _ _
  | v :: vs, o, w => grownBy_trans (grownBy_set w g o v) (grown_cells vs (o + 1) _)
theorem there_row {w : World} {B : Nat} {e : TypeId} {s g n cap : Nat} {xs : List Value} (h : w.ownsRow B e s (.slice (some ⟨g, 0, none⟩) n cap) n xs) {k m : Nat} (hk : k + m ≤ cap * s) : w.there g k m := by
  obtain ⟨h1, h2⟩ := h
  rcases h2 with ⟨h', _⟩ | ⟨g', cap', cur, h', hb, hg, hnc, hcm, hcs, ht⟩
  · simp at h'
  · simp only [Value.slice.injEq, Option.some.injEq, Addr.mk.injEq, and_true, true_and] at h'
    obtain ⟨rfl, rfl⟩ := h'
    intro j hj
    have hlt : k + j < cur.size := by omega
    constructor
    · simp [World.cell?, hg, hlt]
    · simp [World.frozen?, hg]
theorem rowCs_take (L : List Ov) (i : Nat) : (rowCs L).take (i * 12) = rowCs (L.take i) := by
  by_cases h : i ≤ L.length
  · conv => lhs; rw [← List.take_append_drop i L, rowCs_app]
    rw [List.take_append_of_le_length (by rw [rowCs_len, List.length_take]; omega), List.take_of_length_le (by rw [rowCs_len, List.length_take]; omega)]
  · rw [List.take_of_length_le (by rw [rowCs_len]; omega), List.take_of_length_le (by omega)]
theorem rowCs_cells {L : List Ov} (h : ∀ x ∈ L, x.dv.oneCell' = true) : ∀ u ∈ rowCs L, u.oneCell' = true := by
  intro u hu
  unfold rowCs at hu
  obtain ⟨x, hx, hu⟩ := List.mem_flatMap.1 hu
  exact cs_one x (h x hx) u hu
theorem rowCs_drop (L : List Ov) (i : Nat) (h : i ≤ L.length) : (rowCs L).drop (i * 12) = rowCs (L.drop i) := by
  conv => lhs; rw [← List.take_append_drop i L, rowCs_app]
  rw [List.drop_left' (by rw [rowCs_len, List.length_take]; omega)]
theorem erase_split {L : List Ov} {i : Nat} : L.eraseIdx i = L.take i ++ L.drop (i + 1) := List.eraseIdx_eq_take_drop_succ ..
def zeroOpC : List Value := [.int .i64 0, .int .i64 0, .int .i64 0, .slice none 0 0, .int .i64 0, .int .i64 0, .int .i64 0, .int .i64 0, .int .i64 0, .int .i64 0, .string ByteArray.empty, .string ByteArray.empty]
theorem run_clear_op (w : World) (ty : TypeId) (g o c : Nat) (h : w.there g o 12) : (Builtin.clear_ #[33] ty #[.slice (some ⟨g, o, none⟩) 1 c]).run Tryz.prog w = .ok (.tuple #[]) (w.setCells g o zeroOpC) := by
  have hz : ∀ w, (zeroValue 29).run Tryz.prog w = .ok (.agg zeroOpC.toArray) w := fun w => by kernel_rfl
  have hzc : (Builtin.zeroCells (Value.agg zeroOpC.toArray).cells 1).toList = zeroOpC := by first | kernel_rfl | decide +kernel
  have hst := run_storeCells_cells (P := Tryz.prog) g o zeroOpC 0 w (fun j hj => by simpa using (h j hj).1) (fun j hj => by simpa using (h j hj).2) (by intro v hv; simp [zeroOpC] at hv; rcases hv with rfl | rfl | rfl | rfl <;> rfl)
  simp only [Nat.add_zero] at hst
  simp [Builtin.clear_, run_underlying Tryz.underlying33, hz, hzc, hst]

end Go.Proofs.YtmmkmkaannlkhaaGreatDoor
