/- slices.Delete of one operation out of a row of the call's own. -/
import Derived.Deep.DeepAppendRoom
import Derived.Test.YtjbjkamlgcnmaaaQOpRange
import Derived.Test.YtjbjkamlgcnmaaaQLedClosedToLogOKImpl
import Derived.Test.YtjbjkamlgcnmaaaQTakeKitToBigKit
namespace Go.Proofs.Ytjbjkamlgcnmaaa
open Go.RowKit
set_option linter.unusedVariables false

theorem step_append_spare {P : Program} {w : World} {ops : Array Oper} {o : Oper} {a : Act} {K : Act → World → Prop} {Q : Exit → Act → World → Prop} {E : Prop} (hgd : o.guard = none) (s x : Operand) (t : TypeId)
    (ho : o.op = .call { callee := .builtin .append, args := #[s, x], argTypes := #[t, t] })
    (base : Nat) (e : TypeId) (i : TypeInfo) (size : Nat) (ht : P.underlying t = some (.slice e)) (hi : P.info? e = some i) (hsize : i.size = size)
    (g n cap : Nat) (xs : List Value) (hs : a.eval s = .slice (some ⟨g, 0, none⟩) n cap) (hown : w.ownsRow base e size (.slice (some ⟨g, 0, none⟩) n cap) n xs)
    (ad : Addr) (m c : Nat) (news : List Value) (hx : a.eval x = .slice (some ad) m c) (hl : news.length = m * size) (hnews : ∀ j u, news[j]? = some u → w.cell? (ad.add j) = some u) (h1 : ∀ u ∈ news, u.oneCell' = true)
    (hroom : n + m ≤ cap)
    (h : ∀ w', w'.ownsRow base e size (.slice (some ⟨g, 0, none⟩) (n + m) cap) (n + m) (xs ++ news) → w.grownBy w' (some g) → K (a.put o.dst (.slice (some ⟨g, 0, none⟩) (n + m) cap)) w') : if Region.wanted o (yielded ops a.tmps) = true then Oper.wp P o a w K Q else E := by
  have hw : Region.wanted o (yielded ops a.tmps) = true := by simp [Region.wanted, hgd]
  rw [if_pos hw]
  exact wp_append_own_spare w s x t ho base e i size ht hi hsize g n cap xs hs hown ad m c news hx hl hnews h1 hroom h
theorem owns_cut {w : World} {B : Nat} {e : TypeId} {s g n cap : Nat} {xs : List Value} (h : w.ownsRow B e s (.slice (some ⟨g, 0, none⟩) n cap) n xs) {k : Nat} (hk : k ≤ n) : w.ownsRow B e s (.slice (some ⟨g, 0, none⟩) k cap) k (xs.take (k * s)) := by
  obtain ⟨h1, h2⟩ := h
  have hks : k * s ≤ n * s := Nat.mul_le_mul_right s hk
  refine ⟨by rw [List.length_take, h1]; omega, ?_⟩
  rcases h2 with ⟨h', _⟩ | ⟨g', cap', cur, h', hb, hg, hnc, hcm, hcs, ht⟩
  · simp at h'
  · simp only [Value.slice.injEq, Option.some.injEq, Addr.mk.injEq, and_true, true_and] at h'
    obtain ⟨rfl, rfl⟩ := h'
    exact .inr ⟨g, cap, cur, rfl, hb, hg, by omega, hcm, hcs, by rw [← ht, List.take_take, Nat.min_eq_left hks]⟩
theorem owns_behind {B : Nat} {e : TypeId} {s g n cap : Nat} {xs : List Value} : ∀ (vs : List Value) (o : Nat) (w : World), w.ownsRow B e s (.slice (some ⟨g, 0, none⟩) n cap) n xs → xs.length ≤ o → (w.setCells g o vs).ownsRow B e s (.slice (some ⟨g, 0, none⟩) n cap) n xs
  | [], o, w, h, _ => h
  | v :: vs, o, w, h, ho => by
    have := (World.ownsRow.stored h o v).1
    rw [List.set_eq_of_length_le ho] at this
    exact owns_behind vs (o + 1) _ this (by omega)
theorem grown_cells {g : Nat} : ∀ (vs : List Value) (o : Nat) (w : World), w.grownBy (w.setCells g o vs) (some g)
  | [], o, w => World.grownBy.refl _ _
  | v :: vs, o, w => grownBy_trans (grownBy_set w g o v) (grown_cells vs (o + 1) _)
theorem there_row {w : World} {B : Nat} {e : TypeId} {s g n cap : Nat} {xs : List Value} (h : w.ownsRow B e s (.slice (some ⟨g, 0, none⟩) n cap) n xs) {k m : Nat} (hk : k + m ≤ cap * s) : w.there g k m := by
  obtain ⟨h1, h2⟩ := h
  rcases h2 with ⟨h', _⟩ | ⟨g', cap', cur, h', hb, hg, hnc, hcm, hcs, ht⟩
  · simp at h'
  · simp only [Value.slice.injEq, Option.some.injEq, Addr.mk.injEq, and_true, true_and] at h'
    obtain ⟨rfl, rfl⟩ := h'
    intro j hj
    have hlt : k + j < cur.size := by omega
    constructor
    · simp [World.cell?, hg, hlt]
    · simp [World.frozen?, hg]
theorem rowCs_take (L : List Ov) (i : Nat) : (rowCs L).take (i * 12) = rowCs (L.take i) := by
  by_cases h : i ≤ L.length
  · conv => lhs; rw [← List.take_append_drop i L, rowCs_app]
    rw [List.take_append_of_le_length (by rw [rowCs_len, List.length_take]; omega), List.take_of_length_le (by rw [rowCs_len, List.length_take]; omega)]
  · rw [List.take_of_length_le (by rw [rowCs_len]; omega), List.take_of_length_le (by omega)]
theorem rowCs_cells {L : List Ov} (h : ∀ x ∈ L, x.dv.oneCell' = true) : ∀ u ∈ rowCs L, u.oneCell' = true := by
  intro u hu
  unfold rowCs at hu
  obtain ⟨x, hx, hu⟩ := List.mem_flatMap.1 hu
  exact cs_one x (h x hx) u hu
theorem rowCs_drop (L : List Ov) (i : Nat) (h : i ≤ L.length) : (rowCs L).drop (i * 12) = rowCs (L.drop i) := by
  conv => lhs; rw [← List.take_append_drop i L, rowCs_app]
  rw [List.drop_left' (by rw [rowCs_len, List.length_take]; omega)]
theorem erase_split {L : List Ov} {i : Nat} : L.eraseIdx i = L.take i ++ L.drop (i + 1) := List.eraseIdx_eq_take_drop_succ ..
def zeroOpC : List Value := [.int .i64 0, .int .i64 0, .int .i64 0, .slice none 0 0, .int .i64 0, .int .i64 0, .int .i64 0, .int .i64 0, .int .i64 0, .int .i64 0, .string ByteArray.empty, .string ByteArray.empty]
theorem run_clear_op (w : World) (ty : TypeId) (g o c : Nat) (h : w.there g o 12) : (Builtin.clear_ #[24] ty #[.slice (some ⟨g, o, none⟩) 1 c]).run Try.prog w = .ok (.tuple #[]) (w.setCells g o zeroOpC) := by
  have hz : ∀ w, (zeroValue 44).run Try.prog w = .ok (.agg zeroOpC.toArray) w := fun w => by kernel_rfl
  have hzc : (Builtin.zeroCells (Value.agg zeroOpC.toArray).cells 1).toList = zeroOpC := by first | kernel_rfl | decide +kernel
  have hst := run_storeCells_cells (P := Try.prog) g o zeroOpC 0 w (fun j hj => by simpa using (h j hj).1) (fun j hj => by simpa using (h j hj).2) (by intro v hv; simp [zeroOpC] at hv; rcases hv with rfl | rfl | rfl | rfl <;> rfl)
  simp only [Nat.add_zero] at hst
  simp [Builtin.clear_, run_underlying Try.underlying24, hz, hzc, hst]

set_option maxHeartbeats 2000000 in
set_option maxRecDepth 100000 in
theorem delete_any (B g cap i : Nat) (L : List Ov) (w : World) (h : w.ownsRow B 44 12 (.slice (some ⟨g, 0, none⟩) L.length cap) L.length (rowCs L)) (hi : i < L.length) (hl : L.length ≤ 1024) (hone : ∀ x ∈ L, x.dv.oneCell' = true) :
    Calls Try.prog 56 #[.slice (some ⟨g, 0, none⟩) L.length cap, .int .i64 (i : Int), .int .i64 ((i + 1 : Nat) : Int)] w fun e w' => e = .returned (.slice (some ⟨g, 0, none⟩) (L.length - 1) cap) ∧ w'.ownsRow B 44 12 (.slice (some ⟨g, 0, none⟩) (L.length - 1) cap) (L.length - 1) (rowCs (L.eraseIdx i)) ∧ w.grownBy w' (some g) := by
  obtain ⟨i0, hi0, hz0, hz1, hz2⟩ := info_parts infoOp
  have hcap : L.length ≤ cap ∧ cap ≤ maxLen := by
    rcases h.2 with ⟨h', _⟩ | ⟨g', cap', cur, h', hb, hg, hnc, hcm, _⟩
    · simp at h'
    · simp only [Value.slice.injEq, Option.some.injEq, Addr.mk.injEq, and_true, true_and] at h'
      obtain ⟨rfl, rfl⟩ := h'
      exact ⟨hnc, hcm⟩
  obtain ⟨hc1, hc2⟩ := hcap
  have hcut := owns_cut h (k := i) (by omega)
  rw [rowCs_take] at hcut
  have hnews : ∀ j u, (rowCs (L.drop (i + 1)))[j]? = some u → w.cell? ((⟨g, (i + 1) * 12, none⟩ : Addr).add j) = some u := fun j u hj => by
    rw [Addr.add_mid]
    rw [← rowCs_drop L (i + 1) (by omega), List.getElem?_drop] at hj
    have hlt := (List.getElem?_eq_some_iff.1 hj).1
    rw [rowCs_len] at hlt
    exact (World.ownsRow.cellAt h ((i + 1) * 12 + j) (by omega)).trans hj
  have hlen1 : (rowCs (L.drop (i + 1))).length = (L.length - (i + 1)) * 12 := by rw [rowCs_len, List.length_drop]
  have hone1 := rowCs_cells (fun x hx => hone x (List.mem_of_mem_drop hx) : ∀ x ∈ L.drop (i + 1), x.dv.oneCell' = true)
  have HER : Hid (rowCs (L.take i) ++ rowCs (L.drop (i + 1)) = rowCs (L.eraseIdx i)) := by unfold Hid; rw [erase_split, rowCs_app]
  have i1 : (0 : Int) ≤ (i : Int) := by omega
  have i2 : ((i + 1 : Nat) : Int) ≤ (L.length : Int) := by omega
  have i3 : (L.length : Int) ≤ (cap : Int) := by omega
  have i4 : ((i : Int) == ((i + 1 : Nat) : Int)) = false := by simp; omega
  unfold maxLen at hc2
  generalize hj : i + 1 = j at *
  generalize L.length = n at *
  go_enter Try.func56, Try.ntmps56
  have hci : ¬ cap < i := by omega
  have hjn : j ≤ n := by omega
  have hji : ¬ j < i := by omega
  by_cases hcj : cap = j
  · subst hcj
    obtain rfl : n = cap := by omega
    have hnews0 : ∀ k u, (rowCs (L.drop n))[k]? = some u → w.cell? ((⟨g, 0, none⟩ : Addr).add k) = some u := fun k u hk => by
      have := (List.getElem?_eq_some_iff.1 hk).1
      rw [hlen1] at this
      omega
    go_wp2_with fail
    refine wp_region_held_drew (S := fun _ => True) (by kernel_rfl) trivial (fun hHeld => ?_)
    refine tkH 0 (.slice (some ⟨g, 0, none⟩) n n) rfl (Or.inl ⟨by kernel_rfl, by intro w hSw; go_simp⟩) hHeld ?_
    simp only [tkS, Act.put]
    refine tkH 1 (.int .i64 (i : Int)) rfl (Or.inl ⟨by kernel_rfl, by intro w hSw; go_simp⟩) hHeld ?_
    simp only [tkS, Act.put]
    refine tkH 2 (.slice (some ⟨g, 0, none⟩) i n) rfl (Or.inl ⟨by kernel_rfl, by intro w hSw; go_simp⟩) hHeld ?_
    simp only [tkS, Act.put]
    refine tkH 3 (.slice (some ⟨g, 0, none⟩) n n) rfl (Or.inl ⟨by kernel_rfl, by intro w hSw; go_simp⟩) hHeld ?_
    simp only [tkS, Act.put]
    refine tkH 4 (.int .i64 (n : Int)) rfl (Or.inl ⟨by kernel_rfl, by intro w hSw; go_simp⟩) hHeld ?_
    simp only [tkS, Act.put]
    refine tkH 5 (.slice (some ⟨g, 0, none⟩) (n - n) (n - n)) rfl (Or.inl ⟨by kernel_rfl, by intro w hSw; go_simp⟩) hHeld ?_
    simp only [tkS, Act.put]
    refine wpAnyH_ready (rs := [6]) (by kernel_rfl) (by simp) ?_
    refine AllReadyH.cons rfl (fun K hK => ?_) AllReadyH.nil
    refine step_append_spare rfl _ _ 24 rfl B 44 i0 12 Try.underlying24 hi0 hz1 g i n (rowCs (L.take i)) rfl (show (World.drew w).ownsRow B 44 12 _ _ _ from hcut) ⟨g, 0, none⟩ (n - n) (n - n) (rowCs (L.drop n)) rfl hlen1 hnews0 hone1 (by omega) ?_
    intro w2 ho2 hg2
    have hn1 : i + (n - n) = n - 1 := by omega
    rw [hn1, HER.out] at ho2
    rw [hn1]
    refine hK.out _ _ trivial (fun hHeld => ?_)
    clear hK K
    refine tkH 7 (.slice (some ⟨g, 0, none⟩) (n - 1) n) rfl (Or.inl ⟨by kernel_rfl, by intro w hSw; go_simp⟩) hHeld ?_
    simp only [tkS, Act.put]
    refine wpAnyH_done (by kernel_rfl) ?_ _
    have hclr := fun ty => run_clear_op w2 ty g ((n - 1) * 12) 1 (there_row ho2 (by omega))
    have ho3 := owns_behind zeroOpC ((n - 1) * 12) w2 ho2 (by rw [ho2.1]; omega)
    have hg3 : w.grownBy (w2.setCells g ((n - 1) * 12) zeroOpC) (some g) := grownBy_trans (show w.grownBy w2 (some g) from ⟨hg2.1, hg2.2, hg2.3, hg2.4, hg2.5⟩) (grown_cells zeroOpC _ w2)
    generalize w2.setCells g ((n - 1) * 12) zeroOpC = w3 at hclr ho3 hg3
    have k1 : ¬ n < n := by omega
    have k2 : ¬ n = n - 1 := by omega
    have k3 : n - (n - 1) = 1 := by omega
    have k4 : n - 1 ≤ n := by omega
    have k5 : ¬ n < n - 1 := by omega
    clear hcut hlen1 hone1 ho2 hg2 h HER
    go_wp2_with fail
    go_ret
    exact ⟨rfl, ho3, hg3⟩
  · go_wp2_with fail
    refine wp_region_held_drew (S := fun _ => True) (by kernel_rfl) trivial (fun hHeld => ?_)
    refine tkH 0 (.slice (some ⟨g, 0, none⟩) n cap) rfl (Or.inl ⟨by kernel_rfl, by intro w hSw; go_simp⟩) hHeld ?_
    simp only [tkS, Act.put]
    refine tkH 1 (.int .i64 (i : Int)) rfl (Or.inl ⟨by kernel_rfl, by intro w hSw; go_simp⟩) hHeld ?_
    simp only [tkS, Act.put]
    refine tkH 2 (.slice (some ⟨g, 0, none⟩) i cap) rfl (Or.inl ⟨by kernel_rfl, by intro w hSw; go_simp⟩) hHeld ?_
    simp only [tkS, Act.put]
    refine tkH 3 (.slice (some ⟨g, 0, none⟩) n cap) rfl (Or.inl ⟨by kernel_rfl, by intro w hSw; go_simp⟩) hHeld ?_
    simp only [tkS, Act.put]
    refine tkH 4 (.int .i64 (j : Int)) rfl (Or.inl ⟨by kernel_rfl, by intro w hSw; go_simp⟩) hHeld ?_
    simp only [tkS, Act.put]
    refine tkH 5 (.slice (some ⟨g, j * 12, none⟩) (n - j) (cap - j)) rfl (Or.inl ⟨by kernel_rfl, by intro w hSw; go_simp⟩) hHeld ?_
    simp only [tkS, Act.put]
    refine wpAnyH_ready (rs := [6]) (by kernel_rfl) (by simp) ?_
    refine AllReadyH.cons rfl (fun K hK => ?_) AllReadyH.nil
    refine step_append_spare rfl _ _ 24 rfl B 44 i0 12 Try.underlying24 hi0 hz1 g i cap (rowCs (L.take i)) rfl (show (World.drew w).ownsRow B 44 12 _ _ _ from hcut) ⟨g, j * 12, none⟩ (n - j) (cap - j) (rowCs (L.drop j)) rfl hlen1 hnews hone1 (by omega) ?_
    intro w2 ho2 hg2
    have hn1 : i + (n - j) = n - 1 := by omega
    rw [hn1, HER.out] at ho2
    rw [hn1]
    refine hK.out _ _ trivial (fun hHeld => ?_)
    clear hK K
    refine tkH 7 (.slice (some ⟨g, 0, none⟩) (n - 1) cap) rfl (Or.inl ⟨by kernel_rfl, by intro w hSw; go_simp⟩) hHeld ?_
    simp only [tkS, Act.put]
    refine wpAnyH_done (by kernel_rfl) ?_ _
    have hclr := fun ty => run_clear_op w2 ty g ((n - 1) * 12) (cap - (n - 1)) (there_row ho2 (by omega))
    have ho3 := owns_behind zeroOpC ((n - 1) * 12) w2 ho2 (by rw [ho2.1]; omega)
    have hg3 : w.grownBy (w2.setCells g ((n - 1) * 12) zeroOpC) (some g) := grownBy_trans (show w.grownBy w2 (some g) from ⟨hg2.1, hg2.2, hg2.3, hg2.4, hg2.5⟩) (grown_cells zeroOpC _ w2)
    generalize w2.setCells g ((n - 1) * 12) zeroOpC = w3 at hclr ho3 hg3
    have k1 : ¬ cap < n := by omega
    have k2 : ¬ cap = n - 1 := by omega
    have k3 : n - (n - 1) = 1 := by omega
    have k4 : n - 1 ≤ n := by omega
    have k5 : ¬ n < n - 1 := by omega
    clear hcut hlen1 hone1 ho2 hg2 h HER
    go_wp2_with fail
    go_ret
    exact ⟨rfl, ho3, hg3⟩
end Go.Proofs.Ytjbjkamlgcnmaaa
