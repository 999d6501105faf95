/- The specification's l14Take. -/
import Derived.Test.YtagnpahkhaighaaLensSpFind
namespace Go.Proofs.Ytagnpahkhaighaa
open Go.RowKit
set_option linter.unusedVariables false

/-- An append of a slice that can be read onto a row that the call owns, as it runs. -/
theorem wp_append_rdM {P : Program} {w : World} {o : Oper} {a : Act} {K : Act → World → Prop} {Q : Exit → Act → World → Prop} (s x : Operand) (t : TypeId)
    (ho : o.op = .call { callee := .builtin .append, args := #[s, x], argTypes := #[t, t] })
    (base : Nat) (e : TypeId) (i : TypeInfo) (z : Value) (m bytes : Nat) (ht : P.underlying t = some (.slice e)) (hi : P.info? e = some i) (hz : i.zero = some z)
    (hsize : i.size = m) (hby : i.bytes = bytes) (hzs : z.cells.size = m) (hm : 0 < m)
    (v : Value) (n : Nat) (cs : List Value) (hs : a.eval s = v) (hown : w.ownsRow base e m v n cs) (C : Nat) (xv : Value) (k : Nat) (news : List Value) (hx : a.eval x = xv) (hr : RdM m C w xv k news) (h1 : ∀ u ∈ news, u.oneCell' = true)
    (h63 : n + k ≤ maxLen) (hbytes : (n + k) * bytes ≤ 140737488355328) (hbase : base ≤ w.heap.size)
    (h : ∀ v' w', w'.ownsRow base e m v' (n + k) (cs ++ news) → w.grownBy w' v.ownBlock → K (a.put o.dst v') w') : Oper.wp P o a w K Q := by
  obtain ⟨hl, ao, cap, rfl, hcap, hmax, hnil, hr⟩ := hr
  cases ao with
  | none =>
    have hk : k = 0 := by
      cases k with
      | zero => rfl
      | succ k => obtain ⟨g, off, e, _⟩ := hr (by omega); cases e
    subst hk
    have h00 := hnil rfl
    subst h00
    have : news = [] := List.eq_nil_of_length_eq_zero (by rw [hl]; simp)
    subst this
    have hrun := run_append_owned_none (P := P) (w := w) base t o.type e i m ht hi v n cs hown
    unfold Oper.wp
    simp [execOp, ho, resolve, invoke, builtin, hs, hx, hrun, Result.andThen]
    exact h v w (by rw [List.append_nil]; exact hown) (World.grownBy.refl _ _)
  | some a0 =>
    have hget : ∀ j u, news[j]? = some u → w.cell? (a0.add j) = some u := by
      by_cases hk : 0 < k
      · obtain ⟨g, off, e0, hg, hc⟩ := hr hk
        cases e0
        exact fun j u hj => by rw [Addr.add_lit]; exact hc j u hj
      · obtain rfl : k = 0 := by omega
        have : news = [] := List.eq_nil_of_length_eq_zero (by rw [hl]; simp)
        subst this
        exact fun j u hj => by simp at hj
    exact wp_append_own w s x t ho base e i z m bytes ht hi hz hsize hby hzs hm v n cs hs hown a0 k cap news hx hl hget h1 h63 hbytes hbase (fun v' w' h2 h3 _ => h v' w' h2 h3)

set_option maxHeartbeats 4000000 in
set_option maxRecDepth 100000 in
theorem l14Take_any (C : Nat) (w : World) (v : Value) (ls : List Pr) (p : Nat) (hl : ls.length ≤ 64) (hp : p < ls.length) (hC : C ≤ w.heap.size) (hr : RdM 2 C w v ls.length (prCs ls)) :
    Calls Try.prog 30 #[v, .int .i64 (p : Int)] w fun e w' => ∃ r, e = .returned r ∧ OwnPr w' w.heap.size r (ls.take p ++ ls.drop (p + 1)) ∧ Below w.heap.size w w' := by
  obtain ⟨i0, hi, hz0, hz1, hz2⟩ := info_parts infoPair
  have HRD : Hid (∀ w', Below w.heap.size w w' → RdM 2 C w' v ls.length (prCs ls)) := fun w' hw => hr.on hC hw
  obtain ⟨_, ao, cap, rfl, hcap, hmax, _, _⟩ := hr
  obtain ⟨P1, hP1⟩ : ∃ P1 : Nat, P1 = p + 1 := ⟨_, rfl⟩
  have HP1 : Hid (P1 = p + 1) := hP1
  have j0 : (0 : Int) ≤ (p : Int) := by omega
  have j1 : (p : Int) ≤ (ls.length : Int) := by omega
  have j2 : (p : Int) ≤ (cap : Int) := by omega
  have j5 : (P1 : Int) < 9223372036854775808 := by omega
  have j6 : (0 : Int) ≤ (P1 : Int) := by omega
  have j7 : (P1 : Int) ≤ (ls.length : Int) := by omega
  have hPl : P1 ≤ ls.length := by omega
  have HW : Hid (IntKind.i64.wrap ((p : Int) + 1) = (P1 : Int)) := by unfold Hid; rw [IntKind.wrap_i64]; omega
  rw [← hP1]
  clear hP1
  go_enter Try.func30, Try.ntmps30
  go_wp2_with fail
  by_cases hcP : cap = P1
  · have HcP : Hid _ := hcP
    have hRd8 : ∀ w', Below w.heap.size w w' → RdM 2 C w' (.slice ao (ls.length - P1) (cap - P1)) (ls.drop P1).length (prCs (ls.drop P1)) := fun w' hw => (HRD.out _ hw).from (p := P1) hPl rfl rfl (by rw [if_pos hcP])
    have HRd8 : Hid _ := hRd8
    clear hcP hRd8
    refine wp_region_held_drew (S := fun _ => True) (by kernel_rfl) trivial (fun hHeld => ?_)
    refine tkH 1 (.slice ao ls.length cap) rfl (Or.inl ⟨by kernel_rfl, by intro w hSw; clear hSw; go_simp⟩) hHeld ?_
    simp only [tkS, Act.put]
    refine tkH 2 (.int .i64 (p : Int)) rfl (Or.inl ⟨by kernel_rfl, by intro w hSw; clear hSw; go_simp⟩) hHeld ?_
    simp only [tkS, Act.put]
    refine tkH 3 (.slice ao p cap) rfl (Or.inl ⟨by kernel_rfl, by intro w hSw; clear hSw; go_simp⟩) hHeld ?_
    simp only [tkS, Act.put]
    refine tkH 5 (.slice ao ls.length cap) rfl (Or.inl ⟨by kernel_rfl, by intro w hSw; clear hSw; go_simp⟩) hHeld ?_
    simp only [tkS, Act.put]
    refine tkH 6 (.int .i64 (p : Int)) rfl (Or.inl ⟨by kernel_rfl, by intro w hSw; clear hSw; go_simp⟩) hHeld ?_
    simp only [tkS, Act.put]
    refine tkH 7 (.int .i64 (P1 : Int)) rfl (Or.inl ⟨by kernel_rfl, by intro w hSw; clear hSw; go_simp; first | exact HW.out | (have := HW.out; rw [this])⟩) hHeld ?_
    simp only [tkS, Act.put]
    refine tkH 8 (.slice ao (ls.length - P1) (cap - P1)) rfl (Or.inl ⟨by kernel_rfl, by intro w hSw; clear hSw; go_simp; first | done | (intro h9; exact absurd h9 HcP.out) | (intro h9; exact absurd HcP.out h9) | exact HcP.out | (rw [if_neg HcP.out]; done) | (rw [if_pos HcP.out]; done) | (have h9 := HcP.out; simp [h9]; done) | (have h9 := HcP.out; subst h9; simp; done) | (have h9 := HcP.out; constructor <;> omega)⟩) hHeld ?_
    simp only [tkS, Act.put]
    refine wpAnyH_ready (rs := [0]) (by kernel_rfl) (by simp) ?_
    refine AllReadyH.cons rfl (fun K hK => ?_) AllReadyH.nil
    rw [if_pos (by kernel_rfl)]
    go_simp
    refine hK.out _ _ trivial (fun hH0 => ?_)
    clear hK K
    have ho : (w.drew.alloc (.cells #[] 46)).ownsRow w.heap.size 46 2 (.slice (some ⟨w.heap.size, 0, none⟩) 0 0) 0 [] := World.ownsRow_lit w.drew #[] 0 (Nat.le_refl _) (by decide) (by simp)
    have hb1 : Below w.heap.size w (w.drew.alloc (.cells #[] 46)) := ((Below.refl _ w).drew).alloc (Nat.le_refl _) _
    have hR1 := (HRD.out _ hb1).take (p := p) (by omega)
    have hlt1 : (ls.take p).length = p := by simp; omega
    rw [hlt1] at hR1
    refine wpAnyH_ready (rs := [4]) (by kernel_rfl) (by simp) ?_
    refine AllReadyH.cons rfl (fun K hK => ?_) AllReadyH.nil
    rw [if_pos (by kernel_rfl)]
    refine wp_append_rdM (.tmp 5) (.tmp 8) 26 rfl w.heap.size 46 i0 (.agg #[.string ByteArray.empty, .string ByteArray.empty]) 2 32 Try.underlying26 hi hz0 hz1 hz2 rfl (by decide) _ 0 [] rfl ho C _ p _ rfl hR1 (prCs_one _) (by unfold maxLen; omega) (by omega) hb1.size ?_
    intro v6 w6 ho6 hg6
    refine hK.out _ _ trivial (fun hH4 => ?_)
    clear hK K
    have hb6 : Below w.heap.size w w6 := hb1.grown hg6 hb1.size (fun q hq => (World.ownsRow.lt ho q hq).1)
    have ho7 : w6.ownsRow w.heap.size 46 2 v6 p (prCs (ls.take p)) := by have := ho6; simpa using this
    obtain ⟨va7, vc7, hv7⟩ := own_sliceM ho7
    subst hv7
    have hR8 := HRd8.out _ hb6
    have hld : (ls.drop P1).length = ls.length - P1 := by simp
    rw [hld] at hR8
    clear ho6 hg6 ho hR1
    refine wpAnyH_ready (rs := [9]) (by kernel_rfl) (by simp) ?_
    refine AllReadyH.cons rfl (fun K hK => ?_) AllReadyH.nil
    rw [if_pos (by kernel_rfl)]
    refine wp_append_rdM (.tmp 9) (.tmp 13) 26 rfl w.heap.size 46 i0 (.agg #[.string ByteArray.empty, .string ByteArray.empty]) 2 32 Try.underlying26 hi hz0 hz1 hz2 rfl (by decide) _ p _ rfl ho7 C _ (ls.length - P1) _ rfl hR8 (prCs_one _) (by unfold maxLen; omega) (by omega) hb6.size ?_
    intro v10 w10 ho10 hg10
    refine hK.out _ _ trivial (fun hH9 => ?_)
    clear hK K
    have hb10 : Below w.heap.size w w10 := hb6.grown hg10 hb6.size (fun q hq => (World.ownsRow.lt ho7 q hq).1)
    have ho11 : OwnPr w10 w.heap.size v10 (ls.take p ++ ls.drop P1) := by
      unfold OwnPr
      rw [prCs_app, List.length_append, hlt1, hld]
      exact ho10
    obtain ⟨va11, vn11, vc11, hv11⟩ := own_slice3 ho11
    subst hv11
    clear ho10 hg10 ho7 hR8
    refine tkH 10 (.slice va11 vn11 vc11) rfl (Or.inl ⟨by kernel_rfl, by intro w hSw; clear hSw; go_simp⟩) hH9 ?_
    simp only [tkS, Act.put]
    refine wpAnyH_done (by kernel_rfl) ?_ _
    go_wp2_with fail
    go_ret
    exact ⟨_, rfl, ho11, hb10⟩
  · have HcP : Hid _ := hcP
    have hRd8 : ∀ w', Below w.heap.size w w' → RdM 2 C w' (.slice (ao.map (·.add (P1 * 2))) (ls.length - P1) (cap - P1)) (ls.drop P1).length (prCs (ls.drop P1)) := fun w' hw => (HRD.out _ hw).from (p := P1) hPl rfl rfl (by rw [if_neg hcP])
    have HRd8 : Hid _ := hRd8
    clear hcP hRd8
    refine wp_region_held_drew (S := fun _ => True) (by kernel_rfl) trivial (fun hHeld => ?_)
    refine tkH 1 (.slice ao ls.length cap) rfl (Or.inl ⟨by kernel_rfl, by intro w hSw; clear hSw; go_simp⟩) hHeld ?_
    simp only [tkS, Act.put]
    refine tkH 2 (.int .i64 (p : Int)) rfl (Or.inl ⟨by kernel_rfl, by intro w hSw; clear hSw; go_simp⟩) hHeld ?_
    simp only [tkS, Act.put]
    refine tkH 3 (.slice ao p cap) rfl (Or.inl ⟨by kernel_rfl, by intro w hSw; clear hSw; go_simp⟩) hHeld ?_
    simp only [tkS, Act.put]
    refine tkH 5 (.slice ao ls.length cap) rfl (Or.inl ⟨by kernel_rfl, by intro w hSw; clear hSw; go_simp⟩) hHeld ?_
    simp only [tkS, Act.put]
    refine tkH 6 (.int .i64 (p : Int)) rfl (Or.inl ⟨by kernel_rfl, by intro w hSw; clear hSw; go_simp⟩) hHeld ?_
    simp only [tkS, Act.put]
    refine tkH 7 (.int .i64 (P1 : Int)) rfl (Or.inl ⟨by kernel_rfl, by intro w hSw; clear hSw; go_simp; first | exact HW.out | (have := HW.out; rw [this])⟩) hHeld ?_
    simp only [tkS, Act.put]
    refine tkH 8 (.slice (ao.map (·.add (P1 * 2))) (ls.length - P1) (cap - P1)) rfl (Or.inl ⟨by kernel_rfl, by intro w hSw; clear hSw; go_simp; first | done | (intro h9; exact absurd h9 HcP.out) | (intro h9; exact absurd HcP.out h9) | exact HcP.out | (rw [if_neg HcP.out]; done) | (rw [if_pos HcP.out]; done) | (have h9 := HcP.out; simp [h9]; done) | (have h9 := HcP.out; subst h9; simp; done) | (have h9 := HcP.out; constructor <;> omega)⟩) hHeld ?_
    simp only [tkS, Act.put]
    refine wpAnyH_ready (rs := [0]) (by kernel_rfl) (by simp) ?_
    refine AllReadyH.cons rfl (fun K hK => ?_) AllReadyH.nil
    rw [if_pos (by kernel_rfl)]
    go_simp
    refine hK.out _ _ trivial (fun hH0 => ?_)
    clear hK K
    have ho : (w.drew.alloc (.cells #[] 46)).ownsRow w.heap.size 46 2 (.slice (some ⟨w.heap.size, 0, none⟩) 0 0) 0 [] := World.ownsRow_lit w.drew #[] 0 (Nat.le_refl _) (by decide) (by simp)
    have hb1 : Below w.heap.size w (w.drew.alloc (.cells #[] 46)) := ((Below.refl _ w).drew).alloc (Nat.le_refl _) _
    have hR1 := (HRD.out _ hb1).take (p := p) (by omega)
    have hlt1 : (ls.take p).length = p := by simp; omega
    rw [hlt1] at hR1
    refine wpAnyH_ready (rs := [4]) (by kernel_rfl) (by simp) ?_
    refine AllReadyH.cons rfl (fun K hK => ?_) AllReadyH.nil
    rw [if_pos (by kernel_rfl)]
    refine wp_append_rdM (.tmp 5) (.tmp 8) 26 rfl w.heap.size 46 i0 (.agg #[.string ByteArray.empty, .string ByteArray.empty]) 2 32 Try.underlying26 hi hz0 hz1 hz2 rfl (by decide) _ 0 [] rfl ho C _ p _ rfl hR1 (prCs_one _) (by unfold maxLen; omega) (by omega) hb1.size ?_
    intro v6 w6 ho6 hg6
    refine hK.out _ _ trivial (fun hH4 => ?_)
    clear hK K
    have hb6 : Below w.heap.size w w6 := hb1.grown hg6 hb1.size (fun q hq => (World.ownsRow.lt ho q hq).1)
    have ho7 : w6.ownsRow w.heap.size 46 2 v6 p (prCs (ls.take p)) := by have := ho6; simpa using this
    obtain ⟨va7, vc7, hv7⟩ := own_sliceM ho7
    subst hv7
    have hR8 := HRd8.out _ hb6
    have hld : (ls.drop P1).length = ls.length - P1 := by simp
    rw [hld] at hR8
    clear ho6 hg6 ho hR1
    refine wpAnyH_ready (rs := [9]) (by kernel_rfl) (by simp) ?_
    refine AllReadyH.cons rfl (fun K hK => ?_) AllReadyH.nil
    rw [if_pos (by kernel_rfl)]
    refine wp_append_rdM (.tmp 9) (.tmp 13) 26 rfl w.heap.size 46 i0 (.agg #[.string ByteArray.empty, .string ByteArray.empty]) 2 32 Try.underlying26 hi hz0 hz1 hz2 rfl (by decide) _ p _ rfl ho7 C _ (ls.length - P1) _ rfl hR8 (prCs_one _) (by unfold maxLen; omega) (by omega) hb6.size ?_
    intro v10 w10 ho10 hg10
    refine hK.out _ _ trivial (fun hH9 => ?_)
    clear hK K
    have hb10 : Below w.heap.size w w10 := hb6.grown hg10 hb6.size (fun q hq => (World.ownsRow.lt ho7 q hq).1)
    have ho11 : OwnPr w10 w.heap.size v10 (ls.take p ++ ls.drop P1) := by
      unfold OwnPr
      rw [prCs_app, List.length_append, hlt1, hld]
      exact ho10
    obtain ⟨va11, vn11, vc11, hv11⟩ := own_slice3 ho11
    subst hv11
    clear ho10 hg10 ho7 hR8
    refine tkH 10 (.slice va11 vn11 vc11) rfl (Or.inl ⟨by kernel_rfl, by intro w hSw; clear hSw; go_simp⟩) hH9 ?_
    simp only [tkS, Act.put]
    refine wpAnyH_done (by kernel_rfl) ?_ _
    go_wp2_with fail
    go_ret
    exact ⟨_, rfl, ho11, hb10⟩
end Go.Proofs.Ytagnpahkhaighaa
