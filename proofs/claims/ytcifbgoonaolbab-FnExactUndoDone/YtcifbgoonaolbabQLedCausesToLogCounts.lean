/- The code's ledger: what hasCauses answers. The specification's l08Find: the place of an actor's operation in a log whose operations of each actor stand together. Operations in a row of the call's own can be read. The specification's l08Counts: how many operations of each actor there are. -/
import Derived.Test.YtcifbgoonaolbabQLedgerToLedPut
import Derived.Test.YtcifbgoonaolbabQOpOKToOpSpecBase
import Derived.Test.YtcifbgoonaolbabQTakeKitToBigKit
namespace Go.Proofs.Ytcifbgoonaolbab
open Go.RowKit
set_option linter.unusedVariables false

/-- What the operation x counts of actor a is there, and below it. -/
def causeOK (P : List Ov) (x : Ov) (a : Nat) : Bool := decide (x.ds.getD a 0 ≤ ((byA P a).length : Int)) && (decide (x.ds.getD a 0 ≤ 0) || lessS (ovAt (byA P a) (x.ds.getD a 0 - 1).toNat).t (ovAt (byA P a) (x.ds.getD a 0 - 1).toNat).a x.t x.a)
def causesB (P : List Ov) (x : Ov) : Bool := (List.range 16).all (causeOK P x)
theorem rowCs_at : ∀ (L : List Ov) (k i : Nat), k < L.length → i < 12 → (rowCs L)[k * 12 + i]? = (ovAt L k).cs[i]? := by
  intro L
  induction L with
  | nil => intro k i h; simp at h
  | cons y L ih =>
    intro k i h hi
    have e : rowCs (y :: L) = y.cs ++ rowCs L := by simp [rowCs]
    have l12 : y.cs.length = 12 := rfl
    rw [e]
    cases k with
    | zero => rw [List.getElem?_append_left (by omega)]; simp [ovAt]
    | succ k =>
      rw [List.getElem?_append_right (by omega), show (k + 1) * 12 + i - y.cs.length = k * 12 + i by omega, ih k i (by simpa using h) hi]
      rfl
theorem row_at {w : World} {B g n cap : Nat} {L : List Ov} (h : w.ownsRow B 47 12 (.slice (some ⟨g, 0, none⟩) n cap) L.length (rowCs L)) {k : Nat} (hk : k < L.length) : OpAt w g (k * 12) (ovAt L k) := by
  obtain ⟨h1, h2⟩ := h
  rcases h2 with ⟨hv, _⟩ | ⟨g', cap', cur, hv, _, hh, _, _, hs, ht⟩
  · simp at hv
  · simp only [Value.slice.injEq, Option.some.injEq, Addr.mk.injEq, and_true] at hv
    obtain ⟨rfl, rfl, rfl⟩ := hv
    have cell : ∀ i, i < 12 → w.cell? ⟨g, k * 12 + i, none⟩ = (ovAt L k).cs[i]? := fun i hi => by
      rw [← rowCs_at L k i hk hi, ← ht, List.getElem?_take_of_lt (by omega)]
      unfold World.cell?
      rw [show w.heap[(⟨g, k * 12 + i, none⟩ : Addr).block]? = some (.cells cur 47 (0, 0)) from hh]
      simp
    exact ⟨cell 0 (by omega), cell 1 (by omega), cell 2 (by omega), cell 3 (by omega), cell 4 (by omega), cell 5 (by omega), cell 6 (by omega), cell 7 (by omega), cell 8 (by omega), cell 9 (by omega), cell 10 (by omega), cell 11 (by omega)⟩

set_option maxHeartbeats 4000000 in
set_option maxRecDepth 100000 in
theorem hasCauses_any (B C lb : Nat) (vs : List Value) (P : List Ov) (x : Ov) (w : World) (hL : Led w B lb vs P) (hP : P.length ≤ 1024) (hC : C ≤ w.heap.size) (hr : Rd C w x.dv (x.ds.map (Value.int .i64))) (hv : vecOK x.ds = true) :
    Calls Try.prog 61 #[.pointer (some ⟨lb, 0, none⟩), .agg #[.int .i64 x.a, .int .i64 x.s, .int .i64 x.t, x.dv, .int .i64 x.k, .int .i64 x.o, .int .i64 x.n, .int .i64 x.u, .int .i64 x.pt, .int .i64 x.pa, .string x.ky, .string x.tx]] w fun e w' => e = .returned (.bool (causesB P x)) ∧ Below w.heap.size w w' := by
  have HNO : Hid (∀ a, a < 16 → causeOK P x a = false → causesB P x = false) := fun a ha h => by
    rw [causesB, Bool.eq_false_iff]
    intro h'
    rw [List.all_eq_true] at h'
    rw [h' a (List.mem_range.2 ha)] at h
    cases h
  have HYES : Hid ((∀ a, a < 16 → causeOK P x a = true) → causesB P x = true) := fun h => by
    rw [causesB, List.all_eq_true]
    exact fun a ha => h a (List.mem_range.1 ha)
  have l16 := vec_16 hv
  have HD : Hid (∀ a, a < 16 → 0 ≤ x.ds.getD a 0 ∧ x.ds.getD a 0 ≤ 1000000000000) := fun a ha => by
    unfold vecOK at hv
    simp only [Bool.and_eq_true, List.all_eq_true] at hv
    have := hv.2 (x.ds.getD a 0) (by rw [List.getD_eq_getElem?_getD, List.getElem?_eq_getElem (by omega)]; exact List.getElem_mem _)
    unfold cOK at this
    simpa using this
  have hlb := hL.lt
  have HLE : Hid (∀ a, (byA P a).length ≤ 1024) := fun a => Nat.le_trans (List.length_filter_le _ _) hP
  obtain ⟨ad, cd, hdv, hcap, hmax, hnil, hrr⟩ := hr
  rw [List.length_map] at hrr hcap hdv
  obtain ⟨gd, od, rfl, hg, hc⟩ := hrr (by omega)
  rw [l16] at hdv
  have HDC : Hid (∀ a, a < 16 → w.cell? ⟨gd, od + a, none⟩ = some (.int .i64 (x.ds.getD a 0))) := fun a ha => hc a _ (by rw [List.getElem?_map, List.getD_eq_getElem?_getD, List.getElem?_eq_getElem (by omega)]; rfl)
  have hgd : gd < w.heap.size := by omega
  obtain ⟨r, HR⟩ : ∃ r, Hid (causesB P x = r) := ⟨_, rfl⟩
  rw [HR.out]
  have HK : Hid (∀ a, causeOK P x a = (decide (x.ds.getD a 0 ≤ ((byA P a).length : Int)) && (decide (x.ds.getD a 0 ≤ 0) || lessS (ovAt (byA P a) (x.ds.getD a 0 - 1).toNat).t (ovAt (byA P a) (x.ds.getD a 0 - 1).toNat).a x.t x.a))) := fun _ => rfl
  obtain ⟨xa, xs, xt, xdv, xk, xo, xn, xu, xpt, xpa, xky, xtx, xds⟩ := x
  simp only at *
  subst hdv
  have hB0 := Below.refl (w.alloc (.cells #[.int .i64 xa, .int .i64 xs, .int .i64 xt, .slice (some ⟨gd, od, none⟩) 16 cd, .int .i64 xk, .int .i64 xo, .int .i64 xn, .int .i64 xu, .int .i64 xpt, .int .i64 xpa, .string xky, .string xtx] 47)).heap.size (w.alloc (.cells #[.int .i64 xa, .int .i64 xs, .int .i64 xt, .slice (some ⟨gd, od, none⟩) 16 cd, .int .i64 xk, .int .i64 xo, .int .i64 xn, .int .i64 xu, .int .i64 xpt, .int .i64 xpa, .string xky, .string xtx] 47))
  clear hrr hc hnil hcap hg
  go_enter Try.func61, Try.ntmps61
  go_wp2_with fail
  go_loopw [11] (fun ti wr => ∃ k : Nat, k ≤ 16 ∧ ti = .int .i64 (k : Int) ∧ Below (w.alloc (.cells #[.int .i64 xa, .int .i64 xs, .int .i64 xt, .slice (some ⟨gd, od, none⟩) 16 cd, .int .i64 xk, .int .i64 xo, .int .i64 xn, .int .i64 xu, .int .i64 xpt, .int .i64 xpa, .string xky, .string xtx] 47)).heap.size (w.alloc (.cells #[.int .i64 xa, .int .i64 xs, .int .i64 xt, .slice (some ⟨gd, od, none⟩) 16 cd, .int .i64 xk, .int .i64 xo, .int .i64 xn, .int .i64 xu, .int .i64 xpt, .int .i64 xpa, .string xky, .string xtx] 47)) wr ∧ Hid (∀ a, a < k → causeOK P ⟨xa, xs, xt, .slice (some ⟨gd, od, none⟩) 16 cd, xk, xo, xn, xu, xpt, xpa, xky, xtx, xds⟩ a = true)) (fun ti _ => 16 - (intOf ti).toNat)
  case atStart => exact ⟨0, by omega, rfl, hB0, fun a ha => absurd ha (by omega)⟩
  case round =>
    obtain ⟨k, hk, rfl, hB, HA⟩ := hrel
    clear hB0
    by_cases hlt : k < 16
    · have hki : (k : Int) < 16 := by omega
      have cd1 : wr.cell? ⟨gd, od + k, none⟩ = some (.int .i64 (xds.getD k 0)) := ((below_seq (below_alloc w _) hB).cell (p := ⟨gd, od + k, none⟩) hgd).trans (HDC.out k hlt)
      obtain ⟨ao, cap, hsl⟩ := hL.slice hlt
      have hck : w.cell? ⟨lb, k, none⟩ = some (.slice ao (byA P k).length cap) := by rw [← hsl]; exact hL.cell (led_vs hL.len hlt)
      have hrow := hL.row k hlt
      rw [hsl] at hrow
      have hd := HD.out k hlt
      have hm := HLE.out k
      have HKk := HK.out k
      have HNk : Hid (causeOK P ⟨xa, xs, xt, .slice (some ⟨gd, od, none⟩) 16 cd, xk, xo, xn, xu, xpt, xpa, xky, xtx, xds⟩ k = false → r = false) := fun h => HR.out.symm.trans (HNO.out k hlt h)
      have HAk : Hid (causeOK P ⟨xa, xs, xt, .slice (some ⟨gd, od, none⟩) 16 cd, xk, xo, xn, xu, xpt, xpa, xky, xtx, xds⟩ k = true → Hid (∀ a, a < k + 1 → causeOK P ⟨xa, xs, xt, .slice (some ⟨gd, od, none⟩) 16 cd, xk, xo, xn, xu, xpt, xpa, xky, xtx, xds⟩ a = true)) := fun h a ha => by
        by_cases e : a = k
        · subst e; exact h
        · exact HA.out a (by omega)
      generalize causeOK P ⟨xa, xs, xt, .slice (some ⟨gd, od, none⟩) 16 cd, xk, xo, xn, xu, xpt, xpa, xky, xtx, xds⟩ k = ck at HKk HNk HAk
      generalize xds.getD k 0 = d at *
      replace hB := hB.drew
      by_cases h1 : ((byA P k).length : Int) < d
      · have HE : Hid (r = false) := HNk.out (by rw [HKk, decide_eq_false (by omega)]; rfl)
        generalize (byA P k).length = m at *
        clear HKk HNk HAk HA hrow
        have HF : Hid (∀ wx, Below (w.alloc (.cells #[.int .i64 xa, .int .i64 xs, .int .i64 xt, .slice (some ⟨gd, od, none⟩) 16 cd, .int .i64 xk, .int .i64 xo, .int .i64 xn, .int .i64 xu, .int .i64 xpt, .int .i64 xpa, .string xky, .string xtx] 47)).heap.size (w.alloc (.cells #[.int .i64 xa, .int .i64 xs, .int .i64 xt, .slice (some ⟨gd, od, none⟩) 16 cd, .int .i64 xk, .int .i64 xo, .int .i64 xn, .int .i64 xu, .int .i64 xpt, .int .i64 xpa, .string xky, .string xtx] 47)) wx → wx.cell? ⟨w.heap.size, 0, none⟩ = some (.int .i64 xa) ∧ wx.cell? ⟨w.heap.size, 1, none⟩ = some (.int .i64 xs) ∧ wx.cell? ⟨w.heap.size, 2, none⟩ = some (.int .i64 xt) ∧ wx.cell? ⟨w.heap.size, 3, none⟩ = some (.slice (some ⟨gd, od, none⟩) 16 cd) ∧ wx.cell? ⟨w.heap.size, 4, none⟩ = some (.int .i64 xk) ∧ wx.cell? ⟨w.heap.size, 5, none⟩ = some (.int .i64 xo) ∧ wx.cell? ⟨w.heap.size, 6, none⟩ = some (.int .i64 xn) ∧ wx.cell? ⟨w.heap.size, 7, none⟩ = some (.int .i64 xu) ∧ wx.cell? ⟨w.heap.size, 8, none⟩ = some (.int .i64 xpt) ∧ wx.cell? ⟨w.heap.size, 9, none⟩ = some (.int .i64 xpa) ∧ wx.cell? ⟨w.heap.size, 10, none⟩ = some (.string xky) ∧ wx.cell? ⟨w.heap.size, 11, none⟩ = some (.string xtx) ∧ wx.cell? ⟨lb, k, none⟩ = some (.slice ao m cap)) := fun wx h => by
          obtain ⟨q0, q1, q2, q3, q4, q5, q6, q7, q8, q9, q10, q11⟩ := op_cells h
          exact ⟨q0, q1, q2, q3, q4, q5, q6, q7, q8, q9, q10, q11, (below_seq (below_alloc w _) h).cell (p := ⟨lb, k, none⟩) hlb |>.trans hck⟩
        go_wp2_with fail
        refine wp_region_held_drew (S := fun w' => w'.cell? ⟨w.heap.size, 0, none⟩ = some (.int .i64 xa) ∧ w'.cell? ⟨w.heap.size, 1, none⟩ = some (.int .i64 xs) ∧ w'.cell? ⟨w.heap.size, 2, none⟩ = some (.int .i64 xt) ∧ w'.cell? ⟨w.heap.size, 3, none⟩ = some (.slice (some ⟨gd, od, none⟩) 16 cd) ∧ w'.cell? ⟨w.heap.size, 4, none⟩ = some (.int .i64 xk) ∧ w'.cell? ⟨w.heap.size, 5, none⟩ = some (.int .i64 xo) ∧ w'.cell? ⟨w.heap.size, 6, none⟩ = some (.int .i64 xn) ∧ w'.cell? ⟨w.heap.size, 7, none⟩ = some (.int .i64 xu) ∧ w'.cell? ⟨w.heap.size, 8, none⟩ = some (.int .i64 xpt) ∧ w'.cell? ⟨w.heap.size, 9, none⟩ = some (.int .i64 xpa) ∧ w'.cell? ⟨w.heap.size, 10, none⟩ = some (.string xky) ∧ w'.cell? ⟨w.heap.size, 11, none⟩ = some (.string xtx) ∧ w'.cell? ⟨lb, k, none⟩ = some (.slice ao m cap)) (by kernel_rfl) (HF.out _ hB) (fun hHeld => ?_)
        refine tkH 0 (.int .i64 d) rfl (Or.inl ⟨by kernel_rfl, by intro w hSw; obtain ⟨s0, s1, s2, s3, s4, s5, s6, s7, s8, s9, s10, s11, s12⟩ := hSw; go_simp⟩) hHeld ?_
        simp only [tkS, Act.put]
        refine tkH 1 (.pointer (some ⟨lb, 0, none⟩)) rfl (Or.inl ⟨by kernel_rfl, by intro w hSw; obtain ⟨s0, s1, s2, s3, s4, s5, s6, s7, s8, s9, s10, s11, s12⟩ := hSw; go_simp⟩) hHeld ?_
        simp only [tkS, Act.put]
        refine tkH 2 (.int .i64 ((k : Int))) rfl (Or.inl ⟨by kernel_rfl, by intro w hSw; obtain ⟨s0, s1, s2, s3, s4, s5, s6, s7, s8, s9, s10, s11, s12⟩ := hSw; go_simp⟩) hHeld ?_
        simp only [tkS, Act.put]
        refine tkH 3 (.pointer (some ⟨lb, 0, none⟩)) rfl (Or.inl ⟨by kernel_rfl, by intro w hSw; obtain ⟨s0, s1, s2, s3, s4, s5, s6, s7, s8, s9, s10, s11, s12⟩ := hSw; go_simp⟩) hHeld ?_
        simp only [tkS, Act.put]
        refine tkH 4 (.pointer (some ⟨lb, 0, none⟩)) rfl (Or.inl ⟨by kernel_rfl, by intro w hSw; obtain ⟨s0, s1, s2, s3, s4, s5, s6, s7, s8, s9, s10, s11, s12⟩ := hSw; go_simp⟩) hHeld ?_
        simp only [tkS, Act.put]
        refine tkH 5 (.pointer (some ⟨lb, k, none⟩)) rfl (Or.inl ⟨by kernel_rfl, by intro w hSw; obtain ⟨s0, s1, s2, s3, s4, s5, s6, s7, s8, s9, s10, s11, s12⟩ := hSw; go_simp⟩) hHeld ?_
        simp only [tkS, Act.put]
        refine tkH 6 (.slice ao m cap) rfl (Or.inl ⟨by kernel_rfl, by intro w hSw; obtain ⟨s0, s1, s2, s3, s4, s5, s6, s7, s8, s9, s10, s11, s12⟩ := hSw; go_simp⟩) hHeld ?_
        simp only [tkS, Act.put]
        refine tkH 7 (.int .i64 ((m : Int))) rfl (Or.inl ⟨by kernel_rfl, by intro w hSw; obtain ⟨s0, s1, s2, s3, s4, s5, s6, s7, s8, s9, s10, s11, s12⟩ := hSw; go_simp⟩) hHeld ?_
        simp only [tkS, Act.put]
        refine tkH 8 (.bool true) rfl (Or.inl ⟨by kernel_rfl, by intro w hSw; obtain ⟨s0, s1, s2, s3, s4, s5, s6, s7, s8, s9, s10, s11, s12⟩ := hSw; go_simp⟩) hHeld ?_
        simp only [tkS, Act.put]
        refine tkH 9 (.bool true) rfl (Or.inl ⟨by kernel_rfl, by intro w hSw; obtain ⟨s0, s1, s2, s3, s4, s5, s6, s7, s8, s9, s10, s11, s12⟩ := hSw; go_simp⟩) hHeld ?_
        simp only [tkS, Act.put]
        refine tkH 10 (undef) rfl (Or.inr ⟨by kernel_rfl, rfl⟩) hHeld ?_
        simp only [tkS, Act.put]
        refine tkH 11 (undef) rfl (Or.inr ⟨by kernel_rfl, rfl⟩) hHeld ?_
        simp only [tkS, Act.put]
        refine tkH 12 (undef) rfl (Or.inr ⟨by kernel_rfl, rfl⟩) hHeld ?_
        simp only [tkS, Act.put]
        refine tkH 13 (undef) rfl (Or.inr ⟨by kernel_rfl, rfl⟩) hHeld ?_
        simp only [tkS, Act.put]
        refine tkH 14 (undef) rfl (Or.inr ⟨by kernel_rfl, rfl⟩) hHeld ?_
        simp only [tkS, Act.put]
        refine tkH 15 (undef) rfl (Or.inr ⟨by kernel_rfl, rfl⟩) hHeld ?_
        simp only [tkS, Act.put]
        refine tkH 16 (undef) rfl (Or.inr ⟨by kernel_rfl, rfl⟩) hHeld ?_
        simp only [tkS, Act.put]
        refine tkH 17 (undef) rfl (Or.inr ⟨by kernel_rfl, rfl⟩) hHeld ?_
        simp only [tkS, Act.put]
        refine tkH 18 (undef) rfl (Or.inr ⟨by kernel_rfl, rfl⟩) hHeld ?_
        simp only [tkS, Act.put]
        refine tkH 19 (undef) rfl (Or.inr ⟨by kernel_rfl, rfl⟩) hHeld ?_
        simp only [tkS, Act.put]
        refine tkH 20 (undef) rfl (Or.inr ⟨by kernel_rfl, rfl⟩) hHeld ?_
        simp only [tkS, Act.put]
        refine tkH 21 (undef) rfl (Or.inr ⟨by kernel_rfl, rfl⟩) hHeld ?_
        simp only [tkS, Act.put]
        refine tkH 22 (undef) rfl (Or.inr ⟨by kernel_rfl, rfl⟩) hHeld ?_
        simp only [tkS, Act.put]
        refine tkH 24 (undef) rfl (Or.inr ⟨by kernel_rfl, rfl⟩) hHeld ?_
        simp only [tkS, Act.put]
        refine wpAnyH_ready (rs := [23]) (by kernel_rfl) (by simp) ?_
        refine AllReadyH.cons rfl (fun K hK => ?_) AllReadyH.nil
        go_simp
        refine hK.out _ _ (HF.out _ hB) (fun hHeld => ?_)
        clear hK K
        refine wpAnyH_ready (rs := [25]) (by kernel_rfl) (by simp) ?_
        refine AllReadyH.cons rfl (fun K hK => ?_) AllReadyH.nil
        go_simp
        refine hK.out _ _ (HF.out _ hB) (fun hHeld => ?_)
        clear hK K
        refine wpAnyH_ready (rs := [26]) (by kernel_rfl) (by simp) ?_
        refine AllReadyH.cons rfl (fun K hK => ?_) AllReadyH.nil
        go_simp
        refine hK.out _ _ (HF.out _ hB) (fun hHeld => ?_)
        clear hK K
        refine tkH 27 (undef) rfl (Or.inr ⟨by kernel_rfl, rfl⟩) hHeld ?_
        simp only [tkS, Act.put]
        refine tkH 28 (undef) rfl (Or.inr ⟨by kernel_rfl, rfl⟩) hHeld ?_
        simp only [tkS, Act.put]
        refine tkH 29 (.bool true) rfl (Or.inl ⟨by kernel_rfl, by intro w hSw; obtain ⟨s0, s1, s2, s3, s4, s5, s6, s7, s8, s9, s10, s11, s12⟩ := hSw; go_simp⟩) hHeld ?_
        simp only [tkS, Act.put]
        refine wpAnyH_done (by kernel_rfl) ?_ _
        go_wp2_with fail
        go_ret
        exact ⟨by rw [HE.out]; rfl, below_seq (below_alloc _ _) hB⟩
      · by_cases h2 : d ≤ 0
        · have HE := HAk.out (by rw [HKk, decide_eq_true (by omega : d ≤ ((byA P k).length : Int)), decide_eq_true h2]; rfl)
          generalize (byA P k).length = m at *
          have h2' : ¬ 0 < d := by omega
          clear HKk HNk HAk HA hrow
          have HF : Hid (∀ wx, Below (w.alloc (.cells #[.int .i64 xa, .int .i64 xs, .int .i64 xt, .slice (some ⟨gd, od, none⟩) 16 cd, .int .i64 xk, .int .i64 xo, .int .i64 xn, .int .i64 xu, .int .i64 xpt, .int .i64 xpa, .string xky, .string xtx] 47)).heap.size (w.alloc (.cells #[.int .i64 xa, .int .i64 xs, .int .i64 xt, .slice (some ⟨gd, od, none⟩) 16 cd, .int .i64 xk, .int .i64 xo, .int .i64 xn, .int .i64 xu, .int .i64 xpt, .int .i64 xpa, .string xky, .string xtx] 47)) wx → wx.cell? ⟨w.heap.size, 0, none⟩ = some (.int .i64 xa) ∧ wx.cell? ⟨w.heap.size, 1, none⟩ = some (.int .i64 xs) ∧ wx.cell? ⟨w.heap.size, 2, none⟩ = some (.int .i64 xt) ∧ wx.cell? ⟨w.heap.size, 3, none⟩ = some (.slice (some ⟨gd, od, none⟩) 16 cd) ∧ wx.cell? ⟨w.heap.size, 4, none⟩ = some (.int .i64 xk) ∧ wx.cell? ⟨w.heap.size, 5, none⟩ = some (.int .i64 xo) ∧ wx.cell? ⟨w.heap.size, 6, none⟩ = some (.int .i64 xn) ∧ wx.cell? ⟨w.heap.size, 7, none⟩ = some (.int .i64 xu) ∧ wx.cell? ⟨w.heap.size, 8, none⟩ = some (.int .i64 xpt) ∧ wx.cell? ⟨w.heap.size, 9, none⟩ = some (.int .i64 xpa) ∧ wx.cell? ⟨w.heap.size, 10, none⟩ = some (.string xky) ∧ wx.cell? ⟨w.heap.size, 11, none⟩ = some (.string xtx) ∧ wx.cell? ⟨lb, k, none⟩ = some (.slice ao m cap)) := fun wx h => by
            obtain ⟨q0, q1, q2, q3, q4, q5, q6, q7, q8, q9, q10, q11⟩ := op_cells h
            exact ⟨q0, q1, q2, q3, q4, q5, q6, q7, q8, q9, q10, q11, (below_seq (below_alloc w _) h).cell (p := ⟨lb, k, none⟩) hlb |>.trans hck⟩
          go_wp2_with fail
          refine wp_region_held_drew (S := fun w' => w'.cell? ⟨w.heap.size, 0, none⟩ = some (.int .i64 xa) ∧ w'.cell? ⟨w.heap.size, 1, none⟩ = some (.int .i64 xs) ∧ w'.cell? ⟨w.heap.size, 2, none⟩ = some (.int .i64 xt) ∧ w'.cell? ⟨w.heap.size, 3, none⟩ = some (.slice (some ⟨gd, od, none⟩) 16 cd) ∧ w'.cell? ⟨w.heap.size, 4, none⟩ = some (.int .i64 xk) ∧ w'.cell? ⟨w.heap.size, 5, none⟩ = some (.int .i64 xo) ∧ w'.cell? ⟨w.heap.size, 6, none⟩ = some (.int .i64 xn) ∧ w'.cell? ⟨w.heap.size, 7, none⟩ = some (.int .i64 xu) ∧ w'.cell? ⟨w.heap.size, 8, none⟩ = some (.int .i64 xpt) ∧ w'.cell? ⟨w.heap.size, 9, none⟩ = some (.int .i64 xpa) ∧ w'.cell? ⟨w.heap.size, 10, none⟩ = some (.string xky) ∧ w'.cell? ⟨w.heap.size, 11, none⟩ = some (.string xtx) ∧ w'.cell? ⟨lb, k, none⟩ = some (.slice ao m cap)) (by kernel_rfl) (HF.out _ hB) (fun hHeld => ?_)
          refine tkH 0 (.int .i64 d) rfl (Or.inl ⟨by kernel_rfl, by intro w hSw; obtain ⟨s0, s1, s2, s3, s4, s5, s6, s7, s8, s9, s10, s11, s12⟩ := hSw; go_simp⟩) hHeld ?_
          simp only [tkS, Act.put]
          refine tkH 1 (.pointer (some ⟨lb, 0, none⟩)) rfl (Or.inl ⟨by kernel_rfl, by intro w hSw; obtain ⟨s0, s1, s2, s3, s4, s5, s6, s7, s8, s9, s10, s11, s12⟩ := hSw; go_simp⟩) hHeld ?_
          simp only [tkS, Act.put]
          refine tkH 2 (.int .i64 ((k : Int))) rfl (Or.inl ⟨by kernel_rfl, by intro w hSw; obtain ⟨s0, s1, s2, s3, s4, s5, s6, s7, s8, s9, s10, s11, s12⟩ := hSw; go_simp⟩) hHeld ?_
          simp only [tkS, Act.put]
          refine tkH 3 (.pointer (some ⟨lb, 0, none⟩)) rfl (Or.inl ⟨by kernel_rfl, by intro w hSw; obtain ⟨s0, s1, s2, s3, s4, s5, s6, s7, s8, s9, s10, s11, s12⟩ := hSw; go_simp⟩) hHeld ?_
          simp only [tkS, Act.put]
          refine tkH 4 (.pointer (some ⟨lb, 0, none⟩)) rfl (Or.inl ⟨by kernel_rfl, by intro w hSw; obtain ⟨s0, s1, s2, s3, s4, s5, s6, s7, s8, s9, s10, s11, s12⟩ := hSw; go_simp⟩) hHeld ?_
          simp only [tkS, Act.put]
          refine tkH 5 (.pointer (some ⟨lb, k, none⟩)) rfl (Or.inl ⟨by kernel_rfl, by intro w hSw; obtain ⟨s0, s1, s2, s3, s4, s5, s6, s7, s8, s9, s10, s11, s12⟩ := hSw; go_simp⟩) hHeld ?_
          simp only [tkS, Act.put]
          refine tkH 6 (.slice ao m cap) rfl (Or.inl ⟨by kernel_rfl, by intro w hSw; obtain ⟨s0, s1, s2, s3, s4, s5, s6, s7, s8, s9, s10, s11, s12⟩ := hSw; go_simp⟩) hHeld ?_
          simp only [tkS, Act.put]
          refine tkH 7 (.int .i64 ((m : Int))) rfl (Or.inl ⟨by kernel_rfl, by intro w hSw; obtain ⟨s0, s1, s2, s3, s4, s5, s6, s7, s8, s9, s10, s11, s12⟩ := hSw; go_simp⟩) hHeld ?_
          simp only [tkS, Act.put]
          refine tkH 8 (.bool false) rfl (Or.inl ⟨by kernel_rfl, by intro w hSw; obtain ⟨s0, s1, s2, s3, s4, s5, s6, s7, s8, s9, s10, s11, s12⟩ := hSw; go_simp⟩) hHeld ?_
          simp only [tkS, Act.put]
          refine tkH 9 (.bool false) rfl (Or.inl ⟨by kernel_rfl, by intro w hSw; obtain ⟨s0, s1, s2, s3, s4, s5, s6, s7, s8, s9, s10, s11, s12⟩ := hSw; go_simp⟩) hHeld ?_
          simp only [tkS, Act.put]
          refine tkH 10 (.int .i64 d) rfl (Or.inl ⟨by kernel_rfl, by intro w hSw; obtain ⟨s0, s1, s2, s3, s4, s5, s6, s7, s8, s9, s10, s11, s12⟩ := hSw; go_simp⟩) hHeld ?_
          simp only [tkS, Act.put]
          refine tkH 11 (.bool false) rfl (Or.inl ⟨by kernel_rfl, by intro w hSw; obtain ⟨s0, s1, s2, s3, s4, s5, s6, s7, s8, s9, s10, s11, s12⟩ := hSw; go_simp⟩) hHeld ?_
          simp only [tkS, Act.put]
          refine tkH 12 (.bool false) rfl (Or.inl ⟨by kernel_rfl, by intro w hSw; obtain ⟨s0, s1, s2, s3, s4, s5, s6, s7, s8, s9, s10, s11, s12⟩ := hSw; go_simp⟩) hHeld ?_
          simp only [tkS, Act.put]
          refine tkH 13 (undef) rfl (Or.inr ⟨by kernel_rfl, rfl⟩) hHeld ?_
          simp only [tkS, Act.put]
          refine tkH 14 (undef) rfl (Or.inr ⟨by kernel_rfl, rfl⟩) hHeld ?_
          simp only [tkS, Act.put]
          refine tkH 15 (undef) rfl (Or.inr ⟨by kernel_rfl, rfl⟩) hHeld ?_
          simp only [tkS, Act.put]
          refine tkH 16 (undef) rfl (Or.inr ⟨by kernel_rfl, rfl⟩) hHeld ?_
          simp only [tkS, Act.put]
          refine tkH 17 (undef) rfl (Or.inr ⟨by kernel_rfl, rfl⟩) hHeld ?_
          simp only [tkS, Act.put]
          refine tkH 18 (undef) rfl (Or.inr ⟨by kernel_rfl, rfl⟩) hHeld ?_
          simp only [tkS, Act.put]
          refine tkH 19 (undef) rfl (Or.inr ⟨by kernel_rfl, rfl⟩) hHeld ?_
          simp only [tkS, Act.put]
          refine tkH 20 (undef) rfl (Or.inr ⟨by kernel_rfl, rfl⟩) hHeld ?_
          simp only [tkS, Act.put]
          refine tkH 21 (undef) rfl (Or.inr ⟨by kernel_rfl, rfl⟩) hHeld ?_
          simp only [tkS, Act.put]
          refine tkH 22 (undef) rfl (Or.inr ⟨by kernel_rfl, rfl⟩) hHeld ?_
          simp only [tkS, Act.put]
          refine tkH 24 (undef) rfl (Or.inr ⟨by kernel_rfl, rfl⟩) hHeld ?_
          simp only [tkS, Act.put]
          refine wpAnyH_ready (rs := [23]) (by kernel_rfl) (by simp) ?_
          refine AllReadyH.cons rfl (fun K hK => ?_) AllReadyH.nil
          go_simp
          refine hK.out _ _ (HF.out _ hB) (fun hHeld => ?_)
          clear hK K
          refine wpAnyH_ready (rs := [25]) (by kernel_rfl) (by simp) ?_
          refine AllReadyH.cons rfl (fun K hK => ?_) AllReadyH.nil
          go_simp
          refine hK.out _ _ (HF.out _ hB) (fun hHeld => ?_)
          clear hK K
          refine wpAnyH_ready (rs := [26]) (by kernel_rfl) (by simp) ?_
          refine AllReadyH.cons rfl (fun K hK => ?_) AllReadyH.nil
          go_simp
          refine hK.out _ _ (HF.out _ hB) (fun hHeld => ?_)
          clear hK K
          refine tkH 27 (undef) rfl (Or.inr ⟨by kernel_rfl, rfl⟩) hHeld ?_
          simp only [tkS, Act.put]
          refine tkH 28 (.bool false) rfl (Or.inl ⟨by kernel_rfl, by intro w hSw; obtain ⟨s0, s1, s2, s3, s4, s5, s6, s7, s8, s9, s10, s11, s12⟩ := hSw; go_simp⟩) hHeld ?_
          simp only [tkS, Act.put]
          refine tkH 29 (.bool false) rfl (Or.inl ⟨by kernel_rfl, by intro w hSw; obtain ⟨s0, s1, s2, s3, s4, s5, s6, s7, s8, s9, s10, s11, s12⟩ := hSw; go_simp⟩) hHeld ?_
          simp only [tkS, Act.put]
          refine wpAnyH_done (by kernel_rfl) ?_ _
          go_wp2_with fail
          go_roundw
          case rel => exact ⟨k + 1, by omega, by go_num, hB, HE⟩
          case measure => simp [intOf]; omega
        · obtain ⟨q, rfl⟩ : ∃ q : Nat, d = ((q + 1 : Nat) : Int) := ⟨(d - 1).toNat, by omega⟩
          have hq : q < (byA P k).length := by omega
          have hao : ∃ gr, ao = some ⟨gr, 0, none⟩ ∧ gr < w.heap.size := by
            obtain ⟨_, h2⟩ := hrow
            rcases h2 with ⟨hv', hn⟩ | ⟨gr, cap', cur, hv', _, hh, _⟩
            · omega
            · simp only [Value.slice.injEq] at hv'
              exact ⟨gr, hv'.1, (Array.getElem?_eq_some_iff.1 hh).1⟩
          obtain ⟨gr, rfl, hgr⟩ := hao
          have hy := row_at hrow hq
          rw [show (((q + 1 : Nat) : Int) - 1).toNat = q by omega] at HKk
          generalize ovAt (byA P k) q = y at HKk hy
          obtain ⟨ya, ys, yt, ydv, yk, yo, yn, yu, ypt, ypa, yky, ytx, yds⟩ := y
          simp only at HKk
          have hLs := fun w => implStampLess_any yt ya xt xa w
          have hqm : q < (byA P k).length := hq
          generalize (byA P k).length = m at *
          have hqi : (q : Int) < (m : Int) := by omega
          have hqj : (q : Int) + 1 ≤ (m : Int) := by omega
          have hw6 : IntKind.i64.wrap (q : Int) = (q : Int) := by rw [IntKind.wrap_i64]; omega
          cases hls : lessS yt ya xt xa with
          | false =>
            have HE : Hid (r = false) := HNk.out (by rw [HKk, hls, decide_eq_false (by omega : ¬ ((q + 1 : Nat) : Int) ≤ 0)]; simp)
            rw [hls] at hLs
            clear HKk HNk HAk HA hrow hls
            have HF : Hid (∀ wx, Below (w.alloc (.cells #[.int .i64 xa, .int .i64 xs, .int .i64 xt, .slice (some ⟨gd, od, none⟩) 16 cd, .int .i64 xk, .int .i64 xo, .int .i64 xn, .int .i64 xu, .int .i64 xpt, .int .i64 xpa, .string xky, .string xtx] 47)).heap.size (w.alloc (.cells #[.int .i64 xa, .int .i64 xs, .int .i64 xt, .slice (some ⟨gd, od, none⟩) 16 cd, .int .i64 xk, .int .i64 xo, .int .i64 xn, .int .i64 xu, .int .i64 xpt, .int .i64 xpa, .string xky, .string xtx] 47)) wx → wx.cell? ⟨w.heap.size, 0, none⟩ = some (.int .i64 xa) ∧ wx.cell? ⟨w.heap.size, 1, none⟩ = some (.int .i64 xs) ∧ wx.cell? ⟨w.heap.size, 2, none⟩ = some (.int .i64 xt) ∧ wx.cell? ⟨w.heap.size, 3, none⟩ = some (.slice (some ⟨gd, od, none⟩) 16 cd) ∧ wx.cell? ⟨w.heap.size, 4, none⟩ = some (.int .i64 xk) ∧ wx.cell? ⟨w.heap.size, 5, none⟩ = some (.int .i64 xo) ∧ wx.cell? ⟨w.heap.size, 6, none⟩ = some (.int .i64 xn) ∧ wx.cell? ⟨w.heap.size, 7, none⟩ = some (.int .i64 xu) ∧ wx.cell? ⟨w.heap.size, 8, none⟩ = some (.int .i64 xpt) ∧ wx.cell? ⟨w.heap.size, 9, none⟩ = some (.int .i64 xpa) ∧ wx.cell? ⟨w.heap.size, 10, none⟩ = some (.string xky) ∧ wx.cell? ⟨w.heap.size, 11, none⟩ = some (.string xtx) ∧ wx.cell? ⟨lb, k, none⟩ = some (.slice (some ⟨gr, 0, none⟩) m cap) ∧ wx.cell? ⟨gr, q * 12, none⟩ = some (.int .i64 ya) ∧ wx.cell? ⟨gr, q * 12 + 1, none⟩ = some (.int .i64 ys) ∧ wx.cell? ⟨gr, q * 12 + 2, none⟩ = some (.int .i64 yt) ∧ wx.cell? ⟨gr, q * 12 + 3, none⟩ = some (ydv) ∧ wx.cell? ⟨gr, q * 12 + 4, none⟩ = some (.int .i64 yk) ∧ wx.cell? ⟨gr, q * 12 + 5, none⟩ = some (.int .i64 yo) ∧ wx.cell? ⟨gr, q * 12 + 6, none⟩ = some (.int .i64 yn) ∧ wx.cell? ⟨gr, q * 12 + 7, none⟩ = some (.int .i64 yu) ∧ wx.cell? ⟨gr, q * 12 + 8, none⟩ = some (.int .i64 ypt) ∧ wx.cell? ⟨gr, q * 12 + 9, none⟩ = some (.int .i64 ypa) ∧ wx.cell? ⟨gr, q * 12 + 10, none⟩ = some (.string yky) ∧ wx.cell? ⟨gr, q * 12 + 11, none⟩ = some (.string ytx)) := fun wx h => by
              obtain ⟨q0, q1, q2, q3, q4, q5, q6, q7, q8, q9, q10, q11⟩ := op_cells h
              exact ⟨q0, q1, q2, q3, q4, q5, q6, q7, q8, q9, q10, q11, (below_seq (below_alloc w _) h).cell (p := ⟨lb, k, none⟩) hlb |>.trans hck, ((below_seq (below_alloc w _) h).cell (p := ⟨gr, q * 12, none⟩) hgr).trans hy.c0, ((below_seq (below_alloc w _) h).cell (p := ⟨gr, q * 12 + 1, none⟩) hgr).trans hy.c1, ((below_seq (below_alloc w _) h).cell (p := ⟨gr, q * 12 + 2, none⟩) hgr).trans hy.c2, ((below_seq (below_alloc w _) h).cell (p := ⟨gr, q * 12 + 3, none⟩) hgr).trans hy.c3, ((below_seq (below_alloc w _) h).cell (p := ⟨gr, q * 12 + 4, none⟩) hgr).trans hy.c4, ((below_seq (below_alloc w _) h).cell (p := ⟨gr, q * 12 + 5, none⟩) hgr).trans hy.c5, ((below_seq (below_alloc w _) h).cell (p := ⟨gr, q * 12 + 6, none⟩) hgr).trans hy.c6, ((below_seq (below_alloc w _) h).cell (p := ⟨gr, q * 12 + 7, none⟩) hgr).trans hy.c7, ((below_seq (below_alloc w _) h).cell (p := ⟨gr, q * 12 + 8, none⟩) hgr).trans hy.c8, ((below_seq (below_alloc w _) h).cell (p := ⟨gr, q * 12 + 9, none⟩) hgr).trans hy.c9, ((below_seq (below_alloc w _) h).cell (p := ⟨gr, q * 12 + 10, none⟩) hgr).trans hy.c10, ((below_seq (below_alloc w _) h).cell (p := ⟨gr, q * 12 + 11, none⟩) hgr).trans hy.c11⟩
            go_wp2_with fail
            refine wp_region_held_drew (S := fun w' => w'.cell? ⟨w.heap.size, 0, none⟩ = some (.int .i64 xa) ∧ w'.cell? ⟨w.heap.size, 1, none⟩ = some (.int .i64 xs) ∧ w'.cell? ⟨w.heap.size, 2, none⟩ = some (.int .i64 xt) ∧ w'.cell? ⟨w.heap.size, 3, none⟩ = some (.slice (some ⟨gd, od, none⟩) 16 cd) ∧ w'.cell? ⟨w.heap.size, 4, none⟩ = some (.int .i64 xk) ∧ w'.cell? ⟨w.heap.size, 5, none⟩ = some (.int .i64 xo) ∧ w'.cell? ⟨w.heap.size, 6, none⟩ = some (.int .i64 xn) ∧ w'.cell? ⟨w.heap.size, 7, none⟩ = some (.int .i64 xu) ∧ w'.cell? ⟨w.heap.size, 8, none⟩ = some (.int .i64 xpt) ∧ w'.cell? ⟨w.heap.size, 9, none⟩ = some (.int .i64 xpa) ∧ w'.cell? ⟨w.heap.size, 10, none⟩ = some (.string xky) ∧ w'.cell? ⟨w.heap.size, 11, none⟩ = some (.string xtx) ∧ w'.cell? ⟨lb, k, none⟩ = some (.slice (some ⟨gr, 0, none⟩) m cap) ∧ w'.cell? ⟨gr, q * 12, none⟩ = some (.int .i64 ya) ∧ w'.cell? ⟨gr, q * 12 + 1, none⟩ = some (.int .i64 ys) ∧ w'.cell? ⟨gr, q * 12 + 2, none⟩ = some (.int .i64 yt) ∧ w'.cell? ⟨gr, q * 12 + 3, none⟩ = some (ydv) ∧ w'.cell? ⟨gr, q * 12 + 4, none⟩ = some (.int .i64 yk) ∧ w'.cell? ⟨gr, q * 12 + 5, none⟩ = some (.int .i64 yo) ∧ w'.cell? ⟨gr, q * 12 + 6, none⟩ = some (.int .i64 yn) ∧ w'.cell? ⟨gr, q * 12 + 7, none⟩ = some (.int .i64 yu) ∧ w'.cell? ⟨gr, q * 12 + 8, none⟩ = some (.int .i64 ypt) ∧ w'.cell? ⟨gr, q * 12 + 9, none⟩ = some (.int .i64 ypa) ∧ w'.cell? ⟨gr, q * 12 + 10, none⟩ = some (.string yky) ∧ w'.cell? ⟨gr, q * 12 + 11, none⟩ = some (.string ytx)) (by kernel_rfl) (HF.out _ hB) (fun hHeld => ?_)
            refine tkH 0 (.int .i64 (((q + 1 : Nat) : Int))) rfl (Or.inl ⟨by kernel_rfl, by intro w hSw; obtain ⟨s0, s1, s2, s3, s4, s5, s6, s7, s8, s9, s10, s11, s12, s13, s14, s15, s16, s17, s18, s19, s20, s21, s22, s23, s24⟩ := hSw; go_simp⟩) hHeld ?_
            simp only [tkS, Act.put]
            refine tkH 1 (.pointer (some ⟨lb, 0, none⟩)) rfl (Or.inl ⟨by kernel_rfl, by intro w hSw; obtain ⟨s0, s1, s2, s3, s4, s5, s6, s7, s8, s9, s10, s11, s12, s13, s14, s15, s16, s17, s18, s19, s20, s21, s22, s23, s24⟩ := hSw; go_simp⟩) hHeld ?_
            simp only [tkS, Act.put]
            refine tkH 2 (.int .i64 ((k : Int))) rfl (Or.inl ⟨by kernel_rfl, by intro w hSw; obtain ⟨s0, s1, s2, s3, s4, s5, s6, s7, s8, s9, s10, s11, s12, s13, s14, s15, s16, s17, s18, s19, s20, s21, s22, s23, s24⟩ := hSw; go_simp⟩) hHeld ?_
            simp only [tkS, Act.put]
            refine tkH 3 (.pointer (some ⟨lb, 0, none⟩)) rfl (Or.inl ⟨by kernel_rfl, by intro w hSw; obtain ⟨s0, s1, s2, s3, s4, s5, s6, s7, s8, s9, s10, s11, s12, s13, s14, s15, s16, s17, s18, s19, s20, s21, s22, s23, s24⟩ := hSw; go_simp⟩) hHeld ?_
            simp only [tkS, Act.put]
            refine tkH 4 (.pointer (some ⟨lb, 0, none⟩)) rfl (Or.inl ⟨by kernel_rfl, by intro w hSw; obtain ⟨s0, s1, s2, s3, s4, s5, s6, s7, s8, s9, s10, s11, s12, s13, s14, s15, s16, s17, s18, s19, s20, s21, s22, s23, s24⟩ := hSw; go_simp⟩) hHeld ?_
            simp only [tkS, Act.put]
            refine tkH 5 (.pointer (some ⟨lb, k, none⟩)) rfl (Or.inl ⟨by kernel_rfl, by intro w hSw; obtain ⟨s0, s1, s2, s3, s4, s5, s6, s7, s8, s9, s10, s11, s12, s13, s14, s15, s16, s17, s18, s19, s20, s21, s22, s23, s24⟩ := hSw; go_simp⟩) hHeld ?_
            simp only [tkS, Act.put]
            refine tkH 6 (.slice (some ⟨gr, 0, none⟩) m cap) rfl (Or.inl ⟨by kernel_rfl, by intro w hSw; obtain ⟨s0, s1, s2, s3, s4, s5, s6, s7, s8, s9, s10, s11, s12, s13, s14, s15, s16, s17, s18, s19, s20, s21, s22, s23, s24⟩ := hSw; go_simp⟩) hHeld ?_
            simp only [tkS, Act.put]
            refine tkH 7 (.int .i64 ((m : Int))) rfl (Or.inl ⟨by kernel_rfl, by intro w hSw; obtain ⟨s0, s1, s2, s3, s4, s5, s6, s7, s8, s9, s10, s11, s12, s13, s14, s15, s16, s17, s18, s19, s20, s21, s22, s23, s24⟩ := hSw; go_simp⟩) hHeld ?_
            simp only [tkS, Act.put]
            refine tkH 8 (.bool false) rfl (Or.inl ⟨by kernel_rfl, by intro w hSw; obtain ⟨s0, s1, s2, s3, s4, s5, s6, s7, s8, s9, s10, s11, s12, s13, s14, s15, s16, s17, s18, s19, s20, s21, s22, s23, s24⟩ := hSw; go_simp⟩) hHeld ?_
            simp only [tkS, Act.put]
            refine tkH 9 (.bool false) rfl (Or.inl ⟨by kernel_rfl, by intro w hSw; obtain ⟨s0, s1, s2, s3, s4, s5, s6, s7, s8, s9, s10, s11, s12, s13, s14, s15, s16, s17, s18, s19, s20, s21, s22, s23, s24⟩ := hSw; go_simp⟩) hHeld ?_
            simp only [tkS, Act.put]
            refine tkH 10 (.int .i64 (((q + 1 : Nat) : Int))) rfl (Or.inl ⟨by kernel_rfl, by intro w hSw; obtain ⟨s0, s1, s2, s3, s4, s5, s6, s7, s8, s9, s10, s11, s12, s13, s14, s15, s16, s17, s18, s19, s20, s21, s22, s23, s24⟩ := hSw; go_simp⟩) hHeld ?_
            simp only [tkS, Act.put]
            refine tkH 11 (.bool true) rfl (Or.inl ⟨by kernel_rfl, by intro w hSw; obtain ⟨s0, s1, s2, s3, s4, s5, s6, s7, s8, s9, s10, s11, s12, s13, s14, s15, s16, s17, s18, s19, s20, s21, s22, s23, s24⟩ := hSw; go_simp⟩) hHeld ?_
            simp only [tkS, Act.put]
            refine tkH 12 (.bool true) rfl (Or.inl ⟨by kernel_rfl, by intro w hSw; obtain ⟨s0, s1, s2, s3, s4, s5, s6, s7, s8, s9, s10, s11, s12, s13, s14, s15, s16, s17, s18, s19, s20, s21, s22, s23, s24⟩ := hSw; go_simp⟩) hHeld ?_
            simp only [tkS, Act.put]
            refine tkH 13 (.pointer (some ⟨lb, 0, none⟩)) rfl (Or.inl ⟨by kernel_rfl, by intro w hSw; obtain ⟨s0, s1, s2, s3, s4, s5, s6, s7, s8, s9, s10, s11, s12, s13, s14, s15, s16, s17, s18, s19, s20, s21, s22, s23, s24⟩ := hSw; go_simp⟩) hHeld ?_
            simp only [tkS, Act.put]
            refine tkH 14 (.int .i64 ((k : Int))) rfl (Or.inl ⟨by kernel_rfl, by intro w hSw; obtain ⟨s0, s1, s2, s3, s4, s5, s6, s7, s8, s9, s10, s11, s12, s13, s14, s15, s16, s17, s18, s19, s20, s21, s22, s23, s24⟩ := hSw; go_simp⟩) hHeld ?_
            simp only [tkS, Act.put]
            refine tkH 15 (.pointer (some ⟨lb, 0, none⟩)) rfl (Or.inl ⟨by kernel_rfl, by intro w hSw; obtain ⟨s0, s1, s2, s3, s4, s5, s6, s7, s8, s9, s10, s11, s12, s13, s14, s15, s16, s17, s18, s19, s20, s21, s22, s23, s24⟩ := hSw; go_simp⟩) hHeld ?_
            simp only [tkS, Act.put]
            refine tkH 16 (.pointer (some ⟨lb, 0, none⟩)) rfl (Or.inl ⟨by kernel_rfl, by intro w hSw; obtain ⟨s0, s1, s2, s3, s4, s5, s6, s7, s8, s9, s10, s11, s12, s13, s14, s15, s16, s17, s18, s19, s20, s21, s22, s23, s24⟩ := hSw; go_simp⟩) hHeld ?_
            simp only [tkS, Act.put]
            refine tkH 17 (.pointer (some ⟨lb, k, none⟩)) rfl (Or.inl ⟨by kernel_rfl, by intro w hSw; obtain ⟨s0, s1, s2, s3, s4, s5, s6, s7, s8, s9, s10, s11, s12, s13, s14, s15, s16, s17, s18, s19, s20, s21, s22, s23, s24⟩ := hSw; go_simp⟩) hHeld ?_
            simp only [tkS, Act.put]
            refine tkH 18 (.slice (some ⟨gr, 0, none⟩) m cap) rfl (Or.inl ⟨by kernel_rfl, by intro w hSw; obtain ⟨s0, s1, s2, s3, s4, s5, s6, s7, s8, s9, s10, s11, s12, s13, s14, s15, s16, s17, s18, s19, s20, s21, s22, s23, s24⟩ := hSw; go_simp⟩) hHeld ?_
            simp only [tkS, Act.put]
            refine tkH 19 (.int .i64 (((q + 1 : Nat) : Int))) rfl (Or.inl ⟨by kernel_rfl, by intro w hSw; obtain ⟨s0, s1, s2, s3, s4, s5, s6, s7, s8, s9, s10, s11, s12, s13, s14, s15, s16, s17, s18, s19, s20, s21, s22, s23, s24⟩ := hSw; go_simp⟩) hHeld ?_
            simp only [tkS, Act.put]
            refine tkH 20 (.int .i64 ((q : Int))) rfl (Or.inl ⟨by kernel_rfl, by intro w hSw; obtain ⟨s0, s1, s2, s3, s4, s5, s6, s7, s8, s9, s10, s11, s12, s13, s14, s15, s16, s17, s18, s19, s20, s21, s22, s23, s24⟩ := hSw; go_simp⟩) hHeld ?_
            simp only [tkS, Act.put]
            refine tkH 21 (.pointer (some ⟨gr, q * 12, none⟩)) rfl (Or.inl ⟨by kernel_rfl, by intro w hSw; obtain ⟨s0, s1, s2, s3, s4, s5, s6, s7, s8, s9, s10, s11, s12, s13, s14, s15, s16, s17, s18, s19, s20, s21, s22, s23, s24⟩ := hSw; go_simp⟩) hHeld ?_
            simp only [tkS, Act.put]
            refine tkH 22 (.agg #[.int .i64 ya, .int .i64 ys, .int .i64 yt, ydv, .int .i64 yk, .int .i64 yo, .int .i64 yn, .int .i64 yu, .int .i64 ypt, .int .i64 ypa, .string yky, .string ytx]) rfl (Or.inl ⟨by kernel_rfl, by intro w hSw; obtain ⟨s0, s1, s2, s3, s4, s5, s6, s7, s8, s9, s10, s11, s12, s13, s14, s15, s16, s17, s18, s19, s20, s21, s22, s23, s24⟩ := hSw; go_simp⟩) hHeld ?_
            simp only [tkS, Act.put]
            refine tkH 24 (.agg #[.int .i64 xa, .int .i64 xs, .int .i64 xt, .slice (some ⟨gd, od, none⟩) 16 cd, .int .i64 xk, .int .i64 xo, .int .i64 xn, .int .i64 xu, .int .i64 xpt, .int .i64 xpa, .string xky, .string xtx]) rfl (Or.inl ⟨by kernel_rfl, by intro w hSw; obtain ⟨s0, s1, s2, s3, s4, s5, s6, s7, s8, s9, s10, s11, s12, s13, s14, s15, s16, s17, s18, s19, s20, s21, s22, s23, s24⟩ := hSw; go_simp⟩) hHeld ?_
            simp only [tkS, Act.put]
            refine wpAnyH_ready (rs := [23]) (by kernel_rfl) (by simp) ?_
            refine AllReadyH.cons rfl (fun K hK => ?_) AllReadyH.nil
            go_simp
            refine (opStamp_any _ _ _ _ _ _ _ _ _ _ _ _ _).mono ?_
            rintro e wn ⟨rfl, hbn⟩
            replace hB := below_seq hB hbn
            clear hbn
            go_wp2_with fail
            refine hK.out _ _ (HF.out _ hB) (fun hHeld => ?_)
            clear hK K
            refine wpAnyH_ready (rs := [25]) (by kernel_rfl) (by simp) ?_
            refine AllReadyH.cons rfl (fun K hK => ?_) AllReadyH.nil
            go_simp
            refine (opStamp_any _ _ _ _ _ _ _ _ _ _ _ _ _).mono ?_
            rintro e wn ⟨rfl, hbn⟩
            replace hB := below_seq hB hbn
            clear hbn
            go_wp2_with fail
            refine hK.out _ _ (HF.out _ hB) (fun hHeld => ?_)
            clear hK K
            refine wpAnyH_ready (rs := [26]) (by kernel_rfl) (by simp) ?_
            refine AllReadyH.cons rfl (fun K hK => ?_) AllReadyH.nil
            go_simp
            refine (hLs _).mono ?_
            rintro e wn ⟨rfl, hbn⟩
            replace hB := below_seq hB hbn
            clear hbn
            go_wp2_with fail
            refine hK.out _ _ (HF.out _ hB) (fun hHeld => ?_)
            clear hK K
            refine tkH 27 (.bool true) rfl (Or.inl ⟨by kernel_rfl, by intro w hSw; obtain ⟨s0, s1, s2, s3, s4, s5, s6, s7, s8, s9, s10, s11, s12, s13, s14, s15, s16, s17, s18, s19, s20, s21, s22, s23, s24⟩ := hSw; go_simp⟩) hHeld ?_
            simp only [tkS, Act.put]
            refine tkH 28 (.bool true) rfl (Or.inl ⟨by kernel_rfl, by intro w hSw; obtain ⟨s0, s1, s2, s3, s4, s5, s6, s7, s8, s9, s10, s11, s12, s13, s14, s15, s16, s17, s18, s19, s20, s21, s22, s23, s24⟩ := hSw; go_simp⟩) hHeld ?_
            simp only [tkS, Act.put]
            refine tkH 29 (.bool true) rfl (Or.inl ⟨by kernel_rfl, by intro w hSw; obtain ⟨s0, s1, s2, s3, s4, s5, s6, s7, s8, s9, s10, s11, s12, s13, s14, s15, s16, s17, s18, s19, s20, s21, s22, s23, s24⟩ := hSw; go_simp⟩) hHeld ?_
            simp only [tkS, Act.put]
            refine wpAnyH_done (by kernel_rfl) ?_ _
            go_wp2_with fail
            go_ret
            exact ⟨by rw [HE.out]; rfl, below_seq (below_alloc _ _) hB⟩
          | true =>
            have HE := HAk.out (by rw [HKk, hls, decide_eq_true (by omega : ((q + 1 : Nat) : Int) ≤ (m : Int))]; simp)
            rw [hls] at hLs
            clear HKk HNk HAk HA hrow hls
            have HF : Hid (∀ wx, Below (w.alloc (.cells #[.int .i64 xa, .int .i64 xs, .int .i64 xt, .slice (some ⟨gd, od, none⟩) 16 cd, .int .i64 xk, .int .i64 xo, .int .i64 xn, .int .i64 xu, .int .i64 xpt, .int .i64 xpa, .string xky, .string xtx] 47)).heap.size (w.alloc (.cells #[.int .i64 xa, .int .i64 xs, .int .i64 xt, .slice (some ⟨gd, od, none⟩) 16 cd, .int .i64 xk, .int .i64 xo, .int .i64 xn, .int .i64 xu, .int .i64 xpt, .int .i64 xpa, .string xky, .string xtx] 47)) wx → wx.cell? ⟨w.heap.size, 0, none⟩ = some (.int .i64 xa) ∧ wx.cell? ⟨w.heap.size, 1, none⟩ = some (.int .i64 xs) ∧ wx.cell? ⟨w.heap.size, 2, none⟩ = some (.int .i64 xt) ∧ wx.cell? ⟨w.heap.size, 3, none⟩ = some (.slice (some ⟨gd, od, none⟩) 16 cd) ∧ wx.cell? ⟨w.heap.size, 4, none⟩ = some (.int .i64 xk) ∧ wx.cell? ⟨w.heap.size, 5, none⟩ = some (.int .i64 xo) ∧ wx.cell? ⟨w.heap.size, 6, none⟩ = some (.int .i64 xn) ∧ wx.cell? ⟨w.heap.size, 7, none⟩ = some (.int .i64 xu) ∧ wx.cell? ⟨w.heap.size, 8, none⟩ = some (.int .i64 xpt) ∧ wx.cell? ⟨w.heap.size, 9, none⟩ = some (.int .i64 xpa) ∧ wx.cell? ⟨w.heap.size, 10, none⟩ = some (.string xky) ∧ wx.cell? ⟨w.heap.size, 11, none⟩ = some (.string xtx) ∧ wx.cell? ⟨lb, k, none⟩ = some (.slice (some ⟨gr, 0, none⟩) m cap) ∧ wx.cell? ⟨gr, q * 12, none⟩ = some (.int .i64 ya) ∧ wx.cell? ⟨gr, q * 12 + 1, none⟩ = some (.int .i64 ys) ∧ wx.cell? ⟨gr, q * 12 + 2, none⟩ = some (.int .i64 yt) ∧ wx.cell? ⟨gr, q * 12 + 3, none⟩ = some (ydv) ∧ wx.cell? ⟨gr, q * 12 + 4, none⟩ = some (.int .i64 yk) ∧ wx.cell? ⟨gr, q * 12 + 5, none⟩ = some (.int .i64 yo) ∧ wx.cell? ⟨gr, q * 12 + 6, none⟩ = some (.int .i64 yn) ∧ wx.cell? ⟨gr, q * 12 + 7, none⟩ = some (.int .i64 yu) ∧ wx.cell? ⟨gr, q * 12 + 8, none⟩ = some (.int .i64 ypt) ∧ wx.cell? ⟨gr, q * 12 + 9, none⟩ = some (.int .i64 ypa) ∧ wx.cell? ⟨gr, q * 12 + 10, none⟩ = some (.string yky) ∧ wx.cell? ⟨gr, q * 12 + 11, none⟩ = some (.string ytx)) := fun wx h => by
              obtain ⟨q0, q1, q2, q3, q4, q5, q6, q7, q8, q9, q10, q11⟩ := op_cells h
              exact ⟨q0, q1, q2, q3, q4, q5, q6, q7, q8, q9, q10, q11, (below_seq (below_alloc w _) h).cell (p := ⟨lb, k, none⟩) hlb |>.trans hck, ((below_seq (below_alloc w _) h).cell (p := ⟨gr, q * 12, none⟩) hgr).trans hy.c0, ((below_seq (below_alloc w _) h).cell (p := ⟨gr, q * 12 + 1, none⟩) hgr).trans hy.c1, ((below_seq (below_alloc w _) h).cell (p := ⟨gr, q * 12 + 2, none⟩) hgr).trans hy.c2, ((below_seq (below_alloc w _) h).cell (p := ⟨gr, q * 12 + 3, none⟩) hgr).trans hy.c3, ((below_seq (below_alloc w _) h).cell (p := ⟨gr, q * 12 + 4, none⟩) hgr).trans hy.c4, ((below_seq (below_alloc w _) h).cell (p := ⟨gr, q * 12 + 5, none⟩) hgr).trans hy.c5, ((below_seq (below_alloc w _) h).cell (p := ⟨gr, q * 12 + 6, none⟩) hgr).trans hy.c6, ((below_seq (below_alloc w _) h).cell (p := ⟨gr, q * 12 + 7, none⟩) hgr).trans hy.c7, ((below_seq (below_alloc w _) h).cell (p := ⟨gr, q * 12 + 8, none⟩) hgr).trans hy.c8, ((below_seq (below_alloc w _) h).cell (p := ⟨gr, q * 12 + 9, none⟩) hgr).trans hy.c9, ((below_seq (below_alloc w _) h).cell (p := ⟨gr, q * 12 + 10, none⟩) hgr).trans hy.c10, ((below_seq (below_alloc w _) h).cell (p := ⟨gr, q * 12 + 11, none⟩) hgr).trans hy.c11⟩
            go_wp2_with fail
            refine wp_region_held_drew (S := fun w' => w'.cell? ⟨w.heap.size, 0, none⟩ = some (.int .i64 xa) ∧ w'.cell? ⟨w.heap.size, 1, none⟩ = some (.int .i64 xs) ∧ w'.cell? ⟨w.heap.size, 2, none⟩ = some (.int .i64 xt) ∧ w'.cell? ⟨w.heap.size, 3, none⟩ = some (.slice (some ⟨gd, od, none⟩) 16 cd) ∧ w'.cell? ⟨w.heap.size, 4, none⟩ = some (.int .i64 xk) ∧ w'.cell? ⟨w.heap.size, 5, none⟩ = some (.int .i64 xo) ∧ w'.cell? ⟨w.heap.size, 6, none⟩ = some (.int .i64 xn) ∧ w'.cell? ⟨w.heap.size, 7, none⟩ = some (.int .i64 xu) ∧ w'.cell? ⟨w.heap.size, 8, none⟩ = some (.int .i64 xpt) ∧ w'.cell? ⟨w.heap.size, 9, none⟩ = some (.int .i64 xpa) ∧ w'.cell? ⟨w.heap.size, 10, none⟩ = some (.string xky) ∧ w'.cell? ⟨w.heap.size, 11, none⟩ = some (.string xtx) ∧ w'.cell? ⟨lb, k, none⟩ = some (.slice (some ⟨gr, 0, none⟩) m cap) ∧ w'.cell? ⟨gr, q * 12, none⟩ = some (.int .i64 ya) ∧ w'.cell? ⟨gr, q * 12 + 1, none⟩ = some (.int .i64 ys) ∧ w'.cell? ⟨gr, q * 12 + 2, none⟩ = some (.int .i64 yt) ∧ w'.cell? ⟨gr, q * 12 + 3, none⟩ = some (ydv) ∧ w'.cell? ⟨gr, q * 12 + 4, none⟩ = some (.int .i64 yk) ∧ w'.cell? ⟨gr, q * 12 + 5, none⟩ = some (.int .i64 yo) ∧ w'.cell? ⟨gr, q * 12 + 6, none⟩ = some (.int .i64 yn) ∧ w'.cell? ⟨gr, q * 12 + 7, none⟩ = some (.int .i64 yu) ∧ w'.cell? ⟨gr, q * 12 + 8, none⟩ = some (.int .i64 ypt) ∧ w'.cell? ⟨gr, q * 12 + 9, none⟩ = some (.int .i64 ypa) ∧ w'.cell? ⟨gr, q * 12 + 10, none⟩ = some (.string yky) ∧ w'.cell? ⟨gr, q * 12 + 11, none⟩ = some (.string ytx)) (by kernel_rfl) (HF.out _ hB) (fun hHeld => ?_)
            refine tkH 0 (.int .i64 (((q + 1 : Nat) : Int))) rfl (Or.inl ⟨by kernel_rfl, by intro w hSw; obtain ⟨s0, s1, s2, s3, s4, s5, s6, s7, s8, s9, s10, s11, s12, s13, s14, s15, s16, s17, s18, s19, s20, s21, s22, s23, s24⟩ := hSw; go_simp⟩) hHeld ?_
            simp only [tkS, Act.put]
            refine tkH 1 (.pointer (some ⟨lb, 0, none⟩)) rfl (Or.inl ⟨by kernel_rfl, by intro w hSw; obtain ⟨s0, s1, s2, s3, s4, s5, s6, s7, s8, s9, s10, s11, s12, s13, s14, s15, s16, s17, s18, s19, s20, s21, s22, s23, s24⟩ := hSw; go_simp⟩) hHeld ?_
            simp only [tkS, Act.put]
            refine tkH 2 (.int .i64 ((k : Int))) rfl (Or.inl ⟨by kernel_rfl, by intro w hSw; obtain ⟨s0, s1, s2, s3, s4, s5, s6, s7, s8, s9, s10, s11, s12, s13, s14, s15, s16, s17, s18, s19, s20, s21, s22, s23, s24⟩ := hSw; go_simp⟩) hHeld ?_
            simp only [tkS, Act.put]
            refine tkH 3 (.pointer (some ⟨lb, 0, none⟩)) rfl (Or.inl ⟨by kernel_rfl, by intro w hSw; obtain ⟨s0, s1, s2, s3, s4, s5, s6, s7, s8, s9, s10, s11, s12, s13, s14, s15, s16, s17, s18, s19, s20, s21, s22, s23, s24⟩ := hSw; go_simp⟩) hHeld ?_
            simp only [tkS, Act.put]
            refine tkH 4 (.pointer (some ⟨lb, 0, none⟩)) rfl (Or.inl ⟨by kernel_rfl, by intro w hSw; obtain ⟨s0, s1, s2, s3, s4, s5, s6, s7, s8, s9, s10, s11, s12, s13, s14, s15, s16, s17, s18, s19, s20, s21, s22, s23, s24⟩ := hSw; go_simp⟩) hHeld ?_
            simp only [tkS, Act.put]
            refine tkH 5 (.pointer (some ⟨lb, k, none⟩)) rfl (Or.inl ⟨by kernel_rfl, by intro w hSw; obtain ⟨s0, s1, s2, s3, s4, s5, s6, s7, s8, s9, s10, s11, s12, s13, s14, s15, s16, s17, s18, s19, s20, s21, s22, s23, s24⟩ := hSw; go_simp⟩) hHeld ?_
            simp only [tkS, Act.put]
            refine tkH 6 (.slice (some ⟨gr, 0, none⟩) m cap) rfl (Or.inl ⟨by kernel_rfl, by intro w hSw; obtain ⟨s0, s1, s2, s3, s4, s5, s6, s7, s8, s9, s10, s11, s12, s13, s14, s15, s16, s17, s18, s19, s20, s21, s22, s23, s24⟩ := hSw; go_simp⟩) hHeld ?_
            simp only [tkS, Act.put]
            refine tkH 7 (.int .i64 ((m : Int))) rfl (Or.inl ⟨by kernel_rfl, by intro w hSw; obtain ⟨s0, s1, s2, s3, s4, s5, s6, s7, s8, s9, s10, s11, s12, s13, s14, s15, s16, s17, s18, s19, s20, s21, s22, s23, s24⟩ := hSw; go_simp⟩) hHeld ?_
            simp only [tkS, Act.put]
            refine tkH 8 (.bool false) rfl (Or.inl ⟨by kernel_rfl, by intro w hSw; obtain ⟨s0, s1, s2, s3, s4, s5, s6, s7, s8, s9, s10, s11, s12, s13, s14, s15, s16, s17, s18, s19, s20, s21, s22, s23, s24⟩ := hSw; go_simp⟩) hHeld ?_
            simp only [tkS, Act.put]
            refine tkH 9 (.bool false) rfl (Or.inl ⟨by kernel_rfl, by intro w hSw; obtain ⟨s0, s1, s2, s3, s4, s5, s6, s7, s8, s9, s10, s11, s12, s13, s14, s15, s16, s17, s18, s19, s20, s21, s22, s23, s24⟩ := hSw; go_simp⟩) hHeld ?_
            simp only [tkS, Act.put]
            refine tkH 10 (.int .i64 (((q + 1 : Nat) : Int))) rfl (Or.inl ⟨by kernel_rfl, by intro w hSw; obtain ⟨s0, s1, s2, s3, s4, s5, s6, s7, s8, s9, s10, s11, s12, s13, s14, s15, s16, s17, s18, s19, s20, s21, s22, s23, s24⟩ := hSw; go_simp⟩) hHeld ?_
            simp only [tkS, Act.put]
            refine tkH 11 (.bool true) rfl (Or.inl ⟨by kernel_rfl, by intro w hSw; obtain ⟨s0, s1, s2, s3, s4, s5, s6, s7, s8, s9, s10, s11, s12, s13, s14, s15, s16, s17, s18, s19, s20, s21, s22, s23, s24⟩ := hSw; go_simp⟩) hHeld ?_
            simp only [tkS, Act.put]
            refine tkH 12 (.bool true) rfl (Or.inl ⟨by kernel_rfl, by intro w hSw; obtain ⟨s0, s1, s2, s3, s4, s5, s6, s7, s8, s9, s10, s11, s12, s13, s14, s15, s16, s17, s18, s19, s20, s21, s22, s23, s24⟩ := hSw; go_simp⟩) hHeld ?_
            simp only [tkS, Act.put]
            refine tkH 13 (.pointer (some ⟨lb, 0, none⟩)) rfl (Or.inl ⟨by kernel_rfl, by intro w hSw; obtain ⟨s0, s1, s2, s3, s4, s5, s6, s7, s8, s9, s10, s11, s12, s13, s14, s15, s16, s17, s18, s19, s20, s21, s22, s23, s24⟩ := hSw; go_simp⟩) hHeld ?_
            simp only [tkS, Act.put]
            refine tkH 14 (.int .i64 ((k : Int))) rfl (Or.inl ⟨by kernel_rfl, by intro w hSw; obtain ⟨s0, s1, s2, s3, s4, s5, s6, s7, s8, s9, s10, s11, s12, s13, s14, s15, s16, s17, s18, s19, s20, s21, s22, s23, s24⟩ := hSw; go_simp⟩) hHeld ?_
            simp only [tkS, Act.put]
            refine tkH 15 (.pointer (some ⟨lb, 0, none⟩)) rfl (Or.inl ⟨by kernel_rfl, by intro w hSw; obtain ⟨s0, s1, s2, s3, s4, s5, s6, s7, s8, s9, s10, s11, s12, s13, s14, s15, s16, s17, s18, s19, s20, s21, s22, s23, s24⟩ := hSw; go_simp⟩) hHeld ?_
            simp only [tkS, Act.put]
            refine tkH 16 (.pointer (some ⟨lb, 0, none⟩)) rfl (Or.inl ⟨by kernel_rfl, by intro w hSw; obtain ⟨s0, s1, s2, s3, s4, s5, s6, s7, s8, s9, s10, s11, s12, s13, s14, s15, s16, s17, s18, s19, s20, s21, s22, s23, s24⟩ := hSw; go_simp⟩) hHeld ?_
            simp only [tkS, Act.put]
            refine tkH 17 (.pointer (some ⟨lb, k, none⟩)) rfl (Or.inl ⟨by kernel_rfl, by intro w hSw; obtain ⟨s0, s1, s2, s3, s4, s5, s6, s7, s8, s9, s10, s11, s12, s13, s14, s15, s16, s17, s18, s19, s20, s21, s22, s23, s24⟩ := hSw; go_simp⟩) hHeld ?_
            simp only [tkS, Act.put]
            refine tkH 18 (.slice (some ⟨gr, 0, none⟩) m cap) rfl (Or.inl ⟨by kernel_rfl, by intro w hSw; obtain ⟨s0, s1, s2, s3, s4, s5, s6, s7, s8, s9, s10, s11, s12, s13, s14, s15, s16, s17, s18, s19, s20, s21, s22, s23, s24⟩ := hSw; go_simp⟩) hHeld ?_
            simp only [tkS, Act.put]
            refine tkH 19 (.int .i64 (((q + 1 : Nat) : Int))) rfl (Or.inl ⟨by kernel_rfl, by intro w hSw; obtain ⟨s0, s1, s2, s3, s4, s5, s6, s7, s8, s9, s10, s11, s12, s13, s14, s15, s16, s17, s18, s19, s20, s21, s22, s23, s24⟩ := hSw; go_simp⟩) hHeld ?_
            simp only [tkS, Act.put]
            refine tkH 20 (.int .i64 ((q : Int))) rfl (Or.inl ⟨by kernel_rfl, by intro w hSw; obtain ⟨s0, s1, s2, s3, s4, s5, s6, s7, s8, s9, s10, s11, s12, s13, s14, s15, s16, s17, s18, s19, s20, s21, s22, s23, s24⟩ := hSw; go_simp⟩) hHeld ?_
            simp only [tkS, Act.put]
            refine tkH 21 (.pointer (some ⟨gr, q * 12, none⟩)) rfl (Or.inl ⟨by kernel_rfl, by intro w hSw; obtain ⟨s0, s1, s2, s3, s4, s5, s6, s7, s8, s9, s10, s11, s12, s13, s14, s15, s16, s17, s18, s19, s20, s21, s22, s23, s24⟩ := hSw; go_simp⟩) hHeld ?_
            simp only [tkS, Act.put]
            refine tkH 22 (.agg #[.int .i64 ya, .int .i64 ys, .int .i64 yt, ydv, .int .i64 yk, .int .i64 yo, .int .i64 yn, .int .i64 yu, .int .i64 ypt, .int .i64 ypa, .string yky, .string ytx]) rfl (Or.inl ⟨by kernel_rfl, by intro w hSw; obtain ⟨s0, s1, s2, s3, s4, s5, s6, s7, s8, s9, s10, s11, s12, s13, s14, s15, s16, s17, s18, s19, s20, s21, s22, s23, s24⟩ := hSw; go_simp⟩) hHeld ?_
            simp only [tkS, Act.put]
            refine tkH 24 (.agg #[.int .i64 xa, .int .i64 xs, .int .i64 xt, .slice (some ⟨gd, od, none⟩) 16 cd, .int .i64 xk, .int .i64 xo, .int .i64 xn, .int .i64 xu, .int .i64 xpt, .int .i64 xpa, .string xky, .string xtx]) rfl (Or.inl ⟨by kernel_rfl, by intro w hSw; obtain ⟨s0, s1, s2, s3, s4, s5, s6, s7, s8, s9, s10, s11, s12, s13, s14, s15, s16, s17, s18, s19, s20, s21, s22, s23, s24⟩ := hSw; go_simp⟩) hHeld ?_
            simp only [tkS, Act.put]
            refine wpAnyH_ready (rs := [23]) (by kernel_rfl) (by simp) ?_
            refine AllReadyH.cons rfl (fun K hK => ?_) AllReadyH.nil
            go_simp
            refine (opStamp_any _ _ _ _ _ _ _ _ _ _ _ _ _).mono ?_
            rintro e wn ⟨rfl, hbn⟩
            replace hB := below_seq hB hbn
            clear hbn
            go_wp2_with fail
            refine hK.out _ _ (HF.out _ hB) (fun hHeld => ?_)
            clear hK K
            refine wpAnyH_ready (rs := [25]) (by kernel_rfl) (by simp) ?_
            refine AllReadyH.cons rfl (fun K hK => ?_) AllReadyH.nil
            go_simp
            refine (opStamp_any _ _ _ _ _ _ _ _ _ _ _ _ _).mono ?_
            rintro e wn ⟨rfl, hbn⟩
            replace hB := below_seq hB hbn
            clear hbn
            go_wp2_with fail
            refine hK.out _ _ (HF.out _ hB) (fun hHeld => ?_)
            clear hK K
            refine wpAnyH_ready (rs := [26]) (by kernel_rfl) (by simp) ?_
            refine AllReadyH.cons rfl (fun K hK => ?_) AllReadyH.nil
            go_simp
            refine (hLs _).mono ?_
            rintro e wn ⟨rfl, hbn⟩
            replace hB := below_seq hB hbn
            clear hbn
            go_wp2_with fail
            refine hK.out _ _ (HF.out _ hB) (fun hHeld => ?_)
            clear hK K
            refine tkH 27 (.bool false) rfl (Or.inl ⟨by kernel_rfl, by intro w hSw; obtain ⟨s0, s1, s2, s3, s4, s5, s6, s7, s8, s9, s10, s11, s12, s13, s14, s15, s16, s17, s18, s19, s20, s21, s22, s23, s24⟩ := hSw; go_simp⟩) hHeld ?_
            simp only [tkS, Act.put]
            refine tkH 28 (.bool false) rfl (Or.inl ⟨by kernel_rfl, by intro w hSw; obtain ⟨s0, s1, s2, s3, s4, s5, s6, s7, s8, s9, s10, s11, s12, s13, s14, s15, s16, s17, s18, s19, s20, s21, s22, s23, s24⟩ := hSw; go_simp⟩) hHeld ?_
            simp only [tkS, Act.put]
            refine tkH 29 (.bool false) rfl (Or.inl ⟨by kernel_rfl, by intro w hSw; obtain ⟨s0, s1, s2, s3, s4, s5, s6, s7, s8, s9, s10, s11, s12, s13, s14, s15, s16, s17, s18, s19, s20, s21, s22, s23, s24⟩ := hSw; go_simp⟩) hHeld ?_
            simp only [tkS, Act.put]
            refine wpAnyH_done (by kernel_rfl) ?_ _
            go_wp2_with fail
            go_roundw
            case rel => exact ⟨k + 1, by omega, by go_num, hB, HE⟩
            case measure => simp [intOf]; omega
    · have hki : ¬ (k : Int) < 16 := by omega
      have HE : Hid (r = true) := HR.out.symm.trans (HYES.out fun a ha => HA.out a (by omega))
      go_wp2_with fail
      go_ret
      exact ⟨by rw [HE.out]; rfl, below_seq (below_alloc _ _) hB⟩
end Go.Proofs.Ytcifbgoonaolbab

namespace Go.Proofs.Ytcifbgoonaolbab
open Go.RowKit
set_option linter.unusedVariables false

/-- The operations of actor a stand together, from place i on. -/
structure Stand (L : List Ov) (a i : Nat) : Prop where
  no : ∀ q, q < i → (ovAt L q).a ≠ (a : Int)
  yes : ∀ q, q < (byA L a).length → ovAt L (i + q) = ovAt (byA L a) q ∧ (ovAt L (i + q)).a = (a : Int)
  fit : i + (byA L a).length ≤ L.length

set_option maxHeartbeats 2000000 in
set_option maxRecDepth 100000 in
theorem l08Find_any (C : Nat) (w : World) (v : Value) (L : List Ov) (a i m : Nat) (hC : C ≤ w.heap.size) (hr : RdO C w v L) (hl : L.length ≤ 1024) (hS : Stand L a i) (hm : m < (byA L a).length) :
    Calls Try.prog 52 #[v, .int .i64 (a : Int), .int .i64 ((m + 1 : Nat) : Int)] w fun e w' => e = .returned (.int .i64 ((i + m : Nat) : Int)) ∧ w' = w := by
  obtain ⟨⟨ao, cap, rfl, hcap, hmax, hnil, hrow⟩, hdv⟩ := hr
  have hfit := hS.fit
  obtain ⟨g, off, rfl, hg, hcs⟩ := hrow (by omega)
  clear hdv hrow
  have HC : Hid (∀ k, k < L.length → w.cell? ⟨g, off + k * 12, none⟩ = some (.int .i64 (ovAt L k).a)) := fun k hk => (hcs k hk).c0
  go_enter Try.func52, Try.ntmps52
  go_wp2_with fail
  go_loop [7] (fun ti => ∃ k : Nat, k ≤ i ∧ ti = .int .i64 (k : Int)) (fun ti => i + 1 - (intOf ti).toNat)
  case atStart => exact ⟨0, Nat.zero_le _, rfl⟩
  case round =>
    obtain ⟨k, hk, rfl⟩ := hrel
    have hkl : (k : Int) < (L.length : Int) := by omega
    have hk2 : (k : Int) + 1 < 9223372036854775808 := by omega
    have c0 := HC.out k (by omega)
    by_cases e : k = i
    · have hy := (hS.yes 0 (by omega)).2
      rw [Nat.add_zero, ← e] at hy
      rw [hy] at c0
      have hz := (hS.yes m hm).2
      rw [← e] at hz
      have c1 := HC.out (k + m) (by omega)
      rw [hz] at c1
      have h1 : ¬ ((m : Int) + 1 < 1) := by omega
      have h2 : ¬ ((L.length : Int) - (k : Int) < (m : Int) + 1) := by omega
      have HE : Hid ((k + m : Nat) = i + m) := by unfold Hid; omega
      have hkm : ((k + m : Nat) : Int) < (L.length : Int) := by omega
      clear hy hz e
      go_wp2_with fail
      go_ret
      refine ⟨?_, rfl⟩
      have := HE.out
      simp
      omega
    · have hne : ((ovAt L k).a == (a : Int)) = false := by simpa using hS.no k (by omega)
      generalize (ovAt L k).a = z at c0 hne
      have hki : k < i := by omega
      clear e
      go_wp2_with fail
      go_round
      case rel => exact ⟨k + 1, by omega, by go_num⟩
      case measure => simp [intOf]; omega
end Go.Proofs.Ytcifbgoonaolbab

namespace Go.Proofs.Ytcifbgoonaolbab
open Go.RowKit
set_option linter.unusedVariables false

theorem owns_rdO {w : World} {B : Nat} {v : Value} {M : List Ov} (h : w.ownsRow B 47 12 v M.length (rowCs M)) (hd : ∀ x ∈ M, Rd w.heap.size w x.dv (x.ds.map (Value.int .i64))) : RdO w.heap.size w v M := by
  have h' := h
  obtain ⟨h1, h2⟩ := h
  rcases h2 with ⟨hv, hn⟩ | ⟨g, cap, cur, hv, hg, hh, hle, hm, hs, ht⟩
  · subst hv
    refine ⟨⟨none, 0, by rw [hn], by omega, by unfold maxLen; omega, fun _ => rfl, fun hp => absurd hp (by omega)⟩, hd⟩
  · subst hv
    exact ⟨⟨_, cap, rfl, hle, hm, fun e => (by cases e), fun hp => ⟨g, 0, rfl, (Array.getElem?_eq_some_iff.1 hh).1, fun k hk => by rw [Nat.zero_add]; exact row_at h' hk⟩⟩, hd⟩
end Go.Proofs.Ytcifbgoonaolbab

namespace Go.Proofs.Ytcifbgoonaolbab
open Go.RowKit
set_option linter.unusedVariables false

set_option maxHeartbeats 1000000 in
set_option maxRecDepth 100000 in
theorem newO_any (w : World) : Calls Try.prog 51 #[] w fun e w' => ∃ g, e = .returned (.agg #[.slice (some ⟨g, 0, none⟩) 16 16]) ∧ Own 3 w' w.heap.size (.slice (some ⟨g, 0, none⟩) 16 16) ((List.replicate 16 0).map (Value.int .i64)) ∧ Below w.heap.size w w' := by
  obtain ⟨i0, hi, hz0, hz1, hz2⟩ := info_parts info3
  go_enter Try.func51, Try.ntmps51
  go_wp2_with (at_make; refine wpList_make_full _ rfl _ _ 24 rfl (w.heap.size + 1) 3 i0 (.int .i64 0) 1 Try.underlying24 hi hz0 hz1 _ _ _ _ 16 rfl rfl rfl rfl (by rw [hz2]; omega) (by unfold maxLen; omega) (by simp) ?_)
  intro w1 hown hgrow
  have ho1 := own_of hown
  rw [toList_madeCells_one] at ho1
  have hk := (hgrow.block w.heap.size (by simp) (by simp)).trans (heap_alloc_new w _)
  have c0 := blk_cell hk 0 rfl
  have f0 := blk_free hk 0
  have hb1 : Below w.heap.size w w1 := (below_alloc w _).grown hgrow (by simp) (fun k hk => by cases hk)
  have ho2 := ho1.apart (grownBy_set w1 w.heap.size 0 (.slice (some ⟨w.heap.size + 1, 0, none⟩) 16 16)) (fun kk hk => by cases hk; omega)
  have hb2 := hb1.setCell (p := ⟨w.heap.size, 0, none⟩) (Nat.le_refl _) (.slice (some ⟨w.heap.size + 1, 0, none⟩) 16 16)
  have q0 : (w1.setCell ⟨w.heap.size, 0, none⟩ (.slice (some ⟨w.heap.size + 1, 0, none⟩) 16 16)).cell? ⟨w.heap.size, 0, none⟩ = some (.slice (some ⟨w.heap.size + 1, 0, none⟩) 16 16) := World.cell?_setCell_same _ _ _ c0
  clear hown hgrow ho1
  go_wp2_with fail
  refine bodyPost_ret (v := .agg #[.slice (some ⟨w.heap.size + 1, 0, none⟩) 16 16]) ?_ rfl ⟨_, rfl, ho2.mono (by omega), hb2⟩
  simp [results, Try.results51, go_sem, q0]

/-- How many operations of each actor there are. -/
def cnts (P : List Ov) : List Int := (List.range 16).map fun a => ((byA P a).length : Int)
theorem cnts_len (P : List Ov) : (cnts P).length = 16 := by simp [cnts]
theorem cnts_at (P : List Ov) {a : Nat} (h : a < 16) : (cnts P)[a]? = some ((byA P a).length : Int) := by simp [cnts, h]
theorem cnts_snoc (P : List Ov) (x : Ov) {a : Nat} (hx : x.a = (a : Int)) (h : a < 16) : cnts (P ++ [x]) = (cnts P).set a (((byA P a).length : Int) + 1) := by
  apply List.ext_getElem?
  intro b
  by_cases hb : b < 16
  · rw [cnts_at _ hb, byA_snoc]
    by_cases e : b = a
    · subst e
      rw [if_pos hx, List.getElem?_set_self (by rw [cnts_len]; exact h)]
      simp
    · rw [if_neg (by rw [hx]; omega), List.getElem?_set_ne (by omega), cnts_at _ hb]
  · rw [List.getElem?_eq_none (by rw [cnts_len]; omega), List.getElem?_eq_none (by rw [List.length_set, cnts_len]; omega)]

set_option maxHeartbeats 2000000 in
set_option maxRecDepth 100000 in
theorem l08Counts_any (C : Nat) (w : World) (v : Value) (L : List Ov) (hC : C ≤ w.heap.size) (hr : RdO C w v L) (hl : L.length ≤ 1024) (hA : ∀ x ∈ L, 0 ≤ x.a ∧ x.a < 16) :
    Calls Try.prog 26 #[v] w fun e w' => ∃ gc, e = .returned (.agg #[.slice (some ⟨gc, 0, none⟩) 16 16]) ∧ Own 3 w' w.heap.size (.slice (some ⟨gc, 0, none⟩) 16 16) ((cnts L).map (Value.int .i64)) ∧ Below w.heap.size w w' := by
  obtain ⟨⟨ao, cap, rfl, hcap, hmax, hnil, hrow⟩, hdv⟩ := hr
  clear hdv
  have hn := newO_any (w.alloc (.cells #[.slice none 0 0] 44))
  go_enter Try.func26, Try.ntmps26
  go_wp2_with fail
  refine hn.mono ?_
  rintro e w1 ⟨gc, rfl, ho, hb⟩
  rw [World.size_alloc] at ho
  have hgc : w.heap.size + 1 ≤ gc ∧ gc < w1.heap.size := World.ownsRow.lt ho gc rfl
  have hs1 := hb.size
  rw [World.size_alloc] at hs1
  have hbw : Below w.heap.size w w1 := below_seq (below_alloc _ _) hb
  have r1 : w1.heap[w.heap.size]? = some (.cells #[.slice none 0 0] 44 (0, 0)) := (hb.block w.heap.size (by rw [World.size_alloc]; omega)).trans (heap_alloc_new w _)
  have HI : Hid (Own 3 (w1.alloc (.cells #[.slice (some ⟨gc, 0, none⟩) 16 16] 44)) (w.heap.size + 1) (.slice (some ⟨gc, 0, none⟩) 16 16) ((cnts (L.take 0)).map (Value.int .i64)) ∧ (w1.alloc (.cells #[.slice (some ⟨gc, 0, none⟩) 16 16] 44)).heap[w1.heap.size]? = some (.cells #[.slice (some ⟨gc, 0, none⟩) 16 16] 44 (0, 0)) ∧ (w1.alloc (.cells #[.slice (some ⟨gc, 0, none⟩) 16 16] 44)).heap[w.heap.size]? = some (.cells #[.slice none 0 0] 44 (0, 0)) ∧ Below w.heap.size w (w1.alloc (.cells #[.slice (some ⟨gc, 0, none⟩) 16 16] 44))) :=
    ⟨World.ownsRow.alloc ho _, heap_alloc_new w1 _, (Below.heap_alloc w1 _ _ (by omega)).trans r1, below_then hbw _⟩
  clear hn hb ho r1
  go_wp2_with fail
  go_loopw [4] (fun ti wr => ∃ k : Nat, k ≤ L.length ∧ ti = .int .i64 (k : Int) ∧ Hid (Own 3 wr (w.heap.size + 1) (.slice (some ⟨gc, 0, none⟩) 16 16) ((cnts (L.take k)).map (Value.int .i64)) ∧ wr.heap[w1.heap.size]? = some (.cells #[.slice (some ⟨gc, 0, none⟩) 16 16] 44 (0, 0)) ∧ wr.heap[w.heap.size]? = some (.cells #[.slice none 0 0] 44 (0, 0)) ∧ Below w.heap.size w wr)) (fun ti _ => L.length - (intOf ti).toNat)
  case atStart => exact ⟨0, Nat.zero_le _, rfl, HI⟩
  case round =>
    clear HI hbw
    obtain ⟨k, hk, rfl, HI⟩ := hrel
    obtain ⟨ho, hvo, hro, hbel⟩ := HI.out
    by_cases hlt : k < L.length
    · have hki : (k : Int) < (L.length : Int) := by omega
      have hk2 : (k : Int) + 1 < 9223372036854775808 := by omega
      obtain ⟨g, off, rfl, hg, hcs⟩ := hrow (by omega)
      have hx := ((hcs k hlt).below (hbel.mono hC) hg).c0
      have hxa := hA _ (ovAt_mem hlt)
      obtain ⟨j, hj⟩ := Int.eq_ofNat_of_zero_le hxa.1
      have hj16 : j < 16 := by omega
      have hj16' : (j : Int) < 16 := by omega
      have hle : (byA (L.take k) j).length ≤ 1024 := Nat.le_trans (List.length_filter_le _ _) (by rw [List.length_take]; omega)
      have HC : Hid (cnts (L.take (k + 1)) = (cnts (L.take k)).set j (((byA (L.take k) j).length : Int) + 1)) := by
        unfold Hid
        rw [List.take_add_one, ovAt_get hlt]
        exact cnts_snoc _ _ hj hj16
      rw [hj] at hx
      have hcj0 : wr.cell? ⟨gc, j, none⟩ = some (.int .i64 ((byA (L.take k) j).length : Int)) := own_at ho (by rw [List.getElem?_map, cnts_at _ hj16]; rfl)
      have hfj0 := own_free ho j
      have HN := own_set ho j (.int .i64 (((byA (L.take k) j).length : Int) + 1))
      rw [← List.map_set, ← HC.out] at HN
      generalize hce : ((byA (L.take k) j).length : Int) = c at *
      have hcw : IntKind.i64.wrap (c + 1) = c + 1 := by rw [IntKind.wrap_i64]; omega
      have hvb : wr.drew.cell? ⟨w1.heap.size, 0, none⟩ = some (.slice (some ⟨gc, 0, none⟩) 16 16) := blk_cell (w := wr) hvo 0 rfl
      have hxj : wr.drew.cell? ⟨g, off + k * 12, none⟩ = some (.int .i64 (j : Int)) := hx
      have hcj : wr.drew.cell? ⟨gc, j, none⟩ = some (.int .i64 c) := hcj0
      have hfj : wr.drew.frozen? ⟨gc, j, none⟩ = false := hfj0
      have hgw : g < w.heap.size := by omega
      have hv9 : (wr.setCell ⟨gc, j, none⟩ (.int .i64 (c + 1))).drew.cell? ⟨w1.heap.size, 0, none⟩ = some (.slice (some ⟨gc, 0, none⟩) 16 16) := blk_cell (w := wr.setCell ⟨gc, j, none⟩ (.int .i64 (c + 1))) ((heap_setCell_other wr ⟨gc, j, none⟩ w1.heap.size _ (by show w1.heap.size ≠ gc; omega)).trans hvo) 0 rfl
      have hx9 : (wr.setCell ⟨gc, j, none⟩ (.int .i64 (c + 1))).drew.cell? ⟨g, off + k * 12, none⟩ = some (.int .i64 (j : Int)) := (World.cell?_of_block (w := wr) (heap_setCell_other wr ⟨gc, j, none⟩ g _ (by show g ≠ gc; omega))).trans hx
      have HI2 : Hid (Own 3 (wr.setCell ⟨gc, j, none⟩ (.int .i64 (c + 1))).drew (w.heap.size + 1) (.slice (some ⟨gc, 0, none⟩) 16 16) ((cnts (L.take (k + 1))).map (Value.int .i64)) ∧ (wr.setCell ⟨gc, j, none⟩ (.int .i64 (c + 1))).drew.heap[w1.heap.size]? = some (.cells #[.slice (some ⟨gc, 0, none⟩) 16 16] 44 (0, 0)) ∧ (wr.setCell ⟨gc, j, none⟩ (.int .i64 (c + 1))).drew.heap[w.heap.size]? = some (.cells #[.slice none 0 0] 44 (0, 0)) ∧ Below w.heap.size w (wr.setCell ⟨gc, j, none⟩ (.int .i64 (c + 1))).drew) :=
        ⟨HN, (heap_setCell_other wr ⟨gc, j, none⟩ w1.heap.size _ (by show w1.heap.size ≠ gc; omega)).trans hvo, (heap_setCell_other wr ⟨gc, j, none⟩ w.heap.size _ (by show w.heap.size ≠ gc; omega)).trans hro, (hbel.setCell (p := ⟨gc, j, none⟩) (by show w.heap.size ≤ gc; omega) _).drew⟩
      clear hcs HI ho hvo hro hbel HN hce HC hA hrow
      go_wp2_with fail
      refine wp_region_held_drew (S := fun w' => w'.cell? ⟨w1.heap.size, 0, none⟩ = some (.slice (some ⟨gc, 0, none⟩) 16 16) ∧ w'.cell? ⟨g, off + k * 12, none⟩ = some (.int .i64 (j : Int))) (by kernel_rfl) (⟨hvb, hxj⟩) (fun hHeld => ?_)
      refine tkH 0 (.pointer (some ⟨w1.heap.size, 0, none⟩)) rfl (Or.inl ⟨by kernel_rfl, by intro w hSw; obtain ⟨s0, s1⟩ := hSw; go_simp⟩) hHeld ?_
      simp only [tkS, Act.put]
      refine tkH 1 (.slice (some ⟨gc, 0, none⟩) 16 16) rfl (Or.inl ⟨by kernel_rfl, by intro w hSw; obtain ⟨s0, s1⟩ := hSw; go_simp⟩) hHeld ?_
      simp only [tkS, Act.put]
      refine tkH 2 (.slice (some ⟨g, off, none⟩) L.length cap) rfl (Or.inl ⟨by kernel_rfl, by intro w hSw; obtain ⟨s0, s1⟩ := hSw; go_simp⟩) hHeld ?_
      simp only [tkS, Act.put]
      refine tkH 3 (.int .i64 ((k : Int))) rfl (Or.inl ⟨by kernel_rfl, by intro w hSw; obtain ⟨s0, s1⟩ := hSw; go_simp⟩) hHeld ?_
      simp only [tkS, Act.put]
      refine tkH 4 (.pointer (some ⟨g, off + k * 12, none⟩)) rfl (Or.inl ⟨by kernel_rfl, by intro w hSw; obtain ⟨s0, s1⟩ := hSw; go_simp⟩) hHeld ?_
      simp only [tkS, Act.put]
      refine tkH 5 (.pointer (some ⟨g, off + k * 12, none⟩)) rfl (Or.inl ⟨by kernel_rfl, by intro w hSw; obtain ⟨s0, s1⟩ := hSw; go_simp⟩) hHeld ?_
      simp only [tkS, Act.put]
      refine tkH 6 (.int .i64 ((j : Int))) rfl (Or.inl ⟨by kernel_rfl, by intro w hSw; obtain ⟨s0, s1⟩ := hSw; go_simp⟩) hHeld ?_
      simp only [tkS, Act.put]
      refine tkH 7 (.pointer (some ⟨gc, j, none⟩)) rfl (Or.inl ⟨by kernel_rfl, by intro w hSw; obtain ⟨s0, s1⟩ := hSw; go_simp⟩) hHeld ?_
      simp only [tkS, Act.put]
      refine wpAnyH_ready (rs := [8]) (by kernel_rfl) (by simp) ?_
      refine AllReadyH.cons rfl (fun K hK => ?_) AllReadyH.nil
      have c8 := hcj
      have c8b : wr.cell? ⟨gc, j, none⟩ = some (.int .i64 c) := hcj
      go_simp
      refine hK.out _ _ (⟨hvb, hxj⟩) (fun hHeld => ?_)
      clear hK K
      refine tkH 9 (.int .i64 (c + 1)) rfl (Or.inl ⟨by kernel_rfl, by intro w hSw; obtain ⟨s0, s1⟩ := hSw; go_simp⟩) hHeld ?_
      simp only [tkS, Act.put]
      refine tkH 10 (.pointer (some ⟨gc, j, none⟩)) rfl (Or.inl ⟨by kernel_rfl, by intro w hSw; obtain ⟨s0, s1⟩ := hSw; go_simp⟩) hHeld ?_
      simp only [tkS, Act.put]
      refine wpAnyH_ready (rs := [11]) (by kernel_rfl) (by simp) ?_
      refine AllReadyH.cons rfl (fun K hK => ?_) AllReadyH.nil
      have c11 := hcj
      have c11b : wr.cell? ⟨gc, j, none⟩ = some (.int .i64 c) := hcj
      have f11 := hfj
      have f11b : wr.frozen? ⟨gc, j, none⟩ = false := hfj
      go_simp
      refine hK.out _ _ (⟨hv9, hx9⟩) (fun hHeld => ?_)
      clear hK K
      refine wpAnyH_done (by kernel_rfl) ?_ _
      go_wp2_with fail
      go_roundw
      case rel => exact ⟨k + 1, by omega, by go_num, HI2⟩
      case measure => simp [intOf]; omega
    · obtain rfl : k = L.length := by omega
      rw [List.take_of_length_le (Nat.le_refl _)] at ho
      have c1 := blk_cell hvo 0 rfl
      have c0 := blk_cell hro 0 rfl
      have f0 := blk_free hro 0
      have HO2 : Hid (Own 3 (wr.setCell ⟨w.heap.size, 0, none⟩ (.slice (some ⟨gc, 0, none⟩) 16 16)) w.heap.size (.slice (some ⟨gc, 0, none⟩) 16 16) ((cnts L).map (Value.int .i64))) := (ho.apart (grownBy_set wr w.heap.size 0 (.slice (some ⟨gc, 0, none⟩) 16 16)) (fun kk hk => by cases hk; omega)).mono (by omega)
      have HB2 : Hid (Below w.heap.size w (wr.setCell ⟨w.heap.size, 0, none⟩ (.slice (some ⟨gc, 0, none⟩) 16 16))) := hbel.setCell (p := ⟨w.heap.size, 0, none⟩) (Nat.le_refl _) _
      have q0 : (wr.setCell ⟨w.heap.size, 0, none⟩ (.slice (some ⟨gc, 0, none⟩) 16 16)).cell? ⟨w.heap.size, 0, none⟩ = some (.slice (some ⟨gc, 0, none⟩) 16 16) := World.cell?_setCell_same _ _ _ c0
      clear HI ho hvo hro hbel hrow hA
      go_wp2_with fail
      exact bodyPost_ret (v := .agg #[.slice (some ⟨gc, 0, none⟩) 16 16]) (by simp [results, Try.results26, go_sem, q0]) rfl ⟨_, rfl, HO2.out, HB2.out⟩
end Go.Proofs.Ytcifbgoonaolbab
