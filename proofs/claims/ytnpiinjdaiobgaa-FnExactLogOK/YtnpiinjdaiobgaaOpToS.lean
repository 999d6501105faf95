/- The laws' own functions over operations: the copy of a list of them. -/
import Derived.Test.YtnpiinjdaiobgaaOpTo
import Derived.Test.YtnpiinjdaiobgaaLedCauses
namespace Go.Proofs.Ytnpiinjdaiobgaa
open Go.RowKit
set_option linter.unusedVariables false

/-- Operations that say the same, one by one. -/
def SameL (M L : List Ov) : Prop := M.length = L.length ∧ ∀ k, k < L.length → (ovAt M k).same (ovAt L k)
/-- Cells written one behind the other. -/
def setAll : List Value → Nat → List Value → List Value
  | xs, _, [] => xs
  | xs, o, u :: us => setAll (xs.set o u) (o + 1) us
theorem setAll_len : ∀ (us : List Value) (xs : List Value) (o : Nat), (setAll xs o us).length = xs.length
  | [], _, _ => rfl
  | u :: us, xs, o => by rw [setAll, setAll_len us]; simp
theorem setAll_out : ∀ (us : List Value) (xs : List Value) (o j : Nat), (j < o ∨ o + us.length ≤ j) → (setAll xs o us)[j]? = xs[j]?
  | [], _, _, _, _ => rfl
  | u :: us, xs, o, j, h => by
    rw [setAll, setAll_out us _ _ _ (by simp at h; omega), List.getElem?_set_ne (by simp at h; omega)]
theorem setAll_in : ∀ (us : List Value) (xs : List Value) (o i : Nat), i < us.length → o + us.length ≤ xs.length → (setAll xs o us)[o + i]? = us[i]?
  | [], _, _, _, h, _ => absurd h (by simp)
  | u :: us, xs, o, i, h, hl => by
    rw [setAll]
    cases i with
    | zero =>
      rw [setAll_out us _ _ _ (.inl (by omega))]
      show (xs.set o u)[o]? = _
      rw [List.getElem?_set_self (by simp at hl; omega)]
      rfl
    | succ i =>
      rw [show o + (i + 1) = o + 1 + i by omega, setAll_in us _ _ i (by simpa using h) (by simp at hl ⊢; omega)]
      rfl
theorem owns_cells {B g : Nat} {e : TypeId} {s n c : Nat} : ∀ (us : List Value) (xs : List Value) (o : Nat) (w : World), w.ownsRow B e s (.slice (some ⟨g, 0, none⟩) n c) n xs → (w.setCells g o us).ownsRow B e s (.slice (some ⟨g, 0, none⟩) n c) n (setAll xs o us)
  | [], _, _, _, h => h
  | u :: us, xs, o, w, h => owns_cells us _ _ _ (World.ownsRow.stored h o u).1

/-- A row of n operations that the call owns in block g, the first of which are M; what these count lies in blocks of the call's own behind it. -/
structure RowO (w : World) (B g n : Nat) (M : List Ov) : Prop where
  row : ∃ xs, w.ownsRow B 41 12 (.slice (some ⟨g, 0, none⟩) n n) n xs ∧ ∀ j, j < M.length * 12 → xs[j]? = (rowCs M)[j]?
  deps : ∀ x ∈ M, Own 3 w (g + 1) x.dv (x.ds.map (Value.int .i64))
theorem RowO.on {w w' : World} {B g n : Nat} {M : List Ov} (h : RowO w B g n M) (hb : Below w.heap.size w w') : RowO w' B g n M := by
  obtain ⟨⟨xs, ho, hx⟩, hd⟩ := h
  exact ⟨⟨xs, owns_on ho hb (Nat.le_refl _), hx⟩, fun x hx => (hd x hx).below hb (Nat.le_refl _)⟩
theorem RowO.lt {w : World} {B g n : Nat} {M : List Ov} (h : RowO w B g n M) : B ≤ g ∧ g < w.heap.size := by
  obtain ⟨⟨xs, ho, _⟩, _⟩ := h
  exact World.ownsRow.lt ho g rfl
theorem RowO.there {w : World} {B g n : Nat} {M : List Ov} (h : RowO w B g n M) {k : Nat} (hk : k < n) : w.there g (k * 12) 12 := by
  obtain ⟨⟨xs, ho, _⟩, _⟩ := h
  have hl := ho.1
  intro j hj
  rw [World.ownsRow.cellAt ho _ (by omega), List.getElem?_eq_getElem (by omega)]
  exact ⟨rfl, World.ownsRow.frozenAt ho _⟩
theorem RowO.put {w : World} {B g n : Nat} {M : List Ov} (h : RowO w B g n M) (hn : M.length < n) (x : Ov) (hd : Own 3 w (g + 1) x.dv (x.ds.map (Value.int .i64))) : RowO (w.setCells g (M.length * 12) x.cs) B g n (M ++ [x]) := by
  have hlt := h.lt
  obtain ⟨⟨xs, ho, hx⟩, hm⟩ := h
  have hl := ho.1
  have l12 : x.cs.length = 12 := rfl
  refine ⟨⟨_, owns_cells x.cs xs _ w ho, fun j hj => ?_⟩, fun y hy => ?_⟩
  · rw [rowCs_app]
    have hr := rowCs_len M
    rw [List.length_append, List.length_singleton] at hj
    by_cases e : j < M.length * 12
    · rw [setAll_out _ _ _ _ (.inl e), List.getElem?_append_left (by omega)]
      exact hx j e
    · obtain ⟨i, rfl⟩ : ∃ i, j = M.length * 12 + i := ⟨j - M.length * 12, by omega⟩
      rw [setAll_in _ _ _ _ (by omega) (by omega), List.getElem?_append_right (by omega), hr, Nat.add_sub_cancel_left]
      simp [rowCs]
  · have k : ∀ y : Ov, Own 3 w (g + 1) y.dv (y.ds.map (Value.int .i64)) → Own 3 (w.setCells g (M.length * 12) x.cs) (g + 1) y.dv (y.ds.map (Value.int .i64)) := fun y h => h.apart (grownBy_setCells w g x.cs _) (fun kk hk => by cases hk; omega)
    rcases List.mem_append.1 hy with hy | hy
    · exact k y (hm y hy)
    · simp at hy; subst hy; exact k y hd
theorem RowO.rd {w : World} {B g : Nat} {M : List Ov} (h : RowO w B g M.length M) (hm : M.length ≤ maxLen) : RdO w.heap.size w (.slice (some ⟨g, 0, none⟩) M.length M.length) M := by
  have hlt := h.lt
  obtain ⟨⟨xs, ho, hx⟩, hd⟩ := h
  have hl := ho.1
  refine ⟨⟨_, _, rfl, Nat.le_refl _, hm, (fun e => by cases e), fun _ => ⟨g, 0, rfl, hlt.2, fun k hk => ?_⟩⟩, fun x hx => (hd x hx).rd⟩
  have cell : ∀ i, i < 12 → w.cell? ⟨g, k * 12 + i, none⟩ = (ovAt M k).cs[i]? := fun i hi => by
    rw [← rowCs_at M k i hk hi, ← hx _ (by omega), World.ownsRow.cellAt ho _ (by omega)]
  rw [Nat.zero_add]
  exact ⟨cell 0 (by omega), cell 1 (by omega), cell 2 (by omega), cell 3 (by omega), cell 4 (by omega), cell 5 (by omega), cell 6 (by omega), cell 7 (by omega), cell 8 (by omega), cell 9 (by omega), cell 10 (by omega), cell 11 (by omega)⟩

theorem set12 (w : World) (g o : Nat) (v0 v1 v2 v3 v4 v5 v6 v7 v8 v9 v10 v11 : Value) : w.setCells g o [v0, v1, v2, v3, v4, v5, v6, v7, v8, v9, v10, v11] = ((((((((((((w.setCell ⟨g, o, none⟩ v0).setCell ⟨g, o + 1, none⟩ v1).setCell ⟨g, o + 2, none⟩ v2).setCell ⟨g, o + 3, none⟩ v3).setCell ⟨g, o + 4, none⟩ v4).setCell ⟨g, o + 5, none⟩ v5).setCell ⟨g, o + 6, none⟩ v6).setCell ⟨g, o + 7, none⟩ v7).setCell ⟨g, o + 8, none⟩ v8).setCell ⟨g, o + 9, none⟩ v9).setCell ⟨g, o + 10, none⟩ v10).setCell ⟨g, o + 11, none⟩ v11) := rfl
theorem same_snoc {M L : List Ov} {x : Ov} {k : Nat} (hk : M.length = k) (hl : k < L.length) (h : ∀ j, j < k → (ovAt M j).same (ovAt L j)) (hx : x.same (ovAt L k)) : ∀ j, j < k + 1 → (ovAt (M ++ [x]) j).same (ovAt L j) := by
  intro j hj
  by_cases e : j = k
  · subst e
    have : ovAt (M ++ [x]) j = x := by
      unfold ovAt
      rw [List.getD_eq_getElem?_getD, List.getElem?_append_right (by omega), hk, Nat.sub_self]
      rfl
    rw [this]
    exact hx
  · have : ovAt (M ++ [x]) j = ovAt M j := by
      unfold ovAt
      rw [List.getD_eq_getElem?_getD, List.getElem?_append_left (by omega), ← List.getD_eq_getElem?_getD]
    rw [this]
    exact h j (by omega)

set_option maxHeartbeats 2000000 in
set_option maxRecDepth 100000 in
theorem toOpS_any (C : Nat) (w : World) (v : Value) (L : List Ov) (hl : L.length ≤ 1048576) (hd : ∀ x ∈ L, x.ds.length ≤ 1048576) (hC : C ≤ w.heap.size) (hr : RdO C w v L) :
    Calls Try.prog 6 #[v] w fun e w' => e = .returned (.slice (some ⟨w.heap.size, 0, none⟩) L.length L.length) ∧ (∃ M, SameL M L ∧ RowO w' w.heap.size w.heap.size L.length M) ∧ Below w.heap.size w w' := by
  obtain ⟨i0, hi, hz0, hz1, hz2⟩ := info_parts infoOp
  obtain ⟨⟨ao, cap, rfl, hcap, hmax, hnil, hrow⟩, hdv⟩ := hr
  go_enter Try.func6, Try.ntmps6
  go_wp2_with (at_make; refine wpList_make_full _ rfl _ _ 25 rfl w.heap.size 41 i0 (.agg #[.int .i64 0, .int .i64 0, .int .i64 0, .slice none 0 0, .int .i64 0, .int .i64 0, .int .i64 0, .int .i64 0, .int .i64 0, .int .i64 0, .string ByteArray.empty, .string ByteArray.empty]) 12 Try.underlying25 hi hz0 hz1 _ _ _ _ L.length rfl rfl rfl rfl (by rw [hz2]; omega) (by unfold maxLen; omega) (Nat.le_refl _) ?_)
  intro w1 hown hgrow
  have hb1 : Below w.heap.size w w1 := (Below.refl _ _).grown hgrow (Nat.le_refl _) (fun k hk => by cases hk)
  have H1 : Hid (RowO w1 w.heap.size w.heap.size L.length []) := ⟨⟨_, hown, fun j hj => absurd hj (by simp)⟩, fun x hx => absurd hx (by simp)⟩
  clear hown hgrow
  go_wp2_with fail
  go_loopw [4] (fun i wr => ∃ (k : Nat) (M : List Ov), k ≤ L.length ∧ i = .int .i64 k ∧ M.length = k ∧ Hid (∀ j, j < k → (ovAt M j).same (ovAt L j)) ∧ Hid (RowO wr w.heap.size w.heap.size L.length M) ∧ Below w.heap.size w wr) (fun i _ => L.length - (intOf i).toNat)
  case atStart => exact ⟨0, [], Nat.zero_le _, rfl, rfl, fun j hj => absurd hj (Nat.not_lt_zero _), H1, hb1⟩
  case round =>
    clear H1 hb1
    obtain ⟨k, M, hk, rfl, hMk, HS, HR, hbel⟩ := hrel
    by_cases hlt : k < L.length
    · obtain ⟨g, off, rfl, hg, hcs⟩ := hrow (by omega)
      have hx := (hcs k hlt).below (hbel.mono hC) hg
      have hxd := (hdv _ (ovAt_mem hlt)).below (hbel.mono hC)
      have hdl := hd _ (ovAt_mem hlt)
      have HSN : Hid (∀ y : Ov, y.same (ovAt L k) → ∀ j, j < k + 1 → (ovAt (M ++ [y]) j).same (ovAt L j)) := fun y hy => same_snoc hMk hlt HS.out hy
      have hsz := hbel.size
      have j0 : (0 : Int) ≤ (k : Int) := by omega
      have j1 : (k : Int) < (L.length : Int) := by omega
      have j2 : (k : Int) + 1 < 9223372036854775808 := by omega
      generalize ovAt L k = x at *
      obtain ⟨xa, xs, xt, xdv, xk, xo, xn, xu, xpt, xpa, xky, xtx, xds⟩ := x
      obtain ⟨c0, c1, c2, c3, c4, c5, c6, c7, c8, c9, c10, c11⟩ := hx
      simp only at c0 c1 c2 c3 c4 c5 c6 c7 c8 c9 c10 c11 hxd hdl
      have hto := toOp_any C xa xs xt xk xo xn xu xpt xpa xdv xky xtx xds wr hdl (by omega) hxd
      clear hcs hdv hrow hd hxd
      go_wp2_with ((go_at_call 14; refine hto.mono ?_; rintro e w9 ⟨ya, yc, rfl, hO9, hb9⟩; have HR9 : Hid (RowO w9 w.heap.size w.heap.size L.length M) := RowO.on HR.out hb9; have HB9 : Hid (Below w.heap.size w w9) := below_seq hbel hb9; have hth := HR9.out.there hlt; have HN : Hid (RowO (w9.setCells w.heap.size (M.length * 12) (Ov.cs ⟨xa, xs, xt, .slice ya xds.length yc, xk, xo, xn, xu, xpt, xpa, xky, xtx, xds⟩)) w.heap.size w.heap.size L.length (M ++ [⟨xa, xs, xt, .slice ya xds.length yc, xk, xo, xn, xu, xpt, xpa, xky, xtx, xds⟩])) := HR9.out.put (by omega) ⟨xa, xs, xt, .slice ya xds.length yc, xk, xo, xn, xu, xpt, xpa, xky, xtx, xds⟩ (hO9.mono (by have := HR.out.lt; omega)); rw [hMk, show Ov.cs ⟨xa, xs, xt, .slice ya xds.length yc, xk, xo, xn, xu, xpt, xpa, xky, xtx, xds⟩ = [.int .i64 xa, .int .i64 xs, .int .i64 xt, .slice ya xds.length yc, .int .i64 xk, .int .i64 xo, .int .i64 xn, .int .i64 xu, .int .i64 xpt, .int .i64 xpa, .string xky, .string xtx] from rfl, set12] at HN; have HB8 : Hid (Below w.heap.size w (w9.setCells w.heap.size (k * 12) [.int .i64 xa, .int .i64 xs, .int .i64 xt, .slice ya xds.length yc, .int .i64 xk, .int .i64 xo, .int .i64 xn, .int .i64 xu, .int .i64 xpt, .int .i64 xpa, .string xky, .string xtx])) := below_setCellsO (Nat.le_refl _) _ _ _ HB9.out; rw [set12] at HB8; obtain ⟨⟨u0, e0⟩, f0⟩ : (∃ u, w9.cell? ⟨w.heap.size, k * 12, none⟩ = some u) ∧ w9.frozen? ⟨w.heap.size, k * 12, none⟩ = false := ⟨Option.isSome_iff_exists.1 (hth 0 (by omega)).1, (hth 0 (by omega)).2⟩; obtain ⟨⟨u1, e1⟩, f1⟩ : (∃ u, w9.cell? ⟨w.heap.size, k * 12 + 1, none⟩ = some u) ∧ w9.frozen? ⟨w.heap.size, k * 12 + 1, none⟩ = false := ⟨Option.isSome_iff_exists.1 (hth 1 (by omega)).1, (hth 1 (by omega)).2⟩; obtain ⟨⟨u2, e2⟩, f2⟩ : (∃ u, w9.cell? ⟨w.heap.size, k * 12 + 2, none⟩ = some u) ∧ w9.frozen? ⟨w.heap.size, k * 12 + 2, none⟩ = false := ⟨Option.isSome_iff_exists.1 (hth 2 (by omega)).1, (hth 2 (by omega)).2⟩; obtain ⟨⟨u3, e3⟩, f3⟩ : (∃ u, w9.cell? ⟨w.heap.size, k * 12 + 3, none⟩ = some u) ∧ w9.frozen? ⟨w.heap.size, k * 12 + 3, none⟩ = false := ⟨Option.isSome_iff_exists.1 (hth 3 (by omega)).1, (hth 3 (by omega)).2⟩; obtain ⟨⟨u4, e4⟩, f4⟩ : (∃ u, w9.cell? ⟨w.heap.size, k * 12 + 4, none⟩ = some u) ∧ w9.frozen? ⟨w.heap.size, k * 12 + 4, none⟩ = false := ⟨Option.isSome_iff_exists.1 (hth 4 (by omega)).1, (hth 4 (by omega)).2⟩; obtain ⟨⟨u5, e5⟩, f5⟩ : (∃ u, w9.cell? ⟨w.heap.size, k * 12 + 5, none⟩ = some u) ∧ w9.frozen? ⟨w.heap.size, k * 12 + 5, none⟩ = false := ⟨Option.isSome_iff_exists.1 (hth 5 (by omega)).1, (hth 5 (by omega)).2⟩; obtain ⟨⟨u6, e6⟩, f6⟩ : (∃ u, w9.cell? ⟨w.heap.size, k * 12 + 6, none⟩ = some u) ∧ w9.frozen? ⟨w.heap.size, k * 12 + 6, none⟩ = false := ⟨Option.isSome_iff_exists.1 (hth 6 (by omega)).1, (hth 6 (by omega)).2⟩; obtain ⟨⟨u7, e7⟩, f7⟩ : (∃ u, w9.cell? ⟨w.heap.size, k * 12 + 7, none⟩ = some u) ∧ w9.frozen? ⟨w.heap.size, k * 12 + 7, none⟩ = false := ⟨Option.isSome_iff_exists.1 (hth 7 (by omega)).1, (hth 7 (by omega)).2⟩; obtain ⟨⟨u8, e8⟩, f8⟩ : (∃ u, w9.cell? ⟨w.heap.size, k * 12 + 8, none⟩ = some u) ∧ w9.frozen? ⟨w.heap.size, k * 12 + 8, none⟩ = false := ⟨Option.isSome_iff_exists.1 (hth 8 (by omega)).1, (hth 8 (by omega)).2⟩; obtain ⟨⟨u9, e9⟩, f9⟩ : (∃ u, w9.cell? ⟨w.heap.size, k * 12 + 9, none⟩ = some u) ∧ w9.frozen? ⟨w.heap.size, k * 12 + 9, none⟩ = false := ⟨Option.isSome_iff_exists.1 (hth 9 (by omega)).1, (hth 9 (by omega)).2⟩; obtain ⟨⟨u10, e10⟩, f10⟩ : (∃ u, w9.cell? ⟨w.heap.size, k * 12 + 10, none⟩ = some u) ∧ w9.frozen? ⟨w.heap.size, k * 12 + 10, none⟩ = false := ⟨Option.isSome_iff_exists.1 (hth 10 (by omega)).1, (hth 10 (by omega)).2⟩; obtain ⟨⟨u11, e11⟩, f11⟩ : (∃ u, w9.cell? ⟨w.heap.size, k * 12 + 11, none⟩ = some u) ∧ w9.frozen? ⟨w.heap.size, k * 12 + 11, none⟩ = false := ⟨Option.isSome_iff_exists.1 (hth 11 (by omega)).1, (hth 11 (by omega)).2⟩; clear hth hto c0 c1 c2 c3 c4 c5 c6 c7 c8 c9 c10 c11 hO9 hb9 HR HR9 hbel))
      exact ⟨⟨k + 1, M ++ [⟨xa, xs, xt, .slice ya xds.length yc, xk, xo, xn, xu, xpt, xpa, xky, xtx, xds⟩], by omega, by go_num, by simp [hMk], HSN.out _ ⟨rfl, rfl, rfl, rfl, rfl, rfl, rfl, rfl, rfl, rfl, rfl, rfl⟩, HN, HB8.out⟩, by simp [intOf]; omega⟩
    · obtain rfl : k = L.length := by omega
      go_wp2_with fail
      go_ret
      exact ⟨rfl, ⟨M, ⟨hMk, HS.out⟩, HR.out⟩, hbel⟩
end Go.Proofs.Ytnpiinjdaiobgaa
