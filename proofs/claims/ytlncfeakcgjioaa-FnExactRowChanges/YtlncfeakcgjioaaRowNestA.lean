/- The laws' own functions over lists of rows: their size, their copy, that two alike are alike. No condition: they are lemmas. -/
import Derived.Test.YtlncfeakcgjioaaRowNest
namespace Go.Proofs.Ytlncfeakcgjioaa
open Go.RowKit
set_option linter.unusedVariables false

/-- How many texts these rows hold. -/
def lnRw : List Rw → Nat
  | [] => 0
  | x :: r => x.2.length + lnRw r
theorem lnRw_app : ∀ a b : List Rw, lnRw (a ++ b) = lnRw a + lnRw b
  | [], b => by simp [lnRw]
  | x :: r, b => by rw [List.cons_append, lnRw, lnRw_app r b, lnRw]; omega

set_option maxHeartbeats 2000000 in
set_option maxRecDepth 100000 in
theorem szRowS_any (C : Nat) (w : World) (v : Value) (P : List Rw) (l : Int) (h0 : 0 ≤ l) (h1 : l ≤ 1048576) (hn : P.length ≤ maxLen) (hk : ∀ x ∈ P, x.1.size ≤ maxLen ∧ x.2.length ≤ maxLen ∧ ∀ t ∈ x.2, t.size ≤ maxLen) (hC : C ≤ w.heap.size) (hr : RdRw C w v P) :
    Calls Try.prog 5 #[v, .int .i64 l] w fun e w' => (∃ x : Int, e = .returned (.int .i64 x) ∧ -1 ≤ x ∧ x ≤ l ∧ (0 ≤ x → x + (P.length : Int) + (lnRw P : Int) ≤ l)) ∧ Below w.heap.size w w' := by
  obtain ⟨ao, cap, rfl, _, _, _, hr⟩ := hr
  have hnm : (P.length : Int) ≤ 9223372036854775807 := by unfold maxLen at hn; omega
  by_cases h : l - (P.length : Int) < 0
  · go_enter Try.func5, Try.ntmps5
    go_wp2_with fail
    go_ret
    exact ⟨⟨_, rfl, by omega, by omega, by omega⟩, Below.refl _ _⟩
  · go_enter Try.func5, Try.ntmps5
    go_wp2_with fail
    go_loopw [1, 5] (fun tl ti wr => ∃ (k : Nat) (x : Int), k ≤ P.length ∧ ti = .int .i64 (k : Int) ∧ tl = .int .i64 x ∧ 0 ≤ x ∧ x + (P.length : Int) + (lnRw (P.take k) : Int) ≤ l ∧ Below w.heap.size w wr) (fun _ ti _ => P.length - (intOf ti).toNat)
    case atStart => exact ⟨0, _, Nat.zero_le _, rfl, rfl, by omega, by first | (simp [lnRw]; done) | (simp [lnRw]; omega), Below.refl _ _⟩
    case round =>
      obtain ⟨k, z, hk', rfl, rfl, q0, q1, hB⟩ := hrel
      by_cases hlt : k < P.length
      · obtain ⟨g, off, rfl, hg, hc⟩ := hr (by omega)
        obtain ⟨x, hx⟩ : ∃ x, P[k]? = some x := ⟨P[k], by simp [hlt]⟩
        have hxk := hk x (List.mem_of_getElem? hx)
        have HTK : Hid (lnRw (P.take (k + 1)) = lnRw (P.take k) + (x.2.length)) := by
          unfold Hid
          rw [List.take_add_one, hx, lnRw_app]
          simp [lnRw]
        obtain ⟨d0, u, d1, r1⟩ := (hc k x hx).below (hB.mono hC) hg
        have j0 : (0 : Int) ≤ (k : Int) := by omega
        have j1 : (k : Int) < (P.length : Int) := by omega
        have j2 : (k : Int) + 1 < 9223372036854775808 := by omega
        clear hx
        obtain ⟨xk, a⟩ := x
        simp only at d0 d1 r1 hxk HTK
        have hZ := fun (w9 : World) (h : Below wr.heap.size wr w9) => szRow_any C w9 xk a u z q0 (by omega) hxk.1 hxk.2.1 hxk.2.2 (by have := h.size; have := hB.size; omega) (r1.below (h.mono (Nat.le_trans hC hB.size)))
        clear hc hr hxk
        go_wp2_with fail
        refine (hZ _ (by first | exact Below.refl _ _ | exact (Below.refl _ _).drew)).mono ?_
        rintro e w2 ⟨⟨y9, rfl, y0, y1, y2⟩, hb2⟩
        replace hB := below_seq hB hb2
        by_cases hy : y9 < 0
        · go_wp2_with fail
          go_ret
          exact ⟨⟨_, rfl, by omega, by omega, by omega⟩, hB⟩
        · have hy0 : decide (y9 < 0) = false := by simp; omega
          have hy1 : 0 ≤ y9 := by omega
          have y3 := y2 hy1
          clear y2 hy
          go_wp2_with fail
          go_roundw
          case rel => exact ⟨k + 1, y9, by omega, by go_num, rfl, by omega, by rw [HTK.out]; omega, hB⟩
          case measure => simp [intOf]; omega
      · obtain rfl : k = P.length := by omega
        rw [List.take_length] at q1
        go_wp2_with fail
        go_ret
        exact ⟨⟨_, rfl, by omega, by omega, fun _ => by omega⟩, hB⟩

set_option maxHeartbeats 2000000 in
set_option maxRecDepth 100000 in
theorem eqRowS_same (C C' : Nat) (w : World) (va vb : Value) (P : List Rw) (hl : P.length ≤ 140737488355328) (hd : ∀ x ∈ P, x.2.length ≤ 140737488355328) (hC : C ≤ w.heap.size) (hC' : C' ≤ w.heap.size) (ha : RdRw C w va P) (hb : RdRw C' w vb P) :
    Calls Try.prog 12 #[va, vb] w fun e w' => e = .returned (.bool true) ∧ Below w.heap.size w w' := by
  obtain ⟨ao, ca, rfl, _, _, _, ha⟩ := ha
  obtain ⟨bo, cb, rfl, _, _, _, hb⟩ := hb
  go_enter Try.func12, Try.ntmps12
  go_wp2_with fail
  go_loopw [5] (fun ti wr => ∃ k : Nat, k ≤ P.length ∧ ti = .int .i64 (k : Int) ∧ Below w.heap.size w wr) (fun ti _ => P.length - (intOf ti).toNat)
  case atStart => exact ⟨0, Nat.zero_le _, rfl, Below.refl _ _⟩
  case round =>
    obtain ⟨k, hk, rfl, hB⟩ := hrel
    by_cases hlt : k < P.length
    · obtain ⟨g, off, rfl, hg, hc⟩ := ha (by omega)
      obtain ⟨g', off', rfl, hg', hc'⟩ := hb (by omega)
      obtain ⟨x, hx⟩ : ∃ x, P[k]? = some x := ⟨P[k], by simp [hlt]⟩
      have hxl := hd x (List.mem_of_getElem? hx)
      obtain ⟨d0, u, d1, r1⟩ := (hc k x hx).below (hB.mono hC) hg
      obtain ⟨b0, u', b1, q1⟩ := (hc' k x hx).below (hB.mono hC') hg'
      have j0 : (0 : Int) ≤ (k : Int) := by omega
      have j1 : (k : Int) < (P.length : Int) := by omega
      have j2 : (k : Int) + 1 < 9223372036854775808 := by omega
      have hsz := hB.size
      clear hx hc hc' ha hb hd
      obtain ⟨xk, a⟩ := x
      simp only at d0 d1 b0 b1 r1 q1 hxl
      have hE := fun (w9 : World) (h : Below wr.heap.size wr w9) => eqRow_same C C' w9 xk a u u' hxl (by have := h.size; omega) (by have := h.size; omega) (r1.below (h.mono (by omega))) (q1.below (h.mono (by omega)))
      clear r1 q1
      go_wp2_with fail
      go_region_held2 (fun w' => w'.cell? ⟨g, off + k * 2, none⟩ = some (.string xk) ∧ w'.cell? ⟨g, off + k * 2 + 1, none⟩ = some u ∧ w'.cell? ⟨g', off' + k * 2, none⟩ = some (.string xk) ∧ w'.cell? ⟨g', off' + k * 2 + 1, none⟩ = some u') (exact ⟨d0, d1, b0, b1⟩) ((go_at_call 29; refine (hE _ (Below.refl _ _).drew).mono ?_; rintro e w' ⟨rfl, hb⟩; replace d0 := cell_on hb d0; replace d1 := cell_on hb d1; replace b0 := cell_on hb b0; replace b1 := cell_on hb b1; replace hB := below_seq hB.drew hb; clear hb))
      go_wp2_with fail
      go_roundw
      case rel => exact ⟨k + 1, by omega, by go_num, hB⟩
      case measure => simp [intOf]; omega
    · obtain rfl : k = P.length := by omega
      go_wp2_with fail
      go_ret
      exact ⟨rfl, hB⟩

/-- A row of n rows that the call owns in block g, the first of which are filled. -/
def PtRw (w : World) (B g n : Nat) (A : List RwF) : Prop := ∃ Z : List Value, Z.length = (n - A.length) * 2 ∧ A.length ≤ n ∧ Nest 49 2 w B w.heap.size (.slice (some ⟨g, 0, none⟩) n n) n (rwFcs A ++ Z) (rwFsb A)
theorem PtRw.below {w w' : World} {B g n : Nat} {A : List RwF} (h : PtRw w B g n A) (hb : Below w.heap.size w w') : PtRw w' B g n A := by
  obtain ⟨Z, hZ, hA, h⟩ := h
  exact ⟨Z, hZ, hA, (h.below hb).now⟩
theorem PtRw.cells {w : World} {B g n : Nat} {A : List RwF} (h : PtRw w B g n A) {k : Nat} (hk : A.length = k) (hlt : k < n) : ∃ y0 y1, w.cell? ⟨g, k * 2, none⟩ = some y0 ∧ w.cell? ⟨g, k * 2 + 1, none⟩ = some y1 ∧ w.frozen? ⟨g, k * 2, none⟩ = false ∧ w.frozen? ⟨g, k * 2 + 1, none⟩ = false := by
  obtain ⟨Z, hZ, hA, h⟩ := h
  have hl := h.row.1
  have c : ∀ j, j < 2 → ∃ y, w.cell? ⟨g, k * 2 + j, none⟩ = some y := fun j hj => by
    have h0 : k * 2 + j < (rwFcs A ++ Z).length := by rw [hl]; have : (k + 1) * 2 ≤ n * 2 := Nat.mul_le_mul_right _ hlt; omega
    exact ⟨_, h.cell (List.getElem?_eq_getElem h0)⟩
  obtain ⟨y0, c0⟩ := c 0 (by omega); obtain ⟨y1, c1⟩ := c 1 (by omega)
  exact ⟨y0, y1, c0, c1, h.free _, h.free _⟩
/-- One row more is written into it. -/
theorem PtRw.put {w0 w : World} {B g n : Nat} {A : List RwF} (h : PtRw w0 B g n A) (hb : Below w0.heap.size w0 w) {k : Nat} (hk : A.length = k) (hlt : k < n) (f : RwF) (hn : ∀ p ∈ f.sb, Own 9 w w0.heap.size p.1 (p.2.map Value.string)) (hd : (f.sb.map Prod.fst).Pairwise Apt) : PtRw ((w.setCell ⟨g, k * 2, none⟩ (.string f.x.1)).setCell ⟨g, k * 2 + 1, none⟩ f.u) B g n (A ++ [f]) := by
  obtain ⟨Z, hZ, hA, h⟩ := h
  have h1 := h.grow (Nat.le_refl _) hb hn hd (by have := (owns_lt h.row g rfl); omega) (owns_same h.row fun k _ hl => hb.block k hl) (World.grownBy.refl _ _) rfl
  have h2 := ((h1.put (k * 2) (.string f.x.1))).put (k * 2 + 1) f.u
  have hl := rwFcs_len A
  refine ⟨Z.drop 2, ?_, ?_, ?_⟩
  · rw [List.length_drop, hZ, List.length_append, List.length_singleton]; omega
  · rw [List.length_append, List.length_singleton]; omega
  · have e : ((rwFcs A ++ Z).set (k * 2) (.string f.x.1)).set (k * 2 + 1) f.u = rwFcs (A ++ [f]) ++ Z.drop 2 := by
      have hz : 2 ≤ Z.length := by rw [hZ]; have : 1 * 2 ≤ (n - A.length) * 2 := Nat.mul_le_mul_right _ (by omega); omega
      obtain ⟨p0, p1, Y, rfl⟩ : ∃ p0 p1 Y, Z = p0 :: p1 :: Y := by
        match Z, hz with
        | p0 :: p1 :: Y, _ => exact ⟨p0, p1, Y, rfl⟩
      rw [rwFcs_app]
      rw [show k * 2 = k * 2 + 0 from rfl]
      rw [set_app _ _ _ _ _ (by omega)]; rw [set_app _ _ _ _ _ (by omega)]
      simp [rwFcs, RwF.cs]
    have e2 : rwFsb (A ++ [f]) = rwFsb A ++ f.sb := by rw [rwFsb_app]; simp [rwFsb]
    rw [← e, e2]
    exact h2.now
theorem PtRw.done {w : World} {B g n : Nat} {A : List RwF} (h : PtRw w B g n A) (hA : A.length = n) : OwRw w B w.heap.size (.slice (some ⟨g, 0, none⟩) n n) (rwFx A) := by
  obtain ⟨Z, hZ, _, h⟩ := h
  have : Z = [] := List.eq_nil_of_length_eq_zero (by rw [hZ, hA, Nat.sub_self, Nat.zero_mul])
  subst this
  rw [List.append_nil] at h
  subst hA
  exact ⟨A, rfl, h⟩

set_option maxHeartbeats 2000000 in
set_option maxRecDepth 100000 in
theorem toRowS_any (C : Nat) (w : World) (v : Value) (P : List Rw) (hl : P.length ≤ 1048576) (hd : ∀ x ∈ P, x.2.length ≤ 1048576) (hC : C ≤ w.heap.size) (hr : RdRw C w v P) :
    Calls Try.prog 8 #[v] w fun e w' => e = .returned (.slice (some ⟨w.heap.size, 0, none⟩) P.length P.length) ∧ OwRw w' w.heap.size w'.heap.size (.slice (some ⟨w.heap.size, 0, none⟩) P.length P.length) P ∧ Below w.heap.size w w' := by
  obtain ⟨i0, hi, hz0, hz1, hz2⟩ := info_parts infoRow
  obtain ⟨ao, cap, rfl, _, _, _, hr⟩ := hr
  go_enter Try.func8, Try.ntmps8
  go_wp2_with (at_make; refine wpList_make_full _ rfl _ _ 31 rfl w.heap.size 49 i0 (.agg #[.string ByteArray.empty, .slice none 0 0]) 2 Try.underlying31 hi hz0 hz1 _ _ _ _ P.length rfl rfl rfl rfl (by rw [hz2]; omega) (by unfold maxLen; omega) (Nat.le_refl _) ?_)
  intro w1 hown hgrow
  have hb1 : Below w.heap.size w w1 := (Below.refl _ _).grown hgrow (Nat.le_refl _) (fun k hk => by cases hk)
  have H1 : Hid (PtRw w1 w.heap.size w.heap.size P.length []) := ⟨_, by rw [List.length_nil, Nat.sub_zero]; exact hown.1, Nat.zero_le _, ⟨by decide, hown, fun k hk => (owns_lt hown k hk).2, (fun p hp => absurd hp (by simp [rwFsb])), (fun p hp => absurd hp (by simp [rwFsb])), List.Pairwise.nil⟩⟩
  clear hown hgrow
  go_wp2_with fail
  go_loopw [4] (fun i wr => ∃ (k : Nat) (A : List RwF), k ≤ P.length ∧ i = .int .i64 k ∧ A.length = k ∧ Hid (rwFx A = P.take k) ∧ Hid (PtRw wr w.heap.size w.heap.size P.length A) ∧ Below w.heap.size w wr) (fun i _ => P.length - (intOf i).toNat)
  case atStart => exact ⟨0, [], Nat.zero_le _, rfl, rfl, rfl, H1, hb1⟩
  case round =>
    clear H1 hb1
    obtain ⟨k, A, hk, rfl, hA, HX, HP, hbel⟩ := hrel
    by_cases hlt : k < P.length
    · obtain ⟨g, off, rfl, hg, hc⟩ := hr (by omega)
      obtain ⟨x, hx⟩ : ∃ x, P[k]? = some x := ⟨P[k], by simp [hlt]⟩
      have hxl := hd x (List.mem_of_getElem? hx)
      have HX2 : Hid (∀ u, rwFx (A ++ [⟨x, u⟩]) = P.take (k + 1)) := fun u => by
        rw [rwFx_app, HX.out, List.take_add_one, hx]
        rfl
      obtain ⟨d0, u, d1, r1⟩ := (hc k x hx).below (hbel.mono hC) hg
      have j0 : (0 : Int) ≤ (k : Int) := by omega
      have j1 : (k : Int) < (P.length : Int) := by omega
      have j2 : (k : Int) + 1 < 9223372036854775808 := by omega
      have hsz := hbel.size
      clear hx hc hr hd HX
      obtain ⟨xk, a⟩ := x
      simp only at d0 d1 r1 hxl
      have hT := toRow_any C wr xk a u hxl (by omega) r1
      clear r1
      go_wp2_with fail
      refine hT.mono ?_
      rintro e w' ⟨u', rfl, ho1, hap, hb⟩
      obtain ⟨p0a, p0c, rfl⟩ := rd_slice ho1.rd
      have HQ : Hid (PtRw ((w'.setCell ⟨w.heap.size, k * 2, none⟩ (.string xk)).setCell ⟨w.heap.size, k * 2 + 1, none⟩ (.slice p0a a.length p0c)) w.heap.size w.heap.size P.length (A ++ [⟨(xk, a), .slice p0a a.length p0c⟩])) := HP.out.put hb hA hlt ⟨(xk, a), .slice p0a a.length p0c⟩ (fun p hp => by simp only [RwF.sb, List.mem_cons, List.not_mem_nil, or_false] at hp; subst hp; exact ho1) hap
      obtain ⟨y0, y1, k0, k1, f0, f1⟩ := (HP.out.below hb).cells hA hlt
      have hbel' := below_seq hbel hb
      clear hb hap hT HP ho1
      go_wp2_with fail
      go_roundw
      case rel => exact ⟨k + 1, _, by omega, by go_num, by rw [List.length_append, hA]; rfl, HX2.out _, HQ, (hbel'.setCell (Nat.le_refl _) _).setCell (Nat.le_refl _) _⟩
      case measure => simp [intOf]; omega
    · obtain rfl : k = P.length := by omega
      rw [List.take_length] at HX
      have hD := HP.out.done hA
      rw [HX.out] at hD
      go_wp2_with fail
      go_ret
      exact ⟨rfl, hD, hbel⟩

end Go.Proofs.Ytlncfeakcgjioaa
