/- The laws' own functions over lists of columns: their size, their copy, that two alike are alike, the writing over and what holds it. No condition: they are lemmas. -/
import Derived.Test.YtlncfeakcgjioaaRowsM
namespace Go.Proofs.Ytlncfeakcgjioaa
open Go.RowKit
set_option linter.unusedVariables false

theorem infoColumn : (Try.prog.info? 53).map (fun i => (i.zero, i.size, i.bytes)) = some (some (.agg #[.string ByteArray.empty, .bool false, .bool false]), 3, 24) := by kernel_rfl

/-- A column as it stands in memory: its fields. -/
abbrev Cn := ByteArray × Bool × Bool
def Cn.cs (e : Cn) : List Value := [.string (e.1), .bool (e.2.1), .bool (e.2.2)]
def cnCs : List Cn → List Value
  | [] => []
  | e :: r => Cn.cs e ++ cnCs r
def cnAt (ls : List Cn) (k : Nat) : Cn := ls.getD k default
theorem cnCs_len : ∀ ls : List Cn, (cnCs ls).length = ls.length * 3
  | [] => rfl
  | e :: r => by rw [cnCs, List.length_append, cnCs_len r, List.length_cons]; show 3 + _ = _; omega
theorem cnCs_app : ∀ a b : List Cn, cnCs (a ++ b) = cnCs a ++ cnCs b
  | [], b => rfl
  | e :: r, b => by rw [List.cons_append, cnCs, cnCs_app r b, cnCs, List.append_assoc]
theorem cnCs_cell : ∀ (ls : List Cn) (k j : Nat), k < ls.length → j < 3 → (cnCs ls)[k * 3 + j]? = (Cn.cs (cnAt ls k))[j]?
  | [], k, j, h, _ => absurd h (by simp)
  | e :: r, 0, j, _, hj => by
    rw [cnCs, Nat.zero_mul, Nat.zero_add, List.getElem?_append_left (by show j < 3; omega)]
    rfl
  | e :: r, k + 1, j, h, hj => by
    have h2 : k < r.length := by simpa using h
    have := cnCs_cell r k j h2 hj
    rw [cnCs, List.getElem?_append_right (by show 3 ≤ _; omega)]
    show (cnCs r)[(k + 1) * 3 + j - 3]? = _
    rw [show (k + 1) * 3 + j - 3 = k * 3 + j by omega, this]
    rfl
theorem cnCs_at {ls : List Cn} {k : Nat} (h : k < ls.length) : (cnCs ls)[k * 3]? = some (.string (cnAt ls k).1) ∧ (cnCs ls)[k * 3 + 1]? = some (.bool (cnAt ls k).2.1) ∧ (cnCs ls)[k * 3 + 2]? = some (.bool (cnAt ls k).2.2) :=
  ⟨cnCs_cell ls k 0 h (by decide), cnCs_cell ls k 1 h (by decide), cnCs_cell ls k 2 h (by decide)⟩
theorem cnCs_one (ls : List Cn) : ∀ u ∈ cnCs ls, u.oneCell' = true := by
  induction ls with
  | nil => intro u hu; exact absurd hu (by simp [cnCs])
  | cons e r ih =>
    intro u hu
    rw [cnCs] at hu
    rcases List.mem_append.1 hu with hu | hu
    · simp only [Cn.cs, List.mem_cons, List.not_mem_nil, or_false] at hu
      rcases hu with rfl | rfl | rfl <;> rfl
    · exact ih u hu
theorem cnAt_take {ls : List Cn} {k j : Nat} (h : j < k) : cnAt (ls.take k) j = cnAt ls j := by
  simp only [cnAt, List.getD_eq_getElem?_getD, List.getElem?_take, if_pos h]
theorem cn_take_succ {ls : List Cn} {k : Nat} (h : k < ls.length) : ls.take (k + 1) = ls.take k ++ [cnAt ls k] := by
  rw [List.take_succ_eq_append_getElem h]
  simp [cnAt, h]
theorem cnAt_mem {ls : List Cn} {k : Nat} (h : k < ls.length) : cnAt ls k ∈ ls := by
  simp [cnAt, h]

/-- The slice v reads as the columns of ls. -/
def RdCn (C : Nat) (w : World) (v : Value) (ls : List Cn) : Prop :=
  ∃ ao cap, v = .slice ao ls.length cap ∧ (0 < ls.length → ∃ g off, ao = some ⟨g, off, none⟩ ∧ g < C ∧ ∀ k, k < ls.length → w.cell? ⟨g, off + k * 3, none⟩ = some (.string (cnAt ls k).1) ∧ w.cell? ⟨g, off + (k * 3 + 1), none⟩ = some (.bool (cnAt ls k).2.1) ∧ w.cell? ⟨g, off + (k * 3 + 2), none⟩ = some (.bool (cnAt ls k).2.2))
/-- The slice v is a row of the call's own, from block B on: the columns of ls. -/
def OwnCn (w : World) (B : Nat) (v : Value) (ls : List Cn) : Prop := w.ownsRow B 53 3 v ls.length (cnCs ls)
theorem RdM.cn {C : Nat} {w : World} {v : Value} {ls : List Cn} (h : RdM 3 C w v ls.length (cnCs ls)) : RdCn C w v ls := by
  obtain ⟨hl, ao, cap, rfl, _, _, _, hr⟩ := h
  refine ⟨ao, cap, rfl, fun hp => ?_⟩
  obtain ⟨g, off, rfl, hg, hc⟩ := hr hp
  refine ⟨g, off, rfl, hg, fun k hk => ?_⟩
  have := cnCs_at hk
  exact ⟨hc _ _ this.1, hc _ _ this.2.1, hc _ _ this.2.2⟩
theorem RdCn.mono {C C' : Nat} {w : World} {v : Value} {ls : List Cn} (h : RdCn C w v ls) (hc : C ≤ C') : RdCn C' w v ls := by
  obtain ⟨ao, cap, rfl, h⟩ := h
  refine ⟨ao, cap, rfl, fun hp => ?_⟩
  obtain ⟨g, off, rfl, hg, hr⟩ := h hp
  exact ⟨g, off, rfl, by omega, hr⟩
theorem RdCn.on {C : Nat} {w w' : World} {v : Value} {ls : List Cn} (h : RdCn C w v ls) (hC : C ≤ w.heap.size) (hb : Below w.heap.size w w') : RdCn C w' v ls := by
  obtain ⟨ao, cap, rfl, h⟩ := h
  refine ⟨ao, cap, rfl, fun hp => ?_⟩
  obtain ⟨g, off, rfl, hg, hr⟩ := h hp
  exact ⟨g, off, rfl, hg, fun k hk => ⟨cell_on hb (hr k hk).1, cell_on hb (hr k hk).2.1, cell_on hb (hr k hk).2.2⟩⟩
theorem OwnCn.rd {w : World} {B : Nat} {v : Value} {ls : List Cn} (h : OwnCn w B v ls) : RdCn w.heap.size w v ls := (ownM_rd h).cn
theorem OwnCn.on {w w' : World} {B : Nat} {v : Value} {ls : List Cn} (h : OwnCn w B v ls) (hb : Below w.heap.size w w') : OwnCn w' B v ls := ownM_on h hb

set_option maxHeartbeats 1000000 in
set_option maxRecDepth 100000 in
theorem toColumn_any (x : ByteArray) (y : Bool) (z : Bool) (w : World) :
    Calls Try.prog 22 #[.agg #[.string x, .bool y, .bool z]] w fun e w' => e = .returned (.agg #[.string x, .bool y, .bool z]) ∧ Below w.heap.size w w' := by
  go_enter Try.func22, Try.ntmps22
  go_wp2_with fail
  refine bodyPost_ret (v := .agg #[.string x, .bool y, .bool z]) ?_ rfl ⟨rfl, ?_⟩
  · simp [results, Try.results22, go_sem]
  · repeat (first | exact below_alloc _ _ | refine below_then ?_ _ | refine Below.setCell ?_ (by show _ ≤ _; first | omega | (simp; done) | (simp; omega)) _)

set_option maxHeartbeats 1000000 in
set_option maxRecDepth 100000 in
theorem eqColumn_same (x : ByteArray) (y : Bool) (z : Bool) (w : World) :
    Calls Try.prog 28 #[.agg #[.string x, .bool y, .bool z], .agg #[.string x, .bool y, .bool z]] w fun e w' => e = .returned (.bool true) ∧ Below w.heap.size w w' := by
  go_enter Try.func28, Try.ntmps28
  go_wp2_with fail
  go_ret
  exact ⟨rfl, below_then (below_alloc _ _) _⟩

set_option maxHeartbeats 1000000 in
theorem szColumn_any (x : ByteArray) (y : Bool) (z : Bool) (l : Int) (h0 : 0 ≤ l) (h1 : l ≤ 1048576) (hx : x.size ≤ 9223372036854775807) (w : World) :
    Calls Try.prog 17 #[.agg #[.string x, .bool y, .bool z], .int .i64 l] w fun e w' => (∃ x : Int, e = .returned (.int .i64 x) ∧ -1 ≤ x ∧ x ≤ l) ∧ Below w.heap.size w w' := by
  by_cases h_x : l - (x.size : Int) < 0
  · go_enter Try.func17, Try.ntmps17
    go_wp2_with fail
    go_ret
    exact ⟨⟨_, rfl, by omega, by omega⟩, below_alloc _ _⟩
  go_enter Try.func17, Try.ntmps17
  go_wp2_with fail
  go_ret
  exact ⟨⟨_, rfl, by omega, by omega⟩, below_alloc _ _⟩

set_option maxHeartbeats 2000000 in
set_option maxRecDepth 100000 in
theorem szColumnS_any (C : Nat) (w : World) (v : Value) (ls : List Cn) (l : Int) (h0 : 0 ≤ l) (h1 : l ≤ 1048576) (hn : ls.length ≤ 9223372036854775807) (hs : ∀ k, (cnAt ls k).1.size ≤ 9223372036854775807) (hC : C ≤ w.heap.size) (hr : RdCn C w v ls) :
    Calls Try.prog 4 #[v, .int .i64 l] w fun e w' => (∃ x : Int, e = .returned (.int .i64 x) ∧ -1 ≤ x ∧ x ≤ 1048576 ∧ (0 ≤ x → ls.length ≤ 1048576)) ∧ Below w.heap.size w w' := by
  obtain ⟨ao, cap, rfl, hr⟩ := hr
  by_cases h : l - (ls.length : Int) < 0
  · go_enter Try.func4, Try.ntmps4
    go_wp2_with fail
    go_ret
    exact ⟨⟨_, rfl, by omega, by omega, by omega⟩, Below.refl _ _⟩
  · have hlen : ls.length ≤ 1048576 := by omega
    go_enter Try.func4, Try.ntmps4
    go_wp2_with fail
    go_loopw [1, 5] (fun tl ti wr => ∃ (k : Nat) (x : Int), k ≤ ls.length ∧ ti = .int .i64 (k : Int) ∧ tl = .int .i64 x ∧ 0 ≤ x ∧ x ≤ 1048576 ∧ Below w.heap.size w wr) (fun _ ti _ => ls.length - (intOf ti).toNat)
    case atStart => exact ⟨0, _, Nat.zero_le _, rfl, rfl, by omega, by omega, Below.refl _ _⟩
    case round =>
      obtain ⟨k, q, hk, rfl, rfl, q0, q1, hB⟩ := hrel
      by_cases hlt : k < ls.length
      · obtain ⟨g, off, rfl, hg, hc⟩ := hr (by omega)
        have d0 : wr.cell? ⟨g, off + k * 3, none⟩ = _ := (hB.cell (p := ⟨g, off + k * 3, none⟩) (by show g < _; omega)).trans (hc k hlt).1
        have d1 : wr.cell? ⟨g, off + k * 3 + 1, none⟩ = _ := (hB.cell (p := ⟨g, off + (k * 3 + 1), none⟩) (by show g < _; omega)).trans (hc k hlt).2.1
        have d2 : wr.cell? ⟨g, off + k * 3 + 2, none⟩ = _ := (hB.cell (p := ⟨g, off + (k * 3 + 2), none⟩) (by show g < _; omega)).trans (hc k hlt).2.2
        have j0 : (0 : Int) ≤ (k : Int) := by omega
        have j1 : (k : Int) < (ls.length : Int) := by omega
        have j2 : (k : Int) + 1 < 9223372036854775808 := by omega
        have hsk := hs k
        generalize (cnAt ls k).1 = x at d0 hsk
        generalize (cnAt ls k).2.1 = y at d1
        generalize (cnAt ls k).2.2 = z at d2
        clear hc hr hs
        go_wp2_with fail
        refine (szColumn_any x y z q q0 q1 hsk _).mono ?_
        rintro e w2 ⟨⟨y9, rfl, y0, y1⟩, hb2⟩
        replace hB := below_seq hB hb2
        by_cases hy : y9 < 0
        · go_wp2_with fail
          go_ret
          exact ⟨⟨_, rfl, by omega, by omega, by omega⟩, hB⟩
        · have hy0 : decide (y9 < 0) = false := by simp; omega
          have hy1 : 0 ≤ y9 := by omega
          clear hy
          go_wp2_with fail
          go_roundw
          case rel => exact ⟨k + 1, y9, by omega, by go_num, rfl, by omega, by omega, hB⟩
          case measure => simp [intOf]; omega
      · obtain rfl : k = ls.length := by omega
        go_wp2_with fail
        go_ret
        exact ⟨⟨_, rfl, by omega, by omega, fun _ => hlen⟩, hB⟩

theorem rowCn_cells {w : World} {B g n c : Nat} {cs : List Value} {q : Nat} (h : RowM 53 3 w B g n c cs q) {k : Nat} (hk : k < n) : ∃ u0 u1 u2, w.cell? ⟨g, k * 3, none⟩ = some u0 ∧ w.cell? ⟨g, k * 3 + 1, none⟩ = some u1 ∧ w.cell? ⟨g, k * 3 + 2, none⟩ = some u2 ∧ w.frozen? ⟨g, k * 3, none⟩ = false ∧ w.frozen? ⟨g, k * 3 + 1, none⟩ = false ∧ w.frozen? ⟨g, k * 3 + 2, none⟩ = false := by
  obtain ⟨u0, c0, f0⟩ := h.cell (k * 3) (by omega); obtain ⟨u1, c1, f1⟩ := h.cell (k * 3 + 1) (by omega); obtain ⟨u2, c2, f2⟩ := h.cell (k * 3 + 2) (by omega)
  exact ⟨u0, u1, u2, c0, c1, c2, f0, f1, f2⟩

set_option maxHeartbeats 2000000 in
set_option maxRecDepth 100000 in
theorem toColumnS_any (C : Nat) (w : World) (v : Value) (ls : List Cn) (hl : ls.length ≤ 1048576) (hC : C ≤ w.heap.size) (hr : RdCn C w v ls) :
    Calls Try.prog 7 #[v] w fun e w' => e = .returned (.slice (some ⟨w.heap.size, 0, none⟩) ls.length ls.length) ∧ OwnCn w' w.heap.size (.slice (some ⟨w.heap.size, 0, none⟩) ls.length ls.length) ls ∧ Below w.heap.size w w' := by
  obtain ⟨i0, hi, hz0, hz1, hz2⟩ := info_parts infoColumn
  obtain ⟨ao, cap, rfl, hr⟩ := hr
  go_enter Try.func7, Try.ntmps7
  go_wp2_with (at_make; refine wpList_make_full _ rfl _ _ 29 rfl w.heap.size 53 i0 (.agg #[.string ByteArray.empty, .bool false, .bool false]) 3 Try.underlying29 hi hz0 hz1 _ _ _ _ ls.length rfl rfl rfl rfl (by rw [hz2]; omega) (by unfold maxLen; omega) (Nat.le_refl _) ?_)
  intro w1 hown hgrow
  have hb1 : Below w.heap.size w w1 := (Below.refl _ _).grown hgrow (Nat.le_refl _) (fun k hk => by cases hk)
  have H1 : Hid (RowM 53 3 w1 w.heap.size w.heap.size ls.length ls.length (cnCs ls) (0 * 3)) := ⟨_, hown, fun j hj => absurd hj (by omega)⟩
  clear hown hgrow
  go_wp2_with fail
  go_loopw [4] (fun i wr => ∃ k : Nat, k ≤ ls.length ∧ i = .int .i64 k ∧ Hid (RowM 53 3 wr w.heap.size w.heap.size ls.length ls.length (cnCs ls) (k * 3)) ∧ Below w.heap.size w wr) (fun i _ => ls.length - (intOf i).toNat)
  case atStart => exact ⟨0, Nat.zero_le _, rfl, H1, hb1⟩
  case round =>
    clear H1 hb1
    obtain ⟨k, hk, rfl, HR, hbel⟩ := hrel
    by_cases hlt : k < ls.length
    · obtain ⟨g, off, rfl, hg, hc⟩ := hr (by omega)
      have d0 : wr.cell? ⟨g, off + k * 3, none⟩ = _ := (hbel.cell (p := ⟨g, off + k * 3, none⟩) (by show g < _; omega)).trans (hc k hlt).1
      have d1 : wr.cell? ⟨g, off + k * 3 + 1, none⟩ = _ := (hbel.cell (p := ⟨g, off + (k * 3 + 1), none⟩) (by show g < _; omega)).trans (hc k hlt).2.1
      have d2 : wr.cell? ⟨g, off + k * 3 + 2, none⟩ = _ := (hbel.cell (p := ⟨g, off + (k * 3 + 2), none⟩) (by show g < _; omega)).trans (hc k hlt).2.2
      have HP : Hid (∀ {w'}, RowM 53 3 w' w.heap.size w.heap.size ls.length ls.length (cnCs ls) (k * 3) → RowM 53 3 (((w'.setCell ⟨w.heap.size, k * 3, none⟩ (.string (cnAt ls k).1)).setCell ⟨w.heap.size, k * 3 + 1, none⟩ (.bool (cnAt ls k).2.1)).setCell ⟨w.heap.size, k * 3 + 2, none⟩ (.bool (cnAt ls k).2.2)) w.heap.size w.heap.size ls.length ls.length (cnCs ls) ((k + 1) * 3)) := fun h => by
        have h2 := ((((((h).put (by omega) (by exact (cnCs_at hlt).1))).put (by omega) (by exact (cnCs_at hlt).2.1))).put (by omega) (by exact (cnCs_at hlt).2.2))
        rw [show (k + 1) * 3 = k * 3 + 1 + 1 + 1 by omega]
        exact h2
      have j0 : (0 : Int) ≤ (k : Int) := by omega
      have j1 : (k : Int) < (ls.length : Int) := by omega
      have j2 : (k : Int) + 1 < 9223372036854775808 := by omega
      clear hc hr
      generalize (cnAt ls k).1 = x at d0 HP
      generalize (cnAt ls k).2.1 = y at d1 HP
      generalize (cnAt ls k).2.2 = z at d2 HP
      go_wp2_with ((go_at_call 22; refine (toColumn_any x y z _).mono ?_; rintro e w' ⟨rfl, hb⟩; replace HR : Hid (RowM 53 3 w' w.heap.size w.heap.size ls.length ls.length (cnCs ls) (k * 3)) := RowM.on HR.out hb; replace hbel := below_seq hbel hb; clear hb; obtain ⟨u0, u1, u2, c0, c1, c2, f0, f1, f2⟩ := rowCn_cells HR.out hlt))
      exact ⟨⟨k + 1, by omega, by go_num, HP.out HR.out, ((hbel.setCell (Nat.le_refl _) _).setCell (Nat.le_refl _) _).setCell (Nat.le_refl _) _⟩, by simp [intOf]; omega⟩
    · obtain rfl : k = ls.length := by omega
      go_wp2_with fail
      go_ret
      exact ⟨rfl, HR.out.own rfl (cnCs_len ls), hbel⟩

set_option maxHeartbeats 2000000 in
set_option maxRecDepth 100000 in
theorem eqColumnS_same (C C' : Nat) (w : World) (va vb : Value) (ls : List Cn) (hl : ls.length ≤ 140737488355328) (hC : C ≤ w.heap.size) (hC' : C' ≤ w.heap.size) (ha : RdCn C w va ls) (hb : RdCn C' w vb ls) :
    Calls Try.prog 11 #[va, vb] w fun e w' => e = .returned (.bool true) ∧ Below w.heap.size w w' := by
  obtain ⟨ao, ca, rfl, ha⟩ := ha
  obtain ⟨bo, cb, rfl, hb⟩ := hb
  go_enter Try.func11, Try.ntmps11
  go_wp2_with fail
  go_loopw [5] (fun ti wr => ∃ k : Nat, k ≤ ls.length ∧ ti = .int .i64 (k : Int) ∧ Below w.heap.size w wr) (fun ti _ => ls.length - (intOf ti).toNat)
  case atStart => exact ⟨0, Nat.zero_le _, rfl, Below.refl _ _⟩
  case round =>
    obtain ⟨k, hk, rfl, hB⟩ := hrel
    by_cases hlt : k < ls.length
    · obtain ⟨g, off, rfl, hg, hc⟩ := ha (by omega)
      obtain ⟨g', off', rfl, hg', hc'⟩ := hb (by omega)
      have d0 : wr.cell? ⟨g, off + k * 3, none⟩ = _ := (hB.cell (p := ⟨g, off + k * 3, none⟩) (by show g < _; omega)).trans (hc k hlt).1
      have d1 : wr.cell? ⟨g, off + k * 3 + 1, none⟩ = _ := (hB.cell (p := ⟨g, off + (k * 3 + 1), none⟩) (by show g < _; omega)).trans (hc k hlt).2.1
      have d2 : wr.cell? ⟨g, off + k * 3 + 2, none⟩ = _ := (hB.cell (p := ⟨g, off + (k * 3 + 2), none⟩) (by show g < _; omega)).trans (hc k hlt).2.2
      have b0 : wr.cell? ⟨g', off' + k * 3, none⟩ = _ := (hB.cell (p := ⟨g', off' + k * 3, none⟩) (by show g' < _; omega)).trans (hc' k hlt).1
      have b1 : wr.cell? ⟨g', off' + k * 3 + 1, none⟩ = _ := (hB.cell (p := ⟨g', off' + (k * 3 + 1), none⟩) (by show g' < _; omega)).trans (hc' k hlt).2.1
      have b2 : wr.cell? ⟨g', off' + k * 3 + 2, none⟩ = _ := (hB.cell (p := ⟨g', off' + (k * 3 + 2), none⟩) (by show g' < _; omega)).trans (hc' k hlt).2.2
      have j0 : (0 : Int) ≤ (k : Int) := by omega
      have j1 : (k : Int) < (ls.length : Int) := by omega
      have j2 : (k : Int) + 1 < 9223372036854775808 := by omega
      generalize (cnAt ls k).1 = x at d0 b0
      generalize (cnAt ls k).2.1 = y at d1 b1
      generalize (cnAt ls k).2.2 = z at d2 b2
      clear hc hc' ha hb
      go_wp2_with fail
      go_region_held2 (fun w' => w'.cell? ⟨g, off + k * 3, none⟩ = some (.string x) ∧ w'.cell? ⟨g, off + k * 3 + 1, none⟩ = some (.bool y) ∧ w'.cell? ⟨g, off + k * 3 + 2, none⟩ = some (.bool z) ∧ w'.cell? ⟨g', off' + k * 3, none⟩ = some (.string x) ∧ w'.cell? ⟨g', off' + k * 3 + 1, none⟩ = some (.bool y) ∧ w'.cell? ⟨g', off' + k * 3 + 2, none⟩ = some (.bool z)) (exact ⟨d0, d1, d2, b0, b1, b2⟩) ((go_at_call 28; refine (eqColumn_same x y z _).mono ?_; rintro e w' ⟨rfl, hb⟩; replace d0 := cell_on hb d0; replace d1 := cell_on hb d1; replace d2 := cell_on hb d2; replace b0 := cell_on hb b0; replace b1 := cell_on hb b1; replace b2 := cell_on hb b2; replace hB := below_seq hB.drew hb; clear hb))
      go_wp2_with fail
      go_roundw
      case rel => exact ⟨k + 1, by omega, by go_num, hB⟩
      case measure => simp [intOf]; omega
    · obtain rfl : k = ls.length := by omega
      go_wp2_with fail
      go_ret
      exact ⟨rfl, hB⟩
end Go.Proofs.Ytlncfeakcgjioaa
