/- The laws' own functions over lists of steps: their size, their copy, that two alike are alike, the writing over and what holds it. No condition: they are lemmas. -/
import Derived.Test.YtagnpahkhaighaaRowsM
namespace Go.Proofs.Ytagnpahkhaighaa
open Go.RowKit
set_option linter.unusedVariables false

theorem infoStep : (Try.prog.info? 43).map (fun i => (i.zero, i.size, i.bytes)) = some (some (.agg #[.int .i64 0, .string ByteArray.empty, .string ByteArray.empty, .string ByteArray.empty]), 4, 56) := by kernel_rfl

/-- A step as it stands in memory: its fields. -/
abbrev St := Int × ByteArray × ByteArray × ByteArray
def St.cs (e : St) : List Value := [.int .i64 (e.1), .string (e.2.1), .string (e.2.2.1), .string (e.2.2.2)]
def stCs : List St → List Value
  | [] => []
  | e :: r => St.cs e ++ stCs r
def stAt (ls : List St) (k : Nat) : St := ls.getD k default
theorem stCs_len : ∀ ls : List St, (stCs ls).length = ls.length * 4
  | [] => rfl
  | e :: r => by rw [stCs, List.length_append, stCs_len r, List.length_cons]; show 4 + _ = _; omega
theorem stCs_app : ∀ a b : List St, stCs (a ++ b) = stCs a ++ stCs b
  | [], b => rfl
  | e :: r, b => by rw [List.cons_append, stCs, stCs_app r b, stCs, List.append_assoc]
theorem stCs_cell : ∀ (ls : List St) (k j : Nat), k < ls.length → j < 4 → (stCs ls)[k * 4 + j]? = (St.cs (stAt ls k))[j]?
  | [], k, j, h, _ => absurd h (by simp)
  | e :: r, 0, j, _, hj => by
    rw [stCs, Nat.zero_mul, Nat.zero_add, List.getElem?_append_left (by show j < 4; omega)]
    rfl
  | e :: r, k + 1, j, h, hj => by
    have h2 : k < r.length := by simpa using h
    have := stCs_cell r k j h2 hj
    rw [stCs, List.getElem?_append_right (by show 4 ≤ _; omega)]
    show (stCs r)[(k + 1) * 4 + j - 4]? = _
    rw [show (k + 1) * 4 + j - 4 = k * 4 + j by omega, this]
    rfl
theorem stCs_at {ls : List St} {k : Nat} (h : k < ls.length) : (stCs ls)[k * 4]? = some (.int .i64 (stAt ls k).1) ∧ (stCs ls)[k * 4 + 1]? = some (.string (stAt ls k).2.1) ∧ (stCs ls)[k * 4 + 2]? = some (.string (stAt ls k).2.2.1) ∧ (stCs ls)[k * 4 + 3]? = some (.string (stAt ls k).2.2.2) :=
  ⟨stCs_cell ls k 0 h (by decide), stCs_cell ls k 1 h (by decide), stCs_cell ls k 2 h (by decide), stCs_cell ls k 3 h (by decide)⟩
theorem stCs_one (ls : List St) : ∀ u ∈ stCs ls, u.oneCell' = true := by
  induction ls with
  | nil => intro u hu; exact absurd hu (by simp [stCs])
  | cons e r ih =>
    intro u hu
    rw [stCs] at hu
    rcases List.mem_append.1 hu with hu | hu
    · simp only [St.cs, List.mem_cons, List.not_mem_nil, or_false] at hu
      rcases hu with rfl | rfl | rfl | rfl <;> rfl
    · exact ih u hu
theorem stAt_take {ls : List St} {k j : Nat} (h : j < k) : stAt (ls.take k) j = stAt ls j := by
  simp only [stAt, List.getD_eq_getElem?_getD, List.getElem?_take, if_pos h]
theorem st_take_succ {ls : List St} {k : Nat} (h : k < ls.length) : ls.take (k + 1) = ls.take k ++ [stAt ls k] := by
  rw [List.take_succ_eq_append_getElem h]
  simp [stAt, h]
theorem stAt_mem {ls : List St} {k : Nat} (h : k < ls.length) : stAt ls k ∈ ls := by
  simp [stAt, h]

/-- The slice v reads as the steps of ls. -/
def RdSt (C : Nat) (w : World) (v : Value) (ls : List St) : Prop :=
  ∃ ao cap, v = .slice ao ls.length cap ∧ (0 < ls.length → ∃ g off, ao = some ⟨g, off, none⟩ ∧ g < C ∧ ∀ k, k < ls.length → w.cell? ⟨g, off + k * 4, none⟩ = some (.int .i64 (stAt ls k).1) ∧ w.cell? ⟨g, off + (k * 4 + 1), none⟩ = some (.string (stAt ls k).2.1) ∧ w.cell? ⟨g, off + (k * 4 + 2), none⟩ = some (.string (stAt ls k).2.2.1) ∧ w.cell? ⟨g, off + (k * 4 + 3), none⟩ = some (.string (stAt ls k).2.2.2))
/-- The slice v is a row of the call's own, from block B on: the steps of ls. -/
def OwnSt (w : World) (B : Nat) (v : Value) (ls : List St) : Prop := w.ownsRow B 43 4 v ls.length (stCs ls)
theorem RdM.st {C : Nat} {w : World} {v : Value} {ls : List St} (h : RdM 4 C w v ls.length (stCs ls)) : RdSt C w v ls := by
  obtain ⟨hl, ao, cap, rfl, _, _, _, hr⟩ := h
  refine ⟨ao, cap, rfl, fun hp => ?_⟩
  obtain ⟨g, off, rfl, hg, hc⟩ := hr hp
  refine ⟨g, off, rfl, hg, fun k hk => ?_⟩
  have := stCs_at hk
  exact ⟨hc _ _ this.1, hc _ _ this.2.1, hc _ _ this.2.2.1, hc _ _ this.2.2.2⟩
theorem RdSt.mono {C C' : Nat} {w : World} {v : Value} {ls : List St} (h : RdSt C w v ls) (hc : C ≤ C') : RdSt C' w v ls := by
  obtain ⟨ao, cap, rfl, h⟩ := h
  refine ⟨ao, cap, rfl, fun hp => ?_⟩
  obtain ⟨g, off, rfl, hg, hr⟩ := h hp
  exact ⟨g, off, rfl, by omega, hr⟩
theorem RdSt.on {C : Nat} {w w' : World} {v : Value} {ls : List St} (h : RdSt C w v ls) (hC : C ≤ w.heap.size) (hb : Below w.heap.size w w') : RdSt C w' v ls := by
  obtain ⟨ao, cap, rfl, h⟩ := h
  refine ⟨ao, cap, rfl, fun hp => ?_⟩
  obtain ⟨g, off, rfl, hg, hr⟩ := h hp
  exact ⟨g, off, rfl, hg, fun k hk => ⟨cell_on hb (hr k hk).1, cell_on hb (hr k hk).2.1, cell_on hb (hr k hk).2.2.1, cell_on hb (hr k hk).2.2.2⟩⟩
theorem OwnSt.rd {w : World} {B : Nat} {v : Value} {ls : List St} (h : OwnSt w B v ls) : RdSt w.heap.size w v ls := (ownM_rd h).st
theorem OwnSt.on {w w' : World} {B : Nat} {v : Value} {ls : List St} (h : OwnSt w B v ls) (hb : Below w.heap.size w w') : OwnSt w' B v ls := ownM_on h hb

set_option maxHeartbeats 1000000 in
set_option maxRecDepth 100000 in
theorem toStep_any (x : Int) (y : ByteArray) (z : ByteArray) (u : ByteArray) (w : World) :
    Calls Try.prog 31 #[.agg #[.int .i64 x, .string y, .string z, .string u]] w fun e w' => e = .returned (.agg #[.int .i64 x, .string y, .string z, .string u]) ∧ Below w.heap.size w w' := by
  go_enter Try.func31, Try.ntmps31
  go_wp2_with fail
  refine bodyPost_ret (v := .agg #[.int .i64 x, .string y, .string z, .string u]) ?_ rfl ⟨rfl, ?_⟩
  · simp [results, Try.results31, go_sem]
  · repeat (first | exact below_alloc _ _ | refine below_then ?_ _ | refine Below.setCell ?_ (by show _ ≤ _; first | omega | (simp; done) | (simp; omega)) _)

set_option maxHeartbeats 1000000 in
set_option maxRecDepth 100000 in
theorem eqStep_same (x : Int) (y : ByteArray) (z : ByteArray) (u : ByteArray) (w : World) :
    Calls Try.prog 37 #[.agg #[.int .i64 x, .string y, .string z, .string u], .agg #[.int .i64 x, .string y, .string z, .string u]] w fun e w' => e = .returned (.bool true) ∧ Below w.heap.size w w' := by
  go_enter Try.func37, Try.ntmps37
  go_wp2_with fail
  go_ret
  exact ⟨rfl, below_then (below_alloc _ _) _⟩

set_option maxHeartbeats 1000000 in
theorem szStep_any (x : Int) (y : ByteArray) (z : ByteArray) (u : ByteArray) (l : Int) (h0 : 0 ≤ l) (h1 : l ≤ 1048576) (hy : y.size ≤ 9223372036854775807) (hz : z.size ≤ 9223372036854775807) (hu : u.size ≤ 9223372036854775807) (w : World) :
    Calls Try.prog 24 #[.agg #[.int .i64 x, .string y, .string z, .string u], .int .i64 l] w fun e w' => (∃ x : Int, e = .returned (.int .i64 x) ∧ -1 ≤ x ∧ x ≤ l) ∧ Below w.heap.size w w' := by
  by_cases h_y : l - (y.size : Int) < 0
  · go_enter Try.func24, Try.ntmps24
    go_wp2_with fail
    go_ret
    exact ⟨⟨_, rfl, by omega, by omega⟩, below_alloc _ _⟩
  by_cases h_z : l - (y.size : Int) - (z.size : Int) < 0
  · go_enter Try.func24, Try.ntmps24
    go_wp2_with fail
    go_ret
    exact ⟨⟨_, rfl, by omega, by omega⟩, below_alloc _ _⟩
  by_cases h_u : l - (y.size : Int) - (z.size : Int) - (u.size : Int) < 0
  · go_enter Try.func24, Try.ntmps24
    go_wp2_with fail
    go_ret
    exact ⟨⟨_, rfl, by omega, by omega⟩, below_alloc _ _⟩
  go_enter Try.func24, Try.ntmps24
  go_wp2_with fail
  go_ret
  exact ⟨⟨_, rfl, by omega, by omega⟩, below_alloc _ _⟩

set_option maxHeartbeats 2000000 in
set_option maxRecDepth 100000 in
theorem szStepS_any (C : Nat) (w : World) (v : Value) (ls : List St) (l : Int) (h0 : 0 ≤ l) (h1 : l ≤ 1048576) (hn : ls.length ≤ 9223372036854775807) (hs : ∀ k, (stAt ls k).2.1.size ≤ 9223372036854775807 ∧ (stAt ls k).2.2.1.size ≤ 9223372036854775807 ∧ (stAt ls k).2.2.2.size ≤ 9223372036854775807) (hC : C ≤ w.heap.size) (hr : RdSt C w v ls) :
    Calls Try.prog 6 #[v, .int .i64 l] w fun e w' => (∃ x : Int, e = .returned (.int .i64 x) ∧ -1 ≤ x ∧ x ≤ 1048576 ∧ (0 ≤ x → ls.length ≤ 1048576)) ∧ Below w.heap.size w w' := by
  obtain ⟨ao, cap, rfl, hr⟩ := hr
  by_cases h : l - (ls.length : Int) < 0
  · go_enter Try.func6, Try.ntmps6
    go_wp2_with fail
    go_ret
    exact ⟨⟨_, rfl, by omega, by omega, by omega⟩, Below.refl _ _⟩
  · have hlen : ls.length ≤ 1048576 := by omega
    go_enter Try.func6, Try.ntmps6
    go_wp2_with fail
    go_loopw [1, 5] (fun tl ti wr => ∃ (k : Nat) (x : Int), k ≤ ls.length ∧ ti = .int .i64 (k : Int) ∧ tl = .int .i64 x ∧ 0 ≤ x ∧ x ≤ 1048576 ∧ Below w.heap.size w wr) (fun _ ti _ => ls.length - (intOf ti).toNat)
    case atStart => exact ⟨0, _, Nat.zero_le _, rfl, rfl, by omega, by omega, Below.refl _ _⟩
    case round =>
      obtain ⟨k, q, hk, rfl, rfl, q0, q1, hB⟩ := hrel
      by_cases hlt : k < ls.length
      · obtain ⟨g, off, rfl, hg, hc⟩ := hr (by omega)
        have d0 : wr.cell? ⟨g, off + k * 4, none⟩ = _ := (hB.cell (p := ⟨g, off + k * 4, none⟩) (by show g < _; omega)).trans (hc k hlt).1
        have d1 : wr.cell? ⟨g, off + k * 4 + 1, none⟩ = _ := (hB.cell (p := ⟨g, off + (k * 4 + 1), none⟩) (by show g < _; omega)).trans (hc k hlt).2.1
        have d2 : wr.cell? ⟨g, off + k * 4 + 2, none⟩ = _ := (hB.cell (p := ⟨g, off + (k * 4 + 2), none⟩) (by show g < _; omega)).trans (hc k hlt).2.2.1
        have d3 : wr.cell? ⟨g, off + k * 4 + 3, none⟩ = _ := (hB.cell (p := ⟨g, off + (k * 4 + 3), none⟩) (by show g < _; omega)).trans (hc k hlt).2.2.2
        have j0 : (0 : Int) ≤ (k : Int) := by omega
        have j1 : (k : Int) < (ls.length : Int) := by omega
        have j2 : (k : Int) + 1 < 9223372036854775808 := by omega
        have hsk := hs k
        generalize (stAt ls k).1 = x at d0
        generalize (stAt ls k).2.1 = y at d1 hsk
        generalize (stAt ls k).2.2.1 = z at d2 hsk
        generalize (stAt ls k).2.2.2 = u at d3 hsk
        clear hc hr hs
        go_wp2_with fail
        refine (szStep_any x y z u q q0 q1 hsk.1 hsk.2.1 hsk.2.2 _).mono ?_
        rintro e w2 ⟨⟨y9, rfl, y0, y1⟩, hb2⟩
        replace hB := below_seq hB hb2
        by_cases hy : y9 < 0
        · go_wp2_with fail
          go_ret
          exact ⟨⟨_, rfl, by omega, by omega, by omega⟩, hB⟩
        · have hy0 : decide (y9 < 0) = false := by simp; omega
          have hy1 : 0 ≤ y9 := by omega
          clear hy
          go_wp2_with fail
          go_roundw
          case rel => exact ⟨k + 1, y9, by omega, by go_num, rfl, by omega, by omega, hB⟩
          case measure => simp [intOf]; omega
      · obtain rfl : k = ls.length := by omega
        go_wp2_with fail
        go_ret
        exact ⟨⟨_, rfl, by omega, by omega, fun _ => hlen⟩, hB⟩

theorem rowSt_cells {w : World} {B g n c : Nat} {cs : List Value} {q : Nat} (h : RowM 43 4 w B g n c cs q) {k : Nat} (hk : k < n) : ∃ u0 u1 u2 u3, w.cell? ⟨g, k * 4, none⟩ = some u0 ∧ w.cell? ⟨g, k * 4 + 1, none⟩ = some u1 ∧ w.cell? ⟨g, k * 4 + 2, none⟩ = some u2 ∧ w.cell? ⟨g, k * 4 + 3, none⟩ = some u3 ∧ w.frozen? ⟨g, k * 4, none⟩ = false ∧ w.frozen? ⟨g, k * 4 + 1, none⟩ = false ∧ w.frozen? ⟨g, k * 4 + 2, none⟩ = false ∧ w.frozen? ⟨g, k * 4 + 3, none⟩ = false := by
  obtain ⟨u0, c0, f0⟩ := h.cell (k * 4) (by omega); obtain ⟨u1, c1, f1⟩ := h.cell (k * 4 + 1) (by omega); obtain ⟨u2, c2, f2⟩ := h.cell (k * 4 + 2) (by omega); obtain ⟨u3, c3, f3⟩ := h.cell (k * 4 + 3) (by omega)
  exact ⟨u0, u1, u2, u3, c0, c1, c2, c3, f0, f1, f2, f3⟩

set_option maxHeartbeats 2000000 in
set_option maxRecDepth 100000 in
theorem toStepS_any (C : Nat) (w : World) (v : Value) (ls : List St) (hl : ls.length ≤ 1048576) (hC : C ≤ w.heap.size) (hr : RdSt C w v ls) :
    Calls Try.prog 9 #[v] w fun e w' => e = .returned (.slice (some ⟨w.heap.size, 0, none⟩) ls.length ls.length) ∧ OwnSt w' w.heap.size (.slice (some ⟨w.heap.size, 0, none⟩) ls.length ls.length) ls ∧ Below w.heap.size w w' := by
  obtain ⟨i0, hi, hz0, hz1, hz2⟩ := info_parts infoStep
  obtain ⟨ao, cap, rfl, hr⟩ := hr
  go_enter Try.func9, Try.ntmps9
  go_wp2_with (at_make; refine wpList_make_full _ rfl _ _ 29 rfl w.heap.size 43 i0 (.agg #[.int .i64 0, .string ByteArray.empty, .string ByteArray.empty, .string ByteArray.empty]) 4 Try.underlying29 hi hz0 hz1 _ _ _ _ ls.length rfl rfl rfl rfl (by rw [hz2]; omega) (by unfold maxLen; omega) (Nat.le_refl _) ?_)
  intro w1 hown hgrow
  have hb1 : Below w.heap.size w w1 := (Below.refl _ _).grown hgrow (Nat.le_refl _) (fun k hk => by cases hk)
  have H1 : Hid (RowM 43 4 w1 w.heap.size w.heap.size ls.length ls.length (stCs ls) (0 * 4)) := ⟨_, hown, fun j hj => absurd hj (by omega)⟩
  clear hown hgrow
  go_wp2_with fail
  go_loopw [4] (fun i wr => ∃ k : Nat, k ≤ ls.length ∧ i = .int .i64 k ∧ Hid (RowM 43 4 wr w.heap.size w.heap.size ls.length ls.length (stCs ls) (k * 4)) ∧ Below w.heap.size w wr) (fun i _ => ls.length - (intOf i).toNat)
  case atStart => exact ⟨0, Nat.zero_le _, rfl, H1, hb1⟩
  case round =>
    clear H1 hb1
    obtain ⟨k, hk, rfl, HR, hbel⟩ := hrel
    by_cases hlt : k < ls.length
    · obtain ⟨g, off, rfl, hg, hc⟩ := hr (by omega)
      have d0 : wr.cell? ⟨g, off + k * 4, none⟩ = _ := (hbel.cell (p := ⟨g, off + k * 4, none⟩) (by show g < _; omega)).trans (hc k hlt).1
      have d1 : wr.cell? ⟨g, off + k * 4 + 1, none⟩ = _ := (hbel.cell (p := ⟨g, off + (k * 4 + 1), none⟩) (by show g < _; omega)).trans (hc k hlt).2.1
      have d2 : wr.cell? ⟨g, off + k * 4 + 2, none⟩ = _ := (hbel.cell (p := ⟨g, off + (k * 4 + 2), none⟩) (by show g < _; omega)).trans (hc k hlt).2.2.1
      have d3 : wr.cell? ⟨g, off + k * 4 + 3, none⟩ = _ := (hbel.cell (p := ⟨g, off + (k * 4 + 3), none⟩) (by show g < _; omega)).trans (hc k hlt).2.2.2
      have HP : Hid (∀ {w'}, RowM 43 4 w' w.heap.size w.heap.size ls.length ls.length (stCs ls) (k * 4) → RowM 43 4 ((((w'.setCell ⟨w.heap.size, k * 4, none⟩ (.int .i64 (stAt ls k).1)).setCell ⟨w.heap.size, k * 4 + 1, none⟩ (.string (stAt ls k).2.1)).setCell ⟨w.heap.size, k * 4 + 2, none⟩ (.string (stAt ls k).2.2.1)).setCell ⟨w.heap.size, k * 4 + 3, none⟩ (.string (stAt ls k).2.2.2)) w.heap.size w.heap.size ls.length ls.length (stCs ls) ((k + 1) * 4)) := fun h => by
        have h2 := ((((((((h).put (by omega) (by exact (stCs_at hlt).1))).put (by omega) (by exact (stCs_at hlt).2.1))).put (by omega) (by exact (stCs_at hlt).2.2.1))).put (by omega) (by exact (stCs_at hlt).2.2.2))
        rw [show (k + 1) * 4 = k * 4 + 1 + 1 + 1 + 1 by omega]
        exact h2
      have j0 : (0 : Int) ≤ (k : Int) := by omega
      have j1 : (k : Int) < (ls.length : Int) := by omega
      have j2 : (k : Int) + 1 < 9223372036854775808 := by omega
      clear hc hr
      generalize (stAt ls k).1 = x at d0 HP
      generalize (stAt ls k).2.1 = y at d1 HP
      generalize (stAt ls k).2.2.1 = z at d2 HP
      generalize (stAt ls k).2.2.2 = u at d3 HP
      go_wp2_with ((go_at_call 31; refine (toStep_any x y z u _).mono ?_; rintro e w' ⟨rfl, hb⟩; replace HR : Hid (RowM 43 4 w' w.heap.size w.heap.size ls.length ls.length (stCs ls) (k * 4)) := RowM.on HR.out hb; replace hbel := below_seq hbel hb; clear hb; obtain ⟨u0, u1, u2, u3, c0, c1, c2, c3, f0, f1, f2, f3⟩ := rowSt_cells HR.out hlt))
      exact ⟨⟨k + 1, by omega, by go_num, HP.out HR.out, (((hbel.setCell (Nat.le_refl _) _).setCell (Nat.le_refl _) _).setCell (Nat.le_refl _) _).setCell (Nat.le_refl _) _⟩, by simp [intOf]; omega⟩
    · obtain rfl : k = ls.length := by omega
      go_wp2_with fail
      go_ret
      exact ⟨rfl, HR.out.own rfl (stCs_len ls), hbel⟩

set_option maxHeartbeats 2000000 in
set_option maxRecDepth 100000 in
theorem eqStepS_same (C C' : Nat) (w : World) (va vb : Value) (ls : List St) (hl : ls.length ≤ 140737488355328) (hC : C ≤ w.heap.size) (hC' : C' ≤ w.heap.size) (ha : RdSt C w va ls) (hb : RdSt C' w vb ls) :
    Calls Try.prog 13 #[va, vb] w fun e w' => e = .returned (.bool true) ∧ Below w.heap.size w w' := by
  obtain ⟨ao, ca, rfl, ha⟩ := ha
  obtain ⟨bo, cb, rfl, hb⟩ := hb
  go_enter Try.func13, Try.ntmps13
  go_wp2_with fail
  go_loopw [5] (fun ti wr => ∃ k : Nat, k ≤ ls.length ∧ ti = .int .i64 (k : Int) ∧ Below w.heap.size w wr) (fun ti _ => ls.length - (intOf ti).toNat)
  case atStart => exact ⟨0, Nat.zero_le _, rfl, Below.refl _ _⟩
  case round =>
    obtain ⟨k, hk, rfl, hB⟩ := hrel
    by_cases hlt : k < ls.length
    · obtain ⟨g, off, rfl, hg, hc⟩ := ha (by omega)
      obtain ⟨g', off', rfl, hg', hc'⟩ := hb (by omega)
      have d0 : wr.cell? ⟨g, off + k * 4, none⟩ = _ := (hB.cell (p := ⟨g, off + k * 4, none⟩) (by show g < _; omega)).trans (hc k hlt).1
      have d1 : wr.cell? ⟨g, off + k * 4 + 1, none⟩ = _ := (hB.cell (p := ⟨g, off + (k * 4 + 1), none⟩) (by show g < _; omega)).trans (hc k hlt).2.1
      have d2 : wr.cell? ⟨g, off + k * 4 + 2, none⟩ = _ := (hB.cell (p := ⟨g, off + (k * 4 + 2), none⟩) (by show g < _; omega)).trans (hc k hlt).2.2.1
      have d3 : wr.cell? ⟨g, off + k * 4 + 3, none⟩ = _ := (hB.cell (p := ⟨g, off + (k * 4 + 3), none⟩) (by show g < _; omega)).trans (hc k hlt).2.2.2
      have b0 : wr.cell? ⟨g', off' + k * 4, none⟩ = _ := (hB.cell (p := ⟨g', off' + k * 4, none⟩) (by show g' < _; omega)).trans (hc' k hlt).1
      have b1 : wr.cell? ⟨g', off' + k * 4 + 1, none⟩ = _ := (hB.cell (p := ⟨g', off' + (k * 4 + 1), none⟩) (by show g' < _; omega)).trans (hc' k hlt).2.1
      have b2 : wr.cell? ⟨g', off' + k * 4 + 2, none⟩ = _ := (hB.cell (p := ⟨g', off' + (k * 4 + 2), none⟩) (by show g' < _; omega)).trans (hc' k hlt).2.2.1
      have b3 : wr.cell? ⟨g', off' + k * 4 + 3, none⟩ = _ := (hB.cell (p := ⟨g', off' + (k * 4 + 3), none⟩) (by show g' < _; omega)).trans (hc' k hlt).2.2.2
      have j0 : (0 : Int) ≤ (k : Int) := by omega
      have j1 : (k : Int) < (ls.length : Int) := by omega
      have j2 : (k : Int) + 1 < 9223372036854775808 := by omega
      generalize (stAt ls k).1 = x at d0 b0
      generalize (stAt ls k).2.1 = y at d1 b1
      generalize (stAt ls k).2.2.1 = z at d2 b2
      generalize (stAt ls k).2.2.2 = u at d3 b3
      clear hc hc' ha hb
      go_wp2_with fail
      go_region_held2 (fun w' => w'.cell? ⟨g, off + k * 4, none⟩ = some (.int .i64 x) ∧ w'.cell? ⟨g, off + k * 4 + 1, none⟩ = some (.string y) ∧ w'.cell? ⟨g, off + k * 4 + 2, none⟩ = some (.string z) ∧ w'.cell? ⟨g, off + k * 4 + 3, none⟩ = some (.string u) ∧ w'.cell? ⟨g', off' + k * 4, none⟩ = some (.int .i64 x) ∧ w'.cell? ⟨g', off' + k * 4 + 1, none⟩ = some (.string y) ∧ w'.cell? ⟨g', off' + k * 4 + 2, none⟩ = some (.string z) ∧ w'.cell? ⟨g', off' + k * 4 + 3, none⟩ = some (.string u)) (exact ⟨d0, d1, d2, d3, b0, b1, b2, b3⟩) ((go_at_call 37; refine (eqStep_same x y z u _).mono ?_; rintro e w' ⟨rfl, hb⟩; replace d0 := cell_on hb d0; replace d1 := cell_on hb d1; replace d2 := cell_on hb d2; replace d3 := cell_on hb d3; replace b0 := cell_on hb b0; replace b1 := cell_on hb b1; replace b2 := cell_on hb b2; replace b3 := cell_on hb b3; replace hB := below_seq hB.drew hb; clear hb))
      go_wp2_with fail
      go_roundw
      case rel => exact ⟨k + 1, by omega, by go_num, hB⟩
      case measure => simp [intOf]; omega
    · obtain rfl : k = ls.length := by omega
      go_wp2_with fail
      go_ret
      exact ⟨rfl, hB⟩

/-- What is written over n steps, from q on. -/
def marksSt (q n : Nat) : List St := (List.range n).map fun i => (((q + 4 * i : Nat) : Int), mt (q + 4 * i + 1), mt (q + 4 * i + 2), mt (q + 4 * i + 3))
theorem marksSt_at {q n k : Nat} (h : k < n) : stAt (marksSt q n) k = (((q + 4 * k : Nat) : Int), mt (q + 4 * k + 1), mt (q + 4 * k + 2), mt (q + 4 * k + 3)) := by simp [stAt, marksSt, h]
theorem marksSt_len (q n : Nat) : (marksSt q n).length = n := by simp [marksSt]

set_option maxHeartbeats 4000000 in
set_option maxRecDepth 100000 in
theorem markStepF_any (B g n c : Nat) (w : World) (cs0 : List Value) (k0 q : Nat) (hn : n ≤ 1048576) (hq : q ≤ 8388608) (hR : RowM 43 4 w B g n c cs0 k0) :
    Calls Try.prog 14 #[.slice (some ⟨g, 0, none⟩) n c, .int .i64 (q : Int)] w fun e w' => e = .returned (.int .i64 ((q + 4 * n : Nat) : Int)) ∧ RowM 43 4 w' B g n c (stCs (marksSt q n)) (n * 4) ∧ w.grownBy w' (some g) := by
  have HR0 : Hid (RowM 43 4 w B g n c (stCs (marksSt q n)) (0 * 4)) := by rw [Nat.zero_mul]; exact hR.fresh
  clear hR
  go_enter Try.func14, Try.ntmps14
  go_wp2_with fail
  go_loopw [1, 5] (fun tq ti wr => ∃ k : Nat, k ≤ n ∧ ti = .int .i64 (k : Int) ∧ tq = .int .i64 ((q + 4 * k : Nat) : Int) ∧ Hid (RowM 43 4 wr B g n c (stCs (marksSt q n)) (k * 4)) ∧ w.grownBy wr (some g)) (fun _ ti _ => n - (intOf ti).toNat)
  case atStart => exact ⟨0, Nat.zero_le _, rfl, rfl, HR0, World.grownBy.refl _ _⟩
  case round =>
    clear HR0
    obtain ⟨k, hk, rfl, rfl, HR, hG⟩ := hrel
    by_cases hlt : k < n
    · have j0 : (0 : Int) ≤ (k : Int) := by omega
      have j1 : (k : Int) < (n : Int) := by omega
      have j2 : (k : Int) + 1 < 9223372036854775808 := by omega
      have hat := marksSt_at (q := q) hlt
      have hcs := stCs_at (ls := marksSt q n) (k := k) (by rw [marksSt_len]; exact hlt)
      rw [hat] at hcs
      obtain ⟨e0, e1, e2, e3⟩ := hcs
      have hT1 := fun w => markText_any (q + 4 * k + 1) (by omega) w
      rw [show ((q + 4 * k + 1 : Nat) : Int) = ((q + 4 * k : Nat) : Int) + 1 by omega] at hT1
      have hT2 := fun w => markText_any (q + 4 * k + 2) (by omega) w
      rw [show ((q + 4 * k + 2 : Nat) : Int) = ((q + 4 * k : Nat) : Int) + 1 + 1 by omega] at hT2
      have hT3 := fun w => markText_any (q + 4 * k + 3) (by omega) w
      rw [show ((q + 4 * k + 3 : Nat) : Int) = ((q + 4 * k : Nat) : Int) + 1 + 1 + 1 by omega] at hT3
      have HQ : Hid (((q + 4 * (k + 1) : Nat) : Int) = ((q + 4 * k : Nat) : Int) + 1 + 1 + 1 + 1) := by show _ = _; omega
      have hm0 : ((q + 4 * k : Nat) : Int) + 1 + 1 + 1 + 1 < 9223372036854775808 := by omega
      replace e0 : (stCs (marksSt q n))[k * 4]? = some (.int .i64 ((q + 4 * k : Nat) : Int)) := e0
      replace e1 : (stCs (marksSt q n))[k * 4 + 1]? = some (.string (mt (q + 4 * k + 1))) := e1
      replace e2 : (stCs (marksSt q n))[k * 4 + 2]? = some (.string (mt (q + 4 * k + 2))) := e2
      replace e3 : (stCs (marksSt q n))[k * 4 + 3]? = some (.string (mt (q + 4 * k + 3))) := e3
      obtain ⟨x, hx⟩ : ∃ x : Int, ((q + 4 * k : Nat) : Int) = x := ⟨_, rfl⟩
      have hx0 : 0 ≤ x := by omega
      simp only [hx] at hT1 hT2 hT3 HQ hm0 e0 ⊢
      generalize mt (q + 4 * k + 1) = tx1 at hT1 e1
      generalize mt (q + 4 * k + 2) = tx2 at hT2 e2
      generalize mt (q + 4 * k + 3) = tx3 at hT3 e3
      clear hat hx
      generalize stCs (marksSt q n) = CS at *
      have hk0 : k * 4 < n * 4 := by omega
      obtain ⟨u0, c0, f0⟩ := RowM.cell HR.out (k * 4) hk0
      replace HR : Hid (RowM 43 4 (wr.setCell ⟨g, k * 4, none⟩ (.int .i64 x)) B g n c CS (k * 4 + 1)) := RowM.put HR.out (by omega) e0
      replace hG : w.grownBy (wr.setCell ⟨g, k * 4, none⟩ (.int .i64 x)) (some g) := grownBy_trans hG (grownBy_set wr g (k * 4) _)
      go_wp2_with fail
      refine (hT1 _).mono ?_
      rintro e v1 ⟨rfl, hb1⟩
      replace HR : Hid (RowM 43 4 v1 B g n c CS (k * 4 + 1)) := RowM.on HR.out hb1
      replace hG : w.grownBy v1 (some g) := grownBy_trans hG (grownBy_below hb1 (Nat.le_refl _) (some g))
      clear hb1 hT1
      obtain ⟨u1', c1, f1⟩ := RowM.cell HR.out (k * 4 + 1) (by omega)
      replace HR : Hid (RowM 43 4 (v1.setCell ⟨g, k * 4 + 1, none⟩ (.string tx1)) B g n c CS (k * 4 + 1 + 1)) := RowM.put HR.out (by omega) e1
      replace hG : w.grownBy (v1.setCell ⟨g, k * 4 + 1, none⟩ (.string tx1)) (some g) := grownBy_trans hG (grownBy_set v1 g (k * 4 + 1) _)
      go_wp2_with fail
      refine (hT2 _).mono ?_
      rintro e v2 ⟨rfl, hb2⟩
      replace HR : Hid (RowM 43 4 v2 B g n c CS (k * 4 + 2)) := RowM.on HR.out hb2
      replace hG : w.grownBy v2 (some g) := grownBy_trans hG (grownBy_below hb2 (Nat.le_refl _) (some g))
      clear hb2 hT2
      obtain ⟨u2', c2, f2⟩ := RowM.cell HR.out (k * 4 + 2) (by omega)
      replace HR : Hid (RowM 43 4 (v2.setCell ⟨g, k * 4 + 2, none⟩ (.string tx2)) B g n c CS (k * 4 + 2 + 1)) := RowM.put HR.out (by omega) e2
      replace hG : w.grownBy (v2.setCell ⟨g, k * 4 + 2, none⟩ (.string tx2)) (some g) := grownBy_trans hG (grownBy_set v2 g (k * 4 + 2) _)
      go_wp2_with fail
      refine (hT3 _).mono ?_
      rintro e v3 ⟨rfl, hb3⟩
      replace HR : Hid (RowM 43 4 v3 B g n c CS (k * 4 + 3)) := RowM.on HR.out hb3
      replace hG : w.grownBy v3 (some g) := grownBy_trans hG (grownBy_below hb3 (Nat.le_refl _) (some g))
      clear hb3 hT3
      obtain ⟨u3', c3, f3⟩ := RowM.cell HR.out (k * 4 + 3) (by omega)
      replace HR : Hid (RowM 43 4 (v3.setCell ⟨g, k * 4 + 3, none⟩ (.string tx3)) B g n c CS (k * 4 + 3 + 1)) := RowM.put HR.out (by omega) e3
      replace hG : w.grownBy (v3.setCell ⟨g, k * 4 + 3, none⟩ (.string tx3)) (some g) := grownBy_trans hG (grownBy_set v3 g (k * 4 + 3) _)
      go_wp2_with fail
      go_roundw
      case rel => exact ⟨k + 1, by omega, by go_num, by rw [HQ.out], (show (k + 1) * 4 = k * 4 + 3 + 1 by omega) ▸ HR, hG⟩
      case measure => simp [intOf]; omega
    · obtain rfl : k = n := by omega
      go_wp2_with fail
      go_ret
      exact ⟨rfl, HR.out, hG⟩

set_option maxHeartbeats 1000000 in
set_option maxRecDepth 100000 in
theorem markStepS_own (B : Nat) (w : World) (v : Value) (ls : List St) (q : Nat) (hn : ls.length ≤ 1048576) (hq : q ≤ 8388608) (ho : OwnSt w B v ls) :
    Calls Try.prog 14 #[v, .int .i64 (q : Int)] w fun e w' => e = .returned (.int .i64 ((q + 4 * ls.length : Nat) : Int)) ∧ OwnSt w' B v (marksSt q ls.length) ∧ w.grownBy w' v.ownBlock := by
  rcases ownM_shape ho with ⟨rfl, h0, _⟩ | ⟨g, c, rfl, _, hlt, _⟩
  · have : ls = [] := List.eq_nil_of_length_eq_zero h0
    subst this
    have ho' : OwnSt w B (.slice none 0 0) (marksSt q ([] : List St).length) := ho
    clear ho
    go_enter Try.func14, Try.ntmps14
    go_wp2_with fail
    go_loopw [1, 5] (fun tq ti wr => ti = .int .i64 0 ∧ tq = .int .i64 (q : Int) ∧ wr = w) (fun _ ti _ => 0)
    case atStart => exact ⟨rfl, rfl, rfl⟩
    case round =>
      obtain ⟨rfl, rfl, rfl⟩ := hrel
      go_wp2_with fail
      go_ret
      exact ⟨by simp, ho', World.grownBy.refl _ _⟩
  · refine (markStepF_any B g ls.length c w _ 0 q hn hq (rowM_of ho 0)).mono ?_
    rintro e w' ⟨rfl, hR, hg⟩
    have := hR.own rfl (by rw [stCs_len, marksSt_len])
    refine ⟨rfl, ?_, hg⟩
    unfold OwnSt
    rw [marksSt_len]
    exact this

end Go.Proofs.Ytagnpahkhaighaa
