/- The laws' own functions over lists of pairs: their size, their copy, that two alike are alike, the writing over and what holds it. No condition: they are lemmas. -/
import Derived.Test.YtagnpahkhaighaaRowsM
namespace Go.Proofs.Ytagnpahkhaighaa
open Go.RowKit
set_option linter.unusedVariables false

theorem infoPair : (Try.prog.info? 46).map (fun i => (i.zero, i.size, i.bytes)) = some (some (.agg #[.string ByteArray.empty, .string ByteArray.empty]), 2, 32) := by kernel_rfl

/-- A pair as it stands in memory: its fields. -/
abbrev Pr := ByteArray × ByteArray
def Pr.cs (e : Pr) : List Value := [.string (e.1), .string (e.2)]
def prCs : List Pr → List Value
  | [] => []
  | e :: r => Pr.cs e ++ prCs r
def prAt (ls : List Pr) (k : Nat) : Pr := ls.getD k default
theorem prCs_len : ∀ ls : List Pr, (prCs ls).length = ls.length * 2
  | [] => rfl
  | e :: r => by rw [prCs, List.length_append, prCs_len r, List.length_cons]; show 2 + _ = _; omega
theorem prCs_app : ∀ a b : List Pr, prCs (a ++ b) = prCs a ++ prCs b
  | [], b => rfl
  | e :: r, b => by rw [List.cons_append, prCs, prCs_app r b, prCs, List.append_assoc]
theorem prCs_cell : ∀ (ls : List Pr) (k j : Nat), k < ls.length → j < 2 → (prCs ls)[k * 2 + j]? = (Pr.cs (prAt ls k))[j]?
  | [], k, j, h, _ => absurd h (by simp)
  | e :: r, 0, j, _, hj => by
    rw [prCs, Nat.zero_mul, Nat.zero_add, List.getElem?_append_left (by show j < 2; omega)]
    rfl
  | e :: r, k + 1, j, h, hj => by
    have h2 : k < r.length := by simpa using h
    have := prCs_cell r k j h2 hj
    rw [prCs, List.getElem?_append_right (by show 2 ≤ _; omega)]
    show (prCs r)[(k + 1) * 2 + j - 2]? = _
    rw [show (k + 1) * 2 + j - 2 = k * 2 + j by omega, this]
    rfl
theorem prCs_at {ls : List Pr} {k : Nat} (h : k < ls.length) : (prCs ls)[k * 2]? = some (.string (prAt ls k).1) ∧ (prCs ls)[k * 2 + 1]? = some (.string (prAt ls k).2) :=
  ⟨prCs_cell ls k 0 h (by decide), prCs_cell ls k 1 h (by decide)⟩
theorem prCs_one (ls : List Pr) : ∀ u ∈ prCs ls, u.oneCell' = true := by
  induction ls with
  | nil => intro u hu; exact absurd hu (by simp [prCs])
  | cons e r ih =>
    intro u hu
    rw [prCs] at hu
    rcases List.mem_append.1 hu with hu | hu
    · simp only [Pr.cs, List.mem_cons, List.not_mem_nil, or_false] at hu
      rcases hu with rfl | rfl <;> rfl
    · exact ih u hu
theorem prAt_take {ls : List Pr} {k j : Nat} (h : j < k) : prAt (ls.take k) j = prAt ls j := by
  simp only [prAt, List.getD_eq_getElem?_getD, List.getElem?_take, if_pos h]
theorem pr_take_succ {ls : List Pr} {k : Nat} (h : k < ls.length) : ls.take (k + 1) = ls.take k ++ [prAt ls k] := by
  rw [List.take_succ_eq_append_getElem h]
  simp [prAt, h]
theorem prAt_mem {ls : List Pr} {k : Nat} (h : k < ls.length) : prAt ls k ∈ ls := by
  simp [prAt, h]

/-- The slice v reads as the pairs of ls. -/
def RdPr (C : Nat) (w : World) (v : Value) (ls : List Pr) : Prop :=
  ∃ ao cap, v = .slice ao ls.length cap ∧ (0 < ls.length → ∃ g off, ao = some ⟨g, off, none⟩ ∧ g < C ∧ ∀ k, k < ls.length → w.cell? ⟨g, off + k * 2, none⟩ = some (.string (prAt ls k).1) ∧ w.cell? ⟨g, off + (k * 2 + 1), none⟩ = some (.string (prAt ls k).2))
/-- The slice v is a row of the call's own, from block B on: the pairs of ls. -/
def OwnPr (w : World) (B : Nat) (v : Value) (ls : List Pr) : Prop := w.ownsRow B 46 2 v ls.length (prCs ls)
theorem RdM.pr {C : Nat} {w : World} {v : Value} {ls : List Pr} (h : RdM 2 C w v ls.length (prCs ls)) : RdPr C w v ls := by
  obtain ⟨hl, ao, cap, rfl, _, _, _, hr⟩ := h
  refine ⟨ao, cap, rfl, fun hp => ?_⟩
  obtain ⟨g, off, rfl, hg, hc⟩ := hr hp
  refine ⟨g, off, rfl, hg, fun k hk => ?_⟩
  have := prCs_at hk
  exact ⟨hc _ _ this.1, hc _ _ this.2⟩
theorem RdPr.mono {C C' : Nat} {w : World} {v : Value} {ls : List Pr} (h : RdPr C w v ls) (hc : C ≤ C') : RdPr C' w v ls := by
  obtain ⟨ao, cap, rfl, h⟩ := h
  refine ⟨ao, cap, rfl, fun hp => ?_⟩
  obtain ⟨g, off, rfl, hg, hr⟩ := h hp
  exact ⟨g, off, rfl, by omega, hr⟩
theorem RdPr.on {C : Nat} {w w' : World} {v : Value} {ls : List Pr} (h : RdPr C w v ls) (hC : C ≤ w.heap.size) (hb : Below w.heap.size w w') : RdPr C w' v ls := by
  obtain ⟨ao, cap, rfl, h⟩ := h
  refine ⟨ao, cap, rfl, fun hp => ?_⟩
  obtain ⟨g, off, rfl, hg, hr⟩ := h hp
  exact ⟨g, off, rfl, hg, fun k hk => ⟨cell_on hb (hr k hk).1, cell_on hb (hr k hk).2⟩⟩
theorem OwnPr.rd {w : World} {B : Nat} {v : Value} {ls : List Pr} (h : OwnPr w B v ls) : RdPr w.heap.size w v ls := (ownM_rd h).pr
theorem OwnPr.on {w w' : World} {B : Nat} {v : Value} {ls : List Pr} (h : OwnPr w B v ls) (hb : Below w.heap.size w w') : OwnPr w' B v ls := ownM_on h hb

set_option maxHeartbeats 1000000 in
set_option maxRecDepth 100000 in
theorem toPair_any (x : ByteArray) (y : ByteArray) (w : World) :
    Calls Try.prog 32 #[.agg #[.string x, .string y]] w fun e w' => e = .returned (.agg #[.string x, .string y]) ∧ Below w.heap.size w w' := by
  go_enter Try.func32, Try.ntmps32
  go_wp2_with fail
  refine bodyPost_ret (v := .agg #[.string x, .string y]) ?_ rfl ⟨rfl, ?_⟩
  · simp [results, Try.results32, go_sem]
  · repeat (first | exact below_alloc _ _ | refine below_then ?_ _ | refine Below.setCell ?_ (by show _ ≤ _; first | omega | (simp; done) | (simp; omega)) _)

set_option maxHeartbeats 1000000 in
set_option maxRecDepth 100000 in
theorem eqPair_same (x : ByteArray) (y : ByteArray) (w : World) :
    Calls Try.prog 36 #[.agg #[.string x, .string y], .agg #[.string x, .string y]] w fun e w' => e = .returned (.bool true) ∧ Below w.heap.size w w' := by
  go_enter Try.func36, Try.ntmps36
  go_wp2_with fail
  go_ret
  exact ⟨rfl, below_then (below_alloc _ _) _⟩

set_option maxHeartbeats 1000000 in
theorem szPair_any (x : ByteArray) (y : ByteArray) (l : Int) (h0 : 0 ≤ l) (h1 : l ≤ 1048576) (hx : x.size ≤ 9223372036854775807) (hy : y.size ≤ 9223372036854775807) (w : World) :
    Calls Try.prog 25 #[.agg #[.string x, .string y], .int .i64 l] w fun e w' => (∃ x : Int, e = .returned (.int .i64 x) ∧ -1 ≤ x ∧ x ≤ l) ∧ Below w.heap.size w w' := by
  by_cases h_x : l - (x.size : Int) < 0
  · go_enter Try.func25, Try.ntmps25
    go_wp2_with fail
    go_ret
    exact ⟨⟨_, rfl, by omega, by omega⟩, below_alloc _ _⟩
  by_cases h_y : l - (x.size : Int) - (y.size : Int) < 0
  · go_enter Try.func25, Try.ntmps25
    go_wp2_with fail
    go_ret
    exact ⟨⟨_, rfl, by omega, by omega⟩, below_alloc _ _⟩
  go_enter Try.func25, Try.ntmps25
  go_wp2_with fail
  go_ret
  exact ⟨⟨_, rfl, by omega, by omega⟩, below_alloc _ _⟩

set_option maxHeartbeats 2000000 in
set_option maxRecDepth 100000 in
theorem szPairS_any (C : Nat) (w : World) (v : Value) (ls : List Pr) (l : Int) (h0 : 0 ≤ l) (h1 : l ≤ 1048576) (hn : ls.length ≤ 9223372036854775807) (hs : ∀ k, (prAt ls k).1.size ≤ 9223372036854775807 ∧ (prAt ls k).2.size ≤ 9223372036854775807) (hC : C ≤ w.heap.size) (hr : RdPr C w v ls) :
    Calls Try.prog 7 #[v, .int .i64 l] w fun e w' => (∃ x : Int, e = .returned (.int .i64 x) ∧ -1 ≤ x ∧ x ≤ 1048576 ∧ (0 ≤ x → ls.length ≤ 1048576)) ∧ Below w.heap.size w w' := by
  obtain ⟨ao, cap, rfl, hr⟩ := hr
  by_cases h : l - (ls.length : Int) < 0
  · go_enter Try.func7, Try.ntmps7
    go_wp2_with fail
    go_ret
    exact ⟨⟨_, rfl, by omega, by omega, by omega⟩, Below.refl _ _⟩
  · have hlen : ls.length ≤ 1048576 := by omega
    go_enter Try.func7, Try.ntmps7
    go_wp2_with fail
    go_loopw [1, 5] (fun tl ti wr => ∃ (k : Nat) (x : Int), k ≤ ls.length ∧ ti = .int .i64 (k : Int) ∧ tl = .int .i64 x ∧ 0 ≤ x ∧ x ≤ 1048576 ∧ Below w.heap.size w wr) (fun _ ti _ => ls.length - (intOf ti).toNat)
    case atStart => exact ⟨0, _, Nat.zero_le _, rfl, rfl, by omega, by omega, Below.refl _ _⟩
    case round =>
      obtain ⟨k, q, hk, rfl, rfl, q0, q1, hB⟩ := hrel
      by_cases hlt : k < ls.length
      · obtain ⟨g, off, rfl, hg, hc⟩ := hr (by omega)
        have d0 : wr.cell? ⟨g, off + k * 2, none⟩ = _ := (hB.cell (p := ⟨g, off + k * 2, none⟩) (by show g < _; omega)).trans (hc k hlt).1
        have d1 : wr.cell? ⟨g, off + k * 2 + 1, none⟩ = _ := (hB.cell (p := ⟨g, off + (k * 2 + 1), none⟩) (by show g < _; omega)).trans (hc k hlt).2
        have j0 : (0 : Int) ≤ (k : Int) := by omega
        have j1 : (k : Int) < (ls.length : Int) := by omega
        have j2 : (k : Int) + 1 < 9223372036854775808 := by omega
        have hsk := hs k
        generalize (prAt ls k).1 = x at d0 hsk
        generalize (prAt ls k).2 = y at d1 hsk
        clear hc hr hs
        go_wp2_with fail
        refine (szPair_any x y q q0 q1 hsk.1 hsk.2 _).mono ?_
        rintro e w2 ⟨⟨y9, rfl, y0, y1⟩, hb2⟩
        replace hB := below_seq hB hb2
        by_cases hy : y9 < 0
        · go_wp2_with fail
          go_ret
          exact ⟨⟨_, rfl, by omega, by omega, by omega⟩, hB⟩
        · have hy0 : decide (y9 < 0) = false := by simp; omega
          have hy1 : 0 ≤ y9 := by omega
          clear hy
          go_wp2_with fail
          go_roundw
          case rel => exact ⟨k + 1, y9, by omega, by go_num, rfl, by omega, by omega, hB⟩
          case measure => simp [intOf]; omega
      · obtain rfl : k = ls.length := by omega
        go_wp2_with fail
        go_ret
        exact ⟨⟨_, rfl, by omega, by omega, fun _ => hlen⟩, hB⟩

theorem rowPr_cells {w : World} {B g n c : Nat} {cs : List Value} {q : Nat} (h : RowM 46 2 w B g n c cs q) {k : Nat} (hk : k < n) : ∃ u0 u1, w.cell? ⟨g, k * 2, none⟩ = some u0 ∧ w.cell? ⟨g, k * 2 + 1, none⟩ = some u1 ∧ w.frozen? ⟨g, k * 2, none⟩ = false ∧ w.frozen? ⟨g, k * 2 + 1, none⟩ = false := by
  obtain ⟨u0, c0, f0⟩ := h.cell (k * 2) (by omega); obtain ⟨u1, c1, f1⟩ := h.cell (k * 2 + 1) (by omega)
  exact ⟨u0, u1, c0, c1, f0, f1⟩

set_option maxHeartbeats 2000000 in
set_option maxRecDepth 100000 in
theorem toPairS_any (C : Nat) (w : World) (v : Value) (ls : List Pr) (hl : ls.length ≤ 1048576) (hC : C ≤ w.heap.size) (hr : RdPr C w v ls) :
    Calls Try.prog 10 #[v] w fun e w' => e = .returned (.slice (some ⟨w.heap.size, 0, none⟩) ls.length ls.length) ∧ OwnPr w' w.heap.size (.slice (some ⟨w.heap.size, 0, none⟩) ls.length ls.length) ls ∧ Below w.heap.size w w' := by
  obtain ⟨i0, hi, hz0, hz1, hz2⟩ := info_parts infoPair
  obtain ⟨ao, cap, rfl, hr⟩ := hr
  go_enter Try.func10, Try.ntmps10
  go_wp2_with (at_make; refine wpList_make_full _ rfl _ _ 26 rfl w.heap.size 46 i0 (.agg #[.string ByteArray.empty, .string ByteArray.empty]) 2 Try.underlying26 hi hz0 hz1 _ _ _ _ ls.length rfl rfl rfl rfl (by rw [hz2]; omega) (by unfold maxLen; omega) (Nat.le_refl _) ?_)
  intro w1 hown hgrow
  have hb1 : Below w.heap.size w w1 := (Below.refl _ _).grown hgrow (Nat.le_refl _) (fun k hk => by cases hk)
  have H1 : Hid (RowM 46 2 w1 w.heap.size w.heap.size ls.length ls.length (prCs ls) (0 * 2)) := ⟨_, hown, fun j hj => absurd hj (by omega)⟩
  clear hown hgrow
  go_wp2_with fail
  go_loopw [4] (fun i wr => ∃ k : Nat, k ≤ ls.length ∧ i = .int .i64 k ∧ Hid (RowM 46 2 wr w.heap.size w.heap.size ls.length ls.length (prCs ls) (k * 2)) ∧ Below w.heap.size w wr) (fun i _ => ls.length - (intOf i).toNat)
  case atStart => exact ⟨0, Nat.zero_le _, rfl, H1, hb1⟩
  case round =>
    clear H1 hb1
    obtain ⟨k, hk, rfl, HR, hbel⟩ := hrel
    by_cases hlt : k < ls.length
    · obtain ⟨g, off, rfl, hg, hc⟩ := hr (by omega)
      have d0 : wr.cell? ⟨g, off + k * 2, none⟩ = _ := (hbel.cell (p := ⟨g, off + k * 2, none⟩) (by show g < _; omega)).trans (hc k hlt).1
      have d1 : wr.cell? ⟨g, off + k * 2 + 1, none⟩ = _ := (hbel.cell (p := ⟨g, off + (k * 2 + 1), none⟩) (by show g < _; omega)).trans (hc k hlt).2
      have HP : Hid (∀ {w'}, RowM 46 2 w' w.heap.size w.heap.size ls.length ls.length (prCs ls) (k * 2) → RowM 46 2 ((w'.setCell ⟨w.heap.size, k * 2, none⟩ (.string (prAt ls k).1)).setCell ⟨w.heap.size, k * 2 + 1, none⟩ (.string (prAt ls k).2)) w.heap.size w.heap.size ls.length ls.length (prCs ls) ((k + 1) * 2)) := fun h => by
        have h2 := ((((h).put (by omega) (by exact (prCs_at hlt).1))).put (by omega) (by exact (prCs_at hlt).2))
        rw [show (k + 1) * 2 = k * 2 + 1 + 1 by omega]
        exact h2
      have j0 : (0 : Int) ≤ (k : Int) := by omega
      have j1 : (k : Int) < (ls.length : Int) := by omega
      have j2 : (k : Int) + 1 < 9223372036854775808 := by omega
      clear hc hr
      generalize (prAt ls k).1 = x at d0 HP
      generalize (prAt ls k).2 = y at d1 HP
      go_wp2_with ((go_at_call 32; refine (toPair_any x y _).mono ?_; rintro e w' ⟨rfl, hb⟩; replace HR : Hid (RowM 46 2 w' w.heap.size w.heap.size ls.length ls.length (prCs ls) (k * 2)) := RowM.on HR.out hb; replace hbel := below_seq hbel hb; clear hb; obtain ⟨u0, u1, c0, c1, f0, f1⟩ := rowPr_cells HR.out hlt))
      exact ⟨⟨k + 1, by omega, by go_num, HP.out HR.out, (hbel.setCell (Nat.le_refl _) _).setCell (Nat.le_refl _) _⟩, by simp [intOf]; omega⟩
    · obtain rfl : k = ls.length := by omega
      go_wp2_with fail
      go_ret
      exact ⟨rfl, HR.out.own rfl (prCs_len ls), hbel⟩

set_option maxHeartbeats 2000000 in
set_option maxRecDepth 100000 in
theorem eqPairS_same (C C' : Nat) (w : World) (va vb : Value) (ls : List Pr) (hl : ls.length ≤ 140737488355328) (hC : C ≤ w.heap.size) (hC' : C' ≤ w.heap.size) (ha : RdPr C w va ls) (hb : RdPr C' w vb ls) :
    Calls Try.prog 12 #[va, vb] w fun e w' => e = .returned (.bool true) ∧ Below w.heap.size w w' := by
  obtain ⟨ao, ca, rfl, ha⟩ := ha
  obtain ⟨bo, cb, rfl, hb⟩ := hb
  go_enter Try.func12, Try.ntmps12
  go_wp2_with fail
  go_loopw [5] (fun ti wr => ∃ k : Nat, k ≤ ls.length ∧ ti = .int .i64 (k : Int) ∧ Below w.heap.size w wr) (fun ti _ => ls.length - (intOf ti).toNat)
  case atStart => exact ⟨0, Nat.zero_le _, rfl, Below.refl _ _⟩
  case round =>
    obtain ⟨k, hk, rfl, hB⟩ := hrel
    by_cases hlt : k < ls.length
    · obtain ⟨g, off, rfl, hg, hc⟩ := ha (by omega)
      obtain ⟨g', off', rfl, hg', hc'⟩ := hb (by omega)
      have d0 : wr.cell? ⟨g, off + k * 2, none⟩ = _ := (hB.cell (p := ⟨g, off + k * 2, none⟩) (by show g < _; omega)).trans (hc k hlt).1
      have d1 : wr.cell? ⟨g, off + k * 2 + 1, none⟩ = _ := (hB.cell (p := ⟨g, off + (k * 2 + 1), none⟩) (by show g < _; omega)).trans (hc k hlt).2
      have b0 : wr.cell? ⟨g', off' + k * 2, none⟩ = _ := (hB.cell (p := ⟨g', off' + k * 2, none⟩) (by show g' < _; omega)).trans (hc' k hlt).1
      have b1 : wr.cell? ⟨g', off' + k * 2 + 1, none⟩ = _ := (hB.cell (p := ⟨g', off' + (k * 2 + 1), none⟩) (by show g' < _; omega)).trans (hc' k hlt).2
      have j0 : (0 : Int) ≤ (k : Int) := by omega
      have j1 : (k : Int) < (ls.length : Int) := by omega
      have j2 : (k : Int) + 1 < 9223372036854775808 := by omega
      generalize (prAt ls k).1 = x at d0 b0
      generalize (prAt ls k).2 = y at d1 b1
      clear hc hc' ha hb
      go_wp2_with fail
      go_region_held2 (fun w' => w'.cell? ⟨g, off + k * 2, none⟩ = some (.string x) ∧ w'.cell? ⟨g, off + k * 2 + 1, none⟩ = some (.string y) ∧ w'.cell? ⟨g', off' + k * 2, none⟩ = some (.string x) ∧ w'.cell? ⟨g', off' + k * 2 + 1, none⟩ = some (.string y)) (exact ⟨d0, d1, b0, b1⟩) ((go_at_call 36; refine (eqPair_same x y _).mono ?_; rintro e w' ⟨rfl, hb⟩; replace d0 := cell_on hb d0; replace d1 := cell_on hb d1; replace b0 := cell_on hb b0; replace b1 := cell_on hb b1; replace hB := below_seq hB.drew hb; clear hb))
      go_wp2_with fail
      go_roundw
      case rel => exact ⟨k + 1, by omega, by go_num, hB⟩
      case measure => simp [intOf]; omega
    · obtain rfl : k = ls.length := by omega
      go_wp2_with fail
      go_ret
      exact ⟨rfl, hB⟩

/-- What is written over n pairs, from q on. -/
def marksPr (q n : Nat) : List Pr := (List.range n).map fun i => (mt (q + 2 * i), mt (q + 2 * i + 1))
theorem marksPr_at {q n k : Nat} (h : k < n) : prAt (marksPr q n) k = (mt (q + 2 * k), mt (q + 2 * k + 1)) := by simp [prAt, marksPr, h]
theorem marksPr_len (q n : Nat) : (marksPr q n).length = n := by simp [marksPr]

set_option maxHeartbeats 4000000 in
set_option maxRecDepth 100000 in
theorem markPairF_any (B g n c : Nat) (w : World) (cs0 : List Value) (k0 q : Nat) (hn : n ≤ 1048576) (hq : q ≤ 8388608) (hR : RowM 46 2 w B g n c cs0 k0) :
    Calls Try.prog 15 #[.slice (some ⟨g, 0, none⟩) n c, .int .i64 (q : Int)] w fun e w' => e = .returned (.int .i64 ((q + 2 * n : Nat) : Int)) ∧ RowM 46 2 w' B g n c (prCs (marksPr q n)) (n * 2) ∧ w.grownBy w' (some g) := by
  have HR0 : Hid (RowM 46 2 w B g n c (prCs (marksPr q n)) (0 * 2)) := by rw [Nat.zero_mul]; exact hR.fresh
  clear hR
  go_enter Try.func15, Try.ntmps15
  go_wp2_with fail
  go_loopw [1, 5] (fun tq ti wr => ∃ k : Nat, k ≤ n ∧ ti = .int .i64 (k : Int) ∧ tq = .int .i64 ((q + 2 * k : Nat) : Int) ∧ Hid (RowM 46 2 wr B g n c (prCs (marksPr q n)) (k * 2)) ∧ w.grownBy wr (some g)) (fun _ ti _ => n - (intOf ti).toNat)
  case atStart => exact ⟨0, Nat.zero_le _, rfl, rfl, HR0, World.grownBy.refl _ _⟩
  case round =>
    clear HR0
    obtain ⟨k, hk, rfl, rfl, HR, hG⟩ := hrel
    by_cases hlt : k < n
    · have j0 : (0 : Int) ≤ (k : Int) := by omega
      have j1 : (k : Int) < (n : Int) := by omega
      have j2 : (k : Int) + 1 < 9223372036854775808 := by omega
      have hat := marksPr_at (q := q) hlt
      have hcs := prCs_at (ls := marksPr q n) (k := k) (by rw [marksPr_len]; exact hlt)
      rw [hat] at hcs
      obtain ⟨e0, e1⟩ := hcs
      have hT0 := fun w => markText_any (q + 2 * k) (by omega) w
      have hT1 := fun w => markText_any (q + 2 * k + 1) (by omega) w
      rw [show ((q + 2 * k + 1 : Nat) : Int) = ((q + 2 * k : Nat) : Int) + 1 by omega] at hT1
      have HQ : Hid (((q + 2 * (k + 1) : Nat) : Int) = ((q + 2 * k : Nat) : Int) + 1 + 1) := by show _ = _; omega
      have hm0 : ((q + 2 * k : Nat) : Int) + 1 + 1 < 9223372036854775808 := by omega
      replace e0 : (prCs (marksPr q n))[k * 2]? = some (.string (mt (q + 2 * k))) := e0
      replace e1 : (prCs (marksPr q n))[k * 2 + 1]? = some (.string (mt (q + 2 * k + 1))) := e1
      obtain ⟨x, hx⟩ : ∃ x : Int, ((q + 2 * k : Nat) : Int) = x := ⟨_, rfl⟩
      have hx0 : 0 ≤ x := by omega
      simp only [hx] at hT0 hT1 HQ hm0 ⊢
      generalize mt (q + 2 * k) = tx0 at hT0 e0
      generalize mt (q + 2 * k + 1) = tx1 at hT1 e1
      clear hat hx
      generalize prCs (marksPr q n) = CS at *
      have hk0 : k * 2 < n * 2 := by omega
      obtain ⟨u0, c0, f0⟩ := RowM.cell HR.out (k * 2) hk0
      go_wp2_with fail
      refine (hT0 _).mono ?_
      rintro e v0 ⟨rfl, hb0⟩
      replace HR : Hid (RowM 46 2 v0 B g n c CS (k * 2)) := RowM.on HR.out hb0
      replace hG : w.grownBy v0 (some g) := grownBy_trans hG (grownBy_below hb0 (Nat.le_refl _) (some g))
      clear hb0 hT0
      clear c0 f0; obtain ⟨u0', c0, f0⟩ := RowM.cell HR.out (k * 2) (by omega)
      replace HR : Hid (RowM 46 2 (v0.setCell ⟨g, k * 2, none⟩ (.string tx0)) B g n c CS (k * 2 + 1)) := RowM.put HR.out (by omega) e0
      replace hG : w.grownBy (v0.setCell ⟨g, k * 2, none⟩ (.string tx0)) (some g) := grownBy_trans hG (grownBy_set v0 g (k * 2) _)
      go_wp2_with fail
      refine (hT1 _).mono ?_
      rintro e v1 ⟨rfl, hb1⟩
      replace HR : Hid (RowM 46 2 v1 B g n c CS (k * 2 + 1)) := RowM.on HR.out hb1
      replace hG : w.grownBy v1 (some g) := grownBy_trans hG (grownBy_below hb1 (Nat.le_refl _) (some g))
      clear hb1 hT1
      obtain ⟨u1', c1, f1⟩ := RowM.cell HR.out (k * 2 + 1) (by omega)
      replace HR : Hid (RowM 46 2 (v1.setCell ⟨g, k * 2 + 1, none⟩ (.string tx1)) B g n c CS (k * 2 + 1 + 1)) := RowM.put HR.out (by omega) e1
      replace hG : w.grownBy (v1.setCell ⟨g, k * 2 + 1, none⟩ (.string tx1)) (some g) := grownBy_trans hG (grownBy_set v1 g (k * 2 + 1) _)
      go_wp2_with fail
      go_roundw
      case rel => exact ⟨k + 1, by omega, by go_num, by rw [HQ.out], (show (k + 1) * 2 = k * 2 + 1 + 1 by omega) ▸ HR, hG⟩
      case measure => simp [intOf]; omega
    · obtain rfl : k = n := by omega
      go_wp2_with fail
      go_ret
      exact ⟨rfl, HR.out, hG⟩

set_option maxHeartbeats 1000000 in
set_option maxRecDepth 100000 in
theorem markPairS_own (B : Nat) (w : World) (v : Value) (ls : List Pr) (q : Nat) (hn : ls.length ≤ 1048576) (hq : q ≤ 8388608) (ho : OwnPr w B v ls) :
    Calls Try.prog 15 #[v, .int .i64 (q : Int)] w fun e w' => e = .returned (.int .i64 ((q + 2 * ls.length : Nat) : Int)) ∧ OwnPr w' B v (marksPr q ls.length) ∧ w.grownBy w' v.ownBlock := by
  rcases ownM_shape ho with ⟨rfl, h0, _⟩ | ⟨g, c, rfl, _, hlt, _⟩
  · have : ls = [] := List.eq_nil_of_length_eq_zero h0
    subst this
    have ho' : OwnPr w B (.slice none 0 0) (marksPr q ([] : List Pr).length) := ho
    clear ho
    go_enter Try.func15, Try.ntmps15
    go_wp2_with fail
    go_loopw [1, 5] (fun tq ti wr => ti = .int .i64 0 ∧ tq = .int .i64 (q : Int) ∧ wr = w) (fun _ ti _ => 0)
    case atStart => exact ⟨rfl, rfl, rfl⟩
    case round =>
      obtain ⟨rfl, rfl, rfl⟩ := hrel
      go_wp2_with fail
      go_ret
      exact ⟨by simp, ho', World.grownBy.refl _ _⟩
  · refine (markPairF_any B g ls.length c w _ 0 q hn hq (rowM_of ho 0)).mono ?_
    rintro e w' ⟨rfl, hR, hg⟩
    have := hR.own rfl (by rw [prCs_len, marksPr_len])
    refine ⟨rfl, ?_, hg⟩
    unfold OwnPr
    rw [marksPr_len]
    exact this

set_option maxHeartbeats 2000000 in
set_option maxRecDepth 100000 in
theorem heldPairS_same (C : Nat) (w : World) (v : Value) (q n : Nat) (hn : n ≤ 1048576) (hq : q ≤ 8388608) (hC : C ≤ w.heap.size) (hr : RdPr C w v (marksPr q n)) :
    Calls Try.prog 16 #[v, .int .i64 (q : Int)] w fun e w' => e = .returned (.int .i64 ((q + 2 * n : Nat) : Int)) ∧ Below w.heap.size w w' := by
  obtain ⟨eo, ec, rfl, hE⟩ := hr
  rw [marksPr_len] at hE ⊢
  go_enter Try.func16, Try.ntmps16
  go_wp2_with fail
  go_loopw [1, 5] (fun tq ti wr => ∃ k : Nat, k ≤ n ∧ ti = .int .i64 (k : Int) ∧ tq = .int .i64 ((q + 2 * k : Nat) : Int) ∧ Below w.heap.size w wr) (fun _ ti _ => n - (intOf ti).toNat)
  case atStart => exact ⟨0, Nat.zero_le _, rfl, rfl, Below.refl _ _⟩
  case round =>
    obtain ⟨k, hk, rfl, rfl, hB⟩ := hrel
    by_cases hlt : k < n
    · obtain ⟨g, off, rfl, hg, hc⟩ := hE (by omega)
      have hck := hc k hlt
      rw [marksPr_at hlt] at hck
      obtain ⟨q0, q1⟩ := hck
      rw [← hB.cell (p := ⟨g, off + k * 2, none⟩) (by show g < _; omega)] at q0
      replace q0 : wr.cell? ⟨g, off + k * 2, none⟩ = some (.string (mt (q + 2 * k))) := q0
      have hT0 := fun w => markText_any (q + 2 * k) (by omega) w
      rw [← hB.cell (p := ⟨g, off + (k * 2 + 1), none⟩) (by show g < _; omega)] at q1
      replace q1 : wr.cell? ⟨g, off + k * 2 + 1, none⟩ = some (.string (mt (q + 2 * k + 1))) := q1
      have hT1 := fun w => markText_any (q + 2 * k + 1) (by omega) w
      rw [show ((q + 2 * k + 1 : Nat) : Int) = ((q + 2 * k : Nat) : Int) + 1 by omega] at hT1
      have HQ : Hid (((q + 2 * (k + 1) : Nat) : Int) = ((q + 2 * k : Nat) : Int) + 1 + 1) := by show _ = _; omega
      have hm0 : ((q + 2 * k : Nat) : Int) + 1 + 1 < 9223372036854775808 := by omega
      obtain ⟨x, hx⟩ : ∃ x : Int, ((q + 2 * k : Nat) : Int) = x := ⟨_, rfl⟩
      have hx0 : 0 ≤ x := by omega
      simp only [hx] at hT0 hT1 HQ hm0 ⊢
      generalize mt (q + 2 * k) = tx0 at hT0 q0
      generalize mt (q + 2 * k + 1) = tx1 at hT1 q1
      have j0 : (0 : Int) ≤ (k : Int) := by omega
      have j1 : (k : Int) < (n : Int) := by omega
      have j2 : (k : Int) + 1 < 9223372036854775808 := by omega
      clear hc hE hx
      go_wp2_with fail
      go_region_held2 (fun w' => w'.cell? ⟨g, off + k * 2, none⟩ = some (.string tx0)) (first | exact q0 | exact cell_on hbT q0) (first | (go_at_call 38; refine (hT0 _).mono ?_; rintro e w3 ⟨rfl, hbT⟩))
      replace q1 := cell_on (w := _) hbT (show World.cell? _ _ = _ from q1)
      replace hB := below_seq hB.drew hbT
      clear hT0 q0 hbT
      go_wp2_with fail
      go_region_held2 (fun w' => w'.cell? ⟨g, off + k * 2 + 1, none⟩ = some (.string tx1)) (first | exact q1 | exact cell_on hbT q1) (first | (go_at_call 38; refine (hT1 _).mono ?_; rintro e w3 ⟨rfl, hbT⟩))
      replace hB := below_seq hB.drew hbT
      clear hT1 q1 hbT
      go_wp2_with fail
      go_roundw
      case rel => exact ⟨k + 1, by omega, by go_num, by rw [HQ.out], hB⟩
      case measure => simp [intOf]; omega
    · obtain rfl : k = n := by omega
      go_wp2_with fail
      go_ret
      exact ⟨rfl, hB⟩

end Go.Proofs.Ytagnpahkhaighaa
