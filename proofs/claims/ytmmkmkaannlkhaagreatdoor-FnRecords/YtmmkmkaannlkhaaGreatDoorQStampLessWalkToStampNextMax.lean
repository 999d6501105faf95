/- What the two functions StampLess do, and the walk of the law over both: it answers true at every two stamps. What the code's stampOrNone and stampAbove do. What inRun, foldSign, runSize, appendRun and the code's PutRuns do. What appendRun and the code's PutRuns do. What l01RunsOK, l01Signed, l01PutRuns and the specification's PutRuns do. The next stamp: plain facts. The greatest of a list of stamps, and the specification's step, both number by number. A list of stamps in memory, and what MaxFunc over the code's order answers. -/
import Derived.Deep.RegionHeld2
import Derived.Test.YtmmkmkaannlkhaaGreatDoorQInfoToLawAt
import Derived.Test.YtmmkmkaannlkhaaGreatDoorQBaseToOwnType
namespace Go.Proofs.YtmmkmkaannlkhaaGreatDoor
open Go.RowKit
set_option linter.unusedVariables false

/-- How two numbers stand to one another; and two stamps. -/
def cmpI (x y : Int) : Int := if x < y then -1 else if y < x then 1 else 0
def orI (x y : Int) : Int := if x = 0 then y else x
def cmpS (t a t' a' : Int) : Int := orI (cmpI t t') (cmpI a a')
theorem orI_not {x y : Int} (h : ¬ x = 0) : orI x y = x := if_neg h
theorem orI_zero {y : Int} : orI 0 y = y := rfl
def lessS (t a t' a' : Int) : Bool := decide (t < t' ∨ t = t' ∧ a < a')
theorem cmpI_bd (x y : Int) : -1 ≤ cmpI x y ∧ cmpI x y ≤ 1 := by unfold cmpI; split <;> (try split) <;> omega
theorem cmpI_neg (x y : Int) : cmpI x y < 0 ↔ x < y := by unfold cmpI; split <;> (try split) <;> omega
theorem cmpI_zero (x y : Int) : cmpI x y = 0 ↔ x = y := by unfold cmpI; split <;> (try split) <;> omega
theorem cmpS_less (t a t' a' : Int) : decide (cmpS t a t' a' < 0) = lessS t a t' a' := by
  unfold lessS cmpS orI
  apply decide_eq_decide.2
  split
  · rename_i h
    rw [cmpI_neg]
    have := (cmpI_zero t t').1 h
    omega
  · rename_i h
    rw [cmpI_neg]
    have := mt (cmpI_zero t t').2 h
    omega

set_option maxHeartbeats 400000 in
theorem isNaN_any (x : Int) (w : World) : Calls Tryz.prog 109 #[.int .i64 x] w fun e w' => e = .returned (.bool false) ∧ w' = w := by
  go_enter Tryz.func109, Tryz.ntmps109
  go_wp2_with fail
  go_ret
  simp

set_option maxHeartbeats 400000 in
theorem compare_any (x y : Int) (w : World) : Calls Tryz.prog 78 #[.int .i64 x, .int .i64 y] w fun e w' => e = .returned (.int .i64 (cmpI x y)) ∧ w' = w := by
  obtain ⟨r, hr, hc⟩ : ∃ r, cmpI x y = r ∧ ((r = -1 ∧ x < y) ∨ (r = 1 ∧ ¬ x < y ∧ y < x) ∨ (r = 0 ∧ ¬ x < y ∧ ¬ y < x)) := by
    refine ⟨_, rfl, ?_⟩
    unfold cmpI
    split <;> (try split) <;> omega
  rw [hr]
  clear hr
  rcases hc with ⟨rfl, h1⟩ | ⟨rfl, h1, h2⟩ | ⟨rfl, h1, h2⟩
  all_goals
    go_enter Tryz.func78, Tryz.ntmps78
    go_wp2_with ((go_at_call 109; refine (isNaN_any _ _).mono ?_; rintro e w' ⟨rfl, rfl⟩))
    go_ret
    exact ⟨rfl, rfl⟩

set_option maxHeartbeats 400000 in
theorem or_two (x y : Int) (w : World) (g : Nat) (h0 : w.cell? ⟨g, 0, none⟩ = some (.int .i64 x)) (h1 : w.cell? ⟨g, 1, none⟩ = some (.int .i64 y)) :
    Calls Tryz.prog 77 #[.slice (some ⟨g, 0, none⟩) 2 2] w fun e w' => e = .returned (.int .i64 (orI x y)) ∧ w' = w := by
  go_enter Tryz.func77, Tryz.ntmps77
  go_wp2_with fail
  go_loop [8] (fun i => ∃ k : Nat, i = .int .i64 (k : Int) ∧ (k = 0 ∨ (k = 1 ∧ x = 0) ∨ (k = 2 ∧ x = 0 ∧ y = 0))) (fun i => 2 - (intOf i).toNat)
  case atStart => exact ⟨0, rfl, .inl rfl⟩
  case round =>
    obtain ⟨k, rfl, hk⟩ := hrel
    rcases hk with rfl | ⟨rfl, rfl⟩ | ⟨rfl, rfl, rfl⟩
    · by_cases hx : x = 0
      · have hb : (x != 0) = false := by simp [hx]
        have HX : Hid _ := hx
        clear hx
        go_wp2_with fail
        go_round
        case rel => exact ⟨1, rfl, .inr (.inl ⟨rfl, HX.out⟩)⟩
        case measure => simp [intOf]
      · have hb : (x != 0) = true := by simp [hx]
        have HX : Hid _ := hx
        clear hx
        go_wp2_with fail
        go_ret
        exact ⟨by rw [orI_not HX.out]; rfl, rfl⟩
    · by_cases hy : y = 0
      · have hb : (y != 0) = false := by simp [hy]
        have HY : Hid _ := hy
        clear hy
        go_wp2_with fail
        go_round
        case rel => exact ⟨2, rfl, .inr (.inr ⟨rfl, by first | exact rfl | exact trivial, HY.out⟩)⟩
        case measure => simp [intOf]
      · have hb : (y != 0) = true := by simp [hy]
        clear hy
        go_wp2_with fail
        go_ret
        exact ⟨rfl, rfl⟩
    · go_wp2_with fail
      go_ret
      exact ⟨rfl, rfl⟩

theorem two_made (w : World) (o : Obj) (x y z u : Value) (T T' : TypeId) : (((w.alloc o).alloc (.cells #[x, y] T)).alloc (.cells #[z, u] T')).cell? ⟨w.heap.size + 1, 0, none⟩ = some x ∧ (((w.alloc o).alloc (.cells #[x, y] T)).alloc (.cells #[z, u] T')).cell? ⟨w.heap.size + 1, 1, none⟩ = some y ∧
    (((w.alloc o).alloc (.cells #[x, y] T)).alloc (.cells #[z, u] T')).cell? ⟨w.heap.size + 1 + 1, 0, none⟩ = some z ∧ (((w.alloc o).alloc (.cells #[x, y] T)).alloc (.cells #[z, u] T')).cell? ⟨w.heap.size + 1 + 1, 1, none⟩ = some u := by
  refine ⟨?_, ?_, ?_, ?_⟩
  · rw [World.cell?_alloc_past _ _ _ (by simp), World.cell?_alloc_at _ _ _ _ (by simp)]; rfl
  · rw [World.cell?_alloc_past _ _ _ (by simp), World.cell?_alloc_at _ _ _ _ (by simp)]; rfl
  · rw [World.cell?_alloc_at _ _ _ _ (by simp)]; rfl
  · rw [World.cell?_alloc_at _ _ _ _ (by simp)]; rfl

theorem keep_four {w : World} {a b c d : Addr} {x y z u : Value} (h : w.cell? a = some x ∧ w.cell? b = some y ∧ w.cell? c = some z ∧ w.cell? d = some u) (o : Obj) : (w.alloc o).cell? a = some x ∧ (w.alloc o).cell? b = some y ∧ (w.alloc o).cell? c = some z ∧ (w.alloc o).cell? d = some u :=
  ⟨alloc_keep h.1 o, alloc_keep h.2.1 o, alloc_keep h.2.2.1 o, alloc_keep h.2.2.2 o⟩

theorem last_made (w : World) (x y : Value) (T : TypeId) (n : Nat) (hn : n = w.heap.size) : (w.alloc (.cells #[x, y] T)).drew.cell? ⟨n, 0, none⟩ = some x ∧ (w.alloc (.cells #[x, y] T)).drew.cell? ⟨n, 1, none⟩ = some y := by
  constructor
  · show (w.alloc (.cells #[x, y] T)).cell? ⟨n, 0, none⟩ = some x
    rw [World.cell?_alloc_at _ _ _ _ hn]; rfl
  · show (w.alloc (.cells #[x, y] T)).cell? ⟨n, 1, none⟩ = some y
    rw [World.cell?_alloc_at _ _ _ _ hn]; rfl

set_option maxHeartbeats 400000 in
theorem order_any (t a t' a' : Int) (w : World) :
    Calls Tryz.prog 51 #[.agg #[], .agg #[.int .i64 t, .int .i64 a], .agg #[.int .i64 t', .int .i64 a']] w fun e w' => e = .returned (.int .i64 (cmpS t a t' a')) ∧ Below w.heap.size w w' := by
  go_enter Tryz.func51, Tryz.ntmps51
  go_wp2_with fail
  go_region_held2 (fun w' => w'.cell? ⟨w.heap.size + 1, 0, none⟩ = some (.int .i64 t) ∧ w'.cell? ⟨w.heap.size + 1, 1, none⟩ = some (.int .i64 a) ∧ w'.cell? ⟨w.heap.size + 1 + 1, 0, none⟩ = some (.int .i64 t') ∧ w'.cell? ⟨w.heap.size + 1 + 1, 1, none⟩ = some (.int .i64 a')) (first | exact two_made w _ _ _ _ _ _ _ | exact keep_four (two_made w _ _ _ _ _ _ _) _) (first | (go_at_call 78; refine (compare_any _ _ _).mono ?_; rintro e w' ⟨rfl, rfl⟩) | (go_at_call 77; refine (or_two (cmpI t t') (cmpI a a') _ _ (last_made _ _ _ _ _ (by simp)).1 (last_made _ _ _ _ _ (by simp)).2).mono ?_; rintro e w' ⟨rfl, rfl⟩))
  go_wp2_with fail
  go_ret
  exact ⟨rfl, (below_then (below_then (below_then (below_alloc _ _) _) _) _).drew⟩

set_option maxHeartbeats 400000 in
theorem implStampLess_any (t a t' a' : Int) (w : World) :
    Calls Tryz.prog 22 #[.agg #[.int .i64 t, .int .i64 a], .agg #[.int .i64 t', .int .i64 a']] w fun e w' => e = .returned (.bool (lessS t a t' a')) ∧ Below w.heap.size w w' := by
  have HL : Hid _ := cmpS_less t a t' a'
  go_enter Tryz.func22, Tryz.ntmps22
  go_wp2_with ((go_at_call 51; refine (order_any t a t' a' _).mono ?_; rintro e w' ⟨rfl, hb⟩))
  go_ret
  exact ⟨by rw [← HL.out]; rfl, below_seq (below_then (below_alloc _ _) _) hb⟩

set_option maxHeartbeats 400000 in
theorem specStampLess_any (t a t' a' : Int) (w : World) :
    Calls Tryz.prog 33 #[.agg #[.int .i64 t, .int .i64 a], .agg #[.int .i64 t', .int .i64 a']] w fun e w' => e = .returned (.bool (lessS t a t' a')) ∧ Below w.heap.size w w' := by
  obtain ⟨r, hr, hc⟩ : ∃ r, lessS t a t' a' = r ∧ ((r = true ∧ t < t') ∨ (r = decide (a < a') ∧ ¬ t < t' ∧ (t == t') = true) ∨ (r = false ∧ ¬ t < t' ∧ (t == t') = false)) := by
    refine ⟨_, rfl, ?_⟩
    unfold lessS
    by_cases h : t < t'
    · exact .inl ⟨by simp [h], h⟩
    · by_cases h2 : t = t'
      · exact .inr (.inl ⟨by simp [h2], h, by simp [h2]⟩)
      · exact .inr (.inr ⟨by simp [h2]; omega, h, by simp [h2]⟩)
  rw [hr]
  clear hr
  rcases hc with ⟨rfl, h1⟩ | ⟨rfl, h1, h2⟩ | ⟨rfl, h1, h2⟩
  all_goals
    go_enter Tryz.func33, Tryz.ntmps33
    go_wp2_with fail
    go_ret
    exact ⟨by simp, below_then (below_alloc _ _) _⟩

theorem four_there {w w1 : World} {x y z u : Value} {T T' : TypeId} (h : Below ((w.alloc (.cells #[x, y] T)).alloc (.cells #[z, u] T')).heap.size ((w.alloc (.cells #[x, y] T)).alloc (.cells #[z, u] T')) w1) :
    w1.cell? ⟨w.heap.size, 0, none⟩ = some x ∧ w1.cell? ⟨w.heap.size, 1, none⟩ = some y ∧ w1.cell? ⟨w.heap.size + 1, 0, none⟩ = some z ∧ w1.cell? ⟨w.heap.size + 1, 1, none⟩ = some u := by
  refine ⟨?_, ?_, ?_, ?_⟩
  · rw [h.cell (p := ⟨w.heap.size, 0, none⟩) (by simp; omega), World.cell?_alloc_past _ _ _ (by simp), World.cell?_alloc_at _ _ _ _ rfl]; rfl
  · rw [h.cell (p := ⟨w.heap.size, 1, none⟩) (by simp; omega), World.cell?_alloc_past _ _ _ (by simp), World.cell?_alloc_at _ _ _ _ rfl]; rfl
  · rw [h.cell (p := ⟨w.heap.size + 1, 0, none⟩) (by simp), World.cell?_alloc_at _ _ _ _ (by simp)]; rfl
  · rw [h.cell (p := ⟨w.heap.size + 1, 1, none⟩) (by simp), World.cell?_alloc_at _ _ _ _ (by simp)]; rfl

end Go.Proofs.YtmmkmkaannlkhaaGreatDoor

namespace Go.Proofs.YtmmkmkaannlkhaaGreatDoor
open Go.RowKit
set_option linter.unusedVariables false

/-- A stamp is zero, or valid. -/
def okS (t a : Int) : Bool := decide (t = 0 ∧ a = 0) || stOK t a

set_option maxHeartbeats 400000 in
theorem stampOrNone_any (t a : Int) (w : World) :
    Calls Tryz.prog 21 #[.agg #[.int .i64 t, .int .i64 a]] w fun e w' => e = .returned (.bool (okS t a)) ∧ Below w.heap.size w w' := by
  obtain ⟨r, hr, hc⟩ : ∃ r, okS t a = r ∧ ((r = true ∧ t = 0 ∧ a = 0) ∨ (r = stOK t a ∧ (t == 0) = false) ∨ (r = stOK t a ∧ (t == 0) = true ∧ (a == 0) = false)) := by
    refine ⟨_, rfl, ?_⟩
    unfold okS
    by_cases h1 : t = 0
    · by_cases h2 : a = 0
      · exact .inl ⟨by simp [h1, h2], h1, h2⟩
      · exact .inr (.inr ⟨by simp [h2], by simp [h1], by simp [h2]⟩)
    · exact .inr (.inl ⟨by simp [h1], by simp [h1]⟩)
  rw [hr]
  clear hr
  rcases hc with ⟨rfl, rfl, rfl⟩ | ⟨rfl, h1⟩ | ⟨rfl, h1, h2⟩
  all_goals
    go_enter Tryz.func21, Tryz.ntmps21
    go_wp2_with ((go_at_call 49; refine (implStampOK_any t a _).mono ?_; rintro e w' ⟨rfl, hb⟩))
    go_ret
    first | exact ⟨by simp, below_seq (below_alloc _ _) hb⟩ | exact ⟨by simp, below_alloc _ _⟩

/-- The time of the least stamp of an actor above a stamp. -/
def upT (t a c : Int) : Int := if lessS t a (max t 1) c = true then max t 1 else max t 1 + 1
/-- What stampAbove answers. -/
def above (t a c : Int) : Value := if stOK (upT t a c) c = true then .tuple #[.agg #[.int .i64 (upT t a c), .int .i64 c], .int .i64 0] else .tuple #[.agg #[.int .i64 0, .int .i64 0], .int .i64 11]

theorem upT_yes {t a c : Int} (h : 1 ≤ t) (hl : lessS t a t c = true) : upT t a c = t := by
  unfold upT
  rw [show max t 1 = t by omega, if_pos hl]
theorem upT_no {t a c : Int} (h : 1 ≤ t) (hl : lessS t a t c = false) : upT t a c = t + 1 := by
  unfold upT
  rw [show max t 1 = t by omega, hl]; rfl
theorem upT_zero {a c : Int} : upT 0 a c = 1 := by
  unfold upT
  rw [show max (0 : Int) 1 = 1 from rfl, if_pos (by simp [lessS])]
theorem above_yes {t a c : Int} (h : stOK (upT t a c) c = true) : above t a c = .tuple #[.agg #[.int .i64 (upT t a c), .int .i64 c], .int .i64 0] := if_pos h
theorem above_no {t a c : Int} (h : stOK (upT t a c) c = false) : above t a c = .tuple #[.agg #[.int .i64 0, .int .i64 0], .int .i64 11] := if_neg (by simp [h])

theorem three_there {w w1 : World} {x y p q z u : Value} {T : TypeId} (h : Below (((w.alloc (.cells #[x, y] T)).alloc (.cells #[p, q] T)).alloc (.cells #[z, u] T)).heap.size (((w.alloc (.cells #[x, y] T)).alloc (.cells #[p, q] T)).alloc (.cells #[z, u] T)) w1) :
    (w1.cell? ⟨w.heap.size + 1, 0, none⟩ = some p ∧ w1.cell? ⟨w.heap.size + 1, 1, none⟩ = some q ∧ w1.cell? ⟨w.heap.size + 1 + 1, 0, none⟩ = some z ∧ w1.cell? ⟨w.heap.size + 1 + 1, 1, none⟩ = some u) ∧
      ∀ k, w1.frozen? ⟨w.heap.size + 1, k, none⟩ = false ∧ w1.frozen? ⟨w.heap.size + 1 + 1, k, none⟩ = false := by
  have hB : Below ((w.alloc (.cells #[x, y] T)).alloc (.cells #[p, q] T)).heap.size ((w.alloc (.cells #[x, y] T)).alloc (.cells #[p, q] T)) w1 := below_seq (below_alloc _ _) h
  have e1 : (w.alloc (.cells #[x, y] T)).heap.size = w.heap.size + 1 := World.size_alloc _ _
  have e2 : ((w.alloc (.cells #[x, y] T)).alloc (.cells #[p, q] T)).heap.size = w.heap.size + 1 + 1 := by rw [World.size_alloc, e1]
  have a0 := cell_made hB (k := 0) rfl
  have a1 := cell_made hB (k := 1) rfl
  have b0 := cell_made h (k := 0) rfl
  have b1 := cell_made h (k := 1) rfl
  have fa := frozen_made hB
  have fb := frozen_made h
  rw [e1] at a0 a1 fa
  rw [e2] at b0 b1 fb
  exact ⟨⟨a0, a1, b0, b1⟩, fun k => ⟨fa k, fb k⟩⟩

theorem cell_on {w w1 : World} (h : Below w.heap.size w w1) {a : Addr} {v : Value} (hc : w.cell? a = some v) : w1.cell? a = some v := by
  rw [h.cell (p := a)]
  · exact hc
  · unfold World.cell? at hc
    split at hc
    · rename_i hb
      exact (Array.getElem?_eq_some_iff.1 hb).1
    all_goals simp at hc
theorem frozen_on {w w1 : World} (h : Below w.heap.size w w1) {a : Addr} (ha : a.block < w.heap.size) (hc : w.frozen? a = false) : w1.frozen? a = false := by
  rw [h.frozen (p := a) ha]
  exact hc
theorem cell_lt {w : World} {a : Addr} {v : Value} (h : w.cell? a = some v) : a.block < w.heap.size := by
  unfold World.cell? at h
  split at h
  · rename_i hb
    exact (Array.getElem?_eq_some_iff.1 hb).1
  all_goals simp at h
theorem set_there {w w1 : World} {m n : Nat} {p q z u v : Value} (hmn : m ≠ n) (hc : w.cell? ⟨m, 0, none⟩ = some p ∧ w.cell? ⟨m, 1, none⟩ = some q ∧ w.cell? ⟨n, 0, none⟩ = some z ∧ w.cell? ⟨n, 1, none⟩ = some u)
    (hf : ∀ k, w.frozen? ⟨m, k, none⟩ = false ∧ w.frozen? ⟨n, k, none⟩ = false) (h : Below (w.setCell ⟨n, 0, none⟩ v).heap.size (w.setCell ⟨n, 0, none⟩ v) w1) :
    (w1.cell? ⟨m, 0, none⟩ = some p ∧ w1.cell? ⟨m, 1, none⟩ = some q ∧ w1.cell? ⟨n, 0, none⟩ = some v ∧ w1.cell? ⟨n, 1, none⟩ = some u) ∧ ∀ k, w1.frozen? ⟨m, k, none⟩ = false ∧ w1.frozen? ⟨n, k, none⟩ = false := by
  obtain ⟨h0, h1, h2, h3⟩ := hc
  have hz : ∀ k, (w.setCell ⟨n, 0, none⟩ v).frozen? ⟨m, k, none⟩ = false ∧ (w.setCell ⟨n, 0, none⟩ v).frozen? ⟨n, k, none⟩ = false := fun k => ⟨(World.frozen?_setCells n [v] 0 w _).trans (hf k).1, (World.frozen?_setCells n [v] 0 w _).trans (hf k).2⟩
  refine ⟨⟨cell_on h ?_, cell_on h ?_, cell_on h (World.cell?_setCell_same _ _ _ h2), cell_on h ?_⟩, fun k => ⟨frozen_on h (by rw [World.size_setCell]; exact (cell_lt h0 : m < _)) (hz k).1, frozen_on h (by rw [World.size_setCell]; exact (cell_lt h2 : n < _)) (hz k).2⟩⟩
  · exact (World.cell?_setCells_out n [v] 0 w _ (fun e => absurd e hmn)).trans h0
  · exact (World.cell?_setCells_out n [v] 0 w _ (fun e => absurd e hmn)).trans h1
  · exact (World.cell?_setCells_out n [v] 0 w _ (fun _ _ => .inr (by simp))).trans h3
theorem less_zero (a c : Int) : lessS 0 a 1 c = true := by simp [lessS]

end Go.Proofs.YtmmkmkaannlkhaaGreatDoor

namespace Go.Proofs.YtmmkmkaannlkhaaGreatDoor
open Go.RowKit
set_option linter.unusedVariables false

set_option maxHeartbeats 400000 in
theorem inRun_yes (v : Int) (w : World) (h0 : 0 ≤ v) (h1 : v ≤ 1152921504606846975) : Calls Tryz.prog 90 #[.int .i64 v] w fun e w' => e = .returned (.bool true) ∧ w' = w := by
  go_enter Tryz.func90, Tryz.ntmps90
  go_wp2
  go_ret
  exact ⟨rfl, rfl⟩
set_option maxHeartbeats 400000 in
theorem inRun_no (v : Int) (w : World) (h : ¬ (0 ≤ v ∧ v ≤ 1152921504606846975)) : Calls Tryz.prog 90 #[.int .i64 v] w fun e w' => e = .returned (.bool false) ∧ w' = w := by
  by_cases hv : v < 0
  · clear h
    go_enter Tryz.func90, Tryz.ntmps90
    go_wp2
    go_ret
    exact ⟨rfl, rfl⟩
  · have h2 : 1152921504606846975 < v := by omega
    have h3 : decide (v ≤ 1152921504606846975) = false := by simpa using h2
    clear h
    go_enter Tryz.func90, Tryz.ntmps90
    go_wp2
    go_ret
    exact ⟨by simp, rfl⟩

set_option maxHeartbeats 400000 in
theorem foldSign_any (d : Int) (w : World) (h0 : -1152921504606846975 ≤ d) (h1 : d ≤ 1152921504606846975) : Calls Tryz.prog 54 #[.int .i64 d] w fun e w' => e = .returned (.int .i64 ((foldS d : Nat) : Int)) ∧ w' = w := by
  by_cases hd : d < 0
  · have e : ((foldS d : Nat) : Int) = -2 * d - 1 := by unfold foldS; rw [if_pos hd]; omega
    rw [e]
    clear e
    go_enter Tryz.func54, Tryz.ntmps54
    go_wp2
    go_ret
    exact ⟨rfl, rfl⟩
  · have e : ((foldS d : Nat) : Int) = 2 * d := by unfold foldS; rw [if_neg hd]; omega
    rw [e]
    clear e
    go_enter Tryz.func54, Tryz.ntmps54
    go_wp2
    go_ret
    exact ⟨rfl, rfl⟩

set_option maxHeartbeats 1000000 in
set_option maxRecDepth 100000 in
theorem runSize_any (C : Nat) (w : World) (v : Value) (ls : List Int) (hp : 0 < ls.length) (hl : ls.length ≤ 4096) (hok : runsOK ls = true) (hr : Rd C w v (ls.map (Value.int .i64))) :
    Calls Tryz.prog 91 #[v] w fun e w' => e = .returned (.int .i64 ((runEnd ls 0 : Nat) : Int)) ∧ ∃ n, w' = w.drewN n := by
  obtain ⟨ao, cap, rfl, _, _, _, hr⟩ := hr
  rw [List.length_map] at hr ⊢
  obtain ⟨g, off, rfl, _, hc⟩ := hr hp
  have hcell : ∀ j, j < ls.length → w.cell? ⟨g, off + j, none⟩ = some (.int .i64 (nth ls j)) := fun j hj => hc j _ (by simp [nth, hj])
  have HCELL : Hid _ := hcell
  clear hc hr hcell
  by_cases h1 : ls.length = 1
  · have HE : Hid (runEnd ls 0 = 1) := ext_stop (k := 1) (by simp [goesOn]; omega) rfl
    have hb1 : ((ls.length : Int) == 1) = true := by rw [beq_iff_eq]; omega
    have H1 : Hid _ := h1
    clear h1
    go_enter Tryz.func91, Tryz.ntmps91
    go_wp2_with fail
    go_ret
    exact ⟨by rw [HE.out]; rfl, 0, rfl⟩
  · have hb1 : ((ls.length : Int) == 1) = false := by rw [beq_eq_false_iff_ne]; omega
    obtain ⟨f0, hf0, hE0⟩ := ext_step (ls := ls) (i := 0) (k := 1) (f := ls.length) (E := runEnd ls 0) (by simp [goesOn]; omega) (by omega) rfl
    have HE0 : Hid _ := hE0
    clear hE0
    have q0 := runsOK_nth hok 0
    have q1 := runsOK_nth hok 1
    have cC := HCELL.out 1 (by omega)
    have cD := HCELL.out 0 (by omega)
    rw [Nat.add_zero] at cD
    have h2I : (1 : Int) < (ls.length : Int) := by omega
    go_enter Tryz.func91, Tryz.ntmps91
    go_wp2_with fail
    go_loopw [3] (fun tk wq => ∃ (k f n : Nat), 2 ≤ k ∧ k ≤ ls.length ∧ tk = .int .i64 k ∧ wq = w.drewN n ∧ ls.length - k ≤ f ∧ Hid (runEnd ls 0 = k + extF ls 0 f k)) (fun tk _ => ls.length - (intOf tk).toNat)
    case atStart => exact ⟨2, f0, 0, by omega, by omega, rfl, rfl, hf0, HE0⟩
    case round =>
      clear HE0 hf0
      obtain ⟨k, f, n, hk1, hk2, rfl, rfl, hf, HE⟩ := hrel
      obtain ⟨j, rfl⟩ : ∃ j, k = j + 1 := ⟨k - 1, by omega⟩
      by_cases hkl : j + 1 < ls.length
      · have q2 := runsOK_nth hok j
        have q3 := runsOK_nth hok (j + 1)
        have cA := HCELL.out (j + 1) hkl
        have cB := HCELL.out j (by omega)
        have hjI : (0 : Int) ≤ (j : Int) ∧ (j : Int) < (ls.length : Int) := by omega
        have hI' : (j : Int) + 1 < (ls.length : Int) := by omega
        by_cases hd : nth ls (j + 1) - nth ls j = nth ls 1 - nth ls 0
        · obtain ⟨f', hf', hE'⟩ := ext_step (ls := ls) (i := 0) (k := j + 1) (by simp [goesOn, hkl, hd]) hf HE.out
          have HE' : Hid _ := hE'
          have hdb : (nth ls (j + 1) - nth ls j == nth ls 1 - nth ls 0) = true := by rw [beq_iff_eq]; exact hd
          clear hE' HE hd
          go_wp2_with fail
          go_quiet (fail)
          go_wp2_with fail
          go_roundw
          case rel => exact ⟨j + 1 + 1, f', n + nq, by omega, by omega, by go_num, by simp, hf', HE'⟩
          case measure => simp [intOf]; omega
        · have HE' : Hid (runEnd ls 0 = j + 1) := ext_stop (by simp [goesOn, hd]; omega) HE.out
          have hdb : (nth ls (j + 1) - nth ls j == nth ls 1 - nth ls 0) = false := by rw [beq_eq_false_iff_ne]; exact hd
          clear HE hd
          go_wp2_with fail
          go_quiet (fail)
          go_wp2_with fail
          go_ret
          exact ⟨by rw [HE'.out]; rfl, n + nq, by simp⟩
      · have HE' : Hid (runEnd ls 0 = j + 1) := ext_stop (by simp [goesOn]; omega) HE.out
        have hI : decide ((j : Int) + 1 < (ls.length : Int)) = false := by simp; omega
        clear HE
        go_wp2_with fail
        go_quiet (fail)
        go_wp2_with fail
        go_ret
        exact ⟨by rw [HE'.out]; rfl, n + nq, by simp⟩
end Go.Proofs.YtmmkmkaannlkhaaGreatDoor

namespace Go.Proofs.YtmmkmkaannlkhaaGreatDoor
open Go.RowKit
set_option linter.unusedVariables false

set_option maxHeartbeats 1000000 in
set_option maxRecDepth 100000 in
theorem appendRun_any (B C : Nat) (w : World) (v vr : Value) (X rs : List Int) (hp : 0 < rs.length) (hl : rs.length ≤ 4096) (hok : runsOK rs = true) (hX : X.length ≤ 200000) (hC : C ≤ B) (hB : B ≤ w.heap.size) (ho : Own 5 w B v (X.map (Value.int .u8))) (hr : Rd C w vr (rs.map (Value.int .i64))) :
    Calls Tryz.prog 92 #[v, vr] w fun e w' => ∃ r, e = .returned r ∧ Own 5 w' B r ((X ++ (enc (nth rs 0).toNat ++ enc rs.length ++ (if 1 < rs.length then enc (foldS (nth rs 1 - nth rs 0)) else []))).map (Value.int .u8)) ∧ Below B w w' := by
  obtain ⟨ao, cap, rfl, _, _, _, hr⟩ := hr
  rw [List.length_map] at hr ⊢
  obtain ⟨g, off, rfl, hg, hc⟩ := hr hp
  have hcell : ∀ j, j < rs.length → ∀ w' : World, Below B w w' → w'.cell? ⟨g, off + j, none⟩ = some (.int .i64 (nth rs j)) := fun j hj w' hb => (hb.cell (p := ⟨g, off + j, none⟩) (by show g < _; omega)).trans (hc j _ (by simp [nth, hj]))
  have HCELL : Hid _ := hcell
  clear hc hr hcell
  have q0 := runsOK_nth hok 0
  have q1 := runsOK_nth hok 1
  have c0 := HCELL.out 0 hp w (Below.refl _ _)
  rw [Nat.add_zero] at c0
  have hpI : (0 : Int) < (rs.length : Int) := by omega
  have e1 := enc_len (n := (nth rs 0).toNat) (by omega)
  have e2 := enc_len (n := rs.length) (by omega)
  have hfs := foldS_le (d := nth rs 1 - nth rs 0) (by omega) (by omega)
  have e3 := enc_len (n := foldS (nth rs 1 - nth rs 0)) (by omega)
  go_enter Tryz.func92, Tryz.ntmps92
  go_wp2_with fail
  rw [show nth rs 0 = (((nth rs 0).toNat : Nat) : Int) by omega]
  refine (appendInt_any B w v X (nth rs 0).toNat (by omega) (by omega) hB ho).mono ?_
  rw [show (((nth rs 0).toNat : Nat) : Int) = nth rs 0 by omega]
  rintro e w1 ⟨r1, rfl, ho1, hb1⟩
  have hz1 := hb1.size
  clear c0
  go_wp2_with fail
  refine (appendInt_any B w1 r1 _ rs.length (by omega) (by simp; omega) (by omega) ho1).mono ?_
  rintro e w2 ⟨r2, rfl, ho2, hb2⟩
  have hbel2 := hb1.trans hb2
  have hz2 := hbel2.size
  clear ho1
  by_cases h1 : 1 < rs.length
  · have hI1 : (1 : Int) < (rs.length : Int) := by omega
    have cA := HCELL.out 1 h1 _ hbel2
    have cB := HCELL.out 0 hp _ hbel2
    rw [Nat.add_zero] at cB
    have hw2 : IntKind.i64.wrap (nth rs 1 - nth rs 0) = nth rs 1 - nth rs 0 := by rw [IntKind.wrap_i64]; omega
    go_wp2_with fail
    go_region_held2 (fun w' => w'.cell? ⟨g, off + 1, none⟩ = some (.int .i64 (nth rs 1)) ∧ w'.cell? ⟨g, off, none⟩ = some (.int .i64 (nth rs 0))) (first | go_keep | exact ⟨HCELL.out 1 h1 _ hbel4, by simpa using HCELL.out 0 hp _ hbel4⟩) (first | (go_at_call 54; refine (foldSign_any _ _ (by omega) (by omega)).mono ?_; rintro e w3 ⟨rfl, rfl⟩) | (go_at_call 26; refine (appendInt_any B _ r2 (X ++ enc (nth rs 0).toNat ++ enc rs.length) (foldS (nth rs 1 - nth rs 0)) (by omega) (by simp; omega) (by show B ≤ w2.heap.size; omega) (show Own 5 w2.drew B r2 _ from ho2)).mono ?_; rintro e w4 ⟨r4, rfl, ho4, hb4⟩; have hbel4 : Below B w w4 := hbel2.drew.trans hb4))
    go_wp2_with fail
    go_ret
    refine ⟨_, rfl, ?_, hbel4⟩
    first | (rw [if_pos h1]; simpa using ho4) | simpa using ho4
  · go_wp2_with fail
    go_ret
    refine ⟨_, rfl, ?_, hbel2⟩
    first | (rw [if_neg h1]; simpa using ho2) | simpa using ho2

set_option maxHeartbeats 2000000 in
set_option maxRecDepth 100000 in
theorem implPutRuns_any (C : Nat) (w : World) (v : Value) (ls : List Int) (hl : ls.length ≤ 1048576) (hC : C ≤ w.heap.size) (hr : Rd C w v (ls.map (Value.int .i64))) :
    Calls Tryz.prog 56 #[v] w fun e w' => ∃ r, e = .returned (.tuple #[r, .int .i64 (putRunsC ls)]) ∧ Own 5 w' w.heap.size r ((putRunsB ls).map (Value.int .u8)) ∧ Below w.heap.size w w' := by
  have hr0 := hr
  obtain ⟨ao, cap, rfl, hcap, hmax, hnil, hr⟩ := hr
  rw [List.length_map] at hr hr0 hcap ⊢
  by_cases h4 : ls.length ≤ 4096
  · go_enter Tryz.func56, Tryz.ntmps56
    go_wp2_with fail
    go_loop [14] (fun i => ∃ k : Nat, k ≤ ls.length ∧ i = .int .i64 k ∧ Hid (∀ j, j < k → 0 ≤ nth ls j ∧ nth ls j ≤ 1152921504606846975)) (fun i => ls.length - (intOf i).toNat)
    case atStart => exact ⟨0, Nat.zero_le _, rfl, fun j hj => by omega⟩
    case round =>
      obtain ⟨k, hk, rfl, H⟩ := hrel
      by_cases hlt : k < ls.length
      · obtain ⟨g, off, rfl, _, hc⟩ := hr (by omega)
        have c1 := hc k (.int .i64 (nth ls k)) (by simp [nth, hlt])
        clear hc hr
        by_cases hv : 0 ≤ nth ls k ∧ nth ls k ≤ 1152921504606846975
        · have H2 : Hid (∀ j, j < k + 1 → 0 ≤ nth ls j ∧ nth ls j ≤ 1152921504606846975) := fun j hj => by
            by_cases e : j = k
            · subst e; exact hv
            · exact H.out j (by omega)
          clear H
          go_wp2_with (first | (go_at_call 90; refine (inRun_yes _ _ hv.1 hv.2).mono ?_; rintro e w' ⟨rfl, rfl⟩))
          go_round
          case rel => exact ⟨k + 1, by omega, by go_num, H2⟩
          case measure => simp [intOf]; omega
        · obtain ⟨e1, e2⟩ := putRuns_bad h4 (runsOK_not hlt hv)
          have E1 : Hid _ := e1
          have E2 : Hid _ := e2
          clear e1 e2
          go_wp2_with (first | (go_at_call 90; refine (inRun_no _ _ hv).mono ?_; rintro e w' ⟨rfl, rfl⟩))
          go_ret2
          exact ⟨_, by rw [E2.out]; rfl, by rw [E1.out]; exact World.ownsRow_nil _ _ _ _, Below.refl _ _⟩
      · have hok : runsOK ls = true := runsOK_of (fun j hj => H.out j (by omega))
        have HOK : Hid _ := hok
        have hlen := putR_len hok h4
        obtain ⟨e1, e2⟩ := putRuns_ok h4 hok
        have E1 : Hid _ := e1
        have E2 : Hid _ := e2
        clear e1 e2 H hok
        go_wp2_with fail
        refine (appendInt_any w.heap.size w _ [] ls.length (by omega) (by simp) (Nat.le_refl _) (World.ownsRow_nil _ _ _ _)).mono ?_
        rintro e w0 ⟨r0, rfl, ho0, hb0⟩
        rw [List.nil_append] at ho0
        go_wp2_with fail
        go_loopw [6, 7] (fun to ti wr => ∃ (i f : Nat) (X : List Int), i ≤ ls.length ∧ ti = .int .i64 i ∧ ls.length - i ≤ f ∧ Own 5 wr w.heap.size to (X.map (Value.int .u8)) ∧ Hid (X ++ putRF ls f i = putR ls) ∧ Below w.heap.size w wr) (fun _ ti _ => ls.length - (intOf ti).toNat)
        case atStart => exact ⟨0, ls.length, enc ls.length, Nat.zero_le _, rfl, by omega, ho0, rfl, hb0⟩
        case round =>
          clear ho0 hb0
          obtain ⟨i, f, X, hii, rfl, hf, how, HX, hbel⟩ := hrel
          have hXl : X.length ≤ 122890 := by have := congrArg List.length HX.out; simp only [List.length_append] at this; omega
          have hsz := hbel.size
          by_cases hi0 : i < ls.length
          · obtain ⟨g, off, rfl, hg, hc⟩ := hr (by omega)
            have hci : ¬ cap = i := by omega
            have hrw := hr0.below (hbel.mono hC)
            have hcut := hrw.cut i (ls.length - i) (by simp; omega) (by simp) (ao' := some ⟨g, off + i, none⟩) (by rw [if_neg hci]; simp [Addr.add_lit])
            have hbd := runEnd_bd hi0
            have HD : Hid (runEnd (ls.drop i) 0 = runEnd ls i - i) := runEnd_drop ls i hi0
            have hcut2 := hrw.cut i (runEnd ls i - i) (by simp; omega) (by simp; omega) (ao' := some ⟨g, off + i, none⟩) (by rw [if_neg hci]; simp [Addr.add_lit])
            rw [← List.map_drop] at hcut hcut2
            rw [List.take_of_length_le (by simp)] at hcut
            rw [← List.map_take] at hcut2
            obtain ⟨f2, hf2, hX2⟩ := putR_step hi0 hf HX.out
            have HX2 : Hid _ := hX2
            have HPC : Hid _ := piece_cut (ls := ls) (i := i) (e := runEnd ls i) (by omega) hbd.2
            have hok2 := runsOK_take (runsOK_drop HOK.out i) (runEnd ls i - i)
            have hrl : ((ls.drop i).take (runEnd ls i - i)).length = runEnd ls i - i := by simp; omega
            have HRL : Hid _ := hrl
            have HOK2 : Hid _ := hok2
            clear hc hr hrw hr0 HX hX2 hrl hok2
            go_wp2_with fail
            refine (runSize_any C wr _ (ls.drop i) (by simp; omega) (by simp; omega) (runsOK_drop HOK.out i) hcut).mono ?_
            rintro e w1 ⟨rfl, n1, rfl⟩
            rw [HD.out]
            clear hcut HD
            generalize runEnd ls i = en at *
            generalize (ls.drop i).take (en - i) = rs at *
            go_wp2_with fail
            refine (appendRun_any w.heap.size C (wr.drewN n1) _ _ X rs (by rw [HRL.out]; omega) (by rw [HRL.out]; omega) HOK2.out (by omega) hC (by exact hsz) how (hcut2.drewN n1)).mono ?_
            rintro e w2 ⟨r2, rfl, ho2, hb2⟩
            rw [HPC.out] at ho2
            have hbel2 := (below_drewN hbel n1).trans hb2
            clear how hcut2
            go_wp2_with fail
            go_roundw
            case rel => exact ⟨en, f2, X ++ runPiece ls i en, hbd.2, by go_num, hf2, ho2, HX2, hbel2⟩
            case measure => simp [intOf]; omega
          · have HX2 : Hid _ := putR_stop (by omega) HX.out
            clear hr hr0
            go_wp2_with fail
            go_ret2
            exact ⟨_, by rw [E2.out]; rfl, by rw [E1.out, ← HX2.out]; exact how, hbel⟩
  · obtain ⟨e1, e2⟩ := putRuns_long h4
    rw [e1, e2]
    clear e1 e2
    go_enter Tryz.func56, Tryz.ntmps56
    go_wp2_with fail
    go_ret2
    exact ⟨_, rfl, World.ownsRow_nil _ _ _ _, Below.refl _ _⟩
end Go.Proofs.YtmmkmkaannlkhaaGreatDoor

namespace Go.Proofs.YtmmkmkaannlkhaaGreatDoor
open Go.RowKit
set_option linter.unusedVariables false

set_option maxHeartbeats 400000 in
theorem l01Signed_any (d : Int) (w : World) (h0 : -1152921504606846975 ≤ d) (h1 : d ≤ 1152921504606846975) :
    Calls Tryz.prog 95 #[.int .i64 d] w fun e w' => ∃ r, e = .returned r ∧ Own 5 w' w.heap.size r ((enc (foldS d)).map (Value.int .u8)) ∧ Below w.heap.size w w' := by
  by_cases hd : d < 0
  · have e : foldS d = (-2 * d - 1).toNat := by unfold foldS; rw [if_pos hd]
    rw [e]
    clear e
    go_enter Tryz.func95, Tryz.ntmps95
    go_wp2_with fail
    rw [show (-2 * d - 1) = (((-2 * d - 1).toNat : Nat) : Int) by omega]
    refine (l01Put_any _ (-2 * d - 1).toNat w (Nat.le_refl _) (by omega)).mono ?_
    rintro e w1 ⟨r, rfl, ho, hb⟩
    go_wp2_with fail
    go_ret
    exact ⟨_, rfl, ho, hb⟩
  · have e : foldS d = (2 * d).toNat := by unfold foldS; rw [if_neg hd]
    rw [e]
    clear e
    go_enter Tryz.func95, Tryz.ntmps95
    go_wp2_with fail
    rw [show (2 * d) = (((2 * d).toNat : Nat) : Int) by omega]
    refine (l01Put_any _ (2 * d).toNat w (Nat.le_refl _) (by omega)).mono ?_
    rintro e w1 ⟨r, rfl, ho, hb⟩
    go_wp2_with fail
    go_ret
    exact ⟨_, rfl, ho, hb⟩

set_option maxHeartbeats 4000000 in
set_option maxRecDepth 100000 in
theorem l01PutRuns_any (C : Nat) (w : World) (v : Value) (ls : List Int) (hl : ls.length ≤ 4096) (hok : runsOK ls = true) (hC : C ≤ w.heap.size) (hr : Rd C w v (ls.map (Value.int .i64))) :
    Calls Tryz.prog 59 #[v] w fun e w' => ∃ r, e = .returned r ∧ Own 5 w' w.heap.size r ((putR ls).map (Value.int .u8)) ∧ Below w.heap.size w w' := by
  obtain ⟨i0, hi, hz0, hz1, hz2⟩ := info_parts info5
  have hlen := putR_len hok hl
  obtain ⟨ao, cap, rfl, _, _, _, hr⟩ := hr
  rw [List.length_map] at hr ⊢
  go_enter Tryz.func59, Tryz.ntmps59
  go_wp2_with fail
  refine (l01Put_any ls.length ls.length w (Nat.le_refl _) (by omega)).mono ?_
  rintro e w0 ⟨r0, rfl, ho0, hb0⟩
  go_wp2_with fail
  go_loopw [3, 4, 5] (fun to ti tk wr => ∃ (i f : Nat) (X : List Int), i ≤ ls.length ∧ ti = .int .i64 i ∧ ls.length - i ≤ f ∧ Own 5 wr w.heap.size to (X.map (Value.int .u8)) ∧ Hid (X ++ putRF ls f i = putR ls) ∧ Below w.heap.size w wr) (fun _ ti _ _ => ls.length - (intOf ti).toNat)
  case atStart => exact ⟨0, ls.length, enc ls.length, Nat.zero_le _, rfl, by omega, ho0, rfl, hb0⟩
  case round =>
    clear ho0 hb0
    obtain ⟨i, f, X, hii, rfl, hf, how, HX, hbel⟩ := hrel
    have hXl : X.length ≤ 122890 := by have := congrArg List.length HX.out; simp only [List.length_append] at this; omega
    have hsz := hbel.size
    by_cases hi0 : i < ls.length
    · obtain ⟨g, off, rfl, hg, hc⟩ := hr (by omega)
      have hcell : ∀ j, j < ls.length → ∀ w' : World, Below w.heap.size w w' → w'.cell? ⟨g, off + j, none⟩ = some (.int .i64 (nth ls j)) := fun j hj w' hb => (hb.cell (p := ⟨g, off + j, none⟩) (by show g < _; omega)).trans (hc j _ (by simp [nth, hj]))
      have HCELL : Hid _ := hcell
      clear hc hr hcell hlen
      go_wp2_with fail
      go_loopw [5] (fun tk wq => ∃ (k f nn : Nat), i + 1 ≤ k ∧ k ≤ ls.length ∧ tk = .int .i64 k ∧ wq = wr.drewN nn ∧ ls.length - k ≤ f ∧ Hid (runEnd ls i = k + extF ls i f k)) (fun tk _ => ls.length - (intOf tk).toNat)
      case atStart => exact ⟨i + 1, ls.length, 0, Nat.le_refl _, hi0, by go_num, rfl, by omega, rfl⟩
      case round =>
        obtain ⟨k, fk, nn, hk1, hk2, rfl, rfl, hfk, HE0⟩ := hrel
        have hbq0 : Below w.heap.size w (wr.drewN nn) := below_drewN hbel nn
        by_cases hgo : goesOn ls i k = true
        · have hkl := goesOn_lt hgo
          obtain ⟨f', hf', hE'⟩ := ext_step hgo hfk HE0.out
          have HE' : Hid _ := hE'
          clear hE' HE0
          have hI : (k : Int) < (ls.length : Int) := by omega
          by_cases hk : k = i + 1
          · have hkb : ((k : Int) == (i : Int) + 1) = true := by rw [beq_iff_eq]; omega
            have HK : Hid _ := hk
            clear hk hgo
            go_wp2_with fail
            go_quiet (fail)
            go_wp2_with fail
            go_roundw
            case rel => exact ⟨k + 1, f', nn + nq, by omega, by omega, by go_num, by simp, hf', HE'⟩
            case measure => simp [intOf]; omega
          · obtain ⟨j, rfl⟩ : ∃ j, k = j + 1 := ⟨k - 1, by omega⟩
            have hd : (nth ls (j + 1) - nth ls j == nth ls (i + 1) - nth ls i) = true := by
              simp [goesOn] at hgo
              rw [beq_iff_eq]
              omega
            have hkb : ((j : Int) + 1 == (i : Int) + 1) = false := by rw [beq_eq_false_iff_ne]; omega
            have hkb2 : ((j : Int) == (i : Int)) = false := by rw [beq_eq_false_iff_ne]; omega
            have q0 := runsOK_nth hok i
            have q1 := runsOK_nth hok (i + 1)
            have q2 := runsOK_nth hok j
            have q3 := runsOK_nth hok (j + 1)
            have cA := HCELL.out (j + 1) hkl _ hbel
            have cB := HCELL.out j (by omega) _ hbel
            have cC := HCELL.out (i + 1) (by omega) _ hbel
            have cD := HCELL.out i hi0 _ hbel
            have hjI : (0 : Int) ≤ (j : Int) ∧ (j : Int) < (ls.length : Int) := by omega
            have hiI : (i : Int) + 1 < (ls.length : Int) := by omega
            have hiI0 : (i : Int) < (ls.length : Int) := by omega
            have hI' : (j : Int) + 1 < (ls.length : Int) := by omega
            clear hgo hk hI
            go_wp2_with fail
            go_quiet (fail)
            go_wp2_with fail
            go_roundw
            case rel => exact ⟨j + 1 + 1, f', nn + nq, by omega, by omega, by go_num, by simp, hf', HE'⟩
            case measure => simp [intOf]; omega
        · have hgo' : goesOn ls i k = false := by cases h : goesOn ls i k <;> simp_all
          have HE : Hid (runEnd ls i = k) := ext_stop hgo' HE0.out
          clear HE0
          by_cases hkl : k < ls.length
          · have hk : k ≠ i + 1 := by
              intro e
              apply hgo
              simp [goesOn, e]
              omega
            obtain ⟨j, rfl⟩ : ∃ j, k = j + 1 := ⟨k - 1, by omega⟩
            have hd : (nth ls (j + 1) - nth ls j == nth ls (i + 1) - nth ls i) = false := by
              rw [beq_eq_false_iff_ne]
              intro e
              apply hgo
              simp [goesOn, hkl, e]
            have hkb : ((j : Int) + 1 == (i : Int) + 1) = false := by rw [beq_eq_false_iff_ne]; omega
            have hkb2 : ((j : Int) == (i : Int)) = false := by rw [beq_eq_false_iff_ne]; omega
            have q0 := runsOK_nth hok i
            have q1 := runsOK_nth hok (i + 1)
            have q2 := runsOK_nth hok j
            have q3 := runsOK_nth hok (j + 1)
            have cA := HCELL.out (j + 1) hkl _ hbel
            have cB := HCELL.out j (by omega) _ hbel
            have cC := HCELL.out (i + 1) (by omega) _ hbel
            have cD := HCELL.out i hi0 _ hbel
            have hjI : (0 : Int) ≤ (j : Int) ∧ (j : Int) < (ls.length : Int) := by omega
            have hiI : (i : Int) + 1 < (ls.length : Int) := by omega
            have hiI0 : (i : Int) < (ls.length : Int) := by omega
            have hI' : (j : Int) + 1 < (ls.length : Int) := by omega
            clear hgo hgo'
            go_wp2_with fail
            go_quiet (fail)
            clear cA cB cC cD hd hkb hkb2 q2 q3
            clear hjI hI' hiI hiI0 q0 q1
            generalize hkj : j + 1 = k at *
            clear hkj hk
            have HP : Hid (runPiece ls i k = enc (nth ls i).toNat ++ enc (k - i) ++ (if 1 < k - i then enc (foldS (nth ls (i + 1) - nth ls i)) else [])) := rfl
            obtain ⟨f2, hf2, hX2⟩ := putR_step hi0 hf HX.out
            rw [HE.out] at hX2 hf2
            have HX2 : Hid _ := hX2
            clear hX2 HX HE
            have hq0 := runsOK_nth hok i
            have hq1 := runsOK_nth hok (i + 1)
            have e1 := enc_len (n := (nth ls i).toNat) (by omega)
            have e2 := enc_len (n := k - i) (by omega)
            have hfs := foldS_le (d := nth ls (i + 1) - nth ls i) (by omega) (by omega)
            have e3 := enc_len (n := foldS (nth ls (i + 1) - nth ls i)) (by omega)
            have hbq : Below w.heap.size w (wr.drewN (nn + nq)) := below_drewN hbel (nn + nq)
            have cq := HCELL.out i hi0 _ hbq
            have howq : Own 5 (wr.drewN (nn + nq)) w.heap.size u3 (X.map (Value.int .u8)) := how
            clear how
            go_wp2_with fail
            rw [show nth ls i = (((nth ls i).toNat : Nat) : Int) by omega]
            refine (l01Put_any (nth ls i).toNat (nth ls i).toNat _ (Nat.le_refl _) (by omega)).mono ?_
            rw [show (((nth ls i).toNat : Nat) : Int) = nth ls i by omega]
            rintro e w2 ⟨r2, rfl, ho2, hb2⟩
            have hout2 : Own 5 w2 w.heap.size u3 _ := howq.below hb2 (Nat.le_refl _)
            have hbel2 : Below w.heap.size w w2 := hbq.trans (hb2.mono hsz)
            have hsz2 := hbel2.size
            clear howq cq
            go_wp2_with (at_builtin; refine wpList_append_rd rfl (.tmp 50) (.tmp 55) 22 rfl w.heap.size 5 i0 (.int .u8 0) 1 Tryz.underlying22 hi hz0 hz1 hz2 rfl _ _ rfl hout2 _ _ ((enc (nth ls i).toNat).map (Value.int .u8)) rfl ho2.rd (ints_oneCell _ _) (by simp [maxLen]; omega) (by simp; omega) (by omega) ?_)
            intro v3 w3 ho3 hg3
            have hbel3 : Below w.heap.size w w3 := hbel2.grown hg3 hsz2 hout2.lt
            have hsz3 := hbel3.size
            clear hg3 hout2
            go_wp2_with fail
            rw [show ((k : Int) - (i : Int)) = ((k - i : Nat) : Int) by omega]
            refine (l01Put_any (k - i) (k - i) w3 (Nat.le_refl _) (by omega)).mono ?_
            rintro e w4 ⟨r4, rfl, ho4, hb4⟩
            have hout4 : Own 5 w4 w.heap.size v3 _ := ho3.below hb4 (Nat.le_refl _)
            have hbel4 : Below w.heap.size w w4 := hbel3.trans (hb4.mono hsz3)
            have hsz4 := hbel4.size
            clear ho3
            go_wp2_with (at_builtin; refine wpList_append_rd rfl (.tmp 57) (.tmp 61) 22 rfl w.heap.size 5 i0 (.int .u8 0) 1 Tryz.underlying22 hi hz0 hz1 hz2 rfl _ _ rfl hout4 _ _ ((enc (k - i)).map (Value.int .u8)) rfl ho4.rd (ints_oneCell _ _) (by simp [maxLen]; omega) (by simp; omega) (by omega) ?_)
            intro v5 w5 ho5 hg5
            have hbel5 : Below w.heap.size w w5 := hbel4.grown hg5 hsz4 hout4.lt
            have hsz5 := hbel5.size
            clear hg5 hout4
            by_cases h1k : 1 < k - i
            · have hI1 : (1 : Int) < (k : Int) - (i : Int) := by omega
              have cA := HCELL.out (i + 1) (by omega) _ hbel5
              have cB := HCELL.out i hi0 _ hbel5
              have hw1 : IntKind.i64.wrap ((i : Int) + 1) = (i : Int) + 1 := by rw [IntKind.wrap_i64]; omega
              have hw2 : IntKind.i64.wrap (nth ls (i + 1) - nth ls i) = nth ls (i + 1) - nth ls i := by rw [IntKind.wrap_i64]; omega
              have hiA : (0 : Int) ≤ (i : Int) + 1 ∧ (i : Int) + 1 < (ls.length : Int) := by omega
              have hiB : (0 : Int) ≤ (i : Int) ∧ (i : Int) < (ls.length : Int) := by omega
              go_wp2_with fail
              go_region_held2 (fun w' => w'.cell? ⟨g, off + (i + 1), none⟩ = some (.int .i64 (nth ls (i + 1))) ∧ w'.cell? ⟨g, off + i, none⟩ = some (.int .i64 (nth ls i))) (first | go_keep | exact ⟨HCELL.out (i + 1) (by omega) _ hbel7, HCELL.out i hi0 _ hbel7⟩ | exact ⟨HCELL.out (i + 1) (by omega) _ hbel6, HCELL.out i hi0 _ hbel6⟩) (first | (go_at_call 95; refine (l01Signed_any _ _ (by omega) (by omega)).mono ?_; rintro e w6 ⟨r6, rfl, ho6, hb6⟩; have hout6 := (show Own 5 w5.drew w.heap.size v5 _ from ho5).below hb6 (Nat.le_refl _); have hbel6 : Below w.heap.size w w6 := (hbel5.drew).trans (hb6.mono hsz5); have hsz6 := hbel6.size) | (refine step_append_rd rfl (.tmp 67) (.tmp 78) 22 rfl w.heap.size 5 i0 (.int .u8 0) 1 Tryz.underlying22 hi hz0 hz1 hz2 rfl _ _ rfl hout6 _ _ ((enc (foldS (nth ls (i + 1) - nth ls i))).map (Value.int .u8)) rfl ho6.rd (by simpa using enc_pos _) (ints_oneCell _ _) (by simp [maxLen]; omega) (by simp; omega) (by omega) ?_; intro v7 w7 ho7 hg7; have hbel7 : Below w.heap.size w w7 := hbel6.grown hg7 hsz6 hout6.lt))
              have hfin : Own 5 w7 w.heap.size v7 ((X ++ runPiece ls i k).map (Value.int .u8)) := by
                rw [HP.out, if_pos h1k]
                simpa using ho7
              clear ho7 hg7 ho5
              go_wp2_with fail
              go_roundw
              case rel => exact ⟨k, f2, X ++ runPiece ls i k, hk2, rfl, hf2, hfin, HX2, hbel7⟩
              case measure => simp [intOf]; omega
            · have hI1 : ¬ (1 : Int) < (k : Int) - (i : Int) := by omega
              have hfin : Own 5 w5 w.heap.size v5 ((X ++ runPiece ls i k).map (Value.int .u8)) := by
                rw [HP.out, if_neg h1k]
                simpa using ho5
              clear ho5
              go_wp2_with fail
              go_roundw
              case rel => exact ⟨k, f2, X ++ runPiece ls i k, hk2, rfl, hf2, hfin, HX2, hbel5⟩
              case measure => simp [intOf]; omega
          · have hI : decide ((k : Int) < (ls.length : Int)) = false := by simp; omega
            clear hgo hgo'
            go_wp2_with fail
            go_quiet (fail)
            have HP : Hid (runPiece ls i k = enc (nth ls i).toNat ++ enc (k - i) ++ (if 1 < k - i then enc (foldS (nth ls (i + 1) - nth ls i)) else [])) := rfl
            obtain ⟨f2, hf2, hX2⟩ := putR_step hi0 hf HX.out
            rw [HE.out] at hX2 hf2
            have HX2 : Hid _ := hX2
            clear hX2 HX HE
            have hq0 := runsOK_nth hok i
            have hq1 := runsOK_nth hok (i + 1)
            have e1 := enc_len (n := (nth ls i).toNat) (by omega)
            have e2 := enc_len (n := k - i) (by omega)
            have hfs := foldS_le (d := nth ls (i + 1) - nth ls i) (by omega) (by omega)
            have e3 := enc_len (n := foldS (nth ls (i + 1) - nth ls i)) (by omega)
            have hbq : Below w.heap.size w (wr.drewN (nn + nq)) := below_drewN hbel (nn + nq)
            have cq := HCELL.out i hi0 _ hbq
            have howq : Own 5 (wr.drewN (nn + nq)) w.heap.size u3 (X.map (Value.int .u8)) := how
            clear how
            go_wp2_with fail
            rw [show nth ls i = (((nth ls i).toNat : Nat) : Int) by omega]
            refine (l01Put_any (nth ls i).toNat (nth ls i).toNat _ (Nat.le_refl _) (by omega)).mono ?_
            rw [show (((nth ls i).toNat : Nat) : Int) = nth ls i by omega]
            rintro e w2 ⟨r2, rfl, ho2, hb2⟩
            have hout2 : Own 5 w2 w.heap.size u3 _ := howq.below hb2 (Nat.le_refl _)
            have hbel2 : Below w.heap.size w w2 := hbq.trans (hb2.mono hsz)
            have hsz2 := hbel2.size
            clear howq cq
            go_wp2_with (at_builtin; refine wpList_append_rd rfl (.tmp 50) (.tmp 55) 22 rfl w.heap.size 5 i0 (.int .u8 0) 1 Tryz.underlying22 hi hz0 hz1 hz2 rfl _ _ rfl hout2 _ _ ((enc (nth ls i).toNat).map (Value.int .u8)) rfl ho2.rd (ints_oneCell _ _) (by simp [maxLen]; omega) (by simp; omega) (by omega) ?_)
            intro v3 w3 ho3 hg3
            have hbel3 : Below w.heap.size w w3 := hbel2.grown hg3 hsz2 hout2.lt
            have hsz3 := hbel3.size
            clear hg3 hout2
            go_wp2_with fail
            rw [show ((k : Int) - (i : Int)) = ((k - i : Nat) : Int) by omega]
            refine (l01Put_any (k - i) (k - i) w3 (Nat.le_refl _) (by omega)).mono ?_
            rintro e w4 ⟨r4, rfl, ho4, hb4⟩
            have hout4 : Own 5 w4 w.heap.size v3 _ := ho3.below hb4 (Nat.le_refl _)
            have hbel4 : Below w.heap.size w w4 := hbel3.trans (hb4.mono hsz3)
            have hsz4 := hbel4.size
            clear ho3
            go_wp2_with (at_builtin; refine wpList_append_rd rfl (.tmp 57) (.tmp 61) 22 rfl w.heap.size 5 i0 (.int .u8 0) 1 Tryz.underlying22 hi hz0 hz1 hz2 rfl _ _ rfl hout4 _ _ ((enc (k - i)).map (Value.int .u8)) rfl ho4.rd (ints_oneCell _ _) (by simp [maxLen]; omega) (by simp; omega) (by omega) ?_)
            intro v5 w5 ho5 hg5
            have hbel5 : Below w.heap.size w w5 := hbel4.grown hg5 hsz4 hout4.lt
            have hsz5 := hbel5.size
            clear hg5 hout4
            by_cases h1k : 1 < k - i
            · have hI1 : (1 : Int) < (k : Int) - (i : Int) := by omega
              have cA := HCELL.out (i + 1) (by omega) _ hbel5
              have cB := HCELL.out i hi0 _ hbel5
              have hw1 : IntKind.i64.wrap ((i : Int) + 1) = (i : Int) + 1 := by rw [IntKind.wrap_i64]; omega
              have hw2 : IntKind.i64.wrap (nth ls (i + 1) - nth ls i) = nth ls (i + 1) - nth ls i := by rw [IntKind.wrap_i64]; omega
              have hiA : (0 : Int) ≤ (i : Int) + 1 ∧ (i : Int) + 1 < (ls.length : Int) := by omega
              have hiB : (0 : Int) ≤ (i : Int) ∧ (i : Int) < (ls.length : Int) := by omega
              go_wp2_with fail
              go_region_held2 (fun w' => w'.cell? ⟨g, off + (i + 1), none⟩ = some (.int .i64 (nth ls (i + 1))) ∧ w'.cell? ⟨g, off + i, none⟩ = some (.int .i64 (nth ls i))) (first | go_keep | exact ⟨HCELL.out (i + 1) (by omega) _ hbel7, HCELL.out i hi0 _ hbel7⟩ | exact ⟨HCELL.out (i + 1) (by omega) _ hbel6, HCELL.out i hi0 _ hbel6⟩) (first | (go_at_call 95; refine (l01Signed_any _ _ (by omega) (by omega)).mono ?_; rintro e w6 ⟨r6, rfl, ho6, hb6⟩; have hout6 := (show Own 5 w5.drew w.heap.size v5 _ from ho5).below hb6 (Nat.le_refl _); have hbel6 : Below w.heap.size w w6 := (hbel5.drew).trans (hb6.mono hsz5); have hsz6 := hbel6.size) | (refine step_append_rd rfl (.tmp 67) (.tmp 78) 22 rfl w.heap.size 5 i0 (.int .u8 0) 1 Tryz.underlying22 hi hz0 hz1 hz2 rfl _ _ rfl hout6 _ _ ((enc (foldS (nth ls (i + 1) - nth ls i))).map (Value.int .u8)) rfl ho6.rd (by simpa using enc_pos _) (ints_oneCell _ _) (by simp [maxLen]; omega) (by simp; omega) (by omega) ?_; intro v7 w7 ho7 hg7; have hbel7 : Below w.heap.size w w7 := hbel6.grown hg7 hsz6 hout6.lt))
              have hfin : Own 5 w7 w.heap.size v7 ((X ++ runPiece ls i k).map (Value.int .u8)) := by
                rw [HP.out, if_pos h1k]
                simpa using ho7
              clear ho7 hg7 ho5
              go_wp2_with fail
              go_roundw
              case rel => exact ⟨k, f2, X ++ runPiece ls i k, hk2, rfl, hf2, hfin, HX2, hbel7⟩
              case measure => simp [intOf]; omega
            · have hI1 : ¬ (1 : Int) < (k : Int) - (i : Int) := by omega
              have hfin : Own 5 w5 w.heap.size v5 ((X ++ runPiece ls i k).map (Value.int .u8)) := by
                rw [HP.out, if_neg h1k]
                simpa using ho5
              clear ho5
              go_wp2_with fail
              go_roundw
              case rel => exact ⟨k, f2, X ++ runPiece ls i k, hk2, rfl, hf2, hfin, HX2, hbel5⟩
              case measure => simp [intOf]; omega
    · have HX2 : Hid _ := putR_stop (by omega) HX.out
      clear hr hlen
      go_wp2_with fail
      go_ret
      exact ⟨_, rfl, by rw [← HX2.out]; exact how, hbel⟩

end Go.Proofs.YtmmkmkaannlkhaaGreatDoor

namespace Go.Proofs.YtmmkmkaannlkhaaGreatDoor
open Go.RowKit
set_option linter.unusedVariables false

theorem okS_bd {t a : Int} (h : okS t a = true) : (t = 0 ∧ a = 0) ∨ (1 ≤ t ∧ t ≤ 1000000000000 ∧ 0 ≤ a ∧ a < 16) := by
  unfold okS stOK at h
  simpa using h
theorem lessS_iff (t a t' a' : Int) : lessS t a t' a' = true ↔ t < t' ∨ t = t' ∧ a < a' := by simp [lessS]

/-- The later of two stamps; the greatest of the first k (zero, if there is none). -/
def mxS (m s : Int × Int) : Int × Int := if lessS m.1 m.2 s.1 s.2 = true then s else m
def topTo (ls : List (Int × Int)) : Nat → Int × Int
  | 0 => (0, 0)
  | k + 1 => mxS (topTo ls k) (ls.getD k (0, 0))
/-- All are zero or valid. -/
def allS (ls : List (Int × Int)) : Bool := ls.all fun s => okS s.1 s.2
theorem allS_get {ls : List (Int × Int)} (h : allS ls = true) (k : Nat) : okS (ls.getD k (0, 0)).1 (ls.getD k (0, 0)).2 = true := by
  by_cases hk : k < ls.length
  · have := List.all_eq_true.1 h ls[k] (List.getElem_mem hk)
    simpa [hk] using this
  · simp [hk, okS]
theorem allS_of {ls : List (Int × Int)} (h : ∀ k, k < ls.length → okS (ls.getD k (0, 0)).1 (ls.getD k (0, 0)).2 = true) : allS ls = true := by
  unfold allS
  rw [List.all_eq_true]
  intro s hs
  obtain ⟨k, hk, rfl⟩ := List.getElem_of_mem hs
  have := h k hk
  simpa [hk] using this
theorem allS_not {ls : List (Int × Int)} {k : Nat} (hk : k < ls.length) (h : okS (ls.getD k (0, 0)).1 (ls.getD k (0, 0)).2 = false) : allS ls = false := by
  cases e : allS ls with
  | false => rfl
  | true => rw [allS_get e k] at h; cases h
theorem mxS_ok {m s : Int × Int} (hm : okS m.1 m.2 = true) (hs : okS s.1 s.2 = true) : okS (mxS m s).1 (mxS m s).2 = true := by
  unfold mxS
  split
  · exact hs
  · exact hm
theorem topTo_ok {ls : List (Int × Int)} (h : allS ls = true) : ∀ k, okS (topTo ls k).1 (topTo ls k).2 = true := by
  intro k
  induction k with
  | zero => simp [topTo, okS]
  | succ k ih => exact mxS_ok ih (allS_get h k)
/-- The greatest of one stamp is that stamp. -/
theorem topTo_one {ls : List (Int × Int)} (h : allS ls = true) : topTo ls 1 = ls.getD 0 (0, 0) := by
  have hb := okS_bd (allS_get h 0)
  show mxS (0, 0) (ls.getD 0 (0, 0)) = _
  generalize ls.getD 0 (0, 0) = s at hb ⊢
  obtain ⟨t, a⟩ := s
  unfold mxS
  split
  · rfl
  · rename_i hn
    rw [lessS_iff] at hn
    simp only at hb hn ⊢
    have h1 : t = 0 := by omega
    have h2 : a = 0 := by omega
    rw [h1, h2]

/-- The specification's step. -/
def stepS (c u : Int) (s : Int × Int) : Int := if lessS s.1 s.2 u c = true then u else if c ≤ s.2 then s.1 + 1 else s.1
def timeTo (c : Int) (ls : List (Int × Int)) : Nat → Int
  | 0 => 1
  | k + 1 => stepS c (timeTo c ls k) (ls.getD k (0, 0))
theorem upT_eq {t a c : Int} (h : (t = 0 ∧ a = 0) ∨ (1 ≤ t ∧ t ≤ 1000000000000 ∧ 0 ≤ a ∧ a < 16)) : upT t a c = if t = 0 then 1 else if a < c then t else t + 1 := by
  unfold upT
  rcases h with ⟨rfl, rfl⟩ | h
  · rw [if_pos (by rw [lessS_iff]; omega)]
    rfl
  · rw [show max t 1 = t by omega, if_neg (show ¬ t = 0 by omega)]
    by_cases hc : a < c
    · rw [if_pos hc, if_pos (by rw [lessS_iff]; omega)]
    · rw [if_neg hc, if_neg (by rw [lessS_iff]; omega)]
theorem step_top {c : Int} {m s : Int × Int} (hc : 0 ≤ c) (hm : okS m.1 m.2 = true) (hs : okS s.1 s.2 = true) : stepS c (upT m.1 m.2 c) s = upT (mxS m s).1 (mxS m s).2 c := by
  have bm := okS_bd hm
  have bs := okS_bd hs
  have bx := okS_bd (mxS_ok hm hs)
  rw [upT_eq bx, upT_eq bm]
  obtain ⟨t, a⟩ := s
  obtain ⟨t', a'⟩ := m
  unfold stepS mxS
  simp only [lessS_iff] at *
  repeat' split
  all_goals first | omega | (simp only at *; omega) | (simp only at *; done)
theorem time_top {c : Int} {ls : List (Int × Int)} (hc : 0 ≤ c) (h : allS ls = true) : ∀ k, timeTo c ls k = upT (topTo ls k).1 (topTo ls k).2 c := by
  intro k
  induction k with
  | zero => exact (upT_zero).symm
  | succ k ih =>
    show stepS c (timeTo c ls k) _ = _
    rw [ih]
    exact step_top hc (topTo_ok h k) (allS_get h k)
theorem time_bd {c : Int} {ls : List (Int × Int)} (hc : 0 ≤ c) (h : allS ls = true) (k : Nat) : 1 ≤ timeTo c ls k ∧ timeTo c ls k ≤ 1000000000001 := by
  have hb := okS_bd (topTo_ok h k)
  rw [time_top hc h, upT_eq hb]
  split
  · omega
  · split <;> omega

/-- What both functions StampNext answer. -/
def nextS (ls : List (Int × Int)) (c : Int) : Value :=
  if 4096 < ls.length then .tuple #[.agg #[.int .i64 0, .int .i64 0], .int .i64 2]
  else if ¬ (0 ≤ c ∧ c < 16) ∨ allS ls = false then .tuple #[.agg #[.int .i64 0, .int .i64 0], .int .i64 4]
  else above (topTo ls ls.length).1 (topTo ls ls.length).2 c
theorem above_time {c : Int} {ls : List (Int × Int)} (h0 : 0 ≤ c) (h1 : c < 16) (h : allS ls = true) :
    above (topTo ls ls.length).1 (topTo ls ls.length).2 c = if 1000000000000 < timeTo c ls ls.length then .tuple #[.agg #[.int .i64 0, .int .i64 0], .int .i64 11] else .tuple #[.agg #[.int .i64 (timeTo c ls ls.length), .int .i64 c], .int .i64 0] := by
  have hb := time_bd h0 h ls.length
  unfold above
  rw [← time_top h0 h]
  by_cases hk : 1000000000000 < timeTo c ls ls.length
  · rw [if_pos hk, if_neg (by rw [stOK_no (by omega)]; decide)]
  · rw [if_neg hk, if_pos (stOK_yes (by omega) (by omega) h0 h1)]

end Go.Proofs.YtmmkmkaannlkhaaGreatDoor

namespace Go.Proofs.YtmmkmkaannlkhaaGreatDoor
open Go.RowKit
set_option linter.unusedVariables false

/-- A block that holds a list of stamps, two cells each. -/
def SlS (w : World) (g : Nat) (ls : List (Int × Int)) : Prop := ∀ k, k < ls.length → w.cell? ⟨g, k * 2, none⟩ = some (.int .i64 (ls.getD k (0, 0)).1) ∧ w.cell? ⟨g, k * 2 + 1, none⟩ = some (.int .i64 (ls.getD k (0, 0)).2)

theorem SlS.of_below {w w1 : World} {g B : Nat} {ls : List (Int × Int)} (h : SlS w g ls) (hb : Below B w w1) (hg : g < B) : SlS w1 g ls := fun k hk => by
  rw [hb.cell (p := ⟨g, k * 2, none⟩) hg, hb.cell (p := ⟨g, k * 2 + 1, none⟩) hg]
  exact h k hk
/-- A block that holds one stamp, and can be written. -/
def StAt (w : World) (n : Nat) (t a : Int) : Prop := w.cell? ⟨n, 0, none⟩ = some (.int .i64 t) ∧ w.cell? ⟨n, 1, none⟩ = some (.int .i64 a) ∧ w.frozen? ⟨n, 0, none⟩ = false ∧ w.frozen? ⟨n, 1, none⟩ = false
theorem StAt.on {w w1 : World} {n : Nat} {t a : Int} (h : StAt w n t a) (hb : Below w.heap.size w w1) : StAt w1 n t a :=
  ⟨cell_on hb h.1, cell_on hb h.2.1, frozen_on hb (cell_lt h.1) h.2.2.1, frozen_on hb (cell_lt h.2.1) h.2.2.2⟩
theorem StAt.put {w : World} {n : Nat} {t a : Int} (h : StAt w n t a) (t' a' : Int) : StAt ((w.setCell ⟨n, 0, none⟩ (.int .i64 t')).setCell ⟨n, 1, none⟩ (.int .i64 a')) n t' a' := by
  obtain ⟨h0, h1, f0, f1⟩ := h
  have k1 : (w.setCell ⟨n, 0, none⟩ (.int .i64 t')).cell? ⟨n, 1, none⟩ = some (.int .i64 a) := (World.cell?_setCells_out n [.int .i64 t'] 0 w _ (fun _ _ => .inr (by simp))).trans h1
  refine ⟨?_, World.cell?_setCell_same _ _ _ k1, ?_, ?_⟩
  · exact (World.cell?_setCells_out n [.int .i64 a'] 1 _ _ (fun _ _ => .inl (by simp))).trans (World.cell?_setCell_same _ _ _ h0)
  · exact ((World.frozen?_setCells n [.int .i64 a'] 1 _ _).trans (World.frozen?_setCells n [.int .i64 t'] 0 w _)).trans f0
  · exact ((World.frozen?_setCells n [.int .i64 a'] 1 _ _).trans (World.frozen?_setCells n [.int .i64 t'] 0 w _)).trans f1
theorem StAt.aside {w : World} {n m : Nat} {t a : Int} (h : StAt w n t a) (hn : n ≠ m) (u v : Value) : StAt ((w.setCell ⟨m, 0, none⟩ u).setCell ⟨m, 1, none⟩ v) n t a := by
  obtain ⟨h0, h1, f0, f1⟩ := h
  have hc : ∀ k, ((w.setCell ⟨m, 0, none⟩ u).setCell ⟨m, 1, none⟩ v).cell? ⟨n, k, none⟩ = w.cell? ⟨n, k, none⟩ := fun k => (World.cell?_setCells_out m [v] 1 _ _ (fun e => absurd e hn)).trans (World.cell?_setCells_out m [u] 0 w _ (fun e => absurd e hn))
  have hf : ∀ k, ((w.setCell ⟨m, 0, none⟩ u).setCell ⟨m, 1, none⟩ v).frozen? ⟨n, k, none⟩ = w.frozen? ⟨n, k, none⟩ := fun k => (World.frozen?_setCells m [v] 1 _ _).trans (World.frozen?_setCells m [u] 0 w _)
  exact ⟨(hc 0).trans h0, (hc 1).trans h1, (hf 0).trans f0, (hf 1).trans f1⟩
theorem StAt.made (w : World) (t a : Int) (T : TypeId) : StAt (w.alloc (.cells #[.int .i64 t, .int .i64 a] T)) w.heap.size t a :=
  ⟨cell_made (Below.refl _ _) (k := 0) rfl, cell_made (Below.refl _ _) (k := 1) rfl, frozen_made (Below.refl _ _) 0, frozen_made (Below.refl _ _) 1⟩
theorem cmpS_pos (t a t' a' : Int) : (0 < cmpS t a t' a' ∧ lessS t' a' t a = true) ∨ (¬ 0 < cmpS t a t' a' ∧ lessS t' a' t a = false) := by
  have h : 0 < cmpS t a t' a' ↔ lessS t' a' t a = true := by
    rw [lessS_iff]
    unfold cmpS orI cmpI
    repeat' split
    all_goals omega
  by_cases hp : 0 < cmpS t a t' a'
  · exact .inl ⟨hp, h.1 hp⟩
  · refine .inr ⟨hp, ?_⟩
    cases e : lessS t' a' t a with
    | false => rfl
    | true => exact absurd (h.2 e) hp

end Go.Proofs.YtmmkmkaannlkhaaGreatDoor
