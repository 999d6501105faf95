/- What the two functions StampLess do, and the walk of the law over both: it answers true at every two stamps. What the code's stampOrNone and stampAbove do. The next stamp: plain facts. The greatest of a list of stamps, and the specification's step, both number by number. A list of stamps in memory, and what MaxFunc over the code's order answers. The law's own functions over lists of stamps: their size, and that two alike are alike. -/
import Derived.Deep.RegionHeld2
import Derived.Test.YtfjekbfejbgneaaQInfoToVecCopy
namespace Go.Proofs.Ytfjekbfejbgneaa
open Go.RowKit
set_option linter.unusedVariables false

/-- How two numbers stand to one another; and two stamps. -/
def cmpI (x y : Int) : Int := if x < y then -1 else if y < x then 1 else 0
def orI (x y : Int) : Int := if x = 0 then y else x
def cmpS (t a t' a' : Int) : Int := orI (cmpI t t') (cmpI a a')
theorem orI_not {x y : Int} (h : ¬ x = 0) : orI x y = x := if_neg h
theorem orI_zero {y : Int} : orI 0 y = y := rfl
def lessS (t a t' a' : Int) : Bool := decide (t < t' ∨ t = t' ∧ a < a')
theorem cmpI_bd (x y : Int) : -1 ≤ cmpI x y ∧ cmpI x y ≤ 1 := by unfold cmpI; split <;> (try split) <;> omega
theorem cmpI_neg (x y : Int) : cmpI x y < 0 ↔ x < y := by unfold cmpI; split <;> (try split) <;> omega
theorem cmpI_zero (x y : Int) : cmpI x y = 0 ↔ x = y := by unfold cmpI; split <;> (try split) <;> omega
theorem cmpS_less (t a t' a' : Int) : decide (cmpS t a t' a' < 0) = lessS t a t' a' := by
  unfold lessS cmpS orI
  apply decide_eq_decide.2
  split
  · rename_i h
    rw [cmpI_neg]
    have := (cmpI_zero t t').1 h
    omega
  · rename_i h
    rw [cmpI_neg]
    have := mt (cmpI_zero t t').2 h
    omega

set_option maxHeartbeats 400000 in
theorem isNaN_any (x : Int) (w : World) : Calls Try.prog 77 #[.int .i64 x] w fun e w' => e = .returned (.bool false) ∧ w' = w := by
  go_enter Try.func77, Try.ntmps77
  go_wp2_with fail
  go_ret
  simp

set_option maxHeartbeats 400000 in
theorem compare_any (x y : Int) (w : World) : Calls Try.prog 75 #[.int .i64 x, .int .i64 y] w fun e w' => e = .returned (.int .i64 (cmpI x y)) ∧ w' = w := by
  obtain ⟨r, hr, hc⟩ : ∃ r, cmpI x y = r ∧ ((r = -1 ∧ x < y) ∨ (r = 1 ∧ ¬ x < y ∧ y < x) ∨ (r = 0 ∧ ¬ x < y ∧ ¬ y < x)) := by
    refine ⟨_, rfl, ?_⟩
    unfold cmpI
    split <;> (try split) <;> omega
  rw [hr]
  clear hr
  rcases hc with ⟨rfl, h1⟩ | ⟨rfl, h1, h2⟩ | ⟨rfl, h1, h2⟩
  all_goals
    go_enter Try.func75, Try.ntmps75
    go_wp2_with ((go_at_call 77; refine (isNaN_any _ _).mono ?_; rintro e w' ⟨rfl, rfl⟩))
    go_ret
    exact ⟨rfl, rfl⟩

set_option maxHeartbeats 400000 in
theorem or_two (x y : Int) (w : World) (g : Nat) (h0 : w.cell? ⟨g, 0, none⟩ = some (.int .i64 x)) (h1 : w.cell? ⟨g, 1, none⟩ = some (.int .i64 y)) :
    Calls Try.prog 74 #[.slice (some ⟨g, 0, none⟩) 2 2] w fun e w' => e = .returned (.int .i64 (orI x y)) ∧ w' = w := by
  go_enter Try.func74, Try.ntmps74
  go_wp2_with fail
  go_loop [8] (fun i => ∃ k : Nat, i = .int .i64 (k : Int) ∧ (k = 0 ∨ (k = 1 ∧ x = 0) ∨ (k = 2 ∧ x = 0 ∧ y = 0))) (fun i => 2 - (intOf i).toNat)
  case atStart => exact ⟨0, rfl, .inl rfl⟩
  case round =>
    obtain ⟨k, rfl, hk⟩ := hrel
    rcases hk with rfl | ⟨rfl, rfl⟩ | ⟨rfl, rfl, rfl⟩
    · by_cases hx : x = 0
      · have hb : (x != 0) = false := by simp [hx]
        have HX : Hid _ := hx
        clear hx
        go_wp2_with fail
        go_round
        case rel => exact ⟨1, rfl, .inr (.inl ⟨rfl, HX.out⟩)⟩
        case measure => simp [intOf]
      · have hb : (x != 0) = true := by simp [hx]
        have HX : Hid _ := hx
        clear hx
        go_wp2_with fail
        go_ret
        exact ⟨by rw [orI_not HX.out]; rfl, rfl⟩
    · by_cases hy : y = 0
      · have hb : (y != 0) = false := by simp [hy]
        have HY : Hid _ := hy
        clear hy
        go_wp2_with fail
        go_round
        case rel => exact ⟨2, rfl, .inr (.inr ⟨rfl, by first | exact rfl | exact trivial, HY.out⟩)⟩
        case measure => simp [intOf]
      · have hb : (y != 0) = true := by simp [hy]
        clear hy
        go_wp2_with fail
        go_ret
        exact ⟨rfl, rfl⟩
    · go_wp2_with fail
      go_ret
      exact ⟨rfl, rfl⟩

theorem two_made (w : World) (o : Obj) (x y z u : Value) (T T' : TypeId) : (((w.alloc o).alloc (.cells #[x, y] T)).alloc (.cells #[z, u] T')).cell? ⟨w.heap.size + 1, 0, none⟩ = some x ∧ (((w.alloc o).alloc (.cells #[x, y] T)).alloc (.cells #[z, u] T')).cell? ⟨w.heap.size + 1, 1, none⟩ = some y ∧
    (((w.alloc o).alloc (.cells #[x, y] T)).alloc (.cells #[z, u] T')).cell? ⟨w.heap.size + 1 + 1, 0, none⟩ = some z ∧ (((w.alloc o).alloc (.cells #[x, y] T)).alloc (.cells #[z, u] T')).cell? ⟨w.heap.size + 1 + 1, 1, none⟩ = some u := by
  refine ⟨?_, ?_, ?_, ?_⟩
  · rw [World.cell?_alloc_past _ _ _ (by simp), World.cell?_alloc_at _ _ _ _ (by simp)]; rfl
  · rw [World.cell?_alloc_past _ _ _ (by simp), World.cell?_alloc_at _ _ _ _ (by simp)]; rfl
  · rw [World.cell?_alloc_at _ _ _ _ (by simp)]; rfl
  · rw [World.cell?_alloc_at _ _ _ _ (by simp)]; rfl

theorem keep_four {w : World} {a b c d : Addr} {x y z u : Value} (h : w.cell? a = some x ∧ w.cell? b = some y ∧ w.cell? c = some z ∧ w.cell? d = some u) (o : Obj) : (w.alloc o).cell? a = some x ∧ (w.alloc o).cell? b = some y ∧ (w.alloc o).cell? c = some z ∧ (w.alloc o).cell? d = some u :=
  ⟨alloc_keep h.1 o, alloc_keep h.2.1 o, alloc_keep h.2.2.1 o, alloc_keep h.2.2.2 o⟩

theorem last_made (w : World) (x y : Value) (T : TypeId) (n : Nat) (hn : n = w.heap.size) : (w.alloc (.cells #[x, y] T)).drew.cell? ⟨n, 0, none⟩ = some x ∧ (w.alloc (.cells #[x, y] T)).drew.cell? ⟨n, 1, none⟩ = some y := by
  constructor
  · show (w.alloc (.cells #[x, y] T)).cell? ⟨n, 0, none⟩ = some x
    rw [World.cell?_alloc_at _ _ _ _ hn]; rfl
  · show (w.alloc (.cells #[x, y] T)).cell? ⟨n, 1, none⟩ = some y
    rw [World.cell?_alloc_at _ _ _ _ hn]; rfl

set_option maxHeartbeats 400000 in
theorem order_any (t a t' a' : Int) (w : World) :
    Calls Try.prog 69 #[.agg #[], .agg #[.int .i64 t, .int .i64 a], .agg #[.int .i64 t', .int .i64 a']] w fun e w' => e = .returned (.int .i64 (cmpS t a t' a')) ∧ Below w.heap.size w w' := by
  go_enter Try.func69, Try.ntmps69
  go_wp2_with fail
  go_region_held2 (fun w' => w'.cell? ⟨w.heap.size + 1, 0, none⟩ = some (.int .i64 t) ∧ w'.cell? ⟨w.heap.size + 1, 1, none⟩ = some (.int .i64 a) ∧ w'.cell? ⟨w.heap.size + 1 + 1, 0, none⟩ = some (.int .i64 t') ∧ w'.cell? ⟨w.heap.size + 1 + 1, 1, none⟩ = some (.int .i64 a')) (first | exact two_made w _ _ _ _ _ _ _ | exact keep_four (two_made w _ _ _ _ _ _ _) _) (first | (go_at_call 75; refine (compare_any _ _ _).mono ?_; rintro e w' ⟨rfl, rfl⟩) | (go_at_call 74; refine (or_two (cmpI t t') (cmpI a a') _ _ (last_made _ _ _ _ _ (by simp)).1 (last_made _ _ _ _ _ (by simp)).2).mono ?_; rintro e w' ⟨rfl, rfl⟩))
  go_wp2_with fail
  go_ret
  exact ⟨rfl, (below_then (below_then (below_then (below_alloc _ _) _) _) _).drew⟩

set_option maxHeartbeats 400000 in
theorem implStampLess_any (t a t' a' : Int) (w : World) :
    Calls Try.prog 58 #[.agg #[.int .i64 t, .int .i64 a], .agg #[.int .i64 t', .int .i64 a']] w fun e w' => e = .returned (.bool (lessS t a t' a')) ∧ Below w.heap.size w w' := by
  have HL : Hid _ := cmpS_less t a t' a'
  go_enter Try.func58, Try.ntmps58
  go_wp2_with ((go_at_call 69; refine (order_any t a t' a' _).mono ?_; rintro e w' ⟨rfl, hb⟩))
  go_ret
  exact ⟨by rw [← HL.out]; rfl, below_seq (below_then (below_alloc _ _) _) hb⟩

set_option maxHeartbeats 400000 in
theorem specStampLess_any (t a t' a' : Int) (w : World) :
    Calls Try.prog 52 #[.agg #[.int .i64 t, .int .i64 a], .agg #[.int .i64 t', .int .i64 a']] w fun e w' => e = .returned (.bool (lessS t a t' a')) ∧ Below w.heap.size w w' := by
  obtain ⟨r, hr, hc⟩ : ∃ r, lessS t a t' a' = r ∧ ((r = true ∧ t < t') ∨ (r = decide (a < a') ∧ ¬ t < t' ∧ (t == t') = true) ∨ (r = false ∧ ¬ t < t' ∧ (t == t') = false)) := by
    refine ⟨_, rfl, ?_⟩
    unfold lessS
    by_cases h : t < t'
    · exact .inl ⟨by simp [h], h⟩
    · by_cases h2 : t = t'
      · exact .inr (.inl ⟨by simp [h2], h, by simp [h2]⟩)
      · exact .inr (.inr ⟨by simp [h2]; omega, h, by simp [h2]⟩)
  rw [hr]
  clear hr
  rcases hc with ⟨rfl, h1⟩ | ⟨rfl, h1, h2⟩ | ⟨rfl, h1, h2⟩
  all_goals
    go_enter Try.func52, Try.ntmps52
    go_wp2_with fail
    go_ret
    exact ⟨by simp, below_then (below_alloc _ _) _⟩

theorem four_there {w w1 : World} {x y z u : Value} {T T' : TypeId} (h : Below ((w.alloc (.cells #[x, y] T)).alloc (.cells #[z, u] T')).heap.size ((w.alloc (.cells #[x, y] T)).alloc (.cells #[z, u] T')) w1) :
    w1.cell? ⟨w.heap.size, 0, none⟩ = some x ∧ w1.cell? ⟨w.heap.size, 1, none⟩ = some y ∧ w1.cell? ⟨w.heap.size + 1, 0, none⟩ = some z ∧ w1.cell? ⟨w.heap.size + 1, 1, none⟩ = some u := by
  refine ⟨?_, ?_, ?_, ?_⟩
  · rw [h.cell (p := ⟨w.heap.size, 0, none⟩) (by simp; omega), World.cell?_alloc_past _ _ _ (by simp), World.cell?_alloc_at _ _ _ _ rfl]; rfl
  · rw [h.cell (p := ⟨w.heap.size, 1, none⟩) (by simp; omega), World.cell?_alloc_past _ _ _ (by simp), World.cell?_alloc_at _ _ _ _ rfl]; rfl
  · rw [h.cell (p := ⟨w.heap.size + 1, 0, none⟩) (by simp), World.cell?_alloc_at _ _ _ _ (by simp)]; rfl
  · rw [h.cell (p := ⟨w.heap.size + 1, 1, none⟩) (by simp), World.cell?_alloc_at _ _ _ _ (by simp)]; rfl

end Go.Proofs.Ytfjekbfejbgneaa

namespace Go.Proofs.Ytfjekbfejbgneaa
open Go.RowKit
set_option linter.unusedVariables false

/-- A stamp is zero, or valid. -/
def okS (t a : Int) : Bool := decide (t = 0 ∧ a = 0) || stOK t a

set_option maxHeartbeats 400000 in
theorem stampOrNone_any (t a : Int) (w : World) :
    Calls Try.prog 57 #[.agg #[.int .i64 t, .int .i64 a]] w fun e w' => e = .returned (.bool (okS t a)) ∧ Below w.heap.size w w' := by
  obtain ⟨r, hr, hc⟩ : ∃ r, okS t a = r ∧ ((r = true ∧ t = 0 ∧ a = 0) ∨ (r = stOK t a ∧ (t == 0) = false) ∨ (r = stOK t a ∧ (t == 0) = true ∧ (a == 0) = false)) := by
    refine ⟨_, rfl, ?_⟩
    unfold okS
    by_cases h1 : t = 0
    · by_cases h2 : a = 0
      · exact .inl ⟨by simp [h1, h2], h1, h2⟩
      · exact .inr (.inr ⟨by simp [h2], by simp [h1], by simp [h2]⟩)
    · exact .inr (.inl ⟨by simp [h1], by simp [h1]⟩)
  rw [hr]
  clear hr
  rcases hc with ⟨rfl, rfl, rfl⟩ | ⟨rfl, h1⟩ | ⟨rfl, h1, h2⟩
  all_goals
    go_enter Try.func57, Try.ntmps57
    go_wp2_with ((go_at_call 68; refine (implStampOK_any t a _).mono ?_; rintro e w' ⟨rfl, hb⟩))
    go_ret
    first | exact ⟨by simp, below_seq (below_alloc _ _) hb⟩ | exact ⟨by simp, below_alloc _ _⟩

/-- The time of the least stamp of an actor above a stamp. -/
def upT (t a c : Int) : Int := if lessS t a (max t 1) c = true then max t 1 else max t 1 + 1
/-- What stampAbove answers. -/
def above (t a c : Int) : Value := if stOK (upT t a c) c = true then .tuple #[.agg #[.int .i64 (upT t a c), .int .i64 c], .int .i64 0] else .tuple #[.agg #[.int .i64 0, .int .i64 0], .int .i64 11]

theorem upT_yes {t a c : Int} (h : 1 ≤ t) (hl : lessS t a t c = true) : upT t a c = t := by
  unfold upT
  rw [show max t 1 = t by omega, if_pos hl]
theorem upT_no {t a c : Int} (h : 1 ≤ t) (hl : lessS t a t c = false) : upT t a c = t + 1 := by
  unfold upT
  rw [show max t 1 = t by omega, hl]; rfl
theorem upT_zero {a c : Int} : upT 0 a c = 1 := by
  unfold upT
  rw [show max (0 : Int) 1 = 1 from rfl, if_pos (by simp [lessS])]
theorem above_yes {t a c : Int} (h : stOK (upT t a c) c = true) : above t a c = .tuple #[.agg #[.int .i64 (upT t a c), .int .i64 c], .int .i64 0] := if_pos h
theorem above_no {t a c : Int} (h : stOK (upT t a c) c = false) : above t a c = .tuple #[.agg #[.int .i64 0, .int .i64 0], .int .i64 11] := if_neg (by simp [h])

theorem three_there {w w1 : World} {x y p q z u : Value} {T : TypeId} (h : Below (((w.alloc (.cells #[x, y] T)).alloc (.cells #[p, q] T)).alloc (.cells #[z, u] T)).heap.size (((w.alloc (.cells #[x, y] T)).alloc (.cells #[p, q] T)).alloc (.cells #[z, u] T)) w1) :
    (w1.cell? ⟨w.heap.size + 1, 0, none⟩ = some p ∧ w1.cell? ⟨w.heap.size + 1, 1, none⟩ = some q ∧ w1.cell? ⟨w.heap.size + 1 + 1, 0, none⟩ = some z ∧ w1.cell? ⟨w.heap.size + 1 + 1, 1, none⟩ = some u) ∧
      ∀ k, w1.frozen? ⟨w.heap.size + 1, k, none⟩ = false ∧ w1.frozen? ⟨w.heap.size + 1 + 1, k, none⟩ = false := by
  have hB : Below ((w.alloc (.cells #[x, y] T)).alloc (.cells #[p, q] T)).heap.size ((w.alloc (.cells #[x, y] T)).alloc (.cells #[p, q] T)) w1 := below_seq (below_alloc _ _) h
  have e1 : (w.alloc (.cells #[x, y] T)).heap.size = w.heap.size + 1 := World.size_alloc _ _
  have e2 : ((w.alloc (.cells #[x, y] T)).alloc (.cells #[p, q] T)).heap.size = w.heap.size + 1 + 1 := by rw [World.size_alloc, e1]
  have a0 := cell_made hB (k := 0) rfl
  have a1 := cell_made hB (k := 1) rfl
  have b0 := cell_made h (k := 0) rfl
  have b1 := cell_made h (k := 1) rfl
  have fa := frozen_made hB
  have fb := frozen_made h
  rw [e1] at a0 a1 fa
  rw [e2] at b0 b1 fb
  exact ⟨⟨a0, a1, b0, b1⟩, fun k => ⟨fa k, fb k⟩⟩

theorem cell_on {w w1 : World} (h : Below w.heap.size w w1) {a : Addr} {v : Value} (hc : w.cell? a = some v) : w1.cell? a = some v := by
  rw [h.cell (p := a)]
  · exact hc
  · unfold World.cell? at hc
    split at hc
    · rename_i hb
      exact (Array.getElem?_eq_some_iff.1 hb).1
    all_goals simp at hc
theorem frozen_on {w w1 : World} (h : Below w.heap.size w w1) {a : Addr} (ha : a.block < w.heap.size) (hc : w.frozen? a = false) : w1.frozen? a = false := by
  rw [h.frozen (p := a) ha]
  exact hc
theorem cell_lt {w : World} {a : Addr} {v : Value} (h : w.cell? a = some v) : a.block < w.heap.size := by
  unfold World.cell? at h
  split at h
  · rename_i hb
    exact (Array.getElem?_eq_some_iff.1 hb).1
  all_goals simp at h
theorem set_there {w w1 : World} {m n : Nat} {p q z u v : Value} (hmn : m ≠ n) (hc : w.cell? ⟨m, 0, none⟩ = some p ∧ w.cell? ⟨m, 1, none⟩ = some q ∧ w.cell? ⟨n, 0, none⟩ = some z ∧ w.cell? ⟨n, 1, none⟩ = some u)
    (hf : ∀ k, w.frozen? ⟨m, k, none⟩ = false ∧ w.frozen? ⟨n, k, none⟩ = false) (h : Below (w.setCell ⟨n, 0, none⟩ v).heap.size (w.setCell ⟨n, 0, none⟩ v) w1) :
    (w1.cell? ⟨m, 0, none⟩ = some p ∧ w1.cell? ⟨m, 1, none⟩ = some q ∧ w1.cell? ⟨n, 0, none⟩ = some v ∧ w1.cell? ⟨n, 1, none⟩ = some u) ∧ ∀ k, w1.frozen? ⟨m, k, none⟩ = false ∧ w1.frozen? ⟨n, k, none⟩ = false := by
  obtain ⟨h0, h1, h2, h3⟩ := hc
  have hz : ∀ k, (w.setCell ⟨n, 0, none⟩ v).frozen? ⟨m, k, none⟩ = false ∧ (w.setCell ⟨n, 0, none⟩ v).frozen? ⟨n, k, none⟩ = false := fun k => ⟨(World.frozen?_setCells n [v] 0 w _).trans (hf k).1, (World.frozen?_setCells n [v] 0 w _).trans (hf k).2⟩
  refine ⟨⟨cell_on h ?_, cell_on h ?_, cell_on h (World.cell?_setCell_same _ _ _ h2), cell_on h ?_⟩, fun k => ⟨frozen_on h (by rw [World.size_setCell]; exact (cell_lt h0 : m < _)) (hz k).1, frozen_on h (by rw [World.size_setCell]; exact (cell_lt h2 : n < _)) (hz k).2⟩⟩
  · exact (World.cell?_setCells_out n [v] 0 w _ (fun e => absurd e hmn)).trans h0
  · exact (World.cell?_setCells_out n [v] 0 w _ (fun e => absurd e hmn)).trans h1
  · exact (World.cell?_setCells_out n [v] 0 w _ (fun _ _ => .inr (by simp))).trans h3
theorem less_zero (a c : Int) : lessS 0 a 1 c = true := by simp [lessS]

end Go.Proofs.Ytfjekbfejbgneaa

namespace Go.Proofs.Ytfjekbfejbgneaa
open Go.RowKit
set_option linter.unusedVariables false

theorem okS_bd {t a : Int} (h : okS t a = true) : (t = 0 ∧ a = 0) ∨ (1 ≤ t ∧ t ≤ 1000000000000 ∧ 0 ≤ a ∧ a < 16) := by
  unfold okS stOK at h
  simpa using h
theorem lessS_iff (t a t' a' : Int) : lessS t a t' a' = true ↔ t < t' ∨ t = t' ∧ a < a' := by simp [lessS]

/-- The later of two stamps; the greatest of the first k (zero, if there is none). -/
def mxS (m s : Int × Int) : Int × Int := if lessS m.1 m.2 s.1 s.2 = true then s else m
def topTo (ls : List (Int × Int)) : Nat → Int × Int
  | 0 => (0, 0)
  | k + 1 => mxS (topTo ls k) (ls.getD k (0, 0))
/-- All are zero or valid. -/
def allS (ls : List (Int × Int)) : Bool := ls.all fun s => okS s.1 s.2
theorem allS_get {ls : List (Int × Int)} (h : allS ls = true) (k : Nat) : okS (ls.getD k (0, 0)).1 (ls.getD k (0, 0)).2 = true := by
  by_cases hk : k < ls.length
  · have := List.all_eq_true.1 h ls[k] (List.getElem_mem hk)
    simpa [hk] using this
  · simp [hk, okS]
theorem allS_of {ls : List (Int × Int)} (h : ∀ k, k < ls.length → okS (ls.getD k (0, 0)).1 (ls.getD k (0, 0)).2 = true) : allS ls = true := by
  unfold allS
  rw [List.all_eq_true]
  intro s hs
  obtain ⟨k, hk, rfl⟩ := List.getElem_of_mem hs
  have := h k hk
  simpa [hk] using this
theorem allS_not {ls : List (Int × Int)} {k : Nat} (hk : k < ls.length) (h : okS (ls.getD k (0, 0)).1 (ls.getD k (0, 0)).2 = false) : allS ls = false := by
  cases e : allS ls with
  | false => rfl
  | true => rw [allS_get e k] at h; cases h
theorem mxS_ok {m s : Int × Int} (hm : okS m.1 m.2 = true) (hs : okS s.1 s.2 = true) : okS (mxS m s).1 (mxS m s).2 = true := by
  unfold mxS
  split
  · exact hs
  · exact hm
theorem topTo_ok {ls : List (Int × Int)} (h : allS ls = true) : ∀ k, okS (topTo ls k).1 (topTo ls k).2 = true := by
  intro k
  induction k with
  | zero => simp [topTo, okS]
  | succ k ih => exact mxS_ok ih (allS_get h k)
/-- The greatest of one stamp is that stamp. -/
theorem topTo_one {ls : List (Int × Int)} (h : allS ls = true) : topTo ls 1 = ls.getD 0 (0, 0) := by
  have hb := okS_bd (allS_get h 0)
  show mxS (0, 0) (ls.getD 0 (0, 0)) = _
  generalize ls.getD 0 (0, 0) = s at hb ⊢
  obtain ⟨t, a⟩ := s
  unfold mxS
  split
  · rfl
  · rename_i hn
    rw [lessS_iff] at hn
    simp only at hb hn ⊢
    have h1 : t = 0 := by omega
    have h2 : a = 0 := by omega
    rw [h1, h2]

/-- The specification's step. -/
def stepS (c u : Int) (s : Int × Int) : Int := if lessS s.1 s.2 u c = true then u else if c ≤ s.2 then s.1 + 1 else s.1
def timeTo (c : Int) (ls : List (Int × Int)) : Nat → Int
  | 0 => 1
  | k + 1 => stepS c (timeTo c ls k) (ls.getD k (0, 0))
theorem upT_eq {t a c : Int} (h : (t = 0 ∧ a = 0) ∨ (1 ≤ t ∧ t ≤ 1000000000000 ∧ 0 ≤ a ∧ a < 16)) : upT t a c = if t = 0 then 1 else if a < c then t else t + 1 := by
  unfold upT
  rcases h with ⟨rfl, rfl⟩ | h
  · rw [if_pos (by rw [lessS_iff]; omega)]
    rfl
  · rw [show max t 1 = t by omega, if_neg (show ¬ t = 0 by omega)]
    by_cases hc : a < c
    · rw [if_pos hc, if_pos (by rw [lessS_iff]; omega)]
    · rw [if_neg hc, if_neg (by rw [lessS_iff]; omega)]
theorem step_top {c : Int} {m s : Int × Int} (hc : 0 ≤ c) (hm : okS m.1 m.2 = true) (hs : okS s.1 s.2 = true) : stepS c (upT m.1 m.2 c) s = upT (mxS m s).1 (mxS m s).2 c := by
  have bm := okS_bd hm
  have bs := okS_bd hs
  have bx := okS_bd (mxS_ok hm hs)
  rw [upT_eq bx, upT_eq bm]
  obtain ⟨t, a⟩ := s
  obtain ⟨t', a'⟩ := m
  unfold stepS mxS
  simp only [lessS_iff] at *
  repeat' split
  all_goals first | omega | (simp only at *; omega) | (simp only at *; done)
theorem time_top {c : Int} {ls : List (Int × Int)} (hc : 0 ≤ c) (h : allS ls = true) : ∀ k, timeTo c ls k = upT (topTo ls k).1 (topTo ls k).2 c := by
  intro k
  induction k with
  | zero => exact (upT_zero).symm
  | succ k ih =>
    show stepS c (timeTo c ls k) _ = _
    rw [ih]
    exact step_top hc (topTo_ok h k) (allS_get h k)
theorem time_bd {c : Int} {ls : List (Int × Int)} (hc : 0 ≤ c) (h : allS ls = true) (k : Nat) : 1 ≤ timeTo c ls k ∧ timeTo c ls k ≤ 1000000000001 := by
  have hb := okS_bd (topTo_ok h k)
  rw [time_top hc h, upT_eq hb]
  split
  · omega
  · split <;> omega

/-- What both functions StampNext answer. -/
def nextS (ls : List (Int × Int)) (c : Int) : Value :=
  if 4096 < ls.length then .tuple #[.agg #[.int .i64 0, .int .i64 0], .int .i64 2]
  else if ¬ (0 ≤ c ∧ c < 16) ∨ allS ls = false then .tuple #[.agg #[.int .i64 0, .int .i64 0], .int .i64 4]
  else above (topTo ls ls.length).1 (topTo ls ls.length).2 c
theorem above_time {c : Int} {ls : List (Int × Int)} (h0 : 0 ≤ c) (h1 : c < 16) (h : allS ls = true) :
    above (topTo ls ls.length).1 (topTo ls ls.length).2 c = if 1000000000000 < timeTo c ls ls.length then .tuple #[.agg #[.int .i64 0, .int .i64 0], .int .i64 11] else .tuple #[.agg #[.int .i64 (timeTo c ls ls.length), .int .i64 c], .int .i64 0] := by
  have hb := time_bd h0 h ls.length
  unfold above
  rw [← time_top h0 h]
  by_cases hk : 1000000000000 < timeTo c ls ls.length
  · rw [if_pos hk, if_neg (by rw [stOK_no (by omega)]; decide)]
  · rw [if_neg hk, if_pos (stOK_yes (by omega) (by omega) h0 h1)]

end Go.Proofs.Ytfjekbfejbgneaa

namespace Go.Proofs.Ytfjekbfejbgneaa
open Go.RowKit
set_option linter.unusedVariables false

/-- A block that holds a list of stamps, two cells each. -/
def SlS (w : World) (g : Nat) (ls : List (Int × Int)) : Prop := ∀ k, k < ls.length → w.cell? ⟨g, k * 2, none⟩ = some (.int .i64 (ls.getD k (0, 0)).1) ∧ w.cell? ⟨g, k * 2 + 1, none⟩ = some (.int .i64 (ls.getD k (0, 0)).2)

theorem SlS.of_below {w w1 : World} {g B : Nat} {ls : List (Int × Int)} (h : SlS w g ls) (hb : Below B w w1) (hg : g < B) : SlS w1 g ls := fun k hk => by
  rw [hb.cell (p := ⟨g, k * 2, none⟩) hg, hb.cell (p := ⟨g, k * 2 + 1, none⟩) hg]
  exact h k hk
/-- A block that holds one stamp, and can be written. -/
def StAt (w : World) (n : Nat) (t a : Int) : Prop := w.cell? ⟨n, 0, none⟩ = some (.int .i64 t) ∧ w.cell? ⟨n, 1, none⟩ = some (.int .i64 a) ∧ w.frozen? ⟨n, 0, none⟩ = false ∧ w.frozen? ⟨n, 1, none⟩ = false
theorem StAt.on {w w1 : World} {n : Nat} {t a : Int} (h : StAt w n t a) (hb : Below w.heap.size w w1) : StAt w1 n t a :=
  ⟨cell_on hb h.1, cell_on hb h.2.1, frozen_on hb (cell_lt h.1) h.2.2.1, frozen_on hb (cell_lt h.2.1) h.2.2.2⟩
theorem StAt.put {w : World} {n : Nat} {t a : Int} (h : StAt w n t a) (t' a' : Int) : StAt ((w.setCell ⟨n, 0, none⟩ (.int .i64 t')).setCell ⟨n, 1, none⟩ (.int .i64 a')) n t' a' := by
  obtain ⟨h0, h1, f0, f1⟩ := h
  have k1 : (w.setCell ⟨n, 0, none⟩ (.int .i64 t')).cell? ⟨n, 1, none⟩ = some (.int .i64 a) := (World.cell?_setCells_out n [.int .i64 t'] 0 w _ (fun _ _ => .inr (by simp))).trans h1
  refine ⟨?_, World.cell?_setCell_same _ _ _ k1, ?_, ?_⟩
  · exact (World.cell?_setCells_out n [.int .i64 a'] 1 _ _ (fun _ _ => .inl (by simp))).trans (World.cell?_setCell_same _ _ _ h0)
  · exact ((World.frozen?_setCells n [.int .i64 a'] 1 _ _).trans (World.frozen?_setCells n [.int .i64 t'] 0 w _)).trans f0
  · exact ((World.frozen?_setCells n [.int .i64 a'] 1 _ _).trans (World.frozen?_setCells n [.int .i64 t'] 0 w _)).trans f1
theorem StAt.aside {w : World} {n m : Nat} {t a : Int} (h : StAt w n t a) (hn : n ≠ m) (u v : Value) : StAt ((w.setCell ⟨m, 0, none⟩ u).setCell ⟨m, 1, none⟩ v) n t a := by
  obtain ⟨h0, h1, f0, f1⟩ := h
  have hc : ∀ k, ((w.setCell ⟨m, 0, none⟩ u).setCell ⟨m, 1, none⟩ v).cell? ⟨n, k, none⟩ = w.cell? ⟨n, k, none⟩ := fun k => (World.cell?_setCells_out m [v] 1 _ _ (fun e => absurd e hn)).trans (World.cell?_setCells_out m [u] 0 w _ (fun e => absurd e hn))
  have hf : ∀ k, ((w.setCell ⟨m, 0, none⟩ u).setCell ⟨m, 1, none⟩ v).frozen? ⟨n, k, none⟩ = w.frozen? ⟨n, k, none⟩ := fun k => (World.frozen?_setCells m [v] 1 _ _).trans (World.frozen?_setCells m [u] 0 w _)
  exact ⟨(hc 0).trans h0, (hc 1).trans h1, (hf 0).trans f0, (hf 1).trans f1⟩
theorem StAt.made (w : World) (t a : Int) (T : TypeId) : StAt (w.alloc (.cells #[.int .i64 t, .int .i64 a] T)) w.heap.size t a :=
  ⟨cell_made (Below.refl _ _) (k := 0) rfl, cell_made (Below.refl _ _) (k := 1) rfl, frozen_made (Below.refl _ _) 0, frozen_made (Below.refl _ _) 1⟩
theorem cmpS_pos (t a t' a' : Int) : (0 < cmpS t a t' a' ∧ lessS t' a' t a = true) ∨ (¬ 0 < cmpS t a t' a' ∧ lessS t' a' t a = false) := by
  have h : 0 < cmpS t a t' a' ↔ lessS t' a' t a = true := by
    rw [lessS_iff]
    unfold cmpS orI cmpI
    repeat' split
    all_goals omega
  by_cases hp : 0 < cmpS t a t' a'
  · exact .inl ⟨hp, h.1 hp⟩
  · refine .inr ⟨hp, ?_⟩
    cases e : lessS t' a' t a with
    | false => rfl
    | true => exact absurd (h.2 e) hp

end Go.Proofs.Ytfjekbfejbgneaa

namespace Go.Proofs.Ytfjekbfejbgneaa
open Go.RowKit
set_option linter.unusedVariables false

end Go.Proofs.Ytfjekbfejbgneaa
