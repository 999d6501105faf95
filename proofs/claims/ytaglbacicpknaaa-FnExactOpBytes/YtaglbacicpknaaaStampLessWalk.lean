/- What the two functions StampLess do, and the walk of the law over both: it answers true at every two stamps. -/
import Derived.Test.YtaglbacicpknaaaStampBase
import Derived.Deep.RegionHeld2
namespace Go.Proofs.Ytaglbacicpknaaa
open Go.RowKit
set_option linter.unusedVariables false

/-- How two numbers stand to one another; and two stamps. -/
def cmpI (x y : Int) : Int := if x < y then -1 else if y < x then 1 else 0
def orI (x y : Int) : Int := if x = 0 then y else x
def cmpS (t a t' a' : Int) : Int := orI (cmpI t t') (cmpI a a')
theorem orI_not {x y : Int} (h : ¬ x = 0) : orI x y = x := if_neg h
theorem orI_zero {y : Int} : orI 0 y = y := rfl
def lessS (t a t' a' : Int) : Bool := decide (t < t' ∨ t = t' ∧ a < a')
theorem cmpI_bd (x y : Int) : -1 ≤ cmpI x y ∧ cmpI x y ≤ 1 := by unfold cmpI; split <;> (try split) <;> omega
theorem cmpI_neg (x y : Int) : cmpI x y < 0 ↔ x < y := by unfold cmpI; split <;> (try split) <;> omega
theorem cmpI_zero (x y : Int) : cmpI x y = 0 ↔ x = y := by unfold cmpI; split <;> (try split) <;> omega
theorem cmpS_less (t a t' a' : Int) : decide (cmpS t a t' a' < 0) = lessS t a t' a' := by
  unfold lessS cmpS orI
  apply decide_eq_decide.2
  split
  · rename_i h
    rw [cmpI_neg]
    have := (cmpI_zero t t').1 h
    omega
  · rename_i h
    rw [cmpI_neg]
    have := mt (cmpI_zero t t').2 h
    omega

set_option maxHeartbeats 400000 in
theorem isNaN_any (x : Int) (w : World) : Calls Try.prog 75 #[.int .i64 x] w fun e w' => e = .returned (.bool false) ∧ w' = w := by
  go_enter Try.func75, Try.ntmps75
  go_wp2_with fail
  go_ret
  simp

set_option maxHeartbeats 400000 in
theorem compare_any (x y : Int) (w : World) : Calls Try.prog 73 #[.int .i64 x, .int .i64 y] w fun e w' => e = .returned (.int .i64 (cmpI x y)) ∧ w' = w := by
  obtain ⟨r, hr, hc⟩ : ∃ r, cmpI x y = r ∧ ((r = -1 ∧ x < y) ∨ (r = 1 ∧ ¬ x < y ∧ y < x) ∨ (r = 0 ∧ ¬ x < y ∧ ¬ y < x)) := by
    refine ⟨_, rfl, ?_⟩
    unfold cmpI
    split <;> (try split) <;> omega
  rw [hr]
  clear hr
  rcases hc with ⟨rfl, h1⟩ | ⟨rfl, h1, h2⟩ | ⟨rfl, h1, h2⟩
  all_goals
    go_enter Try.func73, Try.ntmps73
    go_wp2_with ((go_at_call 75; refine (isNaN_any _ _).mono ?_; rintro e w' ⟨rfl, rfl⟩))
    go_ret
    exact ⟨rfl, rfl⟩

set_option maxHeartbeats 400000 in
theorem or_two (x y : Int) (w : World) (g : Nat) (h0 : w.cell? ⟨g, 0, none⟩ = some (.int .i64 x)) (h1 : w.cell? ⟨g, 1, none⟩ = some (.int .i64 y)) :
    Calls Try.prog 72 #[.slice (some ⟨g, 0, none⟩) 2 2] w fun e w' => e = .returned (.int .i64 (orI x y)) ∧ w' = w := by
  go_enter Try.func72, Try.ntmps72
  go_wp2_with fail
  go_loop [8] (fun i => ∃ k : Nat, i = .int .i64 (k : Int) ∧ (k = 0 ∨ (k = 1 ∧ x = 0) ∨ (k = 2 ∧ x = 0 ∧ y = 0))) (fun i => 2 - (intOf i).toNat)
  case atStart => exact ⟨0, rfl, .inl rfl⟩
  case round =>
    obtain ⟨k, rfl, hk⟩ := hrel
    rcases hk with rfl | ⟨rfl, rfl⟩ | ⟨rfl, rfl, rfl⟩
    · by_cases hx : x = 0
      · have hb : (x != 0) = false := by simp [hx]
        have HX : Hid _ := hx
        clear hx
        go_wp2_with fail
        go_round
        case rel => exact ⟨1, rfl, .inr (.inl ⟨rfl, HX.out⟩)⟩
        case measure => simp [intOf]
      · have hb : (x != 0) = true := by simp [hx]
        have HX : Hid _ := hx
        clear hx
        go_wp2_with fail
        go_ret
        exact ⟨by rw [orI_not HX.out]; rfl, rfl⟩
    · by_cases hy : y = 0
      · have hb : (y != 0) = false := by simp [hy]
        have HY : Hid _ := hy
        clear hy
        go_wp2_with fail
        go_round
        case rel => exact ⟨2, rfl, .inr (.inr ⟨rfl, by first | exact rfl | exact trivial, HY.out⟩)⟩
        case measure => simp [intOf]
      · have hb : (y != 0) = true := by simp [hy]
        clear hy
        go_wp2_with fail
        go_ret
        exact ⟨rfl, rfl⟩
    · go_wp2_with fail
      go_ret
      exact ⟨rfl, rfl⟩

theorem two_made (w : World) (o : Obj) (x y z u : Value) (T T' : TypeId) : (((w.alloc o).alloc (.cells #[x, y] T)).alloc (.cells #[z, u] T')).cell? ⟨w.heap.size + 1, 0, none⟩ = some x ∧ (((w.alloc o).alloc (.cells #[x, y] T)).alloc (.cells #[z, u] T')).cell? ⟨w.heap.size + 1, 1, none⟩ = some y ∧
    (((w.alloc o).alloc (.cells #[x, y] T)).alloc (.cells #[z, u] T')).cell? ⟨w.heap.size + 1 + 1, 0, none⟩ = some z ∧ (((w.alloc o).alloc (.cells #[x, y] T)).alloc (.cells #[z, u] T')).cell? ⟨w.heap.size + 1 + 1, 1, none⟩ = some u := by
  refine ⟨?_, ?_, ?_, ?_⟩
  · rw [World.cell?_alloc_past _ _ _ (by simp), World.cell?_alloc_at _ _ _ _ (by simp)]; rfl
  · rw [World.cell?_alloc_past _ _ _ (by simp), World.cell?_alloc_at _ _ _ _ (by simp)]; rfl
  · rw [World.cell?_alloc_at _ _ _ _ (by simp)]; rfl
  · rw [World.cell?_alloc_at _ _ _ _ (by simp)]; rfl

theorem keep_four {w : World} {a b c d : Addr} {x y z u : Value} (h : w.cell? a = some x ∧ w.cell? b = some y ∧ w.cell? c = some z ∧ w.cell? d = some u) (o : Obj) : (w.alloc o).cell? a = some x ∧ (w.alloc o).cell? b = some y ∧ (w.alloc o).cell? c = some z ∧ (w.alloc o).cell? d = some u :=
  ⟨alloc_keep h.1 o, alloc_keep h.2.1 o, alloc_keep h.2.2.1 o, alloc_keep h.2.2.2 o⟩

theorem last_made (w : World) (x y : Value) (T : TypeId) (n : Nat) (hn : n = w.heap.size) : (w.alloc (.cells #[x, y] T)).drew.cell? ⟨n, 0, none⟩ = some x ∧ (w.alloc (.cells #[x, y] T)).drew.cell? ⟨n, 1, none⟩ = some y := by
  constructor
  · show (w.alloc (.cells #[x, y] T)).cell? ⟨n, 0, none⟩ = some x
    rw [World.cell?_alloc_at _ _ _ _ hn]; rfl
  · show (w.alloc (.cells #[x, y] T)).cell? ⟨n, 1, none⟩ = some y
    rw [World.cell?_alloc_at _ _ _ _ hn]; rfl

set_option maxHeartbeats 400000 in
theorem order_any (t a t' a' : Int) (w : World) :
    Calls Try.prog 51 #[.agg #[], .agg #[.int .i64 t, .int .i64 a], .agg #[.int .i64 t', .int .i64 a']] w fun e w' => e = .returned (.int .i64 (cmpS t a t' a')) ∧ Below w.heap.size w w' := by
  go_enter Try.func51, Try.ntmps51
  go_wp2_with fail
  go_region_held2 (fun w' => w'.cell? ⟨w.heap.size + 1, 0, none⟩ = some (.int .i64 t) ∧ w'.cell? ⟨w.heap.size + 1, 1, none⟩ = some (.int .i64 a) ∧ w'.cell? ⟨w.heap.size + 1 + 1, 0, none⟩ = some (.int .i64 t') ∧ w'.cell? ⟨w.heap.size + 1 + 1, 1, none⟩ = some (.int .i64 a')) (first | exact two_made w _ _ _ _ _ _ _ | exact keep_four (two_made w _ _ _ _ _ _ _) _) (first | (go_at_call 73; refine (compare_any _ _ _).mono ?_; rintro e w' ⟨rfl, rfl⟩) | (go_at_call 72; refine (or_two (cmpI t t') (cmpI a a') _ _ (last_made _ _ _ _ _ (by simp)).1 (last_made _ _ _ _ _ (by simp)).2).mono ?_; rintro e w' ⟨rfl, rfl⟩))
  go_wp2_with fail
  go_ret
  exact ⟨rfl, (below_then (below_then (below_then (below_alloc _ _) _) _) _).drew⟩

set_option maxHeartbeats 400000 in
theorem implStampLess_any (t a t' a' : Int) (w : World) :
    Calls Try.prog 37 #[.agg #[.int .i64 t, .int .i64 a], .agg #[.int .i64 t', .int .i64 a']] w fun e w' => e = .returned (.bool (lessS t a t' a')) ∧ Below w.heap.size w w' := by
  have HL : Hid _ := cmpS_less t a t' a'
  go_enter Try.func37, Try.ntmps37
  go_wp2_with ((go_at_call 51; refine (order_any t a t' a' _).mono ?_; rintro e w' ⟨rfl, hb⟩))
  go_ret
  exact ⟨by rw [← HL.out]; rfl, below_seq (below_then (below_alloc _ _) _) hb⟩

set_option maxHeartbeats 400000 in
theorem specStampLess_any (t a t' a' : Int) (w : World) :
    Calls Try.prog 28 #[.agg #[.int .i64 t, .int .i64 a], .agg #[.int .i64 t', .int .i64 a']] w fun e w' => e = .returned (.bool (lessS t a t' a')) ∧ Below w.heap.size w w' := by
  obtain ⟨r, hr, hc⟩ : ∃ r, lessS t a t' a' = r ∧ ((r = true ∧ t < t') ∨ (r = decide (a < a') ∧ ¬ t < t' ∧ (t == t') = true) ∨ (r = false ∧ ¬ t < t' ∧ (t == t') = false)) := by
    refine ⟨_, rfl, ?_⟩
    unfold lessS
    by_cases h : t < t'
    · exact .inl ⟨by simp [h], h⟩
    · by_cases h2 : t = t'
      · exact .inr (.inl ⟨by simp [h2], h, by simp [h2]⟩)
      · exact .inr (.inr ⟨by simp [h2]; omega, h, by simp [h2]⟩)
  rw [hr]
  clear hr
  rcases hc with ⟨rfl, h1⟩ | ⟨rfl, h1, h2⟩ | ⟨rfl, h1, h2⟩
  all_goals
    go_enter Try.func28, Try.ntmps28
    go_wp2_with fail
    go_ret
    exact ⟨by simp, below_then (below_alloc _ _) _⟩

theorem four_there {w w1 : World} {x y z u : Value} {T T' : TypeId} (h : Below ((w.alloc (.cells #[x, y] T)).alloc (.cells #[z, u] T')).heap.size ((w.alloc (.cells #[x, y] T)).alloc (.cells #[z, u] T')) w1) :
    w1.cell? ⟨w.heap.size, 0, none⟩ = some x ∧ w1.cell? ⟨w.heap.size, 1, none⟩ = some y ∧ w1.cell? ⟨w.heap.size + 1, 0, none⟩ = some z ∧ w1.cell? ⟨w.heap.size + 1, 1, none⟩ = some u := by
  refine ⟨?_, ?_, ?_, ?_⟩
  · rw [h.cell (p := ⟨w.heap.size, 0, none⟩) (by simp; omega), World.cell?_alloc_past _ _ _ (by simp), World.cell?_alloc_at _ _ _ _ rfl]; rfl
  · rw [h.cell (p := ⟨w.heap.size, 1, none⟩) (by simp; omega), World.cell?_alloc_past _ _ _ (by simp), World.cell?_alloc_at _ _ _ _ rfl]; rfl
  · rw [h.cell (p := ⟨w.heap.size + 1, 0, none⟩) (by simp), World.cell?_alloc_at _ _ _ _ (by simp)]; rfl
  · rw [h.cell (p := ⟨w.heap.size + 1, 1, none⟩) (by simp), World.cell?_alloc_at _ _ _ _ (by simp)]; rfl

end Go.Proofs.Ytaglbacicpknaaa
