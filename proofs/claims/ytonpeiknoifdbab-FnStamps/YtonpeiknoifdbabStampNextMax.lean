/- A list of stamps in memory, and what MaxFunc over the code's order answers. -/
import Derived.Test.YtonpeiknoifdbabStampNextBase
namespace Go.Proofs.Ytonpeiknoifdbab
open Go.RowKit
set_option linter.unusedVariables false

/-- A block that holds a list of stamps, two cells each. -/
def SlS (w : World) (g : Nat) (ls : List (Int × Int)) : Prop := ∀ k, k < ls.length → w.cell? ⟨g, k * 2, none⟩ = some (.int .i64 (ls.getD k (0, 0)).1) ∧ w.cell? ⟨g, k * 2 + 1, none⟩ = some (.int .i64 (ls.getD k (0, 0)).2)

theorem SlS.of_below {w w1 : World} {g B : Nat} {ls : List (Int × Int)} (h : SlS w g ls) (hb : Below B w w1) (hg : g < B) : SlS w1 g ls := fun k hk => by
  rw [hb.cell (p := ⟨g, k * 2, none⟩) hg, hb.cell (p := ⟨g, k * 2 + 1, none⟩) hg]
  exact h k hk
/-- A block that holds one stamp, and can be written. -/
def StAt (w : World) (n : Nat) (t a : Int) : Prop := w.cell? ⟨n, 0, none⟩ = some (.int .i64 t) ∧ w.cell? ⟨n, 1, none⟩ = some (.int .i64 a) ∧ w.frozen? ⟨n, 0, none⟩ = false ∧ w.frozen? ⟨n, 1, none⟩ = false
theorem StAt.on {w w1 : World} {n : Nat} {t a : Int} (h : StAt w n t a) (hb : Below w.heap.size w w1) : StAt w1 n t a :=
  ⟨cell_on hb h.1, cell_on hb h.2.1, frozen_on hb (cell_lt h.1) h.2.2.1, frozen_on hb (cell_lt h.2.1) h.2.2.2⟩
theorem StAt.put {w : World} {n : Nat} {t a : Int} (h : StAt w n t a) (t' a' : Int) : StAt ((w.setCell ⟨n, 0, none⟩ (.int .i64 t')).setCell ⟨n, 1, none⟩ (.int .i64 a')) n t' a' := by
  obtain ⟨h0, h1, f0, f1⟩ := h
  have k1 : (w.setCell ⟨n, 0, none⟩ (.int .i64 t')).cell? ⟨n, 1, none⟩ = some (.int .i64 a) := (World.cell?_setCells_out n [.int .i64 t'] 0 w _ (fun _ _ => .inr (by simp))).trans h1
  refine ⟨?_, World.cell?_setCell_same _ _ _ k1, ?_, ?_⟩
  · exact (World.cell?_setCells_out n [.int .i64 a'] 1 _ _ (fun _ _ => .inl (by simp))).trans (World.cell?_setCell_same _ _ _ h0)
  · exact ((World.frozen?_setCells n [.int .i64 a'] 1 _ _).trans (World.frozen?_setCells n [.int .i64 t'] 0 w _)).trans f0
  · exact ((World.frozen?_setCells n [.int .i64 a'] 1 _ _).trans (World.frozen?_setCells n [.int .i64 t'] 0 w _)).trans f1
theorem StAt.aside {w : World} {n m : Nat} {t a : Int} (h : StAt w n t a) (hn : n ≠ m) (u v : Value) : StAt ((w.setCell ⟨m, 0, none⟩ u).setCell ⟨m, 1, none⟩ v) n t a := by
  obtain ⟨h0, h1, f0, f1⟩ := h
  have hc : ∀ k, ((w.setCell ⟨m, 0, none⟩ u).setCell ⟨m, 1, none⟩ v).cell? ⟨n, k, none⟩ = w.cell? ⟨n, k, none⟩ := fun k => (World.cell?_setCells_out m [v] 1 _ _ (fun e => absurd e hn)).trans (World.cell?_setCells_out m [u] 0 w _ (fun e => absurd e hn))
  have hf : ∀ k, ((w.setCell ⟨m, 0, none⟩ u).setCell ⟨m, 1, none⟩ v).frozen? ⟨n, k, none⟩ = w.frozen? ⟨n, k, none⟩ := fun k => (World.frozen?_setCells m [v] 1 _ _).trans (World.frozen?_setCells m [u] 0 w _)
  exact ⟨(hc 0).trans h0, (hc 1).trans h1, (hf 0).trans f0, (hf 1).trans f1⟩
theorem StAt.made (w : World) (t a : Int) (T : TypeId) : StAt (w.alloc (.cells #[.int .i64 t, .int .i64 a] T)) w.heap.size t a :=
  ⟨cell_made (Below.refl _ _) (k := 0) rfl, cell_made (Below.refl _ _) (k := 1) rfl, frozen_made (Below.refl _ _) 0, frozen_made (Below.refl _ _) 1⟩
theorem cmpS_pos (t a t' a' : Int) : (0 < cmpS t a t' a' ∧ lessS t' a' t a = true) ∨ (¬ 0 < cmpS t a t' a' ∧ lessS t' a' t a = false) := by
  have h : 0 < cmpS t a t' a' ↔ lessS t' a' t a = true := by
    rw [lessS_iff]
    unfold cmpS orI cmpI
    repeat' split
    all_goals omega
  by_cases hp : 0 < cmpS t a t' a'
  · exact .inl ⟨hp, h.1 hp⟩
  · refine .inr ⟨hp, ?_⟩
    cases e : lessS t' a' t a with
    | false => rfl
    | true => exact absurd (h.2 e) hp

set_option maxHeartbeats 2000000 in
set_option maxRecDepth 100000 in
theorem max_any {cap : Nat} (w : World) (g : Nat) (ls : List (Int × Int)) (hg : g < w.heap.size) (hS : SlS w g ls) (hn : ls.length < 9223372036854775807) (h0 : 0 < ls.length) (hA : allS ls = true) :
    Calls Try.prog 69 #[.slice (some ⟨g, 0, none⟩) ls.length cap, .func (.func 47) #[.agg #[]] #[]] w fun e w' => e = .returned (.agg #[.int .i64 (topTo ls ls.length).1, .int .i64 (topTo ls ls.length).2]) ∧ Below w.heap.size w w' := by
  have i0 : (0 : Int) < (ls.length : Int) := by omega
  have i1 : ¬ (ls.length : Int) < 1 := by omega
  have C0 := fun o => alloc_keep (hS 0 h0).1 o
  have C1 := fun o => alloc_keep (hS 0 h0).2 o
  have c0 := C0 (.cells #[.int .i64 0, .int .i64 0] 24)
  have c1 := C1 (.cells #[.int .i64 0, .int .i64 0] 24)
  clear C0 C1
  simp only [Nat.zero_mul, Nat.zero_add] at c0 c1
  go_enter Try.func69, Try.ntmps69
  go_wp2_with fail
  go_loopw [6] (fun ti wr => ∃ k : Nat, 1 ≤ k ∧ k ≤ ls.length ∧ ti = .int .i64 (k : Int) ∧ Hid (StAt wr (w.heap.size + 1) (topTo ls k).1 (topTo ls k).2) ∧ Hid (StAt wr w.heap.size 0 0) ∧ Below w.heap.size w wr) (fun ti _ => ls.length - (intOf ti).toNat)
  case atStart =>
    refine ⟨1, Nat.le_refl _, h0, rfl, ?_, ?_, below_then (below_alloc _ _) _⟩
    · rw [topTo_one hA]
      have := StAt.made (w.alloc (.cells #[.int .i64 0, .int .i64 0] 24)) (ls.getD 0 (0, 0)).1 (ls.getD 0 (0, 0)).2 24
      rw [World.size_alloc] at this
      have hg0 : ls.getD 0 (0, 0) = ls[0] := by simp [h0]
      rw [hg0] at this ⊢
      exact this
    · exact (StAt.made w 0 0 24).on (below_alloc _ _)
  case round =>
    obtain ⟨k, hk1, hk, rfl, HM, HR, hB⟩ := hrel
    by_cases hlt : k < ls.length
    · have d0 := hB.cell (p := ⟨g, k * 2, none⟩) hg
      have d1 := hB.cell (p := ⟨g, k * 2 + 1, none⟩) hg
      rw [(hS k hlt).1] at d0
      rw [(hS k hlt).2] at d1
      have j0 : (0 : Int) ≤ (k : Int) := by omega
      have j1 : (k : Int) < (ls.length : Int) := by omega
      have j2 : (k : Int) + 1 < 9223372036854775808 := by omega
      have HT : Hid (topTo ls (k + 1) = mxS (topTo ls k) (ls.getD k (0, 0))) := rfl
      generalize ls.getD k (0, 0) = x at d0 d1 HT
      generalize hm : topTo ls k = m at HM HT
      clear hm
      obtain ⟨t, a⟩ := x
      obtain ⟨t', a'⟩ := m
      replace HM : Hid (StAt wr (w.heap.size + 1) t' a') := HM
      simp only at d0 d1
      obtain ⟨m0, m1, f0, f1⟩ := HM.out
      have hP := cmpS_pos t a t' a'
      have hC := fun w => order_any t a t' a' w
      generalize cmpS t a t' a' = r at hP hC
      rcases hP with ⟨hr, hl⟩ | ⟨hr, hl⟩
      · have HL : Hid (mxS (t', a') (t, a) = (t, a)) := if_pos hl
        clear hl
        go_wp2_with fail
        go_region_held2 (fun w' => w'.cell? ⟨g, k * 2, none⟩ = some (.int .i64 t) ∧ w'.cell? ⟨g, k * 2 + 1, none⟩ = some (.int .i64 a) ∧ w'.cell? ⟨w.heap.size + 1, 0, none⟩ = some (.int .i64 t') ∧ w'.cell? ⟨w.heap.size + 1, 1, none⟩ = some (.int .i64 a')) (exact ⟨d0, d1, m0, m1⟩) ((go_at_call 47; refine (hC _).mono ?_; rintro e w' ⟨rfl, hb⟩; replace d0 := cell_on hb d0; replace d1 := cell_on hb d1; clear m0 m1 f0 f1; replace HM : Hid (StAt w' (w.heap.size + 1) t' a') := StAt.on (w := wr.drew) HM.out hb; replace HR : Hid (StAt w' w.heap.size 0 0) := StAt.on (w := wr.drew) HR.out hb; obtain ⟨m0, m1, f0, f1⟩ := HM.out; replace hB := below_seq hB.drew hb; clear hb))
        go_wp2_with fail
        go_roundw
        case rel =>
          refine ⟨k + 1, by omega, by omega, by go_num, ?_, ?_, (hB.setCell (by show _ ≤ w.heap.size + 1; omega) _).setCell (by show _ ≤ w.heap.size + 1; omega) _⟩
          · rw [HT.out, HL.out]
            exact StAt.put HM.out t a
          · exact StAt.aside HR.out (by omega) _ _
        case measure => simp [intOf]; omega
      · have HL : Hid (mxS (t', a') (t, a) = (t', a')) := if_neg (by simp [hl])
        clear hl
        replace hr : r ≤ 0 := by omega
        go_wp2_with fail
        go_region_held2 (fun w' => w'.cell? ⟨g, k * 2, none⟩ = some (.int .i64 t) ∧ w'.cell? ⟨g, k * 2 + 1, none⟩ = some (.int .i64 a) ∧ w'.cell? ⟨w.heap.size + 1, 0, none⟩ = some (.int .i64 t') ∧ w'.cell? ⟨w.heap.size + 1, 1, none⟩ = some (.int .i64 a')) (exact ⟨d0, d1, m0, m1⟩) ((go_at_call 47; refine (hC _).mono ?_; rintro e w' ⟨rfl, hb⟩; replace d0 := cell_on hb d0; replace d1 := cell_on hb d1; clear m0 m1 f0 f1; replace HM : Hid (StAt w' (w.heap.size + 1) t' a') := StAt.on (w := wr.drew) HM.out hb; replace HR : Hid (StAt w' w.heap.size 0 0) := StAt.on (w := wr.drew) HR.out hb; obtain ⟨m0, m1, f0, f1⟩ := HM.out; replace hB := below_seq hB.drew hb; clear hb))
        rw [decide_eq_false (show ¬ 0 < r by omega)]
        go_wp2_with fail
        go_roundw
        case rel =>
          refine ⟨k + 1, by omega, by omega, by go_num, ?_, HR, hB⟩
          rw [HT.out, HL.out]
          exact HM
        case measure => simp [intOf]; omega
    · obtain rfl : k = ls.length := by omega
      obtain ⟨m0, m1, f0, f1⟩ := HM.out
      obtain ⟨r0, r1, g0, g1⟩ := HR.out
      go_wp2_with fail
      have hr := StAt.put HR.out (topTo ls ls.length).1 (topTo ls ls.length).2
      refine bodyPost_ret (v := .agg #[.int .i64 (topTo ls ls.length).1, .int .i64 (topTo ls ls.length).2]) ?_ rfl ⟨rfl, ?_⟩
      · simp [results, Try.results69, go_sem, hr.1, hr.2.1]
      · exact (hB.setCell (Nat.le_refl _) _).setCell (Nat.le_refl _) _

end Go.Proofs.Ytonpeiknoifdbab
