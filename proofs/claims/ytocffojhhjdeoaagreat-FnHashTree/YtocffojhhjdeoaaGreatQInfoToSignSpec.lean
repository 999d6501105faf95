/- The row of the type byte in the program's table. Stamps: plain facts, and what toStamp does. What toIntS, eqIntS, markIntS and heldIntS do. Vectors: plain facts, and what the laws' own helpers do with them. What isCount and the two functions VecOK do. What the two functions StampOK do, and the walk of the law over both: it answers true at every stamp. What l01Num, l01Put and appendInt do: the bytes of a number from 0 to MaxNum, behind a row that the call owns. Bytes made a text. What the laws' markVector and heldVector do; cells that are kept. What the specification's l02Copy does. What sumOn, Sum32, l01Join, l01Four and appendSum do. The specification's l08Sign. -/
import Derived.Test.YtocffojhhjdeoaaGreatProg
import Derived.WalkSpells
import Derived.WalkLawsBesides
import Derived.Deep.QuietTactic
import Derived.BigQuiet
import Derived.Test.YtocffojhhjdeoaaGreatQBaseToRunsBase
namespace Go.Proofs.YtocffojhhjdeoaaGreat
open Go.RowKit

theorem info5 : (Tryz.prog.info? 5).map (fun i => (i.zero, i.size, i.bytes)) = some (some (.int .u8 0), 1, 1) := by kernel_rfl
end Go.Proofs.YtocffojhhjdeoaaGreat

namespace Go.Proofs.YtocffojhhjdeoaaGreat
open Go.RowKit
set_option linter.unusedVariables false

theorem below_alloc (w : World) (o : Obj) : Below w.heap.size w (w.alloc o) := (Below.refl _ _).alloc (Nat.le_refl _) _
theorem below_then {w w1 : World} (h : Below w.heap.size w w1) (o : Obj) : Below w.heap.size w (w1.alloc o) := h.alloc h.size o
theorem below_seq {w w1 w2 : World} (h : Below w.heap.size w w1) (k : Below w1.heap.size w1 w2) : Below w.heap.size w w2 := h.trans (k.mono h.size)

/-- A new block's cells, there behind whatever leaves it as it is. -/
theorem cell_made {w w1 : World} {cs : Array Value} {T : TypeId} (h : Below (w.alloc (.cells cs T)).heap.size (w.alloc (.cells cs T)) w1) {k : Nat} {v : Value} (hk : cs[k]? = some v) : w1.cell? ⟨w.heap.size, k, none⟩ = some v := by
  rw [h.cell (p := ⟨w.heap.size, k, none⟩) (by simp)]
  unfold World.cell?
  rw [show (w.alloc (.cells cs T)).heap[(⟨w.heap.size, k, none⟩ : Addr).block]? = some (.cells cs T (0, 0)) from heap_alloc_new w _]
  exact hk

theorem cell_made1 {w w1 : World} {v : Value} {T : TypeId} (h : Below (w.alloc (.cells #[v] T)).heap.size (w.alloc (.cells #[v] T)) w1) : w1.cell? ⟨w.heap.size, 0, none⟩ = some v := cell_made h (k := 0) rfl
theorem alloc_keep {w : World} {a : Addr} {v : Value} (h : w.cell? a = some v) (o : Obj) : (w.alloc o).cell? a = some v := by
  rw [World.cell?_alloc_lt]
  · exact h
  · unfold World.cell? at h
    split at h
    · rename_i hb
      exact (Array.getElem?_eq_some_iff.1 hb).1
    all_goals simp at h
theorem old_le {w w1 : World} {o : Obj} (h : Below (w.alloc o).heap.size (w.alloc o) w1) : w.heap.size ≤ w1.heap.size := by
  have := h.size
  rw [World.size_alloc] at this
  omega
theorem frozen_made {w w1 : World} {cs : Array Value} {T : TypeId} (h : Below (w.alloc (.cells cs T)).heap.size (w.alloc (.cells cs T)) w1) (k : Nat) : w1.frozen? ⟨w.heap.size, k, none⟩ = false := by
  rw [h.frozen (p := ⟨w.heap.size, k, none⟩) (by simp)]
  unfold World.frozen?
  rw [show (w.alloc (.cells cs T)).heap[(⟨w.heap.size, k, none⟩ : Addr).block]? = some (.cells cs T (0, 0)) from heap_alloc_new w _]
  simp

/-- A stamp is valid. -/
def stOK (t a : Int) : Bool := decide (1 ≤ t ∧ t ≤ 1000000000000 ∧ 0 ≤ a ∧ a < 16)
theorem stOK_yes {t a : Int} (h1 : 1 ≤ t) (h2 : t ≤ 1000000000000) (h3 : 0 ≤ a) (h4 : a < 16) : stOK t a = true := decide_eq_true ⟨h1, h2, h3, h4⟩
theorem stOK_no {t a : Int} (h : ¬ (1 ≤ t ∧ t ≤ 1000000000000 ∧ 0 ≤ a ∧ a < 16)) : stOK t a = false := decide_eq_false h

end Go.Proofs.YtocffojhhjdeoaaGreat

namespace Go.Proofs.YtocffojhhjdeoaaGreat
open Go.RowKit
set_option linter.unusedVariables false

theorem info3 : (Tryz.prog.info? 3).map (fun i => (i.zero, i.size, i.bytes)) = some (some (.int .i64 0), 1, 8) := by kernel_rfl
/-- What is written over m numbers, from q on. -/
def marksI (q m : Nat) : List Int := (List.range m).map fun i => ((q + i : Nat) : Int)
theorem marksI_len (q m : Nat) : (marksI q m).length = m := by simp [marksI]
theorem marksI_get {q m k : Nat} (h : k < m) : (marksI q m)[k]? = some ((q + k : Nat) : Int) := by simp [marksI, h]
theorem markI_step (q k : Nat) (cs : List Value) (h : k < cs.length) : ((marksI q k).map (Value.int .i64) ++ cs.drop k).set k (Value.int .i64 ((q + k : Nat) : Int)) = (marksI q (k + 1)).map (Value.int .i64) ++ cs.drop (k + 1) := by
  have e : ∀ m, (marksI q m).map (Value.int .i64) = (List.range m).map (fun i => Value.int .i64 ((q + i : Nat) : Int)) := fun m => by simp [marksI]
  rw [e, e]
  exact range_step (fun i => Value.int .i64 ((q + i : Nat) : Int)) k cs h

end Go.Proofs.YtocffojhhjdeoaaGreat

namespace Go.Proofs.YtocffojhhjdeoaaGreat
open Go.RowKit
set_option linter.unusedVariables false

/-- A count is one; a vector is valid. -/
def cOK (c : Int) : Bool := decide (0 ≤ c ∧ c ≤ 1000000000000)
def vecOK (xs : List Int) : Bool := decide (xs.length = 16) && xs.all cOK
theorem vecOK_len {xs : List Int} (h : ¬ xs.length = 16) : vecOK xs = false := by unfold vecOK; rw [decide_eq_false h]; rfl
theorem vecOK_bad {xs : List Int} {k : Nat} (hk : k < xs.length) (h : cOK xs[k] = false) : vecOK xs = false := by
  unfold vecOK
  rw [Bool.and_eq_false_iff]
  exact .inr (List.all_eq_false.2 ⟨xs[k], List.getElem_mem hk, by rw [h]; decide⟩)
theorem vecOK_all {xs : List Int} (h16 : xs.length = 16) (h : ∀ k (hk : k < xs.length), cOK xs[k] = true) : vecOK xs = true := by
  unfold vecOK
  rw [decide_eq_true h16, Bool.true_and]
  refine List.all_eq_true.2 fun c hc => ?_
  obtain ⟨k, hk, rfl⟩ := List.mem_iff_getElem.1 hc
  exact h k hk
theorem vecOK_get {xs : List Int} (h : vecOK xs = true) : xs.length = 16 ∧ ∀ k (hk : k < xs.length), 0 ≤ xs[k] ∧ xs[k] ≤ 1000000000000 := by
  unfold vecOK at h
  rw [Bool.and_eq_true, decide_eq_true_eq] at h
  refine ⟨h.1, fun k hk => ?_⟩
  have := List.all_eq_true.1 h.2 xs[k] (List.getElem_mem hk)
  simpa [cOK] using this

/-- A slice that can be read, behind whatever leaves old memory as it is. -/
theorem Rd.belowW {C : Nat} {w w' : World} {v : Value} {cs : List Value} (h : Rd C w v cs) (hb : Below w.heap.size w w') (hC : C ≤ w.heap.size) : Rd C w' v cs := h.below (hb.mono hC)
theorem Rd.alloc {C : Nat} {w : World} {v : Value} {cs : List Value} (h : Rd C w v cs) (o : Obj) (hC : C ≤ w.heap.size) : Rd C (w.alloc o) v cs := h.belowW (below_alloc w o) hC

end Go.Proofs.YtocffojhhjdeoaaGreat

namespace Go.Proofs.YtocffojhhjdeoaaGreat
open Go.RowKit
set_option linter.unusedVariables false

set_option maxHeartbeats 400000 in
theorem isCount_any (c : Int) (w : World) :
    Calls Tryz.prog 92 #[.int .i64 c] w fun e w' => e = .returned (.bool (cOK c)) ∧ w' = w := by
  obtain ⟨r, hr, hc⟩ : ∃ r, cOK c = r ∧ ((r = false ∧ ¬ 0 ≤ c) ∨ (r = false ∧ 0 ≤ c ∧ ¬ c ≤ 1000000000000) ∨ (r = true ∧ 0 ≤ c ∧ c ≤ 1000000000000)) := by
    refine ⟨_, rfl, ?_⟩
    unfold cOK
    by_cases h1 : 0 ≤ c <;> by_cases h2 : c ≤ 1000000000000 <;> simp [h1, h2]
  rw [hr]
  clear hr
  rcases hc with ⟨rfl, h1⟩ | ⟨rfl, h1, h2⟩ | ⟨rfl, h1, h2⟩
  all_goals
    go_enter Tryz.func92, Tryz.ntmps92
    go_wp2_with fail
    go_ret
    exact ⟨by simp, rfl⟩

set_option maxHeartbeats 400000 in
theorem specVecOK_any (C : Nat) (w : World) (v : Value) (xs : List Int) (hC : C ≤ w.heap.size) (hr : Rd C w v (xs.map (Value.int .i64))) :
    Calls Tryz.prog 48 #[.agg #[v]] w fun e w' => e = .returned (.bool (vecOK xs)) ∧ Below w.heap.size w w' := by
  obtain ⟨ao, cap, rfl, hcap, hmax, _, hr⟩ := hr
  rw [List.length_map] at hr hcap ⊢
  unfold maxLen at hmax
  by_cases h16 : xs.length = 16
  · have H16 : Hid _ := h16
    obtain ⟨g, off, rfl, hg, hc⟩ := hr (by omega)
    have HC : Hid (∀ k (hk : k < xs.length), (w.alloc (.cells #[.slice (some ⟨g, off, none⟩) 16 cap] 33)).cell? ⟨g, off + k, none⟩ = some (.int .i64 xs[k])) := fun k hk => by
      rw [World.cell?_alloc_past _ _ _ (show g < w.heap.size by omega)]
      exact hc k _ (by simp [hk])
    rw [h16]
    clear hr hc h16 hcap
    go_enter Tryz.func48, Tryz.ntmps48
    go_wp2_with fail
    go_loop [3] (fun i => ∃ k : Nat, k ≤ 16 ∧ i = .int .i64 (k : Int) ∧ Hid (∀ j (hj : j < xs.length), j < k → cOK xs[j] = true)) (fun i => 16 - (intOf i).toNat)
    case atStart => exact ⟨0, by omega, rfl, fun j hj h => absurd h (by omega)⟩
    case round =>
      obtain ⟨k, hk, rfl, HA⟩ := hrel
      by_cases hlt : k < 16
      · have hk16 : k < xs.length := by rw [H16.out]; exact hlt
        have c1 := HC.out k hk16
        have HN : Hid (cOK xs[k] = true → Hid (∀ j (hj : j < xs.length), j < k + 1 → cOK xs[j] = true)) := fun h j hj hjk => by
          by_cases e : j = k
          · subst e; exact h
          · exact HA.out j hj (by omega)
        have hcs : (Hid (cOK xs[k] = true) ∧ ¬ xs[k] < 0 ∧ ¬ 1000000000000 < xs[k]) ∨ (Hid (cOK xs[k] = false) ∧ xs[k] < 0) ∨ (Hid (cOK xs[k] = false) ∧ ¬ xs[k] < 0 ∧ 1000000000000 < xs[k]) := by
          unfold cOK Hid
          by_cases h1 : xs[k] < 0
          · exact .inr (.inl ⟨decide_eq_false (by omega), h1⟩)
          · by_cases h2 : 1000000000000 < xs[k]
            · exact .inr (.inr ⟨decide_eq_false (by omega), h1, h2⟩)
            · exact .inl ⟨decide_eq_true (by omega), h1, h2⟩
        rcases hcs with ⟨HR, h1, h2⟩ | ⟨HR, h1⟩ | ⟨HR, h1, h2⟩
        · go_wp2_with fail
          go_round
          case rel => exact ⟨k + 1, by omega, by go_num, HN.out HR.out⟩
          case measure => simp [intOf]; omega
        · go_wp2_with fail
          go_ret
          exact ⟨by rw [vecOK_bad hk16 HR.out]; rfl, below_alloc _ _⟩
        · go_wp2_with fail
          go_ret
          exact ⟨by rw [vecOK_bad hk16 HR.out]; rfl, below_alloc _ _⟩
      · obtain rfl : k = 16 := by omega
        have HV : Hid _ := vecOK_all H16.out (fun k hk => HA.out k hk (by rw [H16.out] at hk; exact hk))
        go_wp2_with fail
        go_ret
        exact ⟨by rw [HV.out]; rfl, below_alloc _ _⟩
  · have hb : ((xs.length : Int) != 16) = true := by simp; omega
    rw [vecOK_len h16]
    go_enter Tryz.func48, Tryz.ntmps48
    go_wp2_with fail
    go_ret
    exact ⟨rfl, below_alloc _ _⟩

set_option maxHeartbeats 400000 in
theorem implVecOK_any (C : Nat) (w : World) (v : Value) (xs : List Int) (hC : C ≤ w.heap.size) (hr : Rd C w v (xs.map (Value.int .i64))) :
    Calls Tryz.prog 81 #[.agg #[v]] w fun e w' => e = .returned (.bool (vecOK xs)) ∧ Below w.heap.size w w' := by
  obtain ⟨ao, cap, rfl, hcap, hmax, _, hr⟩ := hr
  rw [List.length_map] at hr hcap ⊢
  unfold maxLen at hmax
  by_cases h16 : xs.length = 16
  · have H16 : Hid _ := h16
    obtain ⟨g, off, rfl, hg, hc⟩ := hr (by omega)
    have HC : Hid (∀ k (hk : k < xs.length), (w.alloc (.cells #[.slice (some ⟨g, off, none⟩) 16 cap] 33)).cell? ⟨g, off + k, none⟩ = some (.int .i64 xs[k])) := fun k hk => by
      rw [World.cell?_alloc_past _ _ _ (show g < w.heap.size by omega)]
      exact hc k _ (by simp [hk])
    rw [h16]
    clear hr hc h16 hcap
    go_enter Tryz.func81, Tryz.ntmps81
    go_wp2_with fail
    go_loop [12] (fun i => ∃ k : Nat, k ≤ 16 ∧ i = .int .i64 (k : Int) ∧ Hid (∀ j (hj : j < xs.length), j < k → cOK xs[j] = true)) (fun i => 16 - (intOf i).toNat)
    case atStart => exact ⟨0, by omega, rfl, fun j hj h => absurd h (by omega)⟩
    case round =>
      obtain ⟨k, hk, rfl, HA⟩ := hrel
      by_cases hlt : k < 16
      · have hk16 : k < xs.length := by rw [H16.out]; exact hlt
        have c1 := HC.out k hk16
        have HN : Hid (cOK xs[k] = true → Hid (∀ j (hj : j < xs.length), j < k + 1 → cOK xs[j] = true)) := fun h j hj hjk => by
          by_cases e : j = k
          · subst e; exact h
          · exact HA.out j hj (by omega)
        have hcs : (Hid (cOK xs[k] = true) ∧ ¬ xs[k] < 0 ∧ ¬ 1000000000000 < xs[k]) ∨ (Hid (cOK xs[k] = false) ∧ xs[k] < 0) ∨ (Hid (cOK xs[k] = false) ∧ ¬ xs[k] < 0 ∧ 1000000000000 < xs[k]) := by
          unfold cOK Hid
          by_cases h1 : xs[k] < 0
          · exact .inr (.inl ⟨decide_eq_false (by omega), h1⟩)
          · by_cases h2 : 1000000000000 < xs[k]
            · exact .inr (.inr ⟨decide_eq_false (by omega), h1, h2⟩)
            · exact .inl ⟨decide_eq_true (by omega), h1, h2⟩
        have hcc := isCount_any xs[k]
        clear hcs
        cases hck : cOK xs[k] with
        | true =>
          rw [hck] at hcc
          have HR : Hid _ := hck
          clear hck
          generalize xs[k] = c at c1 hcc
          go_wp2_with ((go_at_call 92; refine (hcc _).mono ?_; rintro e w' ⟨rfl, rfl⟩))
          go_round
          case rel => exact ⟨k + 1, by omega, by go_num, HN.out HR.out⟩
          case measure => simp [intOf]; omega
        | false =>
          rw [hck] at hcc
          have HR : Hid _ := hck
          clear hck
          have HB : Hid _ := vecOK_bad hk16 HR.out
          generalize xs[k] = c at c1 hcc
          go_wp2_with ((go_at_call 92; refine (hcc _).mono ?_; rintro e w' ⟨rfl, rfl⟩))
          go_ret
          exact ⟨by rw [HB.out]; rfl, below_alloc _ _⟩
      · obtain rfl : k = 16 := by omega
        have HV : Hid _ := vecOK_all H16.out (fun k hk => HA.out k hk (by rw [H16.out] at hk; exact hk))
        go_wp2_with fail
        go_ret
        exact ⟨by rw [HV.out]; rfl, below_alloc _ _⟩
  · have hb : ((xs.length : Int) != 16) = true := by simp; omega
    rw [vecOK_len h16]
    go_enter Tryz.func81, Tryz.ntmps81
    go_wp2_with fail
    go_ret
    exact ⟨rfl, below_alloc _ _⟩

end Go.Proofs.YtocffojhhjdeoaaGreat

namespace Go.Proofs.YtocffojhhjdeoaaGreat
open Go.RowKit
set_option linter.unusedVariables false

set_option maxHeartbeats 400000 in
theorem isActor_any (a : Int) (w : World) :
    Calls Tryz.prog 19 #[.int .i64 a] w fun e w' => e = .returned (.bool (decide (0 ≤ a ∧ a < 16))) ∧ w' = w := by
  by_cases h1 : 0 ≤ a
  · by_cases h2 : a < 16
    · rw [decide_eq_true (show 0 ≤ a ∧ a < 16 from ⟨h1, h2⟩)]
      go_enter Tryz.func19, Tryz.ntmps19
      go_wp2_with fail
      go_ret
      simp
    · rw [decide_eq_false (show ¬ (0 ≤ a ∧ a < 16) by omega)]
      go_enter Tryz.func19, Tryz.ntmps19
      go_wp2_with fail
      go_ret
      simp
  · rw [decide_eq_false (show ¬ (0 ≤ a ∧ a < 16) by omega)]
    go_enter Tryz.func19, Tryz.ntmps19
    go_wp2_with fail
    go_ret
    simp

set_option maxHeartbeats 400000 in
theorem specStampOK_any (t a : Int) (w : World) :
    Calls Tryz.prog 47 #[.agg #[.int .i64 t, .int .i64 a]] w fun e w' => e = .returned (.bool (stOK t a)) ∧ Below w.heap.size w w' := by
  have hb : Below w.heap.size w (w.alloc (.cells #[.int .i64 t, .int .i64 a] 35)) := below_alloc _ _
  obtain ⟨r, hr, hc⟩ : ∃ r, stOK t a = r ∧ ((r = false ∧ ¬ 1 ≤ t) ∨ (r = false ∧ 1 ≤ t ∧ ¬ t ≤ 1000000000000) ∨ (r = false ∧ 1 ≤ t ∧ t ≤ 1000000000000 ∧ ¬ 0 ≤ a) ∨ (r = false ∧ 1 ≤ t ∧ t ≤ 1000000000000 ∧ 0 ≤ a ∧ ¬ a < 16) ∨ (r = true ∧ 1 ≤ t ∧ t ≤ 1000000000000 ∧ 0 ≤ a ∧ a < 16)) := by
    refine ⟨_, rfl, ?_⟩
    by_cases h1 : 1 ≤ t ∧ t ≤ 1000000000000 ∧ 0 ≤ a ∧ a < 16
    · rw [stOK_yes h1.1 h1.2.1 h1.2.2.1 h1.2.2.2]; simp; omega
    · rw [stOK_no h1]; simp; omega
  rw [hr]
  clear hr
  rcases hc with ⟨rfl, h1⟩ | ⟨rfl, h1, h2⟩ | ⟨rfl, h1, h2, h3⟩ | ⟨rfl, h1, h2, h3, h4⟩ | ⟨rfl, h1, h2, h3, h4⟩
  all_goals
    go_enter Tryz.func47, Tryz.ntmps47
    go_wp2_with fail
    go_ret
    exact ⟨by simp, hb⟩

set_option maxHeartbeats 400000 in
theorem implStampOK_any (t a : Int) (w : World) :
    Calls Tryz.prog 80 #[.agg #[.int .i64 t, .int .i64 a]] w fun e w' => e = .returned (.bool (stOK t a)) ∧ Below w.heap.size w w' := by
  have hb : Below w.heap.size w (w.alloc (.cells #[.int .i64 t, .int .i64 a] 35)) := below_alloc _ _
  obtain ⟨r, hr, hc⟩ : ∃ r, stOK t a = r ∧ ((r = false ∧ ¬ 1 ≤ t) ∨ (r = false ∧ 1 ≤ t ∧ ¬ t ≤ 1000000000000) ∨ (r = decide (0 ≤ a ∧ a < 16) ∧ 1 ≤ t ∧ t ≤ 1000000000000)) := by
    refine ⟨_, rfl, ?_⟩
    by_cases h1 : 1 ≤ t
    · by_cases h2 : t ≤ 1000000000000
      · refine .inr (.inr ⟨?_, h1, h2⟩)
        unfold stOK
        simp [h1, h2]
      · exact .inr (.inl ⟨stOK_no (by omega), h1, h2⟩)
    · exact .inl ⟨stOK_no (by omega), h1⟩
  rw [hr]
  clear hr
  rcases hc with ⟨rfl, h1⟩ | ⟨rfl, h1, h2⟩ | ⟨rfl, h1, h2⟩
  all_goals
    go_enter Tryz.func80, Tryz.ntmps80
    go_wp2_with ((go_at_call 19; refine (isActor_any a _).mono ?_; rintro e w' ⟨rfl, rfl⟩))
    go_ret
    exact ⟨by simp, hb⟩

end Go.Proofs.YtocffojhhjdeoaaGreat

namespace Go.Proofs.YtocffojhhjdeoaaGreat
open Go.RowKit
set_option linter.unusedVariables false


set_option maxRecDepth 100000 in
set_option maxHeartbeats 400000 in
theorem l01Put_any (k : Nat) : ∀ (n : Nat) (w : World), n ≤ k → n ≤ 4611686018427387903 →
    Calls Tryz.prog 77 #[.int .i64 (n : Int)] w fun e w' => ∃ r, e = .returned r ∧ Own 5 w' w.heap.size r ((enc n).map (Value.int .u8)) ∧ Below w.heap.size w w' := by
  obtain ⟨i0, hi, hz0, hz1, hz2⟩ := info_parts info5
  induction k with
  | zero =>
    intro n w hk hn
    have : n = 0 := by omega
    subst this
    go_enter Tryz.func77, Tryz.ntmps77
    go_wp2_with fail
    go_ret
    refine ⟨_, rfl, ?_, (Below.refl _ _).alloc (Nat.le_refl _) _⟩
    rw [enc_small (by omega)]
    exact World.ownsRow_lit w #[.int .u8 0] 1 (Nat.le_refl _) (by decide) rfl
  | succ k ih =>
    intro n w hk hn
    by_cases hs : n < 128
    · go_enter Tryz.func77, Tryz.ntmps77
      go_wp2_with fail
      go_ret
      refine ⟨_, rfl, ?_, (Below.refl _ _).alloc (Nat.le_refl _) _⟩
      rw [enc_small hs]
      exact own_lit w 5 [.int .u8 (n : Int)] 1 rfl (by decide)
    · go_enter Tryz.func77, Tryz.ntmps77
      go_wp2_with fail
      rw [show ((n : Int) / 128) = ((n / 128 : Nat) : Int) by omega]
      refine (ih (n / 128) _ (by omega) (by omega)).mono ?_
      clear ih
      rintro e w1 ⟨r, rfl, hown, hbel⟩
      have hlen := enc_len (n := n / 128) (by omega)
      have hv : Own 5 w1 w.heap.size (.slice (some ⟨w.heap.size, 0, none⟩) 1 1) [.int .u8 (128 + (n : Int) % 128)] := (own_lit w 5 [.int .u8 (128 + (n : Int) % 128)] 1 rfl (by decide)).below hbel (Nat.le_refl _)
      obtain ⟨g, cap, rfl, hb, hlt, hc⟩ := hown.some (by simpa using enc_pos _)
      have hb1 := hbel.size
      rw [List.length_map] at hown ⊢
      simp at hb1
      go_wp2_with (at_builtin; refine wpList_append_own _ rfl _ _ 22 rfl w.heap.size 5 i0 (.int .u8 0) 1 1 Tryz.underlying22 hi hz0 hz1 hz2 rfl (by decide) _ 1 _ rfl hv ⟨g, 0, none⟩ (enc (n / 128)).length cap ((enc (n / 128)).map (Value.int .u8)) rfl (by simp) hc (ints_oneCell _ _) (by unfold maxLen; omega) (by omega) (by omega) ?_)
      intro v' w2 hown' hgrow _
      go_wp2_with fail
      go_ret
      refine ⟨_, rfl, ?_, ?_⟩
      · have := own_of hown'
        rw [enc_big (n := n) (by omega), List.map_cons, show ((n % 128 + 128 : Nat) : Int) = 128 + (n : Int) % 128 by omega]
        exact this
      · exact ((((Below.refl _ _).alloc (Nat.le_refl _) _).trans (hbel.mono (by simp)))).grown hgrow (by omega) (fun k hk => by simp [Value.ownBlock] at hk; omega)

set_option maxRecDepth 100000 in
set_option maxHeartbeats 400000 in
theorem appendInt_any (B : Nat) (w : World) (v : Value) (xs : List Int) (n : Nat) (hn : n ≤ 4611686018427387903) (hx : xs.length ≤ 100000000) (hB : B ≤ w.heap.size) (ho : Own 5 w B v (xs.map (Value.int .u8))) :
    Calls Tryz.prog 124 #[v, .int .i64 (n : Int)] w fun e w' => ∃ r, e = .returned r ∧ Own 5 w' B r ((xs ++ enc n).map (Value.int .u8)) ∧ Below B w w' := by
  obtain ⟨i0, hi, hz0, hz1, hz2⟩ := info_parts info5
  have hlen := enc_len (n := n) (by omega)
  go_enter Tryz.func124, Tryz.ntmps124
  go_wp2
  go_loopw [0, 1] (fun r t wr => ∃ (ys : List Int) (m : Nat), m ≤ 4611686018427387903 ∧ t = .int .i64 m ∧ Own 5 wr B r (ys.map (Value.int .u8)) ∧ Below B w wr ∧ Hid (ys ++ enc m = xs ++ enc n)) (fun _ t _ => (intOf t).toNat)
  case atStart => exact ⟨xs, n, hn, rfl, ho, Below.refl _ _, rfl⟩
  case round =>
    obtain ⟨ys, m, hm, rfl, how, hbel, HE⟩ := hrel
    have hl : ys.length ≤ 100000010 := by have := congrArg List.length HE.out; simp only [List.length_append] at this; omega
    have hsz := hbel.size
    by_cases hs : m < 128
    · go_wp2_with (at_builtin; refine wpList_append_own _ rfl _ _ 22 rfl B 5 i0 (.int .u8 0) 1 1 Tryz.underlying22 hi hz0 hz1 hz2 rfl (by decide) _ _ _ rfl (how.alloc _) ⟨wr.heap.size, 0, none⟩ 1 1 [.int .u8 (m : Int)] rfl rfl (cell_one_new _ _ _) (by simp [Value.oneCell']) (by simp [maxLen]; omega) (by simp; omega) (by simp; omega) ?_)
      intro v' w2 ho2 hg2 _
      have ho3 := own_of ho2
      have hb2 : Below B w w2 := (hbel.alloc (by omega) _).grown hg2 (by simp; omega) how.lt
      clear ho2 hg2 how
      go_wp2_with fail
      go_ret
      refine ⟨_, rfl, ?_, hb2⟩
      rw [← HE.out, enc_small hs, List.map_append]
      exact ho3
    · go_wp2_with (at_builtin; refine wpList_append_own _ rfl _ _ 22 rfl B 5 i0 (.int .u8 0) 1 1 Tryz.underlying22 hi hz0 hz1 hz2 rfl (by decide) _ _ _ rfl (how.alloc _) ⟨wr.heap.size, 0, none⟩ 1 1 [.int .u8 ((m : Int) % 128 + 128)] rfl rfl (cell_one_new _ _ _) (by simp [Value.oneCell']) (by simp [maxLen]; omega) (by simp; omega) (by simp; omega) ?_)
      intro v' w2 ho2 hg2 _
      have ho3 := own_of ho2
      have hb2 : Below B w w2 := (hbel.alloc (by omega) _).grown hg2 (by simp; omega) how.lt
      have HE' : Hid ((ys ++ [(m : Int) % 128 + 128]) ++ enc (m / 128) = xs ++ enc n) := by
        unfold Hid
        rw [← HE.out, enc_big (n := m) (by omega)]
        simp
      clear ho2 hg2 how
      go_wp2_with fail
      go_roundw
      case rel => exact ⟨ys ++ [(m : Int) % 128 + 128], m / 128, by omega, by go_num, by rw [List.map_append]; exact ho3, hb2, HE'⟩
      case measure => simp [intOf]; omega
end Go.Proofs.YtocffojhhjdeoaaGreat

namespace Go.Proofs.YtocffojhhjdeoaaGreat
open Go.RowKit
set_option linter.unusedVariables false

/-- The text of these bytes. -/
def ofInts (xs : List Int) : ByteArray := ⟨(xs.map fun n => UInt8.ofNat n.toNat).toArray⟩

theorem push_all (xs : List Int) : ∀ s : ByteArray, xs.foldl (fun r n => r.push (UInt8.ofNat n.toNat)) s = ⟨(s.data.toList ++ xs.map fun n => UInt8.ofNat n.toNat).toArray⟩ := by
  induction xs with
  | nil => intro s; simp
  | cons x xs ih =>
    intro s
    rw [List.foldl_cons, ih]
    simp [ByteArray.push]

theorem run_string_of {C : Nat} {w : World} {v : Value} {xs : List Int} (hr : Rd C w v (xs.map (Value.int .u8))) : (convert 22 9 v).run Tryz.prog w = .ok (.string (ofInts xs)) w := by
  obtain ⟨ao, cap, rfl, hcap, hmax, hnil, hr⟩ := hr
  rw [run_convert_bytes_string w 22 9 5 ao _ cap Tryz.underlying22 Tryz.underlying5 Tryz.underlying9]
  cases ao with
  | none =>
    have hx : xs = [] := by
      cases xs with
      | nil => rfl
      | cons x xs => have := hnil rfl; simp at hcap; omega
    subst hx
    rfl
  | some a =>
    rw [run_bytesToString (P := Tryz.prog) w a _ cap xs, push_all]
    · rfl
    · refine run_loadCells_list (P := Tryz.prog) w a _ (fun j u hj => ?_)
      have hj1 := (List.getElem?_eq_some_iff.1 hj).1
      obtain ⟨g, off, e, _, hc⟩ := hr (by omega)
      cases e
      rw [Addr.add_lit]
      exact hc j u hj
end Go.Proofs.YtocffojhhjdeoaaGreat

namespace Go.Proofs.YtocffojhhjdeoaaGreat
open Go.RowKit
set_option linter.unusedVariables false

/-- Cells that are known, and may be written. -/
def Env (w : World) (L : List (Nat × Value)) : Prop := ∀ p ∈ L, w.cell? ⟨p.1, 0, none⟩ = some p.2 ∧ w.frozen? ⟨p.1, 0, none⟩ = false
theorem cell_ltV {w : World} {a : Addr} {v : Value} (h : w.cell? a = some v) : a.block < w.heap.size := by
  unfold World.cell? at h
  split at h
  · rename_i hb
    exact (Array.getElem?_eq_some_iff.1 hb).1
  all_goals simp at h
theorem Env.lt {w : World} {L : List (Nat × Value)} (h : Env w L) {p : Nat × Value} (hp : p ∈ L) : p.1 < w.heap.size := cell_ltV (h p hp).1
theorem Env.below {w w' : World} {L : List (Nat × Value)} (h : Env w L) (hb : Below w.heap.size w w') : Env w' L := fun p hp =>
  ⟨(hb.cell (p := ⟨p.1, 0, none⟩) (h.lt hp)).trans (h p hp).1, (hb.frozen (p := ⟨p.1, 0, none⟩) (h.lt hp)).trans (h p hp).2⟩
theorem Env.alloc {w : World} {L : List (Nat × Value)} (h : Env w L) (o : Obj) : Env (w.alloc o) L := h.below (below_alloc w o)
theorem Env.add {w : World} {L : List (Nat × Value)} (h : Env w L) (v : Value) (T : TypeId) : Env (w.alloc (.cells #[v] T)) ((w.heap.size, v) :: L) := fun p hp => by
  rcases List.mem_cons.1 hp with rfl | hp
  · exact ⟨cell_made1 (Below.refl _ _), frozen_made (Below.refl _ _) 0⟩
  · exact h.alloc _ p hp
theorem Env.mark {w w' : World} {L : List (Nat × Value)} {row : Option Nat} (h : Env w L) (hg : w.grownBy w' row) (hr : ∀ k, row = some k → ∀ p ∈ L, p.1 ≠ k) : Env w' L := fun p hp =>
  ⟨hg.cell (a := ⟨p.1, 0, none⟩) (h p hp).1 (fun e => hr p.1 e.symm p hp rfl), by
    rw [World.frozen?_of_block (w := w) (hg.block p.1 (h.lt hp) (fun e => hr p.1 e.symm p hp rfl))]
    exact (h p hp).2⟩
theorem Env.set {w : World} {L : List (Nat × Value)} {P : Nat} {u : Value} (h : Env w ((P, u) :: L)) (v : Value) (hn : ∀ p ∈ L, p.1 ≠ P) : Env (w.setCell ⟨P, 0, none⟩ v) ((P, v) :: L) := fun p hp => by
  rcases List.mem_cons.1 hp with rfl | hp
  · exact ⟨World.cell?_setCell_same w _ _ (h (P, u) (by simp)).1, by rw [World.frozen?_setCell]; exact (h (P, u) (by simp)).2⟩
  · have := h p (List.mem_cons_of_mem _ hp)
    refine ⟨?_, by rw [World.frozen?_setCell]; exact this.2⟩
    rw [World.cell?_of_block (w := w) (heap_setCell_other w ⟨P, 0, none⟩ p.1 v (hn p hp))]
    exact this.1
theorem Own.set {e : TypeId} {w : World} {B P : Nat} {v : Value} {cs : List Value} (h : Own e w B v cs) (u : Value) (hp : P < B) : Own e (w.setCell ⟨P, 0, none⟩ u) B v cs := h.apart (grownBy_set w P 0 u) (fun k hk => by cases hk; exact hp)

end Go.Proofs.YtocffojhhjdeoaaGreat

namespace Go.Proofs.YtocffojhhjdeoaaGreat
open Go.RowKit
set_option linter.unusedVariables false

theorem intsOne (zs : List Int) : ∀ u ∈ zs.map (Value.int .i64), u.oneCell' = true := by
  intro u hu
  obtain ⟨z, _, rfl⟩ := List.mem_map.1 hu
  rfl

set_option maxHeartbeats 1000000 in
set_option maxRecDepth 100000 in
theorem l02Copy_any (C : Nat) (w : World) (v : Value) (xs : List Int) (hl : xs.length ≤ 1048576) (hC : C ≤ w.heap.size) (hr : Rd C w v (xs.map (Value.int .i64))) :
    Calls Tryz.prog 53 #[.agg #[v]] w fun e w' => ∃ a c, e = .returned (.agg #[.slice a xs.length c]) ∧ Own 3 w' w.heap.size (.slice a xs.length c) (xs.map (Value.int .i64)) ∧ Below w.heap.size w w' := by
  obtain ⟨i0, hi, hz0, hz1, hz2⟩ := info_parts info3
  have hb2 : Below w.heap.size w ((w.alloc (.cells #[v] 33)).alloc (.cells #[.slice none 0 0] 33)) := below_then (below_alloc _ _) _
  have hb3 := below_then hb2 (.cells #[] 3)
  have ho0 := own_lit ((w.alloc (.cells #[v] 33)).alloc (.cells #[.slice none 0 0] 33)) 3 [] 0 rfl (by decide)
  have hE := ((Env.add (w := w) (L := []) (fun p hp => by simp at hp) v 33).add (.slice none 0 0) 33).alloc (.cells #[] 3)
  rw [World.size_alloc] at hE
  have hr3 := hr.belowW hb3 hC
  simp only [World.size_alloc] at ho0
  go_enter Tryz.func53, Tryz.ntmps53
  go_wp2_with (at_builtin; refine wpList_append_rd rfl (.tmp 3) (.tmp 5) 31 rfl (w.heap.size + 1 + 1) 3 i0 (.int .i64 0) 8 Tryz.underlying31 hi hz0 hz1 hz2 rfl _ [] rfl ho0 C v (xs.map (Value.int .i64)) rfl hr3 (intsOne _) (by simp [maxLen]; omega) (by simp; omega) (by simp) ?_)
  intro v' w1 ho1 hg1
  obtain ⟨ao, cap, rfl, _⟩ := ho1.slice
  rw [List.length_map] at ho1 ⊢
  have hE1 : Env w1 _ := hE.mark hg1 (fun k hk p hp => by
    simp [Value.ownBlock] at hk
    simp at hp
    rcases hp with rfl | rfl
    · show w.heap.size + 1 ≠ k; omega
    · show w.heap.size ≠ k; omega)
  have hB1 : Below w.heap.size w w1 := hb3.grown hg1 (by simp only [World.size_alloc]; omega) (fun k hk => by simp [Value.ownBlock] at hk; omega)
  have cR := hE1 (w.heap.size + 1, .slice none 0 0) (by simp)
  have c0 := cR.1
  have f0 := cR.2
  have k1 := Own.set ho1 (.slice ao xs.length cap) (show w.heap.size + 1 < w.heap.size + 1 + 1 by omega)
  have hB2 := hB1.setCell (p := ⟨w.heap.size + 1, 0, none⟩) (by show w.heap.size ≤ w.heap.size + 1; omega) (.slice ao xs.length cap)
  have q0 : (w1.setCell ⟨w.heap.size + 1, 0, none⟩ (.slice ao xs.length cap)).cell? ⟨w.heap.size + 1, 0, none⟩ = some (.slice ao xs.length cap) := World.cell?_setCell_same _ _ _ c0
  clear hE hE1 cR hg1 ho1 hr3 hb3 hb2 ho0
  go_wp2_with fail
  refine bodyPost_ret (v := .agg #[.slice ao xs.length cap]) ?_ rfl ⟨ao, cap, rfl, k1.mono (by omega), hB2⟩
  simp [results, Tryz.results53, go_sem, q0]

end Go.Proofs.YtocffojhhjdeoaaGreat

namespace Go.Proofs.YtocffojhhjdeoaaGreat
open Go.RowKit
set_option linter.unusedVariables false

/-- One byte more in a sum. -/
def sumStep (h : Nat) (c : Int) : Nat := (h ^^^ c.toNat) * 16777619 % 4294967296
/-- A sum, gone on with over more bytes. -/
def sumF (h : Nat) (xs : List Int) : Nat := xs.foldl sumStep h

theorem sumStep_lt (h : Nat) (c : Int) : sumStep h c < 4294967296 := by
  unfold sumStep
  omega
theorem sumF_cons (h : Nat) (c : Int) (xs : List Int) : sumF h (c :: xs) = sumF (sumStep h c) xs := List.foldl_cons ..
theorem sumF_nil (h : Nat) : sumF h [] = h := List.foldl_nil ..
theorem sumF_lt (xs : List Int) : ∀ {h : Nat}, h < 4294967296 → sumF h xs < 4294967296 := by
  induction xs with
  | nil => intro h hh; rw [sumF_nil]; exact hh
  | cons c xs ih =>
    intro h hh
    rw [sumF_cons]
    exact ih (sumStep_lt h c)
theorem sumF_append (h : Nat) (xs ys : List Int) : sumF h (xs ++ ys) = sumF (sumF h xs) ys := by simp [sumF, List.foldl_append]
theorem sumF_take (h : Nat) (xs : List Int) (k : Nat) (hk : k < xs.length) : sumF h (xs.take (k + 1)) = sumStep (sumF h (xs.take k)) xs[k] := by
  rw [List.take_succ_eq_append_getElem hk, sumF_append, sumF_cons, sumF_nil]
theorem xor_lt {a : Nat} {c : Int} (ha : a < 4294967296) (h0 : 0 ≤ c) (h1 : c ≤ 255) : a ^^^ c.toNat < 4294967296 := Nat.xor_lt_two_pow (n := 32) (by omega) (by omega)
theorem xor_u32 {a : Nat} {c : Int} (ha : a < 4294967296) (h0 : 0 ≤ c) (h1 : c ≤ 255) : bits .xor .u32 (a : Int) c = ((a ^^^ c.toNat : Nat) : Int) := by
  have := u32_xor (a : Int) c (by omega) (by omega) h0 (by omega)
  simpa using this
theorem xor_i64 {a : Nat} {c : Int} (ha : a < 4294967296) (h0 : 0 ≤ c) (h1 : c ≤ 255) : bits .xor .i64 (a : Int) c = ((a ^^^ c.toNat : Nat) : Int) := by
  obtain ⟨n, rfl⟩ := Int.eq_ofNat_of_zero_le h0
  have hx := xor_lt (a := a) (c := (n : Int)) ha h0 h1
  rw [Int.toNat_natCast] at hx ⊢
  show IntKind.i64.wrap ((BitVec.ofInt 64 (a : Int) ^^^ BitVec.ofInt 64 (n : Int)).toNat : Int) = _
  rw [BitVec.toNat_xor, ofInt_u64 a (by omega), ofInt_u64 n (by omega), IntKind.wrap_i64]
  omega

set_option maxHeartbeats 400000 in
theorem sumOn_any (C : Nat) (w : World) (v : Value) (xs : List Int) (h : Nat) (hh : h < 4294967296) (hx : ∀ c ∈ xs, 0 ≤ c ∧ c ≤ 255) (hl : xs.length ≤ 2097152) (hr : Rd C w v (xs.map (Value.int .u8))) :
    Calls Tryz.prog 90 #[.int .u32 (h : Int), v] w fun e w' => e = .returned (.int .u32 ((sumF h xs : Nat) : Int)) ∧ w' = w := by
  obtain ⟨ao, cap, rfl, _, _, _, hr⟩ := hr
  rw [List.length_map] at hr ⊢
  go_enter Tryz.func90, Tryz.ntmps90
  go_wp2
  go_loop [0, 9] (fun t i => ∃ k : Nat, k ≤ xs.length ∧ i = .int .i64 k ∧ t = .int .u32 ((sumF h (xs.take k) : Nat) : Int)) (fun _ i => xs.length - (intOf i).toNat)
  case atStart => exact ⟨0, Nat.zero_le _, rfl, rfl⟩
  case round =>
    obtain ⟨k, hk, rfl, rfl⟩ := hrel
    by_cases hlt : k < xs.length
    · obtain ⟨g, off, rfl, _, hc⟩ := hr (by omega)
      have c1 := hc k (.int .u8 xs[k]) (by simp [hlt])
      obtain ⟨hb0, hb1⟩ := hx xs[k] (List.getElem_mem hlt)
      have hS := sumF_lt (xs.take k) (h := h) hh
      have hxr := xor_u32 hS hb0 hb1
      have hxl := xor_lt hS hb0 hb1
      have HT : Hid _ := sumF_take h xs k hlt
      generalize sumF h (xs.take k) = T at hS hxr hxl HT ⊢
      clear hc hr
      go_wp2
      go_round
      case rel => exact ⟨k + 1, by omega, by go_num, by rw [HT.out]; simp [sumStep]⟩
      case measure => simp [intOf]; omega
    · go_wp2
      go_ret
      exact ⟨by rw [show k = xs.length by omega, List.take_length]; rfl, rfl⟩

theorem sumOn_start (C : Nat) (w : World) (v : Value) (xs : List Int) (hx : ∀ c ∈ xs, 0 ≤ c ∧ c ≤ 255) (hl : xs.length ≤ 2097152) (hr : Rd C w v (xs.map (Value.int .u8))) :
    Calls Tryz.prog 90 #[.int .u32 2166136261, v] w fun e w' => e = .returned (.int .u32 ((sumF 2166136261 xs : Nat) : Int)) ∧ w' = w := by
  have h := sumOn_any C w v xs 2166136261 (by decide) hx hl hr
  rwa [show ((2166136261 : Nat) : Int) = 2166136261 from rfl] at h

set_option maxHeartbeats 400000 in
theorem sum32_any (C : Nat) (w : World) (v : Value) (xs : List Int) (hx : ∀ c ∈ xs, 0 ≤ c ∧ c ≤ 255) (hl : xs.length ≤ 1048576) (hr : Rd C w v (xs.map (Value.int .u8))) :
    Calls Tryz.prog 37 #[v] w fun e w' => e = .returned (.int .i64 ((sumF 2166136261 xs : Nat) : Int)) ∧ w' = w := by
  obtain ⟨ao, cap, rfl, _, _, _, hr⟩ := hr
  rw [List.length_map] at hr ⊢
  go_enter Tryz.func37, Tryz.ntmps37
  go_wp2
  go_loop [3, 4] (fun t i => ∃ k : Nat, k ≤ xs.length ∧ i = .int .i64 k ∧ t = .int .i64 ((sumF 2166136261 (xs.take k) : Nat) : Int)) (fun _ i => xs.length - (intOf i).toNat)
  case atStart => exact ⟨0, Nat.zero_le _, rfl, rfl⟩
  case round =>
    obtain ⟨k, hk, rfl, rfl⟩ := hrel
    by_cases hlt : k < xs.length
    · obtain ⟨g, off, rfl, _, hc⟩ := hr (by omega)
      have c1 := hc k (.int .u8 xs[k]) (by simp [hlt])
      obtain ⟨hb0, hb1⟩ := hx xs[k] (List.getElem_mem hlt)
      have hS := sumF_lt (xs.take k) (h := 2166136261) (by decide)
      have hxr := xor_i64 hS hb0 hb1
      have hxl := xor_lt hS hb0 hb1
      have HT : Hid _ := sumF_take 2166136261 xs k hlt
      generalize sumF 2166136261 (xs.take k) = T at hS hxr hxl HT ⊢
      clear hc hr
      go_wp2
      go_round
      case rel => exact ⟨k + 1, by omega, by go_num, by rw [HT.out]; simp [sumStep]⟩
      case measure => simp [intOf]; omega
    · go_wp2
      go_ret
      exact ⟨by rw [show k = xs.length by omega, List.take_length]; rfl, rfl⟩

/-- The four bytes of a number below 2 to the 32, the highest first. -/
def four (n : Nat) : List Int := [((n / 16777216 : Nat) : Int), ((n / 65536 % 256 : Nat) : Int), ((n / 256 % 256 : Nat) : Int), ((n % 256 : Nat) : Int)]
theorem four_bytes {n : Nat} (h : n < 4294967296) : ∀ c ∈ four n, 0 ≤ c ∧ c ≤ 255 := by
  intro c hc
  simp only [four, List.mem_cons, List.not_mem_nil, or_false] at hc
  rcases hc with rfl | rfl | rfl | rfl <;> omega

set_option maxHeartbeats 400000 in
theorem l01Four_any (n : Nat) (hn : n < 4294967296) (w : World) :
    Calls Tryz.prog 36 #[.int .i64 (n : Int)] w fun e w' => ∃ r, e = .returned r ∧ Own 5 w' w.heap.size r ((four n).map (Value.int .u8)) ∧ Below w.heap.size w w' := by
  go_enter Tryz.func36, Tryz.ntmps36
  go_wp2
  go_ret
  refine ⟨_, rfl, ?_, (Below.refl _ _).alloc (Nat.le_refl _) _⟩
  exact own_lit w 5 _ 4 rfl (by decide)

set_option maxHeartbeats 400000 in
theorem appendSum_any (B : Nat) (w : World) (v : Value) (xs : List Int) (n : Nat) (hn : n < 4294967296) (hx : xs.length ≤ 1048576) (hB : B ≤ w.heap.size) (ho : Own 5 w B v (xs.map (Value.int .u8))) :
    Calls Tryz.prog 89 #[v, .int .u32 (n : Int)] w fun e w' => ∃ r, e = .returned r ∧ Own 5 w' B r ((xs ++ four n).map (Value.int .u8)) ∧ Below B w w' := by
  obtain ⟨i0, hi, hz0, hz1, hz2⟩ := info_parts info5
  have hol : Rd (w.alloc (.cells #[.int .u8 ((n : Int) / 16777216), .int .u8 ((n : Int) / 65536 % 256), .int .u8 ((n : Int) / 256 % 256), .int .u8 ((n : Int) % 256)] 5)).heap.size (w.alloc (.cells #[.int .u8 ((n : Int) / 16777216), .int .u8 ((n : Int) / 65536 % 256), .int .u8 ((n : Int) / 256 % 256), .int .u8 ((n : Int) % 256)] 5)) (.slice (some ⟨w.heap.size, 0, none⟩) 4 4) ((four n).map (Value.int .u8)) := (own_lit w 5 ((four n).map (Value.int .u8)) 4 rfl (by decide)).rd
  have hbl : Below B w (w.alloc (.cells #[.int .u8 ((n : Int) / 16777216), .int .u8 ((n : Int) / 65536 % 256), .int .u8 ((n : Int) / 256 % 256), .int .u8 ((n : Int) % 256)] 5)) := (Below.refl _ _).alloc hB _
  have hln : (four n).length = 4 := rfl
  go_enter Tryz.func89, Tryz.ntmps89
  go_wp2_with (at_builtin; refine wpList_append_rd rfl (.tmp 5) (.tmp 17) 22 rfl B 5 i0 (.int .u8 0) 1 Tryz.underlying22 hi hz0 hz1 hz2 rfl _ _ rfl (World.ownsRow.alloc ho _) _ _ ((four n).map (Value.int .u8)) rfl hol (ints_oneCell _ _) (by simp [maxLen]; omega) (by simp; omega) (by simp; omega) ?_)
  intro v1 w1 ho1 hg1
  have hb1 : Below B w w1 := hbl.grown hg1 (by simp; omega) ho.lt
  clear hg1 hol hbl
  go_wp2_with fail
  go_ret
  exact ⟨_, rfl, by simpa using ho1, hb1⟩
end Go.Proofs.YtocffojhhjdeoaaGreat

namespace Go.Proofs.YtocffojhhjdeoaaGreat
open Go.RowKit
set_option linter.unusedVariables false

theorem l08Sign_any (d : Int) (w : World) (h0 : -1152921504606846975 ≤ d) (h1 : d ≤ 1152921504606846975) : Calls Tryz.prog 58 #[.int .i64 d] w fun e w' => e = .returned (.int .i64 ((foldS d : Nat) : Int)) ∧ w' = w := by
  by_cases hd : d < 0
  · have e : ((foldS d : Nat) : Int) = -2 * d - 1 := by unfold foldS; rw [if_pos hd]; omega
    rw [e]
    clear e
    go_enter Tryz.func58, Tryz.ntmps58
    go_wp2
    go_ret
    exact ⟨rfl, rfl⟩
  · have e : ((foldS d : Nat) : Int) = 2 * d := by unfold foldS; rw [if_neg hd]; omega
    rw [e]
    clear e
    go_enter Tryz.func58, Tryz.ntmps58
    go_wp2
    go_ret
    exact ⟨rfl, rfl⟩
end Go.Proofs.YtocffojhhjdeoaaGreat
