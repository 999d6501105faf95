/- The row of the type byte in the program's table. What l01Num, l01Put and appendInt do: the bytes of a number from 0 to MaxNum, behind a row that the call owns. Stamps: plain facts, and what toStamp does. What toIntS, eqIntS, markIntS and heldIntS do. Vectors: plain facts, and what the laws' own helpers do with them. What isCount and the two functions VecOK do. What the two functions StampOK do, and the walk of the law over both: it answers true at every stamp. What sumOn, Sum32, l01Join, l01Four and appendSum do. Bytes made a text. Runs read from bytes: plain facts. The code's own tests for the shortest form, against writing the numbers again. What GetRuns answers: plain words. What l01Get and the specification's GetInt do. The specification's l08Sign. What the laws' markVector and heldVector do; cells that are kept. What the specification's l02Copy does. What eqByteS, markByteS and heldByteS do: equal bytes are told equal; a row that the call owns is written over; what was written is found again. The laws' own 'at': a number below n, out of bytes. -/
import Derived.Test.YtmmkmkaannlkhaaGreatDoorProg
import Derived.WalkSpells
import Derived.WalkLawsBesides
import Derived.Deep.QuietTactic
import Derived.BigQuiet
import Derived.Test.YtmmkmkaannlkhaaGreatDoorQBaseToOwnType
namespace Go.Proofs.YtmmkmkaannlkhaaGreatDoor
open Go.RowKit

theorem info5 : (Tryz.prog.info? 5).map (fun i => (i.zero, i.size, i.bytes)) = some (some (.int .u8 0), 1, 1) := by kernel_rfl
end Go.Proofs.YtmmkmkaannlkhaaGreatDoor

namespace Go.Proofs.YtmmkmkaannlkhaaGreatDoor
open Go.RowKit
set_option linter.unusedVariables false


set_option maxRecDepth 100000 in
set_option maxHeartbeats 400000 in
theorem l01Put_any (k : Nat) : ∀ (n : Nat) (w : World), n ≤ k → n ≤ 4611686018427387903 →
    Calls Tryz.prog 36 #[.int .i64 (n : Int)] w fun e w' => ∃ r, e = .returned r ∧ Own 5 w' w.heap.size r ((enc n).map (Value.int .u8)) ∧ Below w.heap.size w w' := by
  obtain ⟨i0, hi, hz0, hz1, hz2⟩ := info_parts info5
  induction k with
  | zero =>
    intro n w hk hn
    have : n = 0 := by omega
    subst this
    go_enter Tryz.func36, Tryz.ntmps36
    go_wp2_with fail
    go_ret
    refine ⟨_, rfl, ?_, (Below.refl _ _).alloc (Nat.le_refl _) _⟩
    rw [enc_small (by omega)]
    exact World.ownsRow_lit w #[.int .u8 0] 1 (Nat.le_refl _) (by decide) rfl
  | succ k ih =>
    intro n w hk hn
    by_cases hs : n < 128
    · go_enter Tryz.func36, Tryz.ntmps36
      go_wp2_with fail
      go_ret
      refine ⟨_, rfl, ?_, (Below.refl _ _).alloc (Nat.le_refl _) _⟩
      rw [enc_small hs]
      exact own_lit w 5 [.int .u8 (n : Int)] 1 rfl (by decide)
    · go_enter Tryz.func36, Tryz.ntmps36
      go_wp2_with fail
      rw [show ((n : Int) / 128) = ((n / 128 : Nat) : Int) by omega]
      refine (ih (n / 128) _ (by omega) (by omega)).mono ?_
      clear ih
      rintro e w1 ⟨r, rfl, hown, hbel⟩
      have hlen := enc_len (n := n / 128) (by omega)
      have hv : Own 5 w1 w.heap.size (.slice (some ⟨w.heap.size, 0, none⟩) 1 1) [.int .u8 (128 + (n : Int) % 128)] := (own_lit w 5 [.int .u8 (128 + (n : Int) % 128)] 1 rfl (by decide)).below hbel (Nat.le_refl _)
      obtain ⟨g, cap, rfl, hb, hlt, hc⟩ := hown.some (by simpa using enc_pos _)
      have hb1 := hbel.size
      rw [List.length_map] at hown ⊢
      simp at hb1
      go_wp2_with (at_builtin; refine wpList_append_own _ rfl _ _ 22 rfl w.heap.size 5 i0 (.int .u8 0) 1 1 Tryz.underlying22 hi hz0 hz1 hz2 rfl (by decide) _ 1 _ rfl hv ⟨g, 0, none⟩ (enc (n / 128)).length cap ((enc (n / 128)).map (Value.int .u8)) rfl (by simp) hc (ints_oneCell _ _) (by unfold maxLen; omega) (by omega) (by omega) ?_)
      intro v' w2 hown' hgrow _
      go_wp2_with fail
      go_ret
      refine ⟨_, rfl, ?_, ?_⟩
      · have := own_of hown'
        rw [enc_big (n := n) (by omega), List.map_cons, show ((n % 128 + 128 : Nat) : Int) = 128 + (n : Int) % 128 by omega]
        exact this
      · exact ((((Below.refl _ _).alloc (Nat.le_refl _) _).trans (hbel.mono (by simp)))).grown hgrow (by omega) (fun k hk => by simp [Value.ownBlock] at hk; omega)

set_option maxRecDepth 100000 in
set_option maxHeartbeats 400000 in
theorem appendInt_any (B : Nat) (w : World) (v : Value) (xs : List Int) (n : Nat) (hn : n ≤ 4611686018427387903) (hx : xs.length ≤ 100000000) (hB : B ≤ w.heap.size) (ho : Own 5 w B v (xs.map (Value.int .u8))) :
    Calls Tryz.prog 26 #[v, .int .i64 (n : Int)] w fun e w' => ∃ r, e = .returned r ∧ Own 5 w' B r ((xs ++ enc n).map (Value.int .u8)) ∧ Below B w w' := by
  obtain ⟨i0, hi, hz0, hz1, hz2⟩ := info_parts info5
  have hlen := enc_len (n := n) (by omega)
  go_enter Tryz.func26, Tryz.ntmps26
  go_wp2
  go_loopw [0, 1] (fun r t wr => ∃ (ys : List Int) (m : Nat), m ≤ 4611686018427387903 ∧ t = .int .i64 m ∧ Own 5 wr B r (ys.map (Value.int .u8)) ∧ Below B w wr ∧ Hid (ys ++ enc m = xs ++ enc n)) (fun _ t _ => (intOf t).toNat)
  case atStart => exact ⟨xs, n, hn, rfl, ho, Below.refl _ _, rfl⟩
  case round =>
    obtain ⟨ys, m, hm, rfl, how, hbel, HE⟩ := hrel
    have hl : ys.length ≤ 100000010 := by have := congrArg List.length HE.out; simp only [List.length_append] at this; omega
    have hsz := hbel.size
    by_cases hs : m < 128
    · go_wp2_with (at_builtin; refine wpList_append_own _ rfl _ _ 22 rfl B 5 i0 (.int .u8 0) 1 1 Tryz.underlying22 hi hz0 hz1 hz2 rfl (by decide) _ _ _ rfl (how.alloc _) ⟨wr.heap.size, 0, none⟩ 1 1 [.int .u8 (m : Int)] rfl rfl (cell_one_new _ _ _) (by simp [Value.oneCell']) (by simp [maxLen]; omega) (by simp; omega) (by simp; omega) ?_)
      intro v' w2 ho2 hg2 _
      have ho3 := own_of ho2
      have hb2 : Below B w w2 := (hbel.alloc (by omega) _).grown hg2 (by simp; omega) how.lt
      clear ho2 hg2 how
      go_wp2_with fail
      go_ret
      refine ⟨_, rfl, ?_, hb2⟩
      rw [← HE.out, enc_small hs, List.map_append]
      exact ho3
    · go_wp2_with (at_builtin; refine wpList_append_own _ rfl _ _ 22 rfl B 5 i0 (.int .u8 0) 1 1 Tryz.underlying22 hi hz0 hz1 hz2 rfl (by decide) _ _ _ rfl (how.alloc _) ⟨wr.heap.size, 0, none⟩ 1 1 [.int .u8 ((m : Int) % 128 + 128)] rfl rfl (cell_one_new _ _ _) (by simp [Value.oneCell']) (by simp [maxLen]; omega) (by simp; omega) (by simp; omega) ?_)
      intro v' w2 ho2 hg2 _
      have ho3 := own_of ho2
      have hb2 : Below B w w2 := (hbel.alloc (by omega) _).grown hg2 (by simp; omega) how.lt
      have HE' : Hid ((ys ++ [(m : Int) % 128 + 128]) ++ enc (m / 128) = xs ++ enc n) := by
        unfold Hid
        rw [← HE.out, enc_big (n := m) (by omega)]
        simp
      clear ho2 hg2 how
      go_wp2_with fail
      go_roundw
      case rel => exact ⟨ys ++ [(m : Int) % 128 + 128], m / 128, by omega, by go_num, by rw [List.map_append]; exact ho3, hb2, HE'⟩
      case measure => simp [intOf]; omega
end Go.Proofs.YtmmkmkaannlkhaaGreatDoor

namespace Go.Proofs.YtmmkmkaannlkhaaGreatDoor
open Go.RowKit
set_option linter.unusedVariables false

theorem below_alloc (w : World) (o : Obj) : Below w.heap.size w (w.alloc o) := (Below.refl _ _).alloc (Nat.le_refl _) _
theorem below_then {w w1 : World} (h : Below w.heap.size w w1) (o : Obj) : Below w.heap.size w (w1.alloc o) := h.alloc h.size o
theorem below_seq {w w1 w2 : World} (h : Below w.heap.size w w1) (k : Below w1.heap.size w1 w2) : Below w.heap.size w w2 := h.trans (k.mono h.size)

/-- A new block's cells, there behind whatever leaves it as it is. -/
theorem cell_made {w w1 : World} {cs : Array Value} {T : TypeId} (h : Below (w.alloc (.cells cs T)).heap.size (w.alloc (.cells cs T)) w1) {k : Nat} {v : Value} (hk : cs[k]? = some v) : w1.cell? ⟨w.heap.size, k, none⟩ = some v := by
  rw [h.cell (p := ⟨w.heap.size, k, none⟩) (by simp)]
  unfold World.cell?
  rw [show (w.alloc (.cells cs T)).heap[(⟨w.heap.size, k, none⟩ : Addr).block]? = some (.cells cs T (0, 0)) from heap_alloc_new w _]
  exact hk

theorem cell_made1 {w w1 : World} {v : Value} {T : TypeId} (h : Below (w.alloc (.cells #[v] T)).heap.size (w.alloc (.cells #[v] T)) w1) : w1.cell? ⟨w.heap.size, 0, none⟩ = some v := cell_made h (k := 0) rfl
theorem alloc_keep {w : World} {a : Addr} {v : Value} (h : w.cell? a = some v) (o : Obj) : (w.alloc o).cell? a = some v := by
  rw [World.cell?_alloc_lt]
  · exact h
  · unfold World.cell? at h
    split at h
    · rename_i hb
      exact (Array.getElem?_eq_some_iff.1 hb).1
    all_goals simp at h
theorem old_le {w w1 : World} {o : Obj} (h : Below (w.alloc o).heap.size (w.alloc o) w1) : w.heap.size ≤ w1.heap.size := by
  have := h.size
  rw [World.size_alloc] at this
  omega
theorem frozen_made {w w1 : World} {cs : Array Value} {T : TypeId} (h : Below (w.alloc (.cells cs T)).heap.size (w.alloc (.cells cs T)) w1) (k : Nat) : w1.frozen? ⟨w.heap.size, k, none⟩ = false := by
  rw [h.frozen (p := ⟨w.heap.size, k, none⟩) (by simp)]
  unfold World.frozen?
  rw [show (w.alloc (.cells cs T)).heap[(⟨w.heap.size, k, none⟩ : Addr).block]? = some (.cells cs T (0, 0)) from heap_alloc_new w _]
  simp

/-- A stamp is valid. -/
def stOK (t a : Int) : Bool := decide (1 ≤ t ∧ t ≤ 1000000000000 ∧ 0 ≤ a ∧ a < 16)
theorem stOK_yes {t a : Int} (h1 : 1 ≤ t) (h2 : t ≤ 1000000000000) (h3 : 0 ≤ a) (h4 : a < 16) : stOK t a = true := decide_eq_true ⟨h1, h2, h3, h4⟩
theorem stOK_no {t a : Int} (h : ¬ (1 ≤ t ∧ t ≤ 1000000000000 ∧ 0 ≤ a ∧ a < 16)) : stOK t a = false := decide_eq_false h

end Go.Proofs.YtmmkmkaannlkhaaGreatDoor

namespace Go.Proofs.YtmmkmkaannlkhaaGreatDoor
open Go.RowKit
set_option linter.unusedVariables false

theorem info3 : (Tryz.prog.info? 3).map (fun i => (i.zero, i.size, i.bytes)) = some (some (.int .i64 0), 1, 8) := by kernel_rfl
/-- What is written over m numbers, from q on. -/
def marksI (q m : Nat) : List Int := (List.range m).map fun i => ((q + i : Nat) : Int)
theorem marksI_len (q m : Nat) : (marksI q m).length = m := by simp [marksI]
theorem marksI_get {q m k : Nat} (h : k < m) : (marksI q m)[k]? = some ((q + k : Nat) : Int) := by simp [marksI, h]
theorem markI_step (q k : Nat) (cs : List Value) (h : k < cs.length) : ((marksI q k).map (Value.int .i64) ++ cs.drop k).set k (Value.int .i64 ((q + k : Nat) : Int)) = (marksI q (k + 1)).map (Value.int .i64) ++ cs.drop (k + 1) := by
  have e : ∀ m, (marksI q m).map (Value.int .i64) = (List.range m).map (fun i => Value.int .i64 ((q + i : Nat) : Int)) := fun m => by simp [marksI]
  rw [e, e]
  exact range_step (fun i => Value.int .i64 ((q + i : Nat) : Int)) k cs h

end Go.Proofs.YtmmkmkaannlkhaaGreatDoor

namespace Go.Proofs.YtmmkmkaannlkhaaGreatDoor
open Go.RowKit
set_option linter.unusedVariables false

/-- A count is one; a vector is valid. -/
def cOK (c : Int) : Bool := decide (0 ≤ c ∧ c ≤ 1000000000000)
def vecOK (xs : List Int) : Bool := decide (xs.length = 16) && xs.all cOK
theorem vecOK_len {xs : List Int} (h : ¬ xs.length = 16) : vecOK xs = false := by unfold vecOK; rw [decide_eq_false h]; rfl
theorem vecOK_bad {xs : List Int} {k : Nat} (hk : k < xs.length) (h : cOK xs[k] = false) : vecOK xs = false := by
  unfold vecOK
  rw [Bool.and_eq_false_iff]
  exact .inr (List.all_eq_false.2 ⟨xs[k], List.getElem_mem hk, by rw [h]; decide⟩)
theorem vecOK_all {xs : List Int} (h16 : xs.length = 16) (h : ∀ k (hk : k < xs.length), cOK xs[k] = true) : vecOK xs = true := by
  unfold vecOK
  rw [decide_eq_true h16, Bool.true_and]
  refine List.all_eq_true.2 fun c hc => ?_
  obtain ⟨k, hk, rfl⟩ := List.mem_iff_getElem.1 hc
  exact h k hk
theorem vecOK_get {xs : List Int} (h : vecOK xs = true) : xs.length = 16 ∧ ∀ k (hk : k < xs.length), 0 ≤ xs[k] ∧ xs[k] ≤ 1000000000000 := by
  unfold vecOK at h
  rw [Bool.and_eq_true, decide_eq_true_eq] at h
  refine ⟨h.1, fun k hk => ?_⟩
  have := List.all_eq_true.1 h.2 xs[k] (List.getElem_mem hk)
  simpa [cOK] using this

/-- A slice that can be read, behind whatever leaves old memory as it is. -/
theorem Rd.belowW {C : Nat} {w w' : World} {v : Value} {cs : List Value} (h : Rd C w v cs) (hb : Below w.heap.size w w') (hC : C ≤ w.heap.size) : Rd C w' v cs := h.below (hb.mono hC)
theorem Rd.alloc {C : Nat} {w : World} {v : Value} {cs : List Value} (h : Rd C w v cs) (o : Obj) (hC : C ≤ w.heap.size) : Rd C (w.alloc o) v cs := h.belowW (below_alloc w o) hC

end Go.Proofs.YtmmkmkaannlkhaaGreatDoor

namespace Go.Proofs.YtmmkmkaannlkhaaGreatDoor
open Go.RowKit
set_option linter.unusedVariables false

set_option maxHeartbeats 400000 in
theorem isCount_any (c : Int) (w : World) :
    Calls Tryz.prog 76 #[.int .i64 c] w fun e w' => e = .returned (.bool (cOK c)) ∧ w' = w := by
  obtain ⟨r, hr, hc⟩ : ∃ r, cOK c = r ∧ ((r = false ∧ ¬ 0 ≤ c) ∨ (r = false ∧ 0 ≤ c ∧ ¬ c ≤ 1000000000000) ∨ (r = true ∧ 0 ≤ c ∧ c ≤ 1000000000000)) := by
    refine ⟨_, rfl, ?_⟩
    unfold cOK
    by_cases h1 : 0 ≤ c <;> by_cases h2 : c ≤ 1000000000000 <;> simp [h1, h2]
  rw [hr]
  clear hr
  rcases hc with ⟨rfl, h1⟩ | ⟨rfl, h1, h2⟩ | ⟨rfl, h1, h2⟩
  all_goals
    go_enter Tryz.func76, Tryz.ntmps76
    go_wp2_with fail
    go_ret
    exact ⟨by simp, rfl⟩

set_option maxHeartbeats 400000 in
theorem specVecOK_any (C : Nat) (w : World) (v : Value) (xs : List Int) (hC : C ≤ w.heap.size) (hr : Rd C w v (xs.map (Value.int .i64))) :
    Calls Tryz.prog 31 #[.agg #[v]] w fun e w' => e = .returned (.bool (vecOK xs)) ∧ Below w.heap.size w w' := by
  obtain ⟨ao, cap, rfl, hcap, hmax, _, hr⟩ := hr
  rw [List.length_map] at hr hcap ⊢
  unfold maxLen at hmax
  by_cases h16 : xs.length = 16
  · have H16 : Hid _ := h16
    obtain ⟨g, off, rfl, hg, hc⟩ := hr (by omega)
    have HC : Hid (∀ k (hk : k < xs.length), (w.alloc (.cells #[.slice (some ⟨g, off, none⟩) 16 cap] 25)).cell? ⟨g, off + k, none⟩ = some (.int .i64 xs[k])) := fun k hk => by
      rw [World.cell?_alloc_past _ _ _ (show g < w.heap.size by omega)]
      exact hc k _ (by simp [hk])
    rw [h16]
    clear hr hc h16 hcap
    go_enter Tryz.func31, Tryz.ntmps31
    go_wp2_with fail
    go_loop [3] (fun i => ∃ k : Nat, k ≤ 16 ∧ i = .int .i64 (k : Int) ∧ Hid (∀ j (hj : j < xs.length), j < k → cOK xs[j] = true)) (fun i => 16 - (intOf i).toNat)
    case atStart => exact ⟨0, by omega, rfl, fun j hj h => absurd h (by omega)⟩
    case round =>
      obtain ⟨k, hk, rfl, HA⟩ := hrel
      by_cases hlt : k < 16
      · have hk16 : k < xs.length := by rw [H16.out]; exact hlt
        have c1 := HC.out k hk16
        have HN : Hid (cOK xs[k] = true → Hid (∀ j (hj : j < xs.length), j < k + 1 → cOK xs[j] = true)) := fun h j hj hjk => by
          by_cases e : j = k
          · subst e; exact h
          · exact HA.out j hj (by omega)
        have hcs : (Hid (cOK xs[k] = true) ∧ ¬ xs[k] < 0 ∧ ¬ 1000000000000 < xs[k]) ∨ (Hid (cOK xs[k] = false) ∧ xs[k] < 0) ∨ (Hid (cOK xs[k] = false) ∧ ¬ xs[k] < 0 ∧ 1000000000000 < xs[k]) := by
          unfold cOK Hid
          by_cases h1 : xs[k] < 0
          · exact .inr (.inl ⟨decide_eq_false (by omega), h1⟩)
          · by_cases h2 : 1000000000000 < xs[k]
            · exact .inr (.inr ⟨decide_eq_false (by omega), h1, h2⟩)
            · exact .inl ⟨decide_eq_true (by omega), h1, h2⟩
        rcases hcs with ⟨HR, h1, h2⟩ | ⟨HR, h1⟩ | ⟨HR, h1, h2⟩
        · go_wp2_with fail
          go_round
          case rel => exact ⟨k + 1, by omega, by go_num, HN.out HR.out⟩
          case measure => simp [intOf]; omega
        · go_wp2_with fail
          go_ret
          exact ⟨by rw [vecOK_bad hk16 HR.out]; rfl, below_alloc _ _⟩
        · go_wp2_with fail
          go_ret
          exact ⟨by rw [vecOK_bad hk16 HR.out]; rfl, below_alloc _ _⟩
      · obtain rfl : k = 16 := by omega
        have HV : Hid _ := vecOK_all H16.out (fun k hk => HA.out k hk (by rw [H16.out] at hk; exact hk))
        go_wp2_with fail
        go_ret
        exact ⟨by rw [HV.out]; rfl, below_alloc _ _⟩
  · have hb : ((xs.length : Int) != 16) = true := by simp; omega
    rw [vecOK_len h16]
    go_enter Tryz.func31, Tryz.ntmps31
    go_wp2_with fail
    go_ret
    exact ⟨rfl, below_alloc _ _⟩

set_option maxHeartbeats 400000 in
theorem implVecOK_any (C : Nat) (w : World) (v : Value) (xs : List Int) (hC : C ≤ w.heap.size) (hr : Rd C w v (xs.map (Value.int .i64))) :
    Calls Tryz.prog 50 #[.agg #[v]] w fun e w' => e = .returned (.bool (vecOK xs)) ∧ Below w.heap.size w w' := by
  obtain ⟨ao, cap, rfl, hcap, hmax, _, hr⟩ := hr
  rw [List.length_map] at hr hcap ⊢
  unfold maxLen at hmax
  by_cases h16 : xs.length = 16
  · have H16 : Hid _ := h16
    obtain ⟨g, off, rfl, hg, hc⟩ := hr (by omega)
    have HC : Hid (∀ k (hk : k < xs.length), (w.alloc (.cells #[.slice (some ⟨g, off, none⟩) 16 cap] 25)).cell? ⟨g, off + k, none⟩ = some (.int .i64 xs[k])) := fun k hk => by
      rw [World.cell?_alloc_past _ _ _ (show g < w.heap.size by omega)]
      exact hc k _ (by simp [hk])
    rw [h16]
    clear hr hc h16 hcap
    go_enter Tryz.func50, Tryz.ntmps50
    go_wp2_with fail
    go_loop [12] (fun i => ∃ k : Nat, k ≤ 16 ∧ i = .int .i64 (k : Int) ∧ Hid (∀ j (hj : j < xs.length), j < k → cOK xs[j] = true)) (fun i => 16 - (intOf i).toNat)
    case atStart => exact ⟨0, by omega, rfl, fun j hj h => absurd h (by omega)⟩
    case round =>
      obtain ⟨k, hk, rfl, HA⟩ := hrel
      by_cases hlt : k < 16
      · have hk16 : k < xs.length := by rw [H16.out]; exact hlt
        have c1 := HC.out k hk16
        have HN : Hid (cOK xs[k] = true → Hid (∀ j (hj : j < xs.length), j < k + 1 → cOK xs[j] = true)) := fun h j hj hjk => by
          by_cases e : j = k
          · subst e; exact h
          · exact HA.out j hj (by omega)
        have hcs : (Hid (cOK xs[k] = true) ∧ ¬ xs[k] < 0 ∧ ¬ 1000000000000 < xs[k]) ∨ (Hid (cOK xs[k] = false) ∧ xs[k] < 0) ∨ (Hid (cOK xs[k] = false) ∧ ¬ xs[k] < 0 ∧ 1000000000000 < xs[k]) := by
          unfold cOK Hid
          by_cases h1 : xs[k] < 0
          · exact .inr (.inl ⟨decide_eq_false (by omega), h1⟩)
          · by_cases h2 : 1000000000000 < xs[k]
            · exact .inr (.inr ⟨decide_eq_false (by omega), h1, h2⟩)
            · exact .inl ⟨decide_eq_true (by omega), h1, h2⟩
        have hcc := isCount_any xs[k]
        clear hcs
        cases hck : cOK xs[k] with
        | true =>
          rw [hck] at hcc
          have HR : Hid _ := hck
          clear hck
          generalize xs[k] = c at c1 hcc
          go_wp2_with ((go_at_call 76; refine (hcc _).mono ?_; rintro e w' ⟨rfl, rfl⟩))
          go_round
          case rel => exact ⟨k + 1, by omega, by go_num, HN.out HR.out⟩
          case measure => simp [intOf]; omega
        | false =>
          rw [hck] at hcc
          have HR : Hid _ := hck
          clear hck
          have HB : Hid _ := vecOK_bad hk16 HR.out
          generalize xs[k] = c at c1 hcc
          go_wp2_with ((go_at_call 76; refine (hcc _).mono ?_; rintro e w' ⟨rfl, rfl⟩))
          go_ret
          exact ⟨by rw [HB.out]; rfl, below_alloc _ _⟩
      · obtain rfl : k = 16 := by omega
        have HV : Hid _ := vecOK_all H16.out (fun k hk => HA.out k hk (by rw [H16.out] at hk; exact hk))
        go_wp2_with fail
        go_ret
        exact ⟨by rw [HV.out]; rfl, below_alloc _ _⟩
  · have hb : ((xs.length : Int) != 16) = true := by simp; omega
    rw [vecOK_len h16]
    go_enter Tryz.func50, Tryz.ntmps50
    go_wp2_with fail
    go_ret
    exact ⟨rfl, below_alloc _ _⟩

end Go.Proofs.YtmmkmkaannlkhaaGreatDoor

namespace Go.Proofs.YtmmkmkaannlkhaaGreatDoor
open Go.RowKit
set_option linter.unusedVariables false

set_option maxHeartbeats 400000 in
theorem isActor_any (a : Int) (w : World) :
    Calls Tryz.prog 75 #[.int .i64 a] w fun e w' => e = .returned (.bool (decide (0 ≤ a ∧ a < 16))) ∧ w' = w := by
  by_cases h1 : 0 ≤ a
  · by_cases h2 : a < 16
    · rw [decide_eq_true (show 0 ≤ a ∧ a < 16 from ⟨h1, h2⟩)]
      go_enter Tryz.func75, Tryz.ntmps75
      go_wp2_with fail
      go_ret
      simp
    · rw [decide_eq_false (show ¬ (0 ≤ a ∧ a < 16) by omega)]
      go_enter Tryz.func75, Tryz.ntmps75
      go_wp2_with fail
      go_ret
      simp
  · rw [decide_eq_false (show ¬ (0 ≤ a ∧ a < 16) by omega)]
    go_enter Tryz.func75, Tryz.ntmps75
    go_wp2_with fail
    go_ret
    simp

set_option maxHeartbeats 400000 in
theorem specStampOK_any (t a : Int) (w : World) :
    Calls Tryz.prog 30 #[.agg #[.int .i64 t, .int .i64 a]] w fun e w' => e = .returned (.bool (stOK t a)) ∧ Below w.heap.size w w' := by
  have hb : Below w.heap.size w (w.alloc (.cells #[.int .i64 t, .int .i64 a] 27)) := below_alloc _ _
  obtain ⟨r, hr, hc⟩ : ∃ r, stOK t a = r ∧ ((r = false ∧ ¬ 1 ≤ t) ∨ (r = false ∧ 1 ≤ t ∧ ¬ t ≤ 1000000000000) ∨ (r = false ∧ 1 ≤ t ∧ t ≤ 1000000000000 ∧ ¬ 0 ≤ a) ∨ (r = false ∧ 1 ≤ t ∧ t ≤ 1000000000000 ∧ 0 ≤ a ∧ ¬ a < 16) ∨ (r = true ∧ 1 ≤ t ∧ t ≤ 1000000000000 ∧ 0 ≤ a ∧ a < 16)) := by
    refine ⟨_, rfl, ?_⟩
    by_cases h1 : 1 ≤ t ∧ t ≤ 1000000000000 ∧ 0 ≤ a ∧ a < 16
    · rw [stOK_yes h1.1 h1.2.1 h1.2.2.1 h1.2.2.2]; simp; omega
    · rw [stOK_no h1]; simp; omega
  rw [hr]
  clear hr
  rcases hc with ⟨rfl, h1⟩ | ⟨rfl, h1, h2⟩ | ⟨rfl, h1, h2, h3⟩ | ⟨rfl, h1, h2, h3, h4⟩ | ⟨rfl, h1, h2, h3, h4⟩
  all_goals
    go_enter Tryz.func30, Tryz.ntmps30
    go_wp2_with fail
    go_ret
    exact ⟨by simp, hb⟩

set_option maxHeartbeats 400000 in
theorem implStampOK_any (t a : Int) (w : World) :
    Calls Tryz.prog 49 #[.agg #[.int .i64 t, .int .i64 a]] w fun e w' => e = .returned (.bool (stOK t a)) ∧ Below w.heap.size w w' := by
  have hb : Below w.heap.size w (w.alloc (.cells #[.int .i64 t, .int .i64 a] 27)) := below_alloc _ _
  obtain ⟨r, hr, hc⟩ : ∃ r, stOK t a = r ∧ ((r = false ∧ ¬ 1 ≤ t) ∨ (r = false ∧ 1 ≤ t ∧ ¬ t ≤ 1000000000000) ∨ (r = decide (0 ≤ a ∧ a < 16) ∧ 1 ≤ t ∧ t ≤ 1000000000000)) := by
    refine ⟨_, rfl, ?_⟩
    by_cases h1 : 1 ≤ t
    · by_cases h2 : t ≤ 1000000000000
      · refine .inr (.inr ⟨?_, h1, h2⟩)
        unfold stOK
        simp [h1, h2]
      · exact .inr (.inl ⟨stOK_no (by omega), h1, h2⟩)
    · exact .inl ⟨stOK_no (by omega), h1⟩
  rw [hr]
  clear hr
  rcases hc with ⟨rfl, h1⟩ | ⟨rfl, h1, h2⟩ | ⟨rfl, h1, h2⟩
  all_goals
    go_enter Tryz.func49, Tryz.ntmps49
    go_wp2_with ((go_at_call 75; refine (isActor_any a _).mono ?_; rintro e w' ⟨rfl, rfl⟩))
    go_ret
    exact ⟨by simp, hb⟩

end Go.Proofs.YtmmkmkaannlkhaaGreatDoor

namespace Go.Proofs.YtmmkmkaannlkhaaGreatDoor
open Go.RowKit
set_option linter.unusedVariables false

/-- One byte more in a sum. -/
def sumStep (h : Nat) (c : Int) : Nat := (h ^^^ c.toNat) * 16777619 % 4294967296
/-- A sum, gone on with over more bytes. -/
def sumF (h : Nat) (xs : List Int) : Nat := xs.foldl sumStep h

theorem sumStep_lt (h : Nat) (c : Int) : sumStep h c < 4294967296 := by
  unfold sumStep
  omega
theorem sumF_cons (h : Nat) (c : Int) (xs : List Int) : sumF h (c :: xs) = sumF (sumStep h c) xs := List.foldl_cons ..
theorem sumF_nil (h : Nat) : sumF h [] = h := List.foldl_nil ..
theorem sumF_lt (xs : List Int) : ∀ {h : Nat}, h < 4294967296 → sumF h xs < 4294967296 := by
  induction xs with
  | nil => intro h hh; rw [sumF_nil]; exact hh
  | cons c xs ih =>
    intro h hh
    rw [sumF_cons]
    exact ih (sumStep_lt h c)
theorem sumF_append (h : Nat) (xs ys : List Int) : sumF h (xs ++ ys) = sumF (sumF h xs) ys := by simp [sumF, List.foldl_append]
theorem sumF_take (h : Nat) (xs : List Int) (k : Nat) (hk : k < xs.length) : sumF h (xs.take (k + 1)) = sumStep (sumF h (xs.take k)) xs[k] := by
  rw [List.take_succ_eq_append_getElem hk, sumF_append, sumF_cons, sumF_nil]
theorem xor_lt {a : Nat} {c : Int} (ha : a < 4294967296) (h0 : 0 ≤ c) (h1 : c ≤ 255) : a ^^^ c.toNat < 4294967296 := Nat.xor_lt_two_pow (n := 32) (by omega) (by omega)
theorem xor_u32 {a : Nat} {c : Int} (ha : a < 4294967296) (h0 : 0 ≤ c) (h1 : c ≤ 255) : bits .xor .u32 (a : Int) c = ((a ^^^ c.toNat : Nat) : Int) := by
  have := u32_xor (a : Int) c (by omega) (by omega) h0 (by omega)
  simpa using this
theorem xor_i64 {a : Nat} {c : Int} (ha : a < 4294967296) (h0 : 0 ≤ c) (h1 : c ≤ 255) : bits .xor .i64 (a : Int) c = ((a ^^^ c.toNat : Nat) : Int) := by
  obtain ⟨n, rfl⟩ := Int.eq_ofNat_of_zero_le h0
  have hx := xor_lt (a := a) (c := (n : Int)) ha h0 h1
  rw [Int.toNat_natCast] at hx ⊢
  show IntKind.i64.wrap ((BitVec.ofInt 64 (a : Int) ^^^ BitVec.ofInt 64 (n : Int)).toNat : Int) = _
  rw [BitVec.toNat_xor, ofInt_u64 a (by omega), ofInt_u64 n (by omega), IntKind.wrap_i64]
  omega

set_option maxHeartbeats 400000 in
theorem sumOn_any (C : Nat) (w : World) (v : Value) (xs : List Int) (h : Nat) (hh : h < 4294967296) (hx : ∀ c ∈ xs, 0 ≤ c ∧ c ≤ 255) (hl : xs.length ≤ 2097152) (hr : Rd C w v (xs.map (Value.int .u8))) :
    Calls Tryz.prog 28 #[.int .u32 (h : Int), v] w fun e w' => e = .returned (.int .u32 ((sumF h xs : Nat) : Int)) ∧ w' = w := by
  obtain ⟨ao, cap, rfl, _, _, _, hr⟩ := hr
  rw [List.length_map] at hr ⊢
  go_enter Tryz.func28, Tryz.ntmps28
  go_wp2
  go_loop [0, 9] (fun t i => ∃ k : Nat, k ≤ xs.length ∧ i = .int .i64 k ∧ t = .int .u32 ((sumF h (xs.take k) : Nat) : Int)) (fun _ i => xs.length - (intOf i).toNat)
  case atStart => exact ⟨0, Nat.zero_le _, rfl, rfl⟩
  case round =>
    obtain ⟨k, hk, rfl, rfl⟩ := hrel
    by_cases hlt : k < xs.length
    · obtain ⟨g, off, rfl, _, hc⟩ := hr (by omega)
      have c1 := hc k (.int .u8 xs[k]) (by simp [hlt])
      obtain ⟨hb0, hb1⟩ := hx xs[k] (List.getElem_mem hlt)
      have hS := sumF_lt (xs.take k) (h := h) hh
      have hxr := xor_u32 hS hb0 hb1
      have hxl := xor_lt hS hb0 hb1
      have HT : Hid _ := sumF_take h xs k hlt
      generalize sumF h (xs.take k) = T at hS hxr hxl HT ⊢
      clear hc hr
      go_wp2
      go_round
      case rel => exact ⟨k + 1, by omega, by go_num, by rw [HT.out]; simp [sumStep]⟩
      case measure => simp [intOf]; omega
    · go_wp2
      go_ret
      exact ⟨by rw [show k = xs.length by omega, List.take_length]; rfl, rfl⟩

theorem sumOn_start (C : Nat) (w : World) (v : Value) (xs : List Int) (hx : ∀ c ∈ xs, 0 ≤ c ∧ c ≤ 255) (hl : xs.length ≤ 2097152) (hr : Rd C w v (xs.map (Value.int .u8))) :
    Calls Tryz.prog 28 #[.int .u32 2166136261, v] w fun e w' => e = .returned (.int .u32 ((sumF 2166136261 xs : Nat) : Int)) ∧ w' = w := by
  have h := sumOn_any C w v xs 2166136261 (by decide) hx hl hr
  rwa [show ((2166136261 : Nat) : Int) = 2166136261 from rfl] at h

set_option maxHeartbeats 400000 in
theorem sum32_any (C : Nat) (w : World) (v : Value) (xs : List Int) (hx : ∀ c ∈ xs, 0 ≤ c ∧ c ≤ 255) (hl : xs.length ≤ 1048576) (hr : Rd C w v (xs.map (Value.int .u8))) :
    Calls Tryz.prog 38 #[v] w fun e w' => e = .returned (.int .i64 ((sumF 2166136261 xs : Nat) : Int)) ∧ w' = w := by
  obtain ⟨ao, cap, rfl, _, _, _, hr⟩ := hr
  rw [List.length_map] at hr ⊢
  go_enter Tryz.func38, Tryz.ntmps38
  go_wp2
  go_loop [3, 4] (fun t i => ∃ k : Nat, k ≤ xs.length ∧ i = .int .i64 k ∧ t = .int .i64 ((sumF 2166136261 (xs.take k) : Nat) : Int)) (fun _ i => xs.length - (intOf i).toNat)
  case atStart => exact ⟨0, Nat.zero_le _, rfl, rfl⟩
  case round =>
    obtain ⟨k, hk, rfl, rfl⟩ := hrel
    by_cases hlt : k < xs.length
    · obtain ⟨g, off, rfl, _, hc⟩ := hr (by omega)
      have c1 := hc k (.int .u8 xs[k]) (by simp [hlt])
      obtain ⟨hb0, hb1⟩ := hx xs[k] (List.getElem_mem hlt)
      have hS := sumF_lt (xs.take k) (h := 2166136261) (by decide)
      have hxr := xor_i64 hS hb0 hb1
      have hxl := xor_lt hS hb0 hb1
      have HT : Hid _ := sumF_take 2166136261 xs k hlt
      generalize sumF 2166136261 (xs.take k) = T at hS hxr hxl HT ⊢
      clear hc hr
      go_wp2
      go_round
      case rel => exact ⟨k + 1, by omega, by go_num, by rw [HT.out]; simp [sumStep]⟩
      case measure => simp [intOf]; omega
    · go_wp2
      go_ret
      exact ⟨by rw [show k = xs.length by omega, List.take_length]; rfl, rfl⟩

/-- The four bytes of a number below 2 to the 32, the highest first. -/
def four (n : Nat) : List Int := [((n / 16777216 : Nat) : Int), ((n / 65536 % 256 : Nat) : Int), ((n / 256 % 256 : Nat) : Int), ((n % 256 : Nat) : Int)]
theorem four_bytes {n : Nat} (h : n < 4294967296) : ∀ c ∈ four n, 0 ≤ c ∧ c ≤ 255 := by
  intro c hc
  simp only [four, List.mem_cons, List.not_mem_nil, or_false] at hc
  rcases hc with rfl | rfl | rfl | rfl <;> omega

set_option maxHeartbeats 400000 in
theorem l01Four_any (n : Nat) (hn : n < 4294967296) (w : World) :
    Calls Tryz.prog 37 #[.int .i64 (n : Int)] w fun e w' => ∃ r, e = .returned r ∧ Own 5 w' w.heap.size r ((four n).map (Value.int .u8)) ∧ Below w.heap.size w w' := by
  go_enter Tryz.func37, Tryz.ntmps37
  go_wp2
  go_ret
  refine ⟨_, rfl, ?_, (Below.refl _ _).alloc (Nat.le_refl _) _⟩
  exact own_lit w 5 _ 4 rfl (by decide)

set_option maxHeartbeats 400000 in
theorem appendSum_any (B : Nat) (w : World) (v : Value) (xs : List Int) (n : Nat) (hn : n < 4294967296) (hx : xs.length ≤ 1048576) (hB : B ≤ w.heap.size) (ho : Own 5 w B v (xs.map (Value.int .u8))) :
    Calls Tryz.prog 27 #[v, .int .u32 (n : Int)] w fun e w' => ∃ r, e = .returned r ∧ Own 5 w' B r ((xs ++ four n).map (Value.int .u8)) ∧ Below B w w' := by
  obtain ⟨i0, hi, hz0, hz1, hz2⟩ := info_parts info5
  have hol : Rd (w.alloc (.cells #[.int .u8 ((n : Int) / 16777216), .int .u8 ((n : Int) / 65536 % 256), .int .u8 ((n : Int) / 256 % 256), .int .u8 ((n : Int) % 256)] 5)).heap.size (w.alloc (.cells #[.int .u8 ((n : Int) / 16777216), .int .u8 ((n : Int) / 65536 % 256), .int .u8 ((n : Int) / 256 % 256), .int .u8 ((n : Int) % 256)] 5)) (.slice (some ⟨w.heap.size, 0, none⟩) 4 4) ((four n).map (Value.int .u8)) := (own_lit w 5 ((four n).map (Value.int .u8)) 4 rfl (by decide)).rd
  have hbl : Below B w (w.alloc (.cells #[.int .u8 ((n : Int) / 16777216), .int .u8 ((n : Int) / 65536 % 256), .int .u8 ((n : Int) / 256 % 256), .int .u8 ((n : Int) % 256)] 5)) := (Below.refl _ _).alloc hB _
  have hln : (four n).length = 4 := rfl
  go_enter Tryz.func27, Tryz.ntmps27
  go_wp2_with (at_builtin; refine wpList_append_rd rfl (.tmp 5) (.tmp 17) 22 rfl B 5 i0 (.int .u8 0) 1 Tryz.underlying22 hi hz0 hz1 hz2 rfl _ _ rfl (World.ownsRow.alloc ho _) _ _ ((four n).map (Value.int .u8)) rfl hol (ints_oneCell _ _) (by simp [maxLen]; omega) (by simp; omega) (by simp; omega) ?_)
  intro v1 w1 ho1 hg1
  have hb1 : Below B w w1 := hbl.grown hg1 (by simp; omega) ho.lt
  clear hg1 hol hbl
  go_wp2_with fail
  go_ret
  exact ⟨_, rfl, by simpa using ho1, hb1⟩
end Go.Proofs.YtmmkmkaannlkhaaGreatDoor

namespace Go.Proofs.YtmmkmkaannlkhaaGreatDoor
open Go.RowKit
set_option linter.unusedVariables false

/-- The text of these bytes. -/
def ofInts (xs : List Int) : ByteArray := ⟨(xs.map fun n => UInt8.ofNat n.toNat).toArray⟩

theorem push_all (xs : List Int) : ∀ s : ByteArray, xs.foldl (fun r n => r.push (UInt8.ofNat n.toNat)) s = ⟨(s.data.toList ++ xs.map fun n => UInt8.ofNat n.toNat).toArray⟩ := by
  induction xs with
  | nil => intro s; simp
  | cons x xs ih =>
    intro s
    rw [List.foldl_cons, ih]
    simp [ByteArray.push]

theorem run_string_of {C : Nat} {w : World} {v : Value} {xs : List Int} (hr : Rd C w v (xs.map (Value.int .u8))) : (convert 22 9 v).run Tryz.prog w = .ok (.string (ofInts xs)) w := by
  obtain ⟨ao, cap, rfl, hcap, hmax, hnil, hr⟩ := hr
  rw [run_convert_bytes_string w 22 9 5 ao _ cap Tryz.underlying22 Tryz.underlying5 Tryz.underlying9]
  cases ao with
  | none =>
    have hx : xs = [] := by
      cases xs with
      | nil => rfl
      | cons x xs => have := hnil rfl; simp at hcap; omega
    subst hx
    rfl
  | some a =>
    rw [run_bytesToString (P := Tryz.prog) w a _ cap xs, push_all]
    · rfl
    · refine run_loadCells_list (P := Tryz.prog) w a _ (fun j u hj => ?_)
      have hj1 := (List.getElem?_eq_some_iff.1 hj).1
      obtain ⟨g, off, e, _, hc⟩ := hr (by omega)
      cases e
      rw [Addr.add_lit]
      exact hc j u hj
end Go.Proofs.YtmmkmkaannlkhaaGreatDoor

namespace Go.Proofs.YtmmkmkaannlkhaaGreatDoor
open Go.RowKit
set_option linter.unusedVariables false

/-- What is read is what was written. -/
theorem getF_enc (xs : List Int) (hx : Bytes xs) : ∀ f i p v a q, getF xs f i p v = some (a, q) → ∃ m : Nat, a = v + (m : Int) * 128 ^ i ∧ (0 < i → 0 < m) ∧ xs.drop p = enc m ++ xs.drop q := by
  intro f
  induction f with
  | zero => intro i p v a q h; simp [getF] at h
  | succ f ih =>
    intro i p v a q h
    by_cases hp : p < xs.length
    · have hb := hx xs[p] (List.getElem_mem hp)
      by_cases hc : xs[p] < 128
      · rw [getF_last hp hc] at h
        split at h
        · simp at h
        · rename_i hn
          simp only [Option.some.injEq, Prod.mk.injEq] at h
          obtain ⟨rfl, rfl⟩ := h
          obtain ⟨m, hm⟩ := Int.eq_ofNat_of_zero_le hb.1
          refine ⟨m, by rw [hm], fun hi => by omega, ?_⟩
          rw [enc_small (by omega), ← hm, List.drop_eq_getElem_cons hp]
          rfl
      · rw [getF_more hp hc] at h
        obtain ⟨m, hm, hpos, hd⟩ := ih _ _ _ _ _ h
        have hm0 := hpos (by omega)
        obtain ⟨c, hcn⟩ := Int.eq_ofNat_of_zero_le hb.1
        have e : 128 ≤ (c - 128) + 128 * m := by omega
        refine ⟨(c - 128) + 128 * m, ?_, fun _ => by omega, ?_⟩
        · rw [hm, pow_step]
          have e1 : xs[p] % 128 = ((c - 128 : Nat) : Int) := by omega
          rw [e1]
          have e2 : (((c - 128) + 128 * m : Nat) : Int) = ((c - 128 : Nat) : Int) + 128 * (m : Int) := by omega
          rw [e2, Int.add_mul, Int.mul_comm 128 (m : Int), Int.mul_assoc, Int.mul_comm 128 ((128 : Int) ^ i), Int.add_assoc]
        · rw [enc_big e, List.drop_eq_getElem_cons hp, hd]
          have e1 : ((c - 128) + 128 * m) / 128 = m := by omega
          have e2 : ((c - 128) + 128 * m) % 128 + 128 = c := by omega
          rw [e1, e2, ← hcn]
          rfl
    · rw [getF_end (by omega)] at h; simp at h
theorem getL_enc {xs : List Int} (hx : Bytes xs) {p q : Nat} {a : Int} (h : getL xs p = some (a, q)) : xs.drop p = enc a.toNat ++ xs.drop q := by
  obtain ⟨m, hm, _, hd⟩ := getF_enc xs hx 9 0 p 0 a q h
  have : a.toNat = m := by rw [hm]; simp
  rw [this]
  exact hd
/-- Numbers are told from what stands behind them. -/
theorem enc_inj (k : Nat) : ∀ a b x y, a ≤ k → enc a ++ x = enc b ++ y → a = b ∧ x = y := by
  induction k with
  | zero =>
    intro a b x y ha h
    obtain rfl : a = 0 := by omega
    by_cases hb : b < 128
    · rw [enc_small (by omega), enc_small hb] at h
      simp only [List.cons_append, List.nil_append, List.cons.injEq] at h
      exact ⟨by omega, h.2⟩
    · rw [enc_small (by omega), enc_big (by omega)] at h
      simp only [List.cons_append, List.nil_append, List.cons.injEq] at h
      omega
  | succ k ih =>
    intro a b x y ha h
    by_cases h1 : a < 128
    · by_cases hb : b < 128
      · rw [enc_small h1, enc_small hb] at h
        simp only [List.cons_append, List.nil_append, List.cons.injEq] at h
        exact ⟨by omega, h.2⟩
      · rw [enc_small h1, enc_big (by omega)] at h
        simp only [List.cons_append, List.nil_append, List.cons.injEq] at h
        omega
    · by_cases hb : b < 128
      · rw [enc_big (by omega), enc_small hb] at h
        simp only [List.cons_append, List.nil_append, List.cons.injEq] at h
        omega
      · rw [enc_big (n := a) (by omega), enc_big (n := b) (by omega)] at h
        simp only [List.cons_append, List.cons.injEq] at h
        obtain ⟨e1, e2⟩ := ih (a / 128) (b / 128) x y (by omega) h.2
        exact ⟨by omega, e2⟩
theorem enc_same {a b : Nat} {x y : List Int} (h : enc a ++ x = enc b ++ y) : a = b ∧ x = y := enc_inj a a b x y (Nat.le_refl _) h
theorem enc_bytes (k : Nat) : ∀ n, n ≤ k → ∀ c ∈ enc n, 0 ≤ c ∧ c ≤ 255 := by
  induction k with
  | zero =>
    intro n hn c hc
    rw [enc_small (by omega)] at hc
    simp at hc
    omega
  | succ k ih =>
    intro n hn c hc
    by_cases h : n < 128
    · rw [enc_small h] at hc
      simp at hc
      omega
    · rw [enc_big (by omega)] at hc
      rcases List.mem_cons.1 hc with rfl | hc
      · omega
      · exact ih (n / 128) (by omega) c hc
theorem Bytes.enc (n : Nat) : Bytes (enc n) := enc_bytes n n (Nat.le_refl _)
theorem Bytes.app {a b : List Int} (ha : Bytes a) (hb : Bytes b) : Bytes (a ++ b) := fun c hc => by
  rcases List.mem_append.1 hc with h | h
  · exact ha c h
  · exact hb c h
theorem putRF_bytes (ls : List Int) : ∀ f i, Bytes (putRF ls f i) := by
  intro f
  induction f with
  | zero => intro i c hc; simp [putRF] at hc
  | succ f ih =>
    intro i
    simp only [putRF]
    split
    · refine Bytes.app ?_ (ih _)
      unfold runPiece
      refine Bytes.app (Bytes.app (Bytes.enc _) (Bytes.enc _)) ?_
      split
      · exact Bytes.enc _
      · intro c hc; simp at hc
    · intro c hc; simp at hc
theorem putR_bytes (ls : List Int) : Bytes (putR ls) := Bytes.app (Bytes.enc _) (putRF_bytes ls _ _)
theorem ofInts_inj {a b : List Int} (ha : Bytes a) (hb : Bytes b) (h : ofInts a = ofInts b) : a = b := by
  have h1 : (a.map fun n => UInt8.ofNat n.toNat) = (b.map fun n => UInt8.ofNat n.toNat) := by
    have := congrArg (fun s : ByteArray => s.data.toList) h
    simpa [ofInts] using this
  induction a generalizing b with
  | nil => cases b with
    | nil => rfl
    | cons y b => simp at h1
  | cons x a ih => cases b with
    | nil => simp at h1
    | cons y b =>
      simp only [List.map_cons, List.cons.injEq] at h1
      have hx := ha x (by simp)
      have hy := hb y (by simp)
      have e : x = y := by
        have := congrArg UInt8.toNat h1.1
        simp only [UInt8.toNat_ofNat'] at this
        omega
      rw [e, ih (b := b) (fun c hc => ha c (by simp [hc])) (fun c hc => hb c (by simp [hc])) (by unfold ofInts; rw [h1.2]) h1.2]

/-- The amount that a number tells. -/
def unf (x : Int) : Int := if x % 2 = 1 then -((x + 1) / 2) else x / 2
theorem foldS_unf {x : Int} (h : 0 ≤ x) : foldS (unf x) = x.toNat := by
  unfold foldS unf
  split <;> split <;> omega
theorem unf_bd {x : Int} (h0 : 0 ≤ x) (h1 : x ≤ 4611686018427387903) : -2305843009213693952 ≤ unf x ∧ unf x ≤ 2305843009213693952 := by
  unfold unf
  split <;> omega
/-- The numbers of a run. -/
def valsF : Nat → Int → Int → List Int
  | 0, _, _ => []
  | k + 1, v, d => v :: valsF k (v + d) d
def okV : Nat → Int → Int → Bool
  | 0, _, _ => true
  | k + 1, v, d => decide (0 ≤ v ∧ v ≤ 1152921504606846975) && okV k (v + d) d
theorem valsF_len (k : Nat) : ∀ v d, (valsF k v d).length = k := by
  induction k with
  | zero => intro v d; rfl
  | succ k ih => intro v d; simp [valsF, ih]
theorem valsF_nth (k : Nat) : ∀ v d T j, j < k → nth (valsF k v d ++ T) j = v + (j : Int) * d := by
  induction k with
  | zero => intro v d T j h; omega
  | succ k ih =>
    intro v d T j h
    cases j with
    | zero => simp [valsF, nth]
    | succ j =>
      have := ih (v + d) d T j (by omega)
      unfold nth at this ⊢
      simp only [valsF, List.cons_append, List.getD_cons_succ]
      rw [this, Int.natCast_succ, Int.add_mul, Int.one_mul]
      omega
theorem okV_all (k : Nat) : ∀ v d, okV k v d = true → runsOK (valsF k v d) = true := by
  induction k with
  | zero => intro v d h; rfl
  | succ k ih =>
    intro v d h
    simp only [okV, Bool.and_eq_true] at h
    have := ih (v + d) d h.2
    unfold runsOK at this ⊢
    simp only [valsF, List.all_cons, Bool.and_eq_true]
    exact ⟨h.1, this⟩
theorem runsOK_app {a b : List Int} (ha : runsOK a = true) (hb : runsOK b = true) : runsOK (a ++ b) = true := by
  unfold runsOK at ha hb ⊢
  rw [List.all_append, ha, hb]
  rfl

/-- One run at a place: its first number, how many, the amount, the place behind it. -/
def oneRun (xs : List Int) (p left : Nat) : Option (Int × Nat × Int × Nat) := match getL xs p with
  | none => none
  | some (v, p1) => match getL xs p1 with
    | none => none
    | some (k, p2) => if k.toNat < 1 ∨ left < k.toNat ∨ 1152921504606846975 < v then none else
      if k.toNat = 1 then some (v, 1, 0, p2) else match getL xs p2 with
        | none => none
        | some (x, p3) => if okV k.toNat v (unf x) = true then some (v, k.toNat, unf x, p3) else none
/-- The bytes of a run. -/
def encRun (v : Int) (k : Nat) (d : Int) : List Int := enc v.toNat ++ enc k ++ (if 1 < k then enc (foldS d) else [])
theorem oneRun_ok {xs : List Int} (hx : Bytes xs) {p left k q : Nat} {v d : Int} (h : oneRun xs p left = some (v, k, d, q)) :
    1 ≤ k ∧ k ≤ left ∧ q ≤ xs.length ∧ okV k v d = true ∧ xs.drop p = encRun v k d ++ xs.drop q ∧ 0 ≤ v := by
  unfold oneRun at h
  cases h1 : getL xs p with
  | none => rw [h1] at h; simp at h
  | some z =>
    obtain ⟨a, p1⟩ := z
    rw [h1] at h
    simp only at h
    cases h2 : getL xs p1 with
    | none => rw [h2] at h; simp at h
    | some z =>
      obtain ⟨b, p2⟩ := z
      rw [h2] at h
      simp only at h
      have o1 := getL_ok hx h1
      have o2 := getL_ok hx h2
      have e1 := getL_enc hx h1
      have e2 := getL_enc hx h2
      split at h
      · simp at h
      · rename_i hb
        split at h
        · rename_i hk1
          simp only [Option.some.injEq, Prod.mk.injEq] at h
          obtain ⟨rfl, rfl, rfl, rfl⟩ := h
          refine ⟨by omega, by omega, o2.2.2.2, by simp [okV]; omega, ?_, o1.1⟩
          rw [e1, e2, hk1]
          simp [encRun]
        · rename_i hk1
          cases h3 : getL xs p2 with
          | none => rw [h3] at h; simp at h
          | some z =>
            obtain ⟨c, p3⟩ := z
            rw [h3] at h
            simp only at h
            have o3 := getL_ok hx h3
            have e3 := getL_enc hx h3
            split at h
            · rename_i hok
              simp only [Option.some.injEq, Prod.mk.injEq] at h
              obtain ⟨rfl, rfl, rfl, rfl⟩ := h
              refine ⟨by omega, by omega, o3.2.2.2, hok, ?_, o1.1⟩
              rw [e1, e2, e3]
              unfold encRun
              rw [if_pos (by omega), foldS_unf o3.1]
              simp
            · simp at h

/-- The numbers from a place on, as the specification reads them; and with the code's own tests. -/
def parseS (xs : List Int) : Nat → Nat → Nat → Option (List Int × Nat)
  | 0, left, p => if left = 0 then some ([], p) else none
  | f + 1, left, p => if left = 0 then some ([], p) else match oneRun xs p left with
    | none => none
    | some (v, k, d, q) => match parseS xs f (left - k) q with
      | none => none
      | some (T, r) => some (valsF k v d ++ T, r)
def oneRunI (xs : List Int) (p left : Nat) (prev : Option Int) : Option (Int × Nat × Int × Nat) := match oneRun xs p left with
  | none => none
  | some (v, k, d, q) => if (k = 1 ∧ left ≠ 1) ∨ prev = some v then none else some (v, k, d, q)
def parseI (xs : List Int) : Nat → Nat → Nat → Option Int → Option (List Int × Nat)
  | 0, left, p, _ => if left = 0 then some ([], p) else none
  | f + 1, left, p, prev => if left = 0 then some ([], p) else match oneRunI xs p left prev with
    | none => none
    | some (v, k, d, q) => match parseI xs f (left - k) q (some (v + (k : Int) * d)) with
      | none => none
      | some (T, r) => some (valsF k v d ++ T, r)

theorem parseS_ok {xs : List Int} (hx : Bytes xs) : ∀ f left p T q, p ≤ xs.length → parseS xs f left p = some (T, q) → T.length = left ∧ runsOK T = true ∧ q ≤ xs.length := by
  intro f
  induction f with
  | zero =>
    intro left p T q hp h
    simp only [parseS] at h
    split at h
    · simp only [Option.some.injEq, Prod.mk.injEq] at h
      obtain ⟨rfl, rfl⟩ := h
      exact ⟨by simp; omega, rfl, hp⟩
    · simp at h
  | succ f ih =>
    intro left p T q hp h
    simp only [parseS] at h
    split at h
    · simp only [Option.some.injEq, Prod.mk.injEq] at h
      obtain ⟨rfl, rfl⟩ := h
      exact ⟨by simp; omega, rfl, hp⟩
    · cases h1 : oneRun xs p left with
      | none => rw [h1] at h; simp at h
      | some z =>
        obtain ⟨v, k, d, q1⟩ := z
        rw [h1] at h
        simp only at h
        have ho := oneRun_ok hx h1
        cases h2 : parseS xs f (left - k) q1 with
        | none => rw [h2] at h; simp at h
        | some z =>
          obtain ⟨T1, r⟩ := z
          rw [h2] at h
          simp only [Option.some.injEq, Prod.mk.injEq] at h
          obtain ⟨rfl, rfl⟩ := h
          obtain ⟨i1, i2, i3⟩ := ih _ _ _ _ ho.2.2.1 h2
          refine ⟨by rw [List.length_append, valsF_len, i1]; omega, runsOK_app (okV_all _ _ _ ho.2.2.2.1) i2, i3⟩
theorem parseI_S {xs : List Int} : ∀ f left p prev r, parseI xs f left p prev = some r → parseS xs f left p = some r := by
  intro f
  induction f with
  | zero => intro left p prev r h; exact h
  | succ f ih =>
    intro left p prev r h
    simp only [parseI, oneRunI] at h
    simp only [parseS]
    split at h
    · rename_i h0; rw [if_pos h0]; exact h
    · rename_i h0
      rw [if_neg h0]
      cases h1 : oneRun xs p left with
      | none => rw [h1] at h; simp at h
      | some z =>
        obtain ⟨v, k, d, q1⟩ := z
        rw [h1] at h
        simp only at h ⊢
        split at h
        · simp at h
        · rename_i heq
          split at heq
          · simp at heq
          · simp only [Option.some.injEq, Prod.mk.injEq] at heq
            obtain ⟨rfl, rfl, rfl, rfl⟩ := heq
            cases h2 : parseI xs f (left - k) q1 (some (v + (k : Int) * d)) with
            | none => rw [h2] at h; simp at h
            | some z =>
              rw [h2] at h
              rw [ih _ _ _ _ h2]
              exact h

/-- Where a run of equal amounts ends. -/
theorem ext_to (ls : List Int) (m : Nat) : ∀ f j, (∀ t, j ≤ t → t < j + m → goesOn ls 0 t = true) → goesOn ls 0 (j + m) = false → ls.length - j ≤ f → extF ls 0 f j = m := by
  induction m with
  | zero =>
    intro f j _ h hf
    cases f with
    | zero => rfl
    | succ f => rw [extF, if_neg (by rw [Nat.add_zero] at h; rw [h]; decide)]
  | succ m ih =>
    intro f j ha h hf
    have h1 := ha j (Nat.le_refl _) (by omega)
    have := goesOn_lt h1
    obtain ⟨f, rfl⟩ : ∃ f', f = f' + 1 := ⟨f - 1, by omega⟩
    rw [extF, if_pos h1, ih f (j + 1) (fun t h1 h2 => ha t (by omega) (by omega)) (by rw [show j + 1 + m = j + (m + 1) by omega]; exact h) (by omega)]
theorem ext_end (ls : List Int) : ∀ f j, ls.length - j ≤ f → goesOn ls 0 (j + extF ls 0 f j) = false := by
  intro f
  induction f with
  | zero =>
    intro j h
    cases hg : goesOn ls 0 (j + extF ls 0 0 j) with
    | false => rfl
    | true => have := goesOn_lt hg; simp only [extF] at this; omega
  | succ f ih =>
    intro j h
    simp only [extF]
    split
    · have := ih (j + 1) (by omega)
      rw [show j + (extF ls 0 f (j + 1) + 1) = j + 1 + extF ls 0 f (j + 1) by omega]
      exact this
    · rename_i hg; simpa using hg
theorem runEnd_stop (ls : List Int) : goesOn ls 0 (runEnd ls 0) = false := by
  unfold runEnd
  exact ext_end ls ls.length (0 + 1) (by omega)

theorem putRF_enough (ls : List Int) : ∀ f f' i, ls.length - i ≤ f → ls.length - i ≤ f' → putRF ls f i = putRF ls f' i := by
  intro f
  induction f with
  | zero =>
    intro f' i h h'
    cases f' with
    | zero => rfl
    | succ f' => rw [putRF, putRF, if_neg (by omega)]
  | succ f ih =>
    intro f' i h h'
    cases f' with
    | zero => rw [putRF, putRF, if_neg (by omega)]
    | succ f' =>
      rw [putRF, putRF]
      split
      · rename_i hi
        have := runEnd_bd hi
        rw [ih f' (runEnd ls i) (by omega) (by omega)]
      · rfl
theorem nth_app (a b : List Int) (j : Nat) : nth (a ++ b) (a.length + j) = nth b j := by
  unfold nth
  rw [List.getD_eq_getElem?_getD, List.getD_eq_getElem?_getD, List.getElem?_append_right (by omega), Nat.add_sub_cancel_left]
theorem goesOn_shift (a b : List Int) (i k : Nat) (hk : 1 ≤ k) : goesOn (a ++ b) (a.length + i) (a.length + k) = goesOn b i k := by
  have e : ∀ j, nth (a ++ b) (a.length + j) = nth b j := nth_app a b
  unfold goesOn
  rw [show a.length + k - 1 = a.length + (k - 1) by omega, show a.length + i + 1 = a.length + (i + 1) by omega, e, e, e, e, List.length_append]
  rw [show decide (a.length + k < a.length + b.length) = decide (k < b.length) from decide_eq_decide.2 (by omega), show decide (a.length + k = a.length + (i + 1)) = decide (k = i + 1) from decide_eq_decide.2 (by omega)]
theorem ext_shift (a b : List Int) (i : Nat) : ∀ f k, 1 ≤ k → extF (a ++ b) (a.length + i) f (a.length + k) = extF b i f k := by
  intro f
  induction f with
  | zero => intro k _; rfl
  | succ f ih =>
    intro k hk
    rw [extF, extF, goesOn_shift a b i k hk, show a.length + k + 1 = a.length + (k + 1) by omega, ih (k + 1) (by omega)]
theorem runEnd_shift (a b : List Int) (i : Nat) (h : i < b.length) : runEnd (a ++ b) (a.length + i) = a.length + runEnd b i := by
  unfold runEnd
  rw [show a.length + i + 1 = a.length + (i + 1) by omega, ext_shift a b i _ (i + 1) (by omega), ext_enough b i (a ++ b).length b.length (i + 1) (by simp; omega) (by omega)]
  omega
theorem putRF_shift (a b : List Int) : ∀ f i, putRF (a ++ b) f (a.length + i) = putRF b f i := by
  intro f
  induction f with
  | zero => intro i; rfl
  | succ f ih =>
    intro i
    rw [putRF, putRF]
    by_cases hi : i < b.length
    · rw [if_pos (by simp; omega), if_pos hi, runEnd_shift a b i hi, ih]
      congr 1
      have e : ∀ j, nth (a ++ b) (a.length + j) = nth b j := nth_app a b
      unfold runPiece
      rw [show a.length + i + 1 = a.length + (i + 1) by omega, e, e, show a.length + runEnd b i - (a.length + i) = runEnd b i - i by omega]
    · rw [if_neg (by simp; omega), if_neg hi]

/-- What is written of a run and the rest, where the run ends with its numbers. -/
theorem putRF_run {k : Nat} {v d : Int} {T : List Int} (hk : 1 ≤ k) (hE : runEnd (valsF k v d ++ T) 0 = k) : putRF (valsF k v d ++ T) (valsF k v d ++ T).length 0 = encRun v k d ++ putRF T T.length 0 := by
  have hl : (valsF k v d ++ T).length = k + T.length := by rw [List.length_append, valsF_len]
  obtain ⟨f, hf⟩ : ∃ f, k + T.length = f + 1 := ⟨k + T.length - 1, by omega⟩
  rw [hl, hf, putRF, if_pos (by omega), hE]
  congr 1
  · unfold runPiece encRun
    rw [valsF_nth k v d T 0 (by omega), Nat.sub_zero]
    congr 1
    · simp
    · split
      · rename_i h1
        rw [valsF_nth k v d T 1 h1]
        congr 2
        simp
        omega
      · rfl
  · have := putRF_shift (valsF k v d) T f 0
    rw [valsF_len, Nat.add_zero] at this
    rw [this]
    exact putRF_enough T f T.length 0 (by omega) (by omega)
theorem goesOn_vals {k : Nat} {v d : Int} {T : List Int} {t : Nat} (h1 : 1 ≤ t) (h2 : t < k) : goesOn (valsF k v d ++ T) 0 t = true := by
  have hl : (valsF k v d ++ T).length = k + T.length := by rw [List.length_append, valsF_len]
  unfold goesOn
  by_cases ht : t = 1
  · simp [hl, ht]; omega
  · rw [valsF_nth k v d T t h2, valsF_nth k v d T (t - 1) (by omega), valsF_nth k v d T (0 + 1) (by omega), valsF_nth k v d T 0 (by omega), hl]
    simp only [Bool.and_eq_true, decide_eq_true_eq, Bool.or_eq_true]
    refine ⟨by omega, .inr ?_⟩
    obtain ⟨s, rfl⟩ : ∃ s, t = s + 1 := ⟨t - 1, by omega⟩
    rw [Nat.add_sub_cancel, Int.natCast_succ, Int.add_mul]
    simp
    omega
/-- The numbers are as long a run as can be, or not. -/
theorem runEnd_iff {k : Nat} {v d : Int} {T : List Int} (hk : 1 ≤ k) : runEnd (valsF k v d ++ T) 0 = k ↔ (T = [] ∨ (1 < k ∧ T.head? ≠ some (v + (k : Int) * d))) := by
  have hl : (valsF k v d ++ T).length = k + T.length := by rw [List.length_append, valsF_len]
  have hg : ∀ x T', T = x :: T' → (goesOn (valsF k v d ++ T) 0 k = true ↔ (k = 1 ∨ x = v + (k : Int) * d)) := by
    intro x T' hT
    unfold goesOn
    have e1 : nth (valsF k v d ++ T) k = x := by
      have := nth_app (valsF k v d) T 0
      rw [valsF_len, Nat.add_zero] at this
      rw [this, hT]
      rfl
    rw [e1, hl, valsF_nth k v d T (k - 1) (by omega), valsF_nth k v d T 0 (by omega)]
    by_cases h1 : k = 1
    · simp [h1, hT]
    · rw [valsF_nth k v d T (0 + 1) (by omega)]
      obtain ⟨s, rfl⟩ : ∃ s, k = s + 1 := ⟨k - 1, by omega⟩
      have e : ((s + 1 : Nat) : Int) * d = (s : Int) * d + d := by rw [Int.natCast_succ, Int.add_mul, Int.one_mul]
      rw [Nat.add_sub_cancel, e]
      simp [hT]
      omega
  constructor
  · intro h
    cases hT : T with
    | nil => exact .inl rfl
    | cons x T' =>
      right
      have h1 := runEnd_stop (valsF k v d ++ T)
      rw [h] at h1
      have h2 := hg x T' hT
      rw [h1] at h2
      simp only [Bool.false_eq_true, false_iff, not_or] at h2
      exact ⟨by omega, by simpa using h2.2⟩
  · intro h
    unfold runEnd
    have hstop : goesOn (valsF k v d ++ T) 0 k = false := by
      cases hT : T with
      | nil => unfold goesOn; rw [← hT, hl, hT]; simp
      | cons x T' =>
        have h2 := hg x T' hT
        rw [← hT]
        cases hgo : goesOn (valsF k v d ++ T) 0 k with
        | false => rfl
        | true =>
          have := h2.1 hgo
          rcases h with h | ⟨h3, h4⟩
          · rw [hT] at h; simp at h
          · rw [hT] at h4
            simp at h4
            omega
    have := ext_to (valsF k v d ++ T) (k - 1) (valsF k v d ++ T).length (0 + 1) (fun t h1 h2 => goesOn_vals (by omega) (by omega)) (by rw [show 0 + 1 + (k - 1) = k by omega]; exact hstop) (by omega)
    rw [this]
    omega

theorem parseI_iff {xs : List Int} (hx : Bytes xs) : ∀ f left p prev T q, p ≤ xs.length → parseS xs f left p = some (T, q) →
    (parseI xs f left p prev = some (T, q) ↔ (xs.drop p = putRF T T.length 0 ++ xs.drop q ∧ ∀ x, prev = some x → T.head? ≠ some x)) := by
  intro f
  induction f with
  | zero =>
    intro left p prev T q hp h
    have h' := h
    simp only [parseS] at h
    split at h
    · simp only [Option.some.injEq, Prod.mk.injEq] at h
      obtain ⟨rfl, rfl⟩ := h
      refine ⟨fun _ => ⟨by simp [putRF], by simp⟩, fun _ => h'⟩
    · simp at h
  | succ f ih =>
    intro left p prev T q hp h
    simp only [parseS] at h
    split at h
    · rename_i h0
      simp only [Option.some.injEq, Prod.mk.injEq] at h
      obtain ⟨rfl, rfl⟩ := h
      refine ⟨fun _ => ⟨by simp [putRF], by simp⟩, fun _ => by simp [parseI, h0]⟩
    · rename_i h0
      cases h1 : oneRun xs p left with
      | none => rw [h1] at h; simp at h
      | some z =>
        obtain ⟨v, k, d, q1⟩ := z
        rw [h1] at h
        simp only at h
        obtain ⟨o1, o2, o3, o4, o5, o6⟩ := oneRun_ok hx h1
        cases h2 : parseS xs f (left - k) q1 with
        | none => rw [h2] at h; simp at h
        | some z =>
          obtain ⟨T1, r⟩ := z
          rw [h2] at h
          simp only [Option.some.injEq, Prod.mk.injEq] at h
          obtain ⟨rfl, rfl⟩ := h
          have hT := (parseS_ok hx f _ _ _ _ o3 h2).1
          have hI := ih (left - k) q1 (some (v + (k : Int) * d)) T1 r o3 h2
          have hhead : (valsF k v d ++ T1).head? = some v := by
            obtain ⟨s, rfl⟩ : ∃ s, k = s + 1 := ⟨k - 1, by omega⟩
            simp [valsF]
          have hsh : parseI xs (f + 1) left p prev = some (valsF k v d ++ T1, r) ↔ (¬ ((k = 1 ∧ left ≠ 1) ∨ prev = some v) ∧ parseI xs f (left - k) q1 (some (v + (k : Int) * d)) = some (T1, r)) := by
            simp only [parseI, oneRunI, h1, if_neg h0]
            by_cases hc : (k = 1 ∧ left ≠ 1) ∨ prev = some v
            · simp [hc]
            · simp only [hc, if_false, not_false_eq_true, true_and]
              cases h3 : parseI xs f (left - k) q1 (some (v + (k : Int) * d)) with
              | none => simp
              | some z =>
                obtain ⟨T2, r2⟩ := z
                simp
          rw [hsh, hI, hhead, o5]
          constructor
          · rintro ⟨hc, hd, hh⟩
            refine ⟨?_, fun x hx' => by intro h; simp at h; exact hc (.inr (by rw [hx', h]))⟩
            have hE : runEnd (valsF k v d ++ T1) 0 = k := (runEnd_iff o1).2 (by
              by_cases hT1 : T1 = []
              · exact .inl hT1
              · refine .inr ⟨?_, hh _ rfl⟩
                have : T1.length ≠ 0 := fun h => hT1 (List.eq_nil_of_length_eq_zero h)
                omega)
            rw [putRF_run o1 hE, hd, List.append_assoc]
          · rintro ⟨hd, hh⟩
            have hE : runEnd (valsF k v d ++ T1) 0 = k := by
              have hl : (valsF k v d ++ T1).length = k + T1.length := by rw [List.length_append, valsF_len]
              obtain ⟨g, hg⟩ : ∃ g, k + T1.length = g + 1 := ⟨k + T1.length - 1, by omega⟩
              rw [hl, hg, putRF, if_pos (by omega)] at hd
              unfold runPiece encRun at hd
              simp only [List.append_assoc] at hd
              have e2 := (enc_same (enc_same hd).2).1
              omega
            rw [putRF_run o1 hE, List.append_assoc] at hd
            have hd' := List.append_cancel_left hd
            have hiff := (runEnd_iff (T := T1) o1).1 hE
            refine ⟨?_, hd', ?_⟩
            · rintro (⟨h1, h2⟩ | h1)
              · rcases hiff with h | h
                · subst h; simp at hT; omega
                · omega
              · exact hh v h1 rfl
            · intro x hx' h
              cases hx'
              rcases hiff with h3 | h3
              · subst h3; simp at h
              · exact h3.2 h

/-- The numbers, and the place behind them, as the specification reads them. -/
def runsL (xs : List Int) : Option (List Int × Nat) := match getL xs 0 with
  | none => none
  | some (n, p) => if 4096 < n then none else parseS xs n.toNat n.toNat p
/-- What the specification's GetRuns answers; and the code's. -/
def getRuns (xs : List Int) : Option (List Int) := match runsL xs with
  | none => none
  | some (T, q) => if q = xs.length ∧ putR T = xs then some T else none
def getRunsI (xs : List Int) : Option (List Int) := match getL xs 0 with
  | none => none
  | some (n, p) => if 4096 < n then none else match parseI xs n.toNat n.toNat p none with
    | none => none
    | some (T, q) => if q = xs.length then some T else none
theorem getRuns_same {xs : List Int} (hx : Bytes xs) : getRunsI xs = getRuns xs := by
  unfold getRunsI getRuns runsL
  cases h0 : getL xs 0 with
  | none => rfl
  | some z =>
    obtain ⟨n, p⟩ := z
    simp only
    have o := getL_ok hx h0
    have e := getL_enc hx h0
    rw [List.drop_zero] at e
    by_cases h4 : 4096 < n
    · rw [if_pos h4, if_pos h4]
    · rw [if_neg h4, if_neg h4]
      cases h1 : parseS xs n.toNat n.toNat p with
      | none =>
        cases h2 : parseI xs n.toNat n.toNat p none with
        | none => rfl
        | some r => rw [parseI_S _ _ _ _ _ h2] at h1; simp at h1
      | some z =>
        obtain ⟨T, q⟩ := z
        have hiff := parseI_iff hx _ _ _ none _ _ o.2.2.2 h1
        have hT := (parseS_ok hx _ _ _ _ _ o.2.2.2 h1).1
        simp only
        by_cases hq : q = xs.length
        · subst hq
          rw [List.drop_length, List.append_nil] at hiff
          by_cases hp : putR T = xs
          · rw [if_pos ⟨rfl, hp⟩]
            have : xs.drop p = putRF T T.length 0 := by
              have h3 : enc n.toNat ++ putRF T T.length 0 = enc n.toNat ++ xs.drop p := by
                rw [← e]
                unfold putR at hp
                rw [hT] at hp ⊢
                exact hp
              exact (List.append_cancel_left h3).symm
            rw [hiff.2 ⟨this, by simp⟩]
            simp
          · rw [if_neg (by simp [hp])]
            cases h2 : parseI xs n.toNat n.toNat p none with
            | none => rfl
            | some r =>
              exfalso
              have h3 := parseI_S _ _ _ _ _ h2
              rw [h1] at h3
              cases h3
              have h4 := (hiff.1 h2).1
              apply hp
              unfold putR
              rw [hT] at h4 ⊢
              rw [← h4]
              exact e.symm
        · rw [if_neg (by simp [hq])]
          cases h2 : parseI xs n.toNat n.toNat p none with
          | none => rfl
          | some r =>
            have h3 := parseI_S _ _ _ _ _ h2
            rw [h1] at h3
            cases h3
            simp [hq]
end Go.Proofs.YtmmkmkaannlkhaaGreatDoor

namespace Go.Proofs.YtmmkmkaannlkhaaGreatDoor
open Go.RowKit Go.Lib
set_option linter.unusedVariables false

/-- A slice's length. -/
def lenOf : Value → Nat
  | .slice _ n _ => n
  | _ => 0
/-- Numbers that were read, ahead of those still to come. -/
def addTo (out : List Int) : Option (List Int × Nat) → Option (List Int × Nat)
  | none => none
  | some (T, q) => some (out ++ T, q)
/-- What GetRuns answers: numbers and a code. -/
def getRunsB (xs : List Int) : List Int := (getRuns xs).getD []
def getRunsC (xs : List Int) : Int := if (getRuns xs).isSome then 0 else 3
theorem getRuns_no {xs : List Int} (h : getRuns xs = none) : getRunsB xs = [] ∧ getRunsC xs = 3 := by simp [getRunsB, getRunsC, h]
theorem getRuns_yes {xs : List Int} {out : List Int} (h : getRuns xs = some out) : getRunsB xs = out ∧ getRunsC xs = 0 := by simp [getRunsB, getRunsC, h]
theorem runsL_ok {xs T : List Int} {q : Nat} (hx : Bytes xs) (h : runsL xs = some (T, q)) : T.length ≤ 4096 ∧ runsOK T = true := by
  unfold runsL at h
  cases hG : getL xs 0 with
  | none => rw [hG] at h; simp at h
  | some z =>
    obtain ⟨n, p⟩ := z
    rw [hG] at h
    simp only at h
    have o := getL_ok hx hG
    split at h
    · simp at h
    · rename_i h4
      have := parseS_ok hx _ _ _ _ _ o.2.2.2 h
      exact ⟨by omega, this.2.1⟩

end Go.Proofs.YtmmkmkaannlkhaaGreatDoor

namespace Go.Proofs.YtmmkmkaannlkhaaGreatDoor
open Go.RowKit
set_option linter.unusedVariables false

/-- What l01Get answers. -/
def getR (xs : List Int) (p : Nat) (e : Ending) : Prop := match getL xs p with
  | some (a, q) => e = .returned (.tuple #[.int .i64 a, .int .i64 (q : Int), .bool true])
  | none => ∃ a b : Int, e = .returned (.tuple #[.int .i64 a, .int .i64 b, .bool false])

/-- What GetInt answers, of at most MaxBytes bytes. -/
def getI (xs : List Int) (a : Int) : Int × Int × Int := if a < 0 ∨ (xs.length : Int) < a then (0, 0, 1) else match getL xs a.toNat with
  | some (v, q) => (v, (q : Int), 0)
  | none => (0, 0, 3)
theorem getI_out {xs : List Int} {a : Int} (h : a < 0 ∨ (xs.length : Int) < a) : getI xs a = (0, 0, 1) := by unfold getI; rw [if_pos h]
theorem getI_none {xs : List Int} {p : Nat} (h : p ≤ xs.length) (hG : getL xs p = none) : getI xs (p : Int) = (0, 0, 3) := by unfold getI; rw [if_neg (by omega), Int.toNat_natCast, hG]
theorem getI_some {xs : List Int} {p q : Nat} {v : Int} (h : p ≤ xs.length) (hG : getL xs p = some (v, q)) : getI xs (p : Int) = (v, (q : Int), 0) := by unfold getI; rw [if_neg (by omega), Int.toNat_natCast, hG]

end Go.Proofs.YtmmkmkaannlkhaaGreatDoor

namespace Go.Proofs.YtmmkmkaannlkhaaGreatDoor
open Go.RowKit
set_option linter.unusedVariables false

theorem l08Sign_any (d : Int) (w : World) (h0 : -1152921504606846975 ≤ d) (h1 : d ≤ 1152921504606846975) : Calls Tryz.prog 58 #[.int .i64 d] w fun e w' => e = .returned (.int .i64 ((foldS d : Nat) : Int)) ∧ w' = w := by
  by_cases hd : d < 0
  · have e : ((foldS d : Nat) : Int) = -2 * d - 1 := by unfold foldS; rw [if_pos hd]; omega
    rw [e]
    clear e
    go_enter Tryz.func58, Tryz.ntmps58
    go_wp2
    go_ret
    exact ⟨rfl, rfl⟩
  · have e : ((foldS d : Nat) : Int) = 2 * d := by unfold foldS; rw [if_neg hd]; omega
    rw [e]
    clear e
    go_enter Tryz.func58, Tryz.ntmps58
    go_wp2
    go_ret
    exact ⟨rfl, rfl⟩
end Go.Proofs.YtmmkmkaannlkhaaGreatDoor

namespace Go.Proofs.YtmmkmkaannlkhaaGreatDoor
open Go.RowKit
set_option linter.unusedVariables false

/-- Cells that are known, and may be written. -/
def Env (w : World) (L : List (Nat × Value)) : Prop := ∀ p ∈ L, w.cell? ⟨p.1, 0, none⟩ = some p.2 ∧ w.frozen? ⟨p.1, 0, none⟩ = false
theorem cell_ltV {w : World} {a : Addr} {v : Value} (h : w.cell? a = some v) : a.block < w.heap.size := by
  unfold World.cell? at h
  split at h
  · rename_i hb
    exact (Array.getElem?_eq_some_iff.1 hb).1
  all_goals simp at h
theorem Env.lt {w : World} {L : List (Nat × Value)} (h : Env w L) {p : Nat × Value} (hp : p ∈ L) : p.1 < w.heap.size := cell_ltV (h p hp).1
theorem Env.below {w w' : World} {L : List (Nat × Value)} (h : Env w L) (hb : Below w.heap.size w w') : Env w' L := fun p hp =>
  ⟨(hb.cell (p := ⟨p.1, 0, none⟩) (h.lt hp)).trans (h p hp).1, (hb.frozen (p := ⟨p.1, 0, none⟩) (h.lt hp)).trans (h p hp).2⟩
theorem Env.alloc {w : World} {L : List (Nat × Value)} (h : Env w L) (o : Obj) : Env (w.alloc o) L := h.below (below_alloc w o)
theorem Env.add {w : World} {L : List (Nat × Value)} (h : Env w L) (v : Value) (T : TypeId) : Env (w.alloc (.cells #[v] T)) ((w.heap.size, v) :: L) := fun p hp => by
  rcases List.mem_cons.1 hp with rfl | hp
  · exact ⟨cell_made1 (Below.refl _ _), frozen_made (Below.refl _ _) 0⟩
  · exact h.alloc _ p hp
theorem Env.mark {w w' : World} {L : List (Nat × Value)} {row : Option Nat} (h : Env w L) (hg : w.grownBy w' row) (hr : ∀ k, row = some k → ∀ p ∈ L, p.1 ≠ k) : Env w' L := fun p hp =>
  ⟨hg.cell (a := ⟨p.1, 0, none⟩) (h p hp).1 (fun e => hr p.1 e.symm p hp rfl), by
    rw [World.frozen?_of_block (w := w) (hg.block p.1 (h.lt hp) (fun e => hr p.1 e.symm p hp rfl))]
    exact (h p hp).2⟩
theorem Env.set {w : World} {L : List (Nat × Value)} {P : Nat} {u : Value} (h : Env w ((P, u) :: L)) (v : Value) (hn : ∀ p ∈ L, p.1 ≠ P) : Env (w.setCell ⟨P, 0, none⟩ v) ((P, v) :: L) := fun p hp => by
  rcases List.mem_cons.1 hp with rfl | hp
  · exact ⟨World.cell?_setCell_same w _ _ (h (P, u) (by simp)).1, by rw [World.frozen?_setCell]; exact (h (P, u) (by simp)).2⟩
  · have := h p (List.mem_cons_of_mem _ hp)
    refine ⟨?_, by rw [World.frozen?_setCell]; exact this.2⟩
    rw [World.cell?_of_block (w := w) (heap_setCell_other w ⟨P, 0, none⟩ p.1 v (hn p hp))]
    exact this.1
theorem Own.set {e : TypeId} {w : World} {B P : Nat} {v : Value} {cs : List Value} (h : Own e w B v cs) (u : Value) (hp : P < B) : Own e (w.setCell ⟨P, 0, none⟩ u) B v cs := h.apart (grownBy_set w P 0 u) (fun k hk => by cases hk; exact hp)

end Go.Proofs.YtmmkmkaannlkhaaGreatDoor

namespace Go.Proofs.YtmmkmkaannlkhaaGreatDoor
open Go.RowKit
set_option linter.unusedVariables false

theorem intsOne (zs : List Int) : ∀ u ∈ zs.map (Value.int .i64), u.oneCell' = true := by
  intro u hu
  obtain ⟨z, _, rfl⟩ := List.mem_map.1 hu
  rfl

set_option maxHeartbeats 1000000 in
set_option maxRecDepth 100000 in
theorem l02Copy_any (C : Nat) (w : World) (v : Value) (xs : List Int) (hl : xs.length ≤ 1048576) (hC : C ≤ w.heap.size) (hr : Rd C w v (xs.map (Value.int .i64))) :
    Calls Tryz.prog 105 #[.agg #[v]] w fun e w' => ∃ a c, e = .returned (.agg #[.slice a xs.length c]) ∧ Own 3 w' w.heap.size (.slice a xs.length c) (xs.map (Value.int .i64)) ∧ Below w.heap.size w w' := by
  obtain ⟨i0, hi, hz0, hz1, hz2⟩ := info_parts info3
  have hb2 : Below w.heap.size w ((w.alloc (.cells #[v] 25)).alloc (.cells #[.slice none 0 0] 25)) := below_then (below_alloc _ _) _
  have hb3 := below_then hb2 (.cells #[] 3)
  have ho0 := own_lit ((w.alloc (.cells #[v] 25)).alloc (.cells #[.slice none 0 0] 25)) 3 [] 0 rfl (by decide)
  have hE := ((Env.add (w := w) (L := []) (fun p hp => by simp at hp) v 25).add (.slice none 0 0) 25).alloc (.cells #[] 3)
  rw [World.size_alloc] at hE
  have hr3 := hr.belowW hb3 hC
  simp only [World.size_alloc] at ho0
  go_enter Tryz.func105, Tryz.ntmps105
  go_wp2_with (at_builtin; refine wpList_append_rd rfl (.tmp 3) (.tmp 5) 23 rfl (w.heap.size + 1 + 1) 3 i0 (.int .i64 0) 8 Tryz.underlying23 hi hz0 hz1 hz2 rfl _ [] rfl ho0 C v (xs.map (Value.int .i64)) rfl hr3 (intsOne _) (by simp [maxLen]; omega) (by simp; omega) (by simp) ?_)
  intro v' w1 ho1 hg1
  obtain ⟨ao, cap, rfl, _⟩ := ho1.slice
  rw [List.length_map] at ho1 ⊢
  have hE1 : Env w1 _ := hE.mark hg1 (fun k hk p hp => by
    simp [Value.ownBlock] at hk
    simp at hp
    rcases hp with rfl | rfl
    · show w.heap.size + 1 ≠ k; omega
    · show w.heap.size ≠ k; omega)
  have hB1 : Below w.heap.size w w1 := hb3.grown hg1 (by simp only [World.size_alloc]; omega) (fun k hk => by simp [Value.ownBlock] at hk; omega)
  have cR := hE1 (w.heap.size + 1, .slice none 0 0) (by simp)
  have c0 := cR.1
  have f0 := cR.2
  have k1 := Own.set ho1 (.slice ao xs.length cap) (show w.heap.size + 1 < w.heap.size + 1 + 1 by omega)
  have hB2 := hB1.setCell (p := ⟨w.heap.size + 1, 0, none⟩) (by show w.heap.size ≤ w.heap.size + 1; omega) (.slice ao xs.length cap)
  have q0 : (w1.setCell ⟨w.heap.size + 1, 0, none⟩ (.slice ao xs.length cap)).cell? ⟨w.heap.size + 1, 0, none⟩ = some (.slice ao xs.length cap) := World.cell?_setCell_same _ _ _ c0
  clear hE hE1 cR hg1 ho1 hr3 hb3 hb2 ho0
  go_wp2_with fail
  refine bodyPost_ret (v := .agg #[.slice ao xs.length cap]) ?_ rfl ⟨ao, cap, rfl, k1.mono (by omega), hB2⟩
  simp [results, Tryz.results105, go_sem, q0]

end Go.Proofs.YtmmkmkaannlkhaaGreatDoor

namespace Go.Proofs.YtmmkmkaannlkhaaGreatDoor
open Go.RowKit
set_option linter.unusedVariables false

end Go.Proofs.YtmmkmkaannlkhaaGreatDoor

namespace Go.Proofs.YtmmkmkaannlkhaaGreatDoor
open Go.RowKit
set_option linter.unusedVariables false

set_option maxHeartbeats 2000000 in
set_option maxRecDepth 100000 in
theorem at_any (C : Nat) (w : World) (v : Value) (xs : List Int) (i n : Nat) (hi : i ≤ 1000) (hn : 1 ≤ n) (hn' : n ≤ 1048576) (hx : ∀ c ∈ xs, 0 ≤ c ∧ c ≤ 255) (hl : xs.length ≤ 1048576) (hr : Rd C w v (xs.map (Value.int .u8))) :
    Calls Tryz.prog 8 #[v, .int .i64 (i : Int), .int .i64 (n : Int)] w fun e w' => ∃ r : Nat, e = .returned (.int .i64 (r : Int)) ∧ r < n ∧ ∃ q, w' = w.drewN q := by
  obtain ⟨ao, cap, rfl, _, _, _, hc⟩ := hr
  rw [List.length_map] at hc ⊢
  by_cases h1 : n = 1
  · subst h1
    go_enter Tryz.func8, Tryz.ntmps8
    go_wp2_with fail
    go_ret
    exact ⟨0, rfl, by omega, 0, rfl⟩
  · have h2 : (1 : Int) < (n : Int) := by omega
    have hz : ¬ (n : Int) = 0 := by omega
    by_cases h0 : xs.length = 0
    · have e0 : (xs.length : Int) = 0 := by omega
      have m0 := Int.emod_nonneg ((i : Int) * 7) hz
      have m1 := Int.emod_lt_of_pos ((i : Int) * 7) (show 0 < (n : Int) by omega)
      have t0 : ((i : Int) * 7).tmod (n : Int) = ((i : Int) * 7) % (n : Int) := Int.tmod_eq_emod_of_nonneg (by omega)
      rw [h0]
      clear hc h0
      go_enter Tryz.func8, Tryz.ntmps8
      go_wp2_with fail
      go_ret
      exact ⟨((i : Int) * 7 % (n : Int)).toNat, by rw [Int.toNat_of_nonneg m0]; rfl, by omega, 0, rfl⟩
    · obtain ⟨g, off, rfl, _, hc⟩ := hc (by omega)
      have ha1 : i % xs.length < xs.length := Nat.mod_lt _ (by omega)
      have ha2 : (i + 1) % xs.length < xs.length := Nat.mod_lt _ (by omega)
      have c1 := hc (i % xs.length) (.int .u8 xs[i % xs.length]) (by simp [ha1])
      have c2 := hc ((i + 1) % xs.length) (.int .u8 xs[(i + 1) % xs.length]) (by simp [ha2])
      obtain ⟨x0, x1⟩ := hx _ (List.getElem_mem ha1)
      obtain ⟨y0, y1⟩ := hx _ (List.getElem_mem ha2)
      have k1 : (i : Int) % (xs.length : Int) = ((i % xs.length : Nat) : Int) := by simp
      have k2 : ((i : Int) + 1) % (xs.length : Int) = (((i + 1) % xs.length : Nat) : Int) := by simp
      have k3 : (i : Int) / (xs.length : Int) = ((i / xs.length : Nat) : Int) := by simp
      have t1 : (i : Int).tmod (xs.length : Int) = ((i % xs.length : Nat) : Int) := by rw [Int.tmod_eq_emod_of_nonneg (by omega)]; exact k1
      have t2 : ((i : Int) + 1).tmod (xs.length : Int) = (((i + 1) % xs.length : Nat) : Int) := by rw [Int.tmod_eq_emod_of_nonneg (by omega)]; exact k2
      have t3 : (i : Int).tdiv (xs.length : Int) = ((i / xs.length : Nat) : Int) := by rw [Int.tdiv_eq_ediv_of_nonneg (by omega)]; exact k3
      have hle : i / xs.length ≤ i := Nat.div_le_self _ _
      generalize xs[i % xs.length] = x at *
      generalize xs[(i + 1) % xs.length] = y at *
      generalize i % xs.length = a1 at *
      generalize (i + 1) % xs.length = a2 at *
      generalize i / xs.length = d at *
      have hl0 : ¬ (xs.length : Int) = 0 := by omega
      have hl1 : decide ((xs.length : Int) = 0) = false := decide_eq_false hl0
      have j1 : (a1 : Int) < (xs.length : Int) := by omega
      have j2 : (a2 : Int) < (xs.length : Int) := by omega
      have hn1 : ¬ (n : Int) ≤ 1 := by omega
      have w1 : IntKind.i64.wrap (x * 31) = x * 31 := by rw [IntKind.wrap_i64]; omega
      have w2 : IntKind.i64.wrap (x * 31 + y) = x * 31 + y := by rw [IntKind.wrap_i64]; omega
      have w3 : IntKind.i64.wrap (x * 31 + y + (d : Int)) = x * 31 + y + (d : Int) := by rw [IntKind.wrap_i64]; omega
      have m0 := Int.emod_nonneg (x * 31 + y + (d : Int)) hz
      have m1 := Int.emod_lt_of_pos (x * 31 + y + (d : Int)) (show 0 < (n : Int) by omega)
      have t4 : (x * 31 + y + (d : Int)).tmod (n : Int) = (x * 31 + y + (d : Int)) % (n : Int) := Int.tmod_eq_emod_of_nonneg (by omega)
      clear hc h1 h0
      go_enter Tryz.func8, Tryz.ntmps8
      go_wp2_with fail
      go_quiet (fail)
      go_wp2_with fail
      go_ret
      exact ⟨((x * 31 + y + (d : Int)) % (n : Int)).toNat, by rw [Int.toNat_of_nonneg m0]; rfl, by omega, _, rfl⟩
end Go.Proofs.YtmmkmkaannlkhaaGreatDoor
