/- Entries in memory, which of them are valid, and the parts of a map of entries that are joined: plain facts. A row of entries that grows; what the specification's l03Without answers. -/
import Derived.Laws.Tables
import Derived.Test.YtfnlnigeaioocaaGreatQEntOKsToEntGreater
import Derived.Test.YtfnlnigeaioocaaGreatQStampLessWalkToStampNextEq
namespace Go.Proofs.YtfnlnigeaioocaaGreat
open Go.RowKit
set_option linter.unusedVariables false

/-- An entry's numbers and its text. -/
abbrev En := Int × Int × ByteArray
def kvE (e : En) : Value × Value := (.agg #[.int .i64 e.1, .int .i64 e.2.1], .agg #[.int .i64 e.1, .int .i64 e.2.1, .string e.2.2])
def enAt (ls : List En) (k : Nat) : En := ls.getD k (0, 0, ByteArray.empty)
/-- The slice v reads as these entries, three cells each, in a block below C. -/
def RdE (C : Nat) (w : World) (v : Value) (ls : List En) : Prop :=
  ∃ ao cap, v = .slice ao ls.length cap ∧ (0 < ls.length → ∃ g off, ao = some ⟨g, off, none⟩ ∧ g < C ∧ ∀ k, k < ls.length → w.cell? ⟨g, off + k * 3, none⟩ = some (.int .i64 (enAt ls k).1) ∧ w.cell? ⟨g, off + (k * 3 + 1), none⟩ = some (.int .i64 (enAt ls k).2.1) ∧ w.cell? ⟨g, off + (k * 3 + 2), none⟩ = some (.string (enAt ls k).2.2))
theorem RdE.below {C : Nat} {w w' : World} {v : Value} {ls : List En} (h : RdE C w v ls) (hb : Below C w w') : RdE C w' v ls := by
  obtain ⟨ao, cap, rfl, h⟩ := h
  refine ⟨ao, cap, rfl, fun hp => ?_⟩
  obtain ⟨g, off, rfl, hg, hc⟩ := h hp
  refine ⟨g, off, rfl, hg, fun k hk => ?_⟩
  rw [hb.cell (p := ⟨g, off + k * 3, none⟩) hg, hb.cell (p := ⟨g, off + (k * 3 + 1), none⟩) hg, hb.cell (p := ⟨g, off + (k * 3 + 2), none⟩) hg]
  exact hc k hk
/-- One entry behind a stamp: it is valid, above that stamp, and was seen. -/
def okOne (X : List Int) (p : Int × Int) (e : En) : Bool := (stOK e.1 e.2.1 && decide (e.2.2.size ≤ 200)) && (lessS p.1 p.2 e.1 e.2.1 && decide (e.1 ≤ X.getD e.2.1.toNat 0))
/-- The stamp ahead of the k-th entry. -/
def prevS (ls : List En) : Nat → Int × Int
  | 0 => (0, 0)
  | k + 1 => ((enAt ls k).1, (enAt ls k).2.1)
def allOne (X : List Int) (ls : List En) : Nat → Bool
  | 0 => true
  | k + 1 => allOne X ls k && okOne X (prevS ls k) (enAt ls k)
/-- A vector and entries make a valid value. -/
def okJ (xs : List Int) (ls : List En) : Bool := vecOK xs && (decide (ls.length ≤ 256) && allOne xs ls ls.length)
theorem allOne_step {X : List Int} {ls : List En} {k : Nat} (h : allOne X ls k = true) (h1 : okOne X (prevS ls k) (enAt ls k) = true) : allOne X ls (k + 1) = true := by simp [allOne, h, h1]
theorem allOne_mono {X : List Int} {ls : List En} {k : Nat} : ∀ {m}, k ≤ m → allOne X ls m = true → allOne X ls k = true := by
  intro m
  induction m with
  | zero => intro h h1; rw [show k = 0 by omega]; exact h1
  | succ m ih =>
    intro h h1
    by_cases e : k = m + 1
    · rw [e]; exact h1
    · simp only [allOne, Bool.and_eq_true] at h1
      exact ih (by omega) h1.1
theorem okJ_bad {xs : List Int} {ls : List En} {k : Nat} (hk : k < ls.length) (h : okOne xs (prevS ls k) (enAt ls k) = false) : okJ xs ls = false := by
  cases hc : okJ xs ls with
  | false => rfl
  | true =>
    unfold okJ at hc
    simp only [Bool.and_eq_true] at hc
    have := allOne_mono (k := k + 1) (by omega) hc.2.2
    simp [allOne, h] at this
theorem okJ_all {xs : List Int} {ls : List En} (hv : vecOK xs = true) (hl : ls.length ≤ 256) (h : allOne xs ls ls.length = true) : okJ xs ls = true := by simp [okJ, hv, hl, h]
theorem okJ_vec {xs : List Int} {ls : List En} (h : vecOK xs = false) : okJ xs ls = false := by simp [okJ, h]
theorem okJ_long {xs : List Int} {ls : List En} (h : ¬ ls.length ≤ 256) : okJ xs ls = false := by simp [okJ, h]
theorem lessS_trans {a b c d e f : Int} (h : lessS a b c d = true) (k : lessS c d e f = true) : lessS a b e f = true := by
  rw [lessS_iff] at *
  omega
theorem lessS_irr (a b : Int) : lessS a b a b = false := by
  cases h : lessS a b a b with
  | false => rfl
  | true => rw [lessS_iff] at h; omega
theorem one_parts {X : List Int} {p : Int × Int} {e : En} (h : okOne X p e = true) : stOK e.1 e.2.1 = true ∧ e.2.2.size ≤ 200 ∧ lessS p.1 p.2 e.1 e.2.1 = true ∧ e.1 ≤ X.getD e.2.1.toNat 0 := by
  unfold okOne at h
  simp only [Bool.and_eq_true, decide_eq_true_eq] at h
  exact ⟨h.1.1, h.1.2, h.2.1, h.2.2⟩
/-- Stamps rise. -/
theorem all_less {X : List Int} {ls : List En} : ∀ k, allOne X ls k = true → ∀ j, j < k → lessS (enAt ls j).1 (enAt ls j).2.1 (prevS ls k).1 (prevS ls k).2 = true ∨ j + 1 = k := by
  intro k
  induction k with
  | zero => intro _ j hj; omega
  | succ k ih =>
    intro h j hj
    simp only [allOne, Bool.and_eq_true] at h
    by_cases e : j + 1 = k + 1
    · exact .inr e
    · refine .inl ?_
      have h1 := (one_parts h.2).2.2.1
      rcases ih h.1 j (by omega) with h2 | h2
      · exact lessS_trans h2 h1
      · subst h2
        exact h1
theorem key_new {X : List Int} {ls : List En} {k : Nat} (hk : k < ls.length) (h : allOne X ls k = true) (h1 : okOne X (prevS ls k) (enAt ls k) = true) : ∀ p ∈ (ls.take k).map kvE, p.1 ≠ (kvE (enAt ls k)).1 := by
  intro p hp he
  obtain ⟨e, hm, rfl⟩ := List.mem_map.1 hp
  obtain ⟨j, hj, rfl⟩ := List.getElem_of_mem hm
  rw [List.length_take] at hj
  have e1 : enAt ls j = (ls.take k)[j]'(by rw [List.length_take]; omega) := by simp [enAt, show j < ls.length by omega]
  rw [← e1] at he
  simp only [kvE, Value.agg.injEq] at he
  have he1 : (enAt ls j).1 = (enAt ls k).1 ∧ (enAt ls j).2.1 = (enAt ls k).2.1 := by simpa using he
  have h2 := (one_parts h1).2.2.1
  have h3 : lessS (enAt ls j).1 (enAt ls j).2.1 (enAt ls k).1 (enAt ls k).2.1 = true := by
    rcases all_less k h j (by omega) with h3 | h3
    · exact lessS_trans h3 h2
    · subst h3; exact h2
  rw [he1.1, he1.2, lessS_irr] at h3
  exact absurd h3 (by decide)
theorem take_step {ls : List En} {k : Nat} (hk : k < ls.length) : (ls.take (k + 1)).map kvE = (ls.take k).map kvE ++ [kvE (enAt ls k)] := by
  have : ls.take (k + 1) = ls.take k ++ [enAt ls k] := by simp [enAt, hk]
  rw [this, List.map_append]
  rfl

theorem built_jm (X : List Int) (hX : X.length = 16) (b : Nat) (w : World) : (Instr.build 48 #[(0, .agg (arrC X).toArray), (1, .map (some b))]).run Tryz.prog w = .ok (.agg (arrC X ++ [Value.map (some b)]).toArray) w := by
  match X, hX with
  | [x0, x1, x2, x3, x4, x5, x6, x7, x8, x9, x10, x11, x12, x13, x14, x15], _ => exact run_build w _ _ _ (by kernel_rfl)
/-- The zero of the map's parts. -/
def zeroJ : List Value := arrC (List.replicate 16 0) ++ [Value.map none]

end Go.Proofs.YtfnlnigeaioocaaGreat

namespace Go.Proofs.YtfnlnigeaioocaaGreat
open Go.RowKit
set_option linter.unusedVariables false

/-- An entry's cells. -/
def enC (e : En) : List Value := [.int .i64 e.1, .int .i64 e.2.1, .string e.2.2]
def enCs : List En → List Value
  | [] => []
  | e :: ls => enC e ++ enCs ls
theorem enCs_app (a b : List En) : enCs (a ++ b) = enCs a ++ enCs b := by
  induction a with
  | nil => rfl
  | cons e a ih => simp [enCs, ih]
theorem enCs_len (ls : List En) : (enCs ls).length = ls.length * 3 := by
  induction ls with
  | nil => rfl
  | cons e ls ih => simp [enCs, enC, ih]; omega
theorem enCs_at {ls : List En} {k : Nat} (hk : k < ls.length) : (enCs ls)[k * 3]? = some (.int .i64 (enAt ls k).1) ∧ (enCs ls)[k * 3 + 1]? = some (.int .i64 (enAt ls k).2.1) ∧ (enCs ls)[k * 3 + 2]? = some (.string (enAt ls k).2.2) := by
  induction ls generalizing k with
  | nil => simp at hk
  | cons e ls ih =>
    cases k with
    | zero => simp [enCs, enC, enAt]
    | succ k =>
      have := ih (k := k) (by simpa using hk)
      have e0 : (k + 1) * 3 = k * 3 + 1 + 1 + 1 := by omega
      rw [e0]
      simpa [enCs, enC, enAt] using this
theorem enCs_one (ls : List En) : ∀ u ∈ enCs ls, u.oneCell' = true := by
  induction ls with
  | nil => simp [enCs]
  | cons e ls ih =>
    intro u hu
    simp only [enCs, enC, List.mem_append, List.mem_cons, List.not_mem_nil, or_false] at hu
    rcases hu with (rfl | rfl | rfl) | hu
    · rfl
    · rfl
    · rfl
    · exact ih u hu
/-- A row of entries of the call's own, from block B on. -/
def OwnE (w : World) (B : Nat) (v : Value) (ls : List En) : Prop := w.ownsRow B 60 3 v ls.length (enCs ls)
theorem OwnE.lt {w : World} {B : Nat} {v : Value} {ls : List En} (h : OwnE w B v ls) : ∀ k, v.ownBlock = some k → B ≤ k ∧ k < w.heap.size := fun k hk => World.ownsRow.lt h k hk
theorem OwnE.some {w : World} {B : Nat} {v : Value} {ls : List En} (h : OwnE w B v ls) (hv : v ≠ .slice none 0 0) : ∃ g cap, v = .slice (some ⟨g, 0, none⟩) ls.length cap ∧ B ≤ g ∧ g < w.heap.size ∧ (∀ j u, (enCs ls)[j]? = some u → w.cell? ⟨g, j, none⟩ = some u) ∧ ls.length ≤ cap ∧ cap ≤ maxLen := by
  have h0 := h
  obtain ⟨h1, h2⟩ := h
  rcases h2 with ⟨hv', hn⟩ | ⟨g, cap, cur, hv', hb, hg, hn, hm, _⟩
  · exact absurd hv' hv
  · refine ⟨g, cap, hv', hb, (Array.getElem?_eq_some_iff.1 hg).1, fun j u hj => ?_, hn, hm⟩
    subst hv'
    rw [World.ownsRow.cellAt h0 j (by have := (List.getElem?_eq_some_iff.1 hj).1; omega), hj]
theorem OwnE.mono {w : World} {B B' : Nat} {v : Value} {ls : List En} (h : OwnE w B v ls) (hb : B' ≤ B) : OwnE w B' v ls := by
  obtain ⟨h1, h2⟩ := h
  refine ⟨h1, ?_⟩
  rcases h2 with h2 | ⟨g, cap, cur, hv, hg, hh, r⟩
  · exact .inl h2
  · exact .inr ⟨g, cap, cur, hv, by omega, hh, r⟩
theorem OwnE.alloc {w : World} {B : Nat} {v : Value} {ls : List En} (h : OwnE w B v ls) (o : Obj) : OwnE (w.alloc o) B v ls := World.ownsRow.alloc h o
theorem infoEnt : (Tryz.prog.info? 60).map (fun i => (i.zero, i.size, i.bytes)) = some (some (.agg #[.int .i64 0, .int .i64 0, .string ByteArray.empty]), 3, 32) := by kernel_rfl
theorem below_grownE {B : Nat} {w w1 w2 : World} {row : Option Nat} (h : Below B w w1) (hB : B ≤ w.heap.size) (k : w1.grownBy w2 row) (hr : ∀ g, row = some g → B ≤ g) : Below B w w2 :=
  ⟨k.os.trans h.os, k.tape.trans h.tape, k.output.trans h.output, Nat.le_trans h.size k.size, fun i hi => (k.block i (by have := h.size; omega) (fun e => by have := hr i e.symm; omega)).trans (h.block i hi)⟩
theorem three_new (w : World) (x y z : Value) (t : TypeId) : ∀ j u, [x, y, z][j]? = some u → (w.alloc (.cells #[x, y, z] t)).cell? ((⟨w.heap.size, 0, none⟩ : Addr).add j) = some u := by
  intro j u hj
  have h : (w.alloc (.cells #[x, y, z] t)).heap[w.heap.size]? = some (.cells #[x, y, z] t (0, 0)) := heap_alloc_new w _
  rw [Addr.add_lit, Nat.zero_add]
  unfold World.cell?
  rw [show (w.alloc (.cells #[x, y, z] t)).heap[(⟨w.heap.size, j, none⟩ : Addr).block]? = some (.cells #[x, y, z] t (0, 0)) from h]
  rw [← hj]
  simp
/-- The entries with other texts. -/
def without (ls : List En) (s : ByteArray) : List En := ls.filter fun e => !(e.2.2.toList == s.toList)
theorem without_step {ls : List En} {s : ByteArray} {k : Nat} (hk : k < ls.length) : without (ls.take (k + 1)) s = without (ls.take k) s ++ (if (!((enAt ls k).2.2.toList == s.toList)) = true then [enAt ls k] else []) := by
  have : ls.take (k + 1) = ls.take k ++ [enAt ls k] := by simp [enAt, hk]
  rw [this]
  unfold without
  rw [List.filter_append]
  congr 1
  simp [List.filter_cons]

set_option maxHeartbeats 2000000 in
set_option maxRecDepth 100000 in
theorem l03Without_any (C : Nat) (w : World) (ve : Value) (ls : List En) (s : ByteArray) (hl : ls.length ≤ 1048576) (hC : C ≤ w.heap.size) (he : RdE C w ve ls) :
    Calls Tryz.prog 23 #[ve, .string s] w fun e w' => ∃ r, e = .returned r ∧ OwnE w' w.heap.size r (without ls s) ∧ r ≠ .slice none 0 0 ∧ Below w.heap.size w w' := by
  obtain ⟨i0, hi, hz0, hz1, hz2⟩ := info_parts infoEnt
  obtain ⟨eo, ec, rfl, hE⟩ := he
  have ho0 : OwnE (w.alloc (.cells #[] 60)) w.heap.size (.slice (some ⟨w.heap.size, 0, none⟩) 0 0) [] := World.ownsRow_lit w #[] 0 (Nat.le_refl _) (by decide) (by simp)
  have hB0 := below_alloc w (.cells #[] 60)
  go_enter Tryz.func23, Tryz.ntmps23
  go_wp2_with fail
  go_loopw [5, 6] (fun tl tk wr => ∃ k : Nat, k ≤ ls.length ∧ tk = .int .i64 (k : Int) ∧ OwnE wr w.heap.size tl (without (ls.take k) s) ∧ tl ≠ .slice none 0 0 ∧ Below w.heap.size w wr) (fun _ tk _ => ls.length - (intOf tk).toNat)
  case atStart => exact ⟨0, Nat.zero_le _, rfl, ho0, by simp, hB0⟩
  case round =>
    clear ho0 hB0
    obtain ⟨k, hk, rfl, ho, hv5, hB⟩ := hrel
    have HV5 : Hid _ := hv5
    clear hv5
    have hsz := hB.size
    by_cases hlt : k < ls.length
    · obtain ⟨g, off, rfl, hg, hc⟩ := hE (by omega)
      obtain ⟨q0, q1, q2⟩ := hc k hlt
      rw [← hB.cell (p := ⟨g, off + k * 3, none⟩) (by show g < _; omega)] at q0
      rw [← hB.cell (p := ⟨g, off + (k * 3 + 1), none⟩) (by show g < _; omega)] at q1
      rw [← hB.cell (p := ⟨g, off + (k * 3 + 2), none⟩) (by show g < _; omega)] at q2
      have HS : Hid _ := without_step (s := s) hlt
      obtain ⟨t, a, x, hee⟩ : ∃ t a x, enAt ls k = (t, a, x) := ⟨_, _, _, rfl⟩
      rw [hee] at q0 q1 q2 HS
      replace q0 : wr.cell? ⟨g, off + k * 3, none⟩ = some (.int .i64 t) := q0
      replace q1 : wr.cell? ⟨g, off + k * 3 + 1, none⟩ = some (.int .i64 a) := q1
      replace q2 : wr.cell? ⟨g, off + k * 3 + 2, none⟩ = some (.string x) := q2
      have j0 : (0 : Int) ≤ (k : Int) := by omega
      have j1 : (k : Int) < (ls.length : Int) := by omega
      have j2 : (k : Int) + 1 < 9223372036854775808 := by omega
      have hlen : (without (ls.take k) s).length ≤ 1048576 := Nat.le_trans (List.length_filter_le _ _) (by simp; omega)
      clear hee hc hE
      cases hb : (x.toList == s.toList) with
      | true =>
        have HN : Hid (without (ls.take (k + 1)) s = without (ls.take k) s) := by
          have h := HS.out
          unfold Hid
          simpa [hb] using h
        clear HS
        go_wp2_with fail
        go_roundw
        case rel => exact ⟨k + 1, by omega, by go_num, by rw [HN.out]; exact ho, HV5.out, hB⟩
        case measure => simp [intOf]; omega
      | false =>
        have HN : Hid (without (ls.take (k + 1)) s = without (ls.take k) s ++ [(t, a, x)]) := by
          have h := HS.out
          unfold Hid
          simpa [hb] using h
        clear HS
        generalize without (ls.take k) s = zs at ho HN hlen
        go_wp2_with (at_builtin; refine wpList_append_own _ rfl _ _ 26 rfl w.heap.size 60 i0 (.agg #[.int .i64 0, .int .i64 0, .string ByteArray.empty]) 3 32 Tryz.underlying26 hi hz0 hz1 hz2 rfl (by decide) _ _ _ rfl (World.ownsRow.alloc ho _) ⟨wr.heap.size, 0, none⟩ 1 1 [.int .i64 t, .int .i64 a, .string x] rfl rfl (three_new _ _ _ _ _) (by simp [Value.oneCell']) (by unfold maxLen; omega) (by omega) (by first | omega | (simp; omega)) ?_)
        intro v6 w6 ho6 hg6 hv6
        have HV6 : Hid (v6 ≠ .slice none 0 0) := hv6
        clear hv6
        have hB6 := below_grownE (below_then hB (.cells #[.int .i64 t, .int .i64 a, .string x] 60)) (Nat.le_refl _) hg6 (fun k hk => (World.ownsRow.lt ho k hk).1)
        have ho7 : OwnE w6 w.heap.size v6 (without (ls.take (k + 1)) s) := by
          rw [HN.out]
          unfold OwnE
          rw [enCs_app, List.length_append]
          exact ho6
        clear ho6 hg6
        go_wp2_with fail
        go_roundw
        case rel => exact ⟨k + 1, by omega, by go_num, ho7, HV6.out, hB6⟩
        case measure => simp [intOf]; omega
    · obtain rfl : k = ls.length := by omega
      rw [List.take_length] at ho
      have hn : ¬ (ls.length : Int) < (ls.length : Int) := by omega
      go_wp2_with fail
      refine bodyPost_ret (v := u5) ?_ rfl ⟨_, rfl, ho, HV5.out, hB⟩
      simp [results, Tryz.results23, go_sem]

end Go.Proofs.YtfnlnigeaioocaaGreat
