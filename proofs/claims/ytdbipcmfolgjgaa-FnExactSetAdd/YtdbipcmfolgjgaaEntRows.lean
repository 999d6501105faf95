/- A row of entries that grows; what the specification's l03Without answers. -/
import Derived.Test.YtdbipcmfolgjgaaJoinedBase
namespace Go.Proofs.Ytdbipcmfolgjgaa
open Go.RowKit
set_option linter.unusedVariables false

/-- An entry's cells. -/
def enC (e : En) : List Value := [.int .i64 e.1, .int .i64 e.2.1, .string e.2.2]
def enCs : List En → List Value
  | [] => []
  | e :: ls => enC e ++ enCs ls
theorem enCs_app (a b : List En) : enCs (a ++ b) = enCs a ++ enCs b := by
  induction a with
  | nil => rfl
  | cons e a ih => simp [enCs, ih]
theorem enCs_len (ls : List En) : (enCs ls).length = ls.length * 3 := by
  induction ls with
  | nil => rfl
  | cons e ls ih => simp [enCs, enC, ih]; omega
theorem enCs_at {ls : List En} {k : Nat} (hk : k < ls.length) : (enCs ls)[k * 3]? = some (.int .i64 (enAt ls k).1) ∧ (enCs ls)[k * 3 + 1]? = some (.int .i64 (enAt ls k).2.1) ∧ (enCs ls)[k * 3 + 2]? = some (.string (enAt ls k).2.2) := by
  induction ls generalizing k with
  | nil => simp at hk
  | cons e ls ih =>
    cases k with
    | zero => simp [enCs, enC, enAt]
    | succ k =>
      have := ih (k := k) (by simpa using hk)
      have e0 : (k + 1) * 3 = k * 3 + 1 + 1 + 1 := by omega
      rw [e0]
      simpa [enCs, enC, enAt] using this
theorem enCs_one (ls : List En) : ∀ u ∈ enCs ls, u.oneCell' = true := by
  induction ls with
  | nil => simp [enCs]
  | cons e ls ih =>
    intro u hu
    simp only [enCs, enC, List.mem_append, List.mem_cons, List.not_mem_nil, or_false] at hu
    rcases hu with (rfl | rfl | rfl) | hu
    · rfl
    · rfl
    · rfl
    · exact ih u hu
/-- A row of entries of the call's own, from block B on. -/
def OwnE (w : World) (B : Nat) (v : Value) (ls : List En) : Prop := w.ownsRow B 72 3 v ls.length (enCs ls)
theorem OwnE.lt {w : World} {B : Nat} {v : Value} {ls : List En} (h : OwnE w B v ls) : ∀ k, v.ownBlock = some k → B ≤ k ∧ k < w.heap.size := fun k hk => World.ownsRow.lt h k hk
theorem OwnE.some {w : World} {B : Nat} {v : Value} {ls : List En} (h : OwnE w B v ls) (hv : v ≠ .slice none 0 0) : ∃ g cap, v = .slice (some ⟨g, 0, none⟩) ls.length cap ∧ B ≤ g ∧ g < w.heap.size ∧ (∀ j u, (enCs ls)[j]? = some u → w.cell? ⟨g, j, none⟩ = some u) ∧ ls.length ≤ cap ∧ cap ≤ maxLen := by
  have h0 := h
  obtain ⟨h1, h2⟩ := h
  rcases h2 with ⟨hv', hn⟩ | ⟨g, cap, cur, hv', hb, hg, hn, hm, _⟩
  · exact absurd hv' hv
  · refine ⟨g, cap, hv', hb, (Array.getElem?_eq_some_iff.1 hg).1, fun j u hj => ?_, hn, hm⟩
    subst hv'
    rw [World.ownsRow.cellAt h0 j (by have := (List.getElem?_eq_some_iff.1 hj).1; omega), hj]
theorem OwnE.mono {w : World} {B B' : Nat} {v : Value} {ls : List En} (h : OwnE w B v ls) (hb : B' ≤ B) : OwnE w B' v ls := by
  obtain ⟨h1, h2⟩ := h
  refine ⟨h1, ?_⟩
  rcases h2 with h2 | ⟨g, cap, cur, hv, hg, hh, r⟩
  · exact .inl h2
  · exact .inr ⟨g, cap, cur, hv, by omega, hh, r⟩
theorem OwnE.alloc {w : World} {B : Nat} {v : Value} {ls : List En} (h : OwnE w B v ls) (o : Obj) : OwnE (w.alloc o) B v ls := World.ownsRow.alloc h o
theorem infoEnt : (Try.prog.info? 72).map (fun i => (i.zero, i.size, i.bytes)) = some (some (.agg #[.int .i64 0, .int .i64 0, .string ByteArray.empty]), 3, 32) := by kernel_rfl
theorem below_grownE {B : Nat} {w w1 w2 : World} {row : Option Nat} (h : Below B w w1) (hB : B ≤ w.heap.size) (k : w1.grownBy w2 row) (hr : ∀ g, row = some g → B ≤ g) : Below B w w2 :=
  ⟨k.os.trans h.os, k.tape.trans h.tape, k.output.trans h.output, Nat.le_trans h.size k.size, fun i hi => (k.block i (by have := h.size; omega) (fun e => by have := hr i e.symm; omega)).trans (h.block i hi)⟩
theorem three_new (w : World) (x y z : Value) (t : TypeId) : ∀ j u, [x, y, z][j]? = some u → (w.alloc (.cells #[x, y, z] t)).cell? ((⟨w.heap.size, 0, none⟩ : Addr).add j) = some u := by
  intro j u hj
  have h : (w.alloc (.cells #[x, y, z] t)).heap[w.heap.size]? = some (.cells #[x, y, z] t (0, 0)) := heap_alloc_new w _
  rw [Addr.add_lit, Nat.zero_add]
  unfold World.cell?
  rw [show (w.alloc (.cells #[x, y, z] t)).heap[(⟨w.heap.size, j, none⟩ : Addr).block]? = some (.cells #[x, y, z] t (0, 0)) from h]
  rw [← hj]
  simp
/-- The entries with other texts. -/
def without (ls : List En) (s : ByteArray) : List En := ls.filter fun e => !(e.2.2.toList == s.toList)
theorem without_step {ls : List En} {s : ByteArray} {k : Nat} (hk : k < ls.length) : without (ls.take (k + 1)) s = without (ls.take k) s ++ (if (!((enAt ls k).2.2.toList == s.toList)) = true then [enAt ls k] else []) := by
  have : ls.take (k + 1) = ls.take k ++ [enAt ls k] := by simp [enAt, hk]
  rw [this]
  unfold without
  rw [List.filter_append]
  congr 1
  simp [List.filter_cons]

set_option maxHeartbeats 2000000 in
set_option maxRecDepth 100000 in
theorem l03Without_any (C : Nat) (w : World) (ve : Value) (ls : List En) (s : ByteArray) (hl : ls.length ≤ 1048576) (hC : C ≤ w.heap.size) (he : RdE C w ve ls) :
    Calls Try.prog 43 #[ve, .string s] w fun e w' => ∃ r, e = .returned r ∧ OwnE w' w.heap.size r (without ls s) ∧ r ≠ .slice none 0 0 ∧ Below w.heap.size w w' := by
  obtain ⟨i0, hi, hz0, hz1, hz2⟩ := info_parts infoEnt
  obtain ⟨eo, ec, rfl, hE⟩ := he
  have ho0 : OwnE (w.alloc (.cells #[] 72)) w.heap.size (.slice (some ⟨w.heap.size, 0, none⟩) 0 0) [] := World.ownsRow_lit w #[] 0 (Nat.le_refl _) (by decide) (by simp)
  have hB0 := below_alloc w (.cells #[] 72)
  go_enter Try.func43, Try.ntmps43
  go_wp2_with fail
  go_loopw [5, 6] (fun tl tk wr => ∃ k : Nat, k ≤ ls.length ∧ tk = .int .i64 (k : Int) ∧ OwnE wr w.heap.size tl (without (ls.take k) s) ∧ tl ≠ .slice none 0 0 ∧ Below w.heap.size w wr) (fun _ tk _ => ls.length - (intOf tk).toNat)
  case atStart => exact ⟨0, Nat.zero_le _, rfl, ho0, by simp, hB0⟩
  case round =>
    clear ho0 hB0
    obtain ⟨k, hk, rfl, ho, hv5, hB⟩ := hrel
    have HV5 : Hid _ := hv5
    clear hv5
    have hsz := hB.size
    by_cases hlt : k < ls.length
    · obtain ⟨g, off, rfl, hg, hc⟩ := hE (by omega)
      obtain ⟨q0, q1, q2⟩ := hc k hlt
      rw [← hB.cell (p := ⟨g, off + k * 3, none⟩) (by show g < _; omega)] at q0
      rw [← hB.cell (p := ⟨g, off + (k * 3 + 1), none⟩) (by show g < _; omega)] at q1
      rw [← hB.cell (p := ⟨g, off + (k * 3 + 2), none⟩) (by show g < _; omega)] at q2
      have HS : Hid _ := without_step (s := s) hlt
      obtain ⟨t, a, x, hee⟩ : ∃ t a x, enAt ls k = (t, a, x) := ⟨_, _, _, rfl⟩
      rw [hee] at q0 q1 q2 HS
      replace q0 : wr.cell? ⟨g, off + k * 3, none⟩ = some (.int .i64 t) := q0
      replace q1 : wr.cell? ⟨g, off + k * 3 + 1, none⟩ = some (.int .i64 a) := q1
      replace q2 : wr.cell? ⟨g, off + k * 3 + 2, none⟩ = some (.string x) := q2
      have j0 : (0 : Int) ≤ (k : Int) := by omega
      have j1 : (k : Int) < (ls.length : Int) := by omega
      have j2 : (k : Int) + 1 < 9223372036854775808 := by omega
      have hlen : (without (ls.take k) s).length ≤ 1048576 := Nat.le_trans (List.length_filter_le _ _) (by simp; omega)
      clear hee hc hE
      cases hb : (x.toList == s.toList) with
      | true =>
        have HN : Hid (without (ls.take (k + 1)) s = without (ls.take k) s) := by
          have h := HS.out
          unfold Hid
          simpa [hb] using h
        clear HS
        go_wp2_with fail
        go_roundw
        case rel => exact ⟨k + 1, by omega, by go_num, by rw [HN.out]; exact ho, HV5.out, hB⟩
        case measure => simp [intOf]; omega
      | false =>
        have HN : Hid (without (ls.take (k + 1)) s = without (ls.take k) s ++ [(t, a, x)]) := by
          have h := HS.out
          unfold Hid
          simpa [hb] using h
        clear HS
        generalize without (ls.take k) s = zs at ho HN hlen
        go_wp2_with (at_builtin; refine wpList_append_own _ rfl _ _ 30 rfl w.heap.size 72 i0 (.agg #[.int .i64 0, .int .i64 0, .string ByteArray.empty]) 3 32 Try.underlying30 hi hz0 hz1 hz2 rfl (by decide) _ _ _ rfl (World.ownsRow.alloc ho _) ⟨wr.heap.size, 0, none⟩ 1 1 [.int .i64 t, .int .i64 a, .string x] rfl rfl (three_new _ _ _ _ _) (by simp [Value.oneCell']) (by unfold maxLen; omega) (by omega) (by first | omega | (simp; omega)) ?_)
        intro v6 w6 ho6 hg6 hv6
        have HV6 : Hid (v6 ≠ .slice none 0 0) := hv6
        clear hv6
        have hB6 := below_grownE (below_then hB (.cells #[.int .i64 t, .int .i64 a, .string x] 72)) (Nat.le_refl _) hg6 (fun k hk => (World.ownsRow.lt ho k hk).1)
        have ho7 : OwnE w6 w.heap.size v6 (without (ls.take (k + 1)) s) := by
          rw [HN.out]
          unfold OwnE
          rw [enCs_app, List.length_append]
          exact ho6
        clear ho6 hg6
        go_wp2_with fail
        go_roundw
        case rel => exact ⟨k + 1, by omega, by go_num, ho7, HV6.out, hB6⟩
        case measure => simp [intOf]; omega
    · obtain rfl : k = ls.length := by omega
      rw [List.take_length] at ho
      have hn : ¬ (ls.length : Int) < (ls.length : Int) := by omega
      go_wp2_with fail
      refine bodyPost_ret (v := u5) ?_ rfl ⟨_, rfl, ho, HV5.out, hB⟩
      simp [results, Try.results43, go_sem]

end Go.Proofs.Ytdbipcmfolgjgaa
