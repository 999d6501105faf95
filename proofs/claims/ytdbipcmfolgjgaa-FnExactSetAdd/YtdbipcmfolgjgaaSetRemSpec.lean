/- What the specification's SetRemove does. -/
import Derived.Test.YtdbipcmfolgjgaaEntFind
import Derived.Test.YtdbipcmfolgjgaaEntriesOK
import Derived.Test.YtdbipcmfolgjgaaVecCopy
import Derived.Test.YtdbipcmfolgjgaaCtrBase
import Derived.Deep.RegionHeld3
namespace Go.Proofs.Ytdbipcmfolgjgaa
open Go.RowKit
set_option linter.unusedVariables false

/-- A set of the call's own, and a code. -/
def SetAns (xs : List Int) (ls : List En) (k : Int) (w : World) (e : Ending) (w' : World) : Prop :=
  ∃ a n c b m d, e = .returned (.tuple #[.agg #[.slice a n c, .slice b m d], .int .i64 k]) ∧ Own 3 w' w.heap.size (.slice a n c) (xs.map (Value.int .i64)) ∧ OwnE w' w.heap.size (.slice b m d) ls ∧ (∀ i, (Value.slice a n c).ownBlock = some i → (Value.slice b m d).ownBlock ≠ some i) ∧ Below w.heap.size w w'
theorem setNone {w w' : World} (k : Int) (h : Below w.heap.size w w') : SetAns [] [] k w (.returned (.tuple #[.agg #[.slice none 0 0, .slice none 0 0], .int .i64 k])) w' :=
  ⟨none, 0, 0, none, 0, 0, rfl, World.ownsRow_nil _ _ _ _, World.ownsRow_nil _ _ _ _, by simp [Value.ownBlock], h⟩
def remC (xs : List Int) (ls : List En) (s : ByteArray) : Int := if okJ xs ls = true then (if s.size ≤ 200 then 0 else 4) else 1
def remV (xs : List Int) (ls : List En) (s : ByteArray) : List Int := if okJ xs ls = true then (if s.size ≤ 200 then xs else []) else []
def remE (xs : List Int) (ls : List En) (s : ByteArray) : List En := if okJ xs ls = true then (if s.size ≤ 200 then without ls s else []) else []
theorem base4s {w w1 : World} {va vb : Value} {T : TypeId} (h : Below ((w.alloc (.cells #[va, vb] T)).alloc (.cells #[.slice none 0 0, .slice none 0 0] T)).heap.size ((w.alloc (.cells #[va, vb] T)).alloc (.cells #[.slice none 0 0, .slice none 0 0] T)) w1) :
    (w1.cell? ⟨w.heap.size, 0, none⟩ = some va ∧ w1.cell? ⟨w.heap.size, 1, none⟩ = some vb) ∧ Dy w1 (w.heap.size + 1) (.slice none 0 0) (.slice none 0 0) := by
  have h1 := ((Dy.made w va vb T).on (below_alloc _ (.cells #[.slice none 0 0, .slice none 0 0] T))).on h
  have h2 := (Dy.made (w.alloc (.cells #[va, vb] T)) (.slice none 0 0) (.slice none 0 0) T).on h
  rw [World.size_alloc] at h2
  exact ⟨h1.1, h2⟩

theorem OwnE.apart {w w' : World} {B : Nat} {v : Value} {ls : List En} {row : Option Nat} (h : OwnE w B v ls) (hg : w.grownBy w' row) (hr : ∀ k, row = Option.some k → k < B) : OwnE w' B v ls := by
  obtain ⟨h1, h2⟩ := h
  refine ⟨h1, ?_⟩
  rcases h2 with h2 | ⟨g, cap, cur, hv, hb, hh, r⟩
  · exact .inl h2
  · exact .inr ⟨g, cap, cur, hv, hb, by rw [hg.block g (Array.getElem?_eq_some_iff.1 hh).1 (fun e => by have := hr g e.symm; omega)]; exact hh, r⟩
theorem OwnE.setK {w : World} {B P : Nat} {v : Value} {ls : List En} (h : OwnE w B v ls) (k : Nat) (u : Value) (hp : P < B) : OwnE (w.setCell ⟨P, k, none⟩ u) B v ls := h.apart (grownBy_set w P k u) (fun k hk => by cases hk; exact hp)
theorem two_set {w : World} {n m : Nat} {x y : Value} (h : w.cell? ⟨n, 0, none⟩ = some x ∧ w.cell? ⟨n, 1, none⟩ = some y) (hne : n ≠ m) (u u' : Value) : ((w.setCell ⟨m, 0, none⟩ u).setCell ⟨m, 1, none⟩ u').cell? ⟨n, 0, none⟩ = some x ∧ ((w.setCell ⟨m, 0, none⟩ u).setCell ⟨m, 1, none⟩ u').cell? ⟨n, 1, none⟩ = some y := by
  have e : ∀ (z : World) (k j : Nat) (u : Value), (z.setCell ⟨m, k, none⟩ u).cell? ⟨n, j, none⟩ = z.cell? ⟨n, j, none⟩ := fun z k j u => by
    unfold World.cell?
    rw [heap_setCell_other z ⟨m, k, none⟩ n u hne]
  rw [e, e, e, e]
  exact h

set_option maxHeartbeats 4000000 in
set_option maxRecDepth 100000 in
theorem specSetRemove_any (C : Nat) (w : World) (v ve : Value) (xs : List Int) (ls : List En) (s : ByteArray) (hs : s.size ≤ 9223372036854775807) (hC : C ≤ w.heap.size) (hv : Rd C w v (xs.map (Value.int .i64))) (he : RdE C w ve ls) :
    Calls Try.prog 21 #[.agg #[v, ve], .string s] w (SetAns (remV xs ls s) (remE xs ls s) (remC xs ls s) w) := by
  have hB0 : Below w.heap.size w ((w.alloc (.cells #[v, ve] 41)).alloc (.cells #[.slice none 0 0, .slice none 0 0] 41)) := below_then (below_alloc _ _) _
  have h1 := l03EntriesOK_any C ((w.alloc (.cells #[v, ve] 41)).alloc (.cells #[.slice none 0 0, .slice none 0 0] 41)) v ve xs ls (Nat.le_trans hC hB0.size) (hv.belowW hB0 hC) (he.below (hB0.mono hC))
  have hsl : ∃ ao len cap, v = .slice ao len cap := by
    obtain ⟨ao, cap, rfl, _⟩ := hv
    exact ⟨_, _, _, rfl⟩
  obtain ⟨ao, la, ca, rfl⟩ := hsl
  have he0 := he
  obtain ⟨eo, ec, rfl, _⟩ := he0
  obtain ⟨⟨c0, c1⟩, _⟩ := base4s (w := w) (va := .slice ao la ca) (vb := .slice eo ls.length ec) (T := 41) (Below.refl _ _)
  unfold remV remE remC
  have hxl : okJ xs ls = true → xs.length = 16 ∧ ls.length ≤ 256 := fun h => by
    unfold okJ at h
    simp only [Bool.and_eq_true, decide_eq_true_eq] at h
    exact ⟨(vecOK_get h.1).1, h.2.1⟩
  cases hok : okJ xs ls with
  | false =>
    rw [hok] at h1
    go_enter Try.func21, Try.ntmps21
    go_wp2_with fail
    refine h1.mono ?_
    rintro e w1 ⟨rfl, hB⟩
    have HR : Hid (Dy w1 (w.heap.size + 1) (.slice none 0 0) (.slice none 0 0)) := (base4s hB).2
    obtain ⟨⟨u0, u1⟩, hf⟩ := HR.out
    have f0 := hf 0
    have f1 := hf 1
    have hBw := below_seq hB0 hB
    clear c0 c1
    go_wp2_with fail
    have hp := (Dy.set1 (Dy.set0 HR.out (.slice none 0 0)) (.slice none 0 0)).1
    refine bodyPost_ret (v := .tuple #[.agg #[.slice none 0 0, .slice none 0 0], .int .i64 1]) ?_ rfl (setNone 1 ((hBw.setCell (p := ⟨w.heap.size + 1, 0, none⟩) (by show w.heap.size ≤ w.heap.size + 1; omega) _).setCell (p := ⟨w.heap.size + 1, 1, none⟩) (by show w.heap.size ≤ w.heap.size + 1; omega) _))
    simp [results, Try.results21, go_sem, hp.1, hp.2]
  | true =>
    rw [hok] at h1
    obtain ⟨h16, h256⟩ := hxl hok
    have hxs : xs.length ≤ 1048576 := by omega
    clear h16 hxl hok
    by_cases h200 : s.size ≤ 200
    · have i0 : ¬ (200 : Int) < (s.size : Int) := by omega
      rw [if_pos rfl, if_pos h200, if_pos rfl, if_pos h200, if_pos rfl, if_pos h200]
      go_enter Try.func21, Try.ntmps21
      go_wp2_with fail
      refine h1.mono ?_
      rintro e w1 ⟨rfl, hB⟩
      clear c0 c1
      go_wp2_with fail
      replace hB := hB.drew
      have hS := (base4s hB).1
      have hz2 := hB.size
      simp only [World.size_alloc] at hz2
      go_region_held3 (fun w' => w'.cell? ⟨w.heap.size, 0, none⟩ = some (.slice ao la ca) ∧ w'.cell? ⟨w.heap.size, 1, none⟩ = some (.slice eo ls.length ec)) (first | exact hS | exact two_set hS (by omega) _ _) (first | (go_at_call 51; refine Calls.mono (l02Copy_any C _ _ xs hxs (Nat.le_trans hC (below_seq hB0 hB).size) (hv.belowW (below_seq hB0 hB) hC)) ?_; rintro e w3 ⟨a3, k3, rfl, hq3, hb3⟩; replace hB := below_seq hB hb3; replace hS := (base4s hB).1; have z3 := hb3.size; clear hb3) | (go_at_call 43; refine Calls.mono (l03Without_any C _ _ ls s (by omega) (Nat.le_trans hC (below_seq hB0 hB).size) (he.below ((below_seq hB0 hB).mono hC))) ?_; rintro e w4 ⟨r4, rfl, hq4, hn4, hb4⟩; obtain ⟨g4, d4, rfl, hg4, _⟩ := hq4.some hn4; have hblk := hq3.blk; replace hq3 := hq3.below hb4 (Nat.le_refl _); replace hB := below_seq hB hb4; replace hS := (base4s hB).1; have hR4 := (base4s hB).2; have hR4' := hR4; obtain ⟨⟨u0, u1⟩, hf⟩ := hR4'; have f0 := hf 0; have f1 := hf 1; clear hb4))
      have hR5 := (Dy.set1 (Dy.set0 hR4 (.slice a3 xs.length k3)) (.slice (some ⟨g4, 0, none⟩) (without ls s).length d4)).1
      have hz3 : w.heap.size + 1 + 1 ≤ w1.drew.heap.size := hz2
      have l3 := hq3.mono hz3
      have l4 := hq4.mono (show w.heap.size + 1 + 1 ≤ _ from Nat.le_trans hz3 z3)
      have k1 := Own.setK (Own.setK l3 (P := w.heap.size + 1) 0 (.slice a3 xs.length k3) (by omega)) (P := w.heap.size + 1) 1 (.slice (some ⟨g4, 0, none⟩) (without ls s).length d4) (by omega)
      have k2 := OwnE.setK (OwnE.setK l4 (P := w.heap.size + 1) 0 (.slice a3 xs.length k3) (by omega)) (P := w.heap.size + 1) 1 (.slice (some ⟨g4, 0, none⟩) (without ls s).length d4) (by omega)
      have hB9 := ((below_seq hB0 hB).setCell (p := ⟨w.heap.size + 1, 0, none⟩) (by show w.heap.size ≤ w.heap.size + 1; omega) (.slice a3 xs.length k3)).setCell (p := ⟨w.heap.size + 1, 1, none⟩) (by show w.heap.size ≤ w.heap.size + 1; omega) (.slice (some ⟨g4, 0, none⟩) (without ls s).length d4)
      have hap : ∀ i, (Value.slice a3 xs.length k3).ownBlock = some i → (Value.slice (some ⟨g4, 0, none⟩) (without ls s).length d4).ownBlock ≠ some i := fun i hi e => by
        have h1 := hblk i hi
        have h2 : g4 = i := by simpa [Value.ownBlock] using e
        omega
      clear hS u0 u1 hf f0 f1 hR4 l3 l4 hq3 hq4
      go_wp2_with fail
      refine bodyPost_ret (v := .tuple #[.agg #[.slice a3 xs.length k3, .slice (some ⟨g4, 0, none⟩) (without ls s).length d4], .int .i64 0]) ?_ rfl ⟨a3, xs.length, k3, _, _, d4, rfl, k1.mono (by omega), k2.mono (by omega), hap, hB9⟩
      simp [results, Try.results21, go_sem, hR5.1, hR5.2]
    · have i0 : (200 : Int) < (s.size : Int) := by omega
      rw [if_pos rfl, if_neg h200, if_pos rfl, if_neg h200, if_pos rfl, if_neg h200]
      go_enter Try.func21, Try.ntmps21
      go_wp2_with fail
      refine h1.mono ?_
      rintro e w1 ⟨rfl, hB⟩
      have HR : Hid (Dy w1 (w.heap.size + 1) (.slice none 0 0) (.slice none 0 0)) := (base4s hB).2
      obtain ⟨⟨u0, u1⟩, hf⟩ := HR.out
      have f0 := hf 0
      have f1 := hf 1
      have hBw := below_seq hB0 hB
      clear c0 c1
      go_wp2_with fail
      have hp := (Dy.set1 (Dy.set0 HR.out (.slice none 0 0)) (.slice none 0 0)).1
      refine bodyPost_ret (v := .tuple #[.agg #[.slice none 0 0, .slice none 0 0], .int .i64 4]) ?_ rfl (setNone 4 ((hBw.setCell (p := ⟨w.heap.size + 1, 0, none⟩) (by show w.heap.size ≤ w.heap.size + 1; omega) _).setCell (p := ⟨w.heap.size + 1, 1, none⟩) (by show w.heap.size ≤ w.heap.size + 1; omega) _))
      simp [results, Try.results21, go_sem, hp.1, hp.2]
end Go.Proofs.Ytdbipcmfolgjgaa
