/- Operations in a row of the call's own, what each counts in a block of its own: written over, each cell known. -/
import Derived.Test.YtcjlihfkibpgoaaGreatDoorQMarkOpsToCopyOps
namespace Go.Proofs.YtcjlihfkibpgoaaGreatDoor
open Go.RowKit
set_option linter.unusedVariables false

/-- The operations M lie in block g, what the i-th one counts in block G i; all of it may be written. -/
structure As (w : World) (B g : Nat) (G : Nat → Nat) (M : List Ov) : Prop where
  lo : B ≤ g
  lo' : ∀ i, i < M.length → B ≤ G i
  ne : ∀ i, i < M.length → G i ≠ g
  inj : ∀ i j, i < M.length → j < M.length → i ≠ j → G i ≠ G j
  hi : g < w.heap.size
  hi' : ∀ i, i < M.length → G i < w.heap.size
  row : ∀ i, i < M.length → OpAt w g (i * 12) (ovAt M i)
  rth : w.there g 0 (M.length * 12)
  dvs : ∀ i, i < M.length → (ovAt M i).dv = .slice (some ⟨G i, 0, none⟩) 16 16
  len : ∀ i, i < M.length → (ovAt M i).ds.length = 16
  are : ∀ i, i < M.length → w.rangeAt (G i) 0 ((ovAt M i).ds.map (Value.int .i64))
  ath : ∀ i, i < M.length → w.there (G i) 0 16
theorem As.rd {w : World} {B g c : Nat} {G : Nat → Nat} {M : List Ov} (h : As w B g G M) (hc : M.length ≤ c) (hm : c ≤ maxLen) : RdO w.heap.size w (.slice (some ⟨g, 0, none⟩) M.length c) M := by
  refine ⟨⟨_, _, rfl, hc, hm, fun e => (by cases e), fun _ => ⟨g, 0, rfl, h.hi, fun k hk => by rw [Nat.zero_add]; exact h.row k hk⟩⟩, fun x hx => ?_⟩
  obtain ⟨i, hi, e⟩ := List.getElem_of_mem hx
  have hx : x = ovAt M i := by have := ovAt_get hi; rw [List.getElem?_eq_getElem hi, e] at this; exact Option.some.inj this
  rw [hx, h.dvs i hi]
  have hl := h.len i hi
  refine ⟨_, 16, by rw [List.length_map, hl], by rw [List.length_map, hl]; exact Nat.le_refl _, by unfold maxLen; omega, fun e => (by cases e), fun _ => ⟨G i, 0, rfl, h.hi' i hi, fun j u hj => h.are i hi j u hj⟩⟩
theorem As.on {w w' : World} {B g : Nat} {G : Nat → Nat} {M : List Ov} (h : As w B g G M) (hs : w.heap.size ≤ w'.heap.size) (hb : ∀ b, B ≤ b → b < w.heap.size → w'.heap[b]? = w.heap[b]?) : As w' B g G M :=
  ⟨h.lo, h.lo', h.ne, h.inj, by have := h.hi; omega, fun i hi => by have := h.hi' i hi; omega, fun i hi => (h.row i hi).block (hb g h.lo h.hi), there_block h.rth (hb g h.lo h.hi), h.dvs, h.len, fun i hi j u hj => (World.cell?_of_block (w := w) (hb _ (h.lo' i hi) (h.hi' i hi))).trans (h.are i hi j u hj), fun i hi => there_block (h.ath i hi) (hb _ (h.lo' i hi) (h.hi' i hi))⟩
theorem As.below {w w' : World} {B g : Nat} {G : Nat → Nat} {M : List Ov} (h : As w B g G M) (hb : Below w.heap.size w w') : As w' B g G M := h.on hb.size fun b _ hl => hb.block b hl

/-- In the k-th operation the cells below m are those of x; all else is as it was in w0. -/
structure Id (w0 w : World) (B g : Nat) (G : Nat → Nat) (n k m : Nat) (x : Ov) : Prop where
  lo : B ≤ g
  lo' : ∀ i, i < n → B ≤ G i
  ne : ∀ i, i < n → G i ≠ g
  inj : ∀ i j, i < n → j < n → i ≠ j → G i ≠ G j
  hi : g < w0.heap.size
  hi' : ∀ i, i < n → G i < w0.heap.size
  bel : Below B w0 w
  fr : ∀ b, b < w0.heap.size → b ≠ g → b ≠ G k → w.heap[b]? = w0.heap[b]?
  rth : w.there g 0 (n * 12)
  ath : ∀ i, i < n → w.there (G i) 0 16
  oth : ∀ i, i < n → i ≠ k → ∀ j, j < 12 → w.cell? ⟨g, i * 12 + j, none⟩ = w0.cell? ⟨g, i * 12 + j, none⟩
  got : ∀ j, j < m → w.cell? ⟨g, k * 12 + j, none⟩ = x.cs[j]?
  dvc : w.cell? ⟨g, k * 12 + 3, none⟩ = some x.dv
  ag : 4 ≤ m → w.rangeAt (G k) 0 (x.ds.map (Value.int .i64))
theorem Id.cell {w0 w : World} {B g n k m : Nat} {G : Nat → Nat} {x : Ov} (h : Id w0 w B g G n k m x) (hk : k < n) (j : Nat) (hj : j < 12) : ∃ z, w.cell? ⟨g, k * 12 + j, none⟩ = some z ∧ w.frozen? ⟨g, k * 12 + j, none⟩ = false := by
  have := h.rth (k * 12 + j) (by omega)
  rw [Nat.zero_add] at this
  obtain ⟨z, hz⟩ := Option.isSome_iff_exists.1 this.1
  exact ⟨z, hz, this.2⟩
theorem Id.put {w0 w : World} {B g n k m : Nat} {G : Nat → Nat} {x : Ov} (h : Id w0 w B g G n k m x) (hk : k < n) (hm : m < 12) (h3 : m ≠ 3) (u : Value) (hu : x.cs[m]? = some u) : Id w0 (w.setCell ⟨g, k * 12 + m, none⟩ u) B g G n k (m + 1) x := by
  have other : ∀ (b o : Nat), (b ≠ g ∨ o ≠ k * 12 + m) → (w.setCell ⟨g, k * 12 + m, none⟩ u).cell? ⟨b, o, none⟩ = w.cell? ⟨b, o, none⟩ := fun b o ho => by
    rw [World.cell?_setCell_other]
    intro e
    simp only [Addr.mk.injEq] at e
    omega
  refine ⟨h.lo, h.lo', h.ne, h.inj, h.hi, h.hi', h.bel.setCell (p := ⟨g, k * 12 + m, none⟩) h.lo u, fun b hb hg hga => (heap_setCell_other w ⟨g, k * 12 + m, none⟩ b u hg).trans (h.fr b hb hg hga), World.there_setCells h.rth g (k * 12 + m) [u], fun i hi => World.there_setCells (h.ath i hi) g (k * 12 + m) [u], fun i hi hik j hj => (other _ _ (.inr (by omega))).trans (h.oth i hi hik j hj), fun j hj => ?_, (other _ _ (.inr (by omega))).trans h.dvc, fun h4 j v hj => (other _ _ (.inl (h.ne k hk))).trans (h.ag (by omega) j v hj)⟩
  by_cases e : j = m
  · subst e
    obtain ⟨z, hz, _⟩ := h.cell hk j hm
    rw [World.cell?_setCell_same _ _ _ hz, hu]
  · exact (other _ _ (.inr (by omega))).trans (h.got j (by omega))
theorem Id.mark {w0 w : World} {B g n k : Nat} {G : Nat → Nat} {x : Ov} (h : Id w0 w B g G n k 3 x) (hk : k < n) (hl : x.ds.length = 16) : Id w0 (w.setCells (G k) 0 (x.ds.map (Value.int .i64))) B g G n k 4 x := by
  have hne := h.ne k hk
  have hlen : (x.ds.map (Value.int .i64)).length = 16 := by rw [List.length_map, hl]
  have og : ∀ o, (w.setCells (G k) 0 (x.ds.map (Value.int .i64))).cell? ⟨g, o, none⟩ = w.cell? ⟨g, o, none⟩ := fun o => World.cell?_setCells_out (G k) _ _ w _ (fun e _ => absurd e.symm hne)
  refine ⟨h.lo, h.lo', h.ne, h.inj, h.hi, h.hi', below_setsC (h.lo' k hk) _ _ w h.bel, fun b hb hg hga => ?_, World.there_setCells h.rth (G k) 0 _, fun i hi => World.there_setCells (h.ath i hi) (G k) 0 _, fun i hi hik j hj => (og _).trans (h.oth i hi hik j hj), fun j hj => ?_, (og _).trans h.dvc, fun _ => ?_⟩
  · have hs := h.bel.size
    have e := (grownBy_setCells w (G k) (x.ds.map (Value.int .i64)) 0).block b (by omega) (fun he => by simp only [Option.some.injEq] at he; omega)
    exact e.trans (h.fr b hb hg hga)
  · rw [og]
    by_cases e : j = 3
    · subst e; exact h.dvc
    · exact h.got j (by omega)
  · exact World.rangeAt_setCells_same w (G k) 0 _ (by rw [hlen]; exact h.ath k hk)
theorem Id.below {w0 w w' : World} {B g n k m : Nat} {G : Nat → Nat} {x : Ov} (h : Id w0 w B g G n k m x) (hk : k < n) (hb : Below w.heap.size w w') : Id w0 w' B g G n k m x := by
  have hs := h.bel.size
  have hlo := h.lo
  have h1 := h.hi
  have bg := hb.block g (by omega)
  have ba := fun i hi => hb.block (G i) (by have := h.hi' i hi; omega)
  exact ⟨h.lo, h.lo', h.ne, h.inj, h.hi, h.hi', h.bel.trans (hb.mono (by omega)), fun b hb' hg hga => (hb.block b (by omega)).trans (h.fr b hb' hg hga), there_block h.rth bg, fun i hi => there_block (h.ath i hi) (ba i hi), fun i hi hik j hj => (World.cell?_of_block (w := w) bg).trans (h.oth i hi hik j hj), fun j hj => (World.cell?_of_block (w := w) bg).trans (h.got j hj), (World.cell?_of_block (w := w) bg).trans h.dvc, fun h4 j v hj => (World.cell?_of_block (w := w) (ba k hk)).trans (h.ag h4 j v hj)⟩
theorem As.start {w : World} {B g : Nat} {G : Nat → Nat} {M : List Ov} (h : As w B g G M) {k : Nat} (hk : k < M.length) (x : Ov) (hx : x.dv = (ovAt M k).dv) : Id w w B g G M.length k 0 x :=
  ⟨h.lo, h.lo', h.ne, h.inj, h.hi, h.hi', Below.refl _ _, fun _ _ _ _ => rfl, h.rth, h.ath, fun _ _ _ _ _ => rfl, fun j hj => absurd hj (by omega), by rw [hx]; exact (h.row k hk).c3, fun h4 => absurd h4 (by omega)⟩
theorem Id.fin {w0 w : World} {B g : Nat} {G : Nat → Nat} {M : List Ov} {k : Nat} {x : Ov} (h : Id w0 w B g G M.length k 12 x) (h0 : As w0 B g G M) (hk : k < M.length) (hx : x.dv = (ovAt M k).dv) (hl : x.ds.length = 16) : As w B g G (M.set k x) := by
  have hs := h.bel.size
  refine ⟨h.lo, fun i hi => ?_, fun i hi => ?_, fun i j hi hj => ?_, by have := h.hi; omega, fun i hi => ?_, fun i hi => ?_, by rw [List.length_set]; exact h.rth, fun i hi => ?_, fun i hi => ?_, fun i hi => ?_, fun i hi => ?_⟩
  all_goals rw [List.length_set] at hi
  · exact h.lo' i hi
  · exact h.ne i hi
  · rw [List.length_set] at hj; exact h.inj i j hi hj
  · have := h.hi' i hi; omega
  · rw [ovAt_set hk]
    by_cases e : i = k
    · subst e
      rw [if_pos rfl]
      exact opAt_cs h.got
    · rw [if_neg e]
      exact opAt_cs fun j hj => (h.oth i hi e j hj).trans ((h0.row i hi).cs j hj)
  · rw [ovAt_set hk]
    by_cases e : i = k
    · subst e
      rw [if_pos rfl, hx]
      exact h0.dvs i hi
    · rw [if_neg e]; exact h0.dvs i hi
  · rw [ovAt_set hk]
    by_cases e : i = k
    · subst e; rw [if_pos rfl]; exact hl
    · rw [if_neg e]; exact h0.len i hi
  · rw [ovAt_set hk]
    by_cases e : i = k
    · subst e; rw [if_pos rfl]; exact h.ag (by omega)
    · rw [if_neg e]
      exact fun j v hj => (World.cell?_of_block (w := w0) (h.fr (G i) (h.hi' i hi) (h.ne i hi) (h.inj i k hi hk e))).trans (h0.are i hi j v hj)
  · exact h.ath i hi

set_option maxHeartbeats 4000000 in
set_option maxRecDepth 100000 in
theorem markOpS_as (w : World) (B g c q : Nat) (G : Nat → Nat) (M : List Ov) (hn : M.length ≤ 1048576) (hq : q ≤ 4398046511104) (h : As w B g G M) :
    Calls Tryz.prog 10 #[.slice (some ⟨g, 0, none⟩) M.length c, .int .i64 (q : Int)] w fun e w' => e = .returned (.int .i64 ((q + 27 * M.length : Nat) : Int)) ∧ As w' B g G (mkL q M M.length) ∧ Below B w w' ∧ (∀ b, b < w.heap.size → b ≠ g → (∀ i, i < M.length → b ≠ G i) → w'.heap[b]? = w.heap[b]?) := by
  have HI0 : Hid (As w B g G (mkL q M 0)) := h
  have HDV : Hid (∀ i, i < M.length → (ovAt M i).dv = .slice (some ⟨G i, 0, none⟩) 16 16) := h.dvs
  clear h
  go_enter Tryz.func10, Tryz.ntmps10
  go_wp2_with fail
  go_loopw [1, 5] (fun tq ti wr => ∃ k : Nat, k ≤ M.length ∧ ti = .int .i64 (k : Int) ∧ tq = .int .i64 ((q + 27 * k : Nat) : Int) ∧ Hid (As wr B g G (mkL q M k) ∧ Below B w wr ∧ (∀ b, b < w.heap.size → b ≠ g → (∀ i, i < M.length → b ≠ G i) → wr.heap[b]? = w.heap[b]?))) (fun _ ti _ => M.length - (intOf ti).toNat)
  case atStart => exact ⟨0, Nat.zero_le _, rfl, rfl, HI0.out, Below.refl _ _, fun _ _ _ _ => rfl⟩
  case round =>
    clear HI0
    obtain ⟨k, hk, rfl, rfl, HI⟩ := hrel
    by_cases hlt : k < M.length
    · have j1 : (k : Int) < (M.length : Int) := by omega
      have hkl : k < (mkL q M k).length := by rw [mkL_len]; exact hlt
      have hdk : (mkOv (q + 27 * k) (ovAt M k).dv).dv = (ovAt (mkL q M k) k).dv := by rw [mkL_at q M k hk, if_neg (by omega)]; rfl
      have HS : Hid (Id wr wr B g G M.length k 0 (mkOv (q + 27 * k) (ovAt M k).dv)) := by
        have := HI.out.1.start hkl _ hdk
        rwa [mkL_len] at this
      have HFIN : Hid (∀ w9, Id wr w9 B g G M.length k 12 (mkOv (q + 27 * k) (ovAt M k).dv) → As w9 B g G (mkL q M (k + 1)) ∧ Below B w w9 ∧ (∀ b, b < w.heap.size → b ≠ g → (∀ i, i < M.length → b ≠ G i) → w9.heap[b]? = w.heap[b]?)) := fun w9 h9 => by
        have h9' := h9
        rw [← mkL_len q M k] at h9
        have hbs := HI.out.2.1.size
        exact ⟨h9.fin HI.out.1 hkl hdk (marksI_len _ _), HI.out.2.1.trans h9'.bel, fun b hb hg hga => (h9'.fr b (by omega) hg (hga k hlt)).trans (HI.out.2.2 b hb hg hga)⟩
      clear HI hkl hdk
      rw [HDV.out k hlt] at HS HFIN
      obtain ⟨m, hm⟩ : ∃ m : Nat, q + 27 * k = m := ⟨_, rfl⟩
      have hmb : m ≤ 8796093022208 := by omega
      have HQ : Hid (((q + 27 * (k + 1) : Nat) : Int) = ((m + 27 : Nat) : Int)) := by show _ = _; omega
      rw [hm] at HS HFIN ⊢
      obtain ⟨x, hx⟩ : ∃ x : Int, (m : Int) = x := ⟨_, rfl⟩
      have HX : Hid ((m : Int) = x) := hx
      rw [hx]
      have hx0 : 0 ≤ x := by omega
      have hm0 : x + 1 + 1 + 1 < 9223372036854775808 := by omega
      clear hx hm
      obtain ⟨z0, c0, f0⟩ := HS.out.cell hlt 0 (by omega)
      obtain ⟨z1, c1, f1⟩ := HS.out.cell hlt 1 (by omega)
      obtain ⟨z2, c2, f2⟩ := HS.out.cell hlt 2 (by omega)
      have c3 : wr.cell? ⟨g, k * 12 + 3, none⟩ = some (.slice (some ⟨G k, 0, none⟩) 16 16) := HS.out.dvc
      rw [Nat.add_zero] at c0 f0
      have H1 : Hid (Id wr (((wr.setCell ⟨g, k * 12, none⟩ (.int .i64 x)).setCell ⟨g, k * 12 + 1, none⟩ (.int .i64 (x + 1))).setCell ⟨g, k * 12 + 2, none⟩ (.int .i64 (x + 1 + 1))) B g G M.length k 3 (mkOv m (.slice (some ⟨G k, 0, none⟩) 16 16))) :=
        ((HS.out.put hlt (by omega) (by omega) (.int .i64 x) (by rw [← HX.out]; rfl)).put hlt (by omega) (by omega) (.int .i64 (x + 1)) (by rw [← HX.out]; rfl)).put hlt (by omega) (by omega) (.int .i64 (x + 1 + 1)) (by rw [← HX.out]; show some (Value.int .i64 ((m + 2 : Nat) : Int)) = _; congr 2)
      have hath : (((wr.setCell ⟨g, k * 12, none⟩ (.int .i64 x)).setCell ⟨g, k * 12 + 1, none⟩ (.int .i64 (x + 1))).setCell ⟨g, k * 12 + 2, none⟩ (.int .i64 (x + 1 + 1))).there (G k) 0 16 := H1.out.ath k hlt
      have hM := markIntR_any _ (G k) 0 16 16 (m + 3) (by omega) (by omega) hath
      rw [show ((m + 3 : Nat) : Int) = x + 1 + 1 + 1 by have := HX.out; omega, show ((m + 3 + 16 : Nat) : Int) = x + 19 by have := HX.out; omega] at hM
      have H2 : Hid (Id wr ((((wr.setCell ⟨g, k * 12, none⟩ (.int .i64 x)).setCell ⟨g, k * 12 + 1, none⟩ (.int .i64 (x + 1))).setCell ⟨g, k * 12 + 2, none⟩ (.int .i64 (x + 1 + 1))).setCells (G k) 0 ((marksI (m + 3) 16).map (Value.int .i64))) B g G M.length k 4 (mkOv m (.slice (some ⟨G k, 0, none⟩) 16 16))) := H1.out.mark hlt (marksI_len _ _)
      clear H1 hath HS
      go_wp2_with fail
      refine hM.mono ?_
      clear hM c0 c1 c2 c3 f0 f1 f2
      rintro e w2 ⟨rfl, hw2⟩
      rw [← hw2] at H2
      clear hw2 hm0
      have HY : Hid (∃ y, y = x + 19) := ⟨_, rfl⟩
      obtain ⟨y, hy⟩ := HY.out
      have HYM : Hid (y = ((m + 19 : Nat) : Int)) := by have := HX.out; unfold Hid; omega
      rw [← hy]
      clear hy HY HX
      have hy0 : 0 ≤ y := by have := HYM.out; omega
      have hym : y + 1 + 1 + 1 + 1 + 1 + 1 + 1 + 1 < 9223372036854775808 := by have := HYM.out; omega
      obtain ⟨z4, c4, f4⟩ := H2.out.cell hlt 4 (by omega)
      obtain ⟨z5, c5, f5⟩ := H2.out.cell hlt 5 (by omega)
      obtain ⟨z6, c6, f6⟩ := H2.out.cell hlt 6 (by omega)
      obtain ⟨z7, c7, f7⟩ := H2.out.cell hlt 7 (by omega)
      obtain ⟨z8, c8, f8⟩ := H2.out.cell hlt 8 (by omega)
      obtain ⟨z9, c9, f9⟩ := H2.out.cell hlt 9 (by omega)
      have H3 : Hid (Id wr ((((((w2.setCell ⟨g, k * 12 + 4, none⟩ (.int .i64 y)).setCell ⟨g, k * 12 + 5, none⟩ (.int .i64 (y + 1))).setCell ⟨g, k * 12 + 6, none⟩ (.int .i64 (y + 1 + 1))).setCell ⟨g, k * 12 + 7, none⟩ (.int .i64 (y + 1 + 1 + 1))).setCell ⟨g, k * 12 + 8, none⟩ (.int .i64 (y + 1 + 1 + 1 + 1))).setCell ⟨g, k * 12 + 9, none⟩ (.int .i64 (y + 1 + 1 + 1 + 1 + 1))) B g G M.length k 10 (mkOv m (.slice (some ⟨G k, 0, none⟩) 16 16))) :=
        (((((H2.out.put hlt (by omega) (by omega) (.int .i64 y) (by rw [HYM.out]; rfl)).put hlt (by omega) (by omega) (.int .i64 (y + 1)) (by rw [HYM.out]; show some (Value.int .i64 ((m + 20 : Nat) : Int)) = _; congr 2)).put hlt (by omega) (by omega) (.int .i64 (y + 1 + 1)) (by rw [HYM.out]; show some (Value.int .i64 ((m + 21 : Nat) : Int)) = _; congr 2)).put hlt (by omega) (by omega) (.int .i64 (y + 1 + 1 + 1)) (by rw [HYM.out]; show some (Value.int .i64 ((m + 22 : Nat) : Int)) = _; congr 2)).put hlt (by omega) (by omega) (.int .i64 (y + 1 + 1 + 1 + 1)) (by rw [HYM.out]; show some (Value.int .i64 ((m + 23 : Nat) : Int)) = _; congr 2)).put hlt (by omega) (by omega) (.int .i64 (y + 1 + 1 + 1 + 1 + 1)) (by rw [HYM.out]; show some (Value.int .i64 ((m + 24 : Nat) : Int)) = _; congr 2)
      have hT1 := fun w => markTextN (m + 25) (y + 1 + 1 + 1 + 1 + 1 + 1) (by have := HYM.out; omega) (by omega) w
      have hT2 := fun w => markTextN (m + 26) (y + 1 + 1 + 1 + 1 + 1 + 1 + 1) (by have := HYM.out; omega) (by omega) w
      clear H2
      go_wp2_with fail
      refine (hT1 _).mono ?_
      clear hT1 c4 c5 c6 c7 c8 c9 f4 f5 f6 f7 f8 f9
      rintro e w4 ⟨rfl, hb4⟩
      have H4 := H3.out.below hlt hb4
      clear H3 hb4
      obtain ⟨z10, c10, f10⟩ := H4.cell hlt 10 (by omega)
      have H5 : Hid (Id wr (w4.setCell ⟨g, k * 12 + 10, none⟩ (.string (mt (m + 25)))) B g G M.length k 11 (mkOv m (.slice (some ⟨G k, 0, none⟩) 16 16))) := H4.put hlt (by omega) (by omega) _ rfl
      clear H4
      go_wp2_with fail
      refine (hT2 _).mono ?_
      clear hT2 c10 f10
      rintro e w6 ⟨rfl, hb6⟩
      have H6 := H5.out.below hlt hb6
      clear H5 hb6
      obtain ⟨z11, c11, f11⟩ := H6.cell hlt 11 (by omega)
      have H7 : Hid (Id wr (w6.setCell ⟨g, k * 12 + 11, none⟩ (.string (mt (m + 26)))) B g G M.length k 12 (mkOv m (.slice (some ⟨G k, 0, none⟩) 16 16))) := H6.put hlt (by omega) (by omega) _ rfl
      have H8 : Hid _ := HFIN.out _ H7.out
      clear H6 H7 HFIN
      go_wp2_with fail
      go_roundw
      case rel => exact ⟨k + 1, by omega, by go_num, by rw [HQ.out]; congr 1; have := HYM.out; omega, H8⟩
      case measure => simp [intOf]; omega
    · have j1 : ¬ (k : Int) < (M.length : Int) := by omega
      obtain rfl : k = M.length := by omega
      go_wp2_with fail
      go_ret
      exact ⟨rfl, HI.out.1, HI.out.2.1, HI.out.2.2⟩
end Go.Proofs.YtcjlihfkibpgoaaGreatDoor
