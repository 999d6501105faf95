/- The laws' own functions over operations: a list of the call's own is written over; all else is as it was. Operations in a row of the call's own, what they count parted from one arena: written over, each cell known. The functions of opNumbers at an operation of a row; the function of each column, and what it reads. The code's newOps: operations with room for what they count, parted from one arena. The code's copyOps: valid operations in new memory. -/
import Derived.Deep.MidRow
import Derived.Test.YtmmkmkaannlkhaaGreatDoorQOpToToLogSame
import Derived.Test.YtmmkmkaannlkhaaGreatDoorQTextsCells
import Derived.Test.YtmmkmkaannlkhaaGreatDoorQInfoToLawAt
import Derived.Test.YtmmkmkaannlkhaaGreatDoorQEncodeToOpBytesCode
namespace Go.Proofs.YtmmkmkaannlkhaaGreatDoor
open Go.RowKit
set_option linter.unusedVariables false

theorem setCells_snoc (b : Nat) (v : Value) : ∀ (vs : List Value) (o : Nat) (w : World), w.setCells b o (vs ++ [v]) = (w.setCells b o vs).setCell ⟨b, o + vs.length, none⟩ v
  | [], o, w => rfl
  | u :: vs, o, w => by
    show (w.setCell ⟨b, o, none⟩ u).setCells b (o + 1) (vs ++ [v]) = ((w.setCell ⟨b, o, none⟩ u).setCells b (o + 1) vs).setCell ⟨b, o + (vs.length + 1), none⟩ v
    rw [setCells_snoc b v vs (o + 1), show o + 1 + vs.length = o + (vs.length + 1) by omega]
theorem size_setCells (b : Nat) : ∀ (vs : List Value) (o : Nat) (w : World), (w.setCells b o vs).heap.size = w.heap.size
  | [], o, w => rfl
  | u :: vs, o, w => by
    show ((w.setCell ⟨b, o, none⟩ u).setCells b (o + 1) vs).heap.size = w.heap.size
    rw [size_setCells b vs, World.size_setCell]
theorem marksI_snoc (q k : Nat) : marksI q (k + 1) = marksI q k ++ [((q + k : Nat) : Int)] := by simp [marksI, List.range_succ]

/-- A row of n operations in block g that may be written, and what they count (dv); all that lies outside the blocks from B up to D is as it was in w0. -/
structure Iv (w0 w : World) (B D g n : Nat) (dv : Nat → Value) : Prop where
  bel : Below B w0 w
  lo : B ≤ g
  hi : g < D
  big : D ≤ w0.heap.size
  fr : ∀ b, D ≤ b → b < w0.heap.size → w.heap[b]? = w0.heap[b]?
  row : w.there g 0 (n * 12)
  dvs : ∀ i, i < n → w.cell? ⟨g, i * 12 + 3, none⟩ = some (dv i)
  dth : ∀ i, i < n → ∃ a len cap, dv i = .slice a len cap ∧ len ≤ 1048576 ∧ (0 < len → ∃ gd od, a = some ⟨gd, od, none⟩ ∧ gd ≠ g ∧ B ≤ gd ∧ gd < D ∧ w.there gd od len)
theorem below_setsC {B : Nat} {a : World} {b : Nat} (hb : B ≤ b) : ∀ (vs : List Value) (o : Nat) (w : World), Below B a w → Below B a (w.setCells b o vs)
  | [], _, _, h => h
  | v :: vs, o, w, h => below_setsC hb vs (o + 1) _ (h.setCell (p := ⟨b, o, none⟩) hb v)
theorem Iv.cell {w0 w : World} {B D g n : Nat} {dv : Nat → Value} (h : Iv w0 w B D g n dv) {k : Nat} (hk : k < n) (j : Nat) (hj : j < 12) : ∃ z, w.cell? ⟨g, k * 12 + j, none⟩ = some z ∧ w.frozen? ⟨g, k * 12 + j, none⟩ = false := by
  have := h.row (k * 12 + j) (by omega)
  rw [Nat.zero_add] at this
  obtain ⟨z, hz⟩ := Option.isSome_iff_exists.1 this.1
  exact ⟨z, hz, this.2⟩
theorem Iv.set {w0 w : World} {B D g n : Nat} {dv : Nat → Value} (h : Iv w0 w B D g n dv) {k j : Nat} (hj : j < 12) (h3 : j ≠ 3) (v : Value) : Iv w0 (w.setCell ⟨g, k * 12 + j, none⟩ v) B D g n dv := by
  have hlo := h.lo
  have hhi := h.hi
  refine ⟨h.bel.setCell (p := ⟨g, k * 12 + j, none⟩) h.lo v, h.lo, h.hi, h.big, fun b hb hl => (heap_setCell_other w ⟨g, k * 12 + j, none⟩ b v (by show b ≠ g; omega)).trans (h.fr b hb hl), World.there_setCells h.row g (k * 12 + j) [v], fun i hi => ?_, fun i hi => ?_⟩
  · rw [World.cell?_setCell_other]
    · exact h.dvs i hi
    · intro e
      simp only [Addr.mk.injEq] at e
      omega
  · obtain ⟨a, len, cap, e, hl, hr⟩ := h.dth i hi
    refine ⟨a, len, cap, e, hl, fun hp => ?_⟩
    obtain ⟨gd, od, ea, hne, h1, h2, ht⟩ := hr hp
    exact ⟨gd, od, ea, hne, h1, h2, World.there_setCells ht g (k * 12 + j) [v]⟩
theorem Iv.sets {w0 w : World} {B D g n : Nat} {dv : Nat → Value} (h : Iv w0 w B D g n dv) {gd : Nat} (hne : gd ≠ g) (h1 : B ≤ gd) (h2 : gd < D) (od : Nat) (vs : List Value) : Iv w0 (w.setCells gd od vs) B D g n dv := by
  refine ⟨below_setsC h1 vs od w h.bel, h.lo, h.hi, h.big, fun b hb hl => ?_, World.there_setCells h.row gd od vs, fun i hi => ?_, fun i hi => ?_⟩
  · have := h.bel.size
    have e := (grownBy_setCells w gd vs od).block b (by omega) (fun he => by simp only [Option.some.injEq] at he; omega)
    exact e.trans (h.fr b hb hl)
  · rw [World.cell?_setCells_out]
    · exact h.dvs i hi
    · intro e
      exact absurd e.symm hne
  · obtain ⟨a, len, cap, e, hl, hr⟩ := h.dth i hi
    refine ⟨a, len, cap, e, hl, fun hp => ?_⟩
    obtain ⟨gd', od', ea, hne', h1', h2', ht⟩ := hr hp
    exact ⟨gd', od', ea, hne', h1', h2', World.there_setCells ht gd od vs⟩
theorem there_block {w w' : World} {b o n : Nat} (h : w.there b o n) (hb : w'.heap[b]? = w.heap[b]?) : w'.there b o n := fun j hj => by
  have := h j hj
  rw [World.cell?_of_block (w := w) (w' := w') hb]
  refine ⟨this.1, ?_⟩
  have h2 := this.2
  unfold World.frozen? at h2 ⊢
  simp only at h2 ⊢
  rw [hb]
  exact h2
theorem Iv.below {w0 w w' : World} {B D g n : Nat} {dv : Nat → Value} (h : Iv w0 w B D g n dv) (hb : Below w.heap.size w w') : Iv w0 w' B D g n dv := by
  have hs := h.bel.size
  have hD := h.big
  have hg := h.hi
  have hlo := h.lo
  have hbs := hb.size
  refine ⟨h.bel.trans (hb.mono (by omega)), h.lo, h.hi, h.big, fun b hb' hl => (hb.block b (by omega)).trans (h.fr b hb' hl), there_block h.row (hb.block g (by omega)), fun i hi => (hb.cell (p := ⟨g, i * 12 + 3, none⟩) (by show g < w.heap.size; omega)).trans (h.dvs i hi), fun i hi => ?_⟩
  obtain ⟨a, len, cap, e, hl, hr⟩ := h.dth i hi
  refine ⟨a, len, cap, e, hl, fun hp => ?_⟩
  obtain ⟨gd, od, ea, hne, h1, h2, ht⟩ := hr hp
  exact ⟨gd, od, ea, hne, h1, h2, there_block ht (hb.block gd (by omega))⟩
/-- The same, where what lies from B on is as it was. -/
theorem Iv.moved {w w' : World} {B D g n : Nat} {dv : Nat → Value} (h : Iv w w B D g n dv) (hs : w.heap.size ≤ w'.heap.size) (hb : ∀ b, B ≤ b → b < w.heap.size → w'.heap[b]? = w.heap[b]?) : Iv w' w' B D g n dv := by
  have hg : w'.heap[g]? = w.heap[g]? := hb g h.lo (by have := h.hi; have := h.big; omega)
  refine ⟨Below.refl _ _, h.lo, h.hi, by have := h.big; omega, fun b _ _ => rfl, there_block h.row hg, fun i hi => (World.cell?_of_block (w := w) hg).trans (h.dvs i hi), fun i hi => ?_⟩
  obtain ⟨a, len, cap, e, hl, hp⟩ := h.dth i hi
  refine ⟨a, len, cap, e, hl, fun h0 => ?_⟩
  obtain ⟨gd, od, ea, h1, h2, h3, h4⟩ := hp h0
  exact ⟨gd, od, ea, h1, h2, h3, there_block h4 (hb gd h2 (by have := h.big; omega))⟩
theorem RowO.iv {w0 w : World} {B g n : Nat} {M : List Ov} (h : RowO w0 B g n M) (hn : M.length = n) (hd : ∀ x ∈ M, x.ds.length ≤ 1048576) (hb : Below w0.heap.size w0 w) : Iv w w B w0.heap.size g n (fun i => (ovAt M i).dv) := by
  have hlt := h.lt
  have hs := hb.size
  have h' := h.on hb
  refine ⟨Below.refl _ _, hlt.1, hlt.2, hs, fun _ _ _ => rfl, ?_, fun i hi => ?_, fun i hi => ?_⟩
  · obtain ⟨⟨xs, ho, _⟩, _⟩ := h'
    have hl := ho.1
    intro j hj
    rw [Nat.zero_add, World.ownsRow.cellAt ho _ (by omega), List.getElem?_eq_getElem (by omega)]
    exact ⟨rfl, World.ownsRow.frozenAt ho _⟩
  · obtain ⟨⟨xs, ho, hx⟩, _⟩ := h'
    have hl := ho.1
    rw [World.ownsRow.cellAt ho _ (by omega), hx _ (by omega), rowCs_at M i 3 (by omega) (by omega)]
    rfl
  · have hm := ovAt_mem (L := M) (k := i) (by omega)
    have ho := h.deps _ hm
    have ho' := h'.deps _ hm
    obtain ⟨ao, cap, e, hr⟩ := ho.slice
    refine ⟨ao, _, cap, e, by rw [List.length_map]; exact hd _ hm, fun hp => ?_⟩
    obtain ⟨gd, rfl⟩ := hr hp
    rw [e] at ho ho'
    have h1 := World.ownsRow.lt ho gd rfl
    refine ⟨gd, 0, rfl, by omega, by omega, h1.2, fun j hj => ?_⟩
    rw [Nat.zero_add, own_cell ho' hj]
    exact ⟨rfl, own_free ho' j⟩
end Go.Proofs.YtmmkmkaannlkhaaGreatDoor

namespace Go.Proofs.YtmmkmkaannlkhaaGreatDoor
open Go.RowKit
set_option linter.unusedVariables false

/-- The operations M lie in block g, what they count in block ga, sixteen cells each; all of it may be written. -/
structure Ar (w : World) (B g ga : Nat) (M : List Ov) : Prop where
  lo : B ≤ g
  lo' : B ≤ ga
  ne : ga ≠ g
  hi : g < w.heap.size
  hi' : ga < w.heap.size
  row : ∀ i, i < M.length → OpAt w g (i * 12) (ovAt M i)
  rth : w.there g 0 (M.length * 12)
  dvs : ∀ i, i < M.length → (ovAt M i).dv = .slice (some ⟨ga, i * 16, none⟩) 16 16
  len : ∀ i, i < M.length → (ovAt M i).ds.length = 16
  are : ∀ i, i < M.length → w.rangeAt ga (i * 16) ((ovAt M i).ds.map (Value.int .i64))
  ath : w.there ga 0 (M.length * 16)
theorem Ar.rd {w : World} {B g ga : Nat} {M : List Ov} (h : Ar w B g ga M) (hm : M.length ≤ maxLen) : RdO w.heap.size w (.slice (some ⟨g, 0, none⟩) M.length M.length) M := by
  refine ⟨⟨_, _, rfl, Nat.le_refl _, hm, fun e => (by cases e), fun _ => ⟨g, 0, rfl, h.hi, fun k hk => by rw [Nat.zero_add]; exact h.row k hk⟩⟩, fun x hx => ?_⟩
  obtain ⟨i, hi, e⟩ := List.getElem_of_mem hx
  have hx : x = ovAt M i := by have := ovAt_get hi; rw [List.getElem?_eq_getElem hi, e] at this; exact Option.some.inj this
  rw [hx, h.dvs i hi]
  have hl := h.len i hi
  refine ⟨_, 16, by rw [List.length_map, hl], by rw [List.length_map, hl]; exact Nat.le_refl _, by unfold maxLen; omega, fun e => (by cases e), fun _ => ⟨ga, i * 16, rfl, h.hi', fun j u hj => h.are i hi j u hj⟩⟩
theorem Ar.on {w w' : World} {B g ga : Nat} {M : List Ov} (h : Ar w B g ga M) (hs : w.heap.size ≤ w'.heap.size) (hg : w'.heap[g]? = w.heap[g]?) (hga : w'.heap[ga]? = w.heap[ga]?) : Ar w' B g ga M :=
  ⟨h.lo, h.lo', h.ne, by have := h.hi; omega, by have := h.hi'; omega, fun i hi => (h.row i hi).block hg, there_block h.rth hg, h.dvs, h.len, fun i hi j u hj => (World.cell?_of_block (w := w) hga).trans (h.are i hi j u hj), there_block h.ath hga⟩
theorem Ar.below {w w' : World} {B g ga : Nat} {M : List Ov} (h : Ar w B g ga M) (hb : Below w.heap.size w w') : Ar w' B g ga M := h.on hb.size (hb.block g h.hi) (hb.block ga h.hi')

/-- In the k-th operation the cells below m are those of x; all else is as it was in w0. -/
structure Ic (w0 w : World) (B g ga n k m : Nat) (x : Ov) : Prop where
  lo : B ≤ g
  lo' : B ≤ ga
  ne : ga ≠ g
  hi : g < w0.heap.size
  hi' : ga < w0.heap.size
  bel : Below B w0 w
  fr : ∀ b, b < w0.heap.size → b ≠ g → b ≠ ga → w.heap[b]? = w0.heap[b]?
  rth : w.there g 0 (n * 12)
  ath : w.there ga 0 (n * 16)
  oth : ∀ i, i < n → i ≠ k → ∀ j, j < 12 → w.cell? ⟨g, i * 12 + j, none⟩ = w0.cell? ⟨g, i * 12 + j, none⟩
  got : ∀ j, j < m → w.cell? ⟨g, k * 12 + j, none⟩ = x.cs[j]?
  dvc : w.cell? ⟨g, k * 12 + 3, none⟩ = some x.dv
  ao : ∀ i, i < n → i ≠ k → ∀ j, j < 16 → w.cell? ⟨ga, i * 16 + j, none⟩ = w0.cell? ⟨ga, i * 16 + j, none⟩
  ag : 4 ≤ m → w.rangeAt ga (k * 16) (x.ds.map (Value.int .i64))
theorem Ic.cell {w0 w : World} {B g ga n k m : Nat} {x : Ov} (h : Ic w0 w B g ga n k m x) (hk : k < n) (j : Nat) (hj : j < 12) : ∃ z, w.cell? ⟨g, k * 12 + j, none⟩ = some z ∧ w.frozen? ⟨g, k * 12 + j, none⟩ = false := by
  have := h.rth (k * 12 + j) (by omega)
  rw [Nat.zero_add] at this
  obtain ⟨z, hz⟩ := Option.isSome_iff_exists.1 this.1
  exact ⟨z, hz, this.2⟩
theorem Ic.put {w0 w : World} {B g ga n k m : Nat} {x : Ov} (h : Ic w0 w B g ga n k m x) (hk : k < n) (hm : m < 12) (h3 : m ≠ 3) (u : Value) (hu : x.cs[m]? = some u) : Ic w0 (w.setCell ⟨g, k * 12 + m, none⟩ u) B g ga n k (m + 1) x := by
  have hne := h.ne
  have other : ∀ (b o : Nat), (b ≠ g ∨ o ≠ k * 12 + m) → (w.setCell ⟨g, k * 12 + m, none⟩ u).cell? ⟨b, o, none⟩ = w.cell? ⟨b, o, none⟩ := fun b o ho => by
    rw [World.cell?_setCell_other]
    intro e
    simp only [Addr.mk.injEq] at e
    omega
  refine ⟨h.lo, h.lo', h.ne, h.hi, h.hi', h.bel.setCell (p := ⟨g, k * 12 + m, none⟩) h.lo u, fun b hb hg hga => (heap_setCell_other w ⟨g, k * 12 + m, none⟩ b u hg).trans (h.fr b hb hg hga), World.there_setCells h.rth g (k * 12 + m) [u], World.there_setCells h.ath g (k * 12 + m) [u], fun i hi hik j hj => (other _ _ (.inr (by omega))).trans (h.oth i hi hik j hj), fun j hj => ?_, (other _ _ (.inr (by omega))).trans h.dvc, fun i hi hik j hj => (other _ _ (.inl hne)).trans (h.ao i hi hik j hj), fun h4 j v hj => (other _ _ (.inl hne)).trans (h.ag (by omega) j v hj)⟩
  by_cases e : j = m
  · subst e
    obtain ⟨z, hz, _⟩ := h.cell hk j hm
    rw [World.cell?_setCell_same _ _ _ hz, hu]
  · exact (other _ _ (.inr (by omega))).trans (h.got j (by omega))
theorem Ic.mark {w0 w : World} {B g ga n k : Nat} {x : Ov} (h : Ic w0 w B g ga n k 3 x) (hk : k < n) (hl : x.ds.length = 16) : Ic w0 (w.setCells ga (k * 16) (x.ds.map (Value.int .i64))) B g ga n k 4 x := by
  have hne := h.ne
  have hlen : (x.ds.map (Value.int .i64)).length = 16 := by rw [List.length_map, hl]
  have og : ∀ o, (w.setCells ga (k * 16) (x.ds.map (Value.int .i64))).cell? ⟨g, o, none⟩ = w.cell? ⟨g, o, none⟩ := fun o => World.cell?_setCells_out ga _ _ w _ (fun e _ => absurd e.symm hne)
  refine ⟨h.lo, h.lo', h.ne, h.hi, h.hi', below_setsC h.lo' _ _ w h.bel, fun b hb hg hga => ?_, World.there_setCells h.rth ga (k * 16) _, World.there_setCells h.ath ga (k * 16) _, fun i hi hik j hj => (og _).trans (h.oth i hi hik j hj), fun j hj => ?_, (og _).trans h.dvc, fun i hi hik j hj => ?_, fun _ => ?_⟩
  · have hs := h.bel.size
    have e := (grownBy_setCells w ga (x.ds.map (Value.int .i64)) (k * 16)).block b (by omega) (fun he => by simp only [Option.some.injEq] at he; omega)
    exact e.trans (h.fr b hb hg hga)
  · rw [og]
    by_cases e : j = 3
    · subst e; exact h.dvc
    · exact h.got j (by omega)
  · refine (World.cell?_setCells_out ga _ _ w _ (fun _ _ => ?_)).trans (h.ao i hi hik j hj)
    show i * 16 + j < k * 16 ∨ k * 16 + (x.ds.map (Value.int .i64)).length ≤ i * 16 + j
    rw [hlen]
    omega
  · refine World.rangeAt_setCells_same w ga (k * 16) _ (fun j hj => ?_)
    have := h.ath (k * 16 + j) (by omega)
    rwa [Nat.zero_add] at this
theorem Ic.below {w0 w w' : World} {B g ga n k m : Nat} {x : Ov} (h : Ic w0 w B g ga n k m x) (hb : Below w.heap.size w w') : Ic w0 w' B g ga n k m x := by
  have hs := h.bel.size
  have hlo := h.lo
  have h1 := h.hi
  have h2 := h.hi'
  have bg := hb.block g (by omega)
  have ba := hb.block ga (by omega)
  exact ⟨h.lo, h.lo', h.ne, h.hi, h.hi', h.bel.trans (hb.mono (by omega)), fun b hb' hg hga => (hb.block b (by omega)).trans (h.fr b hb' hg hga), there_block h.rth bg, there_block h.ath ba, fun i hi hik j hj => (World.cell?_of_block (w := w) bg).trans (h.oth i hi hik j hj), fun j hj => (World.cell?_of_block (w := w) bg).trans (h.got j hj), (World.cell?_of_block (w := w) bg).trans h.dvc, fun i hi hik j hj => (World.cell?_of_block (w := w) ba).trans (h.ao i hi hik j hj), fun h4 j v hj => (World.cell?_of_block (w := w) ba).trans (h.ag h4 j v hj)⟩
theorem ovAt_set {M : List Ov} {k : Nat} (hk : k < M.length) (x : Ov) (i : Nat) : ovAt (M.set k x) i = if i = k then x else ovAt M i := by
  unfold ovAt
  by_cases e : i = k
  · subst e
    rw [if_pos rfl, List.getD_eq_getElem?_getD, List.getElem?_set_self hk]
    rfl
  · rw [if_neg e, List.getD_eq_getElem?_getD, List.getElem?_set_ne (Ne.symm e), ← List.getD_eq_getElem?_getD]
theorem Ar.start {w : World} {B g ga : Nat} {M : List Ov} (h : Ar w B g ga M) {k : Nat} (hk : k < M.length) (x : Ov) (hx : x.dv = (ovAt M k).dv) : Ic w w B g ga M.length k 0 x :=
  ⟨h.lo, h.lo', h.ne, h.hi, h.hi', Below.refl _ _, fun _ _ _ _ => rfl, h.rth, h.ath, fun _ _ _ _ _ => rfl, fun j hj => absurd hj (by omega), by rw [hx]; exact (h.row k hk).c3, fun _ _ _ _ _ => rfl, fun h4 => absurd h4 (by omega)⟩
theorem opAt_cs {w : World} {g o : Nat} {x : Ov} (h : ∀ j, j < 12 → w.cell? ⟨g, o + j, none⟩ = x.cs[j]?) : OpAt w g o x :=
  ⟨h 0 (by omega), h 1 (by omega), h 2 (by omega), h 3 (by omega), h 4 (by omega), h 5 (by omega), h 6 (by omega), h 7 (by omega), h 8 (by omega), h 9 (by omega), h 10 (by omega), h 11 (by omega)⟩
theorem OpAt.cs {w : World} {g o : Nat} {x : Ov} (h : OpAt w g o x) : ∀ j, j < 12 → w.cell? ⟨g, o + j, none⟩ = x.cs[j]?
  | 0, _ => h.c0 | 1, _ => h.c1 | 2, _ => h.c2 | 3, _ => h.c3 | 4, _ => h.c4 | 5, _ => h.c5 | 6, _ => h.c6 | 7, _ => h.c7 | 8, _ => h.c8 | 9, _ => h.c9 | 10, _ => h.c10 | 11, _ => h.c11
  | n + 12, hj => absurd hj (by omega)
theorem Ic.fin {w0 w : World} {B g ga : Nat} {M : List Ov} {k : Nat} {x : Ov} (h : Ic w0 w B g ga M.length k 12 x) (h0 : Ar w0 B g ga M) (hk : k < M.length) (hx : x.dv = (ovAt M k).dv) (hl : x.ds.length = 16) : Ar w B g ga (M.set k x) := by
  have hs := h.bel.size
  refine ⟨h.lo, h.lo', h.ne, by have := h.hi; omega, by have := h.hi'; omega, fun i hi => ?_, by rw [List.length_set]; exact h.rth, fun i hi => ?_, fun i hi => ?_, fun i hi => ?_, by rw [List.length_set]; exact h.ath⟩
  all_goals rw [List.length_set] at hi
  all_goals rw [ovAt_set hk]
  · by_cases e : i = k
    · subst e
      rw [if_pos rfl]
      exact opAt_cs h.got
    · rw [if_neg e]
      exact opAt_cs fun j hj => (h.oth i hi e j hj).trans ((h0.row i hi).cs j hj)
  · by_cases e : i = k
    · subst e
      rw [if_pos rfl, hx]
      exact h0.dvs i hi
    · rw [if_neg e]; exact h0.dvs i hi
  · by_cases e : i = k
    · subst e; rw [if_pos rfl]; exact hl
    · rw [if_neg e]; exact h0.len i hi
  · by_cases e : i = k
    · subst e; rw [if_pos rfl]; exact h.ag (by omega)
    · rw [if_neg e]
      intro j v hj
      have hj1 := (List.getElem?_eq_some_iff.1 hj).1
      rw [List.length_map, h0.len i hi] at hj1
      exact (h.ao i hi e j hj1).trans (h0.are i hi j v hj)

/-- What is written over an operation from q on. -/
def mkOv (q : Nat) (dv : Value) : Ov := ⟨((q : Nat) : Int), ((q + 1 : Nat) : Int), ((q + 2 : Nat) : Int), dv, ((q + 19 : Nat) : Int), ((q + 20 : Nat) : Int), ((q + 21 : Nat) : Int), ((q + 22 : Nat) : Int), ((q + 23 : Nat) : Int), ((q + 24 : Nat) : Int), mt (q + 25), mt (q + 26), marksI (q + 3) 16⟩
/-- The first k of M are written over, from q on. -/
def mkL (q : Nat) (M : List Ov) : Nat → List Ov
  | 0 => M
  | k + 1 => (mkL q M k).set k (mkOv (q + 27 * k) (ovAt M k).dv)
theorem mkL_len (q : Nat) (M : List Ov) : ∀ k, (mkL q M k).length = M.length
  | 0 => rfl
  | k + 1 => by rw [mkL, List.length_set, mkL_len q M k]
theorem mkL_at (q : Nat) (M : List Ov) : ∀ k, k ≤ M.length → ∀ i, ovAt (mkL q M k) i = if i < k then mkOv (q + 27 * i) (ovAt M i).dv else ovAt M i
  | 0, _, i => by rw [if_neg (by omega)]; rfl
  | k + 1, hk, i => by
    rw [mkL, ovAt_set (by rw [mkL_len]; omega)]
    by_cases e : i = k
    · subst e; rw [if_pos rfl, if_pos (by omega)]
    · rw [if_neg e, mkL_at q M k (by omega)]
      by_cases l : i < k
      · rw [if_pos l, if_pos (by omega)]
      · rw [if_neg l, if_neg (by omega)]
end Go.Proofs.YtmmkmkaannlkhaaGreatDoor

namespace Go.Proofs.YtmmkmkaannlkhaaGreatDoor
open Go.RowKit
set_option linter.unusedVariables false

theorem fieldO1 (b o : Nat) (w : World) : Calls Tryz.prog 80 #[.pointer (some ⟨b, o, none⟩)] w fun e w' => e = .returned (.pointer (some ⟨b, o + 0, none⟩)) ∧ w' = w := by
  go_enter Tryz.func80, Tryz.ntmps80
  go_wp2
  go_ret
  exact ⟨rfl, rfl⟩
theorem enterO1 (args : Array Value) (w : World) : (callFunc 80 args).run Tryz.prog w = .ok (.enter 80 args) w := by go_simp

theorem fieldO2 (b o : Nat) (w : World) : Calls Tryz.prog 81 #[.pointer (some ⟨b, o, none⟩)] w fun e w' => e = .returned (.pointer (some ⟨b, o + 1, none⟩)) ∧ w' = w := by
  go_enter Tryz.func81, Tryz.ntmps81
  go_wp2
  go_ret
  exact ⟨rfl, rfl⟩
theorem enterO2 (args : Array Value) (w : World) : (callFunc 81 args).run Tryz.prog w = .ok (.enter 81 args) w := by go_simp

theorem fieldO3 (b o : Nat) (w : World) : Calls Tryz.prog 82 #[.pointer (some ⟨b, o, none⟩)] w fun e w' => e = .returned (.pointer (some ⟨b, o + 2, none⟩)) ∧ w' = w := by
  go_enter Tryz.func82, Tryz.ntmps82
  go_wp2
  go_ret
  exact ⟨rfl, rfl⟩
theorem enterO3 (args : Array Value) (w : World) : (callFunc 82 args).run Tryz.prog w = .ok (.enter 82 args) w := by go_simp

theorem fieldO4 (b o : Nat) (w : World) : Calls Tryz.prog 83 #[.pointer (some ⟨b, o, none⟩)] w fun e w' => e = .returned (.pointer (some ⟨b, o + 4, none⟩)) ∧ w' = w := by
  go_enter Tryz.func83, Tryz.ntmps83
  go_wp2
  go_ret
  exact ⟨rfl, rfl⟩
theorem enterO4 (args : Array Value) (w : World) : (callFunc 83 args).run Tryz.prog w = .ok (.enter 83 args) w := by go_simp

theorem fieldO5 (b o : Nat) (w : World) : Calls Tryz.prog 84 #[.pointer (some ⟨b, o, none⟩)] w fun e w' => e = .returned (.pointer (some ⟨b, o + 5, none⟩)) ∧ w' = w := by
  go_enter Tryz.func84, Tryz.ntmps84
  go_wp2
  go_ret
  exact ⟨rfl, rfl⟩
theorem enterO5 (args : Array Value) (w : World) : (callFunc 84 args).run Tryz.prog w = .ok (.enter 84 args) w := by go_simp

theorem fieldO6 (b o : Nat) (w : World) : Calls Tryz.prog 85 #[.pointer (some ⟨b, o, none⟩)] w fun e w' => e = .returned (.pointer (some ⟨b, o + 6, none⟩)) ∧ w' = w := by
  go_enter Tryz.func85, Tryz.ntmps85
  go_wp2
  go_ret
  exact ⟨rfl, rfl⟩
theorem enterO6 (args : Array Value) (w : World) : (callFunc 85 args).run Tryz.prog w = .ok (.enter 85 args) w := by go_simp

theorem fieldO7 (b o : Nat) (w : World) : Calls Tryz.prog 86 #[.pointer (some ⟨b, o, none⟩)] w fun e w' => e = .returned (.pointer (some ⟨b, o + 7, none⟩)) ∧ w' = w := by
  go_enter Tryz.func86, Tryz.ntmps86
  go_wp2
  go_ret
  exact ⟨rfl, rfl⟩
theorem enterO7 (args : Array Value) (w : World) : (callFunc 86 args).run Tryz.prog w = .ok (.enter 86 args) w := by go_simp

theorem fieldO8 (b o : Nat) (w : World) : Calls Tryz.prog 87 #[.pointer (some ⟨b, o, none⟩)] w fun e w' => e = .returned (.pointer (some ⟨b, o + 8, none⟩)) ∧ w' = w := by
  go_enter Tryz.func87, Tryz.ntmps87
  go_wp2
  go_ret
  exact ⟨rfl, rfl⟩
theorem enterO8 (args : Array Value) (w : World) : (callFunc 87 args).run Tryz.prog w = .ok (.enter 87 args) w := by go_simp

theorem fieldO9 (b o : Nat) (w : World) : Calls Tryz.prog 88 #[.pointer (some ⟨b, o, none⟩)] w fun e w' => e = .returned (.pointer (some ⟨b, o + 9, none⟩)) ∧ w' = w := by
  go_enter Tryz.func88, Tryz.ntmps88
  go_wp2
  go_ret
  exact ⟨rfl, rfl⟩
theorem enterO9 (args : Array Value) (w : World) : (callFunc 88 args).run Tryz.prog w = .ok (.enter 88 args) w := by go_simp

theorem enterO10 (args : Array Value) (w : World) : (callFunc 89 args).run Tryz.prog w = .ok (.enter 89 args) w := by go_simp
theorem enterT1 (args : Array Value) (w : World) : (callFunc 119 args).run Tryz.prog w = .ok (.enter 119 args) w := by go_simp
theorem enterT2 (args : Array Value) (w : World) : (callFunc 120 args).run Tryz.prog w = .ok (.enter 120 args) w := by go_simp
set_option maxHeartbeats 1000000 in
theorem fieldO10 (b o k a g off cap : Nat) (w : World) (ha : a < 16) (hk : w.cell? ⟨k, 0, none⟩ = some (.int .i64 (a : Int))) (hb : w.cell? ⟨b, o + 3, none⟩ = some (.slice (some ⟨g, off, none⟩) 16 cap)) : Calls Tryz.prog 89 #[.pointer (some ⟨b, o, none⟩), .pointer (some ⟨k, 0, none⟩)] w fun e w' => e = .returned (.pointer (some ⟨g, off + a, none⟩)) ∧ ∃ n, w' = w.drewN n := by
  have h1 : (a : Int) < 16 := by omega
  have h0 : (0 : Int) ≤ (a : Int) := by omega
  go_enter Tryz.func89, Tryz.ntmps89
  go_wp2_with fail
  go_quiet (fail)
  go_wp2_with fail
  go_ret
  exact ⟨rfl, _, rfl⟩
theorem drew0 {P : Program} {f : Nat} {args : Array Value} {w : World} {r : Value} (h : Calls P f args w fun e w' => e = .returned r ∧ w' = w) : Calls P f args w fun e w' => e = .returned r ∧ ∃ q, w' = w.drewN q := h.mono fun e w' ⟨h1, h2⟩ => ⟨h1, 0, h2⟩
/-- What serves to write column c of the operations M in block g. -/
structure ColAt (w : World) (g n c : Nat) (M : List Ov) (F : Value) : Prop where
  ex : ∃ (f : Nat) (cp : Array Value) (pb po : Nat → Nat), F = .func (.func f) #[] cp ∧ (∀ args wz, (callFunc f args).run Tryz.prog wz = .ok (.enter f args) wz) ∧ (∀ wz, Below w.heap.size w wz → ∀ i, i < n → Calls Tryz.prog f (#[.pointer (some ⟨g, i * 12, none⟩)] ++ cp) wz fun e w' => e = .returned (.pointer (some ⟨pb i, po i, none⟩)) ∧ ∃ q, w' = wz.drewN q) ∧ ∀ i, i < n → w.cell? ⟨pb i, po i, none⟩ = some (.int .i64 (rawAt c (ovAt M i)))
theorem rawAt_ds {x : Ov} {c : Nat} (h9 : 9 ≤ c) : rawAt c x = nth x.ds (c - 9) := by
  unfold rawAt nth
  simp only [List.getD_eq_getElem?_getD]
  rw [List.getElem?_append_right (by simp; omega)]
  simp
theorem colAt {w : World} {B g ga Bk : Nat} {M : List Ov} {ks : List Nat} (h : Ar w B g ga M) (hA : Acts w Bk ks) (hk : ks.length = 16) {c : Nat} (hc : c < 25) {F : Value} (hF : (plainF ++ ks.map cntF)[c]? = some F) : ColAt w g M.length c M F := by
  by_cases h9 : 9 ≤ c
  · obtain ⟨kk, hkk⟩ : ∃ kk, ks[c - 9]? = some kk := ⟨_, List.getElem?_eq_getElem (by omega)⟩
    rw [List.getElem?_append_right (show 9 ≤ c from h9), show c - plainF.length = c - 9 from rfl, List.getElem?_map, hkk] at hF
    simp only [Option.map_some, Option.some.injEq] at hF
    subst hF
    refine ⟨⟨_, _, fun _ => ga, fun i => i * 16 + (c - 9), rfl, enterO10, fun wz hz i hi => ?_, fun i hi => ?_⟩⟩
    · obtain ⟨h1, h2⟩ := hA (c - 9) kk hkk
      have hlk := (Array.getElem?_eq_some_iff.1 h2).1
      have e1 : wz.cell? ⟨kk, 0, none⟩ = some (.int .i64 ((c - 9 : Nat) : Int)) := by
        rw [hz.cell (p := ⟨kk, 0, none⟩) hlk]
        simp [World.cell?, h2]
      have e2 : wz.cell? ⟨g, i * 12 + 3, none⟩ = some (.slice (some ⟨ga, i * 16, none⟩) 16 16) := by
        rw [hz.cell (p := ⟨g, i * 12 + 3, none⟩) h.hi, (h.row i hi).c3, h.dvs i hi]
      exact fieldO10 g (i * 12) kk (c - 9) ga (i * 16) 16 wz (by omega) e1 e2
    · rw [rawAt_ds h9]
      refine h.are i hi (c - 9) _ ?_
      have := h.len i hi
      simp [nth, show c - 9 < (ovAt M i).ds.length by omega]
  · have hcs : c = 0 ∨ c = 1 ∨ c = 2 ∨ c = 3 ∨ c = 4 ∨ c = 5 ∨ c = 6 ∨ c = 7 ∨ c = 8 := by omega
    rcases hcs with rfl | rfl | rfl | rfl | rfl | rfl | rfl | rfl | rfl
    · obtain rfl : F = .func (.func 80) #[] #[] := (Option.some.inj hF).symm
      exact ⟨⟨_, _, fun _ => g, fun i => i * 12 + 0, rfl, enterO1, fun wz hz i hi => drew0 (fieldO1 g (i * 12) wz), fun i hi => (h.row i hi).c0⟩⟩
    · obtain rfl : F = .func (.func 81) #[] #[] := (Option.some.inj hF).symm
      exact ⟨⟨_, _, fun _ => g, fun i => i * 12 + 1, rfl, enterO2, fun wz hz i hi => drew0 (fieldO2 g (i * 12) wz), fun i hi => (h.row i hi).c1⟩⟩
    · obtain rfl : F = .func (.func 82) #[] #[] := (Option.some.inj hF).symm
      exact ⟨⟨_, _, fun _ => g, fun i => i * 12 + 2, rfl, enterO3, fun wz hz i hi => drew0 (fieldO3 g (i * 12) wz), fun i hi => (h.row i hi).c2⟩⟩
    · obtain rfl : F = .func (.func 83) #[] #[] := (Option.some.inj hF).symm
      exact ⟨⟨_, _, fun _ => g, fun i => i * 12 + 4, rfl, enterO4, fun wz hz i hi => drew0 (fieldO4 g (i * 12) wz), fun i hi => (h.row i hi).c4⟩⟩
    · obtain rfl : F = .func (.func 84) #[] #[] := (Option.some.inj hF).symm
      exact ⟨⟨_, _, fun _ => g, fun i => i * 12 + 5, rfl, enterO5, fun wz hz i hi => drew0 (fieldO5 g (i * 12) wz), fun i hi => (h.row i hi).c5⟩⟩
    · obtain rfl : F = .func (.func 85) #[] #[] := (Option.some.inj hF).symm
      exact ⟨⟨_, _, fun _ => g, fun i => i * 12 + 6, rfl, enterO6, fun wz hz i hi => drew0 (fieldO6 g (i * 12) wz), fun i hi => (h.row i hi).c6⟩⟩
    · obtain rfl : F = .func (.func 86) #[] #[] := (Option.some.inj hF).symm
      exact ⟨⟨_, _, fun _ => g, fun i => i * 12 + 7, rfl, enterO7, fun wz hz i hi => drew0 (fieldO7 g (i * 12) wz), fun i hi => (h.row i hi).c7⟩⟩
    · obtain rfl : F = .func (.func 87) #[] #[] := (Option.some.inj hF).symm
      exact ⟨⟨_, _, fun _ => g, fun i => i * 12 + 8, rfl, enterO8, fun wz hz i hi => drew0 (fieldO8 g (i * 12) wz), fun i hi => (h.row i hi).c8⟩⟩
    · obtain rfl : F = .func (.func 88) #[] #[] := (Option.some.inj hF).symm
      exact ⟨⟨_, _, fun _ => g, fun i => i * 12 + 9, rfl, enterO9, fun wz hz i hi => drew0 (fieldO9 g (i * 12) wz), fun i hi => (h.row i hi).c9⟩⟩
end Go.Proofs.YtmmkmkaannlkhaaGreatDoor

namespace Go.Proofs.YtmmkmkaannlkhaaGreatDoor
open Go.RowKit
set_option linter.unusedVariables false

def zOp (dv : Value) : Ov := ⟨0, 0, 0, dv, 0, 0, 0, 0, 0, 0, ByteArray.empty, ByteArray.empty, List.replicate 16 0⟩
def zC : Array Value := #[.int .i64 0, .int .i64 0, .int .i64 0, .slice none 0 0, .int .i64 0, .int .i64 0, .int .i64 0, .int .i64 0, .int .i64 0, .int .i64 0, .string ByteArray.empty, .string ByteArray.empty]
theorem zC_at (dv : Value) : ∀ j, j < 12 → j ≠ 3 → some (zC[j]!) = (zOp dv).cs[j]?
  | 0, _, _ => rfl | 1, _, _ => rfl | 2, _, _ => rfl | 3, _, h => absurd rfl h | 4, _, _ => rfl | 5, _, _ => rfl | 6, _, _ => rfl | 7, _, _ => rfl | 8, _, _ => rfl | 9, _, _ => rfl | 10, _, _ => rfl | 11, _, _ => rfl
  | n + 12, h, _ => absurd h (by omega)
theorem made_at (z : Array Value) (n s i j : Nat) (hz : z.size = s) (hi : i < n) (hj : j < s) : (madeCells z (n * s)).toList[i * s + j]? = some z[j]! := by
  have hlt : i * s + j < n * s := by
    have : (i + 1) * s ≤ n * s := Nat.mul_le_mul_right s hi
    rw [Nat.add_mul, Nat.one_mul] at this
    omega
  unfold madeCells
  rw [Array.toList_map, List.getElem?_map, Array.toList_range, List.getElem?_range hlt]
  show some z[(i * s + j) % z.size]! = _
  rw [hz, Nat.add_comm, Nat.add_mul_mod_self_right, Nat.mod_eq_of_lt hj]
/-- Rows as newOps makes them: the first k have their room. -/
structure Nw (w : World) (B g ga n k : Nat) : Prop where
  lo : B ≤ g
  lo' : B ≤ ga
  ne : ga ≠ g
  hi : g < w.heap.size
  hi' : ga < w.heap.size
  rth : w.there g 0 (n * 12)
  ath : w.there ga 0 (n * 16)
  zr : ∀ i, i < n → ∀ j, j < 12 → j ≠ 3 → w.cell? ⟨g, i * 12 + j, none⟩ = some (zC[j]!)
  dv : ∀ i, i < k → w.cell? ⟨g, i * 12 + 3, none⟩ = some (.slice (some ⟨ga, i * 16, none⟩) 16 16)
  za : ∀ j, j < n * 16 → w.cell? ⟨ga, j, none⟩ = some (.int .i64 0)
theorem Nw.set {w : World} {B g ga n k : Nat} (h : Nw w B g ga n k) (hk : k < n) : Nw (w.setCell ⟨g, k * 12 + 3, none⟩ (.slice (some ⟨ga, k * 16, none⟩) 16 16)) B g ga n (k + 1) := by
  have hne := h.ne
  have other : ∀ (b o : Nat), (b ≠ g ∨ o ≠ k * 12 + 3) → (w.setCell ⟨g, k * 12 + 3, none⟩ (.slice (some ⟨ga, k * 16, none⟩) 16 16)).cell? ⟨b, o, none⟩ = w.cell? ⟨b, o, none⟩ := fun b o ho => by
    rw [World.cell?_setCell_other]
    intro e
    simp only [Addr.mk.injEq] at e
    omega
  refine ⟨h.lo, h.lo', h.ne, by rw [World.size_setCell]; exact h.hi, by rw [World.size_setCell]; exact h.hi', World.there_setCells h.rth g _ [_], World.there_setCells h.ath g _ [_], fun i hi j hj h3 => (other _ _ (.inr (by omega))).trans (h.zr i hi j hj h3), fun i hi => ?_, fun j hj => (other _ _ (.inl hne)).trans (h.za j hj)⟩
  by_cases e : i = k
  · subst e
    have := h.rth (i * 12 + 3) (by omega)
    rw [Nat.zero_add] at this
    obtain ⟨z, hz⟩ := Option.isSome_iff_exists.1 this.1
    exact World.cell?_setCell_same _ _ _ hz
  · exact (other _ _ (.inr (by omega))).trans (h.dv i (by omega))
def zL (ga n : Nat) : List Ov := (List.range n).map fun i => zOp (.slice (some ⟨ga, i * 16, none⟩) 16 16)
theorem zL_len (ga n : Nat) : (zL ga n).length = n := by simp [zL]
theorem zL_at (ga n : Nat) {i : Nat} (h : i < n) : ovAt (zL ga n) i = zOp (.slice (some ⟨ga, i * 16, none⟩) 16 16) := by simp [ovAt, zL, h]
theorem Nw.ar {w : World} {B g ga n : Nat} (h : Nw w B g ga n n) : Ar w B g ga (zL ga n) := by
  refine ⟨h.lo, h.lo', h.ne, h.hi, h.hi', fun i hi => ?_, by rw [zL_len]; exact h.rth, fun i hi => ?_, fun i hi => ?_, fun i hi => ?_, by rw [zL_len]; exact h.ath⟩
  all_goals rw [zL_len] at hi
  all_goals rw [zL_at ga n hi]
  · refine opAt_cs fun j hj => ?_
    by_cases e : j = 3
    · subst e; exact h.dv i hi
    · rw [h.zr i hi j hj e, zC_at _ j hj e]
  · rfl
  · exact List.length_replicate
  · intro j v hj
    have hj1 := (List.getElem?_eq_some_iff.1 hj).1
    simp only [zOp, List.length_map, List.length_replicate] at hj1
    rw [h.za _ (by omega), ← hj, List.getElem?_map]
    show some (Value.int .i64 0) = Option.map (Value.int .i64) (List.replicate 16 (0 : Int))[j]?
    rw [List.getElem?_replicate, if_pos hj1]
    rfl

set_option maxHeartbeats 2000000 in
set_option maxRecDepth 100000 in
theorem newOps_any (w : World) (n : Nat) (hn : n ≤ 1024) :
    Calls Tryz.prog 111 #[.int .i64 (n : Int)] w fun e w' => ∃ ga, e = .returned (.slice (some ⟨w.heap.size, 0, none⟩) n n) ∧ Ar w' w.heap.size w.heap.size ga (zL ga n) ∧ Below w.heap.size w w' := by
  obtain ⟨i0, hi, hz0, hz1, hz2⟩ := info_parts infoOp
  obtain ⟨i1, hi1, hy0, hy1, hy2⟩ := info_parts info3
  have hw16 : (n : Int) * 16 < 9223372036854775808 := by omega
  go_enter Tryz.func111, Tryz.ntmps111
  go_wp2_with (at_make; refine wpList_make_full _ rfl _ _ 33 rfl w.heap.size 29 i0 (.agg #[.int .i64 0, .int .i64 0, .int .i64 0, .slice none 0 0, .int .i64 0, .int .i64 0, .int .i64 0, .int .i64 0, .int .i64 0, .int .i64 0, .string ByteArray.empty, .string ByteArray.empty]) 12 Tryz.underlying33 hi hz0 hz1 _ _ _ _ n rfl rfl rfl rfl (by rw [hz2]; omega) (by unfold maxLen; omega) (Nat.le_refl _) ?_)
  intro w1 hown hgrow
  have hb1 : Below w.heap.size w w1 := (Below.refl _ _).grown hgrow (Nat.le_refl _) (fun k hk => by cases hk)
  have hl1 := World.ownsRow.lt hown w.heap.size rfl
  have hc1 : ∀ i, i < n → ∀ j, j < 12 → w1.cell? ⟨w.heap.size, i * 12 + j, none⟩ = some (zC[j]!) := fun i hi' j hj => by
    rw [World.ownsRow.cellAt hown _ (by omega)]
    exact made_at zC n 12 i j rfl hi' hj
  have hf1 : ∀ j, w1.frozen? ⟨w.heap.size, j, none⟩ = false := fun j => World.ownsRow.frozenAt hown j
  clear hown hgrow
  go_wp2_with (at_make; refine wpList_make_full _ rfl _ _ 23 rfl w1.heap.size 3 i1 (.int .i64 0) 1 Tryz.underlying23 hi1 hy0 hy1 _ _ _ _ (n * 16) rfl rfl (by omega) (by omega) (by rw [hy2]; omega) (by unfold maxLen; omega) (Nat.le_refl _) ?_)
  intro w2 hown2 hgrow2
  have hb2 : Below w1.heap.size w1 w2 := (Below.refl _ _).grown hgrow2 (Nat.le_refl _) (fun k hk => by cases hk)
  have hl2 := World.ownsRow.lt hown2 w1.heap.size rfl
  have HN0 : Hid (Nw w2 w.heap.size w.heap.size w1.heap.size n 0 ∧ Below w.heap.size w w2) := by
    refine ⟨⟨Nat.le_refl _, hb1.size, by omega, by have := hb2.size; omega, hl2.2, fun j hj => ?_, fun j hj => ?_, fun i hi' j hj _ => (hb2.cell (p := ⟨w.heap.size, i * 12 + j, none⟩) hl1.2).trans (hc1 i hi' j hj), fun i hi' => absurd hi' (by omega), fun j hj => ?_⟩, hb1.trans (hb2.mono hb1.size)⟩
    · rw [Nat.zero_add]
      have e := hc1 (j / 12) (by omega) (j % 12) (by omega)
      rw [show j / 12 * 12 + j % 12 = j by omega] at e
      refine ⟨?_, ?_⟩
      · rw [hb2.cell (p := ⟨w.heap.size, j, none⟩) hl1.2, e]; rfl
      · have hf := hf1 j
        unfold World.frozen? at hf ⊢
        simp only at hf ⊢
        rw [hb2.block w.heap.size hl1.2]
        exact hf
    · rw [Nat.zero_add, World.ownsRow.cellAt hown2 _ (by omega)]
      have e := made_at #[.int .i64 0] (n * 16) 1 j 0 rfl hj (by omega)
      rw [Nat.mul_one, Nat.mul_one, Nat.add_zero] at e
      exact ⟨by rw [e]; rfl, World.ownsRow.frozenAt hown2 _⟩
    · rw [World.ownsRow.cellAt hown2 _ (by omega)]
      have e := made_at #[.int .i64 0] (n * 16) 1 j 0 rfl hj (by omega)
      rw [Nat.mul_one, Nat.mul_one, Nat.add_zero] at e
      rw [e]
      rfl
  clear hown2 hgrow2 hb2 hc1 hf1 hb1
  generalize w1.heap.size = ga at *
  go_wp2_with fail
  go_loopw [13] (fun ti wr => ∃ k : Nat, k ≤ n ∧ ti = .int .i64 (k : Int) ∧ Hid (Nw wr w.heap.size w.heap.size ga n k ∧ Below w.heap.size w wr)) (fun ti _ => n - (intOf ti).toNat)
  case atStart => exact ⟨0, Nat.zero_le _, rfl, HN0⟩
  case round =>
    clear HN0 hl1 hl2
    obtain ⟨k, hk, rfl, HI⟩ := hrel
    by_cases hlt : k < n
    · have j1 : (k : Int) < (n : Int) := by omega
      obtain ⟨h1, hb⟩ := HI.out
      have hth := h1.rth (k * 12 + 3) (by omega)
      rw [Nat.zero_add] at hth
      obtain ⟨z, c3⟩ := Option.isSome_iff_exists.1 hth.1
      have f3 := hth.2
      have HR : Hid (Nw (wr.setCell ⟨w.heap.size, k * 12 + 3, none⟩ (.slice (some ⟨ga, k * 16, none⟩) 16 16)) w.heap.size w.heap.size ga n (k + 1) ∧ Below w.heap.size w (wr.setCell ⟨w.heap.size, k * 12 + 3, none⟩ (.slice (some ⟨ga, k * 16, none⟩) 16 16))) := ⟨h1.set hlt, hb.setCell (p := ⟨w.heap.size, k * 12 + 3, none⟩) (Nat.le_refl _) _⟩
      clear HI h1 hb hth
      have h16 : (k + 1) * 16 - k * 16 = 16 := by omega
      go_wp2_with fail
      exact ⟨⟨k + 1, by omega, by go_num, HR⟩, by simp [intOf]; omega⟩
    · obtain rfl : k = n := by omega
      go_wp2_with fail
      go_ret
      exact ⟨ga, rfl, HI.out.1.ar, HI.out.2⟩
end Go.Proofs.YtmmkmkaannlkhaaGreatDoor

namespace Go.Proofs.YtmmkmkaannlkhaaGreatDoor
open Go.RowKit
set_option linter.unusedVariables false

/-- What an operation counts is written into its part of the arena. -/
theorem Ar.arena {w : World} {B g ga : Nat} {M : List Ov} (h : Ar w B g ga M) {k : Nat} (hk : k < M.length) (x : Ov) (hx : x = { ovAt M k with ds := x.ds }) (hl : x.ds.length = 16) : Ar (w.setCells ga (k * 16) (x.ds.map (Value.int .i64))) B g ga (M.set k x) := by
  have hne := h.ne
  have hlen : (x.ds.map (Value.int .i64)).length = 16 := by rw [List.length_map, hl]
  have hcs : x.cs = (ovAt M k).cs := by rw [hx]; rfl
  have hdv : x.dv = (ovAt M k).dv := by rw [hx]
  have og : ∀ o, (w.setCells ga (k * 16) (x.ds.map (Value.int .i64))).cell? ⟨g, o, none⟩ = w.cell? ⟨g, o, none⟩ := fun o => World.cell?_setCells_out ga _ _ w _ (fun e _ => absurd e.symm hne)
  refine ⟨h.lo, h.lo', h.ne, by rw [size_setCells]; exact h.hi, by rw [size_setCells]; exact h.hi', fun i hi => ?_, by rw [List.length_set]; exact World.there_setCells h.rth ga _ _, fun i hi => ?_, fun i hi => ?_, fun i hi => ?_, by rw [List.length_set]; exact World.there_setCells h.ath ga _ _⟩
  all_goals rw [List.length_set] at hi
  all_goals rw [ovAt_set hk]
  · refine opAt_cs fun j hj => ?_
    rw [og]
    by_cases e : i = k
    · subst e; rw [if_pos rfl, hcs]; exact (h.row i hi).cs j hj
    · rw [if_neg e]; exact (h.row i hi).cs j hj
  · by_cases e : i = k
    · subst e; rw [if_pos rfl, hdv]; exact h.dvs i hi
    · rw [if_neg e]; exact h.dvs i hi
  · by_cases e : i = k
    · rw [if_pos e]; exact hl
    · rw [if_neg e]; exact h.len i hi
  · by_cases e : i = k
    · subst e
      rw [if_pos rfl]
      refine World.rangeAt_setCells_same w ga (i * 16) _ (fun j hj => ?_)
      have := h.ath (i * 16 + j) (by omega)
      rwa [Nat.zero_add] at this
    · rw [if_neg e]
      refine World.rangeAt_setCells_apart (h.are i hi) ga (k * 16) _ (.inr ?_)
      rw [hlen, List.length_map, h.len i hi]
      omega
/-- An operation's cells are written. -/
theorem Ar.cells {w : World} {B g ga : Nat} {M : List Ov} (h : Ar w B g ga M) {k : Nat} (hk : k < M.length) (x : Ov) (hdv : x.dv = (ovAt M k).dv) (hds : x.ds = (ovAt M k).ds) : Ar (w.setCells g (k * 12) x.cs) B g ga (M.set k x) := by
  have hne := h.ne
  have hlen : x.cs.length = 12 := rfl
  have oa : ∀ o, (w.setCells g (k * 12) x.cs).cell? ⟨ga, o, none⟩ = w.cell? ⟨ga, o, none⟩ := fun o => World.cell?_setCells_out g _ _ w _ (fun e _ => absurd e hne)
  refine ⟨h.lo, h.lo', h.ne, by rw [size_setCells]; exact h.hi, by rw [size_setCells]; exact h.hi', fun i hi => ?_, by rw [List.length_set]; exact World.there_setCells h.rth g _ _, fun i hi => ?_, fun i hi => ?_, fun i hi => ?_, by rw [List.length_set]; exact World.there_setCells h.ath g _ _⟩
  all_goals rw [List.length_set] at hi
  all_goals rw [ovAt_set hk]
  · refine opAt_cs fun j hj => ?_
    by_cases e : i = k
    · subst e
      rw [if_pos rfl]
      have hs := World.rangeAt_setCells_same w g (i * 12) x.cs (fun j hj => by
        have := h.rth (i * 12 + j) (by omega)
        rwa [Nat.zero_add] at this)
      rw [List.getElem?_eq_getElem (by omega)]
      exact hs j _ (List.getElem?_eq_getElem (by omega))
    · rw [if_neg e, World.cell?_setCells_out g _ _ w _ (fun _ _ => by show i * 12 + j < k * 12 ∨ k * 12 + x.cs.length ≤ i * 12 + j; rw [hlen]; omega)]
      exact (h.row i hi).cs j hj
  · by_cases e : i = k
    · subst e; rw [if_pos rfl, hdv]; exact h.dvs i hi
    · rw [if_neg e]; exact h.dvs i hi
  · by_cases e : i = k
    · subst e; rw [if_pos rfl, hds]; exact h.len i hi
    · rw [if_neg e]; exact h.len i hi
  · intro j v hj
    rw [oa]
    by_cases e : i = k
    · subst e
      rw [if_pos rfl, hds] at hj
      exact h.are i hi j v hj
    · rw [if_neg e] at hj
      exact h.are i hi j v hj
/-- The first k are copies of those of L. -/
def cpL (ga : Nat) (L : List Ov) : Nat → List Ov
  | 0 => zL ga L.length
  | k + 1 => (cpL ga L k).set k { ovAt L k with dv := .slice (some ⟨ga, k * 16, none⟩) 16 16 }
theorem cpL_len (ga : Nat) (L : List Ov) : ∀ k, (cpL ga L k).length = L.length
  | 0 => zL_len ga _
  | k + 1 => by rw [cpL, List.length_set, cpL_len ga L k]
theorem cpL_at (ga : Nat) (L : List Ov) : ∀ k, k ≤ L.length → ∀ i, i < L.length → ovAt (cpL ga L k) i = if i < k then { ovAt L i with dv := .slice (some ⟨ga, i * 16, none⟩) 16 16 } else zOp (.slice (some ⟨ga, i * 16, none⟩) 16 16)
  | 0, _, i, hi => by rw [if_neg (by omega)]; exact zL_at ga _ hi
  | k + 1, hk, i, hi => by
    rw [cpL, ovAt_set (by rw [cpL_len]; omega)]
    by_cases e : i = k
    · subst e; rw [if_pos rfl, if_pos (by omega)]
    · rw [if_neg e, cpL_at ga L k (by omega) i hi]
      by_cases l : i < k
      · rw [if_pos l, if_pos (by omega)]
      · rw [if_neg l, if_neg (by omega)]
theorem cpL_same (ga : Nat) (L : List Ov) : SameL (cpL ga L L.length) L := ⟨cpL_len ga L _, fun k hk => by
  rw [cpL_at ga L _ (Nat.le_refl _) k hk, if_pos hk]
  exact ⟨rfl, rfl, rfl, rfl, rfl, rfl, rfl, rfl, rfl, rfl, rfl, rfl⟩⟩

end Go.Proofs.YtmmkmkaannlkhaaGreatDoor
