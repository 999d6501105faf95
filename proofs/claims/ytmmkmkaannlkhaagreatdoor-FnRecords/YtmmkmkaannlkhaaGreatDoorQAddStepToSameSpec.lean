/- LogAdd: plain facts for the specification's adding: what was copied says the same; one more that is put in, one less that waits. LogAdd, plain facts: of a valid log; what it answers. LogAdd, plain facts: logs and operations that say the same are added alike; how many come out, and of what kind. What is said of the operations of logs that are drawn: plain facts. The specification's l08Insert at a log that is nil. The specification's l08KindFits. Whether two operations say the same: plain facts, and the specification's comparing of counts. Whether two operations say the same: the specification's. -/
import Derived.Laws.AppendOwnNone
import Derived.Test.YtmmkmkaannlkhaaGreatDoorQGrowOpsToAddFind
import Derived.Test.YtmmkmkaannlkhaaGreatDoorQOpToToLogSame
import Derived.Test.YtmmkmkaannlkhaaGreatDoorQLedClosedToUndoMath
import Derived.Test.YtmmkmkaannlkhaaGreatDoorQOpNumsToRdCut
import Derived.Test.YtmmkmkaannlkhaaGreatDoorQQuietKeepToQuietPass
import Derived.Test.YtmmkmkaannlkhaaGreatDoorQTakeKitToBigKit
namespace Go.Proofs.YtmmkmkaannlkhaaGreatDoor
open Go.RowKit
set_option linter.unusedVariables false

/-- An operation without the place of what it counts. -/
def strip (x : Ov) : Ov := ⟨x.a, x.s, x.t, .slice none 0 0, x.k, x.o, x.n, x.u, x.pt, x.pa, x.ky, x.tx, x.ds⟩
theorem strip_same {x y : Ov} : x.same y ↔ strip x = strip y := by
  obtain ⟨xa, xs, xt, xdv, xk, xo, xn, xu, xpt, xpa, xky, xtx, xds⟩ := x
  obtain ⟨ya, ys, yt, ydv, yk, yo, yn, yu, ypt, ypa, yky, ytx, yds⟩ := y
  simp only [Ov.same, strip, Ov.mk.injEq, true_and]
  constructor
  · rintro ⟨h0, h1, h2, h3, h4, h5, h6, h7, h8, h9, h10, h11⟩
    exact ⟨h0, h1, h2, h4, h5, h6, h7, h8, h9, h10, h11, h3⟩
  · rintro ⟨h0, h1, h2, h4, h5, h6, h7, h8, h9, h10, h11, h3⟩
    exact ⟨h0, h1, h2, h3, h4, h5, h6, h7, h8, h9, h10, h11⟩
theorem ovAt_strip (L : List Ov) (k : Nat) : ovAt (L.map strip) k = strip (ovAt L k) := by
  unfold ovAt
  rw [List.getD_eq_getElem?_getD, List.getD_eq_getElem?_getD, List.getElem?_map]
  cases L[k]? <;> rfl
theorem sameL_strip {M L : List Ov} : SameL M L ↔ M.map strip = L.map strip := by
  constructor
  · rintro ⟨hl, h⟩
    refine List.ext_getElem (by rw [List.length_map, List.length_map, hl]) (fun k h1 h2 => ?_)
    rw [List.length_map] at h1 h2
    rw [List.getElem_map, List.getElem_map, ovAt_getElem h1, ovAt_getElem h2]
    exact strip_same.1 (h k h2)
  · intro h
    refine ⟨by simpa using congrArg List.length h, fun k hk => strip_same.2 ?_⟩
    rw [← ovAt_strip, ← ovAt_strip, h]
theorem byA_strip (L : List Ov) (a : Nat) : byA (L.map strip) a = (byA L a).map strip := by
  unfold byA
  rw [List.filter_map]
  rfl
theorem causes_strip (P : List Ov) (x : Ov) : causesB (P.map strip) (strip x) = causesB P x := by
  unfold causesB
  congr 1
  funext a
  unfold causeOK
  rw [byA_strip, ovAt_strip, List.length_map]
  rfl
theorem next_strip (P : List Ov) (x : Ov) : nextB (P.map strip) (strip x) = nextB P x := by
  unfold nextB
  rw [byA_strip, List.length_map]
  rfl
theorem fits_strip (P : List Ov) (x : Ov) : fitsB (P.map strip) (strip x) = fitsB P x := by
  unfold fitsB
  rw [List.all_map]
  rfl
theorem causes_same {T S : List Ov} {x y : Ov} (h : SameL T S) (e : x.same y) : causesB T x = causesB S y := by
  rw [← causes_strip T x, ← causes_strip S y, sameL_strip.1 h, strip_same.1 e]
theorem next_same {T S : List Ov} {x y : Ov} (h : SameL T S) (e : x.same y) : nextB T x = nextB S y := by
  rw [← next_strip T x, ← next_strip S y, sameL_strip.1 h, strip_same.1 e]
theorem fits_same {T S : List Ov} {x y : Ov} (h : SameL T S) (e : x.same y) : fitsB T x = fitsB S y := by
  rw [← fits_strip T x, ← fits_strip S y, sameL_strip.1 h, strip_same.1 e]
theorem name_same {x y z : Ov} (e : y.same z) : nameB x y = nameB x z := by
  unfold nameB
  rw [e.1, e.2.1]
theorem sameB_same {x y z : Ov} (e : y.same z) : sameB y x = sameB z x := by
  obtain ⟨h0, h1, h2, h3, h4, h5, h6, h7, h8, h9, h10, h11⟩ := e
  unfold sameB
  rw [h0, h1, h2, h3, h4, h5, h6, h7, h8, h9, h10, h11]
theorem ok_same {x y : Ov} (e : x.same y) : x.ok = y.ok := by
  obtain ⟨h0, h1, h2, h3, h4, h5, h6, h7, h8, h9, h10, h11⟩ := e
  unfold Ov.ok
  rw [h0, h1, h2, h3, h4, h5, h6, h7, h8, h9, h10, h11]
/-- Of what waits no two have one name. -/
theorem apart_two {W : List Ov} {x : Ov} {q j : Nat} (h : Apart W) (hj : j < W.length) (hq : q < j) (h1 : nameB x (ovAt W q) = true) (h2 : nameB x (ovAt W j) = true) : False := by
  unfold Apart at h
  rw [List.pairwise_iff_getElem] at h
  refine h q j (by omega) hj hq ?_
  rw [ovAt_getElem (by omega : q < W.length), ovAt_getElem hj]
  unfold nameB at h1 h2
  rw [decide_eq_true_eq] at h1 h2
  exact ⟨h1.1.trans h2.1.symm, h1.2.trans h2.2.symm⟩
theorem apart_same {W S : List Ov} (h : SameL W S) (hS : Apart S) : Apart W := by
  unfold Apart at hS ⊢
  rw [List.pairwise_iff_getElem] at hS ⊢
  intro i j hi hj hij e
  have hl := h.1
  refine hS i j (by omega) (by omega) hij ?_
  rw [ovAt_getElem hi, ovAt_getElem hj, (h.2 i (by omega)).1, (h.2 i (by omega)).2.1, (h.2 j (by omega)).1, (h.2 j (by omega)).2.1] at e
  rw [ovAt_getElem (by omega : i < S.length), ovAt_getElem (by omega : j < S.length)]
  exact e
/-- Operations by rising actor stand together. -/
theorem stand_pw {L : List Ov} (hpw : L.Pairwise (fun x y => x.a ≤ y.a)) (a : Nat) : ∃ i, Stand L a i := by
  have hs := split3 (a : Int) L hpw
  have hb : L.filter (fun x => decide (x.a = (a : Int))) = byA L a := rfl
  rw [hb] at hs
  generalize hA : L.filter (fun x => decide (x.a < (a : Int))) = A at hs
  generalize hR : L.filter (fun x => decide ((a : Int) < x.a)) = R at hs
  have hlen : L.length = A.length + ((byA L a).length + R.length) := by
    have := congrArg List.length hs
    simpa using this
  have at_mid : ∀ q, q < (byA L a).length → ovAt L (A.length + q) = ovAt (byA L a) q := fun q hq => by
    unfold ovAt
    rw [List.getD_eq_getElem?_getD, List.getD_eq_getElem?_getD]
    have e1 : L[A.length + q]? = (A ++ (byA L a ++ R))[A.length + q]? := by rw [← hs]
    rw [e1, List.getElem?_append_right (by omega), Nat.add_sub_cancel_left, List.getElem?_append_left hq]
  refine ⟨A.length, fun q hq => ?_, fun q hq => ⟨at_mid q hq, ?_⟩, by omega⟩
  · have e1 : L[q]? = (A ++ (byA L a ++ R))[q]? := by rw [← hs]
    rw [List.getElem?_append_left hq, ovAt_get (by omega)] at e1
    have hm : ovAt L q ∈ A := List.mem_of_getElem? e1.symm
    rw [← hA] at hm
    have h2 := (List.mem_filter.1 hm).2
    simp at h2
    omega
  · rw [at_mid q hq]
    exact byA_all (ovAt_mem hq)
/-- What holds of all that is there while one after the other is added. -/
structure LogP (P : List Ov) : Prop where
  ok : ∀ x ∈ P, x.ok = true
  num : Numbered P
  one : OneKind P
  len : P.length ≤ 1024
theorem logP_of {L : List Ov} (h : logI L = true) (hlen : L.length ≤ 1024) (hst : ∀ i, i < L.length → stepN L i = true) (hok : ∀ x ∈ L, x.ok = true) : LogP L := by
  refine ⟨hok, fun a ha i hi => numbered_of hst a i hi, ?_, hlen⟩
  have := oneKind_steps (L := L) (fun y hy => ok_kind (hok y hy)) (fun y hy => by have := (ok_parts (hok y hy)).2.1; omega) (fun i hi => by
    unfold logI at h
    simp only [Bool.and_eq_true] at h
    have h2 := h.2.1
    rw [List.all_eq_true] at h2
    have h3 := h2 i (List.mem_range.2 hi)
    rw [stepI_split, Bool.and_eq_true] at h3
    exact h3.2) L.length (Nat.le_refl _)
  rwa [List.take_length] at this
theorem LogP.suit {P : List Ov} (h : LogP P) {x : Ov} (hx : x.ok = true) : suitB P x = fitsB P x :=
  suit_fits h.one (fun y hy => ok_kind (h.ok y hy)) (fun y hy => by have := (ok_parts (h.ok y hy)).2.1; omega) (ok_kind hx) (by have := (ok_parts hx).2.1; omega)
theorem allK_back {P : List Ov} {y : Ov} (hy : y ∈ P) (h : 0 ≤ y.a ∧ y.a < 16) : y ∈ allK P 16 := by
  have key : ∀ k : Nat, y.a < (k : Int) → y ∈ allK P k := by
    intro k
    induction k with
    | zero => intro h'; omega
    | succ k ih =>
      intro h'
      rw [allK]
      by_cases e : y.a = (k : Int)
      · exact List.mem_append_right _ (List.mem_filter.2 ⟨hy, by simpa using e⟩)
      · exact List.mem_append_left _ (ih (by omega))
  exact key 16 (by omega)
theorem LogP.fits {P : List Ov} (h : LogP P) (x : Ov) : fitsB (allK P 16) x = fitsB P x := by
  unfold fitsB
  rw [Bool.eq_iff_iff, List.all_eq_true, List.all_eq_true]
  exact ⟨fun hh y hy => hh y (allK_back hy (ok_parts (h.ok y hy)).1), fun hh y hy => hh y (allK_mem hy)⟩
theorem LogP.size {P : List Ov} (h : LogP P) : (allK P 16).length = P.length := by
  rw [allK_len, List.filter_eq_self.2]
  intro y hy
  have := (ok_parts (h.ok y hy)).1
  exact decide_eq_true this
theorem LogP.snoc {P : List Ov} (h : LogP P) {x : Ov} (hx : x.ok = true) (hn : nextB P x = true) (hs : suitB P x = true) (hl : P.length < 1024) : LogP (P ++ [x]) := by
  have ha := (ok_parts hx).1
  refine ⟨fun y hy => ?_, ?_, ?_, by rw [List.length_append, List.length_singleton]; omega⟩
  · rcases List.mem_append.1 hy with hy | hy
    · exact h.ok y hy
    · rw [List.mem_singleton] at hy
      rw [hy]
      exact hx
  · unfold nextB at hn
    rw [decide_eq_true_eq] at hn
    exact h.num.snoc (j := x.a.toNat) (by omega) hn
  · rw [h.suit hx] at hs
    unfold fitsB at hs
    rw [List.all_eq_true] at hs
    refine oneKind_snoc h.one (fun y hy e => ?_)
    have := hs y hy
    rw [decide_eq_true_eq] at this
    exact (spT_inj (ok_kind (h.ok y hy)) (ok_kind hx)).1 (this e)
theorem allK_rise (P : List Ov) : ∀ k, (allK P k).Pairwise (fun x y => x.a ≤ y.a)
  | 0 => List.Pairwise.nil
  | k + 1 => by
    rw [allK, List.pairwise_append]
    refine ⟨allK_rise P k, ?_, fun y hy z hz => ?_⟩
    · rw [List.pairwise_iff_getElem]
      intro i j hi hj _
      rw [byA_all (List.getElem_mem hi), byA_all (List.getElem_mem hj)]
      exact Int.le_refl _
    · obtain ⟨a, ha, hy'⟩ := allK_low hy
      rw [byA_all hy', byA_all hz]
      omega
/-- The adding as it goes on: what is there, what waits, and the rows in which both lie. -/
structure L4 (P acc T W : List Ov) : Prop where
  logp : LogP P
  okA : ∀ x ∈ acc, x.ok = true
  sT : SameL T (allK P 16)
  sW : SameL W acc
  lW : acc.length ≤ 1024
theorem L4.lenT {P acc T W : List Ov} (h : L4 P acc T W) : T.length = P.length := h.sT.1.trans h.logp.size
theorem L4.stand {P acc T W : List Ov} (h : L4 P acc T W) (a : Nat) : ∃ i, Stand T a i := by
  refine stand_pw ?_ a
  have h1 := allK_rise P 16
  have e := sameL_strip.1 h.sT
  have h2 : ((allK P 16).map strip).Pairwise (fun x y => x.a ≤ y.a) := (List.pairwise_map (f := strip) (R := fun x y : Ov => x.a ≤ y.a)).2 h1
  rw [← e] at h2
  exact (List.pairwise_map (f := strip) (R := fun x y : Ov => x.a ≤ y.a)).1 h2
theorem L4.okT {P acc T W : List Ov} (h : L4 P acc T W) : ∀ x ∈ T, x.ok = true := by
  intro x hx
  obtain ⟨k, hk, rfl⟩ := List.mem_iff_getElem.1 hx
  rw [ovAt_getElem hk, ok_same (h.sT.2 k (by rw [← h.sT.1]; exact hk))]
  exact h.logp.ok _ (allK_mem (ovAt_mem (by rw [← h.sT.1]; exact hk)))
theorem L4.at {P acc T W : List Ov} (h : L4 P acc T W) {i : Nat} (hi : i < W.length) : i < acc.length ∧ (ovAt W i).same (ovAt acc i) ∧ (ovAt W i).ok = true ∧ (ovAt acc i).ok = true := by
  have hl : i < acc.length := by rw [← h.sW.1]; exact hi
  have hs := h.sW.2 i hl
  exact ⟨hl, hs, by rw [ok_same hs]; exact h.okA _ (ovAt_mem hl), h.okA _ (ovAt_mem hl)⟩
theorem L4.next {P acc T W : List Ov} (h : L4 P acc T W) {i : Nat} (hi : i < W.length) : nextB T (ovAt W i) = nextB P (ovAt acc i) := by
  obtain ⟨hl, hs, hw, ha⟩ := h.at hi
  rw [next_same h.sT hs, next_allK P (ok_parts ha).1]
theorem L4.causes {P acc T W : List Ov} (h : L4 P acc T W) {i : Nat} (hi : i < W.length) : causesB T (ovAt W i) = causesB P (ovAt acc i) := by
  obtain ⟨hl, hs, hw, ha⟩ := h.at hi
  rw [causes_same h.sT hs, causes_allK]
theorem L4.fits {P acc T W : List Ov} (h : L4 P acc T W) {i : Nat} (hi : i < W.length) : fitsB T (ovAt W i) = suitB P (ovAt acc i) := by
  obtain ⟨hl, hs, hw, ha⟩ := h.at hi
  rw [fits_same h.sT hs, h.logp.fits, h.logp.suit ha]
theorem map_eraseIdx (f : Ov → Ov) : ∀ (L : List Ov) (i : Nat), (L.eraseIdx i).map f = (L.map f).eraseIdx i
  | [], _ => rfl
  | _ :: _, 0 => rfl
  | x :: L, i + 1 => by simp [map_eraseIdx f L i]
theorem L4.put {P acc T W : List Ov} (h : L4 P acc T W) {i : Nat} (hi : i < W.length) (hn : nextB P (ovAt acc i) = true) (hs : suitB P (ovAt acc i) = true) (hl : P.length < 1024) :
    ∃ A R, T = A ++ R ∧ (∀ y ∈ A, aheadB (ovAt W i) y = true) ∧ (∀ y ∈ R, aheadB (ovAt W i) y = false) ∧ L4 (P ++ [ovAt acc i]) (acc.eraseIdx i) (A ++ ovAt W i :: R) (W.eraseIdx i) := by
  obtain ⟨hil, hsm, hw, ha⟩ := h.at hi
  have hab := (ok_parts ha).1
  have hx := hn
  unfold nextB at hx
  rw [decide_eq_true_eq] at hx
  obtain ⟨hA, R, hR, hRn, hput⟩ := insert_put h.logp.num (x := ovAt acc i) (j := (ovAt acc i).a.toNat) (by omega) (by omega) hx
  generalize allK P ((ovAt acc i).a.toNat + 1) = A at hA hR hput
  have hT := sameL_strip.1 h.sT
  have hah : ∀ (y z : Ov), y.same z → aheadB (ovAt W i) y = aheadB (ovAt acc i) z := fun y z e => by
    unfold aheadB
    rw [hsm.1, hsm.2.1, e.1, e.2.1]
  have hlT : T.length = A.length + R.length := by rw [h.sT.1, hR, List.length_append]
  have eA : (T.take A.length).map strip = A.map strip := by
    rw [List.map_take, hT, hR, List.map_append, List.take_left' (by rw [List.length_map])]
  have eR : (T.drop A.length).map strip = R.map strip := by
    rw [List.map_drop, hT, hR, List.map_append, List.drop_left' (by rw [List.length_map])]
  have sA := sameL_strip.2 eA
  have sR := sameL_strip.2 eR
  refine ⟨T.take A.length, T.drop A.length, (List.take_append_drop _ _).symm, fun y hy => ?_, fun y hy => ?_, h.logp.snoc ha hn hs hl, fun x hx => h.okA x (List.mem_of_mem_eraseIdx hx), ?_, ?_, ?_⟩
  · obtain ⟨q, hq, rfl⟩ := List.mem_iff_getElem.1 hy
    rw [ovAt_getElem hq, hah _ _ (sA.2 q (by rw [← sA.1]; exact hq))]
    exact hA _ (ovAt_mem (by rw [← sA.1]; exact hq))
  · obtain ⟨q, hq, rfl⟩ := List.mem_iff_getElem.1 hy
    rw [ovAt_getElem hq, hah _ _ (sR.2 q (by rw [← sR.1]; exact hq))]
    exact hRn _ (ovAt_mem (by rw [← sR.1]; exact hq))
  · rw [hput]
    refine sameL_strip.2 ?_
    rw [List.map_append, List.map_append, List.map_cons, List.map_cons, eA, eR, strip_same.1 hsm]
  · refine sameL_strip.2 ?_
    rw [map_eraseIdx, map_eraseIdx, sameL_strip.1 h.sW]
  · have := h.lW
    rw [List.length_eraseIdx_of_lt hil]
    omega
theorem rowCs_erase (W : List Ov) (i : Nat) : rowCs (W.eraseIdx i) = rowCs (W.take i) ++ rowCs (W.drop (i + 1)) := by
  rw [List.eraseIdx_eq_take_drop_succ, rowCs_app]
/-- The cells of what stands ahead of one, and of what stands behind it. -/
theorem rd_parts {C : Nat} {w : World} {g off cap i : Nat} {W : List Ov} (h : RdO C w (.slice (some ⟨g, off, none⟩) W.length cap) W) (hi : i < W.length) :
    (∀ j u, (rowCs (W.take i))[j]? = some u → w.cell? ((⟨g, off, none⟩ : Addr).add j) = some u) ∧ (∀ j u, (rowCs (W.drop (i + 1)))[j]? = some u → w.cell? ((⟨g, off + (i + 1) * 12, none⟩ : Addr).add j) = some u) := by
  obtain ⟨⟨ao, cap', hv, _, _, _, hrow⟩, _⟩ := h
  obtain ⟨g', off', e, _, hc⟩ := hrow (by omega)
  simp only [Value.slice.injEq, true_and] at hv
  rw [← hv.1] at e
  simp only [Option.some.injEq, Addr.mk.injEq, and_true] at e
  obtain ⟨rfl, rfl⟩ := e
  refine ⟨fun j u hj => ?_, fun j u hj => ?_⟩
  · rw [Addr.add_mid]
    have hjl := (List.getElem?_eq_some_iff.1 hj).1
    exact rdO_cells hc j u (by rw [← List.take_append_drop i W, rowCs_app, List.getElem?_append_left hjl]; exact hj)
  · rw [Addr.add_mid]
    have := rdO_cells hc ((i + 1) * 12 + j) u (by
      rw [← List.take_append_drop (i + 1) W, rowCs_app, List.getElem?_append_right (by rw [rowCs_len, List.length_take]; omega), rowCs_len, List.length_take, show (i + 1) * 12 + j - min (i + 1) W.length * 12 = j by rw [Nat.min_eq_left (by omega)]; omega]
      exact hj)
    rwa [← Nat.add_assoc] at this
theorem rdO_any {C : Nat} {w : World} {v : Value} {L : List Ov} (h : RdO C w v L) : ∃ ao cap, v = .slice ao L.length cap := by
  obtain ⟨⟨ao, cap, h, _⟩, _⟩ := h
  exact ⟨ao, cap, h⟩
def lenS : Value → Nat
  | .slice _ n _ => n
  | _ => 0
/-- The adding in memory: the row of what is there, the row of what waits, none of the first i of which can be added. -/
def St4 (w : World) (L acc0 : List Ov) (wr : World) (tv tt : Value) (i : Nat) : Prop := ∃ P acc T W, addW L acc0 = addW P acc ∧ L4 P acc T W ∧ RdO wr.heap.size wr tt T ∧ (∃ g off cap, tt = .slice (some ⟨g, off, none⟩) T.length cap) ∧ RdO wr.heap.size wr tv W ∧ i ≤ W.length ∧ (∀ q, q < i → dueB P (ovAt acc q) = false) ∧ Below w.heap.size w wr ∧ w.heap.size < wr.heap.size
/-- What LogAdd answers, by what the adding comes to. -/
def ansW (r : Int × List Ov × List Ov) : Int × List Ov × List Ov := if r.1 = 0 then (0, allK r.2.1 16, r.2.2) else (r.1, [], [])
end Go.Proofs.YtmmkmkaannlkhaaGreatDoor

namespace Go.Proofs.YtmmkmkaannlkhaaGreatDoor
open Go.RowKit
set_option linter.unusedVariables false

def wrongB (x : Ov) : Bool := !x.ok
theorem logU_steps {L : List Ov} (h : logI L = true) : L.length ≤ 1024 ∧ (∀ i, i < L.length → stepN L i = true) ∧ ∀ x ∈ L, x.ok = true := by
  unfold logI at h
  simp only [Bool.and_eq_true, decide_eq_true_eq] at h
  have hs : ∀ i, i < L.length → stepI L i = true := fun i hi => by
    have := h.2.1
    rw [List.all_eq_true] at this
    exact this i (List.mem_range.2 hi)
  refine ⟨h.1, fun i hi => ?_, step_mem hs⟩
  have := hs i hi
  rw [stepI_split, Bool.and_eq_true] at this
  exact this.1
theorem apart_log {L : List Ov} (hs : ∀ i, i < L.length → stepN L i = true) (ha : ∀ x ∈ L, 0 ≤ x.a) : Apart L := by
  unfold Apart
  rw [List.pairwise_iff_getElem]
  intro i j hi hj hij e
  have ei : ∀ q (hq : q < L.length), ovAt L q = L[q] := fun q hq => by have := ovAt_get hq; rw [List.getElem?_eq_getElem hq] at this; exact (Option.some.inj this).symm
  have := seq_lt hs ha hij hj (by rw [ei i hi, ei j hj]; exact e.1)
  rw [ei i hi, ei j hj, e.2] at this
  omega
theorem addL_mem : ∀ (n : Nat) (P W : List Ov), (∀ x ∈ (addL n P W).2.1, x ∈ P ∨ x ∈ W) ∧ (∀ x ∈ (addL n P W).2.2, x ∈ W)
  | 0, P, W => ⟨fun x hx => .inl hx, fun x hx => hx⟩
  | n + 1, P, W => by
    unfold addL
    cases h : W.findIdx? (dueB P) with
    | none => exact ⟨fun x hx => .inl hx, fun x hx => hx⟩
    | some i =>
      have hi := (List.findIdx?_eq_some_iff_getElem.1 h).1
      simp only
      split
      · exact ⟨fun x hx => absurd hx (by simp), fun x hx => absurd hx (by simp)⟩
      · split
        · exact ⟨fun x hx => absurd hx (by simp), fun x hx => absurd hx (by simp)⟩
        · obtain ⟨h1, h2⟩ := addL_mem n (P ++ [ovAt W i]) (W.eraseIdx i)
          refine ⟨fun x hx => ?_, fun x hx => List.mem_of_mem_eraseIdx (h2 x hx)⟩
          rcases h1 x hx with h | h
          · rcases List.mem_append.1 h with h | h
            · exact .inl h
            · rw [List.mem_singleton] at h
              rw [h]
              exact .inr (ovAt_mem hi)
          · exact .inr (List.mem_of_mem_eraseIdx h)
/-- What LogAdd answers: the code, the log, what waits. -/
def resAdd (L M : List Ov) : Int × List Ov × List Ov :=
  if 1024 < M.length then (2, [], []) else if logI L = false ∨ M.any wrongB = true then (1, [], []) else
    match unk L M with
    | none => (16, [], [])
    | some acc => if (addW L acc).1 = 0 then (0, allK (addW L acc).2.1 16, (addW L acc).2.2) else ((addW L acc).1, [], [])
end Go.Proofs.YtmmkmkaannlkhaaGreatDoor

namespace Go.Proofs.YtmmkmkaannlkhaaGreatDoor
open Go.RowKit
set_option linter.unusedVariables false

theorem sameL_self (L : List Ov) : SameL (L.map strip) L := sameL_strip.2 (by
  rw [List.map_map]
  rfl)
theorem allK_strip (P : List Ov) : ∀ k, allK (P.map strip) k = (allK P k).map strip
  | 0 => rfl
  | k + 1 => by rw [allK, allK, allK_strip P k, byA_strip, List.map_append]
theorem due_strip (P : List Ov) (x : Ov) : dueB (P.map strip) (strip x) = dueB P x := by
  unfold dueB
  rw [next_strip, causes_strip]
theorem suit_strip (P : List Ov) (x : Ov) : suitB (P.map strip) (strip x) = suitB P x := by
  unfold suitB
  rw [(sm_of _ _ (sameL_self P)).ts]
  rfl
theorem unkS_strip (L acc : List Ov) (x : Ov) : unkS (L.map strip) (some (acc.map strip)) (strip x) = (unkS L (some acc) x).map (List.map strip) := by
  unfold unkS
  simp only [Option.bind_some]
  rw [← List.map_append, List.find?_map]
  have e : (nameB (strip x) ∘ strip) = nameB x := by
    funext y
    rfl
  rw [e]
  cases h : (L ++ acc).find? (nameB x) with
  | none => simp
  | some y =>
    simp only [Option.map_some]
    have e2 : sameB (strip y) (strip x) = sameB y x := rfl
    rw [e2]
    split <;> rfl
theorem unk_strip (L : List Ov) : ∀ (R : List Ov), unk (L.map strip) (R.reverse.map strip) = (unk L R.reverse).map (List.map strip) := by
  intro R
  induction R with
  | nil => rfl
  | cons x R ih =>
    rw [List.reverse_cons, List.map_append, List.map_cons, List.map_nil, unk_snoc, unk_snoc, ih]
    cases h : unk L R.reverse with
    | none => rfl
    | some acc => exact unkS_strip L acc x
theorem addL_strip : ∀ (n : Nat) (P W : List Ov), addL n (P.map strip) (W.map strip) = ((addL n P W).1, (addL n P W).2.1.map strip, (addL n P W).2.2.map strip)
  | 0, P, W => rfl
  | n + 1, P, W => by
    have e : (W.map strip).findIdx? (dueB (P.map strip)) = W.findIdx? (dueB P) := by
      rw [List.findIdx?_map]
      congr 1
      funext y
      exact due_strip P y
    unfold addL
    rw [e]
    cases h : W.findIdx? (dueB P) with
    | none => rfl
    | some i =>
      simp only
      rw [ovAt_strip, suit_strip, List.length_map]
      split
      · rfl
      · split
        · rfl
        · have := addL_strip n (P ++ [ovAt W i]) (W.eraseIdx i)
          rw [List.map_append, List.map_cons, List.map_nil, map_eraseIdx] at this
          exact this
theorem res_strip (L M : List Ov) : resAdd (L.map strip) (M.map strip) = ((resAdd L M).1, (resAdd L M).2.1.map strip, (resAdd L M).2.2.map strip) := by
  have hl : logI (L.map strip) = logI L := logI_same (sameL_self L)
  have hw : (M.map strip).any wrongB = M.any wrongB := by
    rw [List.any_map]
    rfl
  have hu := unk_strip L M.reverse
  rw [List.reverse_reverse] at hu
  unfold resAdd
  rw [List.length_map, hl, hw, hu]
  split
  · rfl
  · split
    · rfl
    · cases h : unk L M with
      | none => rfl
      | some acc =>
        simp only [Option.map_some]
        unfold addW
        rw [List.length_map, addL_strip]
        simp only
        split
        · rw [allK_strip]
        · rfl
theorem res_same {L' L M' M : List Ov} (h : SameL L' L) (h' : SameL M' M) : (resAdd L' M').1 = (resAdd L M).1 ∧ SameL (resAdd L' M').2.1 (resAdd L M).2.1 ∧ SameL (resAdd L' M').2.2 (resAdd L M).2.2 := by
  have e1 := res_strip L' M'
  rw [sameL_strip.1 h, sameL_strip.1 h', res_strip L M] at e1
  simp only [Prod.mk.injEq] at e1
  exact ⟨e1.1.symm, sameL_strip.2 e1.2.1.symm, sameL_strip.2 e1.2.2.symm⟩
theorem addL_len : ∀ (n : Nat) (P W : List Ov), (addL n P W).2.1.length ≤ P.length + W.length ∧ (addL n P W).2.2.length ≤ W.length
  | 0, P, W => ⟨by show P.length ≤ _; omega, Nat.le_refl _⟩
  | n + 1, P, W => by
    unfold addL
    cases h : W.findIdx? (dueB P) with
    | none => exact ⟨by show P.length ≤ _; omega, Nat.le_refl _⟩
    | some i =>
      have hi := (List.findIdx?_eq_some_iff_getElem.1 h).1
      simp only
      split
      · exact ⟨Nat.zero_le _, Nat.zero_le _⟩
      · split
        · exact ⟨Nat.zero_le _, Nat.zero_le _⟩
        · obtain ⟨h1, h2⟩ := addL_len n (P ++ [ovAt W i]) (W.eraseIdx i)
          rw [List.length_append, List.length_singleton, List.length_eraseIdx_of_lt hi] at h1
          rw [List.length_eraseIdx_of_lt hi] at h2
          exact ⟨by omega, by omega⟩
theorem res_facts (L M : List Ov) : ((resAdd L M).2.1.length ≤ 2048 ∧ ∀ x ∈ (resAdd L M).2.1, x.ds.length ≤ 1048576) ∧ ((resAdd L M).2.2.length ≤ 2048 ∧ ∀ x ∈ (resAdd L M).2.2, x.ds.length ≤ 1048576) := by
  have hnil : ((([] : List Ov).length ≤ 2048 ∧ ∀ x ∈ ([] : List Ov), x.ds.length ≤ 1048576) ∧ (([] : List Ov).length ≤ 2048 ∧ ∀ x ∈ ([] : List Ov), x.ds.length ≤ 1048576)) := ⟨⟨Nat.zero_le _, fun x hx => absurd hx (by simp)⟩, Nat.zero_le _, fun x hx => absurd hx (by simp)⟩
  unfold resAdd
  split
  · exact hnil
  · rename_i hlong
    split
    · exact hnil
    · rename_i hno
      cases hu : unk L M with
      | none => exact hnil
      | some acc =>
        simp only
        have hlog : logI L = true := by
          cases h : logI L with
          | true => rfl
          | false => exact absurd (.inl h) hno
        obtain ⟨hlen, hst, hok⟩ := logU_steps hlog
        have hokM : ∀ x ∈ M, x.ok = true := fun x hx => by
          cases h : x.ok with
          | true => rfl
          | false => exact absurd (.inr (List.any_eq_true.2 ⟨x, hx, by unfold wrongB; rw [h]; rfl⟩)) hno
        obtain ⟨-, hla, hma⟩ := unk_apart (apart_log hst (fun x hx => (ok_parts (hok x hx)).1.1)) M.reverse (by rw [List.reverse_reverse]; exact hu)
        rw [List.length_reverse] at hla
        have hd : ∀ x : Ov, x.ok = true → x.ds.length ≤ 1048576 := fun x hx => by have := vec_16 (ok_parts hx).2.2; omega
        have hda : ∀ x ∈ acc, x.ok = true := fun x hx => hokM x (by simpa using hma x hx)
        obtain ⟨l1, l2⟩ := addL_len acc.length L acc
        obtain ⟨m1, m2⟩ := addL_mem acc.length L acc
        split
        · refine ⟨⟨?_, fun x hx => ?_⟩, ?_, fun x hx => ?_⟩
          · show (allK (addL acc.length L acc).2.1 16).length ≤ 2048
            rw [allK_len]
            have := List.length_filter_le (fun x : Ov => decide (0 ≤ x.a ∧ x.a < ((16 : Nat) : Int))) (addL acc.length L acc).2.1
            omega
          · rcases m1 x (allK_mem hx) with h | h
            · exact hd x (hok x h)
            · exact hd x (hda x h)
          · show (addL acc.length L acc).2.2.length ≤ 2048
            omega
          · exact hd x (hda x (m2 x hx))
        · exact hnil
end Go.Proofs.YtmmkmkaannlkhaaGreatDoor

namespace Go.Proofs.YtmmkmkaannlkhaaGreatDoor
open Go.RowKit
set_option linter.unusedVariables false

/-- A log that is parted where an operation goes in. -/
theorem ahead_split (x : Ov) (L : List Ov) : ∃ A R, L = A ++ R ∧ (∀ y ∈ A, aheadB x y = true) ∧ (0 < R.length → aheadB x (ovAt R 0) = false) := by
  induction L with
  | nil => exact ⟨[], [], rfl, fun y hy => absurd hy (by simp), fun h => absurd h (by simp)⟩
  | cons z L ih =>
    obtain ⟨A, R, h1, h2, h3⟩ := ih
    cases hz : aheadB x z with
    | true =>
      refine ⟨z :: A, R, by rw [h1, List.cons_append], fun y hy => ?_, h3⟩
      rcases List.mem_cons.1 hy with rfl | h
      · exact hz
      · exact h2 y h
    | false => exact ⟨[], z :: L, rfl, fun y hy => absurd hy (by simp), fun _ => hz⟩
/-- What LogAdd answers came from the log, or with what was added. -/
theorem res_mem (L M : List Ov) : ∀ x ∈ (resAdd L M).2.1, x ∈ L ∨ x ∈ M := by
  unfold resAdd
  split
  · intro x hx
    cases hx
  · rename_i hlong
    split
    · intro x hx
      cases hx
    · rename_i hno
      cases hu : unk L M with
      | none => intro x hx; cases hx
      | some acc =>
        simp only
        have hlog : logI L = true := by
          cases h : logI L with
          | true => rfl
          | false => exact absurd (.inl h) hno
        obtain ⟨hlen, hst, hok⟩ := logU_steps hlog
        obtain ⟨-, hla, hma⟩ := unk_apart (apart_log hst (fun x hx => (ok_parts (hok x hx)).1.1)) M.reverse (by rw [List.reverse_reverse]; exact hu)
        obtain ⟨m1, m2⟩ := addL_mem acc.length L acc
        split
        · intro x hx
          rcases m1 x (allK_mem hx) with h | h
          · exact .inl h
          · exact .inr (by simpa using hma x h)
        · intro x hx
          cases hx
/-- What a drawn log's operations are: of an actor below m, counting sixteen, of a time up to T, with short texts. -/
def DrO (m T : Nat) (x : Ov) : Prop := (0 ≤ x.a ∧ x.a < (m : Int)) ∧ x.ds.length = 16 ∧ (0 ≤ x.t ∧ x.t ≤ (T : Int)) ∧ x.ky.size ≤ 5 ∧ x.tx.size ≤ 5
def DrL (m T n : Nat) (L : List Ov) : Prop := L.length ≤ n ∧ ∀ x ∈ L, DrO m T x
theorem DrO.mono {m T T' : Nat} {x : Ov} (h : DrO m T x) (hT : T ≤ T') : DrO m T' x := ⟨h.1, h.2.1, ⟨h.2.2.1.1, by have := h.2.2.1.2; omega⟩, h.2.2.2⟩
theorem DrL.mono {m T T' n n' : Nat} {L : List Ov} (h : DrL m T n L) (hT : T ≤ T') (hn : n ≤ n') : DrL m T' n' L := ⟨Nat.le_trans h.1 hn, fun x hx => (h.2 x hx).mono hT⟩
theorem DrO.same {m T : Nat} {x y : Ov} (h : DrO m T x) (e : y.same x) : DrO m T y := by
  obtain ⟨e0, e1, e2, e3, _, _, _, _, _, _, e10, e11⟩ := e
  exact ⟨by rw [e0]; exact h.1, by rw [e3]; exact h.2.1, by rw [e2]; exact h.2.2.1, by rw [e10]; exact h.2.2.2.1, by rw [e11]; exact h.2.2.2.2⟩
theorem DrL.same {m T n : Nat} {L M : List Ov} (h : DrL m T n L) (e : SameL M L) : DrL m T n M := by
  refine ⟨by rw [e.1]; exact h.1, fun x hx => ?_⟩
  obtain ⟨k, hk, rfl⟩ := List.mem_iff_getElem.1 hx
  have hk' : k < L.length := by rw [← e.1]; exact hk
  have e1 := ovAt_get hk
  rw [List.getElem?_eq_getElem hk] at e1
  have e2 := e.2 k hk'
  rw [← Option.some.inj e1] at e2
  exact (h.2 _ (ovAt_mem hk')).same e2
theorem drL_nil (m T n : Nat) : DrL m T n [] := ⟨Nat.zero_le _, fun x hx => absurd hx (by simp)⟩
/-- Of LogAdd's answer. -/
theorem drL_add {m T n : Nat} {L M S : List Ov} (hL : DrL m T n L) (hM : DrL m T n M) (hS : SameL S (resAdd L M).2.1) (hn : 2048 ≤ n) : DrL m T n S := by
  have hl := (res_facts L M).1.1
  refine ⟨by rw [hS.1]; omega, fun x hx => ?_⟩
  obtain ⟨k, hk, rfl⟩ := List.mem_iff_getElem.1 hx
  have hk' : k < (resAdd L M).2.1.length := by rw [← hS.1]; exact hk
  have e := hS.2 k hk'
  have e1 := ovAt_get hk
  rw [List.getElem?_eq_getElem hk] at e1
  rw [← Option.some.inj e1] at e
  refine DrO.same ?_ e
  rcases res_mem L M _ (ovAt_mem hk') with h | h
  · exact hL.2 _ h
  · exact hM.2 _ h
/-- Of one more. -/
theorem drL_put {m T n : Nat} {A R : List Ov} {x : Ov} (h : DrL m T n (A ++ R)) (hx : DrO m (T + 1) x) : DrL m (T + 1) (n + 1) (A ++ x :: R) := by
  refine ⟨by have := h.1; simp only [List.length_append, List.length_cons] at this ⊢; omega, fun y hy => ?_⟩
  rcases List.mem_append.1 hy with h1 | h1
  · exact (h.2 y (List.mem_append.2 (.inl h1))).mono (by omega)
  · rcases List.mem_cons.1 h1 with rfl | h2
    · exact hx
    · exact (h.2 y (List.mem_append.2 (.inr h2))).mono (by omega)
end Go.Proofs.YtmmkmkaannlkhaaGreatDoor

namespace Go.Proofs.YtmmkmkaannlkhaaGreatDoor
open Go.RowKit
set_option linter.unusedVariables false

set_option maxHeartbeats 4000000 in
set_option maxRecDepth 100000 in
theorem l08Insert_nil (w : World) (x : Ov) (hdx : ∃ a n c, x.dv = .slice a n c) :
    Calls Tryz.prog 46 #[.slice none 0 0, .agg x.cs.toArray] w fun e w' => ∃ r, e = .returned r ∧ w'.ownsRow w.heap.size 29 12 r 1 (rowCs [x]) ∧ Below w.heap.size w w' := by
  obtain ⟨da, dn, dc, hdx⟩ := hdx
  obtain ⟨i0, hi, hz0, hz1, hz2⟩ := info_parts infoOp
  obtain ⟨xa, xs, xt, xdv, xk, xo, xn, xu, xpt, xpa, xky, xtx, xds⟩ := x
  obtain rfl : xdv = .slice da dn dc := hdx
  unfold Ov.cs
  have HB0 : Hid (Below w.heap.size w (w.alloc (.cells #[.int .i64 xa, .int .i64 xs, .int .i64 xt, .slice da dn dc, .int .i64 xk, .int .i64 xo, .int .i64 xn, .int .i64 xu, .int .i64 xpt, .int .i64 xpa, .string xky, .string xtx] 29))) := below_alloc w _
  have HP0 : Hid (OpBlk (w.alloc (.cells #[.int .i64 xa, .int .i64 xs, .int .i64 xt, .slice da dn dc, .int .i64 xk, .int .i64 xo, .int .i64 xn, .int .i64 xu, .int .i64 xpt, .int .i64 xpa, .string xky, .string xtx] 29)) w.heap.size (⟨xa, xs, xt, .slice da dn dc, xk, xo, xn, xu, xpt, xpa, xky, xtx, xds⟩ : Ov)) := heap_alloc_new w _
  have HS0 : Hid ((w.alloc (.cells #[.int .i64 xa, .int .i64 xs, .int .i64 xt, .slice da dn dc, .int .i64 xk, .int .i64 xo, .int .i64 xn, .int .i64 xu, .int .i64 xpt, .int .i64 xpa, .string xky, .string xtx] 29)).heap.size = w.heap.size + 1) := World.size_alloc _ _
  have HIX : Hid ((Tryz.prog.info? 29).map (·.size) = some (Ov.cs (⟨xa, xs, xt, .slice da dn dc, xk, xo, xn, xu, xpt, xpa, xky, xtx, xds⟩ : Ov)).length) := infoOpB (⟨xa, xs, xt, .slice da dn dc, xk, xo, xn, xu, xpt, xpa, xky, xtx, xds⟩ : Ov)
  go_enter Tryz.func46, Tryz.ntmps46
  go_wp2_with fail
  generalize (w.alloc (.cells #[.int .i64 xa, .int .i64 xs, .int .i64 xt, .slice da dn dc, .int .i64 xk, .int .i64 xo, .int .i64 xn, .int .i64 xu, .int .i64 xpt, .int .i64 xpa, .string xky, .string xtx] 29)) = w0 at HB0 HP0 HS0 ⊢
  go_loopw [5] (fun ti wr => ti = .int .i64 0 ∧ Below w0.heap.size w0 wr) (fun ti _ => 1)
  case atStart => exact ⟨rfl, Below.refl _ _⟩
  case round =>
    obtain ⟨rfl, hb⟩ := hrel
    go_wp2_with fail
    go_quiet (fail)
    have hbq := below_drewN hb nq
    generalize wr.drewN nq = wq at hbq ⊢
    obtain ⟨hbw, hsq⟩ : Below w.heap.size w wq ∧ w.heap.size < wq.heap.size := ⟨below_seq HB0.out hbq, by have := hbq.size; have := HS0.out; omega⟩
    have HPQ : Hid (OpBlk wq w.heap.size (⟨xa, xs, xt, .slice da dn dc, xk, xo, xn, xu, xpt, xpa, xky, xtx, xds⟩ : Ov)) := (hbq.block w.heap.size (by have := HS0.out; omega)).trans HP0.out
    have hone1 : ∀ u ∈ Ov.cs (⟨xa, xs, xt, .slice da dn dc, xk, xo, xn, xu, xpt, xpa, xky, xtx, xds⟩ : Ov), u.oneCell' = true := cs_one (⟨xa, xs, xt, .slice da dn dc, xk, xo, xn, xu, xpt, xpa, xky, xtx, xds⟩ : Ov) rfl
    clear HP0 hb hbq
    go_upto_region 5 with (at_make; refine wpList_make_own _ rfl _ _ 33 rfl (w.heap.size + 1) 29 i0 (.agg #[.int .i64 0, .int .i64 0, .int .i64 0, .slice none 0 0, .int .i64 0, .int .i64 0, .int .i64 0, .int .i64 0, .int .i64 0, .int .i64 0, .string ByteArray.empty, .string ByteArray.empty]) 12 Tryz.underlying33 hi hz0 hz1 _ _ _ 1 rfl rfl (by omega) (by rw [hz2]; omega) (by unfold maxLen; omega) (by omega) ?_)
    intro w2 ho2 hg2
    have hb2 : Below w.heap.size w w2 := hbw.grown hg2 (by omega) (fun k e => by cases e)
    have hs2 := hg2.size
    have hP2 : OpBlk w2 w.heap.size (⟨xa, xs, xt, .slice da dn dc, xk, xo, xn, xu, xpt, xpa, xky, xtx, xds⟩ : Ov) := (hg2.block _ (OpBlk.lt' HPQ.out) (by simp)).trans HPQ.out
    go_upto_region 6 with (at_builtin; refine wpList_append_own_none rfl _ _ 33 rfl (w.heap.size + 1) 29 i0 12 Tryz.underlying33 hi _ 0 _ rfl ho2 rfl ?_)
    have hrgX : w2.rangeAt w.heap.size 0 [.int .i64 xa, .int .i64 xs, .int .i64 xt, .slice da dn dc, .int .i64 xk, .int .i64 xo, .int .i64 xn, .int .i64 xu, .int .i64 xpt, .int .i64 xpa, .string xky, .string xtx] := opBlk_range hP2
    have hcn := opNew w2 (⟨xa, xs, xt, .slice da dn dc, xk, xo, xn, xu, xpt, xpa, xky, xtx, xds⟩ : Ov)
    have hlt2 := fun k hk => (World.ownsRow.lt ho2 k hk).1
    clear hg2 hP2 HPQ
    go_upto_region 7 with (first | (refine wpList_load_mid rfl 29 _ rfl w.heap.size 0 rfl [.int .i64 xa, .int .i64 xs, .int .i64 xt, .slice da dn dc, .int .i64 xk, .int .i64 xo, .int .i64 xn, .int .i64 xu, .int .i64 xpt, .int .i64 xpa, .string xky, .string xtx] _ hrgX Tryz.underlying29 rfl HIX.out ?_) | (at_builtin; refine wpList_append_own _ rfl _ _ 33 rfl (w.heap.size + 1) 29 i0 (.agg #[.int .i64 0, .int .i64 0, .int .i64 0, .slice none 0 0, .int .i64 0, .int .i64 0, .int .i64 0, .int .i64 0, .int .i64 0, .int .i64 0, .string ByteArray.empty, .string ByteArray.empty]) 12 128 Tryz.underlying33 hi hz0 hz1 hz2 rfl (by decide) _ 0 _ rfl (World.ownsRow.alloc ho2 _) ⟨w2.heap.size, 0, none⟩ 1 1 (Ov.cs (⟨xa, xs, xt, .slice da dn dc, xk, xo, xn, xu, xpt, xpa, xky, xtx, xds⟩ : Ov)) rfl rfl hcn hone1 (by unfold maxLen; omega) (by omega) (by rw [World.size_alloc]; omega) ?_))
    intro v4 w4 ho4 hg4 _
    have hs4 := hg4.size
    rw [World.size_alloc] at hs4
    have hb4 : Below w.heap.size w w4 := (hb2.alloc (by omega) _).grown hg4 (by rw [World.size_alloc]; omega) (fun k e => by have := hlt2 k e; omega)
    go_wp2_with (at_builtin; refine wpList_append_own_none rfl _ _ 33 rfl (w.heap.size + 1) 29 i0 12 Tryz.underlying33 hi _ _ _ rfl ho4 rfl ?_)
    go_ret
    refine ⟨_, rfl, ?_, hb4⟩
    have ho5 := owns_base (B := w.heap.size + 1) ho4 (B' := w.heap.size) (by omega)
    exact ho5

set_option maxHeartbeats 4000000 in
set_option maxRecDepth 100000 in
theorem l08Insert_empty (w : World) (x : Ov) (ad : Addr) (cap : Nat) (hcp : cap ≤ maxLen) (hdx : ∃ a n c, x.dv = .slice a n c) :
    Calls Tryz.prog 46 #[.slice (some ad) 0 cap, .agg x.cs.toArray] w fun e w' => ∃ r, e = .returned r ∧ w'.ownsRow w.heap.size 29 12 r 1 (rowCs [x]) ∧ Below w.heap.size w w' := by
  obtain ⟨da, dn, dc, hdx⟩ := hdx
  obtain ⟨i0, hi, hz0, hz1, hz2⟩ := info_parts infoOp
  obtain ⟨xa, xs, xt, xdv, xk, xo, xn, xu, xpt, xpa, xky, xtx, xds⟩ := x
  obtain rfl : xdv = .slice da dn dc := hdx
  unfold Ov.cs
  have HB0 : Hid (Below w.heap.size w (w.alloc (.cells #[.int .i64 xa, .int .i64 xs, .int .i64 xt, .slice da dn dc, .int .i64 xk, .int .i64 xo, .int .i64 xn, .int .i64 xu, .int .i64 xpt, .int .i64 xpa, .string xky, .string xtx] 29))) := below_alloc w _
  have HP0 : Hid (OpBlk (w.alloc (.cells #[.int .i64 xa, .int .i64 xs, .int .i64 xt, .slice da dn dc, .int .i64 xk, .int .i64 xo, .int .i64 xn, .int .i64 xu, .int .i64 xpt, .int .i64 xpa, .string xky, .string xtx] 29)) w.heap.size (⟨xa, xs, xt, .slice da dn dc, xk, xo, xn, xu, xpt, xpa, xky, xtx, xds⟩ : Ov)) := heap_alloc_new w _
  have HS0 : Hid ((w.alloc (.cells #[.int .i64 xa, .int .i64 xs, .int .i64 xt, .slice da dn dc, .int .i64 xk, .int .i64 xo, .int .i64 xn, .int .i64 xu, .int .i64 xpt, .int .i64 xpa, .string xky, .string xtx] 29)).heap.size = w.heap.size + 1) := World.size_alloc _ _
  have HIX : Hid ((Tryz.prog.info? 29).map (·.size) = some (Ov.cs (⟨xa, xs, xt, .slice da dn dc, xk, xo, xn, xu, xpt, xpa, xky, xtx, xds⟩ : Ov)).length) := infoOpB (⟨xa, xs, xt, .slice da dn dc, xk, xo, xn, xu, xpt, xpa, xky, xtx, xds⟩ : Ov)
  go_enter Tryz.func46, Tryz.ntmps46
  go_wp2_with fail
  generalize (w.alloc (.cells #[.int .i64 xa, .int .i64 xs, .int .i64 xt, .slice da dn dc, .int .i64 xk, .int .i64 xo, .int .i64 xn, .int .i64 xu, .int .i64 xpt, .int .i64 xpa, .string xky, .string xtx] 29)) = w0 at HB0 HP0 HS0 ⊢
  go_loopw [5] (fun ti wr => ti = .int .i64 0 ∧ Below w0.heap.size w0 wr) (fun ti _ => 1)
  case atStart => exact ⟨rfl, Below.refl _ _⟩
  case round =>
    obtain ⟨rfl, hb⟩ := hrel
    go_wp2_with fail
    go_quiet (fail)
    have hbq := below_drewN hb nq
    generalize wr.drewN nq = wq at hbq ⊢
    obtain ⟨hbw, hsq⟩ : Below w.heap.size w wq ∧ w.heap.size < wq.heap.size := ⟨below_seq HB0.out hbq, by have := hbq.size; have := HS0.out; omega⟩
    have HPQ : Hid (OpBlk wq w.heap.size (⟨xa, xs, xt, .slice da dn dc, xk, xo, xn, xu, xpt, xpa, xky, xtx, xds⟩ : Ov)) := (hbq.block w.heap.size (by have := HS0.out; omega)).trans HP0.out
    have hone1 : ∀ u ∈ Ov.cs (⟨xa, xs, xt, .slice da dn dc, xk, xo, xn, xu, xpt, xpa, xky, xtx, xds⟩ : Ov), u.oneCell' = true := cs_one (⟨xa, xs, xt, .slice da dn dc, xk, xo, xn, xu, xpt, xpa, xky, xtx, xds⟩ : Ov) rfl
    clear HP0 hb hbq
    go_upto_region 5 with (at_make; refine wpList_make_own _ rfl _ _ 33 rfl (w.heap.size + 1) 29 i0 (.agg #[.int .i64 0, .int .i64 0, .int .i64 0, .slice none 0 0, .int .i64 0, .int .i64 0, .int .i64 0, .int .i64 0, .int .i64 0, .int .i64 0, .string ByteArray.empty, .string ByteArray.empty]) 12 Tryz.underlying33 hi hz0 hz1 _ _ _ 1 rfl rfl (by omega) (by rw [hz2]; omega) (by unfold maxLen; omega) (by omega) ?_)
    intro w2 ho2 hg2
    have hb2 : Below w.heap.size w w2 := hbw.grown hg2 (by omega) (fun k e => by cases e)
    have hs2 := hg2.size
    have hP2 : OpBlk w2 w.heap.size (⟨xa, xs, xt, .slice da dn dc, xk, xo, xn, xu, xpt, xpa, xky, xtx, xds⟩ : Ov) := (hg2.block _ (OpBlk.lt' HPQ.out) (by simp)).trans HPQ.out
    go_upto_region 6 with (at_builtin; refine wpList_append_own _ rfl _ _ 33 rfl (w.heap.size + 1) 29 i0 (.agg #[.int .i64 0, .int .i64 0, .int .i64 0, .slice none 0 0, .int .i64 0, .int .i64 0, .int .i64 0, .int .i64 0, .int .i64 0, .int .i64 0, .string ByteArray.empty, .string ByteArray.empty]) 12 128 Tryz.underlying33 hi hz0 hz1 hz2 rfl (by decide) _ 0 [] rfl ho2 _ 0 _ [] rfl rfl (fun j u hj => by simp at hj) (fun u hu => by simp at hu) (by unfold maxLen; omega) (by omega) (by omega) ?_)
    intro v3 w3 ho3 hg3 _
    have hs3 := hg3.size
    have hlt2 := fun k hk => (World.ownsRow.lt ho2 k hk).1
    have hb3 : Below w.heap.size w w3 := hb2.grown hg3 (by omega) (fun k e => by have := hlt2 k e; omega)
    replace hP2 : OpBlk w3 w.heap.size (⟨xa, xs, xt, .slice da dn dc, xk, xo, xn, xu, xpt, xpa, xky, xtx, xds⟩ : Ov) := (hg3.block _ (OpBlk.lt' hP2) (fun e => by have := hlt2 _ e.symm; omega)).trans hP2
    clear ho2 hlt2 hg3 hg2
    replace hb2 := hb3
    clear hb3
    have hrgX : w3.rangeAt w.heap.size 0 [.int .i64 xa, .int .i64 xs, .int .i64 xt, .slice da dn dc, .int .i64 xk, .int .i64 xo, .int .i64 xn, .int .i64 xu, .int .i64 xpt, .int .i64 xpa, .string xky, .string xtx] := opBlk_range hP2
    have hcn := opNew w3 (⟨xa, xs, xt, .slice da dn dc, xk, xo, xn, xu, xpt, xpa, xky, xtx, xds⟩ : Ov)
    have hlt3 := fun k hk => (World.ownsRow.lt ho3 k hk).1
    clear hP2 HPQ
    go_upto_region 7 with (first | (refine wpList_load_mid rfl 29 _ rfl w.heap.size 0 rfl [.int .i64 xa, .int .i64 xs, .int .i64 xt, .slice da dn dc, .int .i64 xk, .int .i64 xo, .int .i64 xn, .int .i64 xu, .int .i64 xpt, .int .i64 xpa, .string xky, .string xtx] _ hrgX Tryz.underlying29 rfl HIX.out ?_) | (at_builtin; refine wpList_append_own _ rfl _ _ 33 rfl (w.heap.size + 1) 29 i0 (.agg #[.int .i64 0, .int .i64 0, .int .i64 0, .slice none 0 0, .int .i64 0, .int .i64 0, .int .i64 0, .int .i64 0, .int .i64 0, .int .i64 0, .string ByteArray.empty, .string ByteArray.empty]) 12 128 Tryz.underlying33 hi hz0 hz1 hz2 rfl (by decide) _ 0 _ rfl (World.ownsRow.alloc ho3 _) ⟨w3.heap.size, 0, none⟩ 1 1 (Ov.cs (⟨xa, xs, xt, .slice da dn dc, xk, xo, xn, xu, xpt, xpa, xky, xtx, xds⟩ : Ov)) rfl rfl hcn hone1 (by unfold maxLen; omega) (by omega) (by rw [World.size_alloc]; omega) ?_))
    intro v4 w4 ho4 hg4 _
    have hs4 := hg4.size
    rw [World.size_alloc] at hs4
    have hb4 : Below w.heap.size w w4 := (hb2.alloc (by omega) _).grown hg4 (by rw [World.size_alloc]; omega) (fun k e => by have := hlt3 k e; omega)
    have hlt4 := fun k hk => (World.ownsRow.lt ho4 k hk).1
    go_wp2_with (at_builtin; refine wpList_append_own _ rfl _ _ 33 rfl (w.heap.size + 1) 29 i0 (.agg #[.int .i64 0, .int .i64 0, .int .i64 0, .slice none 0 0, .int .i64 0, .int .i64 0, .int .i64 0, .int .i64 0, .int .i64 0, .int .i64 0, .string ByteArray.empty, .string ByteArray.empty]) 12 128 Tryz.underlying33 hi hz0 hz1 hz2 rfl (by decide) _ 1 _ rfl ho4 _ 0 _ [] rfl rfl (fun j u hj => by simp at hj) (fun u hu => by simp at hu) (by unfold maxLen; omega) (by omega) (by omega) ?_)
    intro v5 w5 ho5 hg5 _
    have hb5 : Below w.heap.size w w5 := hb4.grown hg5 (by omega) (fun k e => by have := hlt4 k e; omega)
    go_wp2_with fail
    go_ret
    refine ⟨_, rfl, ?_, hb5⟩
    have ho6 := owns_base (B := w.heap.size + 1) ho5 (B' := w.heap.size) (by omega)
    exact ho6
end Go.Proofs.YtmmkmkaannlkhaaGreatDoor

namespace Go.Proofs.YtmmkmkaannlkhaaGreatDoor
open Go.RowKit
set_option linter.unusedVariables false

set_option maxHeartbeats 2000000 in
set_option maxRecDepth 100000 in
theorem l08KindFits_any (C : Nat) (w : World) (v : Value) (L : List Ov) (x : Ov) (hC : C ≤ w.heap.size) (hr : RdO C w v L) (hl : L.length ≤ 1024) :
    Calls Tryz.prog 72 #[v, .agg x.cs.toArray] w fun e w' => e = .returned (.bool (fitsB L x)) ∧ Below w.heap.size w w' := by
  obtain ⟨⟨ao, cap, rfl, hcap, hmax, hnil, hrow⟩, -⟩ := hr
  obtain ⟨r, HR⟩ : ∃ r, Hid (fitsB L x = r) := ⟨_, rfl⟩
  rw [HR.out]
  obtain ⟨xa, xs, xt, xdv, xk, xo, xn, xu, xpt, xpa, xky, xtx, xds⟩ := x
  unfold Ov.cs
  have HB0 : Hid (Below w.heap.size w (w.alloc (.cells #[.int .i64 xa, .int .i64 xs, .int .i64 xt, xdv, .int .i64 xk, .int .i64 xo, .int .i64 xn, .int .i64 xu, .int .i64 xpt, .int .i64 xpa, .string xky, .string xtx] 29))) := below_alloc w _
  have HC0 : Hid (∀ w1, Below (w.alloc (.cells #[.int .i64 xa, .int .i64 xs, .int .i64 xt, xdv, .int .i64 xk, .int .i64 xo, .int .i64 xn, .int .i64 xu, .int .i64 xpt, .int .i64 xpa, .string xky, .string xtx] 29)).heap.size (w.alloc (.cells #[.int .i64 xa, .int .i64 xs, .int .i64 xt, xdv, .int .i64 xk, .int .i64 xo, .int .i64 xn, .int .i64 xu, .int .i64 xpt, .int .i64 xpa, .string xky, .string xtx] 29)) w1 → w1.cell? ⟨w.heap.size, 4, none⟩ = some (.int .i64 xk) ∧ w1.cell? ⟨w.heap.size, 5, none⟩ = some (.int .i64 xo)) := fun w1 hb => ⟨(op_cells hb).2.2.2.2.1, (op_cells hb).2.2.2.2.2.1⟩
  have hb0 := Below.refl (w.alloc (.cells #[.int .i64 xa, .int .i64 xs, .int .i64 xt, xdv, .int .i64 xk, .int .i64 xo, .int .i64 xn, .int .i64 xu, .int .i64 xpt, .int .i64 xpa, .string xky, .string xtx] 29)).heap.size (w.alloc (.cells #[.int .i64 xa, .int .i64 xs, .int .i64 xt, xdv, .int .i64 xk, .int .i64 xo, .int .i64 xn, .int .i64 xu, .int .i64 xpt, .int .i64 xpa, .string xky, .string xtx] 29))
  go_enter Tryz.func72, Tryz.ntmps72
  go_wp2_with fail
  generalize (w.alloc (.cells #[.int .i64 xa, .int .i64 xs, .int .i64 xt, xdv, .int .i64 xk, .int .i64 xo, .int .i64 xn, .int .i64 xu, .int .i64 xpt, .int .i64 xpa, .string xky, .string xtx] 29)) = w0 at hb0 HB0 HC0 ⊢
  go_loopw [5] (fun ti wr => ∃ i : Nat, i ≤ L.length ∧ ti = .int .i64 (i : Int) ∧ Hid (∀ q, q < i → ((ovAt L q).o = xo → spT (ovAt L q).k = spT xk)) ∧ Below w0.heap.size w0 wr) (fun ti _ => L.length - (intOf ti).toNat)
  case atStart => exact ⟨0, Nat.zero_le _, rfl, fun q hq => absurd hq (by omega), hb0⟩
  case round =>
    clear hb0
    obtain ⟨i, hi, rfl, HQ, hb⟩ := hrel
    by_cases hlt : i < L.length
    · have hki : (i : Int) < (L.length : Int) := by omega
      have hk0 : (0 : Int) ≤ (i : Int) := by omega
      have hk2 : (i : Int) + 1 < 9223372036854775808 := by omega
      obtain ⟨g, off, rfl, hg, hcs⟩ := hrow (by omega)
      have hx := ((hcs i hlt).below (HB0.out.mono hC) hg).below (hb.mono (by have := HB0.out.size; omega)) hg
      have c5 := hx.c5
      have c4 := hx.c4
      obtain ⟨d4, d5⟩ := HC0.out wr hb
      have hTk := fun w => l08Thing_any (ovAt L i).k w
      have hTx := fun w => l08Thing_any xk w
      clear hx hcs
      have HST : Hid (((ovAt L i).o = xo → spT (ovAt L i).k = spT xk) → ∀ q, q < i + 1 → ((ovAt L q).o = xo → spT (ovAt L q).k = spT xk)) := fun h q hq => by
        by_cases e : q = i
        · subst e; exact h
        · exact HQ.out q (by omega)
      have HNO : Hid (¬ ((ovAt L i).o = xo → spT (ovAt L i).k = spT xk) → r = false) := fun h => by
        rw [← HR.out, fitsB, List.all_eq_false]
        exact ⟨ovAt L i, ovAt_mem hlt, by simpa using h⟩
      generalize (ovAt L i).o = yo at *
      generalize (ovAt L i).k = yk at *
      by_cases ho : yo = xo
      · have hob : (yo == xo) = true := by simpa using ho
        by_cases hs : spT yk = spT xk
        · have HE : Hid _ := HST.out (fun _ => hs)
          have hsb : (spT yk != spT xk) = false := by simpa using hs
          clear ho hs HST HNO HQ
          generalize spT yk = ty at *
          generalize spT xk = tx at *
          go_wp2_with fail
          go_quiet ((go_at_call 106; first | exact Calls.quiet_of_same (hTk _) | exact Calls.quiet_of_same (hTx _)))
          go_wp2_with fail
          go_roundw
          case rel => exact ⟨i + 1, by omega, by go_num, HE, below_drewN hb _⟩
          case measure => simp [intOf]; omega
        · have HF : Hid (r = false) := HNO.out (fun h => hs (h ho))
          have hsb : (spT yk != spT xk) = true := by simpa using hs
          clear ho hs HST HNO HQ
          generalize spT yk = ty at *
          generalize spT xk = tx at *
          go_wp2_with fail
          go_quiet ((go_at_call 106; first | exact Calls.quiet_of_same (hTk _) | exact Calls.quiet_of_same (hTx _)))
          go_wp2_with fail
          go_ret
          exact ⟨by rw [HF.out]; rfl, below_seq HB0.out (below_drewN hb _)⟩
      · have hob : (yo == xo) = false := by simpa using ho
        have HE : Hid _ := HST.out (fun h => absurd h ho)
        clear ho HST HNO HQ
        go_wp2_with fail
        go_quiet (fail)
        go_wp2_with fail
        go_roundw
        case rel => exact ⟨i + 1, by omega, by go_num, HE, below_drewN hb _⟩
        case measure => simp [intOf]; omega
    · have HF : Hid (r = true) := by
        unfold Hid
        rw [← HR.out, fitsB, List.all_eq_true]
        intro y hy
        obtain ⟨q, hq, rfl⟩ := List.getElem_of_mem hy
        have := HQ.out q (by omega)
        have e : ovAt L q = L[q] := by have h := ovAt_get hq; rw [List.getElem?_eq_getElem hq] at h; exact (Option.some.inj h).symm
        rw [e] at this
        exact decide_eq_true this
      have i1 : ¬ (i : Int) < (L.length : Int) := by omega
      go_wp2_with fail
      go_ret
      exact ⟨by rw [HF.out]; rfl, below_seq HB0.out hb⟩
end Go.Proofs.YtmmkmkaannlkhaaGreatDoor

namespace Go.Proofs.YtmmkmkaannlkhaaGreatDoor
open Go.RowKit
set_option linter.unusedVariables false

theorem rd_sixteen {C : Nat} {w : World} {v : Value} {ds : List Int} (h : Rd C w v (ds.map (Value.int .i64))) (hl : ds.length = 16) : ∃ g off cap, v = .slice (some ⟨g, off, none⟩) 16 cap ∧ g < C ∧ ∀ j, j < 16 → w.cell? ⟨g, off + j, none⟩ = some (.int .i64 (ds.getD j 0)) := by
  obtain ⟨ao, cap, rfl, h1, h2, h3, h4⟩ := h
  rw [List.length_map, hl] at h1 h4 ⊢
  obtain ⟨g, off, rfl, hg, hc⟩ := h4 (by omega)
  refine ⟨g, off, cap, rfl, hg, fun j hj => hc j _ ?_⟩
  rw [List.getElem?_map, List.getD_eq_getElem?_getD, List.getElem?_eq_getElem (by omega)]
  rfl
theorem two_opc {w w1 : World} {c0 c1 c2 c3 c4 c5 c6 c7 c8 c9 c10 c11 d0 d1 d2 d3 d4 d5 d6 d7 d8 d9 d10 d11 : Value} {T : TypeId} (h : Below ((w.alloc (.cells #[c0, c1, c2, c3, c4, c5, c6, c7, c8, c9, c10, c11] T)).alloc (.cells #[d0, d1, d2, d3, d4, d5, d6, d7, d8, d9, d10, d11] T)).heap.size ((w.alloc (.cells #[c0, c1, c2, c3, c4, c5, c6, c7, c8, c9, c10, c11] T)).alloc (.cells #[d0, d1, d2, d3, d4, d5, d6, d7, d8, d9, d10, d11] T)) w1) :
    w1.cell? ⟨w.heap.size, 0, none⟩ = some c0 ∧ w1.cell? ⟨w.heap.size, 1, none⟩ = some c1 ∧ w1.cell? ⟨w.heap.size, 2, none⟩ = some c2 ∧ w1.cell? ⟨w.heap.size, 3, none⟩ = some c3 ∧ w1.cell? ⟨w.heap.size, 4, none⟩ = some c4 ∧ w1.cell? ⟨w.heap.size, 5, none⟩ = some c5 ∧ w1.cell? ⟨w.heap.size, 6, none⟩ = some c6 ∧ w1.cell? ⟨w.heap.size, 7, none⟩ = some c7 ∧ w1.cell? ⟨w.heap.size, 8, none⟩ = some c8 ∧ w1.cell? ⟨w.heap.size, 9, none⟩ = some c9 ∧ w1.cell? ⟨w.heap.size, 10, none⟩ = some c10 ∧ w1.cell? ⟨w.heap.size, 11, none⟩ = some c11 ∧ w1.cell? ⟨w.heap.size + 1, 0, none⟩ = some d0 ∧ w1.cell? ⟨w.heap.size + 1, 1, none⟩ = some d1 ∧ w1.cell? ⟨w.heap.size + 1, 2, none⟩ = some d2 ∧ w1.cell? ⟨w.heap.size + 1, 3, none⟩ = some d3 ∧ w1.cell? ⟨w.heap.size + 1, 4, none⟩ = some d4 ∧ w1.cell? ⟨w.heap.size + 1, 5, none⟩ = some d5 ∧ w1.cell? ⟨w.heap.size + 1, 6, none⟩ = some d6 ∧ w1.cell? ⟨w.heap.size + 1, 7, none⟩ = some d7 ∧ w1.cell? ⟨w.heap.size + 1, 8, none⟩ = some d8 ∧ w1.cell? ⟨w.heap.size + 1, 9, none⟩ = some d9 ∧ w1.cell? ⟨w.heap.size + 1, 10, none⟩ = some d10 ∧ w1.cell? ⟨w.heap.size + 1, 11, none⟩ = some d11 := by
  obtain ⟨p0, p1, p2, p3, p4, p5, p6, p7, p8, p9, p10, p11⟩ := op_cells (below_seq (below_alloc (w.alloc (.cells #[c0, c1, c2, c3, c4, c5, c6, c7, c8, c9, c10, c11] T)) (.cells #[d0, d1, d2, d3, d4, d5, d6, d7, d8, d9, d10, d11] T)) h)
  obtain ⟨q0, q1, q2, q3, q4, q5, q6, q7, q8, q9, q10, q11⟩ := op_cells h
  rw [World.size_alloc] at q0 q1 q2 q3 q4 q5 q6 q7 q8 q9 q10 q11
  exact ⟨p0, p1, p2, p3, p4, p5, p6, p7, p8, p9, p10, p11, q0, q1, q2, q3, q4, q5, q6, q7, q8, q9, q10, q11⟩
theorem two_range {w w1 : World} {c0 c1 c2 c3 c4 c5 c6 c7 c8 c9 c10 c11 d0 d1 d2 d3 d4 d5 d6 d7 d8 d9 d10 d11 : Value} {T : TypeId} (h : Below ((w.alloc (.cells #[c0, c1, c2, c3, c4, c5, c6, c7, c8, c9, c10, c11] T)).alloc (.cells #[d0, d1, d2, d3, d4, d5, d6, d7, d8, d9, d10, d11] T)).heap.size ((w.alloc (.cells #[c0, c1, c2, c3, c4, c5, c6, c7, c8, c9, c10, c11] T)).alloc (.cells #[d0, d1, d2, d3, d4, d5, d6, d7, d8, d9, d10, d11] T)) w1) : w1.rangeAt w.heap.size 0 [c0, c1, c2, c3, c4, c5, c6, c7, c8, c9, c10, c11] ∧ w1.rangeAt (w.heap.size + 1) 0 [d0, d1, d2, d3, d4, d5, d6, d7, d8, d9, d10, d11] := by
  obtain ⟨p0, p1, p2, p3, p4, p5, p6, p7, p8, p9, p10, p11, q0, q1, q2, q3, q4, q5, q6, q7, q8, q9, q10, q11⟩ := two_opc h
  constructor
  · intro j u hj
    rw [Nat.zero_add]
    match j with
    | 0 => cases hj; exact p0
    | 1 => cases hj; exact p1
    | 2 => cases hj; exact p2
    | 3 => cases hj; exact p3
    | 4 => cases hj; exact p4
    | 5 => cases hj; exact p5
    | 6 => cases hj; exact p6
    | 7 => cases hj; exact p7
    | 8 => cases hj; exact p8
    | 9 => cases hj; exact p9
    | 10 => cases hj; exact p10
    | 11 => cases hj; exact p11
    | j + 12 => simp at hj
  · intro j u hj
    rw [Nat.zero_add]
    match j with
    | 0 => cases hj; exact q0
    | 1 => cases hj; exact q1
    | 2 => cases hj; exact q2
    | 3 => cases hj; exact q3
    | 4 => cases hj; exact q4
    | 5 => cases hj; exact q5
    | 6 => cases hj; exact q6
    | 7 => cases hj; exact q7
    | 8 => cases hj; exact q8
    | 9 => cases hj; exact q9
    | 10 => cases hj; exact q10
    | 11 => cases hj; exact q11
    | j + 12 => simp at hj
theorem beq_dec (a b : Int) : (a == b) = decide (a = b) := by
  by_cases h : a = b
  · rw [decide_eq_true h]; simpa using h
  · rw [decide_eq_false h]; simpa using h
theorem str_dec (a b : ByteArray) : (a.toList == b.toList) = decide (a = b) := by
  by_cases h : a = b
  · rw [decide_eq_true h, h]; simp
  · rw [decide_eq_false h]
    simp only [beq_eq_false_iff_ne]
    intro e
    apply h
    rw [Lib.toList_data, Lib.toList_data] at e
    obtain ⟨a⟩ := a
    obtain ⟨b⟩ := b
    congr 1
    exact Array.toList_inj.1 e

set_option maxHeartbeats 1000000 in
theorem l05Same_any (C : Nat) (w : World) (v v' : Value) (xs ys : List Int) (hC : C ≤ w.heap.size) (h : Rd C w v (xs.map (Value.int .i64))) (h' : Rd C w v' (ys.map (Value.int .i64))) (hx : xs.length = 16) (hy : ys.length = 16) :
    Calls Tryz.prog 107 #[v, v'] w fun e w' => e = .returned (.bool (decide (xs = ys))) ∧ Below w.heap.size w w' := by
  obtain ⟨g, o, c, rfl, _, h1⟩ := rd_sixteen h hx
  obtain ⟨g', o', c', rfl, _, h2⟩ := rd_sixteen h' hy
  obtain ⟨r, HR⟩ : ∃ r, Hid (decide (xs = ys) = r) := ⟨_, rfl⟩
  rw [HR.out]
  have hext : (∀ j, j < 16 → xs.getD j 0 = ys.getD j 0) → xs = ys := fun he => by
    refine List.ext_getElem (by omega) fun j a1 a2 => ?_
    have := he j (by omega)
    rwa [List.getD_eq_getElem?_getD, List.getD_eq_getElem?_getD, List.getElem?_eq_getElem a1, List.getElem?_eq_getElem a2] at this
  go_enter Tryz.func107, Tryz.ntmps107
  go_wp2_with fail
  go_loopw [5] (fun ti wr => ∃ k q : Nat, k ≤ 16 ∧ ti = .int .i64 (k : Int) ∧ Hid (wr = w.drewN q) ∧ Hid (∀ j, j < k → xs.getD j 0 = ys.getD j 0)) (fun ti _ => 16 - (intOf ti).toNat)
  case atStart => exact ⟨0, 0, Nat.zero_le _, rfl, rfl, fun j hj => absurd hj (by omega)⟩
  case round =>
    obtain ⟨k, q, hk, rfl, HW, HQ⟩ := hrel
    have hbb : Below w.heap.size w wr := by rw [HW.out]; exact below_drewN (Below.refl _ _) q
    by_cases hlt : k < 16
    · have hki : (k : Int) < 16 := by omega
      have hk0 : (0 : Int) ≤ (k : Int) := by omega
      have c1 : wr.cell? ⟨g, o + k, none⟩ = some (.int .i64 (xs.getD k 0)) := by rw [HW.out]; exact h1 k hlt
      have c2 : wr.cell? ⟨g', o' + k, none⟩ = some (.int .i64 (ys.getD k 0)) := by rw [HW.out]; exact h2 k hlt
      by_cases he : xs.getD k 0 = ys.getD k 0
      · have HE : Hid (∀ j, j < k + 1 → xs.getD j 0 = ys.getD j 0) := fun j hj => by
          by_cases e : j = k
          · subst e; exact he
          · exact HQ.out j (by omega)
        rw [he] at c1
        generalize ys.getD k 0 = z at c1 c2
        clear he HQ h1 h2
        go_wp2_with fail
        go_quiet (fail)
        go_wp2_with fail
        go_roundw
        case rel => exact ⟨k + 1, q + nq, by omega, by go_num, by unfold Hid; rw [HW.out]; exact World.drewN_drewN _ _ _, HE⟩
        case measure => simp [intOf]; omega
      · have HF : Hid (r = false) := HR.out.symm.trans (decide_eq_false fun e => he (by rw [e]))
        have hn : (xs.getD k 0 != ys.getD k 0) = true := by simpa using he
        generalize xs.getD k 0 = z at c1 hn
        generalize ys.getD k 0 = z' at c2 hn
        clear he HQ h1 h2
        go_wp2_with fail
        go_quiet (fail)
        go_wp2_with fail
        go_ret
        exact ⟨by rw [HF.out]; rfl, below_drewN hbb nq⟩
    · have HF : Hid (r = true) := HR.out.symm.trans (decide_eq_true (hext fun j hj => HQ.out j (by omega)))
      have i1 : ¬ (k : Int) < 16 := by omega
      clear HQ h1 h2
      go_wp2_with fail
      go_ret
      exact ⟨by rw [HF.out]; rfl, hbb⟩
end Go.Proofs.YtmmkmkaannlkhaaGreatDoor

namespace Go.Proofs.YtmmkmkaannlkhaaGreatDoor
open Go.RowKit
set_option linter.unusedVariables false

set_option maxHeartbeats 8000000 in
set_option maxRecDepth 100000 in
theorem specSameOp_any (C : Nat) (x y : Ov) (w : World) (hC : C ≤ w.heap.size) (hx : Rd C w x.dv (x.ds.map (Value.int .i64))) (hy : Rd C w y.dv (y.ds.map (Value.int .i64))) (hxl : x.ds.length = 16) (hyl : y.ds.length = 16) (hna : x.a = y.a) (hns : x.s = y.s) :
    Calls Tryz.prog 69 #[.agg x.cs.toArray, .agg y.cs.toArray] w fun e w' => e = .returned (.bool (sameB x y)) ∧ Below w.heap.size w w' := by
  obtain ⟨xa, xs, xt, xdv, xk, xo, xn, xu, xpt, xpa, xky, xtx, xds⟩ := x
  obtain ⟨ya, ys, yt, ydv, yk, yo, yn, yu, ypt, ypa, yky, ytx, yds⟩ := y
  obtain rfl : xa = ya := hna
  obtain rfl : xs = ys := hns
  unfold Ov.cs
  have HB0 : Hid (Below w.heap.size w ((w.alloc (.cells #[.int .i64 xa, .int .i64 xs, .int .i64 xt, xdv, .int .i64 xk, .int .i64 xo, .int .i64 xn, .int .i64 xu, .int .i64 xpt, .int .i64 xpa, .string xky, .string xtx] 29)).alloc (.cells #[.int .i64 xa, .int .i64 xs, .int .i64 yt, ydv, .int .i64 yk, .int .i64 yo, .int .i64 yn, .int .i64 yu, .int .i64 ypt, .int .i64 ypa, .string yky, .string ytx] 29))) := below_then (below_alloc w _) _
  have hB : Below ((w.alloc (.cells #[.int .i64 xa, .int .i64 xs, .int .i64 xt, xdv, .int .i64 xk, .int .i64 xo, .int .i64 xn, .int .i64 xu, .int .i64 xpt, .int .i64 xpa, .string xky, .string xtx] 29)).alloc (.cells #[.int .i64 xa, .int .i64 xs, .int .i64 yt, ydv, .int .i64 yk, .int .i64 yo, .int .i64 yn, .int .i64 yu, .int .i64 ypt, .int .i64 ypa, .string yky, .string ytx] 29)).heap.size ((w.alloc (.cells #[.int .i64 xa, .int .i64 xs, .int .i64 xt, xdv, .int .i64 xk, .int .i64 xo, .int .i64 xn, .int .i64 xu, .int .i64 xpt, .int .i64 xpa, .string xky, .string xtx] 29)).alloc (.cells #[.int .i64 xa, .int .i64 xs, .int .i64 yt, ydv, .int .i64 yk, .int .i64 yo, .int .i64 yn, .int .i64 yu, .int .i64 ypt, .int .i64 ypa, .string yky, .string ytx] 29)) ((w.alloc (.cells #[.int .i64 xa, .int .i64 xs, .int .i64 xt, xdv, .int .i64 xk, .int .i64 xo, .int .i64 xn, .int .i64 xu, .int .i64 xpt, .int .i64 xpa, .string xky, .string xtx] 29)).alloc (.cells #[.int .i64 xa, .int .i64 xs, .int .i64 yt, ydv, .int .i64 yk, .int .i64 yo, .int .i64 yn, .int .i64 yu, .int .i64 ypt, .int .i64 ypa, .string yky, .string ytx] 29)) := Below.refl _ _
  obtain ⟨b3, HB3⟩ : ∃ b, Hid (decide (xds = yds) = b) := ⟨_, rfl⟩
  have hE : ∀ w9, Below ((w.alloc (.cells #[.int .i64 xa, .int .i64 xs, .int .i64 xt, xdv, .int .i64 xk, .int .i64 xo, .int .i64 xn, .int .i64 xu, .int .i64 xpt, .int .i64 xpa, .string xky, .string xtx] 29)).alloc (.cells #[.int .i64 xa, .int .i64 xs, .int .i64 yt, ydv, .int .i64 yk, .int .i64 yo, .int .i64 yn, .int .i64 yu, .int .i64 ypt, .int .i64 ypa, .string yky, .string ytx] 29)).heap.size ((w.alloc (.cells #[.int .i64 xa, .int .i64 xs, .int .i64 xt, xdv, .int .i64 xk, .int .i64 xo, .int .i64 xn, .int .i64 xu, .int .i64 xpt, .int .i64 xpa, .string xky, .string xtx] 29)).alloc (.cells #[.int .i64 xa, .int .i64 xs, .int .i64 yt, ydv, .int .i64 yk, .int .i64 yo, .int .i64 yn, .int .i64 yu, .int .i64 ypt, .int .i64 ypa, .string yky, .string ytx] 29)) w9 → Calls Tryz.prog 107 #[xdv, ydv] w9 fun e w' => e = .returned (.bool b3) ∧ Below w9.heap.size w9 w' := fun w9 hb => by
    have h1 : Below w.heap.size w w9 := below_seq HB0.out hb
    have := h1.size
    rw [← HB3.out]
    exact l05Same_any C w9 xdv ydv xds yds (by omega) (hx.below (h1.mono hC)) (hy.below (h1.mono hC)) hxl hyl
  clear hx hy hxl hyl hC
  obtain ⟨b2, E2⟩ : ∃ b, Hid ((xt == yt) = b) := ⟨_, rfl⟩
  obtain ⟨b4, E4⟩ : ∃ b, Hid ((xk == yk) = b) := ⟨_, rfl⟩
  obtain ⟨b5, E5⟩ : ∃ b, Hid ((xo == yo) = b) := ⟨_, rfl⟩
  obtain ⟨b6, E6⟩ : ∃ b, Hid ((xn == yn) = b) := ⟨_, rfl⟩
  obtain ⟨b7, E7⟩ : ∃ b, Hid ((xu == yu) = b) := ⟨_, rfl⟩
  obtain ⟨b8, E8⟩ : ∃ b, Hid ((xpt == ypt) = b) := ⟨_, rfl⟩
  obtain ⟨b9, E9⟩ : ∃ b, Hid ((xpa == ypa) = b) := ⟨_, rfl⟩
  obtain ⟨b10, E10⟩ : ∃ b, Hid ((xky.toList == yky.toList) = b) := ⟨_, rfl⟩
  obtain ⟨b11, E11⟩ : ∃ b, Hid ((xtx.toList == ytx.toList) = b) := ⟨_, rfl⟩
  obtain ⟨r, HR0⟩ : ∃ r, Hid (sameB (⟨xa, xs, xt, xdv, xk, xo, xn, xu, xpt, xpa, xky, xtx, xds⟩ : Ov) (⟨xa, xs, yt, ydv, yk, yo, yn, yu, ypt, ypa, yky, ytx, yds⟩ : Ov) = r) := ⟨_, rfl⟩
  have HR : Hid (r = (b2 && (b3 && (b4 && (b5 && (b6 && (b7 && (b8 && (b9 && (b10 && b11)))))))))) := by
    unfold Hid
    rw [← HR0.out, ← E2.out, ← HB3.out, ← E4.out, ← E5.out, ← E6.out, ← E7.out, ← E8.out, ← E9.out, ← E10.out, ← E11.out]
    unfold sameB
    simp only [beq_dec, str_dec, decide_true, Bool.true_and]
  rw [HR0.out]
  clear HR0 HB3
  obtain ⟨p0, p1, p2, p3, p4, p5, p6, p7, p8, p9, p10, p11, q0, q1, q2, q3, q4, q5, q6, q7, q8, q9, q10, q11⟩ := two_opc hB
  go_enter Tryz.func69, Tryz.ntmps69
  have e2 := E2.out
  have e4 := E4.out
  have e5 := E5.out
  have e6 := E6.out
  have e7 := E7.out
  have e8 := E8.out
  have e9 := E9.out
  have e10 := E10.out
  have e11 := E11.out
  go_wp2_with (first | (go_at_call 107; refine (hE _ hB).mono ?_; rintro e w8 ⟨rfl, hb8⟩; replace hB := below_seq hB hb8; clear p0 p1 p2 p3 p4 p5 p6 p7 p8 p9 p10 p11 q0 q1 q2 q3 q4 q5 q6 q7 q8 q9 q10 q11; obtain ⟨p0, p1, p2, p3, p4, p5, p6, p7, p8, p9, p10, p11, q0, q1, q2, q3, q4, q5, q6, q7, q8, q9, q10, q11⟩ := two_opc hB; clear hb8))
  all_goals go_ret
  all_goals refine ⟨?_, below_seq HB0.out hB⟩
  all_goals (rw [HR.out]; simp_all)
end Go.Proofs.YtmmkmkaannlkhaaGreatDoor
