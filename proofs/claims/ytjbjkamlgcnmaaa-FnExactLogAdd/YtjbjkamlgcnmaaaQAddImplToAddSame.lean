/- LogAdd: what the code's answers. LogAdd, plain facts: logs and operations that say the same are added alike; how many come out, and of what kind. -/
import Derived.Test.YtjbjkamlgcnmaaaQAddAll
import Derived.Test.YtjbjkamlgcnmaaaQUnknown
import Derived.Test.YtjbjkamlgcnmaaaQLedClosedToLogOKImpl
import Derived.Test.YtjbjkamlgcnmaaaQMarkOpsToOpEq
import Derived.Test.YtjbjkamlgcnmaaaQGrowOpsToFindOps
import Derived.Test.YtjbjkamlgcnmaaaQOpToToLawKit
namespace Go.Proofs.Ytjbjkamlgcnmaaa
open Go.RowKit
set_option linter.unusedVariables false

theorem logU_steps {L : List Ov} (h : logI L = true) : L.length ≤ 1024 ∧ (∀ i, i < L.length → stepN L i = true) ∧ ∀ x ∈ L, x.ok = true := by
  unfold logI at h
  simp only [Bool.and_eq_true, decide_eq_true_eq] at h
  have hs : ∀ i, i < L.length → stepI L i = true := fun i hi => by
    have := h.2.1
    rw [List.all_eq_true] at this
    exact this i (List.mem_range.2 hi)
  refine ⟨h.1, fun i hi => ?_, step_mem hs⟩
  have := hs i hi
  rw [stepI_split, Bool.and_eq_true] at this
  exact this.1
theorem apart_log {L : List Ov} (hs : ∀ i, i < L.length → stepN L i = true) (ha : ∀ x ∈ L, 0 ≤ x.a) : Apart L := by
  unfold Apart
  rw [List.pairwise_iff_getElem]
  intro i j hi hj hij e
  have ei : ∀ q (hq : q < L.length), ovAt L q = L[q] := fun q hq => by have := ovAt_get hq; rw [List.getElem?_eq_getElem hq] at this; exact (Option.some.inj this).symm
  have := seq_lt hs ha hij hj (by rw [ei i hi, ei j hj]; exact e.1)
  rw [ei i hi, ei j hj, e.2] at this
  omega
theorem addL_mem : ∀ (n : Nat) (P W : List Ov), (∀ x ∈ (addL n P W).2.1, x ∈ P ∨ x ∈ W) ∧ (∀ x ∈ (addL n P W).2.2, x ∈ W)
  | 0, P, W => ⟨fun x hx => .inl hx, fun x hx => hx⟩
  | n + 1, P, W => by
    unfold addL
    cases h : W.findIdx? (dueB P) with
    | none => exact ⟨fun x hx => .inl hx, fun x hx => hx⟩
    | some i =>
      have hi := (List.findIdx?_eq_some_iff_getElem.1 h).1
      simp only
      split
      · exact ⟨fun x hx => absurd hx (by simp), fun x hx => absurd hx (by simp)⟩
      · split
        · exact ⟨fun x hx => absurd hx (by simp), fun x hx => absurd hx (by simp)⟩
        · obtain ⟨h1, h2⟩ := addL_mem n (P ++ [ovAt W i]) (W.eraseIdx i)
          refine ⟨fun x hx => ?_, fun x hx => List.mem_of_mem_eraseIdx (h2 x hx)⟩
          rcases h1 x hx with h | h
          · rcases List.mem_append.1 h with h | h
            · exact .inl h
            · rw [List.mem_singleton] at h
              rw [h]
              exact .inr (ovAt_mem hi)
          · exact .inr (List.mem_of_mem_eraseIdx h)
/-- What LogAdd answers: the code, the log, what waits. -/
def resAdd (L M : List Ov) : Int × List Ov × List Ov :=
  if 1024 < M.length then (2, [], []) else if logI L = false ∨ M.any wrongB = true then (1, [], []) else
    match unk L M with
    | none => (16, [], [])
    | some acc => if (addW L acc).1 = 0 then (0, allK (addW L acc).2.1 16, (addW L acc).2.2) else ((addW L acc).1, [], [])

set_option maxHeartbeats 1000000 in
theorem containsWrong_any (C : Nat) (w : World) (v : Value) (M : List Ov) (hC : C ≤ w.heap.size) (hr : RdO C w v M) (hl : M.length ≤ 1024) :
    Calls Try.prog 24 #[v, .func (.func 25) #[] #[]] w fun e w' => e = .returned (.bool (M.any wrongB)) ∧ Below w.heap.size w w' := by
  have hix := indexWrong_any C w v M hC hr hl (fun k w9 hk hb => opWrong_any C (ovAt M k) w9 (by have := hb.size; omega) ((hr.2 _ (ovAt_mem hk)).below (hb.mono hC)))
  obtain ⟨ao, cap, rfl⟩ : ∃ ao cap, v = .slice ao M.length cap := by obtain ⟨⟨ao, cap, h, _⟩, _⟩ := hr; exact ⟨_, _, h⟩
  obtain ⟨r, HR⟩ : ∃ r, Hid (M.any wrongB = r) := ⟨_, rfl⟩
  rw [HR.out]
  cases hf : M.findIdx? wrongB with
  | none =>
    have HV : Hid (r = false) := by
      unfold Hid
      rw [← HR.out, List.any_eq_false]
      intro x hx
      rw [List.findIdx?_eq_none_iff] at hf
      rw [hf x hx]
      exact Bool.false_ne_true
    have e : idxI M wrongB = -1 := by unfold idxI; rw [hf]
    rw [e] at hix
    clear hr hf e
    go_enter Try.func24, Try.ntmps24
    go_wp2_with fail
    refine hix.mono ?_
    rintro e w1 ⟨rfl, hb⟩
    go_wp2_with fail
    go_ret
    exact ⟨by rw [HV.out]; rfl, hb⟩
  | some i =>
    obtain ⟨hi, hp, _⟩ := List.findIdx?_eq_some_iff_getElem.1 hf
    have HV : Hid (r = true) := by
      unfold Hid
      rw [← HR.out, List.any_eq_true]
      exact ⟨_, List.getElem_mem hi, hp⟩
    have e : idxI M wrongB = (i : Int) := by unfold idxI; rw [hf]
    have h0 : (0 : Int) ≤ (i : Int) := by omega
    rw [e] at hix
    clear hr hf e hp
    go_enter Try.func24, Try.ntmps24
    go_wp2_with fail
    refine hix.mono ?_
    rintro e w1 ⟨rfl, hb⟩
    go_wp2_with fail
    go_ret
    exact ⟨by rw [HV.out]; rfl, hb⟩

/-- Two answers, the one made ahead of the other. -/
def Ans2 (w w' : World) (r0 r1 : Value) (A0 A1 : List Ov) : Prop := ∃ w9, Ans w9 w.heap.size r0 A0 ∧ Below w.heap.size w w9 ∧ Below w9.heap.size w9 w' ∧ Ans w' w9.heap.size r1 A1
theorem ans2_none {w w' : World} (hb : Below w.heap.size w w') : Ans2 w w' (.slice none 0 0) (.slice none 0 0) [] [] := ⟨w', .inl ⟨rfl, rfl⟩, hb, Below.refl _ _, .inl ⟨rfl, rfl⟩⟩

set_option maxHeartbeats 4000000 in
set_option maxRecDepth 100000 in
theorem implAdd_any (C : Nat) (w : World) (v vm : Value) (L M : List Ov) (hC : C ≤ w.heap.size) (hr : RdO C w v L) (hrm : RdO C w vm M) :
    Calls Try.prog 7 #[v, vm] w fun e w' => ∃ r0 r1, e = .returned (.tuple #[r0, r1, .int .i64 (resAdd L M).1]) ∧ Ans2 w w' r0 r1 (resAdd L M).2.1 (resAdd L M).2.2 ∧ Below w.heap.size w w' := by
  obtain ⟨R, HR⟩ : ∃ R, Hid (resAdd L M = R) := ⟨_, rfl⟩
  rw [HR.out]
  obtain ⟨ao, cap, e1⟩ : ∃ ao cap, v = .slice ao L.length cap := by obtain ⟨⟨ao, cap, h, _⟩, _⟩ := hr; exact ⟨_, _, h⟩
  obtain ⟨am, cam, e2⟩ : ∃ ao cap, vm = .slice ao M.length cap := by obtain ⟨⟨ao, cap, h, _⟩, _⟩ := hrm; exact ⟨_, _, h⟩
  have hl := ledgerOf_any C w v L hC hr
  by_cases hlong : 1024 < M.length
  · have HV : Hid (R = (2, [], [])) := by unfold Hid; rw [← HR.out, resAdd, if_pos hlong]
    have hi : (1024 : Int) < (M.length : Int) := by omega
    subst e1 e2
    clear hr hrm hl hlong
    go_enter Try.func7, Try.ntmps7
    go_wp2_with fail
    refine bodyPost_ret (v := .tuple #[.slice none 0 0, .slice none 0 0, .int .i64 2]) (by simp [results, Try.results7, go_sem]) rfl ?_
    rw [HV.out]
    exact ⟨_, _, rfl, ans2_none (Below.refl _ _), Below.refl _ _⟩
  · have hi : ¬ (1024 : Int) < (M.length : Int) := by omega
    cases hlog : logI L with
    | false =>
      have HV : Hid (R = (1, [], [])) := by unfold Hid; rw [← HR.out, resAdd, if_neg hlong, if_pos (.inl hlog)]
      subst e1 e2
      clear hr hrm
      go_enter Try.func7, Try.ntmps7
      go_wp2_with fail
      refine hl.mono ?_
      rintro e w1 ⟨hans, hb1⟩
      rcases hans with ⟨h1, _⟩ | ⟨_, rfl⟩
      · rw [hlog] at h1; cases h1
      · go_wp2_with fail
        refine bodyPost_ret (v := .tuple #[.slice none 0 0, .slice none 0 0, .int .i64 1]) (by simp [results, Try.results7, go_sem]) rfl ?_
        rw [HV.out]
        exact ⟨_, _, rfl, ans2_none hb1, hb1⟩
    | true =>
      obtain ⟨hlen, hst, hok⟩ := logU_steps hlog
      have hcw := fun w1 (hb : Below w.heap.size w w1) => containsWrong_any C w1 vm M (by have := hb.size; omega) (hrm.below (hb.mono hC)) (by omega)
      cases hwr : M.any wrongB with
      | true =>
        have HV : Hid (R = (1, [], [])) := by unfold Hid; rw [← HR.out, resAdd, if_neg hlong, if_pos (.inr hwr)]
        rw [hwr] at hcw
        subst e1 e2
        clear hr hrm hst hok
        go_enter Try.func7, Try.ntmps7
        go_wp2_with fail
        refine hl.mono ?_
        rintro e w1 ⟨hans, hb1⟩
        rcases hans with ⟨_, lb, rfl, vs, hL⟩ | ⟨h1, _⟩
        · have hc1 := hcw w1 hb1
          clear hcw
          go_wp2_with (first | (go_at_call 24; refine hc1.mono ?_; rintro e w2 ⟨rfl, hb2⟩))
          refine bodyPost_ret (v := .tuple #[.slice none 0 0, .slice none 0 0, .int .i64 1]) (by simp [results, Try.results7, go_sem]) rfl ?_
          rw [HV.out]
          exact ⟨_, _, rfl, ans2_none (below_seq hb1 hb2), below_seq hb1 hb2⟩
        · rw [hlog] at h1; cases h1
      | false =>
        have hMok : ∀ x ∈ M, x.ok = true := fun x hx => by
          rw [List.any_eq_false] at hwr
          have := hwr x hx
          unfold wrongB at this
          simpa using this
        rw [hwr] at hcw
        have hLa : ∀ x ∈ L, 0 ≤ x.a := fun x hx => (ok_parts (hok x hx)).1.1
        have hAp := apart_log hst hLa
        have hun := fun w1 (hb : Below w.heap.size w w1) => unknown_any C w1 v vm L M (by have := hb.size; omega) (hr.below (hb.mono hC)) (hrm.below (hb.mono hC)) hlen (by omega) hok hMok hAp
        have HR2 : Hid (R = match unk L M with
            | none => (16, [], [])
            | some acc => if (addW L acc).1 = 0 then (0, allK (addW L acc).2.1 16, (addW L acc).2.2) else ((addW L acc).1, [], [])) := by unfold Hid; rw [← HR.out, resAdd, if_neg hlong, if_neg (by rw [hlog, hwr]; simp)]
        have hdL := hr.2
        have hdM := hrm.2
        subst e1 e2
        clear hr hrm hst hLa HR
        go_enter Try.func7, Try.ntmps7
        go_wp2_with fail
        refine hl.mono ?_
        rintro e w1 ⟨hans, hb1⟩
        rcases hans with ⟨_, lb, rfl, vs, hL⟩ | ⟨h1, _⟩
        · have hc1 := hcw w1 hb1
          clear hcw hl
          have HUN : Hid _ := hun
          clear hun
          go_wp2_with (first | (go_at_call 24; refine hc1.mono ?_; rintro e w2 ⟨rfl, hb2⟩))
          have hB2 := below_seq hb1 hb2
          refine (HUN.out w2 hB2).mono ?_
          rintro e w3 ⟨hans3, hb3⟩
          have hB3 := below_seq hB2 hb3
          rcases hans3 with ⟨hnone, rfl⟩ | ⟨acc, r, hsome, rfl, hrow3⟩
          · have HV : Hid (R = (16, [], [])) := by unfold Hid; rw [HR2.out, hnone]
            clear hc1 HUN
            go_wp2_with fail
            refine bodyPost_ret (v := .tuple #[.slice none 0 0, .slice none 0 0, .int .i64 16]) (by simp [results, Try.results7, go_sem]) rfl ?_
            rw [HV.out]
            exact ⟨_, _, rfl, ans2_none hB3, hB3⟩
          · obtain ⟨hap, hal, ham⟩ := unk_apart hAp M.reverse (by rw [List.reverse_reverse]; exact hsome)
            have hacc : ∀ x ∈ acc, x ∈ M := fun x hx => List.mem_reverse.1 (ham x hx)
            have hs1 := hb1.size
            have hs2 := hb2.size
            have hs3 := hb3.size
            have hL3 : Led w3 w.heap.size lb vs L := (hL.on hb2 (Nat.le_refl _)).on hb3 (Nat.le_refl _)
            have hA : Adds w3 w.heap.size C w2.heap.size lb w3 r L acc := by
              refine ⟨⟨vs, hL3, fun k hk => ?_⟩, hrow3, hlen, by rw [List.length_reverse] at hal; omega, fun x hx => hMok x (hacc x hx), fun x hx => (hdM x (hacc x hx)).below (hB3.mono hC), Below.refl _ _⟩
              have hk2 := (World.ownsRow.lt hrow3 k hk).1
              have hlb := hL.lt
              refine ⟨by omega, fun a ha e => ?_⟩
              have := (World.ownsRow.lt (hL.row a ha) k e).2
              omega
            have hadd := addAll_any w.heap.size C w2.heap.size lb L acc w3 r hC (by omega) hA
            have hsh : ∃ ao n c, r = .slice ao n c := by rcases hrow3.2 with ⟨h, _⟩ | ⟨g, cap, cur, h, _⟩ <;> exact ⟨_, _, _, h⟩
            obtain ⟨ra, rn, rc, rfl⟩ := hsh
            have HR3 : Hid (R = if (addW L acc).1 = 0 then (0, allK (addW L acc).2.1 16, (addW L acc).2.2) else ((addW L acc).1, [], [])) := by unfold Hid; rw [HR2.out, hsome]
            have hmem := addL_mem acc.length L acc
            clear hc1 HUN HR2 hA hrow3 hL hL3 hap hal ham hsome
            go_wp2_with fail
            refine hadd.mono ?_
            rintro e w4 ⟨hans4, hb4⟩
            have hs4 := hb4.size
            have hB4 : Below w.heap.size w w4 := hB3.trans hb4
            rcases hans4 with ⟨h0, r4, rfl, hA4⟩ | ⟨hne, rfl⟩
            · have HV : Hid (R = (0, allK (addW L acc).2.1 16, (addW L acc).2.2)) := by unfold Hid; rw [HR3.out, if_pos h0]
              have hmP : ∀ x ∈ (addW L acc).2.1, (Rd C w x.dv (x.ds.map (Value.int .i64))) ∧ x.ok = true := fun x hx => by
                rcases hmem.1 x hx with h | h
                · exact ⟨hdL x h, hok x h⟩
                · exact ⟨hdM x (hacc x h), hMok x (hacc x h)⟩
              have hmW : ∀ x ∈ (addW L acc).2.2, x.ok = true := fun x hx => hMok x (hacc x (hmem.2 x hx))
              clear HR3 hadd hmem
              generalize (addW L acc).2.1 = P' at *
              generalize (addW L acc).2.2 = W' at *
              obtain ⟨vs4, hL4, _⟩ := hA4.led
              have hsh4 : ∃ ao n c, r4 = .slice ao n c := by rcases hA4.row.2 with ⟨h, _⟩ | ⟨g, cap, cur, h, _⟩ <;> exact ⟨_, _, _, h⟩
              obtain ⟨sa, sn, sc, rfl⟩ := hsh4
              have hall := ledAll_any w.heap.size lb vs4 P' w4 hL4 hA4.plen (fun x hx => by obtain ⟨⟨da, dc, h, _⟩, _⟩ := hmP x hx; rw [h]; rfl)
              have hkm : ∀ x ∈ allK P' 16, x ∈ P' := fun x hx => by obtain ⟨a, _, h⟩ := allK_low hx; exact (List.mem_filter.1 h).1
              have hkl := allK_le P' 16
              have hpl := hA4.plen
              have hwl := hA4.wlen
              go_wp2_with fail
              refine hall.mono ?_
              rintro e w5 ⟨r5, rfl, ho5, hb5⟩
              have hs5 := hb5.size
              have hB5 := below_seq hB4 hb5
              have hRd5 := owns_rdO ho5 (fun x hx => (((hmP x (hkm x hx)).1.below (hB5.mono hC)).mono (by omega)))
              have hcp5 := copyOps_any w5.heap.size w5 r5 (allK P' 16) (Nat.le_refl _) hRd5 (by omega) (fun x hx => vec_16 (ok_parts (hmP x (hkm x hx)).2).2.2)
              have hsh5 : ∃ ao n c, r5 = .slice ao n c := by rcases ho5.2 with ⟨h, _⟩ | ⟨g, cap, cur, h, _⟩ <;> exact ⟨_, _, _, h⟩
              obtain ⟨ta, tn, tc, rfl⟩ := hsh5
              clear hall hRd5 ho5
              go_wp2_with fail
              refine hcp5.mono ?_
              rintro e w6 ⟨ga6, rfl, hAr6, hb6⟩
              have hs6 := hb6.size
              have hB6 := below_seq hB5 hb6
              have hb46 := below_seq hb5 hb6
              have hRd6 := owns_rdO (owns_on hA4.row hb46 (Nat.le_refl _)) (fun x hx => ((hA4.rd x hx).below (hb46.mono (by omega))).mono (by omega))
              have hcp6 := copyOps_any w6.heap.size w6 _ W' (Nat.le_refl _) hRd6 hwl (fun x hx => vec_16 (ok_parts (hmW x hx)).2.2)
              clear hcp5 hRd6
              go_wp2_with fail
              refine hcp6.mono ?_
              rintro e w7 ⟨ga7, rfl, hAr7, hb7⟩
              go_wp2_with fail
              refine bodyPost_ret (v := .tuple #[.slice (some ⟨w5.heap.size, 0, none⟩) (allK P' 16).length (allK P' 16).length, .slice (some ⟨w6.heap.size, 0, none⟩) W'.length W'.length, .int .i64 0]) (by simp [results, Try.results7, go_sem]) rfl ?_
              rw [HV.out]
              refine ⟨_, _, rfl, ⟨w6, .inr ⟨_, ga6, _, rfl, cpL_same ga6 _, ⟨by omega, by have := hAr6.lo'; omega, hAr6.ne, hAr6.hi, hAr6.hi', hAr6.row, hAr6.rth, hAr6.dvs, hAr6.len, hAr6.are, hAr6.ath⟩⟩, hB6, hb7, .inr ⟨_, ga7, _, rfl, cpL_same ga7 _, hAr7⟩⟩, below_seq hB6 hb7⟩
            · have HV : Hid (R = ((addW L acc).1, [], [])) := by unfold Hid; rw [HR3.out, if_neg hne]
              have hnb : ((addW L acc).1 != 0) = true := by simpa using hne
              generalize (addW L acc).1 = cd at *
              clear hadd HR3 hmem
              go_wp2_with fail
              refine bodyPost_ret (v := .tuple #[.slice none 0 0, .slice none 0 0, .int .i64 cd]) (by simp [results, Try.results7, go_sem]) rfl ?_
              rw [HV.out]
              exact ⟨_, _, rfl, ans2_none hB4, hB4⟩
        · rw [hlog] at h1; cases h1
end Go.Proofs.Ytjbjkamlgcnmaaa

namespace Go.Proofs.Ytjbjkamlgcnmaaa
open Go.RowKit
set_option linter.unusedVariables false

theorem sameL_self (L : List Ov) : SameL (L.map strip) L := sameL_strip.2 (by
  rw [List.map_map]
  rfl)
theorem allK_strip (P : List Ov) : ∀ k, allK (P.map strip) k = (allK P k).map strip
  | 0 => rfl
  | k + 1 => by rw [allK, allK, allK_strip P k, byA_strip, List.map_append]
theorem due_strip (P : List Ov) (x : Ov) : dueB (P.map strip) (strip x) = dueB P x := by
  unfold dueB
  rw [next_strip, causes_strip]
theorem suit_strip (P : List Ov) (x : Ov) : suitB (P.map strip) (strip x) = suitB P x := by
  unfold suitB
  rw [(sm_of _ _ (sameL_self P)).ts]
  rfl
theorem unkS_strip (L acc : List Ov) (x : Ov) : unkS (L.map strip) (some (acc.map strip)) (strip x) = (unkS L (some acc) x).map (List.map strip) := by
  unfold unkS
  simp only [Option.bind_some]
  rw [← List.map_append, List.find?_map]
  have e : (nameB (strip x) ∘ strip) = nameB x := by
    funext y
    rfl
  rw [e]
  cases h : (L ++ acc).find? (nameB x) with
  | none => simp
  | some y =>
    simp only [Option.map_some]
    have e2 : sameB (strip y) (strip x) = sameB y x := rfl
    rw [e2]
    split <;> rfl
theorem unk_strip (L : List Ov) : ∀ (R : List Ov), unk (L.map strip) (R.reverse.map strip) = (unk L R.reverse).map (List.map strip) := by
  intro R
  induction R with
  | nil => rfl
  | cons x R ih =>
    rw [List.reverse_cons, List.map_append, List.map_cons, List.map_nil, unk_snoc, unk_snoc, ih]
    cases h : unk L R.reverse with
    | none => rfl
    | some acc => exact unkS_strip L acc x
theorem addL_strip : ∀ (n : Nat) (P W : List Ov), addL n (P.map strip) (W.map strip) = ((addL n P W).1, (addL n P W).2.1.map strip, (addL n P W).2.2.map strip)
  | 0, P, W => rfl
  | n + 1, P, W => by
    have e : (W.map strip).findIdx? (dueB (P.map strip)) = W.findIdx? (dueB P) := by
      rw [List.findIdx?_map]
      congr 1
      funext y
      exact due_strip P y
    unfold addL
    rw [e]
    cases h : W.findIdx? (dueB P) with
    | none => rfl
    | some i =>
      simp only
      rw [ovAt_strip, suit_strip, List.length_map]
      split
      · rfl
      · split
        · rfl
        · have := addL_strip n (P ++ [ovAt W i]) (W.eraseIdx i)
          rw [List.map_append, List.map_cons, List.map_nil, map_eraseIdx] at this
          exact this
theorem res_strip (L M : List Ov) : resAdd (L.map strip) (M.map strip) = ((resAdd L M).1, (resAdd L M).2.1.map strip, (resAdd L M).2.2.map strip) := by
  have hl : logI (L.map strip) = logI L := logI_same (sameL_self L)
  have hw : (M.map strip).any wrongB = M.any wrongB := by
    rw [List.any_map]
    rfl
  have hu := unk_strip L M.reverse
  rw [List.reverse_reverse] at hu
  unfold resAdd
  rw [List.length_map, hl, hw, hu]
  split
  · rfl
  · split
    · rfl
    · cases h : unk L M with
      | none => rfl
      | some acc =>
        simp only [Option.map_some]
        unfold addW
        rw [List.length_map, addL_strip]
        simp only
        split
        · rw [allK_strip]
        · rfl
theorem res_same {L' L M' M : List Ov} (h : SameL L' L) (h' : SameL M' M) : (resAdd L' M').1 = (resAdd L M).1 ∧ SameL (resAdd L' M').2.1 (resAdd L M).2.1 ∧ SameL (resAdd L' M').2.2 (resAdd L M).2.2 := by
  have e1 := res_strip L' M'
  rw [sameL_strip.1 h, sameL_strip.1 h', res_strip L M] at e1
  simp only [Prod.mk.injEq] at e1
  exact ⟨e1.1.symm, sameL_strip.2 e1.2.1.symm, sameL_strip.2 e1.2.2.symm⟩
theorem addL_len : ∀ (n : Nat) (P W : List Ov), (addL n P W).2.1.length ≤ P.length + W.length ∧ (addL n P W).2.2.length ≤ W.length
  | 0, P, W => ⟨by show P.length ≤ _; omega, Nat.le_refl _⟩
  | n + 1, P, W => by
    unfold addL
    cases h : W.findIdx? (dueB P) with
    | none => exact ⟨by show P.length ≤ _; omega, Nat.le_refl _⟩
    | some i =>
      have hi := (List.findIdx?_eq_some_iff_getElem.1 h).1
      simp only
      split
      · exact ⟨Nat.zero_le _, Nat.zero_le _⟩
      · split
        · exact ⟨Nat.zero_le _, Nat.zero_le _⟩
        · obtain ⟨h1, h2⟩ := addL_len n (P ++ [ovAt W i]) (W.eraseIdx i)
          rw [List.length_append, List.length_singleton, List.length_eraseIdx_of_lt hi] at h1
          rw [List.length_eraseIdx_of_lt hi] at h2
          exact ⟨by omega, by omega⟩
theorem res_facts (L M : List Ov) : ((resAdd L M).2.1.length ≤ 2048 ∧ ∀ x ∈ (resAdd L M).2.1, x.ds.length ≤ 1048576) ∧ ((resAdd L M).2.2.length ≤ 2048 ∧ ∀ x ∈ (resAdd L M).2.2, x.ds.length ≤ 1048576) := by
  have hnil : ((([] : List Ov).length ≤ 2048 ∧ ∀ x ∈ ([] : List Ov), x.ds.length ≤ 1048576) ∧ (([] : List Ov).length ≤ 2048 ∧ ∀ x ∈ ([] : List Ov), x.ds.length ≤ 1048576)) := ⟨⟨Nat.zero_le _, fun x hx => absurd hx (by simp)⟩, Nat.zero_le _, fun x hx => absurd hx (by simp)⟩
  unfold resAdd
  split
  · exact hnil
  · rename_i hlong
    split
    · exact hnil
    · rename_i hno
      cases hu : unk L M with
      | none => exact hnil
      | some acc =>
        simp only
        have hlog : logI L = true := by
          cases h : logI L with
          | true => rfl
          | false => exact absurd (.inl h) hno
        obtain ⟨hlen, hst, hok⟩ := logU_steps hlog
        have hokM : ∀ x ∈ M, x.ok = true := fun x hx => by
          cases h : x.ok with
          | true => rfl
          | false => exact absurd (.inr (List.any_eq_true.2 ⟨x, hx, by unfold wrongB; rw [h]; rfl⟩)) hno
        obtain ⟨-, hla, hma⟩ := unk_apart (apart_log hst (fun x hx => (ok_parts (hok x hx)).1.1)) M.reverse (by rw [List.reverse_reverse]; exact hu)
        rw [List.length_reverse] at hla
        have hd : ∀ x : Ov, x.ok = true → x.ds.length ≤ 1048576 := fun x hx => by have := vec_16 (ok_parts hx).2.2; omega
        have hda : ∀ x ∈ acc, x.ok = true := fun x hx => hokM x (by simpa using hma x hx)
        obtain ⟨l1, l2⟩ := addL_len acc.length L acc
        obtain ⟨m1, m2⟩ := addL_mem acc.length L acc
        split
        · refine ⟨⟨?_, fun x hx => ?_⟩, ?_, fun x hx => ?_⟩
          · show (allK (addL acc.length L acc).2.1 16).length ≤ 2048
            rw [allK_len]
            have := List.length_filter_le (fun x : Ov => decide (0 ≤ x.a ∧ x.a < ((16 : Nat) : Int))) (addL acc.length L acc).2.1
            omega
          · rcases m1 x (allK_mem hx) with h | h
            · exact hd x (hok x h)
            · exact hd x (hda x h)
          · show (addL acc.length L acc).2.2.length ≤ 2048
            omega
          · exact hd x (hda x (m2 x hx))
        · exact hnil
end Go.Proofs.Ytjbjkamlgcnmaaa
