/- slices.Grow of no operations: room for n. The ledger's all: the operations of all actors, one behind the other. What a vector counts of a valid log: plain facts. -/
import Derived.Lib.AppendZerosOnto
import Derived.Laws.AppendOwnNone
import Derived.Test.YtcmgdeeamcimhaaQCopyOpsToAnsOps
import Derived.Test.YtcmgdeeamcimhaaQLedClosedToLogOKImpl
import Derived.Test.YtcmgdeeamcimhaaQLogMathToLogSpA
import Derived.Test.YtcmgdeeamcimhaaQLedCausesToLogCounts
namespace Go.Proofs.Ytcmgdeeamcimhaa
open Go.RowKit
set_option linter.unusedVariables false

set_option maxHeartbeats 2000000 in
set_option maxRecDepth 100000 in
theorem growOps_any (w : World) (n : Nat) (hn : n ≤ 1024) :
    Calls Try.prog 56 #[.slice none 0 0, .int .i64 (n : Int)] w fun e w' => ∃ r, e = .returned r ∧ w'.ownsRow w.heap.size 50 12 r 0 [] ∧ Below w.heap.size w w' := by
  by_cases h0 : n = 0
  · subst h0
    go_enter Try.func56, Try.ntmps56
    go_wp2_with fail
    go_ret
    exact ⟨_, rfl, ⟨rfl, .inl ⟨rfl, rfl⟩⟩, Below.refl _ _⟩
  · obtain ⟨i0, hi, hz0, hz1, hz2⟩ := info_parts infoOp
    have e1 : Builtin.nextslicecap n 0 = n := by unfold Builtin.nextslicecap; simp; omega
    have hbt : Try.t50.bytes = 128 := by kernel_rfl
    have h1 : (0 : Int) < (n : Int) := by omega
    have h2 : 0 < n := by omega
    go_enter Try.func56, Try.ntmps56
    go_wp2_with fail
    all_goals first | (exfalso; omega) | (exfalso; simp only [hbt, e1] at *; omega) | skip
    all_goals
      have hcap := grownCap_ge w n 0 50
      have hcm := grownCap_le_maxLen w n 0 50 (by unfold maxLen; omega)
      go_ret
      refine ⟨_, rfl, ⟨rfl, .inr ⟨w.heap.size, grownCap w n 0 50, _, rfl, Nat.le_refl _, heap_alloc_new _ _, Nat.zero_le _, hcm, ?_, by simp⟩⟩, (below_alloc _ _).drew⟩
      rw [Array.size_append, size_zeroCells, size_zeroCells]
      show n * 12 + (grownCap w n 0 50 - n) * 12 = grownCap w n 0 50 * 12
      omega
end Go.Proofs.Ytcmgdeeamcimhaa

namespace Go.Proofs.Ytcmgdeeamcimhaa
open Go.RowKit
set_option linter.unusedVariables false

/-- The operations of the actors below k, one behind the other. -/
def allK (P : List Ov) : Nat → List Ov
  | 0 => []
  | k + 1 => allK P k ++ byA P k
theorem allK_mem {P : List Ov} : ∀ {k : Nat} {x : Ov}, x ∈ allK P k → x ∈ P
  | 0, x, h => absurd h (by simp [allK])
  | k + 1, x, h => by
    rw [allK] at h
    rcases List.mem_append.1 h with h | h
    · exact allK_mem h
    · exact (List.mem_filter.1 h).1
theorem allK_len (P : List Ov) : ∀ k : Nat, (allK P k).length = (P.filter fun x => decide (0 ≤ x.a ∧ x.a < (k : Int))).length
  | 0 => by
    have : P.filter (fun x => decide (0 ≤ x.a ∧ x.a < ((0 : Nat) : Int))) = [] := by
      rw [List.filter_eq_nil_iff]
      intro x _
      simp
    rw [this]
    rfl
  | k + 1 => by
    rw [allK, List.length_append, allK_len P k]
    unfold byA
    induction P with
    | nil => rfl
    | cons x P ih =>
      simp only [List.filter_cons]
      by_cases h1 : 0 ≤ x.a ∧ x.a < (k : Int)
      · have h2 : ¬ x.a = (k : Int) := by omega
        have h3 : 0 ≤ x.a ∧ x.a < ((k + 1 : Nat) : Int) := by omega
        rw [if_pos (decide_eq_true h1), if_neg (by rw [decide_eq_false h2]; exact Bool.false_ne_true), if_pos (decide_eq_true h3), List.length_cons, List.length_cons]
        omega
      · by_cases h2 : x.a = (k : Int)
        · have h3 : 0 ≤ x.a ∧ x.a < ((k + 1 : Nat) : Int) := by omega
          rw [if_neg (by rw [decide_eq_false h1]; exact Bool.false_ne_true), if_pos (decide_eq_true h2), if_pos (decide_eq_true h3), List.length_cons, List.length_cons]
          omega
        · have h3 : ¬ (0 ≤ x.a ∧ x.a < ((k + 1 : Nat) : Int)) := by omega
          rw [if_neg (by rw [decide_eq_false h1]; exact Bool.false_ne_true), if_neg (by rw [decide_eq_false h2]; exact Bool.false_ne_true), if_neg (by rw [decide_eq_false h3]; exact Bool.false_ne_true)]
          omega
theorem allK_le (P : List Ov) (k : Nat) : (allK P k).length ≤ P.length := by rw [allK_len]; exact List.length_filter_le _ _
theorem rowCs_one {M : List Ov} (h : ∀ x ∈ M, x.dv.oneCell' = true) : ∀ u ∈ rowCs M, u.oneCell' = true := by
  intro u hu
  unfold rowCs at hu
  rw [List.mem_flatten] at hu
  obtain ⟨l, hl, hu⟩ := hu
  obtain ⟨x, hx, rfl⟩ := List.mem_map.1 hl
  exact cs_one x (h x hx) u hu

set_option maxHeartbeats 4000000 in
set_option maxRecDepth 100000 in
theorem concat_any (B lb : Nat) (vs : List Value) (P : List Ov) (w : World) (hL : Led w B lb vs P) (hP : P.length ≤ 1024) (hone : ∀ x ∈ P, x.dv.oneCell' = true) :
    Calls Try.prog 42 #[.slice (some ⟨lb, 0, none⟩) 16 16] w fun e w' => ∃ r, e = .returned r ∧ w'.ownsRow w.heap.size 50 12 r (allK P 16).length (rowCs (allK P 16)) ∧ Below w.heap.size w w' := by
  obtain ⟨i0, hi, hz0, hz1, hz2⟩ := info_parts infoOp
  have HLE : Hid (∀ a, (byA P a).length ≤ 1024) := fun a => Nat.le_trans (List.length_filter_le _ _) hP
  go_enter Try.func42, Try.ntmps42
  go_wp2_with fail
  go_loopw [3, 11] (fun ts ti wr => ∃ k : Nat, k ≤ 16 ∧ ti = .int .i64 (k : Int) ∧ ts = .int .i64 ((allK P k).length : Int) ∧ Hid (wr = w)) (fun _ ti _ => 16 - (intOf ti).toNat)
  case atStart => exact ⟨0, Nat.zero_le _, rfl, rfl, rfl⟩
  case round =>
    obtain ⟨k, hk, rfl, rfl, HW⟩ := hrel
    have hak := allK_le P k
    by_cases hlt : k < 16
    · have hki : (k : Int) < 16 := by omega
      have hle := HLE.out k
      obtain ⟨ao, cap, hsl⟩ := hL.slice hlt
      have c0 := hL.cell (led_vs hL.len hlt)
      rw [hsl, ← HW.out] at c0
      have HN : Hid (((allK P (k + 1)).length : Int) = ((allK P k).length : Int) + ((byA P k).length : Int)) := by
        unfold Hid
        rw [allK, List.length_append]
        omega
      generalize (allK P k).length = m at *
      generalize (byA P k).length = b at *
      have hmb : (m : Int) + (b : Int) < 9223372036854775808 := by omega
      have hneg : decide ((m : Int) + (b : Int) < 0) = false := by simp; omega
      have hpos : 0 ≤ (m : Int) + (b : Int) := by omega
      clear hsl
      go_wp2_with fail
      go_roundw
      case rel => exact ⟨k + 1, by omega, by go_num, by rw [HN.out], HW⟩
      case measure => simp [intOf]; omega
    · obtain rfl : k = 16 := by omega
      have hG := growOps_any wr (allK P 16).length (by omega)
      have hLw : Led wr B lb vs P := HW.out ▸ hL
      have hww : Hid (wr.heap.size = w.heap.size ∧ Below w.heap.size w wr) := by rw [HW.out]; exact ⟨rfl, Below.refl _ _⟩
      clear HW
      go_wp2_with fail
      refine hG.mono ?_
      rintro e w2 ⟨r, rfl, ho2, hb2⟩
      have HI0 : Hid (w2.ownsRow w.heap.size 50 12 r (allK P 0).length (rowCs (allK P 0)) ∧ Below w.heap.size w w2) := by
        refine ⟨?_, hww.out.2.trans (hb2.mono (by rw [hww.out.1]; exact Nat.le_refl _))⟩
        rw [← hww.out.1]
        exact ho2
      clear hG ho2 hb2 hww hLw
      go_wp2_with fail
      go_loopw [6, 27] (fun tv ti wr => ∃ k : Nat, k ≤ 16 ∧ ti = .int .i64 (k : Int) ∧ Hid (wr.ownsRow w.heap.size 50 12 tv (allK P k).length (rowCs (allK P k)) ∧ Below w.heap.size w wr)) (fun _ ti _ => 16 - (intOf ti).toNat)
      case atStart => exact ⟨0, Nat.zero_le _, rfl, HI0⟩
      case round =>
        clear HI0 hak hk hlt
        obtain ⟨k, hk, rfl, HI⟩ := hrel
        obtain ⟨ho, hb⟩ := HI.out
        by_cases hlt : k < 16
        · have hki : (k : Int) < 16 := by omega
          have hak := allK_le P k
          have hle := HLE.out k
          have hLr := hL.on hb (Nat.le_refl _)
          have c0 := hLr.cell (led_vs hL.len hlt)
          have hrow := hLr.row k hlt
          have hsb := hb.size
          have hlt6 := fun q hq => (World.ownsRow.lt ho q hq).1
          have HE : Hid (allK P (k + 1) = allK P k ++ byA P k) := rfl
          obtain ⟨va6, vc6, e6⟩ : ∃ ao cap, u6 = .slice ao (allK P k).length cap := by
            obtain ⟨_, h2⟩ := ho
            rcases h2 with ⟨hv, hn⟩ | ⟨g, cap, cur, hv, _⟩
            · exact ⟨none, 0, by rw [hv, hn]⟩
            · exact ⟨_, cap, hv⟩
          subst e6
          have hrow' := hrow
          obtain ⟨h1, h2⟩ := hrow
          rcases h2 with ⟨hv, hn⟩ | ⟨g, cap, cur, hv, hg, hh, _⟩
          · have hnil : byA P k = [] := List.eq_nil_of_length_eq_zero hn
            have HI2 : Hid (wr.ownsRow w.heap.size 50 12 (.slice va6 (allK P k).length vc6) (allK P (k + 1)).length (rowCs (allK P (k + 1))) ∧ Below w.heap.size w wr) := by
              rw [HE.out, hnil, List.append_nil]
              exact ⟨ho, hb⟩
            rw [hv] at c0
            clear hrow' h1 hLr hnil HE HI
            go_wp2_with (at_builtin; refine wpList_append_own_none rfl _ _ 28 rfl w.heap.size 50 i0 12 Try.underlying28 hi _ (allK P k).length _ rfl ho rfl ?_)
            go_roundw
            case rel => exact ⟨k + 1, by omega, by go_num, HI2⟩
            case measure => simp [intOf]; omega
          · rw [hv] at c0 hrow'
            have hcn : ∀ j u, (rowCs (byA P k))[j]? = some u → wr.cell? ((⟨g, 0, none⟩ : Addr).add j) = some u := fun j u hj => by
              rw [Addr.add_mid, Nat.zero_add]
              have hj1 := (List.getElem?_eq_some_iff.1 hj).1
              rw [rowCs_len] at hj1
              rw [World.ownsRow.cellAt hrow' _ (by omega)]
              exact hj
            have hon := rowCs_one (M := byA P k) (fun x hx => hone x (List.mem_filter.1 hx).1)
            have hrl := rowCs_len (byA P k)
            have hsum : (allK P k).length + (byA P k).length ≤ 1024 := by
              have := allK_le P (k + 1)
              rw [allK, List.length_append] at this
              omega
            clear h1 hLr HI hrow' hh
            go_wp2_with (at_builtin; refine wpList_append_own _ rfl _ _ 28 rfl w.heap.size 50 i0 (.agg #[.int .i64 0, .int .i64 0, .int .i64 0, .slice none 0 0, .int .i64 0, .int .i64 0, .int .i64 0, .int .i64 0, .int .i64 0, .int .i64 0, .string ByteArray.empty, .string ByteArray.empty]) 12 128 Try.underlying28 hi hz0 hz1 hz2 rfl (by decide) _ (allK P k).length _ rfl ho ⟨g, 0, none⟩ (byA P k).length cap (rowCs (byA P k)) rfl hrl hcn hon (by unfold maxLen; omega) (by omega) hsb ?_)
            intro v6 w6 ho6 hg6 _
            have HI2 : Hid (w6.ownsRow w.heap.size 50 12 v6 (allK P (k + 1)).length (rowCs (allK P (k + 1))) ∧ Below w.heap.size w w6) := by
              rw [HE.out, rowCs_app, List.length_append]
              exact ⟨ho6, hb.grown hg6 hsb hlt6⟩
            clear ho6 hg6 hcn hon HE ho
            go_wp2_with fail
            go_roundw
            case rel => exact ⟨k + 1, by omega, by go_num, HI2⟩
            case measure => simp [intOf]; omega
        · obtain rfl : k = 16 := by omega
          go_wp2_with fail
          go_ret
          exact ⟨_, rfl, ho, hb⟩

set_option maxHeartbeats 1000000 in
set_option maxRecDepth 100000 in
theorem ledAll_any (B lb : Nat) (vs : List Value) (P : List Ov) (w : World) (hL : Led w B lb vs P) (hP : P.length ≤ 1024) (hone : ∀ x ∈ P, x.dv.oneCell' = true) :
    Calls Try.prog 26 #[.pointer (some ⟨lb, 0, none⟩)] w fun e w' => ∃ r, e = .returned r ∧ w'.ownsRow w.heap.size 50 12 r (allK P 16).length (rowCs (allK P 16)) ∧ Below w.heap.size w w' := by
  have hc := concat_any B lb vs P w hL hP hone
  go_enter Try.func26, Try.ntmps26
  go_wp2_with fail
  refine hc.mono ?_
  rintro e w1 ⟨r, rfl, ho, hb⟩
  go_wp2_with fail
  go_ret
  exact ⟨r, rfl, ho, hb⟩
end Go.Proofs.Ytcmgdeeamcimhaa

namespace Go.Proofs.Ytcmgdeeamcimhaa
open Go.RowKit
set_option linter.unusedVariables false

/-- Of the actors below k the first operations, as many as the vector counts. -/
def cutK (ys : List Int) (L : List Ov) : Nat → List Ov
  | 0 => []
  | k + 1 => cutK ys L k ++ (byA L k).take (ys.getD k 0).toNat
theorem cutK_mem {ys : List Int} {L : List Ov} : ∀ {k : Nat} {x : Ov}, x ∈ cutK ys L k → x ∈ L
  | 0, x, h => absurd h (by simp [cutK])
  | k + 1, x, h => by
    rw [cutK] at h
    rcases List.mem_append.1 h with h | h
    · exact cutK_mem h
    · exact (List.mem_filter.1 (List.mem_of_mem_take h)).1
theorem cutK_len (ys : List Int) (L : List Ov) : ∀ k, (cutK ys L k).length ≤ (allK L k).length
  | 0 => Nat.le_refl _
  | k + 1 => by
    have := cutK_len ys L k
    rw [cutK, allK, List.length_append, List.length_append, List.length_take]
    omega
theorem byA_app (A B : List Ov) (a : Nat) : byA (A ++ B) a = byA A a ++ byA B a := List.filter_append ..
theorem byA_self {L : List Ov} {a : Nat} {M : List Ov} (h : ∀ x ∈ M, x.a = (a : Int)) : byA M a = M := by
  unfold byA
  rw [List.filter_eq_self]
  intro x hx
  exact decide_eq_true (h x hx)
theorem byA_other {a b : Nat} (hab : b ≠ a) {M : List Ov} (h : ∀ x ∈ M, x.a = (a : Int)) : byA M b = [] := by
  unfold byA
  rw [List.filter_eq_nil_iff]
  intro x hx
  have := h x hx
  simp
  omega
theorem byA_all {L : List Ov} {a : Nat} {x : Ov} (h : x ∈ byA L a) : x.a = (a : Int) := by
  have := (List.mem_filter.1 h).2
  simpa using this
theorem byA_cut (ys : List Int) (L : List Ov) (a : Nat) : ∀ k, byA (cutK ys L k) a = if a < k then (byA L a).take (ys.getD a 0).toNat else []
  | 0 => by rw [if_neg (by omega)]; rfl
  | k + 1 => by
    rw [cutK, byA_app, byA_cut ys L a k]
    by_cases e : a = k
    · subst e
      rw [if_neg (by omega), if_pos (by omega), List.nil_append]
      exact byA_self (L := L) (fun x hx => byA_all (List.mem_of_mem_take hx))
    · rw [byA_other e (fun x hx => byA_all (List.mem_of_mem_take hx)), List.append_nil]
      by_cases l : a < k
      · rw [if_pos l, if_pos (by omega)]
      · rw [if_neg l, if_neg (by omega)]
theorem allK_cut (ys : List Int) (L : List Ov) : ∀ k, k ≤ 16 → allK (cutK ys L 16) k = cutK ys L k
  | 0, _ => rfl
  | k + 1, h => by
    rw [allK, allK_cut ys L k (by omega), byA_cut ys L k 16, if_pos (by omega)]
    rfl

theorem sorted_of {L : List Ov} (h : ∀ i, i < L.length → stepN L i = true) : L.Pairwise (fun x y => x.a ≤ y.a) := by
  rw [List.pairwise_iff_getElem]
  intro i j hi hj hij
  have := rising h j hj i (by omega)
  rwa [show ovAt L i = L[i] by have := ovAt_get hi; rw [List.getElem?_eq_getElem hi] at this; exact (Option.some.inj this).symm, show ovAt L j = L[j] by have := ovAt_get hj; rw [List.getElem?_eq_getElem hj] at this; exact (Option.some.inj this).symm] at this
theorem allK_filter {L : List Ov} (hs : L.Pairwise (fun x y => x.a ≤ y.a)) (ha : ∀ x ∈ L, 0 ≤ x.a) : ∀ k : Nat, allK L k = L.filter fun x => decide (x.a < (k : Int))
  | 0 => by
    symm
    rw [allK, List.filter_eq_nil_iff]
    intro x hx
    have := ha x hx
    simp
    omega
  | k + 1 => by
    rw [allK, allK_filter hs ha k]
    have h3 := split3 (k : Int) L hs
    have e : L.filter (fun x => decide (x.a < ((k + 1 : Nat) : Int))) = (L.filter (fun x => decide (x.a < (k : Int))) ++ (L.filter (fun x => decide (x.a = (k : Int))) ++ L.filter (fun x => decide ((k : Int) < x.a)))).filter (fun x => decide (x.a < ((k + 1 : Nat) : Int))) := by rw [← h3]
    rw [e, List.filter_append, List.filter_append]
    have e1 : (L.filter (fun x => decide (x.a < (k : Int)))).filter (fun x => decide (x.a < ((k + 1 : Nat) : Int))) = L.filter (fun x => decide (x.a < (k : Int))) := by
      rw [List.filter_eq_self]
      intro x hx
      have := (List.mem_filter.1 hx).2
      simp at this ⊢
      omega
    have e2 : (L.filter (fun x => decide (x.a = (k : Int)))).filter (fun x => decide (x.a < ((k + 1 : Nat) : Int))) = byA L k := by
      unfold byA
      rw [List.filter_eq_self]
      intro x hx
      have := (List.mem_filter.1 hx).2
      simp at this ⊢
      omega
    have e3 : (L.filter (fun x => decide ((k : Int) < x.a))).filter (fun x => decide (x.a < ((k + 1 : Nat) : Int))) = [] := by
      rw [List.filter_eq_nil_iff]
      intro x hx
      have := (List.mem_filter.1 hx).2
      simp at this ⊢
      omega
    rw [e1, e2, e3, List.append_nil]
theorem allK_self {L : List Ov} (h : ∀ i, i < L.length → stepN L i = true) (ha : ∀ x ∈ L, 0 ≤ x.a ∧ x.a < 16) : allK L 16 = L := by
  rw [allK_filter (sorted_of h) (fun x hx => (ha x hx).1), List.filter_eq_self]
  intro x hx
  exact decide_eq_true (ha x hx).2
/-- The i-th operation of an actor has the Seq i + 1. -/
theorem seq_at {L : List Ov} (h : ∀ i, i < L.length → stepN L i = true) (a : Nat) : ∀ q, q ≤ L.length → ∀ i, i < (byA (L.take q) a).length → (ovAt (byA (L.take q) a) i).s = (i : Int) + 1
  | 0, _, i, hi => absurd hi (by simp [byA])
  | q + 1, hq, i, hi => by
    have ih := seq_at h a q (by omega)
    rw [take_snoc (by omega), byA_snoc] at hi ⊢
    by_cases e : (ovAt L q).a = (a : Int)
    · rw [if_pos e] at hi ⊢
      rw [List.length_append, List.length_singleton] at hi
      by_cases l : i < (byA (L.take q) a).length
      · have : ovAt (byA (L.take q) a ++ [ovAt L q]) i = ovAt (byA (L.take q) a) i := by
          unfold ovAt
          rw [List.getD_eq_getElem?_getD, List.getElem?_append_left l, ← List.getD_eq_getElem?_getD]
        rw [this]
        exact ih i l
      · have hi' : i = (byA (L.take q) a).length := by omega
        have : ovAt (byA (L.take q) a ++ [ovAt L q]) i = ovAt L q := by
          subst hi'
          unfold ovAt
          rw [List.getD_eq_getElem?_getD, List.getElem?_append_right (Nat.le_refl _), Nat.sub_self]
          rfl
        rw [this, hi']
        have hp := (stepN_parts (h q (by omega))).2.1
        rw [e, Int.toNat_natCast] at hp
        exact hp
    · rw [if_neg e] at hi ⊢
      exact ih i hi
theorem filter_take (n : Int) : ∀ (M : List Ov) (o : Nat), (∀ i, i < M.length → (ovAt M i).s = ((o + i : Nat) : Int) + 1) → M.filter (fun x => decide (x.s ≤ n)) = M.take (n.toNat - o)
  | [], o, _ => by simp
  | x :: M, o, h => by
    have h0 : x.s = ((o : Nat) : Int) + 1 := h 0 (by simp)
    have ih := filter_take n M (o + 1) (fun i hi => by
      have := h (i + 1) (by simpa using hi)
      rw [show o + 1 + i = o + (i + 1) by omega]
      exact this)
    rw [List.filter_cons, ih]
    by_cases c : x.s ≤ n
    · rw [if_pos (decide_eq_true c), show n.toNat - o = (n.toNat - (o + 1)) + 1 by omega, List.take_succ_cons]
    · rw [if_neg (by rw [decide_eq_false c]; exact Bool.false_ne_true), show n.toNat - o = 0 by omega, show n.toNat - (o + 1) = 0 by omega]
      rfl
/-- What a vector counts. -/
def countL (ys : List Int) (L : List Ov) : List Ov := L.filter fun x => decide (x.s ≤ ys.getD x.a.toNat 0)
theorem countL_snoc (ys : List Int) (L : List Ov) (x : Ov) : countL ys (L ++ [x]) = if x.s ≤ ys.getD x.a.toNat 0 then countL ys L ++ [x] else countL ys L := by
  unfold countL
  rw [List.filter_append]
  by_cases h : x.s ≤ ys.getD x.a.toNat 0
  · rw [if_pos h, List.filter_cons, if_pos (decide_eq_true h), List.filter_nil]
  · rw [if_neg h, List.filter_cons, if_neg (by rw [decide_eq_false h]; exact Bool.false_ne_true), List.filter_nil, List.append_nil]
theorem countL_cut {L : List Ov} (h : ∀ i, i < L.length → stepN L i = true) (ha : ∀ x ∈ L, 0 ≤ x.a ∧ x.a < 16) (ys : List Int) : countL ys L = cutK ys L 16 := by
  have key : ∀ k, (allK L k).filter (fun x => decide (x.s ≤ ys.getD x.a.toNat 0)) = cutK ys L k := by
    intro k
    induction k with
    | zero => rfl
    | succ k ih =>
      rw [allK, cutK, List.filter_append, ih]
      congr 1
      have e : (byA L k).filter (fun x => decide (x.s ≤ ys.getD x.a.toNat 0)) = (byA L k).filter (fun x => decide (x.s ≤ ys.getD k 0)) := by
        apply List.filter_congr
        intro x hx
        rw [byA_all hx, Int.toNat_natCast]
      have hs := seq_at h k L.length (Nat.le_refl _)
      rw [List.take_length] at hs
      rw [e, filter_take (ys.getD k 0) (byA L k) 0 (fun i hi => by rw [Nat.zero_add]; exact hs i hi), Nat.sub_zero]
  have := key 16
  rw [allK_self h ha] at this
  exact this
/-- A vector counts no less than another one. -/
def covB (ys ds : List Int) : Bool := (List.range 16).all fun a => decide (ds.getD a 0 ≤ ys.getD a 0)
theorem covB_iff (ys ds : List Int) : covB ys ds = true ↔ ∀ a, a < 16 → ds.getD a 0 ≤ ys.getD a 0 := by
  unfold covB
  rw [List.all_eq_true]
  exact ⟨fun h a ha => of_decide_eq_true (h a (List.mem_range.2 ha)), fun h a ha => decide_eq_true (h a (List.mem_range.1 ha))⟩
theorem cut_cause {L : List Ov} {ys : List Int} (hys : ∀ a, a < 16 → 0 ≤ ys.getD a 0 ∧ ys.getD a 0 ≤ ((byA L a).length : Int)) {x : Ov} (hx : causesB L x = true) (hd : ∀ a, a < 16 → 0 ≤ x.ds.getD a 0) : causesB (cutK ys L 16) x = covB ys x.ds := by
  unfold causesB at hx ⊢
  rw [List.all_eq_true] at hx
  unfold covB
  apply Bool.eq_iff_iff.2
  rw [List.all_eq_true, List.all_eq_true]
  have key : ∀ a, a < 16 → causeOK (cutK ys L 16) x a = decide (x.ds.getD a 0 ≤ ys.getD a 0) := by
    intro a ha
    have h1 := hx a (List.mem_range.2 ha)
    have h2 := hys a ha
    have h3 := hd a ha
    unfold causeOK at h1 ⊢
    rw [byA_cut ys L a 16, if_pos ha]
    rw [Bool.and_eq_true, Bool.or_eq_true, decide_eq_true_eq, decide_eq_true_eq] at h1
    have hl : ((byA L a).take (ys.getD a 0).toNat).length = (ys.getD a 0).toNat := by rw [List.length_take]; omega
    rw [hl, show (((ys.getD a 0).toNat : Nat) : Int) = ys.getD a 0 by omega]
    by_cases c : x.ds.getD a 0 ≤ ys.getD a 0
    · rw [decide_eq_true c, Bool.true_and]
      by_cases z : x.ds.getD a 0 ≤ 0
      · rw [decide_eq_true z, Bool.true_or]
      · rw [decide_eq_false z, Bool.false_or]
        have e : ovAt ((byA L a).take (ys.getD a 0).toNat) (x.ds.getD a 0 - 1).toNat = ovAt (byA L a) (x.ds.getD a 0 - 1).toNat := ovAt_take (by omega) (by omega)
        rw [e]
        exact h1.2.resolve_left z
    · rw [decide_eq_false c, Bool.false_and]
  exact ⟨fun h a ha => by rw [← key a (List.mem_range.1 ha)]; exact h a ha, fun h a ha => by rw [key a (List.mem_range.1 ha)]; exact h a ha⟩
theorem cut_closed {L : List Ov} {ys : List Int} (hys : ∀ a, a < 16 → 0 ≤ ys.getD a 0 ∧ ys.getD a 0 ≤ ((byA L a).length : Int)) (hx : ∀ x ∈ L, causesB L x = true) (hd : ∀ x ∈ L, ∀ a, a < 16 → 0 ≤ x.ds.getD a 0) : (cutK ys L 16).all (causesB (cutK ys L 16)) = (cutK ys L 16).all (fun x => covB ys x.ds) := by
  apply Bool.eq_iff_iff.2
  rw [List.all_eq_true, List.all_eq_true]
  exact ⟨fun h x hm => by rw [← cut_cause hys (hx x (cutK_mem hm)) (hd x (cutK_mem hm))]; exact h x hm, fun h x hm => by rw [cut_cause hys (hx x (cutK_mem hm)) (hd x (cutK_mem hm))]; exact h x hm⟩
end Go.Proofs.Ytcmgdeeamcimhaa
