/- The code's ledger: what isClosed answers. The code's ledgerOf, whole. What the code's LogOK answers. -/
import Derived.Deep.MidRow
import Derived.Test.YtcifbgoonaolbabQLedCausesToLogCounts
namespace Go.Proofs.Ytcifbgoonaolbab
open Go.RowKit
set_option linter.unusedVariables false

theorem closed_no {P : List Ov} {x : Ov} (hx : x ∈ P) (h : causesB P x = false) : P.all (causesB P) = false := by
  rw [Bool.eq_false_iff]
  intro h'
  rw [List.all_eq_true] at h'
  rw [h' x hx] at h
  cases h
theorem byA_sub {P : List Ov} {a : Nat} {x : Ov} (h : x ∈ byA P a) : x ∈ P := (List.mem_filter.1 h).1
theorem closed_yes {P : List Ov} (ha : ∀ x ∈ P, 0 ≤ x.a ∧ x.a < 16) (h : ∀ a, a < 16 → ∀ q, q < (byA P a).length → causesB P (ovAt (byA P a) q) = true) : P.all (causesB P) = true := by
  rw [List.all_eq_true]
  intro x hx
  have h0 := ha x hx
  have hm : x ∈ byA P x.a.toNat := List.mem_filter.2 ⟨hx, decide_eq_true (by omega)⟩
  obtain ⟨q, hq, e⟩ := List.getElem_of_mem hm
  have h1 := h x.a.toNat (by omega) q hq
  have h2 := ovAt_get hq
  rw [List.getElem?_eq_getElem hq, e] at h2
  rwa [← Option.some.inj h2] at h1
/-- Where the operations of an actor lie. -/
theorem Led.rowAt {w : World} {B lb : Nat} {vs : List Value} {P : List Ov} (h : Led w B lb vs P) {a : Nat} (ha : a < 16) {ao : Option Addr} {cap : Nat} (hv : vs.getD a undef = .slice ao (byA P a).length cap) (hp : 0 < (byA P a).length) :
    ∃ g, ao = some ⟨g, 0, none⟩ ∧ g < w.heap.size ∧ ∀ k, k < (byA P a).length → OpAt w g (k * 12) (ovAt (byA P a) k) := by
  have hrow := h.row a ha
  rw [hv] at hrow
  have hrow' := hrow
  obtain ⟨h1, h2⟩ := hrow
  rcases h2 with ⟨hv', hn⟩ | ⟨g, cap', cur, hv', hg, hh, _⟩
  · omega
  · simp only [Value.slice.injEq] at hv'
    obtain ⟨rfl, _, rfl⟩ := hv'
    exact ⟨g, rfl, (Array.getElem?_eq_some_iff.1 hh).1, fun k hk => row_at hrow' hk⟩
theorem slice_size : (Try.prog.info? 27).map (·.size) = some 1 := by kernel_rfl
theorem run_indexOps (w : World) (vs : List Value) (k : Nat) (hy : vs.length = 16) (hk : k < 16) : (Instr.index 61 (.agg vs.toArray) (.int .i64 (k : Int))).run Try.prog w = .ok (vs.getD k undef) w := by
  obtain ⟨i, hi, hs⟩ : ∃ i, Try.prog.info? 27 = some i ∧ i.size = 1 := by
    have := slice_size
    cases h : Try.prog.info? 27 with
    | none => rw [h] at this; simp at this
    | some i => rw [h] at this; exact ⟨i, rfl, by simpa using this⟩
  have hc : vs[k]? = some (vs.getD k undef) := by rw [List.getD_eq_getElem?_getD, List.getElem?_eq_getElem (by omega)]; rfl
  unfold Instr.index
  simp only [Sem.run_bind, asIntOf, Sem.run_pure, Result.andThen_ok, run_underlying Try.underlying61 w]
  rw [if_pos ⟨by omega, by omega⟩]
  simp [Sem.run_bind, sizeOf, typeInfo, hi, hs, part]
  rw [hc]
  rfl

set_option maxHeartbeats 4000000 in
set_option maxRecDepth 100000 in
theorem isClosed_any (B C lb : Nat) (vs : List Value) (P : List Ov) (w : World) (hL : Led w B lb vs P) (hP : P.length ≤ 1024) (hC : C ≤ w.heap.size) (hd : ∀ x ∈ P, Rd C w x.dv (x.ds.map (Value.int .i64)) ∧ vecOK x.ds = true) (hact : ∀ x ∈ P, 0 ≤ x.a ∧ x.a < 16) :
    Calls Try.prog 35 #[.pointer (some ⟨lb, 0, none⟩)] w fun e w' => e = .returned (.bool (P.all (causesB P))) ∧ Below w.heap.size w w' := by
  obtain ⟨r, HR⟩ : ∃ r, Hid (P.all (causesB P) = r) := ⟨_, rfl⟩
  rw [HR.out]
  have hrg : w.rangeAt lb 0 vs := fun j v hj => by
    rw [Nat.zero_add]
    have hj1 := (List.getElem?_eq_some_iff.1 hj).1
    have := hL.cell (led_vs hL.len (a := j) (by have := hL.len; omega))
    rw [this, List.getD_eq_getElem?_getD, hj]
    rfl
  have HI : Hid ((Try.prog.info? 61).map (·.size) = some vs.length) := by
    unfold Hid
    rw [hL.len]
    kernel_rfl
  have HLE : Hid (∀ a, (byA P a).length ≤ 1024) := fun a => Nat.le_trans (List.length_filter_le _ _) hP
  go_enter Try.func35, Try.ntmps35
  go_wp2_with (first | (refine wpList_load_mid rfl 61 _ rfl lb 0 rfl vs _ hrg Try.underlying61 rfl HI.out ?_))
  go_loopw [11] (fun ta wr => ∃ (a : Nat), a ≤ 16 ∧ ta = .int .i64 (a : Int) ∧ Below w.heap.size w wr ∧ Hid (∀ q, q < a → ∀ i, i < (byA P q).length → causesB P (ovAt (byA P q) i) = true)) (fun ta _ => 16 - (intOf ta).toNat)
  case atStart => exact ⟨0, Nat.zero_le _, rfl, Below.refl _ _, fun q hq => absurd hq (by omega)⟩
  case round =>
    obtain ⟨a, ha16, rfl, hBw, HA⟩ := hrel
    by_cases hlt : a < 16
    · have hki : (a : Int) < 16 := by omega
      have hle := HLE.out a
      obtain ⟨ao, cap, hsl⟩ := hL.slice hlt
      have hix := run_indexOps wr vs a hL.len hlt
      rw [hsl] at hix
      have HSL : Hid (vs.getD a undef = .slice ao (byA P a).length cap) := hsl
      clear hsl
      go_wp2_with fail
      clear hix
      go_loopw [16] (fun ti wr => ∃ (i : Nat), i ≤ (byA P a).length ∧ ti = .int .i64 (i : Int) ∧ Below w.heap.size w wr ∧ Hid (∀ q, q < i → causesB P (ovAt (byA P a) q) = true)) (fun ti _ => (byA P a).length - (intOf ti).toNat)
      case atStart => exact ⟨0, Nat.zero_le _, rfl, hBw, fun q hq => absurd hq (by omega)⟩
      case round =>
        clear hBw
        obtain ⟨i, hi, rfl, hBw, HB⟩ := hrel
        by_cases hlt2 : i < (byA P a).length
        · have hki2 : (i : Int) < ((byA P a).length : Int) := by omega
          have hsz := hBw.size
          obtain ⟨g, rfl, hg, hcs⟩ := hL.rowAt hlt HSL.out (by omega)
          have hx := (hcs i hlt2).below hBw hg
          have hm := byA_sub (ovAt_mem hlt2)
          have hxd := ((hd _ hm).1).below (hBw.mono hC)
          have hvd := (hd _ hm).2
          have HNO : Hid (causesB P (ovAt (byA P a) i) = false → r = false) := fun h => HR.out.symm.trans (closed_no hm h)
          have HYS : Hid (causesB P (ovAt (byA P a) i) = true → Hid (∀ q, q < i + 1 → causesB P (ovAt (byA P a) q) = true)) := fun h q hq => by
            by_cases e : q = i
            · subst e; exact h
            · exact HB.out q (by omega)
          have hHC : ∀ w1, Below wr.heap.size wr w1 → Calls Try.prog 61 #[.pointer (some ⟨lb, 0, none⟩), .agg #[.int .i64 (ovAt (byA P a) i).a, .int .i64 (ovAt (byA P a) i).s, .int .i64 (ovAt (byA P a) i).t, (ovAt (byA P a) i).dv, .int .i64 (ovAt (byA P a) i).k, .int .i64 (ovAt (byA P a) i).o, .int .i64 (ovAt (byA P a) i).n, .int .i64 (ovAt (byA P a) i).u, .int .i64 (ovAt (byA P a) i).pt, .int .i64 (ovAt (byA P a) i).pa, .string (ovAt (byA P a) i).ky, .string (ovAt (byA P a) i).tx]] w1 fun e w' => e = .returned (.bool (causesB P (ovAt (byA P a) i))) ∧ Below w1.heap.size w1 w' := fun w1 hb => hasCauses_any B C lb vs P (ovAt (byA P a) i) w1 (hL.on (hBw.trans (hb.mono hBw.size)) (Nat.le_refl _)) hP (by have := hb.size; omega) (hxd.below (hb.mono (by omega))) hvd
          generalize causesB P (ovAt (byA P a) i) = cb at HNO HYS hHC
          clear HB hm hvd hcs
          generalize ovAt (byA P a) i = x at *
          obtain ⟨xa, xs, xt, xdv, xk, xo, xn, xu, xpt, xpa, xky, xtx, xds⟩ := x
          obtain ⟨c0, c1, c2, c3, c4, c5, c6, c7, c8, c9, c10, c11⟩ := hx
          simp only at c0 c1 c2 c3 c4 c5 c6 c7 c8 c9 c10 c11 hHC hxd
          obtain ⟨da, dn, dc, rfl⟩ : ∃ da dn dc, xdv = .slice da dn dc := by obtain ⟨da, dc, h, _⟩ := hxd; exact ⟨da, _, dc, h⟩
          have hc1 := hHC (wr.alloc (.cells #[.int .i64 xa, .int .i64 xs, .int .i64 xt, .slice da dn dc, .int .i64 xk, .int .i64 xo, .int .i64 xn, .int .i64 xu, .int .i64 xpt, .int .i64 xpa, .string xky, .string xtx] 47)) (below_alloc _ _)
          clear hxd hHC
          cases cb with
          | false =>
            have HE : Hid (r = false) := HNO.out rfl
            go_wp2_with ((go_at_call 61; refine hc1.mono ?_; rintro e w9 ⟨rfl, hb9⟩))
            go_ret
            exact ⟨by rw [HE.out]; rfl, hBw.trans ((below_seq (below_alloc _ _) hb9).mono hBw.size)⟩
          | true =>
            have HE := HYS.out rfl
            go_wp2_with ((go_at_call 61; refine hc1.mono ?_; rintro e w9 ⟨rfl, hb9⟩))
            go_roundw
            case rel => exact ⟨i + 1, by omega, by go_num, hBw.trans ((below_seq (below_alloc _ _) hb9).mono hBw.size), HE⟩
            case measure => simp [intOf]; omega
        · have hki2 : ¬ (i : Int) < ((byA P a).length : Int) := by omega
          have HE : Hid (∀ q, q < a + 1 → ∀ i, i < (byA P q).length → causesB P (ovAt (byA P q) i) = true) := fun q hq j hj => by
            by_cases e : q = a
            · subst e; exact HB.out j (by omega)
            · exact HA.out q (by omega) j hj
          go_wp2_with fail
          go_roundw
          case rel => exact ⟨a + 1, by omega, by go_num, hBw, HE⟩
          case measure => simp [intOf]; omega
    · have hki : ¬ (a : Int) < 16 := by omega
      have HE : Hid (r = true) := HR.out.symm.trans (closed_yes hact fun q hq i hi => HA.out q (by omega) i hi)
      go_wp2_with fail
      go_ret
      exact ⟨by rw [HE.out]; rfl, hBw⟩
end Go.Proofs.Ytcifbgoonaolbab

namespace Go.Proofs.Ytcifbgoonaolbab
open Go.RowKit
set_option linter.unusedVariables false

def nextB (P : List Ov) (x : Ov) : Bool := decide (x.s = ((byA P x.a.toNat).length : Int) + 1)
def suitB (P : List Ov) (x : Ov) : Bool := decide ((tsOf P).getD x.o.toNat 0 = 0 ∨ (tsOf P).getD x.o.toNat 0 = thOf x.k)
/-- The i-th operation can stand behind those ahead of it. -/
def stepI (L : List Ov) (i : Nat) : Bool := (ovAt L i).ok && (nextB (L.take i) (ovAt L i) && (suitB (L.take i) (ovAt L i) && decide (0 < i → (ovAt L (i - 1)).a ≤ (ovAt L i).a)))
/-- A log is valid, as the code asks. -/
def logI (L : List Ov) : Bool := decide (L.length ≤ 1024) && ((List.range L.length).all (stepI L) && L.all (causesB L))
theorem logI_long {L : List Ov} (h : ¬ L.length ≤ 1024) : logI L = false := by simp [logI, h]
theorem logI_step {L : List Ov} {i : Nat} (h : i < L.length) (hs : stepI L i = false) : logI L = false := by
  have : (List.range L.length).all (stepI L) = false := by
    rw [Bool.eq_false_iff]
    intro h'
    rw [List.all_eq_true] at h'
    rw [h' i (List.mem_range.2 h)] at hs
    cases hs
  simp [logI, this]
theorem logI_cause {L : List Ov} {i : Nat} (h : i < L.length) (hs : causesB L (ovAt L i) = false) : logI L = false := by
  have : L.all (causesB L) = false := by
    rw [Bool.eq_false_iff]
    intro h'
    rw [List.all_eq_true] at h'
    rw [h' _ (ovAt_mem h)] at hs
    cases hs
  simp [logI, this]
theorem logI_yes {L : List Ov} (h : L.length ≤ 1024) (h1 : ∀ i, i < L.length → stepI L i = true) (h2 : ∀ i, i < L.length → causesB L (ovAt L i) = true) : logI L = true := by
  unfold logI
  rw [decide_eq_true h, List.all_eq_true.2 (fun i hi => h1 i (List.mem_range.1 hi)), List.all_eq_true.2 (fun x hx => by
    obtain ⟨i, hi, rfl⟩ := List.getElem_of_mem hx
    have := h2 i hi
    rwa [show ovAt L i = L[i] by have := ovAt_get hi; rw [List.getElem?_eq_getElem hi] at this; exact (Option.some.inj this).symm] at this)]
  rfl
theorem take_snoc {L : List Ov} {i : Nat} (h : i < L.length) : L.take (i + 1) = L.take i ++ [ovAt L i] := by
  rw [List.take_add_one, ovAt_get h]
  rfl
theorem ok_parts {x : Ov} (h : x.ok = true) : (0 ≤ x.a ∧ x.a < 16) ∧ (1 ≤ x.o ∧ x.o ≤ 100) ∧ vecOK x.ds = true := by
  unfold Ov.ok opB at h
  simp only [Bool.and_eq_true, decide_eq_true_eq] at h
  obtain ⟨h1, h2, h3, _⟩ := h
  unfold comesOK at h1
  simp only [Bool.and_eq_true] at h1
  have h4 := h1.1.1.1.1
  unfold stOK at h4
  simp only [decide_eq_true_eq] at h4
  exact ⟨⟨h4.2.2.1, h4.2.2.2⟩, ⟨h2, h3⟩, h1.1.2⟩
theorem step_mem {L : List Ov} (h : ∀ q, q < L.length → stepI L q = true) : ∀ x ∈ L, x.ok = true := by
  intro x hx
  obtain ⟨q, hq, e⟩ := List.getElem_of_mem hx
  have h1 := h q hq
  have h2 := ovAt_get hq
  rw [List.getElem?_eq_getElem hq, e] at h2
  unfold stepI at h1
  rw [← Option.some.inj h2] at h1
  simp only [Bool.and_eq_true] at h1
  exact h1.1
theorem Rd.one {C : Nat} {w : World} {v : Value} {cs : List Value} (h : Rd C w v cs) : v.oneCell' = true := by
  obtain ⟨ao, cap, rfl, _⟩ := h
  rfl

theorem info_led : (Try.prog.info? 64).map (·.zero) = some (some (.agg (ledCs (List.replicate 16 (.slice none 0 0)) []).toArray)) := by kernel_rfl
theorem zero_led (w : World) : (zeroValue 64).run Try.prog w = .ok (.agg (ledCs (List.replicate 16 (.slice none 0 0)) []).toArray) w := by
  have h := info_led
  cases hq : Try.prog.info? 64 with
  | none => rw [hq] at h; simp at h
  | some i =>
    rw [hq] at h
    have hz : i.zero = some (.agg (ledCs (List.replicate 16 (.slice none 0 0)) []).toArray) := by simpa using h
    generalize (Value.agg (ledCs (List.replicate 16 (.slice none 0 0)) []).toArray) = z at hz
    simp [zeroValue, Sem.run_bind, typeInfo, hq, hz]

/-- What ledgerOf answers. -/
def LoAns (L : List Ov) (w : World) (e : Ending) (w' : World) : Prop :=
  ((logI L = true ∧ ∃ lb, e = .returned (.tuple #[.pointer (some ⟨lb, 0, none⟩), .bool true]) ∧ ∃ vs, Led w' w.heap.size lb vs L) ∨ (logI L = false ∧ e = .returned (.tuple #[.pointer none, .bool false]))) ∧ Below w.heap.size w w'

set_option maxHeartbeats 4000000 in
set_option maxRecDepth 100000 in
theorem ledgerOf_any (C : Nat) (w : World) (v : Value) (L : List Ov) (hC : C ≤ w.heap.size) (hr : RdO C w v L) :
    Calls Try.prog 17 #[v] w (LoAns L w) := by
  have hr0 := hr
  obtain ⟨⟨ao, cap, rfl, hcap, hmax, hnil, hrow⟩, hdv⟩ := hr
  unfold LoAns
  unfold maxLen at hmax
  by_cases hlen : L.length ≤ 1024
  · have hlen' : ¬ (1024 : Int) < (L.length : Int) := by omega
    have hZ : (#[.slice none 0 0, .slice none 0 0, .slice none 0 0, .slice none 0 0, .slice none 0 0, .slice none 0 0, .slice none 0 0, .slice none 0 0, .slice none 0 0, .slice none 0 0, .slice none 0 0, .slice none 0 0, .slice none 0 0, .slice none 0 0, .slice none 0 0, .slice none 0 0, .int .i64 0, .int .i64 0, .int .i64 0, .int .i64 0, .int .i64 0, .int .i64 0, .int .i64 0, .int .i64 0, .int .i64 0, .int .i64 0, .int .i64 0, .int .i64 0, .int .i64 0, .int .i64 0, .int .i64 0, .int .i64 0, .int .i64 0, .int .i64 0, .int .i64 0, .int .i64 0, .int .i64 0, .int .i64 0, .int .i64 0, .int .i64 0, .int .i64 0, .int .i64 0, .int .i64 0, .int .i64 0, .int .i64 0, .int .i64 0, .int .i64 0, .int .i64 0, .int .i64 0, .int .i64 0, .int .i64 0, .int .i64 0, .int .i64 0, .int .i64 0, .int .i64 0, .int .i64 0, .int .i64 0, .int .i64 0, .int .i64 0, .int .i64 0, .int .i64 0, .int .i64 0, .int .i64 0, .int .i64 0, .int .i64 0, .int .i64 0, .int .i64 0, .int .i64 0, .int .i64 0, .int .i64 0, .int .i64 0, .int .i64 0, .int .i64 0, .int .i64 0, .int .i64 0, .int .i64 0, .int .i64 0, .int .i64 0, .int .i64 0, .int .i64 0, .int .i64 0, .int .i64 0, .int .i64 0, .int .i64 0, .int .i64 0, .int .i64 0, .int .i64 0, .int .i64 0, .int .i64 0, .int .i64 0, .int .i64 0, .int .i64 0, .int .i64 0, .int .i64 0, .int .i64 0, .int .i64 0, .int .i64 0, .int .i64 0, .int .i64 0, .int .i64 0, .int .i64 0, .int .i64 0, .int .i64 0, .int .i64 0, .int .i64 0, .int .i64 0, .int .i64 0, .int .i64 0, .int .i64 0, .int .i64 0, .int .i64 0, .int .i64 0, .int .i64 0, .int .i64 0, .int .i64 0, .int .i64 0, .int .i64 0, .int .i64 0] : Array Value) = (ledCs (List.replicate 16 (.slice none 0 0)) []).toArray := by kernel_rfl
    have hL0 : Led (w.alloc (.cells (ledCs (List.replicate 16 (.slice none 0 0)) []).toArray 64)) w.heap.size w.heap.size (List.replicate 16 (.slice none 0 0)) (L.take 0) := by
      have nn : ∀ a, a < 16 → (List.replicate 16 (Value.slice none 0 0)).getD a undef = .slice none 0 0 := fun a ha => by
        rw [List.getD_eq_getElem?_getD, List.getElem?_replicate, if_pos ha]
        rfl
      refine ⟨by simp, heap_alloc_new w _, Nat.le_refl _, fun a ha => ?_, fun a ha => ?_, fun a b ha hb hab g hg => ?_⟩
      · rw [nn a ha]; exact ⟨rfl, .inl ⟨rfl, rfl⟩⟩
      · rw [nn a ha]; exact fun h => by cases h
      · rw [nn a ha] at hg; cases hg
    have hB0 : Below w.heap.size w (w.alloc (.cells (ledCs (List.replicate 16 (.slice none 0 0)) []).toArray 64)) := below_alloc _ _
    have hzv := zero_led
    go_enter Try.func17, Try.ntmps17
    go_wp2_with fail
    clear hZ hzv
    go_loopw [14] (fun ti wr => ∃ (i : Nat) (vs : List Value), i ≤ L.length ∧ ti = .int .i64 (i : Int) ∧ Led wr w.heap.size w.heap.size vs (L.take i) ∧ Below w.heap.size w wr ∧ Hid (∀ q, q < i → stepI L q = true)) (fun ti _ => L.length - (intOf ti).toNat)
    case atStart => exact ⟨0, _, Nat.zero_le _, rfl, hL0, hB0, fun q hq => absurd hq (by omega)⟩
    case round =>
      obtain ⟨i, vs, hi, rfl, hLd, hBw, HA⟩ := hrel
      clear hL0 hB0
      by_cases hlt : i < L.length
      · have hki : (i : Int) < (L.length : Int) := by omega
        have hsz := hBw.size
        obtain ⟨g, off, rfl, hg, hcs⟩ := hrow (by omega)
        have hx := (hcs i hlt).below (hBw.mono hC) hg
        have hxd := (hdv _ (ovAt_mem hlt)).below (hBw.mono hC)
        have HTK : Hid (L.take (i + 1) = L.take i ++ [ovAt L i]) := take_snoc hlt
        have HST : Hid (stepI L i = ((ovAt L i).ok && (nextB (L.take i) (ovAt L i) && (suitB (L.take i) (ovAt L i) && decide (0 < i → (ovAt L (i - 1)).a ≤ (ovAt L i).a))))) := rfl
        have HNO : Hid (stepI L i = false → logI L = false) := fun h => logI_step hlt h
        have HYS : Hid (stepI L i = true → Hid (∀ q, q < i + 1 → stepI L q = true)) := fun h q hq => by
          by_cases e : q = i
          · subst e; exact h
          · exact HA.out q (by omega)
        have HPC : Hid (∀ i', i = i' + 1 → wr.cell? ⟨g, off + i' * 12, none⟩ = some (.int .i64 (ovAt L i').a)) := fun i' e => ((hcs i' (by omega)).below (hBw.mono hC) hg).c0
        have hPl : (L.take i).length ≤ 1024 := by rw [List.length_take]; omega
        generalize ovAt L i = x at *
        generalize stepI L i = st at HST HNO HYS
        obtain ⟨xa, xs, xt, xdv, xk, xo, xn, xu, xpt, xpa, xky, xtx, xds⟩ := x
        obtain ⟨c0, c1, c2, c3, c4, c5, c6, c7, c8, c9, c10, c11⟩ := hx
        simp only at c0 c1 c2 c3 c4 c5 c6 c7 c8 c9 c10 c11 hxd HST
        obtain ⟨da, dn, dc, rfl⟩ : ∃ da dn dc, xdv = .slice da dn dc := by obtain ⟨da, dc, h, _⟩ := hxd; exact ⟨da, _, dc, h⟩
        have hB := (Below.refl (wr.alloc (.cells #[.int .i64 xa, .int .i64 xs, .int .i64 xt, .slice da dn dc, .int .i64 xk, .int .i64 xo, .int .i64 xn, .int .i64 xu, .int .i64 xpt, .int .i64 xpa, .string xky, .string xtx] 47)).heap.size (wr.alloc (.cells #[.int .i64 xa, .int .i64 xs, .int .i64 xt, .slice da dn dc, .int .i64 xk, .int .i64 xo, .int .i64 xn, .int .i64 xu, .int .i64 xpt, .int .i64 xpa, .string xky, .string xtx] 47))).drew
        have hOK : ∀ w1, Below (wr.alloc (.cells #[.int .i64 xa, .int .i64 xs, .int .i64 xt, .slice da dn dc, .int .i64 xk, .int .i64 xo, .int .i64 xn, .int .i64 xu, .int .i64 xpt, .int .i64 xpa, .string xky, .string xtx] 47)).heap.size (wr.alloc (.cells #[.int .i64 xa, .int .i64 xs, .int .i64 xt, .slice da dn dc, .int .i64 xk, .int .i64 xo, .int .i64 xn, .int .i64 xu, .int .i64 xpt, .int .i64 xpa, .string xky, .string xtx] 47)) w1 → Calls Try.prog 31 #[.agg #[.int .i64 xa, .int .i64 xs, .int .i64 xt, .slice da dn dc, .int .i64 xk, .int .i64 xo, .int .i64 xn, .int .i64 xu, .int .i64 xpt, .int .i64 xpa, .string xky, .string xtx]] w1 fun e w' => e = .returned (.bool (Ov.ok (⟨xa, xs, xt, .slice da dn dc, xk, xo, xn, xu, xpt, xpa, xky, xtx, xds⟩ : Ov))) ∧ Below w1.heap.size w1 w' := fun w1 hb => opOK_any C xa xs xt xk xo xn xu xpt xpa (.slice da dn dc) xky xtx xds w1 (by have := (below_seq (below_alloc wr _) hb).size; omega) (hxd.below ((below_seq (below_alloc wr _) hb).mono (by omega)))
        have hg' : g < wr.heap.size := by omega
        cases hok : Ov.ok (⟨xa, xs, xt, .slice da dn dc, xk, xo, xn, xu, xpt, xpa, xky, xtx, xds⟩ : Ov) with
        | false =>
          have HE : Hid (logI L = false) := HNO.out (by rw [HST.out, hok]; rfl)
          rw [hok] at hOK
          clear HA HST HNO HYS hok HPC HTK
          have HF : Hid (∀ wx, Below (wr.alloc (.cells #[.int .i64 xa, .int .i64 xs, .int .i64 xt, .slice da dn dc, .int .i64 xk, .int .i64 xo, .int .i64 xn, .int .i64 xu, .int .i64 xpt, .int .i64 xpa, .string xky, .string xtx] 47)).heap.size (wr.alloc (.cells #[.int .i64 xa, .int .i64 xs, .int .i64 xt, .slice da dn dc, .int .i64 xk, .int .i64 xo, .int .i64 xn, .int .i64 xu, .int .i64 xpt, .int .i64 xpa, .string xky, .string xtx] 47)) wx → wx.cell? ⟨wr.heap.size, 0, none⟩ = some (.int .i64 xa) ∧ wx.cell? ⟨wr.heap.size, 1, none⟩ = some (.int .i64 xs) ∧ wx.cell? ⟨wr.heap.size, 2, none⟩ = some (.int .i64 xt) ∧ wx.cell? ⟨wr.heap.size, 3, none⟩ = some (.slice da dn dc) ∧ wx.cell? ⟨wr.heap.size, 4, none⟩ = some (.int .i64 xk) ∧ wx.cell? ⟨wr.heap.size, 5, none⟩ = some (.int .i64 xo) ∧ wx.cell? ⟨wr.heap.size, 6, none⟩ = some (.int .i64 xn) ∧ wx.cell? ⟨wr.heap.size, 7, none⟩ = some (.int .i64 xu) ∧ wx.cell? ⟨wr.heap.size, 8, none⟩ = some (.int .i64 xpt) ∧ wx.cell? ⟨wr.heap.size, 9, none⟩ = some (.int .i64 xpa) ∧ wx.cell? ⟨wr.heap.size, 10, none⟩ = some (.string xky) ∧ wx.cell? ⟨wr.heap.size, 11, none⟩ = some (.string xtx)) := fun wx h => by
            obtain ⟨q0, q1, q2, q3, q4, q5, q6, q7, q8, q9, q10, q11⟩ := op_cells h
            exact ⟨q0, q1, q2, q3, q4, q5, q6, q7, q8, q9, q10, q11⟩
          go_wp2_with fail
          refine wp_region_held_drew (S := fun w' => w'.cell? ⟨wr.heap.size, 0, none⟩ = some (.int .i64 xa) ∧ w'.cell? ⟨wr.heap.size, 1, none⟩ = some (.int .i64 xs) ∧ w'.cell? ⟨wr.heap.size, 2, none⟩ = some (.int .i64 xt) ∧ w'.cell? ⟨wr.heap.size, 3, none⟩ = some (.slice da dn dc) ∧ w'.cell? ⟨wr.heap.size, 4, none⟩ = some (.int .i64 xk) ∧ w'.cell? ⟨wr.heap.size, 5, none⟩ = some (.int .i64 xo) ∧ w'.cell? ⟨wr.heap.size, 6, none⟩ = some (.int .i64 xn) ∧ w'.cell? ⟨wr.heap.size, 7, none⟩ = some (.int .i64 xu) ∧ w'.cell? ⟨wr.heap.size, 8, none⟩ = some (.int .i64 xpt) ∧ w'.cell? ⟨wr.heap.size, 9, none⟩ = some (.int .i64 xpa) ∧ w'.cell? ⟨wr.heap.size, 10, none⟩ = some (.string xky) ∧ w'.cell? ⟨wr.heap.size, 11, none⟩ = some (.string xtx)) (by kernel_rfl) (HF.out _ hB) (fun hHeld => ?_)
          refine tkH 0 (.agg #[.int .i64 xa, .int .i64 xs, .int .i64 xt, .slice da dn dc, .int .i64 xk, .int .i64 xo, .int .i64 xn, .int .i64 xu, .int .i64 xpt, .int .i64 xpa, .string xky, .string xtx]) rfl (Or.inl ⟨by kernel_rfl, by intro w hSw; obtain ⟨s0, s1, s2, s3, s4, s5, s6, s7, s8, s9, s10, s11⟩ := hSw; go_simp⟩) hHeld ?_
          simp only [tkS, Act.put]
          refine wpAnyH_ready (rs := [1]) (by kernel_rfl) (by simp) ?_
          refine AllReadyH.cons rfl (fun K hK => ?_) AllReadyH.nil
          go_simp
          refine (hOK _ hB).mono ?_
          rintro e wn ⟨rfl, hbn⟩
          replace hB := below_seq hB hbn
          clear hbn
          go_wp2_with fail
          refine hK.out _ _ (HF.out _ hB) (fun hHeld => ?_)
          clear hK K
          refine tkH 2 (.bool true) rfl (Or.inl ⟨by kernel_rfl, by intro w hSw; obtain ⟨s0, s1, s2, s3, s4, s5, s6, s7, s8, s9, s10, s11⟩ := hSw; go_simp⟩) hHeld ?_
          simp only [tkS, Act.put]
          refine tkH 3 (.bool true) rfl (Or.inl ⟨by kernel_rfl, by intro w hSw; obtain ⟨s0, s1, s2, s3, s4, s5, s6, s7, s8, s9, s10, s11⟩ := hSw; go_simp⟩) hHeld ?_
          simp only [tkS, Act.put]
          refine tkH 4 (undef) rfl (Or.inr ⟨by kernel_rfl, rfl⟩) hHeld ?_
          simp only [tkS, Act.put]
          refine tkH 5 (undef) rfl (Or.inr ⟨by kernel_rfl, rfl⟩) hHeld ?_
          simp only [tkS, Act.put]
          refine wpAnyH_ready (rs := [6]) (by kernel_rfl) (by simp) ?_
          refine AllReadyH.cons rfl (fun K hK => ?_) AllReadyH.nil
          go_simp
          refine hK.out _ _ (HF.out _ hB) (fun hHeld => ?_)
          clear hK K
          refine tkH 7 (undef) rfl (Or.inr ⟨by kernel_rfl, rfl⟩) hHeld ?_
          simp only [tkS, Act.put]
          refine tkH 8 (.bool true) rfl (Or.inl ⟨by kernel_rfl, by intro w hSw; obtain ⟨s0, s1, s2, s3, s4, s5, s6, s7, s8, s9, s10, s11⟩ := hSw; go_simp⟩) hHeld ?_
          simp only [tkS, Act.put]
          refine tkH 9 (.bool true) rfl (Or.inl ⟨by kernel_rfl, by intro w hSw; obtain ⟨s0, s1, s2, s3, s4, s5, s6, s7, s8, s9, s10, s11⟩ := hSw; go_simp⟩) hHeld ?_
          simp only [tkS, Act.put]
          refine tkH 10 (undef) rfl (Or.inr ⟨by kernel_rfl, rfl⟩) hHeld ?_
          simp only [tkS, Act.put]
          refine tkH 11 (undef) rfl (Or.inr ⟨by kernel_rfl, rfl⟩) hHeld ?_
          simp only [tkS, Act.put]
          refine wpAnyH_ready (rs := [12]) (by kernel_rfl) (by simp) ?_
          refine AllReadyH.cons rfl (fun K hK => ?_) AllReadyH.nil
          go_simp
          refine hK.out _ _ (HF.out _ hB) (fun hHeld => ?_)
          clear hK K
          refine tkH 13 (undef) rfl (Or.inr ⟨by kernel_rfl, rfl⟩) hHeld ?_
          simp only [tkS, Act.put]
          refine tkH 14 (.bool true) rfl (Or.inl ⟨by kernel_rfl, by intro w hSw; obtain ⟨s0, s1, s2, s3, s4, s5, s6, s7, s8, s9, s10, s11⟩ := hSw; go_simp⟩) hHeld ?_
          simp only [tkS, Act.put]
          refine tkH 15 (.bool true) rfl (Or.inl ⟨by kernel_rfl, by intro w hSw; obtain ⟨s0, s1, s2, s3, s4, s5, s6, s7, s8, s9, s10, s11⟩ := hSw; go_simp⟩) hHeld ?_
          simp only [tkS, Act.put]
          refine tkH 16 (undef) rfl (Or.inr ⟨by kernel_rfl, rfl⟩) hHeld ?_
          simp only [tkS, Act.put]
          refine tkH 17 (undef) rfl (Or.inr ⟨by kernel_rfl, rfl⟩) hHeld ?_
          simp only [tkS, Act.put]
          refine tkH 18 (undef) rfl (Or.inr ⟨by kernel_rfl, rfl⟩) hHeld ?_
          simp only [tkS, Act.put]
          refine tkH 19 (undef) rfl (Or.inr ⟨by kernel_rfl, rfl⟩) hHeld ?_
          simp only [tkS, Act.put]
          refine tkH 20 (undef) rfl (Or.inr ⟨by kernel_rfl, rfl⟩) hHeld ?_
          simp only [tkS, Act.put]
          refine tkH 21 (undef) rfl (Or.inr ⟨by kernel_rfl, rfl⟩) hHeld ?_
          simp only [tkS, Act.put]
          refine tkH 22 (undef) rfl (Or.inr ⟨by kernel_rfl, rfl⟩) hHeld ?_
          simp only [tkS, Act.put]
          refine tkH 23 (undef) rfl (Or.inr ⟨by kernel_rfl, rfl⟩) hHeld ?_
          simp only [tkS, Act.put]
          refine tkH 24 (undef) rfl (Or.inr ⟨by kernel_rfl, rfl⟩) hHeld ?_
          simp only [tkS, Act.put]
          refine tkH 25 (undef) rfl (Or.inr ⟨by kernel_rfl, rfl⟩) hHeld ?_
          simp only [tkS, Act.put]
          refine tkH 26 (undef) rfl (Or.inr ⟨by kernel_rfl, rfl⟩) hHeld ?_
          simp only [tkS, Act.put]
          refine tkH 27 (undef) rfl (Or.inr ⟨by kernel_rfl, rfl⟩) hHeld ?_
          simp only [tkS, Act.put]
          refine tkH 28 (undef) rfl (Or.inr ⟨by kernel_rfl, rfl⟩) hHeld ?_
          simp only [tkS, Act.put]
          refine tkH 29 (.bool true) rfl (Or.inl ⟨by kernel_rfl, by intro w hSw; obtain ⟨s0, s1, s2, s3, s4, s5, s6, s7, s8, s9, s10, s11⟩ := hSw; go_simp⟩) hHeld ?_
          simp only [tkS, Act.put]
          refine wpAnyH_done (by kernel_rfl) ?_ _
          go_wp2_with fail
          go_ret2
          exact ⟨.inr ⟨HE.out, rfl⟩, (hBw.trans ((below_seq (below_alloc _ _) hB).mono hBw.size))⟩
        | true =>
          obtain ⟨⟨ha0, ha1⟩, ⟨ho0, ho1⟩, hvd⟩ := ok_parts hok
          simp only at ha0 ha1 ho0 ho1 hvd
          have hNX : ∀ w1, Below (wr.alloc (.cells #[.int .i64 xa, .int .i64 xs, .int .i64 xt, .slice da dn dc, .int .i64 xk, .int .i64 xo, .int .i64 xn, .int .i64 xu, .int .i64 xpt, .int .i64 xpa, .string xky, .string xtx] 47)).heap.size (wr.alloc (.cells #[.int .i64 xa, .int .i64 xs, .int .i64 xt, .slice da dn dc, .int .i64 xk, .int .i64 xo, .int .i64 xn, .int .i64 xu, .int .i64 xpt, .int .i64 xpa, .string xky, .string xtx] 47)) w1 → Calls Try.prog 32 #[.pointer (some ⟨w.heap.size, 0, none⟩), .agg #[.int .i64 xa, .int .i64 xs, .int .i64 xt, .slice da dn dc, .int .i64 xk, .int .i64 xo, .int .i64 xn, .int .i64 xu, .int .i64 xpt, .int .i64 xpa, .string xky, .string xtx]] w1 fun e w' => e = .returned (.bool (nextB (L.take i) (⟨xa, xs, xt, .slice da dn dc, xk, xo, xn, xu, xpt, xpa, xky, xtx, xds⟩ : Ov))) ∧ Below w1.heap.size w1 w' := fun w1 hb => isNext_any w.heap.size w.heap.size vs (L.take i) (⟨xa, xs, xt, .slice da dn dc, xk, xo, xn, xu, xpt, xpa, xky, xtx, xds⟩ : Ov) w1 (hLd.on (below_seq (below_alloc wr _) hb) (Nat.le_refl _)) xa.toNat (by omega) (by show xa = _; omega) hPl
          have hSU : ∀ w1, Below (wr.alloc (.cells #[.int .i64 xa, .int .i64 xs, .int .i64 xt, .slice da dn dc, .int .i64 xk, .int .i64 xo, .int .i64 xn, .int .i64 xu, .int .i64 xpt, .int .i64 xpa, .string xky, .string xtx] 47)).heap.size (wr.alloc (.cells #[.int .i64 xa, .int .i64 xs, .int .i64 xt, .slice da dn dc, .int .i64 xk, .int .i64 xo, .int .i64 xn, .int .i64 xu, .int .i64 xpt, .int .i64 xpa, .string xky, .string xtx] 47)) w1 → Calls Try.prog 33 #[.pointer (some ⟨w.heap.size, 0, none⟩), .agg #[.int .i64 xa, .int .i64 xs, .int .i64 xt, .slice da dn dc, .int .i64 xk, .int .i64 xo, .int .i64 xn, .int .i64 xu, .int .i64 xpt, .int .i64 xpa, .string xky, .string xtx]] w1 fun e w' => e = .returned (.bool (suitB (L.take i) (⟨xa, xs, xt, .slice da dn dc, xk, xo, xn, xu, xpt, xpa, xky, xtx, xds⟩ : Ov))) ∧ Below w1.heap.size w1 w' := fun w1 hb => suits_any w.heap.size w.heap.size vs (L.take i) (⟨xa, xs, xt, .slice da dn dc, xk, xo, xn, xu, xpt, xpa, xky, xtx, xds⟩ : Ov) w1 (hLd.on (below_seq (below_alloc wr _) hb) (Nat.le_refl _)) xo.toNat (by omega) (by show xo = _; omega)
          have hPUT : ∀ w1, Below (wr.alloc (.cells #[.int .i64 xa, .int .i64 xs, .int .i64 xt, .slice da dn dc, .int .i64 xk, .int .i64 xo, .int .i64 xn, .int .i64 xu, .int .i64 xpt, .int .i64 xpa, .string xky, .string xtx] 47)).heap.size (wr.alloc (.cells #[.int .i64 xa, .int .i64 xs, .int .i64 xt, .slice da dn dc, .int .i64 xk, .int .i64 xo, .int .i64 xn, .int .i64 xu, .int .i64 xpt, .int .i64 xpa, .string xky, .string xtx] 47)) w1 → Calls Try.prog 34 #[.pointer (some ⟨w.heap.size, 0, none⟩), .agg #[.int .i64 xa, .int .i64 xs, .int .i64 xt, .slice da dn dc, .int .i64 xk, .int .i64 xo, .int .i64 xn, .int .i64 xu, .int .i64 xpt, .int .i64 xpa, .string xky, .string xtx]] w1 fun e w' => e = .returned (.tuple #[]) ∧ (∃ vs', Led w' w.heap.size w.heap.size vs' (L.take i ++ [(⟨xa, xs, xt, .slice da dn dc, xk, xo, xn, xu, xpt, xpa, xky, xtx, xds⟩ : Ov)])) ∧ Below w.heap.size w1 w' := fun w1 hb => ledPut_any w.heap.size w.heap.size vs (L.take i) (⟨xa, xs, xt, .slice da dn dc, xk, xo, xn, xu, xpt, xpa, xky, xtx, xds⟩ : Ov) w1 (hLd.on (below_seq (below_alloc wr _) hb) (Nat.le_refl _)) xa.toNat xo.toNat (by omega) (by omega) (by show xa = _; omega) (by show xo = _; omega) hPl hxd.one
          rw [hok] at hOK
          rw [hok, Bool.true_and] at HST
          clear hok hvd hLd hxd
          cases hnx : nextB (L.take i) (⟨xa, xs, xt, .slice da dn dc, xk, xo, xn, xu, xpt, xpa, xky, xtx, xds⟩ : Ov) with
          | false =>
            have HE : Hid (logI L = false) := HNO.out (by rw [HST.out, hnx]; rfl)
            rw [hnx] at hNX
            clear HA HST HNO HYS HPC HTK hnx
            have HF : Hid (∀ wx, Below (wr.alloc (.cells #[.int .i64 xa, .int .i64 xs, .int .i64 xt, .slice da dn dc, .int .i64 xk, .int .i64 xo, .int .i64 xn, .int .i64 xu, .int .i64 xpt, .int .i64 xpa, .string xky, .string xtx] 47)).heap.size (wr.alloc (.cells #[.int .i64 xa, .int .i64 xs, .int .i64 xt, .slice da dn dc, .int .i64 xk, .int .i64 xo, .int .i64 xn, .int .i64 xu, .int .i64 xpt, .int .i64 xpa, .string xky, .string xtx] 47)) wx → wx.cell? ⟨wr.heap.size, 0, none⟩ = some (.int .i64 xa) ∧ wx.cell? ⟨wr.heap.size, 1, none⟩ = some (.int .i64 xs) ∧ wx.cell? ⟨wr.heap.size, 2, none⟩ = some (.int .i64 xt) ∧ wx.cell? ⟨wr.heap.size, 3, none⟩ = some (.slice da dn dc) ∧ wx.cell? ⟨wr.heap.size, 4, none⟩ = some (.int .i64 xk) ∧ wx.cell? ⟨wr.heap.size, 5, none⟩ = some (.int .i64 xo) ∧ wx.cell? ⟨wr.heap.size, 6, none⟩ = some (.int .i64 xn) ∧ wx.cell? ⟨wr.heap.size, 7, none⟩ = some (.int .i64 xu) ∧ wx.cell? ⟨wr.heap.size, 8, none⟩ = some (.int .i64 xpt) ∧ wx.cell? ⟨wr.heap.size, 9, none⟩ = some (.int .i64 xpa) ∧ wx.cell? ⟨wr.heap.size, 10, none⟩ = some (.string xky) ∧ wx.cell? ⟨wr.heap.size, 11, none⟩ = some (.string xtx)) := fun wx h => by
              obtain ⟨q0, q1, q2, q3, q4, q5, q6, q7, q8, q9, q10, q11⟩ := op_cells h
              exact ⟨q0, q1, q2, q3, q4, q5, q6, q7, q8, q9, q10, q11⟩
            go_wp2_with fail
            refine wp_region_held_drew (S := fun w' => w'.cell? ⟨wr.heap.size, 0, none⟩ = some (.int .i64 xa) ∧ w'.cell? ⟨wr.heap.size, 1, none⟩ = some (.int .i64 xs) ∧ w'.cell? ⟨wr.heap.size, 2, none⟩ = some (.int .i64 xt) ∧ w'.cell? ⟨wr.heap.size, 3, none⟩ = some (.slice da dn dc) ∧ w'.cell? ⟨wr.heap.size, 4, none⟩ = some (.int .i64 xk) ∧ w'.cell? ⟨wr.heap.size, 5, none⟩ = some (.int .i64 xo) ∧ w'.cell? ⟨wr.heap.size, 6, none⟩ = some (.int .i64 xn) ∧ w'.cell? ⟨wr.heap.size, 7, none⟩ = some (.int .i64 xu) ∧ w'.cell? ⟨wr.heap.size, 8, none⟩ = some (.int .i64 xpt) ∧ w'.cell? ⟨wr.heap.size, 9, none⟩ = some (.int .i64 xpa) ∧ w'.cell? ⟨wr.heap.size, 10, none⟩ = some (.string xky) ∧ w'.cell? ⟨wr.heap.size, 11, none⟩ = some (.string xtx)) (by kernel_rfl) (HF.out _ hB) (fun hHeld => ?_)
            refine tkH 0 (.agg #[.int .i64 xa, .int .i64 xs, .int .i64 xt, .slice da dn dc, .int .i64 xk, .int .i64 xo, .int .i64 xn, .int .i64 xu, .int .i64 xpt, .int .i64 xpa, .string xky, .string xtx]) rfl (Or.inl ⟨by kernel_rfl, by intro w hSw; obtain ⟨s0, s1, s2, s3, s4, s5, s6, s7, s8, s9, s10, s11⟩ := hSw; go_simp⟩) hHeld ?_
            simp only [tkS, Act.put]
            refine wpAnyH_ready (rs := [1]) (by kernel_rfl) (by simp) ?_
            refine AllReadyH.cons rfl (fun K hK => ?_) AllReadyH.nil
            go_simp
            refine (hOK _ hB).mono ?_
            rintro e wn ⟨rfl, hbn⟩
            replace hB := below_seq hB hbn
            clear hbn
            go_wp2_with fail
            refine hK.out _ _ (HF.out _ hB) (fun hHeld => ?_)
            clear hK K
            refine tkH 2 (.bool false) rfl (Or.inl ⟨by kernel_rfl, by intro w hSw; obtain ⟨s0, s1, s2, s3, s4, s5, s6, s7, s8, s9, s10, s11⟩ := hSw; go_simp⟩) hHeld ?_
            simp only [tkS, Act.put]
            refine tkH 3 (.bool false) rfl (Or.inl ⟨by kernel_rfl, by intro w hSw; obtain ⟨s0, s1, s2, s3, s4, s5, s6, s7, s8, s9, s10, s11⟩ := hSw; go_simp⟩) hHeld ?_
            simp only [tkS, Act.put]
            refine tkH 4 (.pointer (some ⟨w.heap.size, 0, none⟩)) rfl (Or.inl ⟨by kernel_rfl, by intro w hSw; obtain ⟨s0, s1, s2, s3, s4, s5, s6, s7, s8, s9, s10, s11⟩ := hSw; go_simp⟩) hHeld ?_
            simp only [tkS, Act.put]
            refine tkH 5 (.agg #[.int .i64 xa, .int .i64 xs, .int .i64 xt, .slice da dn dc, .int .i64 xk, .int .i64 xo, .int .i64 xn, .int .i64 xu, .int .i64 xpt, .int .i64 xpa, .string xky, .string xtx]) rfl (Or.inl ⟨by kernel_rfl, by intro w hSw; obtain ⟨s0, s1, s2, s3, s4, s5, s6, s7, s8, s9, s10, s11⟩ := hSw; go_simp⟩) hHeld ?_
            simp only [tkS, Act.put]
            refine wpAnyH_ready (rs := [6]) (by kernel_rfl) (by simp) ?_
            refine AllReadyH.cons rfl (fun K hK => ?_) AllReadyH.nil
            go_simp
            refine (hNX _ hB).mono ?_
            rintro e wn ⟨rfl, hbn⟩
            replace hB := below_seq hB hbn
            clear hbn
            go_wp2_with fail
            refine hK.out _ _ (HF.out _ hB) (fun hHeld => ?_)
            clear hK K
            refine tkH 7 (.bool true) rfl (Or.inl ⟨by kernel_rfl, by intro w hSw; obtain ⟨s0, s1, s2, s3, s4, s5, s6, s7, s8, s9, s10, s11⟩ := hSw; go_simp⟩) hHeld ?_
            simp only [tkS, Act.put]
            refine tkH 8 (.bool true) rfl (Or.inl ⟨by kernel_rfl, by intro w hSw; obtain ⟨s0, s1, s2, s3, s4, s5, s6, s7, s8, s9, s10, s11⟩ := hSw; go_simp⟩) hHeld ?_
            simp only [tkS, Act.put]
            refine tkH 9 (.bool true) rfl (Or.inl ⟨by kernel_rfl, by intro w hSw; obtain ⟨s0, s1, s2, s3, s4, s5, s6, s7, s8, s9, s10, s11⟩ := hSw; go_simp⟩) hHeld ?_
            simp only [tkS, Act.put]
            refine tkH 10 (undef) rfl (Or.inr ⟨by kernel_rfl, rfl⟩) hHeld ?_
            simp only [tkS, Act.put]
            refine tkH 11 (undef) rfl (Or.inr ⟨by kernel_rfl, rfl⟩) hHeld ?_
            simp only [tkS, Act.put]
            refine wpAnyH_ready (rs := [12]) (by kernel_rfl) (by simp) ?_
            refine AllReadyH.cons rfl (fun K hK => ?_) AllReadyH.nil
            go_simp
            refine hK.out _ _ (HF.out _ hB) (fun hHeld => ?_)
            clear hK K
            refine tkH 13 (undef) rfl (Or.inr ⟨by kernel_rfl, rfl⟩) hHeld ?_
            simp only [tkS, Act.put]
            refine tkH 14 (.bool true) rfl (Or.inl ⟨by kernel_rfl, by intro w hSw; obtain ⟨s0, s1, s2, s3, s4, s5, s6, s7, s8, s9, s10, s11⟩ := hSw; go_simp⟩) hHeld ?_
            simp only [tkS, Act.put]
            refine tkH 15 (.bool true) rfl (Or.inl ⟨by kernel_rfl, by intro w hSw; obtain ⟨s0, s1, s2, s3, s4, s5, s6, s7, s8, s9, s10, s11⟩ := hSw; go_simp⟩) hHeld ?_
            simp only [tkS, Act.put]
            refine tkH 16 (undef) rfl (Or.inr ⟨by kernel_rfl, rfl⟩) hHeld ?_
            simp only [tkS, Act.put]
            refine tkH 17 (undef) rfl (Or.inr ⟨by kernel_rfl, rfl⟩) hHeld ?_
            simp only [tkS, Act.put]
            refine tkH 18 (undef) rfl (Or.inr ⟨by kernel_rfl, rfl⟩) hHeld ?_
            simp only [tkS, Act.put]
            refine tkH 19 (undef) rfl (Or.inr ⟨by kernel_rfl, rfl⟩) hHeld ?_
            simp only [tkS, Act.put]
            refine tkH 20 (undef) rfl (Or.inr ⟨by kernel_rfl, rfl⟩) hHeld ?_
            simp only [tkS, Act.put]
            refine tkH 21 (undef) rfl (Or.inr ⟨by kernel_rfl, rfl⟩) hHeld ?_
            simp only [tkS, Act.put]
            refine tkH 22 (undef) rfl (Or.inr ⟨by kernel_rfl, rfl⟩) hHeld ?_
            simp only [tkS, Act.put]
            refine tkH 23 (undef) rfl (Or.inr ⟨by kernel_rfl, rfl⟩) hHeld ?_
            simp only [tkS, Act.put]
            refine tkH 24 (undef) rfl (Or.inr ⟨by kernel_rfl, rfl⟩) hHeld ?_
            simp only [tkS, Act.put]
            refine tkH 25 (undef) rfl (Or.inr ⟨by kernel_rfl, rfl⟩) hHeld ?_
            simp only [tkS, Act.put]
            refine tkH 26 (undef) rfl (Or.inr ⟨by kernel_rfl, rfl⟩) hHeld ?_
            simp only [tkS, Act.put]
            refine tkH 27 (undef) rfl (Or.inr ⟨by kernel_rfl, rfl⟩) hHeld ?_
            simp only [tkS, Act.put]
            refine tkH 28 (undef) rfl (Or.inr ⟨by kernel_rfl, rfl⟩) hHeld ?_
            simp only [tkS, Act.put]
            refine tkH 29 (.bool true) rfl (Or.inl ⟨by kernel_rfl, by intro w hSw; obtain ⟨s0, s1, s2, s3, s4, s5, s6, s7, s8, s9, s10, s11⟩ := hSw; go_simp⟩) hHeld ?_
            simp only [tkS, Act.put]
            refine wpAnyH_done (by kernel_rfl) ?_ _
            go_wp2_with fail
            go_ret2
            exact ⟨.inr ⟨HE.out, rfl⟩, (hBw.trans ((below_seq (below_alloc _ _) hB).mono hBw.size))⟩
          | true =>
            rw [hnx] at hNX
            rw [hnx, Bool.true_and] at HST
            clear hnx
            cases hsu : suitB (L.take i) (⟨xa, xs, xt, .slice da dn dc, xk, xo, xn, xu, xpt, xpa, xky, xtx, xds⟩ : Ov) with
            | false =>
              have HE : Hid (logI L = false) := HNO.out (by rw [HST.out, hsu]; rfl)
              rw [hsu] at hSU
              clear HA HST HNO HYS HPC HTK hsu
              have HF : Hid (∀ wx, Below (wr.alloc (.cells #[.int .i64 xa, .int .i64 xs, .int .i64 xt, .slice da dn dc, .int .i64 xk, .int .i64 xo, .int .i64 xn, .int .i64 xu, .int .i64 xpt, .int .i64 xpa, .string xky, .string xtx] 47)).heap.size (wr.alloc (.cells #[.int .i64 xa, .int .i64 xs, .int .i64 xt, .slice da dn dc, .int .i64 xk, .int .i64 xo, .int .i64 xn, .int .i64 xu, .int .i64 xpt, .int .i64 xpa, .string xky, .string xtx] 47)) wx → wx.cell? ⟨wr.heap.size, 0, none⟩ = some (.int .i64 xa) ∧ wx.cell? ⟨wr.heap.size, 1, none⟩ = some (.int .i64 xs) ∧ wx.cell? ⟨wr.heap.size, 2, none⟩ = some (.int .i64 xt) ∧ wx.cell? ⟨wr.heap.size, 3, none⟩ = some (.slice da dn dc) ∧ wx.cell? ⟨wr.heap.size, 4, none⟩ = some (.int .i64 xk) ∧ wx.cell? ⟨wr.heap.size, 5, none⟩ = some (.int .i64 xo) ∧ wx.cell? ⟨wr.heap.size, 6, none⟩ = some (.int .i64 xn) ∧ wx.cell? ⟨wr.heap.size, 7, none⟩ = some (.int .i64 xu) ∧ wx.cell? ⟨wr.heap.size, 8, none⟩ = some (.int .i64 xpt) ∧ wx.cell? ⟨wr.heap.size, 9, none⟩ = some (.int .i64 xpa) ∧ wx.cell? ⟨wr.heap.size, 10, none⟩ = some (.string xky) ∧ wx.cell? ⟨wr.heap.size, 11, none⟩ = some (.string xtx)) := fun wx h => by
                obtain ⟨q0, q1, q2, q3, q4, q5, q6, q7, q8, q9, q10, q11⟩ := op_cells h
                exact ⟨q0, q1, q2, q3, q4, q5, q6, q7, q8, q9, q10, q11⟩
              go_wp2_with fail
              refine wp_region_held_drew (S := fun w' => w'.cell? ⟨wr.heap.size, 0, none⟩ = some (.int .i64 xa) ∧ w'.cell? ⟨wr.heap.size, 1, none⟩ = some (.int .i64 xs) ∧ w'.cell? ⟨wr.heap.size, 2, none⟩ = some (.int .i64 xt) ∧ w'.cell? ⟨wr.heap.size, 3, none⟩ = some (.slice da dn dc) ∧ w'.cell? ⟨wr.heap.size, 4, none⟩ = some (.int .i64 xk) ∧ w'.cell? ⟨wr.heap.size, 5, none⟩ = some (.int .i64 xo) ∧ w'.cell? ⟨wr.heap.size, 6, none⟩ = some (.int .i64 xn) ∧ w'.cell? ⟨wr.heap.size, 7, none⟩ = some (.int .i64 xu) ∧ w'.cell? ⟨wr.heap.size, 8, none⟩ = some (.int .i64 xpt) ∧ w'.cell? ⟨wr.heap.size, 9, none⟩ = some (.int .i64 xpa) ∧ w'.cell? ⟨wr.heap.size, 10, none⟩ = some (.string xky) ∧ w'.cell? ⟨wr.heap.size, 11, none⟩ = some (.string xtx)) (by kernel_rfl) (HF.out _ hB) (fun hHeld => ?_)
              refine tkH 0 (.agg #[.int .i64 xa, .int .i64 xs, .int .i64 xt, .slice da dn dc, .int .i64 xk, .int .i64 xo, .int .i64 xn, .int .i64 xu, .int .i64 xpt, .int .i64 xpa, .string xky, .string xtx]) rfl (Or.inl ⟨by kernel_rfl, by intro w hSw; obtain ⟨s0, s1, s2, s3, s4, s5, s6, s7, s8, s9, s10, s11⟩ := hSw; go_simp⟩) hHeld ?_
              simp only [tkS, Act.put]
              refine wpAnyH_ready (rs := [1]) (by kernel_rfl) (by simp) ?_
              refine AllReadyH.cons rfl (fun K hK => ?_) AllReadyH.nil
              go_simp
              refine (hOK _ hB).mono ?_
              rintro e wn ⟨rfl, hbn⟩
              replace hB := below_seq hB hbn
              clear hbn
              go_wp2_with fail
              refine hK.out _ _ (HF.out _ hB) (fun hHeld => ?_)
              clear hK K
              refine tkH 2 (.bool false) rfl (Or.inl ⟨by kernel_rfl, by intro w hSw; obtain ⟨s0, s1, s2, s3, s4, s5, s6, s7, s8, s9, s10, s11⟩ := hSw; go_simp⟩) hHeld ?_
              simp only [tkS, Act.put]
              refine tkH 3 (.bool false) rfl (Or.inl ⟨by kernel_rfl, by intro w hSw; obtain ⟨s0, s1, s2, s3, s4, s5, s6, s7, s8, s9, s10, s11⟩ := hSw; go_simp⟩) hHeld ?_
              simp only [tkS, Act.put]
              refine tkH 4 (.pointer (some ⟨w.heap.size, 0, none⟩)) rfl (Or.inl ⟨by kernel_rfl, by intro w hSw; obtain ⟨s0, s1, s2, s3, s4, s5, s6, s7, s8, s9, s10, s11⟩ := hSw; go_simp⟩) hHeld ?_
              simp only [tkS, Act.put]
              refine tkH 5 (.agg #[.int .i64 xa, .int .i64 xs, .int .i64 xt, .slice da dn dc, .int .i64 xk, .int .i64 xo, .int .i64 xn, .int .i64 xu, .int .i64 xpt, .int .i64 xpa, .string xky, .string xtx]) rfl (Or.inl ⟨by kernel_rfl, by intro w hSw; obtain ⟨s0, s1, s2, s3, s4, s5, s6, s7, s8, s9, s10, s11⟩ := hSw; go_simp⟩) hHeld ?_
              simp only [tkS, Act.put]
              refine wpAnyH_ready (rs := [6]) (by kernel_rfl) (by simp) ?_
              refine AllReadyH.cons rfl (fun K hK => ?_) AllReadyH.nil
              go_simp
              refine (hNX _ hB).mono ?_
              rintro e wn ⟨rfl, hbn⟩
              replace hB := below_seq hB hbn
              clear hbn
              go_wp2_with fail
              refine hK.out _ _ (HF.out _ hB) (fun hHeld => ?_)
              clear hK K
              refine tkH 7 (.bool false) rfl (Or.inl ⟨by kernel_rfl, by intro w hSw; obtain ⟨s0, s1, s2, s3, s4, s5, s6, s7, s8, s9, s10, s11⟩ := hSw; go_simp⟩) hHeld ?_
              simp only [tkS, Act.put]
              refine tkH 8 (.bool false) rfl (Or.inl ⟨by kernel_rfl, by intro w hSw; obtain ⟨s0, s1, s2, s3, s4, s5, s6, s7, s8, s9, s10, s11⟩ := hSw; go_simp⟩) hHeld ?_
              simp only [tkS, Act.put]
              refine tkH 9 (.bool false) rfl (Or.inl ⟨by kernel_rfl, by intro w hSw; obtain ⟨s0, s1, s2, s3, s4, s5, s6, s7, s8, s9, s10, s11⟩ := hSw; go_simp⟩) hHeld ?_
              simp only [tkS, Act.put]
              refine tkH 10 (.pointer (some ⟨w.heap.size, 0, none⟩)) rfl (Or.inl ⟨by kernel_rfl, by intro w hSw; obtain ⟨s0, s1, s2, s3, s4, s5, s6, s7, s8, s9, s10, s11⟩ := hSw; go_simp⟩) hHeld ?_
              simp only [tkS, Act.put]
              refine tkH 11 (.agg #[.int .i64 xa, .int .i64 xs, .int .i64 xt, .slice da dn dc, .int .i64 xk, .int .i64 xo, .int .i64 xn, .int .i64 xu, .int .i64 xpt, .int .i64 xpa, .string xky, .string xtx]) rfl (Or.inl ⟨by kernel_rfl, by intro w hSw; obtain ⟨s0, s1, s2, s3, s4, s5, s6, s7, s8, s9, s10, s11⟩ := hSw; go_simp⟩) hHeld ?_
              simp only [tkS, Act.put]
              refine wpAnyH_ready (rs := [12]) (by kernel_rfl) (by simp) ?_
              refine AllReadyH.cons rfl (fun K hK => ?_) AllReadyH.nil
              go_simp
              refine (hSU _ hB).mono ?_
              rintro e wn ⟨rfl, hbn⟩
              replace hB := below_seq hB hbn
              clear hbn
              go_wp2_with fail
              refine hK.out _ _ (HF.out _ hB) (fun hHeld => ?_)
              clear hK K
              refine tkH 13 (.bool true) rfl (Or.inl ⟨by kernel_rfl, by intro w hSw; obtain ⟨s0, s1, s2, s3, s4, s5, s6, s7, s8, s9, s10, s11⟩ := hSw; go_simp⟩) hHeld ?_
              simp only [tkS, Act.put]
              refine tkH 14 (.bool true) rfl (Or.inl ⟨by kernel_rfl, by intro w hSw; obtain ⟨s0, s1, s2, s3, s4, s5, s6, s7, s8, s9, s10, s11⟩ := hSw; go_simp⟩) hHeld ?_
              simp only [tkS, Act.put]
              refine tkH 15 (.bool true) rfl (Or.inl ⟨by kernel_rfl, by intro w hSw; obtain ⟨s0, s1, s2, s3, s4, s5, s6, s7, s8, s9, s10, s11⟩ := hSw; go_simp⟩) hHeld ?_
              simp only [tkS, Act.put]
              refine tkH 16 (undef) rfl (Or.inr ⟨by kernel_rfl, rfl⟩) hHeld ?_
              simp only [tkS, Act.put]
              refine tkH 17 (undef) rfl (Or.inr ⟨by kernel_rfl, rfl⟩) hHeld ?_
              simp only [tkS, Act.put]
              refine tkH 18 (undef) rfl (Or.inr ⟨by kernel_rfl, rfl⟩) hHeld ?_
              simp only [tkS, Act.put]
              refine tkH 19 (undef) rfl (Or.inr ⟨by kernel_rfl, rfl⟩) hHeld ?_
              simp only [tkS, Act.put]
              refine tkH 20 (undef) rfl (Or.inr ⟨by kernel_rfl, rfl⟩) hHeld ?_
              simp only [tkS, Act.put]
              refine tkH 21 (undef) rfl (Or.inr ⟨by kernel_rfl, rfl⟩) hHeld ?_
              simp only [tkS, Act.put]
              refine tkH 22 (undef) rfl (Or.inr ⟨by kernel_rfl, rfl⟩) hHeld ?_
              simp only [tkS, Act.put]
              refine tkH 23 (undef) rfl (Or.inr ⟨by kernel_rfl, rfl⟩) hHeld ?_
              simp only [tkS, Act.put]
              refine tkH 24 (undef) rfl (Or.inr ⟨by kernel_rfl, rfl⟩) hHeld ?_
              simp only [tkS, Act.put]
              refine tkH 25 (undef) rfl (Or.inr ⟨by kernel_rfl, rfl⟩) hHeld ?_
              simp only [tkS, Act.put]
              refine tkH 26 (undef) rfl (Or.inr ⟨by kernel_rfl, rfl⟩) hHeld ?_
              simp only [tkS, Act.put]
              refine tkH 27 (undef) rfl (Or.inr ⟨by kernel_rfl, rfl⟩) hHeld ?_
              simp only [tkS, Act.put]
              refine tkH 28 (undef) rfl (Or.inr ⟨by kernel_rfl, rfl⟩) hHeld ?_
              simp only [tkS, Act.put]
              refine tkH 29 (.bool true) rfl (Or.inl ⟨by kernel_rfl, by intro w hSw; obtain ⟨s0, s1, s2, s3, s4, s5, s6, s7, s8, s9, s10, s11⟩ := hSw; go_simp⟩) hHeld ?_
              simp only [tkS, Act.put]
              refine wpAnyH_done (by kernel_rfl) ?_ _
              go_wp2_with fail
              go_ret2
              exact ⟨.inr ⟨HE.out, rfl⟩, (hBw.trans ((below_seq (below_alloc _ _) hB).mono hBw.size))⟩
            | true =>
              rw [hsu] at hSU
              rw [hsu, Bool.true_and] at HST
              clear hsu
              by_cases hi0 : i = 0
              · have hi1 : ¬ (0 : Int) < (i : Int) := by omega
                have HE := HYS.out (by rw [HST.out]; exact decide_eq_true (fun h => absurd h (by omega)))
                have HI0 : Hid (i = 0) := hi0
                clear hi0 hi1
                clear HA HST HNO HYS HPC
                have HF : Hid (∀ wx, Below (wr.alloc (.cells #[.int .i64 xa, .int .i64 xs, .int .i64 xt, .slice da dn dc, .int .i64 xk, .int .i64 xo, .int .i64 xn, .int .i64 xu, .int .i64 xpt, .int .i64 xpa, .string xky, .string xtx] 47)).heap.size (wr.alloc (.cells #[.int .i64 xa, .int .i64 xs, .int .i64 xt, .slice da dn dc, .int .i64 xk, .int .i64 xo, .int .i64 xn, .int .i64 xu, .int .i64 xpt, .int .i64 xpa, .string xky, .string xtx] 47)) wx → wx.cell? ⟨wr.heap.size, 0, none⟩ = some (.int .i64 xa) ∧ wx.cell? ⟨wr.heap.size, 1, none⟩ = some (.int .i64 xs) ∧ wx.cell? ⟨wr.heap.size, 2, none⟩ = some (.int .i64 xt) ∧ wx.cell? ⟨wr.heap.size, 3, none⟩ = some (.slice da dn dc) ∧ wx.cell? ⟨wr.heap.size, 4, none⟩ = some (.int .i64 xk) ∧ wx.cell? ⟨wr.heap.size, 5, none⟩ = some (.int .i64 xo) ∧ wx.cell? ⟨wr.heap.size, 6, none⟩ = some (.int .i64 xn) ∧ wx.cell? ⟨wr.heap.size, 7, none⟩ = some (.int .i64 xu) ∧ wx.cell? ⟨wr.heap.size, 8, none⟩ = some (.int .i64 xpt) ∧ wx.cell? ⟨wr.heap.size, 9, none⟩ = some (.int .i64 xpa) ∧ wx.cell? ⟨wr.heap.size, 10, none⟩ = some (.string xky) ∧ wx.cell? ⟨wr.heap.size, 11, none⟩ = some (.string xtx)) := fun wx h => by
                  obtain ⟨q0, q1, q2, q3, q4, q5, q6, q7, q8, q9, q10, q11⟩ := op_cells h
                  exact ⟨q0, q1, q2, q3, q4, q5, q6, q7, q8, q9, q10, q11⟩
                go_wp2_with fail
                refine wp_region_held_drew (S := fun w' => w'.cell? ⟨wr.heap.size, 0, none⟩ = some (.int .i64 xa) ∧ w'.cell? ⟨wr.heap.size, 1, none⟩ = some (.int .i64 xs) ∧ w'.cell? ⟨wr.heap.size, 2, none⟩ = some (.int .i64 xt) ∧ w'.cell? ⟨wr.heap.size, 3, none⟩ = some (.slice da dn dc) ∧ w'.cell? ⟨wr.heap.size, 4, none⟩ = some (.int .i64 xk) ∧ w'.cell? ⟨wr.heap.size, 5, none⟩ = some (.int .i64 xo) ∧ w'.cell? ⟨wr.heap.size, 6, none⟩ = some (.int .i64 xn) ∧ w'.cell? ⟨wr.heap.size, 7, none⟩ = some (.int .i64 xu) ∧ w'.cell? ⟨wr.heap.size, 8, none⟩ = some (.int .i64 xpt) ∧ w'.cell? ⟨wr.heap.size, 9, none⟩ = some (.int .i64 xpa) ∧ w'.cell? ⟨wr.heap.size, 10, none⟩ = some (.string xky) ∧ w'.cell? ⟨wr.heap.size, 11, none⟩ = some (.string xtx)) (by kernel_rfl) (HF.out _ hB) (fun hHeld => ?_)
                refine tkH 0 (.agg #[.int .i64 xa, .int .i64 xs, .int .i64 xt, .slice da dn dc, .int .i64 xk, .int .i64 xo, .int .i64 xn, .int .i64 xu, .int .i64 xpt, .int .i64 xpa, .string xky, .string xtx]) rfl (Or.inl ⟨by kernel_rfl, by intro w hSw; obtain ⟨s0, s1, s2, s3, s4, s5, s6, s7, s8, s9, s10, s11⟩ := hSw; go_simp⟩) hHeld ?_
                simp only [tkS, Act.put]
                refine wpAnyH_ready (rs := [1]) (by kernel_rfl) (by simp) ?_
                refine AllReadyH.cons rfl (fun K hK => ?_) AllReadyH.nil
                go_simp
                refine (hOK _ hB).mono ?_
                rintro e wn ⟨rfl, hbn⟩
                replace hB := below_seq hB hbn
                clear hbn
                go_wp2_with fail
                refine hK.out _ _ (HF.out _ hB) (fun hHeld => ?_)
                clear hK K
                refine tkH 2 (.bool false) rfl (Or.inl ⟨by kernel_rfl, by intro w hSw; obtain ⟨s0, s1, s2, s3, s4, s5, s6, s7, s8, s9, s10, s11⟩ := hSw; go_simp⟩) hHeld ?_
                simp only [tkS, Act.put]
                refine tkH 3 (.bool false) rfl (Or.inl ⟨by kernel_rfl, by intro w hSw; obtain ⟨s0, s1, s2, s3, s4, s5, s6, s7, s8, s9, s10, s11⟩ := hSw; go_simp⟩) hHeld ?_
                simp only [tkS, Act.put]
                refine tkH 4 (.pointer (some ⟨w.heap.size, 0, none⟩)) rfl (Or.inl ⟨by kernel_rfl, by intro w hSw; obtain ⟨s0, s1, s2, s3, s4, s5, s6, s7, s8, s9, s10, s11⟩ := hSw; go_simp⟩) hHeld ?_
                simp only [tkS, Act.put]
                refine tkH 5 (.agg #[.int .i64 xa, .int .i64 xs, .int .i64 xt, .slice da dn dc, .int .i64 xk, .int .i64 xo, .int .i64 xn, .int .i64 xu, .int .i64 xpt, .int .i64 xpa, .string xky, .string xtx]) rfl (Or.inl ⟨by kernel_rfl, by intro w hSw; obtain ⟨s0, s1, s2, s3, s4, s5, s6, s7, s8, s9, s10, s11⟩ := hSw; go_simp⟩) hHeld ?_
                simp only [tkS, Act.put]
                refine wpAnyH_ready (rs := [6]) (by kernel_rfl) (by simp) ?_
                refine AllReadyH.cons rfl (fun K hK => ?_) AllReadyH.nil
                go_simp
                refine (hNX _ hB).mono ?_
                rintro e wn ⟨rfl, hbn⟩
                replace hB := below_seq hB hbn
                clear hbn
                go_wp2_with fail
                refine hK.out _ _ (HF.out _ hB) (fun hHeld => ?_)
                clear hK K
                refine tkH 7 (.bool false) rfl (Or.inl ⟨by kernel_rfl, by intro w hSw; obtain ⟨s0, s1, s2, s3, s4, s5, s6, s7, s8, s9, s10, s11⟩ := hSw; go_simp⟩) hHeld ?_
                simp only [tkS, Act.put]
                refine tkH 8 (.bool false) rfl (Or.inl ⟨by kernel_rfl, by intro w hSw; obtain ⟨s0, s1, s2, s3, s4, s5, s6, s7, s8, s9, s10, s11⟩ := hSw; go_simp⟩) hHeld ?_
                simp only [tkS, Act.put]
                refine tkH 9 (.bool false) rfl (Or.inl ⟨by kernel_rfl, by intro w hSw; obtain ⟨s0, s1, s2, s3, s4, s5, s6, s7, s8, s9, s10, s11⟩ := hSw; go_simp⟩) hHeld ?_
                simp only [tkS, Act.put]
                refine tkH 10 (.pointer (some ⟨w.heap.size, 0, none⟩)) rfl (Or.inl ⟨by kernel_rfl, by intro w hSw; obtain ⟨s0, s1, s2, s3, s4, s5, s6, s7, s8, s9, s10, s11⟩ := hSw; go_simp⟩) hHeld ?_
                simp only [tkS, Act.put]
                refine tkH 11 (.agg #[.int .i64 xa, .int .i64 xs, .int .i64 xt, .slice da dn dc, .int .i64 xk, .int .i64 xo, .int .i64 xn, .int .i64 xu, .int .i64 xpt, .int .i64 xpa, .string xky, .string xtx]) rfl (Or.inl ⟨by kernel_rfl, by intro w hSw; obtain ⟨s0, s1, s2, s3, s4, s5, s6, s7, s8, s9, s10, s11⟩ := hSw; go_simp⟩) hHeld ?_
                simp only [tkS, Act.put]
                refine wpAnyH_ready (rs := [12]) (by kernel_rfl) (by simp) ?_
                refine AllReadyH.cons rfl (fun K hK => ?_) AllReadyH.nil
                go_simp
                refine (hSU _ hB).mono ?_
                rintro e wn ⟨rfl, hbn⟩
                replace hB := below_seq hB hbn
                clear hbn
                go_wp2_with fail
                refine hK.out _ _ (HF.out _ hB) (fun hHeld => ?_)
                clear hK K
                refine tkH 13 (.bool false) rfl (Or.inl ⟨by kernel_rfl, by intro w hSw; obtain ⟨s0, s1, s2, s3, s4, s5, s6, s7, s8, s9, s10, s11⟩ := hSw; go_simp⟩) hHeld ?_
                simp only [tkS, Act.put]
                refine tkH 14 (.bool false) rfl (Or.inl ⟨by kernel_rfl, by intro w hSw; obtain ⟨s0, s1, s2, s3, s4, s5, s6, s7, s8, s9, s10, s11⟩ := hSw; go_simp⟩) hHeld ?_
                simp only [tkS, Act.put]
                refine tkH 15 (.bool false) rfl (Or.inl ⟨by kernel_rfl, by intro w hSw; obtain ⟨s0, s1, s2, s3, s4, s5, s6, s7, s8, s9, s10, s11⟩ := hSw; go_simp⟩) hHeld ?_
                simp only [tkS, Act.put]
                refine tkH 16 (.int .i64 ((i : Int))) rfl (Or.inl ⟨by kernel_rfl, by intro w hSw; obtain ⟨s0, s1, s2, s3, s4, s5, s6, s7, s8, s9, s10, s11⟩ := hSw; go_simp⟩) hHeld ?_
                simp only [tkS, Act.put]
                refine tkH 17 (.bool false) rfl (Or.inl ⟨by kernel_rfl, by intro w hSw; obtain ⟨s0, s1, s2, s3, s4, s5, s6, s7, s8, s9, s10, s11⟩ := hSw; go_simp; exact HI0.out⟩) hHeld ?_
                simp only [tkS, Act.put]
                refine tkH 18 (.bool false) rfl (Or.inl ⟨by kernel_rfl, by intro w hSw; obtain ⟨s0, s1, s2, s3, s4, s5, s6, s7, s8, s9, s10, s11⟩ := hSw; go_simp⟩) hHeld ?_
                simp only [tkS, Act.put]
                refine tkH 19 (undef) rfl (Or.inr ⟨by kernel_rfl, rfl⟩) hHeld ?_
                simp only [tkS, Act.put]
                refine tkH 20 (undef) rfl (Or.inr ⟨by kernel_rfl, rfl⟩) hHeld ?_
                simp only [tkS, Act.put]
                refine tkH 21 (undef) rfl (Or.inr ⟨by kernel_rfl, rfl⟩) hHeld ?_
                simp only [tkS, Act.put]
                refine tkH 22 (undef) rfl (Or.inr ⟨by kernel_rfl, rfl⟩) hHeld ?_
                simp only [tkS, Act.put]
                refine tkH 23 (undef) rfl (Or.inr ⟨by kernel_rfl, rfl⟩) hHeld ?_
                simp only [tkS, Act.put]
                refine tkH 24 (undef) rfl (Or.inr ⟨by kernel_rfl, rfl⟩) hHeld ?_
                simp only [tkS, Act.put]
                refine tkH 25 (undef) rfl (Or.inr ⟨by kernel_rfl, rfl⟩) hHeld ?_
                simp only [tkS, Act.put]
                refine tkH 26 (undef) rfl (Or.inr ⟨by kernel_rfl, rfl⟩) hHeld ?_
                simp only [tkS, Act.put]
                refine tkH 27 (undef) rfl (Or.inr ⟨by kernel_rfl, rfl⟩) hHeld ?_
                simp only [tkS, Act.put]
                refine tkH 28 (.bool false) rfl (Or.inl ⟨by kernel_rfl, by intro w hSw; obtain ⟨s0, s1, s2, s3, s4, s5, s6, s7, s8, s9, s10, s11⟩ := hSw; go_simp⟩) hHeld ?_
                simp only [tkS, Act.put]
                refine tkH 29 (.bool false) rfl (Or.inl ⟨by kernel_rfl, by intro w hSw; obtain ⟨s0, s1, s2, s3, s4, s5, s6, s7, s8, s9, s10, s11⟩ := hSw; go_simp⟩) hHeld ?_
                simp only [tkS, Act.put]
                refine wpAnyH_done (by kernel_rfl) ?_ _
                obtain ⟨q0, q1, q2, q3, q4, q5, q6, q7, q8, q9, q10, q11⟩ := HF.out _ hB
                go_wp2_with fail
                refine (hPUT _ hB).mono ?_
                rintro e w9 ⟨rfl, ⟨vs9, hL9⟩, hb9⟩
                have hBw9 := hBw.trans (((below_seq (below_alloc _ _) hB).mono hBw.size).trans (hb9.mono (Nat.le_refl _)))
                clear hB HF hOK hNX hSU hPUT q0 q1 q2 q3 q4 q5 q6 q7 q8 q9 q10 q11 hb9
                go_wp2_with fail
                go_roundw
                case rel => exact ⟨i + 1, vs9, by omega, by go_num, HTK.out ▸ hL9, hBw9, HE⟩
                case measure => simp [intOf]; omega
              · obtain ⟨i, rfl⟩ : ∃ i', i = i' + 1 := ⟨i - 1, by omega⟩
                have hpc := HPC.out i rfl
                rw [show i + 1 - 1 = i by omega] at HST
                generalize (ovAt L i).a = pa0 at hpc HST
                have hw6 : IntKind.i64.wrap (i : Int) = (i : Int) := by rw [IntKind.wrap_i64]; omega
                have hii : (i : Int) < (L.length : Int) := by omega
                by_cases hgt : xa < pa0
                · have HE : Hid (logI L = false) := HNO.out (by rw [HST.out]; exact decide_eq_false (fun h => by have := h (by omega); omega))
                  clear HA HST HNO HYS HPC HTK
                  have HF : Hid (∀ wx, Below (wr.alloc (.cells #[.int .i64 xa, .int .i64 xs, .int .i64 xt, .slice da dn dc, .int .i64 xk, .int .i64 xo, .int .i64 xn, .int .i64 xu, .int .i64 xpt, .int .i64 xpa, .string xky, .string xtx] 47)).heap.size (wr.alloc (.cells #[.int .i64 xa, .int .i64 xs, .int .i64 xt, .slice da dn dc, .int .i64 xk, .int .i64 xo, .int .i64 xn, .int .i64 xu, .int .i64 xpt, .int .i64 xpa, .string xky, .string xtx] 47)) wx → wx.cell? ⟨wr.heap.size, 0, none⟩ = some (.int .i64 xa) ∧ wx.cell? ⟨wr.heap.size, 1, none⟩ = some (.int .i64 xs) ∧ wx.cell? ⟨wr.heap.size, 2, none⟩ = some (.int .i64 xt) ∧ wx.cell? ⟨wr.heap.size, 3, none⟩ = some (.slice da dn dc) ∧ wx.cell? ⟨wr.heap.size, 4, none⟩ = some (.int .i64 xk) ∧ wx.cell? ⟨wr.heap.size, 5, none⟩ = some (.int .i64 xo) ∧ wx.cell? ⟨wr.heap.size, 6, none⟩ = some (.int .i64 xn) ∧ wx.cell? ⟨wr.heap.size, 7, none⟩ = some (.int .i64 xu) ∧ wx.cell? ⟨wr.heap.size, 8, none⟩ = some (.int .i64 xpt) ∧ wx.cell? ⟨wr.heap.size, 9, none⟩ = some (.int .i64 xpa) ∧ wx.cell? ⟨wr.heap.size, 10, none⟩ = some (.string xky) ∧ wx.cell? ⟨wr.heap.size, 11, none⟩ = some (.string xtx) ∧ wx.cell? ⟨g, off + i * 12, none⟩ = some (.int .i64 pa0)) := fun wx h => by
                    obtain ⟨q0, q1, q2, q3, q4, q5, q6, q7, q8, q9, q10, q11⟩ := op_cells h
                    exact ⟨q0, q1, q2, q3, q4, q5, q6, q7, q8, q9, q10, q11, ((below_seq (below_alloc wr _) h).cell (p := ⟨g, off + i * 12, none⟩) (by show g < wr.heap.size; omega)).trans hpc⟩
                  go_wp2_with fail
                  refine wp_region_held_drew (S := fun w' => w'.cell? ⟨wr.heap.size, 0, none⟩ = some (.int .i64 xa) ∧ w'.cell? ⟨wr.heap.size, 1, none⟩ = some (.int .i64 xs) ∧ w'.cell? ⟨wr.heap.size, 2, none⟩ = some (.int .i64 xt) ∧ w'.cell? ⟨wr.heap.size, 3, none⟩ = some (.slice da dn dc) ∧ w'.cell? ⟨wr.heap.size, 4, none⟩ = some (.int .i64 xk) ∧ w'.cell? ⟨wr.heap.size, 5, none⟩ = some (.int .i64 xo) ∧ w'.cell? ⟨wr.heap.size, 6, none⟩ = some (.int .i64 xn) ∧ w'.cell? ⟨wr.heap.size, 7, none⟩ = some (.int .i64 xu) ∧ w'.cell? ⟨wr.heap.size, 8, none⟩ = some (.int .i64 xpt) ∧ w'.cell? ⟨wr.heap.size, 9, none⟩ = some (.int .i64 xpa) ∧ w'.cell? ⟨wr.heap.size, 10, none⟩ = some (.string xky) ∧ w'.cell? ⟨wr.heap.size, 11, none⟩ = some (.string xtx) ∧ w'.cell? ⟨g, off + i * 12, none⟩ = some (.int .i64 pa0)) (by kernel_rfl) (HF.out _ hB) (fun hHeld => ?_)
                  refine tkH 0 (.agg #[.int .i64 xa, .int .i64 xs, .int .i64 xt, .slice da dn dc, .int .i64 xk, .int .i64 xo, .int .i64 xn, .int .i64 xu, .int .i64 xpt, .int .i64 xpa, .string xky, .string xtx]) rfl (Or.inl ⟨by kernel_rfl, by intro w hSw; obtain ⟨s0, s1, s2, s3, s4, s5, s6, s7, s8, s9, s10, s11, s12⟩ := hSw; go_simp⟩) hHeld ?_
                  simp only [tkS, Act.put]
                  refine wpAnyH_ready (rs := [1]) (by kernel_rfl) (by simp) ?_
                  refine AllReadyH.cons rfl (fun K hK => ?_) AllReadyH.nil
                  go_simp
                  refine (hOK _ hB).mono ?_
                  rintro e wn ⟨rfl, hbn⟩
                  replace hB := below_seq hB hbn
                  clear hbn
                  go_wp2_with fail
                  refine hK.out _ _ (HF.out _ hB) (fun hHeld => ?_)
                  clear hK K
                  refine tkH 2 (.bool false) rfl (Or.inl ⟨by kernel_rfl, by intro w hSw; obtain ⟨s0, s1, s2, s3, s4, s5, s6, s7, s8, s9, s10, s11, s12⟩ := hSw; go_simp⟩) hHeld ?_
                  simp only [tkS, Act.put]
                  refine tkH 3 (.bool false) rfl (Or.inl ⟨by kernel_rfl, by intro w hSw; obtain ⟨s0, s1, s2, s3, s4, s5, s6, s7, s8, s9, s10, s11, s12⟩ := hSw; go_simp⟩) hHeld ?_
                  simp only [tkS, Act.put]
                  refine tkH 4 (.pointer (some ⟨w.heap.size, 0, none⟩)) rfl (Or.inl ⟨by kernel_rfl, by intro w hSw; obtain ⟨s0, s1, s2, s3, s4, s5, s6, s7, s8, s9, s10, s11, s12⟩ := hSw; go_simp⟩) hHeld ?_
                  simp only [tkS, Act.put]
                  refine tkH 5 (.agg #[.int .i64 xa, .int .i64 xs, .int .i64 xt, .slice da dn dc, .int .i64 xk, .int .i64 xo, .int .i64 xn, .int .i64 xu, .int .i64 xpt, .int .i64 xpa, .string xky, .string xtx]) rfl (Or.inl ⟨by kernel_rfl, by intro w hSw; obtain ⟨s0, s1, s2, s3, s4, s5, s6, s7, s8, s9, s10, s11, s12⟩ := hSw; go_simp⟩) hHeld ?_
                  simp only [tkS, Act.put]
                  refine wpAnyH_ready (rs := [6]) (by kernel_rfl) (by simp) ?_
                  refine AllReadyH.cons rfl (fun K hK => ?_) AllReadyH.nil
                  go_simp
                  refine (hNX _ hB).mono ?_
                  rintro e wn ⟨rfl, hbn⟩
                  replace hB := below_seq hB hbn
                  clear hbn
                  go_wp2_with fail
                  refine hK.out _ _ (HF.out _ hB) (fun hHeld => ?_)
                  clear hK K
                  refine tkH 7 (.bool false) rfl (Or.inl ⟨by kernel_rfl, by intro w hSw; obtain ⟨s0, s1, s2, s3, s4, s5, s6, s7, s8, s9, s10, s11, s12⟩ := hSw; go_simp⟩) hHeld ?_
                  simp only [tkS, Act.put]
                  refine tkH 8 (.bool false) rfl (Or.inl ⟨by kernel_rfl, by intro w hSw; obtain ⟨s0, s1, s2, s3, s4, s5, s6, s7, s8, s9, s10, s11, s12⟩ := hSw; go_simp⟩) hHeld ?_
                  simp only [tkS, Act.put]
                  refine tkH 9 (.bool false) rfl (Or.inl ⟨by kernel_rfl, by intro w hSw; obtain ⟨s0, s1, s2, s3, s4, s5, s6, s7, s8, s9, s10, s11, s12⟩ := hSw; go_simp⟩) hHeld ?_
                  simp only [tkS, Act.put]
                  refine tkH 10 (.pointer (some ⟨w.heap.size, 0, none⟩)) rfl (Or.inl ⟨by kernel_rfl, by intro w hSw; obtain ⟨s0, s1, s2, s3, s4, s5, s6, s7, s8, s9, s10, s11, s12⟩ := hSw; go_simp⟩) hHeld ?_
                  simp only [tkS, Act.put]
                  refine tkH 11 (.agg #[.int .i64 xa, .int .i64 xs, .int .i64 xt, .slice da dn dc, .int .i64 xk, .int .i64 xo, .int .i64 xn, .int .i64 xu, .int .i64 xpt, .int .i64 xpa, .string xky, .string xtx]) rfl (Or.inl ⟨by kernel_rfl, by intro w hSw; obtain ⟨s0, s1, s2, s3, s4, s5, s6, s7, s8, s9, s10, s11, s12⟩ := hSw; go_simp⟩) hHeld ?_
                  simp only [tkS, Act.put]
                  refine wpAnyH_ready (rs := [12]) (by kernel_rfl) (by simp) ?_
                  refine AllReadyH.cons rfl (fun K hK => ?_) AllReadyH.nil
                  go_simp
                  refine (hSU _ hB).mono ?_
                  rintro e wn ⟨rfl, hbn⟩
                  replace hB := below_seq hB hbn
                  clear hbn
                  go_wp2_with fail
                  refine hK.out _ _ (HF.out _ hB) (fun hHeld => ?_)
                  clear hK K
                  refine tkH 13 (.bool false) rfl (Or.inl ⟨by kernel_rfl, by intro w hSw; obtain ⟨s0, s1, s2, s3, s4, s5, s6, s7, s8, s9, s10, s11, s12⟩ := hSw; go_simp⟩) hHeld ?_
                  simp only [tkS, Act.put]
                  refine tkH 14 (.bool false) rfl (Or.inl ⟨by kernel_rfl, by intro w hSw; obtain ⟨s0, s1, s2, s3, s4, s5, s6, s7, s8, s9, s10, s11, s12⟩ := hSw; go_simp⟩) hHeld ?_
                  simp only [tkS, Act.put]
                  refine tkH 15 (.bool false) rfl (Or.inl ⟨by kernel_rfl, by intro w hSw; obtain ⟨s0, s1, s2, s3, s4, s5, s6, s7, s8, s9, s10, s11, s12⟩ := hSw; go_simp⟩) hHeld ?_
                  simp only [tkS, Act.put]
                  refine tkH 16 (.int .i64 (((i + 1 : Nat) : Int))) rfl (Or.inl ⟨by kernel_rfl, by intro w hSw; obtain ⟨s0, s1, s2, s3, s4, s5, s6, s7, s8, s9, s10, s11, s12⟩ := hSw; go_simp⟩) hHeld ?_
                  simp only [tkS, Act.put]
                  refine tkH 17 (.bool true) rfl (Or.inl ⟨by kernel_rfl, by intro w hSw; obtain ⟨s0, s1, s2, s3, s4, s5, s6, s7, s8, s9, s10, s11, s12⟩ := hSw; go_simp⟩) hHeld ?_
                  simp only [tkS, Act.put]
                  refine tkH 18 (.bool true) rfl (Or.inl ⟨by kernel_rfl, by intro w hSw; obtain ⟨s0, s1, s2, s3, s4, s5, s6, s7, s8, s9, s10, s11, s12⟩ := hSw; go_simp⟩) hHeld ?_
                  simp only [tkS, Act.put]
                  refine tkH 19 (.slice (some ⟨g, off, none⟩) L.length cap) rfl (Or.inl ⟨by kernel_rfl, by intro w hSw; obtain ⟨s0, s1, s2, s3, s4, s5, s6, s7, s8, s9, s10, s11, s12⟩ := hSw; go_simp⟩) hHeld ?_
                  simp only [tkS, Act.put]
                  refine tkH 20 (.int .i64 (((i + 1 : Nat) : Int))) rfl (Or.inl ⟨by kernel_rfl, by intro w hSw; obtain ⟨s0, s1, s2, s3, s4, s5, s6, s7, s8, s9, s10, s11, s12⟩ := hSw; go_simp⟩) hHeld ?_
                  simp only [tkS, Act.put]
                  refine tkH 21 (.int .i64 ((i : Int))) rfl (Or.inl ⟨by kernel_rfl, by intro w hSw; obtain ⟨s0, s1, s2, s3, s4, s5, s6, s7, s8, s9, s10, s11, s12⟩ := hSw; go_simp⟩) hHeld ?_
                  simp only [tkS, Act.put]
                  refine tkH 22 (.pointer (some ⟨g, off + i * 12, none⟩)) rfl (Or.inl ⟨by kernel_rfl, by intro w hSw; obtain ⟨s0, s1, s2, s3, s4, s5, s6, s7, s8, s9, s10, s11, s12⟩ := hSw; go_simp⟩) hHeld ?_
                  simp only [tkS, Act.put]
                  refine tkH 23 (.pointer (some ⟨g, off + i * 12, none⟩)) rfl (Or.inl ⟨by kernel_rfl, by intro w hSw; obtain ⟨s0, s1, s2, s3, s4, s5, s6, s7, s8, s9, s10, s11, s12⟩ := hSw; go_simp⟩) hHeld ?_
                  simp only [tkS, Act.put]
                  refine tkH 24 (.int .i64 pa0) rfl (Or.inl ⟨by kernel_rfl, by intro w hSw; obtain ⟨s0, s1, s2, s3, s4, s5, s6, s7, s8, s9, s10, s11, s12⟩ := hSw; go_simp⟩) hHeld ?_
                  simp only [tkS, Act.put]
                  refine tkH 25 (.pointer (some ⟨wr.heap.size, 0, none⟩)) rfl (Or.inl ⟨by kernel_rfl, by intro w hSw; obtain ⟨s0, s1, s2, s3, s4, s5, s6, s7, s8, s9, s10, s11, s12⟩ := hSw; go_simp⟩) hHeld ?_
                  simp only [tkS, Act.put]
                  refine tkH 26 (.int .i64 xa) rfl (Or.inl ⟨by kernel_rfl, by intro w hSw; obtain ⟨s0, s1, s2, s3, s4, s5, s6, s7, s8, s9, s10, s11, s12⟩ := hSw; go_simp⟩) hHeld ?_
                  simp only [tkS, Act.put]
                  refine tkH 27 (.bool true) rfl (Or.inl ⟨by kernel_rfl, by intro w hSw; obtain ⟨s0, s1, s2, s3, s4, s5, s6, s7, s8, s9, s10, s11, s12⟩ := hSw; go_simp⟩) hHeld ?_
                  simp only [tkS, Act.put]
                  refine tkH 28 (.bool true) rfl (Or.inl ⟨by kernel_rfl, by intro w hSw; obtain ⟨s0, s1, s2, s3, s4, s5, s6, s7, s8, s9, s10, s11, s12⟩ := hSw; go_simp⟩) hHeld ?_
                  simp only [tkS, Act.put]
                  refine tkH 29 (.bool true) rfl (Or.inl ⟨by kernel_rfl, by intro w hSw; obtain ⟨s0, s1, s2, s3, s4, s5, s6, s7, s8, s9, s10, s11, s12⟩ := hSw; go_simp⟩) hHeld ?_
                  simp only [tkS, Act.put]
                  refine wpAnyH_done (by kernel_rfl) ?_ _
                  go_wp2_with fail
                  go_ret2
                  exact ⟨.inr ⟨HE.out, rfl⟩, (hBw.trans ((below_seq (below_alloc _ _) hB).mono hBw.size))⟩
                · have HE := HYS.out (by rw [HST.out]; exact decide_eq_true (fun _ => by omega))
                  clear HA HST HNO HYS HPC
                  have HF : Hid (∀ wx, Below (wr.alloc (.cells #[.int .i64 xa, .int .i64 xs, .int .i64 xt, .slice da dn dc, .int .i64 xk, .int .i64 xo, .int .i64 xn, .int .i64 xu, .int .i64 xpt, .int .i64 xpa, .string xky, .string xtx] 47)).heap.size (wr.alloc (.cells #[.int .i64 xa, .int .i64 xs, .int .i64 xt, .slice da dn dc, .int .i64 xk, .int .i64 xo, .int .i64 xn, .int .i64 xu, .int .i64 xpt, .int .i64 xpa, .string xky, .string xtx] 47)) wx → wx.cell? ⟨wr.heap.size, 0, none⟩ = some (.int .i64 xa) ∧ wx.cell? ⟨wr.heap.size, 1, none⟩ = some (.int .i64 xs) ∧ wx.cell? ⟨wr.heap.size, 2, none⟩ = some (.int .i64 xt) ∧ wx.cell? ⟨wr.heap.size, 3, none⟩ = some (.slice da dn dc) ∧ wx.cell? ⟨wr.heap.size, 4, none⟩ = some (.int .i64 xk) ∧ wx.cell? ⟨wr.heap.size, 5, none⟩ = some (.int .i64 xo) ∧ wx.cell? ⟨wr.heap.size, 6, none⟩ = some (.int .i64 xn) ∧ wx.cell? ⟨wr.heap.size, 7, none⟩ = some (.int .i64 xu) ∧ wx.cell? ⟨wr.heap.size, 8, none⟩ = some (.int .i64 xpt) ∧ wx.cell? ⟨wr.heap.size, 9, none⟩ = some (.int .i64 xpa) ∧ wx.cell? ⟨wr.heap.size, 10, none⟩ = some (.string xky) ∧ wx.cell? ⟨wr.heap.size, 11, none⟩ = some (.string xtx) ∧ wx.cell? ⟨g, off + i * 12, none⟩ = some (.int .i64 pa0)) := fun wx h => by
                    obtain ⟨q0, q1, q2, q3, q4, q5, q6, q7, q8, q9, q10, q11⟩ := op_cells h
                    exact ⟨q0, q1, q2, q3, q4, q5, q6, q7, q8, q9, q10, q11, ((below_seq (below_alloc wr _) h).cell (p := ⟨g, off + i * 12, none⟩) (by show g < wr.heap.size; omega)).trans hpc⟩
                  go_wp2_with fail
                  refine wp_region_held_drew (S := fun w' => w'.cell? ⟨wr.heap.size, 0, none⟩ = some (.int .i64 xa) ∧ w'.cell? ⟨wr.heap.size, 1, none⟩ = some (.int .i64 xs) ∧ w'.cell? ⟨wr.heap.size, 2, none⟩ = some (.int .i64 xt) ∧ w'.cell? ⟨wr.heap.size, 3, none⟩ = some (.slice da dn dc) ∧ w'.cell? ⟨wr.heap.size, 4, none⟩ = some (.int .i64 xk) ∧ w'.cell? ⟨wr.heap.size, 5, none⟩ = some (.int .i64 xo) ∧ w'.cell? ⟨wr.heap.size, 6, none⟩ = some (.int .i64 xn) ∧ w'.cell? ⟨wr.heap.size, 7, none⟩ = some (.int .i64 xu) ∧ w'.cell? ⟨wr.heap.size, 8, none⟩ = some (.int .i64 xpt) ∧ w'.cell? ⟨wr.heap.size, 9, none⟩ = some (.int .i64 xpa) ∧ w'.cell? ⟨wr.heap.size, 10, none⟩ = some (.string xky) ∧ w'.cell? ⟨wr.heap.size, 11, none⟩ = some (.string xtx) ∧ w'.cell? ⟨g, off + i * 12, none⟩ = some (.int .i64 pa0)) (by kernel_rfl) (HF.out _ hB) (fun hHeld => ?_)
                  refine tkH 0 (.agg #[.int .i64 xa, .int .i64 xs, .int .i64 xt, .slice da dn dc, .int .i64 xk, .int .i64 xo, .int .i64 xn, .int .i64 xu, .int .i64 xpt, .int .i64 xpa, .string xky, .string xtx]) rfl (Or.inl ⟨by kernel_rfl, by intro w hSw; obtain ⟨s0, s1, s2, s3, s4, s5, s6, s7, s8, s9, s10, s11, s12⟩ := hSw; go_simp⟩) hHeld ?_
                  simp only [tkS, Act.put]
                  refine wpAnyH_ready (rs := [1]) (by kernel_rfl) (by simp) ?_
                  refine AllReadyH.cons rfl (fun K hK => ?_) AllReadyH.nil
                  go_simp
                  refine (hOK _ hB).mono ?_
                  rintro e wn ⟨rfl, hbn⟩
                  replace hB := below_seq hB hbn
                  clear hbn
                  go_wp2_with fail
                  refine hK.out _ _ (HF.out _ hB) (fun hHeld => ?_)
                  clear hK K
                  refine tkH 2 (.bool false) rfl (Or.inl ⟨by kernel_rfl, by intro w hSw; obtain ⟨s0, s1, s2, s3, s4, s5, s6, s7, s8, s9, s10, s11, s12⟩ := hSw; go_simp⟩) hHeld ?_
                  simp only [tkS, Act.put]
                  refine tkH 3 (.bool false) rfl (Or.inl ⟨by kernel_rfl, by intro w hSw; obtain ⟨s0, s1, s2, s3, s4, s5, s6, s7, s8, s9, s10, s11, s12⟩ := hSw; go_simp⟩) hHeld ?_
                  simp only [tkS, Act.put]
                  refine tkH 4 (.pointer (some ⟨w.heap.size, 0, none⟩)) rfl (Or.inl ⟨by kernel_rfl, by intro w hSw; obtain ⟨s0, s1, s2, s3, s4, s5, s6, s7, s8, s9, s10, s11, s12⟩ := hSw; go_simp⟩) hHeld ?_
                  simp only [tkS, Act.put]
                  refine tkH 5 (.agg #[.int .i64 xa, .int .i64 xs, .int .i64 xt, .slice da dn dc, .int .i64 xk, .int .i64 xo, .int .i64 xn, .int .i64 xu, .int .i64 xpt, .int .i64 xpa, .string xky, .string xtx]) rfl (Or.inl ⟨by kernel_rfl, by intro w hSw; obtain ⟨s0, s1, s2, s3, s4, s5, s6, s7, s8, s9, s10, s11, s12⟩ := hSw; go_simp⟩) hHeld ?_
                  simp only [tkS, Act.put]
                  refine wpAnyH_ready (rs := [6]) (by kernel_rfl) (by simp) ?_
                  refine AllReadyH.cons rfl (fun K hK => ?_) AllReadyH.nil
                  go_simp
                  refine (hNX _ hB).mono ?_
                  rintro e wn ⟨rfl, hbn⟩
                  replace hB := below_seq hB hbn
                  clear hbn
                  go_wp2_with fail
                  refine hK.out _ _ (HF.out _ hB) (fun hHeld => ?_)
                  clear hK K
                  refine tkH 7 (.bool false) rfl (Or.inl ⟨by kernel_rfl, by intro w hSw; obtain ⟨s0, s1, s2, s3, s4, s5, s6, s7, s8, s9, s10, s11, s12⟩ := hSw; go_simp⟩) hHeld ?_
                  simp only [tkS, Act.put]
                  refine tkH 8 (.bool false) rfl (Or.inl ⟨by kernel_rfl, by intro w hSw; obtain ⟨s0, s1, s2, s3, s4, s5, s6, s7, s8, s9, s10, s11, s12⟩ := hSw; go_simp⟩) hHeld ?_
                  simp only [tkS, Act.put]
                  refine tkH 9 (.bool false) rfl (Or.inl ⟨by kernel_rfl, by intro w hSw; obtain ⟨s0, s1, s2, s3, s4, s5, s6, s7, s8, s9, s10, s11, s12⟩ := hSw; go_simp⟩) hHeld ?_
                  simp only [tkS, Act.put]
                  refine tkH 10 (.pointer (some ⟨w.heap.size, 0, none⟩)) rfl (Or.inl ⟨by kernel_rfl, by intro w hSw; obtain ⟨s0, s1, s2, s3, s4, s5, s6, s7, s8, s9, s10, s11, s12⟩ := hSw; go_simp⟩) hHeld ?_
                  simp only [tkS, Act.put]
                  refine tkH 11 (.agg #[.int .i64 xa, .int .i64 xs, .int .i64 xt, .slice da dn dc, .int .i64 xk, .int .i64 xo, .int .i64 xn, .int .i64 xu, .int .i64 xpt, .int .i64 xpa, .string xky, .string xtx]) rfl (Or.inl ⟨by kernel_rfl, by intro w hSw; obtain ⟨s0, s1, s2, s3, s4, s5, s6, s7, s8, s9, s10, s11, s12⟩ := hSw; go_simp⟩) hHeld ?_
                  simp only [tkS, Act.put]
                  refine wpAnyH_ready (rs := [12]) (by kernel_rfl) (by simp) ?_
                  refine AllReadyH.cons rfl (fun K hK => ?_) AllReadyH.nil
                  go_simp
                  refine (hSU _ hB).mono ?_
                  rintro e wn ⟨rfl, hbn⟩
                  replace hB := below_seq hB hbn
                  clear hbn
                  go_wp2_with fail
                  refine hK.out _ _ (HF.out _ hB) (fun hHeld => ?_)
                  clear hK K
                  refine tkH 13 (.bool false) rfl (Or.inl ⟨by kernel_rfl, by intro w hSw; obtain ⟨s0, s1, s2, s3, s4, s5, s6, s7, s8, s9, s10, s11, s12⟩ := hSw; go_simp⟩) hHeld ?_
                  simp only [tkS, Act.put]
                  refine tkH 14 (.bool false) rfl (Or.inl ⟨by kernel_rfl, by intro w hSw; obtain ⟨s0, s1, s2, s3, s4, s5, s6, s7, s8, s9, s10, s11, s12⟩ := hSw; go_simp⟩) hHeld ?_
                  simp only [tkS, Act.put]
                  refine tkH 15 (.bool false) rfl (Or.inl ⟨by kernel_rfl, by intro w hSw; obtain ⟨s0, s1, s2, s3, s4, s5, s6, s7, s8, s9, s10, s11, s12⟩ := hSw; go_simp⟩) hHeld ?_
                  simp only [tkS, Act.put]
                  refine tkH 16 (.int .i64 (((i + 1 : Nat) : Int))) rfl (Or.inl ⟨by kernel_rfl, by intro w hSw; obtain ⟨s0, s1, s2, s3, s4, s5, s6, s7, s8, s9, s10, s11, s12⟩ := hSw; go_simp⟩) hHeld ?_
                  simp only [tkS, Act.put]
                  refine tkH 17 (.bool true) rfl (Or.inl ⟨by kernel_rfl, by intro w hSw; obtain ⟨s0, s1, s2, s3, s4, s5, s6, s7, s8, s9, s10, s11, s12⟩ := hSw; go_simp⟩) hHeld ?_
                  simp only [tkS, Act.put]
                  refine tkH 18 (.bool true) rfl (Or.inl ⟨by kernel_rfl, by intro w hSw; obtain ⟨s0, s1, s2, s3, s4, s5, s6, s7, s8, s9, s10, s11, s12⟩ := hSw; go_simp⟩) hHeld ?_
                  simp only [tkS, Act.put]
                  refine tkH 19 (.slice (some ⟨g, off, none⟩) L.length cap) rfl (Or.inl ⟨by kernel_rfl, by intro w hSw; obtain ⟨s0, s1, s2, s3, s4, s5, s6, s7, s8, s9, s10, s11, s12⟩ := hSw; go_simp⟩) hHeld ?_
                  simp only [tkS, Act.put]
                  refine tkH 20 (.int .i64 (((i + 1 : Nat) : Int))) rfl (Or.inl ⟨by kernel_rfl, by intro w hSw; obtain ⟨s0, s1, s2, s3, s4, s5, s6, s7, s8, s9, s10, s11, s12⟩ := hSw; go_simp⟩) hHeld ?_
                  simp only [tkS, Act.put]
                  refine tkH 21 (.int .i64 ((i : Int))) rfl (Or.inl ⟨by kernel_rfl, by intro w hSw; obtain ⟨s0, s1, s2, s3, s4, s5, s6, s7, s8, s9, s10, s11, s12⟩ := hSw; go_simp⟩) hHeld ?_
                  simp only [tkS, Act.put]
                  refine tkH 22 (.pointer (some ⟨g, off + i * 12, none⟩)) rfl (Or.inl ⟨by kernel_rfl, by intro w hSw; obtain ⟨s0, s1, s2, s3, s4, s5, s6, s7, s8, s9, s10, s11, s12⟩ := hSw; go_simp⟩) hHeld ?_
                  simp only [tkS, Act.put]
                  refine tkH 23 (.pointer (some ⟨g, off + i * 12, none⟩)) rfl (Or.inl ⟨by kernel_rfl, by intro w hSw; obtain ⟨s0, s1, s2, s3, s4, s5, s6, s7, s8, s9, s10, s11, s12⟩ := hSw; go_simp⟩) hHeld ?_
                  simp only [tkS, Act.put]
                  refine tkH 24 (.int .i64 pa0) rfl (Or.inl ⟨by kernel_rfl, by intro w hSw; obtain ⟨s0, s1, s2, s3, s4, s5, s6, s7, s8, s9, s10, s11, s12⟩ := hSw; go_simp⟩) hHeld ?_
                  simp only [tkS, Act.put]
                  refine tkH 25 (.pointer (some ⟨wr.heap.size, 0, none⟩)) rfl (Or.inl ⟨by kernel_rfl, by intro w hSw; obtain ⟨s0, s1, s2, s3, s4, s5, s6, s7, s8, s9, s10, s11, s12⟩ := hSw; go_simp⟩) hHeld ?_
                  simp only [tkS, Act.put]
                  refine tkH 26 (.int .i64 xa) rfl (Or.inl ⟨by kernel_rfl, by intro w hSw; obtain ⟨s0, s1, s2, s3, s4, s5, s6, s7, s8, s9, s10, s11, s12⟩ := hSw; go_simp⟩) hHeld ?_
                  simp only [tkS, Act.put]
                  refine tkH 27 (.bool false) rfl (Or.inl ⟨by kernel_rfl, by intro w hSw; obtain ⟨s0, s1, s2, s3, s4, s5, s6, s7, s8, s9, s10, s11, s12⟩ := hSw; go_simp⟩) hHeld ?_
                  simp only [tkS, Act.put]
                  refine tkH 28 (.bool false) rfl (Or.inl ⟨by kernel_rfl, by intro w hSw; obtain ⟨s0, s1, s2, s3, s4, s5, s6, s7, s8, s9, s10, s11, s12⟩ := hSw; go_simp⟩) hHeld ?_
                  simp only [tkS, Act.put]
                  refine tkH 29 (.bool false) rfl (Or.inl ⟨by kernel_rfl, by intro w hSw; obtain ⟨s0, s1, s2, s3, s4, s5, s6, s7, s8, s9, s10, s11, s12⟩ := hSw; go_simp⟩) hHeld ?_
                  simp only [tkS, Act.put]
                  refine wpAnyH_done (by kernel_rfl) ?_ _
                  obtain ⟨q0, q1, q2, q3, q4, q5, q6, q7, q8, q9, q10, q11, -⟩ := HF.out _ hB
                  go_wp2_with fail
                  refine (hPUT _ hB).mono ?_
                  rintro e w9 ⟨rfl, ⟨vs9, hL9⟩, hb9⟩
                  have hBw9 := hBw.trans (((below_seq (below_alloc _ _) hB).mono hBw.size).trans (hb9.mono (Nat.le_refl _)))
                  clear hB HF hOK hNX hSU hPUT q0 q1 q2 q3 q4 q5 q6 q7 q8 q9 q10 q11 hb9
                  go_wp2_with fail
                  go_roundw
                  case rel => exact ⟨(i + 1) + 1, vs9, by omega, by go_num, HTK.out ▸ hL9, hBw9, HE⟩
                  case measure => simp [intOf]; omega
      · have hki : ¬ (i : Int) < (L.length : Int) := by omega
        have hil : L.take i = L := List.take_of_length_le (by omega)
        rw [hil] at hLd
        have HA' : Hid (∀ q, q < L.length → stepI L q = true) := fun q hq => HA.out q (by omega)
        clear HA hil
        have HOK : Hid (∀ x ∈ L, x.ok = true) := step_mem HA'.out
        have hCL := isClosed_any w.heap.size C w.heap.size vs L wr hLd hlen (by have := hBw.size; omega) (fun x hx => ⟨(hdv x hx).below (hBw.mono hC), (ok_parts (HOK.out x hx)).2.2⟩) (fun x hx => (ok_parts (HOK.out x hx)).1)
        have HS : Hid (∀ q, q < L.length → stepI L q = true) := HA'
        cases hcl : L.all (causesB L) with
        | false =>
          have HE : Hid (logI L = false) := by unfold Hid logI; rw [hcl, Bool.and_false, Bool.and_false]
          rw [hcl] at hCL
          clear hcl
          go_wp2_with ((go_at_call 35; refine hCL.mono ?_; rintro e w9 ⟨rfl, hb9⟩))
          go_ret2
          exact ⟨.inr ⟨HE.out, rfl⟩, hBw.trans (hb9.mono hBw.size)⟩
        | true =>
          have HE : Hid (logI L = true) := by
            unfold Hid logI
            rw [hcl, decide_eq_true hlen, List.all_eq_true.2 (fun i hi => HS.out i (List.mem_range.1 hi))]
            rfl
          rw [hcl] at hCL
          clear hcl
          go_wp2_with ((go_at_call 35; refine hCL.mono ?_; rintro e w9 ⟨rfl, hb9⟩))
          go_ret2
          exact ⟨.inl ⟨HE.out, _, rfl, vs, hLd.on hb9 (Nat.le_refl _)⟩, hBw.trans (hb9.mono hBw.size)⟩
  · have hlen' : (1024 : Int) < (L.length : Int) := by omega
    go_enter Try.func17, Try.ntmps17
    go_wp2_with fail
    go_ret2
    exact ⟨.inr ⟨logI_long hlen, rfl⟩, Below.refl _ _⟩
end Go.Proofs.Ytcifbgoonaolbab

namespace Go.Proofs.Ytcifbgoonaolbab
open Go.RowKit
set_option linter.unusedVariables false

end Go.Proofs.Ytcifbgoonaolbab
