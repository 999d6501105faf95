/- The code's ledger: what isClosed answers. -/
import Derived.Test.YtnpiinjdaiobgaaLedCauses
import Derived.Deep.MidRow
namespace Go.Proofs.Ytnpiinjdaiobgaa
open Go.RowKit
set_option linter.unusedVariables false

theorem closed_no {P : List Ov} {x : Ov} (hx : x ∈ P) (h : causesB P x = false) : P.all (causesB P) = false := by
  rw [Bool.eq_false_iff]
  intro h'
  rw [List.all_eq_true] at h'
  rw [h' x hx] at h
  cases h
theorem byA_sub {P : List Ov} {a : Nat} {x : Ov} (h : x ∈ byA P a) : x ∈ P := (List.mem_filter.1 h).1
theorem closed_yes {P : List Ov} (ha : ∀ x ∈ P, 0 ≤ x.a ∧ x.a < 16) (h : ∀ a, a < 16 → ∀ q, q < (byA P a).length → causesB P (ovAt (byA P a) q) = true) : P.all (causesB P) = true := by
  rw [List.all_eq_true]
  intro x hx
  have h0 := ha x hx
  have hm : x ∈ byA P x.a.toNat := List.mem_filter.2 ⟨hx, decide_eq_true (by omega)⟩
  obtain ⟨q, hq, e⟩ := List.getElem_of_mem hm
  have h1 := h x.a.toNat (by omega) q hq
  have h2 := ovAt_get hq
  rw [List.getElem?_eq_getElem hq, e] at h2
  rwa [← Option.some.inj h2] at h1
/-- Where the operations of an actor lie. -/
theorem Led.rowAt {w : World} {B lb : Nat} {vs : List Value} {P : List Ov} (h : Led w B lb vs P) {a : Nat} (ha : a < 16) {ao : Option Addr} {cap : Nat} (hv : vs.getD a undef = .slice ao (byA P a).length cap) (hp : 0 < (byA P a).length) :
    ∃ g, ao = some ⟨g, 0, none⟩ ∧ g < w.heap.size ∧ ∀ k, k < (byA P a).length → OpAt w g (k * 12) (ovAt (byA P a) k) := by
  have hrow := h.row a ha
  rw [hv] at hrow
  have hrow' := hrow
  obtain ⟨h1, h2⟩ := hrow
  rcases h2 with ⟨hv', hn⟩ | ⟨g, cap', cur, hv', hg, hh, _⟩
  · omega
  · simp only [Value.slice.injEq] at hv'
    obtain ⟨rfl, _, rfl⟩ := hv'
    exact ⟨g, rfl, (Array.getElem?_eq_some_iff.1 hh).1, fun k hk => row_at hrow' hk⟩
theorem slice_size : (Try.prog.info? 25).map (·.size) = some 1 := by kernel_rfl
theorem run_indexOps (w : World) (vs : List Value) (k : Nat) (hy : vs.length = 16) (hk : k < 16) : (Instr.index 60 (.agg vs.toArray) (.int .i64 (k : Int))).run Try.prog w = .ok (vs.getD k undef) w := by
  obtain ⟨i, hi, hs⟩ : ∃ i, Try.prog.info? 25 = some i ∧ i.size = 1 := by
    have := slice_size
    cases h : Try.prog.info? 25 with
    | none => rw [h] at this; simp at this
    | some i => rw [h] at this; exact ⟨i, rfl, by simpa using this⟩
  have hc : vs[k]? = some (vs.getD k undef) := by rw [List.getD_eq_getElem?_getD, List.getElem?_eq_getElem (by omega)]; rfl
  unfold Instr.index
  simp only [Sem.run_bind, asIntOf, Sem.run_pure, Result.andThen_ok, run_underlying Try.underlying60 w]
  rw [if_pos ⟨by omega, by omega⟩]
  simp [Sem.run_bind, sizeOf, typeInfo, hi, hs, part]
  rw [hc]
  rfl

set_option maxHeartbeats 4000000 in
set_option maxRecDepth 100000 in
theorem isClosed_any (B C lb : Nat) (vs : List Value) (P : List Ov) (w : World) (hL : Led w B lb vs P) (hP : P.length ≤ 1024) (hC : C ≤ w.heap.size) (hd : ∀ x ∈ P, Rd C w x.dv (x.ds.map (Value.int .i64)) ∧ vecOK x.ds = true) (hact : ∀ x ∈ P, 0 ≤ x.a ∧ x.a < 16) :
    Calls Try.prog 32 #[.pointer (some ⟨lb, 0, none⟩)] w fun e w' => e = .returned (.bool (P.all (causesB P))) ∧ Below w.heap.size w w' := by
  obtain ⟨r, HR⟩ : ∃ r, Hid (P.all (causesB P) = r) := ⟨_, rfl⟩
  rw [HR.out]
  have hrg : w.rangeAt lb 0 vs := fun j v hj => by
    rw [Nat.zero_add]
    have hj1 := (List.getElem?_eq_some_iff.1 hj).1
    have := hL.cell (led_vs hL.len (a := j) (by have := hL.len; omega))
    rw [this, List.getD_eq_getElem?_getD, hj]
    rfl
  have HI : Hid ((Try.prog.info? 60).map (·.size) = some vs.length) := by
    unfold Hid
    rw [hL.len]
    kernel_rfl
  have HLE : Hid (∀ a, (byA P a).length ≤ 1024) := fun a => Nat.le_trans (List.length_filter_le _ _) hP
  go_enter Try.func32, Try.ntmps32
  go_wp2_with (first | (refine wpList_load_mid rfl 60 _ rfl lb 0 rfl vs _ hrg Try.underlying60 rfl HI.out ?_))
  go_loopw [11] (fun ta wr => ∃ (a : Nat), a ≤ 16 ∧ ta = .int .i64 (a : Int) ∧ Below w.heap.size w wr ∧ Hid (∀ q, q < a → ∀ i, i < (byA P q).length → causesB P (ovAt (byA P q) i) = true)) (fun ta _ => 16 - (intOf ta).toNat)
  case atStart => exact ⟨0, Nat.zero_le _, rfl, Below.refl _ _, fun q hq => absurd hq (by omega)⟩
  case round =>
    obtain ⟨a, ha16, rfl, hBw, HA⟩ := hrel
    by_cases hlt : a < 16
    · have hki : (a : Int) < 16 := by omega
      have hle := HLE.out a
      obtain ⟨ao, cap, hsl⟩ := hL.slice hlt
      have hix := run_indexOps wr vs a hL.len hlt
      rw [hsl] at hix
      have HSL : Hid (vs.getD a undef = .slice ao (byA P a).length cap) := hsl
      clear hsl
      go_wp2_with fail
      clear hix
      go_loopw [16] (fun ti wr => ∃ (i : Nat), i ≤ (byA P a).length ∧ ti = .int .i64 (i : Int) ∧ Below w.heap.size w wr ∧ Hid (∀ q, q < i → causesB P (ovAt (byA P a) q) = true)) (fun ti _ => (byA P a).length - (intOf ti).toNat)
      case atStart => exact ⟨0, Nat.zero_le _, rfl, hBw, fun q hq => absurd hq (by omega)⟩
      case round =>
        clear hBw
        obtain ⟨i, hi, rfl, hBw, HB⟩ := hrel
        by_cases hlt2 : i < (byA P a).length
        · have hki2 : (i : Int) < ((byA P a).length : Int) := by omega
          have hsz := hBw.size
          obtain ⟨g, rfl, hg, hcs⟩ := hL.rowAt hlt HSL.out (by omega)
          have hx := (hcs i hlt2).below hBw hg
          have hm := byA_sub (ovAt_mem hlt2)
          have hxd := ((hd _ hm).1).below (hBw.mono hC)
          have hvd := (hd _ hm).2
          have HNO : Hid (causesB P (ovAt (byA P a) i) = false → r = false) := fun h => HR.out.symm.trans (closed_no hm h)
          have HYS : Hid (causesB P (ovAt (byA P a) i) = true → Hid (∀ q, q < i + 1 → causesB P (ovAt (byA P a) q) = true)) := fun h q hq => by
            by_cases e : q = i
            · subst e; exact h
            · exact HB.out q (by omega)
          have hHC : ∀ w1, Below wr.heap.size wr w1 → Calls Try.prog 44 #[.pointer (some ⟨lb, 0, none⟩), .agg #[.int .i64 (ovAt (byA P a) i).a, .int .i64 (ovAt (byA P a) i).s, .int .i64 (ovAt (byA P a) i).t, (ovAt (byA P a) i).dv, .int .i64 (ovAt (byA P a) i).k, .int .i64 (ovAt (byA P a) i).o, .int .i64 (ovAt (byA P a) i).n, .int .i64 (ovAt (byA P a) i).u, .int .i64 (ovAt (byA P a) i).pt, .int .i64 (ovAt (byA P a) i).pa, .string (ovAt (byA P a) i).ky, .string (ovAt (byA P a) i).tx]] w1 fun e w' => e = .returned (.bool (causesB P (ovAt (byA P a) i))) ∧ Below w1.heap.size w1 w' := fun w1 hb => hasCauses_any B C lb vs P (ovAt (byA P a) i) w1 (hL.on (hBw.trans (hb.mono hBw.size)) (Nat.le_refl _)) hP (by have := hb.size; omega) (hxd.below (hb.mono (by omega))) hvd
          generalize causesB P (ovAt (byA P a) i) = cb at HNO HYS hHC
          clear HB hm hvd hcs
          generalize ovAt (byA P a) i = x at *
          obtain ⟨xa, xs, xt, xdv, xk, xo, xn, xu, xpt, xpa, xky, xtx, xds⟩ := x
          obtain ⟨c0, c1, c2, c3, c4, c5, c6, c7, c8, c9, c10, c11⟩ := hx
          simp only at c0 c1 c2 c3 c4 c5 c6 c7 c8 c9 c10 c11 hHC hxd
          obtain ⟨da, dn, dc, rfl⟩ : ∃ da dn dc, xdv = .slice da dn dc := by obtain ⟨da, dc, h, _⟩ := hxd; exact ⟨da, _, dc, h⟩
          have hc1 := hHC (wr.alloc (.cells #[.int .i64 xa, .int .i64 xs, .int .i64 xt, .slice da dn dc, .int .i64 xk, .int .i64 xo, .int .i64 xn, .int .i64 xu, .int .i64 xpt, .int .i64 xpa, .string xky, .string xtx] 41)) (below_alloc _ _)
          clear hxd hHC
          cases cb with
          | false =>
            have HE : Hid (r = false) := HNO.out rfl
            go_wp2_with ((go_at_call 44; refine hc1.mono ?_; rintro e w9 ⟨rfl, hb9⟩))
            go_ret
            exact ⟨by rw [HE.out]; rfl, hBw.trans ((below_seq (below_alloc _ _) hb9).mono hBw.size)⟩
          | true =>
            have HE := HYS.out rfl
            go_wp2_with ((go_at_call 44; refine hc1.mono ?_; rintro e w9 ⟨rfl, hb9⟩))
            go_roundw
            case rel => exact ⟨i + 1, by omega, by go_num, hBw.trans ((below_seq (below_alloc _ _) hb9).mono hBw.size), HE⟩
            case measure => simp [intOf]; omega
        · have hki2 : ¬ (i : Int) < ((byA P a).length : Int) := by omega
          have HE : Hid (∀ q, q < a + 1 → ∀ i, i < (byA P q).length → causesB P (ovAt (byA P q) i) = true) := fun q hq j hj => by
            by_cases e : q = a
            · subst e; exact HB.out j (by omega)
            · exact HA.out q (by omega) j hj
          go_wp2_with fail
          go_roundw
          case rel => exact ⟨a + 1, by omega, by go_num, hBw, HE⟩
          case measure => simp [intOf]; omega
    · have hki : ¬ (a : Int) < 16 := by omega
      have HE : Hid (r = true) := HR.out.symm.trans (closed_yes hact fun q hq i hi => HA.out q (by omega) i hi)
      go_wp2_with fail
      go_ret
      exact ⟨by rw [HE.out]; rfl, hBw⟩
end Go.Proofs.Ytnpiinjdaiobgaa
