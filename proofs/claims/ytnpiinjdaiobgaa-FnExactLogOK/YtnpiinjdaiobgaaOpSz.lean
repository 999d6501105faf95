/- The laws' own functions over operations: their size. -/
import Derived.Test.YtnpiinjdaiobgaaOpToS
namespace Go.Proofs.Ytnpiinjdaiobgaa
open Go.RowKit
set_option linter.unusedVariables false

def SzOne (m l : Nat) (z : Int) : Prop := z = -1 ∨ ∃ q : Nat, z = (q : Int) ∧ q ≤ l ∧ m ≤ l
def SzAll (L : List Ov) (z : Int) : Prop := z = -1 ∨ ∃ q : Nat, z = (q : Int) ∧ q ≤ 1048576 ∧ L.length ≤ 1048576 ∧ ∀ x ∈ L, x.ds.length ≤ 1048576
theorem oplaw_cells {w w1 : World} {c0 c1 c2 c3 c4 c5 c6 c7 c8 c9 c10 c11 : Value} {T : TypeId} (h : Below (w.alloc (.cells #[c0, c1, c2, c3, c4, c5, c6, c7, c8, c9, c10, c11] T)).heap.size (w.alloc (.cells #[c0, c1, c2, c3, c4, c5, c6, c7, c8, c9, c10, c11] T)) w1) : w1.cell? ⟨w.heap.size, 10, none⟩ = some c10 ∧ w1.cell? ⟨w.heap.size, 11, none⟩ = some c11 :=
  ⟨cell_made h (k := 10) rfl, cell_made h (k := 11) rfl⟩

set_option maxHeartbeats 1000000 in
set_option maxRecDepth 100000 in
theorem szOp_any (a s t k o n u pt pa : Int) (da : Option Addr) (m dc : Nat) (ky tx : ByteArray) (l : Nat) (w : World) (hl : l ≤ 1048576) (hm : m ≤ maxLen) (hk : ky.size ≤ maxLen) (ht : tx.size ≤ maxLen) :
    Calls Try.prog 9 #[.agg #[.int .i64 a, .int .i64 s, .int .i64 t, .slice da m dc, .int .i64 k, .int .i64 o, .int .i64 n, .int .i64 u, .int .i64 pt, .int .i64 pa, .string ky, .string tx], .int .i64 (l : Int)] w fun e w' =>
      (∃ z : Int, e = .returned (.int .i64 z) ∧ SzOne m l z) ∧ Below w.heap.size w w' := by
  unfold maxLen at hm hk ht
  have hB := Below.refl (w.alloc (.cells #[.int .i64 a, .int .i64 s, .int .i64 t, .slice da m dc, .int .i64 k, .int .i64 o, .int .i64 n, .int .i64 u, .int .i64 pt, .int .i64 pa, .string ky, .string tx] 36)).heap.size (w.alloc (.cells #[.int .i64 a, .int .i64 s, .int .i64 t, .slice da m dc, .int .i64 k, .int .i64 o, .int .i64 n, .int .i64 u, .int .i64 pt, .int .i64 pa, .string ky, .string tx] 36))
  have hS := fun w => szVector_any da m dc l hl (by unfold maxLen; omega) w
  by_cases h1 : m ≤ l
  · rw [if_pos h1] at hS
    have hn1 : ¬ ((l - m : Nat) : Int) < 0 := by omega
    by_cases h2 : ky.size ≤ l - m
    · have g2 : ¬ ((l - m : Nat) : Int) - (ky.size : Int) < 0 := by omega
      by_cases h3 : tx.size ≤ l - m - ky.size
      · have g3 : ¬ ((l - m : Nat) : Int) - (ky.size : Int) - (tx.size : Int) < 0 := by omega
        go_enter Try.func9, Try.ntmps9
        go_wp2_with ((go_at_call 17; refine (hS _).mono ?_; rintro e w1 ⟨rfl, hb⟩; replace hB := below_seq hB hb; obtain ⟨c10, c11⟩ := oplaw_cells hB; clear hb))
        go_ret
        exact ⟨⟨_, rfl, .inr ⟨l - m - ky.size - tx.size, by omega, by omega, h1⟩⟩, below_seq (below_alloc _ _) hB⟩
      · have g3 : ((l - m : Nat) : Int) - (ky.size : Int) - (tx.size : Int) < 0 := by omega
        go_enter Try.func9, Try.ntmps9
        go_wp2_with ((go_at_call 17; refine (hS _).mono ?_; rintro e w1 ⟨rfl, hb⟩; replace hB := below_seq hB hb; obtain ⟨c10, c11⟩ := oplaw_cells hB; clear hb))
        go_ret
        exact ⟨⟨_, rfl, .inl rfl⟩, below_seq (below_alloc _ _) hB⟩
    · have g2 : ((l - m : Nat) : Int) - (ky.size : Int) < 0 := by omega
      go_enter Try.func9, Try.ntmps9
      go_wp2_with ((go_at_call 17; refine (hS _).mono ?_; rintro e w1 ⟨rfl, hb⟩; replace hB := below_seq hB hb; obtain ⟨c10, c11⟩ := oplaw_cells hB; clear hb))
      go_ret
      exact ⟨⟨_, rfl, .inl rfl⟩, below_seq (below_alloc _ _) hB⟩
  · rw [if_neg h1] at hS
    go_enter Try.func9, Try.ntmps9
    go_wp2_with ((go_at_call 17; refine (hS _).mono ?_; rintro e w1 ⟨rfl, hb⟩; replace hB := below_seq hB hb; obtain ⟨c10, c11⟩ := oplaw_cells hB; clear hb))
    go_ret
    exact ⟨⟨_, rfl, .inl rfl⟩, below_seq (below_alloc _ _) hB⟩

set_option maxHeartbeats 2000000 in
set_option maxRecDepth 100000 in
theorem szOpS_any (C : Nat) (w : World) (v : Value) (L : List Ov) (hC : C ≤ w.heap.size) (hr : RdO C w v L) (ht : ∀ x ∈ L, x.ky.size ≤ maxLen ∧ x.tx.size ≤ maxLen) :
    Calls Try.prog 4 #[v, .int .i64 1048576] w fun e w' =>
      (∃ z : Int, e = .returned (.int .i64 z) ∧ SzAll L z) ∧ Below w.heap.size w w' := by
  obtain ⟨⟨ao, cap, rfl, hcap, hmax, hnil, hrow⟩, hdv⟩ := hr
  unfold maxLen at hmax
  by_cases h0 : L.length ≤ 1048576
  · have hn0 : ¬ (1048576 : Int) - (L.length : Int) < 0 := by omega
    go_enter Try.func4, Try.ntmps4
    go_wp2_with fail
    go_loopw [1, 5] (fun tl ti wr => ∃ (k : Nat) (x : Int), k ≤ L.length ∧ ti = .int .i64 (k : Int) ∧ tl = .int .i64 x ∧ 0 ≤ x ∧ x ≤ 1048576 ∧ Below w.heap.size w wr ∧ Hid (∀ j, j < k → (ovAt L j).ds.length ≤ 1048576)) (fun _ ti _ => L.length - (intOf ti).toNat)
    case atStart => exact ⟨0, _, Nat.zero_le _, rfl, rfl, by omega, by omega, Below.refl _ _, fun j hj => absurd hj (by omega)⟩
    case round =>
      have H0 : Hid (L.length ≤ 1048576) := h0
      clear hn0 h0
      obtain ⟨k, x, hk, rfl, rfl, x0, hl, hbel, HA⟩ := hrel
      obtain ⟨l, rfl⟩ := Int.eq_ofNat_of_zero_le x0
      by_cases hlt : k < L.length
      · have hki : (k : Int) < (L.length : Int) := by omega
        have hk2 : (k : Int) + 1 < 9223372036854775808 := by omega
        have hsz := hbel.size
        obtain ⟨g, off, rfl, hg, hcs⟩ := hrow (by omega)
        have hx := (hcs k hlt).below (hbel.mono hC) hg
        have hxd := hdv _ (ovAt_mem hlt)
        have htx := ht _ (ovAt_mem hlt)
        have HN : Hid ((ovAt L k).ds.length ≤ 1048576 → Hid (∀ j, j < k + 1 → (ovAt L j).ds.length ≤ 1048576)) := fun h j hj => by
          by_cases e : j = k
          · subst e; exact h
          · exact HA.out j (by omega)
        generalize ovAt L k = x at *
        obtain ⟨xa, xs, xt, xdv, xk, xo, xn, xu, xpt, xpa, xky, xtx, xds⟩ := x
        obtain ⟨c0, c1, c2, c3, c4, c5, c6, c7, c8, c9, c10, c11⟩ := hx
        simp only at c0 c1 c2 c3 c4 c5 c6 c7 c8 c9 c10 c11 hxd htx HN
        obtain ⟨da, dc, rfl, hdc, hdm, _⟩ := hxd
        rw [List.length_map] at c3 hdc
        have hz := szOp_any xa xs xt xk xo xn xu xpt xpa da xds.length dc xky xtx l wr (by omega) (by omega) htx.1 htx.2
        clear hcs hdv hrow ht HA
        go_wp2_with fail
        refine hz.mono ?_
        rintro e w1 ⟨⟨z, rfl, hzz⟩, hb⟩
        replace hbel := below_seq hbel hb
        clear hb hz c0 c1 c2 c3 c4 c5 c6 c7 c8 c9 c10 c11
        rcases hzz with rfl | ⟨q, hzq, hq, hm⟩
        · go_wp2_with fail
          go_ret
          exact ⟨⟨_, rfl, .inl rfl⟩, hbel⟩
        · have HE := HN.out (by omega)
          have z0 : decide (z < 0) = false := by simp; omega
          have z1 : 0 ≤ z := by omega
          have z2 : z ≤ 1048576 := by omega
          clear HN hdc hdm hm htx hl hq hzq x0
          go_wp2_with fail
          go_roundw
          case rel => exact ⟨k + 1, z, by omega, by go_num, rfl, z1, z2, hbel, HE⟩
          case measure => simp [intOf]; omega
      · have hki : ¬ (k : Int) < (L.length : Int) := by omega
        have HE : Hid (∀ x ∈ L, x.ds.length ≤ 1048576) := fun x hx => by
          obtain ⟨i, hi, rfl⟩ := List.getElem_of_mem hx
          have := HA.out i (by omega)
          rwa [show ovAt L i = L[i] by have := ovAt_get hi; rw [List.getElem?_eq_getElem hi] at this; exact (Option.some.inj this).symm] at this
        go_wp2_with fail
        go_ret
        exact ⟨⟨_, rfl, .inr ⟨l, rfl, by omega, H0.out, HE.out⟩⟩, hbel⟩
  · have hn0 : (1048576 : Int) - (L.length : Int) < 0 := by omega
    go_enter Try.func4, Try.ntmps4
    go_wp2_with fail
    go_ret
    exact ⟨⟨_, rfl, .inl rfl⟩, Below.refl _ _⟩
end Go.Proofs.Ytnpiinjdaiobgaa
