/- The walk of FnRegs: it answers true at every two lists of bytes. -/
import Derived.Test.YtonpeiknoifdbabSrcReg
import Derived.Test.YtonpeiknoifdbabRegOrd
import Derived.Test.YtonpeiknoifdbabFrame
namespace Go.Proofs.Ytonpeiknoifdbab
open Go.RowKit
set_option linter.unusedVariables false

theorem trc_lt {w : World} {a : Addr} {v : Value} (h : w.cell? a = some v) : a.block < w.heap.size := by
  unfold World.cell? at h
  split at h
  · rename_i hb
    exact (Array.getElem?_eq_some_iff.1 hb).1
  all_goals simp at h
theorem TrH.on {w w1 : World} {n : Nat} {x y z : Value} (h : Hid (Tr w n x y z)) (hb : Below w.heap.size w w1) : Hid (Tr w1 n x y z) := by
  have hn : n < w.heap.size := trc_lt h.out.1.1
  exact ⟨⟨(hb.cell (p := ⟨n, 0, none⟩) hn).trans h.out.1.1, (hb.cell (p := ⟨n, 1, none⟩) hn).trans h.out.1.2.1, (hb.cell (p := ⟨n, 2, none⟩) hn).trans h.out.1.2.2⟩, fun k => (hb.frozen (p := ⟨n, k, none⟩) hn).trans (h.out.2 k)⟩
theorem Tr.madeH (w : World) (x y z : Value) (T : TypeId) : Hid (Tr (w.alloc (.cells #[x, y, z] T)) w.heap.size x y z) := ⟨three_cells (Below.refl _ _), frozen_made (Below.refl _ _)⟩

theorem tr_two (w : World) (o : Obj) (x y z : Value) (T : TypeId) : Hid (Tr ((w.alloc o).alloc (.cells #[x, y, z] T)) (w.heap.size + 1) x y z) := by
  have := Tr.madeH (w.alloc o) x y z T
  rw [World.size_alloc] at this
  exact this

set_option maxHeartbeats 20000000 in
set_option maxRecDepth 100000 in
theorem lawRegs_walk (a0 : Option Addr) (l0 c0 : Nat) (z0 : List Int) (a1 : Option Addr) (l1 c1 : Nat) (z1 : List Int) (w : World) (h0 : IsRow .u8 w a0 l0 c0 z0) (h1 : IsRow .u8 w a1 l1 c1 z1) :
    Calls Try.prog 3 #[.slice a0 l0 c0, .slice a1 l1 c1] w fun e w' => e = .returned (.bool true) ∧ Below w.heap.size w w' := by
  obtain ⟨hr0, hl0⟩ := h0.rd
  obtain ⟨hr1, hl1⟩ := h1.rd
  have hX0 := h0.bytes
  have hX1 := h1.bytes
  generalize z0.take l0 = xs at hr0 hl0 hX0
  generalize z1.take l1 = ys at hr1 hl1 hX1
  clear h0 h1
  subst hl0 hl1
  by_cases q0 : xs.length ≤ 1048576
  · by_cases q1 : ys.length ≤ 1048576
    · have i0 : ¬ (1048576 : Int) < (xs.length : Int) := by omega
      have i1 : ¬ (1048576 : Int) < (ys.length : Int) := by omega
      go_enter Try.func3, Try.ntmps3
      go_wp2_with fail
      refine (drawRegJoin_any w.heap.size w _ xs (Nat.le_refl _) hr0 hX0 q0).mono ?_
      rintro e w1 ⟨t, a, s, t', a', s', rfl, hs, hs', hB⟩
      cases hAB : (rgOk (t, a, s) && rgOk (t', a', s')) with
      | false =>
        have hba : (rgOk (t', a', s') && rgOk (t, a, s)) = false := by rw [Bool.and_comm]; exact hAB
        have j1 : rJoin t a s t' a' s' = _ := rJoin_no (A := (t, a, s)) (B := (t', a', s')) hAB
        have j2 : rJoin t' a' s' t a s = _ := rJoin_no (A := (t', a', s')) (B := (t, a, s)) hba
        have jab := fun w => implRegJoin_any t a s t' a' s' w
        have pab := fun w => specRegJoin_any t a s t' a' s' w
        have jba := fun w => implRegJoin_any t' a' s' t a s w
        rw [j1] at jab pab
        rw [j2] at jba
        clear j1 j2 hba hAB
        replace hB := below_then (below_then hB (.cells #[.int .i64 t, .int .i64 a, .string s] 26)) (.cells #[.int .i64 t', .int .i64 a', .string s'] 26)
        have HA := TrH.on (Tr.madeH w1 (.int .i64 t) (.int .i64 a) (.string s) 26) (below_alloc (w1.alloc (.cells #[.int .i64 t, .int .i64 a, .string s] 26)) (.cells #[.int .i64 t', .int .i64 a', .string s'] 26))
        have HB : Hid (Tr _ (w1.heap.size + 1) _ _ _) := tr_two w1 (.cells #[.int .i64 t, .int .i64 a, .string s] 26) (.int .i64 t') (.int .i64 a') (.string s') 26
        go_wp2_with fail
        refine (drawRegJoin_any w.heap.size _ _ ys hB.size (Rd.below hr1 hB) hX1 q1).mono ?_
        rintro e w2 ⟨t3, a3, s3, t9, a9, s9, rfl, hs3, hs9, hb'⟩
        replace hB := below_then (below_then (below_seq hB hb') (.cells #[.int .i64 t3, .int .i64 a3, .string s3] 26)) (.cells #[.int .i64 t9, .int .i64 a9, .string s9] 26)
        replace HA := TrH.on (TrH.on (TrH.on HA hb') (below_alloc w2 (.cells #[.int .i64 t3, .int .i64 a3, .string s3] 26))) (below_alloc (w2.alloc (.cells #[.int .i64 t3, .int .i64 a3, .string s3] 26)) (.cells #[.int .i64 t9, .int .i64 a9, .string s9] 26))
        replace HB := TrH.on (TrH.on (TrH.on HB hb') (below_alloc w2 (.cells #[.int .i64 t3, .int .i64 a3, .string s3] 26))) (below_alloc (w2.alloc (.cells #[.int .i64 t3, .int .i64 a3, .string s3] 26)) (.cells #[.int .i64 t9, .int .i64 a9, .string s9] 26))
        have HC := TrH.on (Tr.madeH w2 (.int .i64 t3) (.int .i64 a3) (.string s3) 26) (below_alloc (w2.alloc (.cells #[.int .i64 t3, .int .i64 a3, .string s3] 26)) (.cells #[.int .i64 t9, .int .i64 a9, .string s9] 26))
        clear hb'
        obtain ⟨⟨x0, x1, x2⟩, _⟩ := HA.out
        obtain ⟨⟨y0, y1, y2⟩, _⟩ := HB.out
        go_wp2_with fail
        refine (jab _).mono ?_
        rintro e w3 ⟨rfl, hb'⟩
        replace hB := below_then (below_seq hB hb') (.cells #[.int .i64 0, .int .i64 0, .string ⟨#[]⟩] 26)
        replace HA := TrH.on (TrH.on HA hb') (below_alloc w3 (.cells #[.int .i64 0, .int .i64 0, .string ⟨#[]⟩] 26))
        replace HB := TrH.on (TrH.on HB hb') (below_alloc w3 (.cells #[.int .i64 0, .int .i64 0, .string ⟨#[]⟩] 26))
        have HX := Tr.madeH w3 (.int .i64 0) (.int .i64 0) (.string ⟨#[]⟩) 26
        clear hb'
        clear x0 x1 x2 y0 y1 y2
        obtain ⟨⟨x0, x1, x2⟩, _⟩ := HA.out
        obtain ⟨⟨y0, y1, y2⟩, _⟩ := HB.out
        go_wp2_with fail
        refine (pab _).mono ?_
        rintro e w4 ⟨rfl, hb'⟩
        replace hB := below_then (below_seq hB hb') (.cells #[.int .i64 0, .int .i64 0, .string ⟨#[]⟩] 26)
        replace HA := TrH.on (TrH.on HA hb') (below_alloc w4 (.cells #[.int .i64 0, .int .i64 0, .string ⟨#[]⟩] 26))
        replace HB := TrH.on (TrH.on HB hb') (below_alloc w4 (.cells #[.int .i64 0, .int .i64 0, .string ⟨#[]⟩] 26))
        replace HX := TrH.on (TrH.on HX hb') (below_alloc w4 (.cells #[.int .i64 0, .int .i64 0, .string ⟨#[]⟩] 26))
        have HW := Tr.madeH w4 (.int .i64 0) (.int .i64 0) (.string ⟨#[]⟩) 26
        clear hb'
        clear x0 x1 x2 y0 y1 y2
        obtain ⟨⟨z0, z1, z2⟩, _⟩ := HX.out
        obtain ⟨⟨x0, x1, x2⟩, _⟩ := HA.out
        obtain ⟨⟨y0, y1, y2⟩, _⟩ := HB.out
        go_wp2_with fail
        refine (jba _).mono ?_
        rintro e w5 ⟨rfl, hb'⟩
        replace hB := below_then (below_seq hB hb') (.cells #[.int .i64 0, .int .i64 0, .string ⟨#[]⟩] 26)
        have HY := Tr.madeH w5 (.int .i64 0) (.int .i64 0) (.string ⟨#[]⟩) 26
        clear hb'
        go_wp2_with fail
        go_ret
        exact ⟨rfl, hB⟩
      | true =>
        have okA : rgOk (t, a, s) = true := (Bool.and_eq_true_iff.1 hAB).1
        have okB : rgOk (t', a', s') = true := (Bool.and_eq_true_iff.1 hAB).2
        clear hAB hs hs'
        have hcs : rgG (t, a, s) (t', a', s') = (t, a, s) ∨ (rgG (t, a, s) (t', a', s') = (t', a', s') ∧ (t' == t) = false) ∨ (rgG (t, a, s) (t', a', s') = (t', a', s') ∧ t = t' ∧ (a' == a) = false) ∨ (rgG (t, a, s) (t', a', s') = (t', a', s') ∧ t = t' ∧ a = a' ∧ (s'.toList == s.toList) = false) := by
          rcases rgG_mem (t, a, s) (t', a', s') with e | e
          · exact .inl e
          · by_cases e1 : t = t'
            · by_cases e2 : a = a'
              · by_cases e3 : s'.toList = s.toList
                · refine .inl (e.trans ?_)
                  rw [e1, e2, bytes_inj e3]
                · exact .inr (.inr (.inr ⟨e, e1, e2, by simpa using e3⟩))
              · exact .inr (.inr (.inl ⟨e, e1, by simpa using fun h => e2 h.symm⟩))
            · exact .inr (.inl ⟨e, by simpa using fun h => e1 h.symm⟩)
        rcases hcs with hX | ⟨hX, n1⟩ | ⟨hX, e1, n2⟩ | ⟨hX, e1, e2, n3⟩
        · have hX' : rgG (t', a', s') (t, a, s) = (t, a, s) := (rgG_comm _ _).trans hX
          have j1 : rJoin t a s t' a' s' = .tuple #[.agg #[.int .i64 t, .int .i64 a, .string s], .int .i64 0] := (rJoin_yes (A := (t, a, s)) (B := (t', a', s')) okA okB).trans (by rw [hX]; rfl)
          have j2 : rJoin t' a' s' t a s = .tuple #[.agg #[.int .i64 t, .int .i64 a, .string s], .int .i64 0] := (rJoin_yes (A := (t', a', s')) (B := (t, a, s)) okB okA).trans (by rw [hX']; rfl)
          have jab := fun w => implRegJoin_any t a s t' a' s' w
          have pab := fun w => specRegJoin_any t a s t' a' s' w
          have jba := fun w => implRegJoin_any t' a' s' t a s w
          rw [j1] at jab pab
          rw [j2] at jba
          have okX : rgOk (t, a, s) = true := by rw [← hX]; exact rgG_ok okA okB
          clear j1 j2 hX'
          replace hB := below_then (below_then hB (.cells #[.int .i64 t, .int .i64 a, .string s] 26)) (.cells #[.int .i64 t', .int .i64 a', .string s'] 26)
          have HA := TrH.on (Tr.madeH w1 (.int .i64 t) (.int .i64 a) (.string s) 26) (below_alloc (w1.alloc (.cells #[.int .i64 t, .int .i64 a, .string s] 26)) (.cells #[.int .i64 t', .int .i64 a', .string s'] 26))
          have HB : Hid (Tr _ (w1.heap.size + 1) _ _ _) := tr_two w1 (.cells #[.int .i64 t, .int .i64 a, .string s] 26) (.int .i64 t') (.int .i64 a') (.string s') 26
          go_wp2_with fail
          refine (drawRegJoin_any w.heap.size _ _ ys hB.size (Rd.below hr1 hB) hX1 q1).mono ?_
          rintro e w2 ⟨t3, a3, s3, t9, a9, s9, rfl, hs3, hs9, hb'⟩
          replace hB := below_then (below_then (below_seq hB hb') (.cells #[.int .i64 t3, .int .i64 a3, .string s3] 26)) (.cells #[.int .i64 t9, .int .i64 a9, .string s9] 26)
          replace HA := TrH.on (TrH.on (TrH.on HA hb') (below_alloc w2 (.cells #[.int .i64 t3, .int .i64 a3, .string s3] 26))) (below_alloc (w2.alloc (.cells #[.int .i64 t3, .int .i64 a3, .string s3] 26)) (.cells #[.int .i64 t9, .int .i64 a9, .string s9] 26))
          replace HB := TrH.on (TrH.on (TrH.on HB hb') (below_alloc w2 (.cells #[.int .i64 t3, .int .i64 a3, .string s3] 26))) (below_alloc (w2.alloc (.cells #[.int .i64 t3, .int .i64 a3, .string s3] 26)) (.cells #[.int .i64 t9, .int .i64 a9, .string s9] 26))
          have HC := TrH.on (Tr.madeH w2 (.int .i64 t3) (.int .i64 a3) (.string s3) 26) (below_alloc (w2.alloc (.cells #[.int .i64 t3, .int .i64 a3, .string s3] 26)) (.cells #[.int .i64 t9, .int .i64 a9, .string s9] 26))
          clear hb'
          obtain ⟨⟨x0, x1, x2⟩, _⟩ := HA.out
          obtain ⟨⟨y0, y1, y2⟩, _⟩ := HB.out
          go_wp2_with fail
          refine (jab _).mono ?_
          rintro e w3 ⟨rfl, hb'⟩
          replace hB := below_then (below_seq hB hb') (.cells #[.int .i64 t, .int .i64 a, .string s] 26)
          replace HA := TrH.on (TrH.on HA hb') (below_alloc w3 (.cells #[.int .i64 t, .int .i64 a, .string s] 26))
          replace HB := TrH.on (TrH.on HB hb') (below_alloc w3 (.cells #[.int .i64 t, .int .i64 a, .string s] 26))
          replace HC := TrH.on (TrH.on HC hb') (below_alloc w3 (.cells #[.int .i64 t, .int .i64 a, .string s] 26))
          have HX := Tr.madeH w3 (.int .i64 t) (.int .i64 a) (.string s) 26
          clear hb'
          clear x0 x1 x2 y0 y1 y2
          obtain ⟨⟨x0, x1, x2⟩, _⟩ := HA.out
          obtain ⟨⟨y0, y1, y2⟩, _⟩ := HB.out
          go_wp2_with fail
          refine (pab _).mono ?_
          rintro e w4 ⟨rfl, hb'⟩
          replace hB := below_then (below_seq hB hb') (.cells #[.int .i64 t, .int .i64 a, .string s] 26)
          replace HA := TrH.on (TrH.on HA hb') (below_alloc w4 (.cells #[.int .i64 t, .int .i64 a, .string s] 26))
          replace HB := TrH.on (TrH.on HB hb') (below_alloc w4 (.cells #[.int .i64 t, .int .i64 a, .string s] 26))
          replace HC := TrH.on (TrH.on HC hb') (below_alloc w4 (.cells #[.int .i64 t, .int .i64 a, .string s] 26))
          replace HX := TrH.on (TrH.on HX hb') (below_alloc w4 (.cells #[.int .i64 t, .int .i64 a, .string s] 26))
          have HW := Tr.madeH w4 (.int .i64 t) (.int .i64 a) (.string s) 26
          clear hb'
          clear x0 x1 x2 y0 y1 y2
          obtain ⟨⟨z0, z1, z2⟩, _⟩ := HX.out
          obtain ⟨⟨x0, x1, x2⟩, _⟩ := HA.out
          obtain ⟨⟨y0, y1, y2⟩, _⟩ := HB.out
          go_wp2_with fail
          refine (jba _).mono ?_
          rintro e w5 ⟨rfl, hb'⟩
          replace hB := below_then (below_seq hB hb') (.cells #[.int .i64 t, .int .i64 a, .string s] 26)
          replace HA := TrH.on (TrH.on HA hb') (below_alloc w5 (.cells #[.int .i64 t, .int .i64 a, .string s] 26))
          replace HB := TrH.on (TrH.on HB hb') (below_alloc w5 (.cells #[.int .i64 t, .int .i64 a, .string s] 26))
          replace HC := TrH.on (TrH.on HC hb') (below_alloc w5 (.cells #[.int .i64 t, .int .i64 a, .string s] 26))
          replace HX := TrH.on (TrH.on HX hb') (below_alloc w5 (.cells #[.int .i64 t, .int .i64 a, .string s] 26))
          have HY := Tr.madeH w5 (.int .i64 t) (.int .i64 a) (.string s) 26
          clear hb'
          clear x0 x1 x2 y0 y1 y2 z0 z1 z2
          obtain ⟨⟨z0, z1, z2⟩, _⟩ := HX.out
          obtain ⟨⟨x0, x1, x2⟩, _⟩ := HA.out
          obtain ⟨⟨y0, y1, y2⟩, _⟩ := HB.out
          obtain ⟨⟨v0, v1, v2⟩, _⟩ := HC.out
          cases okC : rgOk (t3, a3, s3) with
          | false =>
            have j3 : rJoin t' a' s' t3 a3 s3 = _ := rJoin_no (A := (t', a', s')) (B := (t3, a3, s3)) (by rw [okC, Bool.and_false])
            have jbc := fun w => implRegJoin_any t' a' s' t3 a3 s3 w
            have pbc := fun w => specRegJoin_any t' a' s' t3 a3 s3 w
            rw [j3] at jbc pbc
            clear j3
            go_wp2_with fail
            refine (jbc _).mono ?_
            rintro e w6 ⟨rfl, hb'⟩
            replace hB := below_then (below_seq hB hb') (.cells #[.int .i64 0, .int .i64 0, .string ⟨#[]⟩] 26)
            replace HB := TrH.on (TrH.on HB hb') (below_alloc w6 (.cells #[.int .i64 0, .int .i64 0, .string ⟨#[]⟩] 26))
            replace HC := TrH.on (TrH.on HC hb') (below_alloc w6 (.cells #[.int .i64 0, .int .i64 0, .string ⟨#[]⟩] 26))
            have HK := Tr.madeH w6 (.int .i64 0) (.int .i64 0) (.string ⟨#[]⟩) 26
            clear hb'
            clear x0 x1 x2 y0 y1 y2 z0 z1 z2 v0 v1 v2
            obtain ⟨⟨y0, y1, y2⟩, _⟩ := HB.out
            obtain ⟨⟨v0, v1, v2⟩, _⟩ := HC.out
            go_wp2_with fail
            refine (pbc _).mono ?_
            rintro e w7 ⟨rfl, hb'⟩
            replace hB := below_then (below_seq hB hb') (.cells #[.int .i64 0, .int .i64 0, .string ⟨#[]⟩] 26)
            have HL := Tr.madeH w7 (.int .i64 0) (.int .i64 0) (.string ⟨#[]⟩) 26
            clear hb'
            go_wp2_with fail
            go_ret
            exact ⟨rfl, hB⟩
          | true =>
            obtain ⟨t4, a4, s4, hK⟩ : ∃ t4 a4 s4, rgG (t', a', s') (t3, a3, s3) = (t4, a4, s4) := ⟨_, _, _, rfl⟩
            obtain ⟨t5, a5, s5, hU⟩ : ∃ t5 a5 s5, rgG (t, a, s) (t3, a3, s3) = (t5, a5, s5) := ⟨_, _, _, rfl⟩
            have hU' : rgG (t, a, s) (t4, a4, s4) = (t5, a5, s5) := by rw [← hK, ← rgG_assoc, hX]; exact hU
            have okK : rgOk (t4, a4, s4) = true := by rw [← hK]; exact rgG_ok okB okC
            have j3 : rJoin t' a' s' t3 a3 s3 = .tuple #[.agg #[.int .i64 t4, .int .i64 a4, .string s4], .int .i64 0] := (rJoin_yes (A := (t', a', s')) (B := (t3, a3, s3)) okB okC).trans (by rw [hK]; rfl)
            have j4 : rJoin t a s t3 a3 s3 = .tuple #[.agg #[.int .i64 t5, .int .i64 a5, .string s5], .int .i64 0] := (rJoin_yes (A := (t, a, s)) (B := (t3, a3, s3)) okX okC).trans (by rw [hU]; rfl)
            have j5 : rJoin t a s t4 a4 s4 = .tuple #[.agg #[.int .i64 t5, .int .i64 a5, .string s5], .int .i64 0] := (rJoin_yes (A := (t, a, s)) (B := (t4, a4, s4)) okA okK).trans (by rw [hU']; rfl)
            have jbc := fun w => implRegJoin_any t' a' s' t3 a3 s3 w
            have pbc := fun w => specRegJoin_any t' a' s' t3 a3 s3 w
            have jxc := fun w => implRegJoin_any t a s t3 a3 s3 w
            have jak := fun w => implRegJoin_any t a s t4 a4 s4 w
            rw [j3] at jbc pbc
            rw [j4] at jxc
            rw [j5] at jak
            clear j3 j4 j5 hK hU hU' okK okC okX okA okB hX
            go_wp2_with fail
            refine (jbc _).mono ?_
            rintro e w6 ⟨rfl, hb'⟩
            replace hB := below_then (below_seq hB hb') (.cells #[.int .i64 t4, .int .i64 a4, .string s4] 26)
            replace HA := TrH.on (TrH.on HA hb') (below_alloc w6 (.cells #[.int .i64 t4, .int .i64 a4, .string s4] 26))
            replace HB := TrH.on (TrH.on HB hb') (below_alloc w6 (.cells #[.int .i64 t4, .int .i64 a4, .string s4] 26))
            replace HC := TrH.on (TrH.on HC hb') (below_alloc w6 (.cells #[.int .i64 t4, .int .i64 a4, .string s4] 26))
            replace HX := TrH.on (TrH.on HX hb') (below_alloc w6 (.cells #[.int .i64 t4, .int .i64 a4, .string s4] 26))
            have HK := Tr.madeH w6 (.int .i64 t4) (.int .i64 a4) (.string s4) 26
            clear hb'
            clear x0 x1 x2 y0 y1 y2 z0 z1 z2 v0 v1 v2
            obtain ⟨⟨y0, y1, y2⟩, _⟩ := HB.out
            obtain ⟨⟨v0, v1, v2⟩, _⟩ := HC.out
            go_wp2_with fail
            refine (pbc _).mono ?_
            rintro e w7 ⟨rfl, hb'⟩
            replace hB := below_then (below_seq hB hb') (.cells #[.int .i64 t4, .int .i64 a4, .string s4] 26)
            replace HA := TrH.on (TrH.on HA hb') (below_alloc w7 (.cells #[.int .i64 t4, .int .i64 a4, .string s4] 26))
            replace HC := TrH.on (TrH.on HC hb') (below_alloc w7 (.cells #[.int .i64 t4, .int .i64 a4, .string s4] 26))
            replace HX := TrH.on (TrH.on HX hb') (below_alloc w7 (.cells #[.int .i64 t4, .int .i64 a4, .string s4] 26))
            replace HK := TrH.on (TrH.on HK hb') (below_alloc w7 (.cells #[.int .i64 t4, .int .i64 a4, .string s4] 26))
            have HL := Tr.madeH w7 (.int .i64 t4) (.int .i64 a4) (.string s4) 26
            clear hb'
            clear y0 y1 y2 v0 v1 v2
            obtain ⟨⟨z0, z1, z2⟩, _⟩ := HX.out
            obtain ⟨⟨v0, v1, v2⟩, _⟩ := HC.out
            go_wp2_with fail
            refine (jxc _).mono ?_
            rintro e w8 ⟨rfl, hb'⟩
            replace hB := below_then (below_seq hB hb') (.cells #[.int .i64 t5, .int .i64 a5, .string s5] 26)
            replace HA := TrH.on (TrH.on HA hb') (below_alloc w8 (.cells #[.int .i64 t5, .int .i64 a5, .string s5] 26))
            replace HK := TrH.on (TrH.on HK hb') (below_alloc w8 (.cells #[.int .i64 t5, .int .i64 a5, .string s5] 26))
            have HU := Tr.madeH w8 (.int .i64 t5) (.int .i64 a5) (.string s5) 26
            clear hb'
            clear z0 z1 z2 v0 v1 v2
            obtain ⟨⟨x0, x1, x2⟩, _⟩ := HA.out
            obtain ⟨⟨y0, y1, y2⟩, _⟩ := HK.out
            go_wp2_with fail
            refine (jak _).mono ?_
            rintro e w9 ⟨rfl, hb'⟩
            replace hB := below_then (below_seq hB hb') (.cells #[.int .i64 t5, .int .i64 a5, .string s5] 26)
            replace HU := TrH.on (TrH.on HU hb') (below_alloc w9 (.cells #[.int .i64 t5, .int .i64 a5, .string s5] 26))
            have HV := Tr.madeH w9 (.int .i64 t5) (.int .i64 a5) (.string s5) 26
            clear hb'
            clear x0 x1 x2 y0 y1 y2
            obtain ⟨⟨x0, x1, x2⟩, _⟩ := HU.out
            go_wp2_with fail
            go_ret
            exact ⟨rfl, hB⟩
        · have hX' : rgG (t', a', s') (t, a, s) = (t', a', s') := (rgG_comm _ _).trans hX
          have j1 : rJoin t a s t' a' s' = .tuple #[.agg #[.int .i64 t', .int .i64 a', .string s'], .int .i64 0] := (rJoin_yes (A := (t, a, s)) (B := (t', a', s')) okA okB).trans (by rw [hX]; rfl)
          have j2 : rJoin t' a' s' t a s = .tuple #[.agg #[.int .i64 t', .int .i64 a', .string s'], .int .i64 0] := (rJoin_yes (A := (t', a', s')) (B := (t, a, s)) okB okA).trans (by rw [hX']; rfl)
          have jab := fun w => implRegJoin_any t a s t' a' s' w
          have pab := fun w => specRegJoin_any t a s t' a' s' w
          have jba := fun w => implRegJoin_any t' a' s' t a s w
          rw [j1] at jab pab
          rw [j2] at jba
          have okX : rgOk (t', a', s') = true := by rw [← hX]; exact rgG_ok okA okB
          clear j1 j2 hX'
          replace hB := below_then (below_then hB (.cells #[.int .i64 t, .int .i64 a, .string s] 26)) (.cells #[.int .i64 t', .int .i64 a', .string s'] 26)
          have HA := TrH.on (Tr.madeH w1 (.int .i64 t) (.int .i64 a) (.string s) 26) (below_alloc (w1.alloc (.cells #[.int .i64 t, .int .i64 a, .string s] 26)) (.cells #[.int .i64 t', .int .i64 a', .string s'] 26))
          have HB : Hid (Tr _ (w1.heap.size + 1) _ _ _) := tr_two w1 (.cells #[.int .i64 t, .int .i64 a, .string s] 26) (.int .i64 t') (.int .i64 a') (.string s') 26
          go_wp2_with fail
          refine (drawRegJoin_any w.heap.size _ _ ys hB.size (Rd.below hr1 hB) hX1 q1).mono ?_
          rintro e w2 ⟨t3, a3, s3, t9, a9, s9, rfl, hs3, hs9, hb'⟩
          replace hB := below_then (below_then (below_seq hB hb') (.cells #[.int .i64 t3, .int .i64 a3, .string s3] 26)) (.cells #[.int .i64 t9, .int .i64 a9, .string s9] 26)
          replace HA := TrH.on (TrH.on (TrH.on HA hb') (below_alloc w2 (.cells #[.int .i64 t3, .int .i64 a3, .string s3] 26))) (below_alloc (w2.alloc (.cells #[.int .i64 t3, .int .i64 a3, .string s3] 26)) (.cells #[.int .i64 t9, .int .i64 a9, .string s9] 26))
          replace HB := TrH.on (TrH.on (TrH.on HB hb') (below_alloc w2 (.cells #[.int .i64 t3, .int .i64 a3, .string s3] 26))) (below_alloc (w2.alloc (.cells #[.int .i64 t3, .int .i64 a3, .string s3] 26)) (.cells #[.int .i64 t9, .int .i64 a9, .string s9] 26))
          have HC := TrH.on (Tr.madeH w2 (.int .i64 t3) (.int .i64 a3) (.string s3) 26) (below_alloc (w2.alloc (.cells #[.int .i64 t3, .int .i64 a3, .string s3] 26)) (.cells #[.int .i64 t9, .int .i64 a9, .string s9] 26))
          clear hb'
          obtain ⟨⟨x0, x1, x2⟩, _⟩ := HA.out
          obtain ⟨⟨y0, y1, y2⟩, _⟩ := HB.out
          go_wp2_with fail
          refine (jab _).mono ?_
          rintro e w3 ⟨rfl, hb'⟩
          replace hB := below_then (below_seq hB hb') (.cells #[.int .i64 t', .int .i64 a', .string s'] 26)
          replace HA := TrH.on (TrH.on HA hb') (below_alloc w3 (.cells #[.int .i64 t', .int .i64 a', .string s'] 26))
          replace HB := TrH.on (TrH.on HB hb') (below_alloc w3 (.cells #[.int .i64 t', .int .i64 a', .string s'] 26))
          replace HC := TrH.on (TrH.on HC hb') (below_alloc w3 (.cells #[.int .i64 t', .int .i64 a', .string s'] 26))
          have HX := Tr.madeH w3 (.int .i64 t') (.int .i64 a') (.string s') 26
          clear hb'
          clear x0 x1 x2 y0 y1 y2
          obtain ⟨⟨x0, x1, x2⟩, _⟩ := HA.out
          obtain ⟨⟨y0, y1, y2⟩, _⟩ := HB.out
          go_wp2_with fail
          refine (pab _).mono ?_
          rintro e w4 ⟨rfl, hb'⟩
          replace hB := below_then (below_seq hB hb') (.cells #[.int .i64 t', .int .i64 a', .string s'] 26)
          replace HA := TrH.on (TrH.on HA hb') (below_alloc w4 (.cells #[.int .i64 t', .int .i64 a', .string s'] 26))
          replace HB := TrH.on (TrH.on HB hb') (below_alloc w4 (.cells #[.int .i64 t', .int .i64 a', .string s'] 26))
          replace HC := TrH.on (TrH.on HC hb') (below_alloc w4 (.cells #[.int .i64 t', .int .i64 a', .string s'] 26))
          replace HX := TrH.on (TrH.on HX hb') (below_alloc w4 (.cells #[.int .i64 t', .int .i64 a', .string s'] 26))
          have HW := Tr.madeH w4 (.int .i64 t') (.int .i64 a') (.string s') 26
          clear hb'
          clear x0 x1 x2 y0 y1 y2
          obtain ⟨⟨z0, z1, z2⟩, _⟩ := HX.out
          obtain ⟨⟨x0, x1, x2⟩, _⟩ := HA.out
          obtain ⟨⟨y0, y1, y2⟩, _⟩ := HB.out
          go_wp2_with fail
          refine (jba _).mono ?_
          rintro e w5 ⟨rfl, hb'⟩
          replace hB := below_then (below_seq hB hb') (.cells #[.int .i64 t', .int .i64 a', .string s'] 26)
          replace HA := TrH.on (TrH.on HA hb') (below_alloc w5 (.cells #[.int .i64 t', .int .i64 a', .string s'] 26))
          replace HB := TrH.on (TrH.on HB hb') (below_alloc w5 (.cells #[.int .i64 t', .int .i64 a', .string s'] 26))
          replace HC := TrH.on (TrH.on HC hb') (below_alloc w5 (.cells #[.int .i64 t', .int .i64 a', .string s'] 26))
          replace HX := TrH.on (TrH.on HX hb') (below_alloc w5 (.cells #[.int .i64 t', .int .i64 a', .string s'] 26))
          have HY := Tr.madeH w5 (.int .i64 t') (.int .i64 a') (.string s') 26
          clear hb'
          clear x0 x1 x2 y0 y1 y2 z0 z1 z2
          obtain ⟨⟨z0, z1, z2⟩, _⟩ := HX.out
          obtain ⟨⟨x0, x1, x2⟩, _⟩ := HA.out
          obtain ⟨⟨y0, y1, y2⟩, _⟩ := HB.out
          obtain ⟨⟨v0, v1, v2⟩, _⟩ := HC.out
          cases okC : rgOk (t3, a3, s3) with
          | false =>
            have j3 : rJoin t' a' s' t3 a3 s3 = _ := rJoin_no (A := (t', a', s')) (B := (t3, a3, s3)) (by rw [okC, Bool.and_false])
            have jbc := fun w => implRegJoin_any t' a' s' t3 a3 s3 w
            have pbc := fun w => specRegJoin_any t' a' s' t3 a3 s3 w
            rw [j3] at jbc pbc
            clear j3
            go_wp2_with fail
            refine (jbc _).mono ?_
            rintro e w6 ⟨rfl, hb'⟩
            replace hB := below_then (below_seq hB hb') (.cells #[.int .i64 0, .int .i64 0, .string ⟨#[]⟩] 26)
            replace HB := TrH.on (TrH.on HB hb') (below_alloc w6 (.cells #[.int .i64 0, .int .i64 0, .string ⟨#[]⟩] 26))
            replace HC := TrH.on (TrH.on HC hb') (below_alloc w6 (.cells #[.int .i64 0, .int .i64 0, .string ⟨#[]⟩] 26))
            have HK := Tr.madeH w6 (.int .i64 0) (.int .i64 0) (.string ⟨#[]⟩) 26
            clear hb'
            clear x0 x1 x2 y0 y1 y2 z0 z1 z2 v0 v1 v2
            obtain ⟨⟨y0, y1, y2⟩, _⟩ := HB.out
            obtain ⟨⟨v0, v1, v2⟩, _⟩ := HC.out
            go_wp2_with fail
            refine (pbc _).mono ?_
            rintro e w7 ⟨rfl, hb'⟩
            replace hB := below_then (below_seq hB hb') (.cells #[.int .i64 0, .int .i64 0, .string ⟨#[]⟩] 26)
            have HL := Tr.madeH w7 (.int .i64 0) (.int .i64 0) (.string ⟨#[]⟩) 26
            clear hb'
            go_wp2_with fail
            go_ret
            exact ⟨rfl, hB⟩
          | true =>
            obtain ⟨t4, a4, s4, hK⟩ : ∃ t4 a4 s4, rgG (t', a', s') (t3, a3, s3) = (t4, a4, s4) := ⟨_, _, _, rfl⟩
            obtain ⟨t5, a5, s5, hU⟩ : ∃ t5 a5 s5, rgG (t', a', s') (t3, a3, s3) = (t5, a5, s5) := ⟨_, _, _, rfl⟩
            have hU' : rgG (t, a, s) (t4, a4, s4) = (t5, a5, s5) := by rw [← hK, ← rgG_assoc, hX]; exact hU
            have okK : rgOk (t4, a4, s4) = true := by rw [← hK]; exact rgG_ok okB okC
            have j3 : rJoin t' a' s' t3 a3 s3 = .tuple #[.agg #[.int .i64 t4, .int .i64 a4, .string s4], .int .i64 0] := (rJoin_yes (A := (t', a', s')) (B := (t3, a3, s3)) okB okC).trans (by rw [hK]; rfl)
            have j4 : rJoin t' a' s' t3 a3 s3 = .tuple #[.agg #[.int .i64 t5, .int .i64 a5, .string s5], .int .i64 0] := (rJoin_yes (A := (t', a', s')) (B := (t3, a3, s3)) okX okC).trans (by rw [hU]; rfl)
            have j5 : rJoin t a s t4 a4 s4 = .tuple #[.agg #[.int .i64 t5, .int .i64 a5, .string s5], .int .i64 0] := (rJoin_yes (A := (t, a, s)) (B := (t4, a4, s4)) okA okK).trans (by rw [hU']; rfl)
            have jbc := fun w => implRegJoin_any t' a' s' t3 a3 s3 w
            have pbc := fun w => specRegJoin_any t' a' s' t3 a3 s3 w
            have jxc := fun w => implRegJoin_any t' a' s' t3 a3 s3 w
            have jak := fun w => implRegJoin_any t a s t4 a4 s4 w
            rw [j3] at jbc pbc
            rw [j4] at jxc
            rw [j5] at jak
            clear j3 j4 j5 hK hU hU' okK okC okX okA okB hX
            go_wp2_with fail
            refine (jbc _).mono ?_
            rintro e w6 ⟨rfl, hb'⟩
            replace hB := below_then (below_seq hB hb') (.cells #[.int .i64 t4, .int .i64 a4, .string s4] 26)
            replace HA := TrH.on (TrH.on HA hb') (below_alloc w6 (.cells #[.int .i64 t4, .int .i64 a4, .string s4] 26))
            replace HB := TrH.on (TrH.on HB hb') (below_alloc w6 (.cells #[.int .i64 t4, .int .i64 a4, .string s4] 26))
            replace HC := TrH.on (TrH.on HC hb') (below_alloc w6 (.cells #[.int .i64 t4, .int .i64 a4, .string s4] 26))
            replace HX := TrH.on (TrH.on HX hb') (below_alloc w6 (.cells #[.int .i64 t4, .int .i64 a4, .string s4] 26))
            have HK := Tr.madeH w6 (.int .i64 t4) (.int .i64 a4) (.string s4) 26
            clear hb'
            clear x0 x1 x2 y0 y1 y2 z0 z1 z2 v0 v1 v2
            obtain ⟨⟨y0, y1, y2⟩, _⟩ := HB.out
            obtain ⟨⟨v0, v1, v2⟩, _⟩ := HC.out
            go_wp2_with fail
            refine (pbc _).mono ?_
            rintro e w7 ⟨rfl, hb'⟩
            replace hB := below_then (below_seq hB hb') (.cells #[.int .i64 t4, .int .i64 a4, .string s4] 26)
            replace HA := TrH.on (TrH.on HA hb') (below_alloc w7 (.cells #[.int .i64 t4, .int .i64 a4, .string s4] 26))
            replace HC := TrH.on (TrH.on HC hb') (below_alloc w7 (.cells #[.int .i64 t4, .int .i64 a4, .string s4] 26))
            replace HX := TrH.on (TrH.on HX hb') (below_alloc w7 (.cells #[.int .i64 t4, .int .i64 a4, .string s4] 26))
            replace HK := TrH.on (TrH.on HK hb') (below_alloc w7 (.cells #[.int .i64 t4, .int .i64 a4, .string s4] 26))
            have HL := Tr.madeH w7 (.int .i64 t4) (.int .i64 a4) (.string s4) 26
            clear hb'
            clear y0 y1 y2 v0 v1 v2
            obtain ⟨⟨z0, z1, z2⟩, _⟩ := HX.out
            obtain ⟨⟨v0, v1, v2⟩, _⟩ := HC.out
            go_wp2_with fail
            refine (jxc _).mono ?_
            rintro e w8 ⟨rfl, hb'⟩
            replace hB := below_then (below_seq hB hb') (.cells #[.int .i64 t5, .int .i64 a5, .string s5] 26)
            replace HA := TrH.on (TrH.on HA hb') (below_alloc w8 (.cells #[.int .i64 t5, .int .i64 a5, .string s5] 26))
            replace HK := TrH.on (TrH.on HK hb') (below_alloc w8 (.cells #[.int .i64 t5, .int .i64 a5, .string s5] 26))
            have HU := Tr.madeH w8 (.int .i64 t5) (.int .i64 a5) (.string s5) 26
            clear hb'
            clear z0 z1 z2 v0 v1 v2
            obtain ⟨⟨x0, x1, x2⟩, _⟩ := HA.out
            obtain ⟨⟨y0, y1, y2⟩, _⟩ := HK.out
            go_wp2_with fail
            refine (jak _).mono ?_
            rintro e w9 ⟨rfl, hb'⟩
            replace hB := below_then (below_seq hB hb') (.cells #[.int .i64 t5, .int .i64 a5, .string s5] 26)
            replace HU := TrH.on (TrH.on HU hb') (below_alloc w9 (.cells #[.int .i64 t5, .int .i64 a5, .string s5] 26))
            have HV := Tr.madeH w9 (.int .i64 t5) (.int .i64 a5) (.string s5) 26
            clear hb'
            clear x0 x1 x2 y0 y1 y2
            obtain ⟨⟨x0, x1, x2⟩, _⟩ := HU.out
            go_wp2_with fail
            go_ret
            exact ⟨rfl, hB⟩
        · subst e1
          have hX' : rgG (t, a', s') (t, a, s) = (t, a', s') := (rgG_comm _ _).trans hX
          have j1 : rJoin t a s t a' s' = .tuple #[.agg #[.int .i64 t, .int .i64 a', .string s'], .int .i64 0] := (rJoin_yes (A := (t, a, s)) (B := (t, a', s')) okA okB).trans (by rw [hX]; rfl)
          have j2 : rJoin t a' s' t a s = .tuple #[.agg #[.int .i64 t, .int .i64 a', .string s'], .int .i64 0] := (rJoin_yes (A := (t, a', s')) (B := (t, a, s)) okB okA).trans (by rw [hX']; rfl)
          have jab := fun w => implRegJoin_any t a s t a' s' w
          have pab := fun w => specRegJoin_any t a s t a' s' w
          have jba := fun w => implRegJoin_any t a' s' t a s w
          rw [j1] at jab pab
          rw [j2] at jba
          have okX : rgOk (t, a', s') = true := by rw [← hX]; exact rgG_ok okA okB
          clear j1 j2 hX'
          replace hB := below_then (below_then hB (.cells #[.int .i64 t, .int .i64 a, .string s] 26)) (.cells #[.int .i64 t, .int .i64 a', .string s'] 26)
          have HA := TrH.on (Tr.madeH w1 (.int .i64 t) (.int .i64 a) (.string s) 26) (below_alloc (w1.alloc (.cells #[.int .i64 t, .int .i64 a, .string s] 26)) (.cells #[.int .i64 t, .int .i64 a', .string s'] 26))
          have HB : Hid (Tr _ (w1.heap.size + 1) _ _ _) := tr_two w1 (.cells #[.int .i64 t, .int .i64 a, .string s] 26) (.int .i64 t) (.int .i64 a') (.string s') 26
          go_wp2_with fail
          refine (drawRegJoin_any w.heap.size _ _ ys hB.size (Rd.below hr1 hB) hX1 q1).mono ?_
          rintro e w2 ⟨t3, a3, s3, t9, a9, s9, rfl, hs3, hs9, hb'⟩
          replace hB := below_then (below_then (below_seq hB hb') (.cells #[.int .i64 t3, .int .i64 a3, .string s3] 26)) (.cells #[.int .i64 t9, .int .i64 a9, .string s9] 26)
          replace HA := TrH.on (TrH.on (TrH.on HA hb') (below_alloc w2 (.cells #[.int .i64 t3, .int .i64 a3, .string s3] 26))) (below_alloc (w2.alloc (.cells #[.int .i64 t3, .int .i64 a3, .string s3] 26)) (.cells #[.int .i64 t9, .int .i64 a9, .string s9] 26))
          replace HB := TrH.on (TrH.on (TrH.on HB hb') (below_alloc w2 (.cells #[.int .i64 t3, .int .i64 a3, .string s3] 26))) (below_alloc (w2.alloc (.cells #[.int .i64 t3, .int .i64 a3, .string s3] 26)) (.cells #[.int .i64 t9, .int .i64 a9, .string s9] 26))
          have HC := TrH.on (Tr.madeH w2 (.int .i64 t3) (.int .i64 a3) (.string s3) 26) (below_alloc (w2.alloc (.cells #[.int .i64 t3, .int .i64 a3, .string s3] 26)) (.cells #[.int .i64 t9, .int .i64 a9, .string s9] 26))
          clear hb'
          obtain ⟨⟨x0, x1, x2⟩, _⟩ := HA.out
          obtain ⟨⟨y0, y1, y2⟩, _⟩ := HB.out
          go_wp2_with fail
          refine (jab _).mono ?_
          rintro e w3 ⟨rfl, hb'⟩
          replace hB := below_then (below_seq hB hb') (.cells #[.int .i64 t, .int .i64 a', .string s'] 26)
          replace HA := TrH.on (TrH.on HA hb') (below_alloc w3 (.cells #[.int .i64 t, .int .i64 a', .string s'] 26))
          replace HB := TrH.on (TrH.on HB hb') (below_alloc w3 (.cells #[.int .i64 t, .int .i64 a', .string s'] 26))
          replace HC := TrH.on (TrH.on HC hb') (below_alloc w3 (.cells #[.int .i64 t, .int .i64 a', .string s'] 26))
          have HX := Tr.madeH w3 (.int .i64 t) (.int .i64 a') (.string s') 26
          clear hb'
          clear x0 x1 x2 y0 y1 y2
          obtain ⟨⟨x0, x1, x2⟩, _⟩ := HA.out
          obtain ⟨⟨y0, y1, y2⟩, _⟩ := HB.out
          go_wp2_with fail
          refine (pab _).mono ?_
          rintro e w4 ⟨rfl, hb'⟩
          replace hB := below_then (below_seq hB hb') (.cells #[.int .i64 t, .int .i64 a', .string s'] 26)
          replace HA := TrH.on (TrH.on HA hb') (below_alloc w4 (.cells #[.int .i64 t, .int .i64 a', .string s'] 26))
          replace HB := TrH.on (TrH.on HB hb') (below_alloc w4 (.cells #[.int .i64 t, .int .i64 a', .string s'] 26))
          replace HC := TrH.on (TrH.on HC hb') (below_alloc w4 (.cells #[.int .i64 t, .int .i64 a', .string s'] 26))
          replace HX := TrH.on (TrH.on HX hb') (below_alloc w4 (.cells #[.int .i64 t, .int .i64 a', .string s'] 26))
          have HW := Tr.madeH w4 (.int .i64 t) (.int .i64 a') (.string s') 26
          clear hb'
          clear x0 x1 x2 y0 y1 y2
          obtain ⟨⟨z0, z1, z2⟩, _⟩ := HX.out
          obtain ⟨⟨x0, x1, x2⟩, _⟩ := HA.out
          obtain ⟨⟨y0, y1, y2⟩, _⟩ := HB.out
          go_wp2_with fail
          refine (jba _).mono ?_
          rintro e w5 ⟨rfl, hb'⟩
          replace hB := below_then (below_seq hB hb') (.cells #[.int .i64 t, .int .i64 a', .string s'] 26)
          replace HA := TrH.on (TrH.on HA hb') (below_alloc w5 (.cells #[.int .i64 t, .int .i64 a', .string s'] 26))
          replace HB := TrH.on (TrH.on HB hb') (below_alloc w5 (.cells #[.int .i64 t, .int .i64 a', .string s'] 26))
          replace HC := TrH.on (TrH.on HC hb') (below_alloc w5 (.cells #[.int .i64 t, .int .i64 a', .string s'] 26))
          replace HX := TrH.on (TrH.on HX hb') (below_alloc w5 (.cells #[.int .i64 t, .int .i64 a', .string s'] 26))
          have HY := Tr.madeH w5 (.int .i64 t) (.int .i64 a') (.string s') 26
          clear hb'
          clear x0 x1 x2 y0 y1 y2 z0 z1 z2
          obtain ⟨⟨z0, z1, z2⟩, _⟩ := HX.out
          obtain ⟨⟨x0, x1, x2⟩, _⟩ := HA.out
          obtain ⟨⟨y0, y1, y2⟩, _⟩ := HB.out
          obtain ⟨⟨v0, v1, v2⟩, _⟩ := HC.out
          cases okC : rgOk (t3, a3, s3) with
          | false =>
            have j3 : rJoin t a' s' t3 a3 s3 = _ := rJoin_no (A := (t, a', s')) (B := (t3, a3, s3)) (by rw [okC, Bool.and_false])
            have jbc := fun w => implRegJoin_any t a' s' t3 a3 s3 w
            have pbc := fun w => specRegJoin_any t a' s' t3 a3 s3 w
            rw [j3] at jbc pbc
            clear j3
            go_wp2_with fail
            refine (jbc _).mono ?_
            rintro e w6 ⟨rfl, hb'⟩
            replace hB := below_then (below_seq hB hb') (.cells #[.int .i64 0, .int .i64 0, .string ⟨#[]⟩] 26)
            replace HB := TrH.on (TrH.on HB hb') (below_alloc w6 (.cells #[.int .i64 0, .int .i64 0, .string ⟨#[]⟩] 26))
            replace HC := TrH.on (TrH.on HC hb') (below_alloc w6 (.cells #[.int .i64 0, .int .i64 0, .string ⟨#[]⟩] 26))
            have HK := Tr.madeH w6 (.int .i64 0) (.int .i64 0) (.string ⟨#[]⟩) 26
            clear hb'
            clear x0 x1 x2 y0 y1 y2 z0 z1 z2 v0 v1 v2
            obtain ⟨⟨y0, y1, y2⟩, _⟩ := HB.out
            obtain ⟨⟨v0, v1, v2⟩, _⟩ := HC.out
            go_wp2_with fail
            refine (pbc _).mono ?_
            rintro e w7 ⟨rfl, hb'⟩
            replace hB := below_then (below_seq hB hb') (.cells #[.int .i64 0, .int .i64 0, .string ⟨#[]⟩] 26)
            have HL := Tr.madeH w7 (.int .i64 0) (.int .i64 0) (.string ⟨#[]⟩) 26
            clear hb'
            go_wp2_with fail
            go_ret
            exact ⟨rfl, hB⟩
          | true =>
            obtain ⟨t4, a4, s4, hK⟩ : ∃ t4 a4 s4, rgG (t, a', s') (t3, a3, s3) = (t4, a4, s4) := ⟨_, _, _, rfl⟩
            obtain ⟨t5, a5, s5, hU⟩ : ∃ t5 a5 s5, rgG (t, a', s') (t3, a3, s3) = (t5, a5, s5) := ⟨_, _, _, rfl⟩
            have hU' : rgG (t, a, s) (t4, a4, s4) = (t5, a5, s5) := by rw [← hK, ← rgG_assoc, hX]; exact hU
            have okK : rgOk (t4, a4, s4) = true := by rw [← hK]; exact rgG_ok okB okC
            have j3 : rJoin t a' s' t3 a3 s3 = .tuple #[.agg #[.int .i64 t4, .int .i64 a4, .string s4], .int .i64 0] := (rJoin_yes (A := (t, a', s')) (B := (t3, a3, s3)) okB okC).trans (by rw [hK]; rfl)
            have j4 : rJoin t a' s' t3 a3 s3 = .tuple #[.agg #[.int .i64 t5, .int .i64 a5, .string s5], .int .i64 0] := (rJoin_yes (A := (t, a', s')) (B := (t3, a3, s3)) okX okC).trans (by rw [hU]; rfl)
            have j5 : rJoin t a s t4 a4 s4 = .tuple #[.agg #[.int .i64 t5, .int .i64 a5, .string s5], .int .i64 0] := (rJoin_yes (A := (t, a, s)) (B := (t4, a4, s4)) okA okK).trans (by rw [hU']; rfl)
            have jbc := fun w => implRegJoin_any t a' s' t3 a3 s3 w
            have pbc := fun w => specRegJoin_any t a' s' t3 a3 s3 w
            have jxc := fun w => implRegJoin_any t a' s' t3 a3 s3 w
            have jak := fun w => implRegJoin_any t a s t4 a4 s4 w
            rw [j3] at jbc pbc
            rw [j4] at jxc
            rw [j5] at jak
            clear j3 j4 j5 hK hU hU' okK okC okX okA okB hX
            go_wp2_with fail
            refine (jbc _).mono ?_
            rintro e w6 ⟨rfl, hb'⟩
            replace hB := below_then (below_seq hB hb') (.cells #[.int .i64 t4, .int .i64 a4, .string s4] 26)
            replace HA := TrH.on (TrH.on HA hb') (below_alloc w6 (.cells #[.int .i64 t4, .int .i64 a4, .string s4] 26))
            replace HB := TrH.on (TrH.on HB hb') (below_alloc w6 (.cells #[.int .i64 t4, .int .i64 a4, .string s4] 26))
            replace HC := TrH.on (TrH.on HC hb') (below_alloc w6 (.cells #[.int .i64 t4, .int .i64 a4, .string s4] 26))
            replace HX := TrH.on (TrH.on HX hb') (below_alloc w6 (.cells #[.int .i64 t4, .int .i64 a4, .string s4] 26))
            have HK := Tr.madeH w6 (.int .i64 t4) (.int .i64 a4) (.string s4) 26
            clear hb'
            clear x0 x1 x2 y0 y1 y2 z0 z1 z2 v0 v1 v2
            obtain ⟨⟨y0, y1, y2⟩, _⟩ := HB.out
            obtain ⟨⟨v0, v1, v2⟩, _⟩ := HC.out
            go_wp2_with fail
            refine (pbc _).mono ?_
            rintro e w7 ⟨rfl, hb'⟩
            replace hB := below_then (below_seq hB hb') (.cells #[.int .i64 t4, .int .i64 a4, .string s4] 26)
            replace HA := TrH.on (TrH.on HA hb') (below_alloc w7 (.cells #[.int .i64 t4, .int .i64 a4, .string s4] 26))
            replace HC := TrH.on (TrH.on HC hb') (below_alloc w7 (.cells #[.int .i64 t4, .int .i64 a4, .string s4] 26))
            replace HX := TrH.on (TrH.on HX hb') (below_alloc w7 (.cells #[.int .i64 t4, .int .i64 a4, .string s4] 26))
            replace HK := TrH.on (TrH.on HK hb') (below_alloc w7 (.cells #[.int .i64 t4, .int .i64 a4, .string s4] 26))
            have HL := Tr.madeH w7 (.int .i64 t4) (.int .i64 a4) (.string s4) 26
            clear hb'
            clear y0 y1 y2 v0 v1 v2
            obtain ⟨⟨z0, z1, z2⟩, _⟩ := HX.out
            obtain ⟨⟨v0, v1, v2⟩, _⟩ := HC.out
            go_wp2_with fail
            refine (jxc _).mono ?_
            rintro e w8 ⟨rfl, hb'⟩
            replace hB := below_then (below_seq hB hb') (.cells #[.int .i64 t5, .int .i64 a5, .string s5] 26)
            replace HA := TrH.on (TrH.on HA hb') (below_alloc w8 (.cells #[.int .i64 t5, .int .i64 a5, .string s5] 26))
            replace HK := TrH.on (TrH.on HK hb') (below_alloc w8 (.cells #[.int .i64 t5, .int .i64 a5, .string s5] 26))
            have HU := Tr.madeH w8 (.int .i64 t5) (.int .i64 a5) (.string s5) 26
            clear hb'
            clear z0 z1 z2 v0 v1 v2
            obtain ⟨⟨x0, x1, x2⟩, _⟩ := HA.out
            obtain ⟨⟨y0, y1, y2⟩, _⟩ := HK.out
            go_wp2_with fail
            refine (jak _).mono ?_
            rintro e w9 ⟨rfl, hb'⟩
            replace hB := below_then (below_seq hB hb') (.cells #[.int .i64 t5, .int .i64 a5, .string s5] 26)
            replace HU := TrH.on (TrH.on HU hb') (below_alloc w9 (.cells #[.int .i64 t5, .int .i64 a5, .string s5] 26))
            have HV := Tr.madeH w9 (.int .i64 t5) (.int .i64 a5) (.string s5) 26
            clear hb'
            clear x0 x1 x2 y0 y1 y2
            obtain ⟨⟨x0, x1, x2⟩, _⟩ := HU.out
            go_wp2_with fail
            go_ret
            exact ⟨rfl, hB⟩
        · subst e1
          subst e2
          have hX' : rgG (t, a, s') (t, a, s) = (t, a, s') := (rgG_comm _ _).trans hX
          have j1 : rJoin t a s t a s' = .tuple #[.agg #[.int .i64 t, .int .i64 a, .string s'], .int .i64 0] := (rJoin_yes (A := (t, a, s)) (B := (t, a, s')) okA okB).trans (by rw [hX]; rfl)
          have j2 : rJoin t a s' t a s = .tuple #[.agg #[.int .i64 t, .int .i64 a, .string s'], .int .i64 0] := (rJoin_yes (A := (t, a, s')) (B := (t, a, s)) okB okA).trans (by rw [hX']; rfl)
          have jab := fun w => implRegJoin_any t a s t a s' w
          have pab := fun w => specRegJoin_any t a s t a s' w
          have jba := fun w => implRegJoin_any t a s' t a s w
          rw [j1] at jab pab
          rw [j2] at jba
          have okX : rgOk (t, a, s') = true := by rw [← hX]; exact rgG_ok okA okB
          clear j1 j2 hX'
          replace hB := below_then (below_then hB (.cells #[.int .i64 t, .int .i64 a, .string s] 26)) (.cells #[.int .i64 t, .int .i64 a, .string s'] 26)
          have HA := TrH.on (Tr.madeH w1 (.int .i64 t) (.int .i64 a) (.string s) 26) (below_alloc (w1.alloc (.cells #[.int .i64 t, .int .i64 a, .string s] 26)) (.cells #[.int .i64 t, .int .i64 a, .string s'] 26))
          have HB : Hid (Tr _ (w1.heap.size + 1) _ _ _) := tr_two w1 (.cells #[.int .i64 t, .int .i64 a, .string s] 26) (.int .i64 t) (.int .i64 a) (.string s') 26
          go_wp2_with fail
          refine (drawRegJoin_any w.heap.size _ _ ys hB.size (Rd.below hr1 hB) hX1 q1).mono ?_
          rintro e w2 ⟨t3, a3, s3, t9, a9, s9, rfl, hs3, hs9, hb'⟩
          replace hB := below_then (below_then (below_seq hB hb') (.cells #[.int .i64 t3, .int .i64 a3, .string s3] 26)) (.cells #[.int .i64 t9, .int .i64 a9, .string s9] 26)
          replace HA := TrH.on (TrH.on (TrH.on HA hb') (below_alloc w2 (.cells #[.int .i64 t3, .int .i64 a3, .string s3] 26))) (below_alloc (w2.alloc (.cells #[.int .i64 t3, .int .i64 a3, .string s3] 26)) (.cells #[.int .i64 t9, .int .i64 a9, .string s9] 26))
          replace HB := TrH.on (TrH.on (TrH.on HB hb') (below_alloc w2 (.cells #[.int .i64 t3, .int .i64 a3, .string s3] 26))) (below_alloc (w2.alloc (.cells #[.int .i64 t3, .int .i64 a3, .string s3] 26)) (.cells #[.int .i64 t9, .int .i64 a9, .string s9] 26))
          have HC := TrH.on (Tr.madeH w2 (.int .i64 t3) (.int .i64 a3) (.string s3) 26) (below_alloc (w2.alloc (.cells #[.int .i64 t3, .int .i64 a3, .string s3] 26)) (.cells #[.int .i64 t9, .int .i64 a9, .string s9] 26))
          clear hb'
          obtain ⟨⟨x0, x1, x2⟩, _⟩ := HA.out
          obtain ⟨⟨y0, y1, y2⟩, _⟩ := HB.out
          go_wp2_with fail
          refine (jab _).mono ?_
          rintro e w3 ⟨rfl, hb'⟩
          replace hB := below_then (below_seq hB hb') (.cells #[.int .i64 t, .int .i64 a, .string s'] 26)
          replace HA := TrH.on (TrH.on HA hb') (below_alloc w3 (.cells #[.int .i64 t, .int .i64 a, .string s'] 26))
          replace HB := TrH.on (TrH.on HB hb') (below_alloc w3 (.cells #[.int .i64 t, .int .i64 a, .string s'] 26))
          replace HC := TrH.on (TrH.on HC hb') (below_alloc w3 (.cells #[.int .i64 t, .int .i64 a, .string s'] 26))
          have HX := Tr.madeH w3 (.int .i64 t) (.int .i64 a) (.string s') 26
          clear hb'
          clear x0 x1 x2 y0 y1 y2
          obtain ⟨⟨x0, x1, x2⟩, _⟩ := HA.out
          obtain ⟨⟨y0, y1, y2⟩, _⟩ := HB.out
          go_wp2_with fail
          refine (pab _).mono ?_
          rintro e w4 ⟨rfl, hb'⟩
          replace hB := below_then (below_seq hB hb') (.cells #[.int .i64 t, .int .i64 a, .string s'] 26)
          replace HA := TrH.on (TrH.on HA hb') (below_alloc w4 (.cells #[.int .i64 t, .int .i64 a, .string s'] 26))
          replace HB := TrH.on (TrH.on HB hb') (below_alloc w4 (.cells #[.int .i64 t, .int .i64 a, .string s'] 26))
          replace HC := TrH.on (TrH.on HC hb') (below_alloc w4 (.cells #[.int .i64 t, .int .i64 a, .string s'] 26))
          replace HX := TrH.on (TrH.on HX hb') (below_alloc w4 (.cells #[.int .i64 t, .int .i64 a, .string s'] 26))
          have HW := Tr.madeH w4 (.int .i64 t) (.int .i64 a) (.string s') 26
          clear hb'
          clear x0 x1 x2 y0 y1 y2
          obtain ⟨⟨z0, z1, z2⟩, _⟩ := HX.out
          obtain ⟨⟨x0, x1, x2⟩, _⟩ := HA.out
          obtain ⟨⟨y0, y1, y2⟩, _⟩ := HB.out
          go_wp2_with fail
          refine (jba _).mono ?_
          rintro e w5 ⟨rfl, hb'⟩
          replace hB := below_then (below_seq hB hb') (.cells #[.int .i64 t, .int .i64 a, .string s'] 26)
          replace HA := TrH.on (TrH.on HA hb') (below_alloc w5 (.cells #[.int .i64 t, .int .i64 a, .string s'] 26))
          replace HB := TrH.on (TrH.on HB hb') (below_alloc w5 (.cells #[.int .i64 t, .int .i64 a, .string s'] 26))
          replace HC := TrH.on (TrH.on HC hb') (below_alloc w5 (.cells #[.int .i64 t, .int .i64 a, .string s'] 26))
          replace HX := TrH.on (TrH.on HX hb') (below_alloc w5 (.cells #[.int .i64 t, .int .i64 a, .string s'] 26))
          have HY := Tr.madeH w5 (.int .i64 t) (.int .i64 a) (.string s') 26
          clear hb'
          clear x0 x1 x2 y0 y1 y2 z0 z1 z2
          obtain ⟨⟨z0, z1, z2⟩, _⟩ := HX.out
          obtain ⟨⟨x0, x1, x2⟩, _⟩ := HA.out
          obtain ⟨⟨y0, y1, y2⟩, _⟩ := HB.out
          obtain ⟨⟨v0, v1, v2⟩, _⟩ := HC.out
          cases okC : rgOk (t3, a3, s3) with
          | false =>
            have j3 : rJoin t a s' t3 a3 s3 = _ := rJoin_no (A := (t, a, s')) (B := (t3, a3, s3)) (by rw [okC, Bool.and_false])
            have jbc := fun w => implRegJoin_any t a s' t3 a3 s3 w
            have pbc := fun w => specRegJoin_any t a s' t3 a3 s3 w
            rw [j3] at jbc pbc
            clear j3
            go_wp2_with fail
            refine (jbc _).mono ?_
            rintro e w6 ⟨rfl, hb'⟩
            replace hB := below_then (below_seq hB hb') (.cells #[.int .i64 0, .int .i64 0, .string ⟨#[]⟩] 26)
            replace HB := TrH.on (TrH.on HB hb') (below_alloc w6 (.cells #[.int .i64 0, .int .i64 0, .string ⟨#[]⟩] 26))
            replace HC := TrH.on (TrH.on HC hb') (below_alloc w6 (.cells #[.int .i64 0, .int .i64 0, .string ⟨#[]⟩] 26))
            have HK := Tr.madeH w6 (.int .i64 0) (.int .i64 0) (.string ⟨#[]⟩) 26
            clear hb'
            clear x0 x1 x2 y0 y1 y2 z0 z1 z2 v0 v1 v2
            obtain ⟨⟨y0, y1, y2⟩, _⟩ := HB.out
            obtain ⟨⟨v0, v1, v2⟩, _⟩ := HC.out
            go_wp2_with fail
            refine (pbc _).mono ?_
            rintro e w7 ⟨rfl, hb'⟩
            replace hB := below_then (below_seq hB hb') (.cells #[.int .i64 0, .int .i64 0, .string ⟨#[]⟩] 26)
            have HL := Tr.madeH w7 (.int .i64 0) (.int .i64 0) (.string ⟨#[]⟩) 26
            clear hb'
            go_wp2_with fail
            go_ret
            exact ⟨rfl, hB⟩
          | true =>
            obtain ⟨t4, a4, s4, hK⟩ : ∃ t4 a4 s4, rgG (t, a, s') (t3, a3, s3) = (t4, a4, s4) := ⟨_, _, _, rfl⟩
            obtain ⟨t5, a5, s5, hU⟩ : ∃ t5 a5 s5, rgG (t, a, s') (t3, a3, s3) = (t5, a5, s5) := ⟨_, _, _, rfl⟩
            have hU' : rgG (t, a, s) (t4, a4, s4) = (t5, a5, s5) := by rw [← hK, ← rgG_assoc, hX]; exact hU
            have okK : rgOk (t4, a4, s4) = true := by rw [← hK]; exact rgG_ok okB okC
            have j3 : rJoin t a s' t3 a3 s3 = .tuple #[.agg #[.int .i64 t4, .int .i64 a4, .string s4], .int .i64 0] := (rJoin_yes (A := (t, a, s')) (B := (t3, a3, s3)) okB okC).trans (by rw [hK]; rfl)
            have j4 : rJoin t a s' t3 a3 s3 = .tuple #[.agg #[.int .i64 t5, .int .i64 a5, .string s5], .int .i64 0] := (rJoin_yes (A := (t, a, s')) (B := (t3, a3, s3)) okX okC).trans (by rw [hU]; rfl)
            have j5 : rJoin t a s t4 a4 s4 = .tuple #[.agg #[.int .i64 t5, .int .i64 a5, .string s5], .int .i64 0] := (rJoin_yes (A := (t, a, s)) (B := (t4, a4, s4)) okA okK).trans (by rw [hU']; rfl)
            have jbc := fun w => implRegJoin_any t a s' t3 a3 s3 w
            have pbc := fun w => specRegJoin_any t a s' t3 a3 s3 w
            have jxc := fun w => implRegJoin_any t a s' t3 a3 s3 w
            have jak := fun w => implRegJoin_any t a s t4 a4 s4 w
            rw [j3] at jbc pbc
            rw [j4] at jxc
            rw [j5] at jak
            clear j3 j4 j5 hK hU hU' okK okC okX okA okB hX
            go_wp2_with fail
            refine (jbc _).mono ?_
            rintro e w6 ⟨rfl, hb'⟩
            replace hB := below_then (below_seq hB hb') (.cells #[.int .i64 t4, .int .i64 a4, .string s4] 26)
            replace HA := TrH.on (TrH.on HA hb') (below_alloc w6 (.cells #[.int .i64 t4, .int .i64 a4, .string s4] 26))
            replace HB := TrH.on (TrH.on HB hb') (below_alloc w6 (.cells #[.int .i64 t4, .int .i64 a4, .string s4] 26))
            replace HC := TrH.on (TrH.on HC hb') (below_alloc w6 (.cells #[.int .i64 t4, .int .i64 a4, .string s4] 26))
            replace HX := TrH.on (TrH.on HX hb') (below_alloc w6 (.cells #[.int .i64 t4, .int .i64 a4, .string s4] 26))
            have HK := Tr.madeH w6 (.int .i64 t4) (.int .i64 a4) (.string s4) 26
            clear hb'
            clear x0 x1 x2 y0 y1 y2 z0 z1 z2 v0 v1 v2
            obtain ⟨⟨y0, y1, y2⟩, _⟩ := HB.out
            obtain ⟨⟨v0, v1, v2⟩, _⟩ := HC.out
            go_wp2_with fail
            refine (pbc _).mono ?_
            rintro e w7 ⟨rfl, hb'⟩
            replace hB := below_then (below_seq hB hb') (.cells #[.int .i64 t4, .int .i64 a4, .string s4] 26)
            replace HA := TrH.on (TrH.on HA hb') (below_alloc w7 (.cells #[.int .i64 t4, .int .i64 a4, .string s4] 26))
            replace HC := TrH.on (TrH.on HC hb') (below_alloc w7 (.cells #[.int .i64 t4, .int .i64 a4, .string s4] 26))
            replace HX := TrH.on (TrH.on HX hb') (below_alloc w7 (.cells #[.int .i64 t4, .int .i64 a4, .string s4] 26))
            replace HK := TrH.on (TrH.on HK hb') (below_alloc w7 (.cells #[.int .i64 t4, .int .i64 a4, .string s4] 26))
            have HL := Tr.madeH w7 (.int .i64 t4) (.int .i64 a4) (.string s4) 26
            clear hb'
            clear y0 y1 y2 v0 v1 v2
            obtain ⟨⟨z0, z1, z2⟩, _⟩ := HX.out
            obtain ⟨⟨v0, v1, v2⟩, _⟩ := HC.out
            go_wp2_with fail
            refine (jxc _).mono ?_
            rintro e w8 ⟨rfl, hb'⟩
            replace hB := below_then (below_seq hB hb') (.cells #[.int .i64 t5, .int .i64 a5, .string s5] 26)
            replace HA := TrH.on (TrH.on HA hb') (below_alloc w8 (.cells #[.int .i64 t5, .int .i64 a5, .string s5] 26))
            replace HK := TrH.on (TrH.on HK hb') (below_alloc w8 (.cells #[.int .i64 t5, .int .i64 a5, .string s5] 26))
            have HU := Tr.madeH w8 (.int .i64 t5) (.int .i64 a5) (.string s5) 26
            clear hb'
            clear z0 z1 z2 v0 v1 v2
            obtain ⟨⟨x0, x1, x2⟩, _⟩ := HA.out
            obtain ⟨⟨y0, y1, y2⟩, _⟩ := HK.out
            go_wp2_with fail
            refine (jak _).mono ?_
            rintro e w9 ⟨rfl, hb'⟩
            replace hB := below_then (below_seq hB hb') (.cells #[.int .i64 t5, .int .i64 a5, .string s5] 26)
            replace HU := TrH.on (TrH.on HU hb') (below_alloc w9 (.cells #[.int .i64 t5, .int .i64 a5, .string s5] 26))
            have HV := Tr.madeH w9 (.int .i64 t5) (.int .i64 a5) (.string s5) 26
            clear hb'
            clear x0 x1 x2 y0 y1 y2
            obtain ⟨⟨x0, x1, x2⟩, _⟩ := HU.out
            go_wp2_with fail
            go_ret
            exact ⟨rfl, hB⟩
    · have i0 : ¬ (1048576 : Int) < (xs.length : Int) := by omega
      have i1 : (1048576 : Int) < (ys.length : Int) := by omega
      go_enter Try.func3, Try.ntmps3
      go_wp2_with fail
      go_ret
      exact ⟨rfl, Below.refl _ _⟩
  · have i0 : (1048576 : Int) < (xs.length : Int) := by omega
    go_enter Try.func3, Try.ntmps3
    go_wp2_with fail
    go_ret
    exact ⟨rfl, Below.refl _ _⟩
end Go.Proofs.Ytonpeiknoifdbab
