/- What steps make of pairs, each of what the one ahead made, by the code: through. -/
import Derived.Test.YtagnpahkhaighaaLensDo
import Derived.Shelf.Abstract
import Derived.Shelf.RegionOpen
namespace Go.Proofs.Ytagnpahkhaighaa
open Go.RowKit
set_option linter.unusedVariables false

theorem fwdP_stop {ss : List St} {ls : List Pr} (k : Nat) (cur : List Pr) (hk : k < ss.length) (h : fwdP ss ls = fwdP (ss.drop k) cur) (hc : (doP (stAt ss k) cur).1 ≠ 0) : fwdP ss ls = ((doP (stAt ss k) cur).1, []) := by
  rw [h, List.drop_eq_getElem_cons hk]
  have e : stAt ss k = ss[k] := by simp [stAt, hk]
  rw [← e, fwdP, if_neg hc]
theorem fwdP_go {ss : List St} {ls : List Pr} (k : Nat) (cur : List Pr) (hk : k < ss.length) (h : fwdP ss ls = fwdP (ss.drop k) cur) (hc : (doP (stAt ss k) cur).1 = 0) : fwdP ss ls = fwdP (ss.drop (k + 1)) (doP (stAt ss k) cur).2 := by
  rw [h, List.drop_eq_getElem_cons hk]
  have e : stAt ss k = ss[k] := by simp [stAt, hk]
  rw [← e, fwdP, if_pos hc]

/-- Which method a step is, and what it makes. -/
theorem do_meth (e : St) (he : okSt e = true) (C : Nat) (w : World) (v : Value) (ls : List Pr) (hl : ls.length ≤ 64) (hR : Rises ls) (hC : C ≤ w.heap.size) (hr : RdM 2 C w v ls.length (prCs ls)) :
    (∃ n t, stepV e = .iface 92 (.agg #[.string n, .string t]) ∧ Calls Try.prog 84 #[.agg #[.string n, .string t], v] w fun r w' => ∃ u, r = .returned (.tuple #[u, .int .i64 (doP e ls).1]) ∧ DoAns w' w.heap.size u (doP e ls) ∧ Below w.heap.size w w') ∨ (∃ n x, stepV e = .iface 93 (.agg #[.string n, .string x]) ∧ Calls Try.prog 87 #[.agg #[.string n, .string x], v] w fun r w' => ∃ u, r = .returned (.tuple #[u, .int .i64 (doP e ls).1]) ∧ DoAns w' w.heap.size u (doP e ls) ∧ Below w.heap.size w w') ∨ (∃ n x, stepV e = .iface 90 (.agg #[.string n, .string x]) ∧ Calls Try.prog 74 #[.agg #[.string n, .string x], v] w fun r w' => ∃ u, r = .returned (.tuple #[u, .int .i64 (doP e ls).1]) ∧ DoAns w' w.heap.size u (doP e ls) ∧ Below w.heap.size w w') := by
  obtain ⟨k, n, t, x⟩ := e
  by_cases h1 : k = 1
  · subst h1
    have hne : eqN n t = false := by
      unfold okSt at he
      simp only [if_true, Bool.and_eq_true, Bool.not_eq_true'] at he
      exact he.1.2
    refine .inl ⟨n, t, rfl, ?_⟩
    have := renDo_any C w v ls n t hl hR hC hr
    rw [renD_doP (u := x) hR hl hne] at this
    exact this
  by_cases h2 : k = 2
  · subst h2
    exact .inr (.inl ⟨n, x, rfl, addDo_any C w v ls n x hl hR hC hr⟩)
  · refine .inr (.inr ⟨n, x, by unfold stepV; rw [if_neg h1, if_neg h2], ?_⟩)
    have := dropDo_any C w v ls n x hl hR hC hr
    have e : doP (k, n, t, x) ls = dropD n ls := by unfold doP dropD; simp only [h1, h2, if_false]
    rw [e]
    exact this

set_option maxHeartbeats 4000000 in
set_option maxRecDepth 100000 in
theorem through_any (C D : Nat) (w : World) (v sv : Value) (ls : List Pr) (ss : List St) (hl : ls.length ≤ 64) (hR : Rises ls) (hok : ∀ e ∈ ss, okSt e = true) (h32 : ss.length ≤ 32) (hC : C ≤ w.heap.size) (hD : D ≤ w.heap.size) (hr : RdM 2 C w v ls.length (prCs ls)) (hs : Rd D w sv (ss.map stepV)) :
    Calls Try.prog 35 #[v, sv] w fun e w' => ∃ r, e = .returned (.tuple #[r, .int .i64 (fwdP ss ls).1]) ∧ OwnPr w' w.heap.size r (fwdP ss ls).2 ∧ Below w.heap.size w w' := by
  have hcl := cloneP_any C w v ls hl hC hr
  obtain ⟨_, ao, cap, rfl, _⟩ := hr
  obtain ⟨so, scap, rfl, _, _, _, hrow⟩ := hs
  rw [List.length_map] at hrow ⊢
  obtain ⟨dd, HD⟩ : ∃ dd, Hid (fwdP ss ls = dd) := ⟨_, rfl⟩
  rw [HD.out]
  obtain ⟨d1, d2⟩ := dd
  have HOK : Hid (∀ k, k < ss.length → okSt (stAt ss k) = true) := fun k hk => hok _ (stAt_mem hk)
  have HS0 : Hid (fwdP (ss.drop 0) ls = (d1, d2)) := HD.out
  have HR0 : Hid (Rises ls ∧ ls.length ≤ 64) := ⟨hR, hl⟩
  clear hok hR HD
  go_enter Try.func35, Try.ntmps35
  go_wp2_with fail
  refine hcl.mono ?_
  rintro e w1 ⟨r, rfl, ho1, hb1⟩
  obtain ⟨ra, rn, rc, hre⟩ := own_sliceP ho1
  subst hre
  have HI0 : Hid (OwnPr w1 w.heap.size (.slice ra rn rc) ls) := ho1
  clear hcl ho1
  go_wp2_with fail
  go_loopw [0, 14] (fun tl ti wr => ∃ (k : Nat) (cur : List Pr) (ta : Option Addr) (tn tc : Nat), k ≤ ss.length ∧ ti = .int .i64 (k : Int) ∧ tl = .slice ta tn tc ∧ Hid (OwnPr wr w.heap.size (.slice ta tn tc) cur) ∧ Hid (fwdP (ss.drop k) cur = (d1, d2)) ∧ Hid (Rises cur ∧ cur.length ≤ 64) ∧ Below w.heap.size w wr) (fun _ ti _ => ss.length - (intOf ti).toNat)
  case atStart => exact ⟨0, ls, ra, rn, rc, Nat.zero_le _, rfl, rfl, HI0, HS0, HR0, hb1⟩
  case round =>
    clear HI0 HS0 HR0 hb1
    obtain ⟨k, cur, ta, tn, tc, hk, rfl, rfl, HO, HF, HC, hB⟩ := hrel
    have hsz := hB.size
    by_cases hlt : k < ss.length
    · obtain ⟨g, off, rfl, hg, hc⟩ := hrow (by omega)
      have d0 : wr.cell? ⟨g, off + k, none⟩ = some (stepV (stAt ss k)) := (hB.cell (p := ⟨g, off + k, none⟩) (by show g < _; omega)).trans (hc k _ (by rw [List.getElem?_map, List.getElem?_eq_getElem hlt]; simp [stAt, hlt]))
      have HST : Hid ((doP (stAt ss k) cur).1 ≠ 0 → (d1, d2) = ((doP (stAt ss k) cur).1, [])) := fun h => by
        rw [← HF.out]
        rw [List.drop_eq_getElem_cons hlt]
        have e : stAt ss k = ss[k] := by simp [stAt, hlt]
        rw [← e, fwdP, if_neg h]
      have HGO : Hid ((doP (stAt ss k) cur).1 = 0 → fwdP (ss.drop (k + 1)) (doP (stAt ss k) cur).2 = (d1, d2) ∧ Rises (doP (stAt ss k) cur).2 ∧ (doP (stAt ss k) cur).2.length ≤ 64) := fun h => by
        refine ⟨?_, doP_rises HC.out.1 HC.out.2 (HOK.out k hlt) h⟩
        rw [← HF.out, List.drop_eq_getElem_cons hlt]
        have e : stAt ss k = ss[k] := by simp [stAt, hlt]
        rw [← e, fwdP, if_pos h]
      have j0 : (0 : Int) ≤ (k : Int) := by omega
      have j1 : (k : Int) < (ss.length : Int) := by omega
      have j2 : (k : Int) + 1 < 9223372036854775808 := by omega
      have hcon := do_meth (stAt ss k) (HOK.out k hlt) _ wr _ cur HC.out.2 HC.out.1 (Nat.le_refl _) (ownM_rd HO.out)
      clear hc hrow HO HF HC HOK
      generalize doP (stAt ss k) cur = dp at *
      obtain ⟨dc, dl⟩ := dp
      generalize stAt ss k = ee at *
      rcases hcon with ⟨n, t, hsv, h1⟩ | ⟨n, x, hsv, h1⟩ | ⟨n, x, hsv, h1⟩
      · skip
        have hm : ∀ w, (method 228 92 (.agg #[.string n, .string t]) "loop.example/g00028/impl.do").run Try.prog w = .ok (84, .agg #[.string n, .string t]) w := fun _ => by kernel_rfl
        have d1' : wr.cell? ⟨g, off + k, none⟩ = some (.iface 92 (.agg #[.string n, .string t])) := d0.trans (congrArg some hsv)
        clear d0 hsv
        by_cases hz : dc = 0
        · have HG := HGO.out hz
          have HF2 : Hid (fwdP (ss.drop (k + 1)) dl = (d1, d2)) := HG.1
          have HC2 : Hid (Rises dl ∧ dl.length ≤ 64) := HG.2
          have hzb : (dc != 0) = false := by simp [hz]
          have HZ : Hid (dc = 0) := hz
          clear HG HGO HST hz
          go_wp2_with (go_at_call 84; refine h1.mono ?_; rintro e w2 ⟨u, rfl, hans, hb2⟩; obtain ⟨ua, un, uc, hue⟩ := hans.1; subst hue; have HO2 : Hid (OwnPr w2 w.heap.size (.slice ua un uc) dl) := (ownM_mono (hans.2 HZ.out) hsz); have hB2 := below_seq hB hb2; clear hans hb2)
          go_roundw
          case rel => exact ⟨k + 1, dl, ua, un, uc, by omega, by go_num, rfl, HO2, HF2, HC2, hB2⟩
          case measure => simp [intOf]; omega
        · have HE : Hid ((d1, d2) = (dc, ([] : List Pr))) := HST.out hz
          have hzb : (dc != 0) = true := by simp [hz]
          clear HGO HST hz
          go_wp2_with (go_at_call 84; refine h1.mono ?_; rintro e w2 ⟨u, rfl, hans, hb2⟩; obtain ⟨ua, un, uc, hue⟩ := hans.1; subst hue; have hB2 := below_seq hB hb2; clear hans hb2)
          go_ret2
          refine ⟨.slice none 0 0, ?_, ?_, hB2⟩
          · have e1 := congrArg Prod.fst HE.out
            simp only at e1
            rw [e1]
            rfl
          · have e2 := congrArg Prod.snd HE.out
            simp only at e2
            rw [e2]
            exact ownM_nil _ _ _ _
      · skip
        have hm : ∀ w, (method 228 93 (.agg #[.string n, .string x]) "loop.example/g00028/impl.do").run Try.prog w = .ok (87, .agg #[.string n, .string x]) w := fun _ => by kernel_rfl
        have d1' : wr.cell? ⟨g, off + k, none⟩ = some (.iface 93 (.agg #[.string n, .string x])) := d0.trans (congrArg some hsv)
        clear d0 hsv
        by_cases hz : dc = 0
        · have HG := HGO.out hz
          have HF2 : Hid (fwdP (ss.drop (k + 1)) dl = (d1, d2)) := HG.1
          have HC2 : Hid (Rises dl ∧ dl.length ≤ 64) := HG.2
          have hzb : (dc != 0) = false := by simp [hz]
          have HZ : Hid (dc = 0) := hz
          clear HG HGO HST hz
          go_wp2_with (go_at_call 87; refine h1.mono ?_; rintro e w2 ⟨u, rfl, hans, hb2⟩; obtain ⟨ua, un, uc, hue⟩ := hans.1; subst hue; have HO2 : Hid (OwnPr w2 w.heap.size (.slice ua un uc) dl) := (ownM_mono (hans.2 HZ.out) hsz); have hB2 := below_seq hB hb2; clear hans hb2)
          go_roundw
          case rel => exact ⟨k + 1, dl, ua, un, uc, by omega, by go_num, rfl, HO2, HF2, HC2, hB2⟩
          case measure => simp [intOf]; omega
        · have HE : Hid ((d1, d2) = (dc, ([] : List Pr))) := HST.out hz
          have hzb : (dc != 0) = true := by simp [hz]
          clear HGO HST hz
          go_wp2_with (go_at_call 87; refine h1.mono ?_; rintro e w2 ⟨u, rfl, hans, hb2⟩; obtain ⟨ua, un, uc, hue⟩ := hans.1; subst hue; have hB2 := below_seq hB hb2; clear hans hb2)
          go_ret2
          refine ⟨.slice none 0 0, ?_, ?_, hB2⟩
          · have e1 := congrArg Prod.fst HE.out
            simp only at e1
            rw [e1]
            rfl
          · have e2 := congrArg Prod.snd HE.out
            simp only at e2
            rw [e2]
            exact ownM_nil _ _ _ _
      · skip
        have hm : ∀ w, (method 228 90 (.agg #[.string n, .string x]) "loop.example/g00028/impl.do").run Try.prog w = .ok (74, .agg #[.string n, .string x]) w := fun _ => by kernel_rfl
        have d1' : wr.cell? ⟨g, off + k, none⟩ = some (.iface 90 (.agg #[.string n, .string x])) := d0.trans (congrArg some hsv)
        clear d0 hsv
        by_cases hz : dc = 0
        · have HG := HGO.out hz
          have HF2 : Hid (fwdP (ss.drop (k + 1)) dl = (d1, d2)) := HG.1
          have HC2 : Hid (Rises dl ∧ dl.length ≤ 64) := HG.2
          have hzb : (dc != 0) = false := by simp [hz]
          have HZ : Hid (dc = 0) := hz
          clear HG HGO HST hz
          go_wp2_with (go_at_call 74; refine h1.mono ?_; rintro e w2 ⟨u, rfl, hans, hb2⟩; obtain ⟨ua, un, uc, hue⟩ := hans.1; subst hue; have HO2 : Hid (OwnPr w2 w.heap.size (.slice ua un uc) dl) := (ownM_mono (hans.2 HZ.out) hsz); have hB2 := below_seq hB hb2; clear hans hb2)
          go_roundw
          case rel => exact ⟨k + 1, dl, ua, un, uc, by omega, by go_num, rfl, HO2, HF2, HC2, hB2⟩
          case measure => simp [intOf]; omega
        · have HE : Hid ((d1, d2) = (dc, ([] : List Pr))) := HST.out hz
          have hzb : (dc != 0) = true := by simp [hz]
          clear HGO HST hz
          go_wp2_with (go_at_call 74; refine h1.mono ?_; rintro e w2 ⟨u, rfl, hans, hb2⟩; obtain ⟨ua, un, uc, hue⟩ := hans.1; subst hue; have hB2 := below_seq hB hb2; clear hans hb2)
          go_ret2
          refine ⟨.slice none 0 0, ?_, ?_, hB2⟩
          · have e1 := congrArg Prod.fst HE.out
            simp only at e1
            rw [e1]
            rfl
          · have e2 := congrArg Prod.snd HE.out
            simp only at e2
            rw [e2]
            exact ownM_nil _ _ _ _
    · obtain rfl : k = ss.length := by omega
      have HE : Hid ((d1, d2) = (0, cur)) := by
        unfold Hid
        rw [← HF.out, List.drop_length]
        rfl
      have hn : ¬ (ss.length : Int) < (ss.length : Int) := by omega
      go_wp2_with fail
      go_ret2
      refine ⟨.slice ta tn tc, ?_, ?_, hB⟩
      rotate_left
      · have e2 := congrArg Prod.snd HE.out
        simp only at e2
        rw [e2]
        exact HO.out
      · have e1 := congrArg Prod.fst HE.out
        simp only at e1
        rw [e1]
        rfl
end Go.Proofs.Ytagnpahkhaighaa
