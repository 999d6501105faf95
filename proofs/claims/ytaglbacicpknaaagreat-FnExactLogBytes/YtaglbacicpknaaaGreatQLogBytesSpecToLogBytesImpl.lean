/- The specification's LogBytes. The code's LogBytes. -/
import Derived.Handy
import Derived.Test.YtaglbacicpknaaaGreatQOpEqToMarkAr
import Derived.Test.YtaglbacicpknaaaGreatQLogOKSpec
import Derived.Test.YtaglbacicpknaaaGreatQFieldOToLogFold
import Derived.Test.YtaglbacicpknaaaGreatQLedClosedToCausesQ
namespace Go.Proofs.YtaglbacicpknaaaGreat
open Go.RowKit
set_option linter.unusedVariables false

/-- What LogBytes answers: the bytes, and the code. -/
def logByB (L : List Ov) : List Int := if logI L = true then logBy L else []
def logByC (L : List Ov) : Int := if logI L = true then 0 else 1
theorem validL {L : List Ov} (h : logI L = true) : L.length ≤ 1024 ∧ ∀ x ∈ L, x.ok = true := by
  unfold logI at h
  simp only [Bool.and_eq_true, decide_eq_true_eq] at h
  refine ⟨h.1, step_mem fun q hq => ?_⟩
  have := List.all_eq_true.1 h.2.1 q (List.mem_range.2 hq)
  exact this
theorem logBy_len {L : List Ov} (h : logI L = true) : (logBy L).length ≤ 886034 := by
  obtain ⟨h1, h2⟩ := validL h
  have := logCols_len h2 h1
  unfold logBy
  rw [List.length_append]
  have : (four (sumF 2166136261 (logCols L))).length = 4 := rfl
  omega
theorem logByB_len (L : List Ov) : (logByB L).length ≤ 886034 := by
  unfold logByB
  split
  · rename_i h; exact logBy_len h
  · simp

set_option maxHeartbeats 2000000 in
set_option maxRecDepth 100000 in
theorem specLogBytes_any (C : Nat) (w : World) (v : Value) (L : List Ov) (hC : C ≤ w.heap.size) (hr : RdO C w v L) :
    Calls Tryz.prog 5 #[v] w fun e w' => ∃ r, e = .returned (.tuple #[r, .int .i64 (logByC L)]) ∧ Own 5 w' w.heap.size r ((logByB L).map (Value.int .u8)) ∧ Below w.heap.size w w' := by
  have hlk := specLogOK_any C w v L hC hr
  obtain ⟨b, hb⟩ : ∃ b, logI L = b := ⟨_, rfl⟩
  have HBB : Hid (logByC L = (if b = true then 0 else 1) ∧ logByB L = (if b = true then logBy L else [])) := by
    unfold Hid logByC logByB
    rw [hb]
    exact ⟨rfl, rfl⟩
  rw [hb] at hlk
  have HF : Hid (b = true → (L.length ≤ 1024 ∧ ∀ x ∈ L, x.ok = true) ∧ (logBy L).length ≤ 886034) := fun h => ⟨validL (hb.trans h), logBy_len (hb.trans h)⟩
  clear hb
  obtain ⟨ao, ln, cap, rfl⟩ : ∃ ao ln cap, v = .slice ao ln cap := by
    obtain ⟨⟨ao, cap, rfl, _⟩, _⟩ := hr
    exact ⟨_, _, _, rfl⟩
  go_enter Tryz.func5, Tryz.ntmps5
  go_wp2_with fail
  refine hlk.mono ?_
  rintro e w1 ⟨rfl, hb1⟩
  have hs1 := hb1.size
  clear hlk
  cases b with
  | true =>
    obtain ⟨⟨hl, hok⟩, hln⟩ := HF.out rfl
    have hby := l08Bytes_any C w1 _ L (by omega) (hr.below (hb1.mono hC)) hl hok
    obtain ⟨E1, E2⟩ := HBB.out
    rw [if_pos rfl] at E1 E2
    have HE1 : Hid _ := E1
    have HE2 : Hid _ := E2
    clear E1 E2 HBB HF hr hok hl
    go_wp2_with fail
    refine hby.mono ?_
    rintro e w2 ⟨r2, rfl, ho2, hb2⟩
    clear hby
    obtain ⟨a2, c2, e2, -⟩ := ho2.slice
    rw [List.length_map] at e2
    obtain ⟨m, HM⟩ : ∃ m, Hid ((logBy L).length = m) := ⟨_, rfl⟩
    rw [HM.out] at e2 hln
    clear HM
    subst e2
    have HO2 : Hid (Own 5 w2 w1.heap.size (.slice a2 m c2) ((logBy L).map (Value.int .u8))) := ho2
    clear ho2
    have hg : (m : Int) ≤ 1048576 := by omega
    go_wp2_with fail
    go_ret2
    exact ⟨_, by rw [HE1.out]; rfl, by rw [HE2.out]; exact HO2.out.mono hs1, below_seq hb1 hb2⟩
  | false =>
    obtain ⟨E1, E2⟩ := HBB.out
    rw [if_neg (by decide)] at E1 E2
    have HE1 : Hid _ := E1
    have HE2 : Hid _ := E2
    clear E1 E2 HBB HF hr
    go_wp2_with fail
    go_ret2
    exact ⟨_, by rw [HE1.out]; rfl, by rw [HE2.out]; exact (own_lit w1 5 [] 0 rfl (Nat.zero_le _)).mono hs1, below_then hb1 _⟩
end Go.Proofs.YtaglbacicpknaaaGreat

namespace Go.Proofs.YtaglbacicpknaaaGreat
open Go.RowKit
set_option linter.unusedVariables false

/-- What is written behind j columns. -/
def outTo (L : List Ov) (j : Nat) : List Int := if j ≤ 25 then colsB L j else if j = 26 then colsB L 25 ++ putN (kyL L) L.length else logCols L
theorem outTo_num {L : List Ov} {j : Nat} (h : j < 25) : outTo L (j + 1) = outTo L j ++ putR (colN L j) := by
  unfold outTo
  rw [if_pos (by omega), if_pos (by omega)]
  rfl
theorem outTo_end (L : List Ov) : outTo L 27 = logCols L := by
  unfold outTo
  rw [if_neg (by omega), if_neg (by omega)]
theorem outTo_len {L : List Ov} (hok : ∀ x ∈ L, x.ok = true) (hl : L.length ≤ 1024) (j : Nat) (hj : j ≤ 27) : (outTo L j).length ≤ 886030 := by
  have h3 := logCols_len hok hl
  unfold outTo
  split
  · have := colsB_len hok hl j; omega
  · split
    · unfold logCols at h3
      rw [List.length_append] at h3
      omega
    · exact h3
theorem Ar.stay {w w' : World} {B g ga C : Nat} {M : List Ov} (h : Ar w B g ga M) (hb : Below C w w') (h1 : g < C) (h2 : ga < C) : Ar w' B g ga M := h.on hb.size (hb.block g h1) (hb.block ga h2)

set_option maxHeartbeats 8000000 in
set_option maxRecDepth 100000 in
theorem implLogBytes_any (C : Nat) (w : World) (v : Value) (L : List Ov) (hC : C ≤ w.heap.size) (hr : RdO C w v L) :
    Calls Tryz.prog 7 #[v] w fun e w' => ∃ r, e = .returned (.tuple #[r, .int .i64 (logByC L)]) ∧ Own 5 w' w.heap.size r ((logByB L).map (Value.int .u8)) ∧ Below w.heap.size w w' := by
  have hlk := implLogOK_any C w v L hC hr
  obtain ⟨b, hb⟩ : ∃ b, logI L = b := ⟨_, rfl⟩
  have HBB : Hid (logByC L = (if b = true then 0 else 1) ∧ logByB L = (if b = true then logBy L else [])) := by
    unfold Hid logByC logByB
    rw [hb]
    exact ⟨rfl, rfl⟩
  rw [hb] at hlk
  have HF : Hid (b = true → L.length ≤ 1024 ∧ ∀ x ∈ L, x.ok = true) := fun h => validL (hb.trans h)
  clear hb
  obtain ⟨ao, ln, cap, rfl⟩ : ∃ ao ln cap, v = .slice ao ln cap := by
    obtain ⟨⟨ao, cap, rfl, _⟩, _⟩ := hr
    exact ⟨_, _, _, rfl⟩
  go_enter Tryz.func7, Tryz.ntmps7
  go_wp2_with fail
  refine hlk.mono ?_
  rintro e w1 ⟨rfl, hb1⟩
  have hs1 := hb1.size
  clear hlk
  cases b with
  | true =>
    obtain ⟨hl, hok⟩ := HF.out rfl
    obtain ⟨E1, E2⟩ := HBB.out
    rw [if_pos rfl] at E1 E2
    have HE1 : Hid _ := E1
    have HE2 : Hid _ := E2
    clear E1 E2 HBB HF
    have HOK : Hid (∀ x ∈ L, x.ok = true) := hok
    have hcp := copyOps_any C w1 _ L (by omega) (hr.below (hb1.mono hC)) hl (fun x hx => (vecOK_get (ok_facts (hok x hx)).hds).1)
    clear hr hok
    go_wp2_with fail
    refine hcp.mono ?_
    rintro e w2 ⟨ga, rfl, hA2, hb2⟩
    clear hcp
    have HML : Hid ((cpL ga L L.length).length = L.length) := cpL_len ga L _
    have HMN : Hid (∀ k, k < L.length → (ovAt (fdL (cpL ga L L.length) k) k).n = (ovAt L k).n) := fun k hk => by
      rw [fdL_at _ _ (by rw [cpL_len]; omega), if_neg (by omega), cpL_at ga L L.length (Nat.le_refl _) k hk, if_pos hk]
    have HFL : Hid (∀ k, (fdL (cpL ga L L.length) k).length = L.length) := fun k => by rw [fdL_len, cpL_len]
    go_wp2_with fail
    go_loopw [18] (fun ti wr => ∃ k : Nat, k ≤ L.length ∧ ti = .int .i64 (k : Int) ∧ Ar wr w1.heap.size w1.heap.size ga (fdL (cpL ga L L.length) k) ∧ Below w1.heap.size w1 wr) (fun ti _ => L.length - (intOf ti).toNat)
    case atStart => exact ⟨0, Nat.zero_le _, rfl, hA2, hb2⟩
    case round =>
      clear hA2 hb2
      obtain ⟨k, hk, rfl, hA, hbel⟩ := hrel
      have hsz := hbel.size
      by_cases hlt : k < L.length
      · have hkl : k < (fdL (cpL ga L L.length) k).length := by rw [HFL.out]; exact hlt
        have c6 := (hA.row k hkl).c6
        have hth := hA.rth (k * 12 + 6) (by omega)
        rw [Nat.zero_add] at hth
        have f6 := hth.2
        have hn := (ok_facts (HOK.out _ (ovAt_mem hlt))).hn
        have HN1 := HMN.out k hlt
        have hAn := hA.setN hkl ((foldS (ovAt (fdL (cpL ga L L.length) k) k).n : Nat) : Int)
        have HAn : Hid (Ar (wr.setCell ⟨w1.heap.size, k * 12 + 6, none⟩ (.int .i64 ((foldS (ovAt (fdL (cpL ga L L.length) k) k).n : Nat) : Int))) w1.heap.size w1.heap.size ga (fdL (cpL ga L L.length) (k + 1))) := hAn
        rw [HN1] at c6 HAn
        have hfs := fun wz => foldSign_any (ovAt L k).n wz (by omega) (by omega)
        generalize (ovAt L k).n = z at c6 HAn hfs
        have hbn : Below w1.heap.size w1 (wr.setCell ⟨w1.heap.size, k * 12 + 6, none⟩ (.int .i64 ((foldS z : Nat) : Int))) := hbel.setCell (Nat.le_refl _) _
        have j0 : (0 : Int) ≤ (k : Int) := by omega
        have j1 : (k : Int) < (L.length : Int) := by omega
        clear hAn HN1 hth hkl hA
        go_wp2_with (go_at_call 19; refine (hfs _).mono ?_; rintro e w5 ⟨rfl, hw5⟩; obtain rfl := hw5.symm)
        go_roundw
        case rel => exact ⟨k + 1, by omega, by go_num, HAn.out, hbn⟩
        case measure => simp [intOf]; omega
      · obtain rfl : k = L.length := by omega
        obtain ⟨wo, hwo⟩ : ∃ wo : World, wo = wr := ⟨_, rfl⟩
        subst hwo
        go_wp2_with fail
        refine (logColumns_any wo).mono ?_
        rintro e w4 ⟨r4, ks, rfl, hkl, ho4, hA4, hb4⟩
        have HKL : Hid (ks.length = 16) := hkl
        clear hkl
        have hAr := hA.below hb4
        have hB4 := below_seq hbel hb4
        have hln4 : ((plainF ++ ks.map cntF).map colI ++ textF.map colT).length = 27 := by
          rw [List.length_append, List.length_map, List.length_append, List.length_map, HKL.out]
          rfl
        have HLN : Hid ((plainF ++ ks.map cntF).length = 25) := by
          unfold Hid
          rw [List.length_append, List.length_map, HKL.out]
          rfl
        obtain ⟨cg, ccap, e, hc1, hc2, hcc⟩ := ho4.some (by rw [hln4]; omega)
        rw [hln4] at e
        subst e
        have HCC : Hid (∀ wr, Below w4.heap.size w4 wr → ∀ j v, ((plainF ++ ks.map cntF).map colI ++ textF.map colT)[j]? = some v → wr.cell? ⟨cg, j, none⟩ = some v) := fun wr h j v hv => by
          have h1 := hcc j v hv
          rw [Addr.add_lit, Nat.zero_add] at h1
          rw [h.cell (p := ⟨cg, j, none⟩) hc2]
          exact h1
        have HLO : Hid (∀ j, j ≤ 27 → (outTo L j).length ≤ 886030) := fun j hj => outTo_len HOK.out hl j hj
        obtain ⟨i5, hi5, hy0, hy1, hy2⟩ := info_parts info5
        have hs4 := hb4.size
        clear hcc ho4 hln4 hb4 hA hbel
        go_wp2_with fail
        go_loopw [6, 34] (fun tv ti wr => ∃ j : Nat, j ≤ 27 ∧ ti = .int .i64 (j : Int) ∧ Own 5 wr w4.heap.size tv ((outTo L j).map (Value.int .u8)) ∧ Below w4.heap.size w4 wr) (fun _ ti _ => 27 - (intOf ti).toNat)
        case atStart => exact ⟨0, Nat.zero_le _, rfl, World.ownsRow_nil _ _ _ _, Below.refl _ _⟩
        case round =>
          obtain ⟨j, hj, rfl, ho, hbel2⟩ := hrel
          have hszr := hbel2.size
          have hArr := hAr.below hbel2
          have hlo := HLO.out j hj
          by_cases hlt2 : j < 27
          · by_cases h25 : j < 25
            · obtain ⟨F, hF⟩ : ∃ F, (plainF ++ ks.map cntF)[j]? = some F := ⟨_, List.getElem?_eq_getElem (by rw [HLN.out]; exact h25)⟩
              have hci := colAt hArr (acts_on hA4 (fun kk h1 h2 => hbel2.block kk h2)) HKL.out h25 hF
              obtain ⟨f, cp, pb, po, rfl, hent, hcal, hcel⟩ := hci.ex
              have c1 : wr.cell? ⟨cg, j, none⟩ = some (.iface 85 (.agg #[.func (.func f) #[] cp, .func (.func 41) #[] #[], .func (.func 42) #[] #[]])) := HCC.out wr hbel2 j _ (by rw [List.getElem?_append_left (by rw [List.length_map, HLN.out]; exact h25), List.getElem?_map, hF]; rfl)
              rw [HFL.out] at hcal hcel
              have hyl := col_len L j
              have hen := encodeI_any w1.heap.size f cp pb po (colN L j) wr (by omega) hent (by rw [hyl]; exact hcal) (fun i hi => by
                have hiL : i < L.length := by rw [← hyl]; exact hi
                rw [hcel i hiL, raw_folded hiL]
                have h2 := col_at (c := j) hiL
                rw [List.getElem?_eq_getElem hi] at h2
                rw [Option.some.inj h2])
              rw [hyl] at hen
              have HPB : Hid (putRunsB (colN L j) = putR (colN L j) ∧ putRunsC (colN L j) = 0) := putRuns_ok (by rw [hyl]; omega) (col_ok HOK.out j)
              have HOT : Hid (outTo L (j + 1) = outTo L j ++ putR (colN L j)) := outTo_num h25
              have hpl : (putR (colN L j)).length ≤ 17418 := putR17 (col_bd HOK.out j) (by rw [hyl]; exact hl)
              have hji : (j : Int) < 27 := by omega
              clear hcal hcel hent hci hF hyl
              go_wp2_with fail
              refine hen.mono ?_
              rintro e w5 ⟨r5, rfl, ho5, hb5⟩
              rw [HPB.out.1] at ho5
              rw [HPB.out.2]
              have hB5 := below_seq hbel2 hb5
              have hov := ho.below hb5 (Nat.le_refl _)
              have hbk := hov.lt
              clear ho hb5 hbel2 hen
              go_wp2_with (at_builtin; refine wpList_append_rd rfl _ _ 24 rfl w4.heap.size 5 i5 (.int .u8 0) 1 Tryz.underlying24 hi5 hy0 hy1 hy2 rfl _ _ rfl hov _ _ _ rfl ho5.rd (by simp [Value.oneCell']) (by simp only [List.length_map]; unfold maxLen; omega) (by simp only [List.length_map]; omega) hB5.size ?_)
              intro v7 w7 ho7 hg7
              have hb7 := hB5.grown hg7 hB5.size hbk
              replace ho7 : Own 5 w7 w4.heap.size v7 ((outTo L (j + 1)).map (Value.int .u8)) := by
                rw [HOT.out, List.map_append]
                exact ho7
              clear hov ho5 hg7 hB5 hbk
              go_wp2_with fail
              go_roundw
              case rel => exact ⟨j + 1, by omega, by go_num, ho7, hb7⟩
              case measure => first | (simp [intOf]; done) | (simp [intOf]; omega)
            · have hcs : j = 25 ∨ j = 26 := by omega
              clear hlt2 h25 hj
              rcases hcs with rfl | rfl
              · have c1 : wr.cell? ⟨cg, 25, none⟩ = some (.iface 93 (.agg #[.func (.func 84) #[] #[], .func (.func 44) #[] #[], .func (.func 45) #[] #[]])) := HCC.out wr hbel2 25 _ (by rw [List.getElem?_append_right (by rw [List.length_map, HLN.out]; omega), List.length_map, HLN.out]; rfl)
                have hyl : (kyL L).length = L.length := by simp [kyL]
                have htx := texts_len (·.ky) (fun x hx => (ok_facts (HOK.out x hx)).hky) hl
                have hen := encodeT_any w1.heap.size 84 #[] (fun _ => w1.heap.size) (fun i => i * 12 + 10) (kyL L) wr (by omega) (by rw [hyl]; have := htx.1; show tot (L.map (·.ky)) L.length ≤ _; omega) (fun args wz => enterT1 args wz) (fun wz hz i hi => drew0 (fieldT1_any w1.heap.size (i * 12) wz)) (fun i hi => by
                  have hiL : i < L.length := by rw [← hyl]; exact hi
                  have h1 := (hArr.row i (by rw [HFL.out]; exact hiL)).c10
                  rw [(fold_texts hiL).1] at h1
                  rw [h1]
                  have h2 : (kyL L)[i]? = some (ovAt L i).ky := by unfold kyL; rw [List.getElem?_map, ovAt_get hiL]; rfl
                  rw [List.getElem?_eq_getElem hi] at h2
                  rw [Option.some.inj h2])
                rw [hyl] at hen
                have HPB : Hid (putTextsB (kyL L) = putN (kyL L) L.length ∧ putTextsC (kyL L) = 0) := by
                  have h := putTexts_yes (ss := kyL L) ⟨by rw [hyl]; omega, by rw [hyl]; have := htx.1; show tot (L.map (·.ky)) L.length ≤ _; omega, by rw [hyl]; have := htx.2; show (putN (L.map (·.ky)) L.length).length ≤ _; omega⟩
                  rw [hyl] at h
                  exact h
                have HOT : Hid (outTo L (25 + 1) = outTo L 25 ++ putN (kyL L) L.length) := rfl
                have hpl : (putN (kyL L) L.length).length ≤ 225290 := htx.2
                clear htx hyl
                go_wp2_with fail
                refine hen.mono ?_
                rintro e w5 ⟨r5, rfl, ho5, hb5⟩
                rw [HPB.out.1] at ho5
                rw [HPB.out.2]
                have hB5 := below_seq hbel2 hb5
                have hov := ho.below hb5 (Nat.le_refl _)
                have hbk := hov.lt
                clear ho hb5 hbel2 hen
                go_wp2_with (at_builtin; refine wpList_append_rd rfl _ _ 24 rfl w4.heap.size 5 i5 (.int .u8 0) 1 Tryz.underlying24 hi5 hy0 hy1 hy2 rfl _ _ rfl hov _ _ _ rfl ho5.rd (by simp [Value.oneCell']) (by simp only [List.length_map]; unfold maxLen; omega) (by simp only [List.length_map]; omega) hB5.size ?_)
                intro v7 w7 ho7 hg7
                have hb7 := hB5.grown hg7 hB5.size hbk
                replace ho7 : Own 5 w7 w4.heap.size v7 ((outTo L (25 + 1)).map (Value.int .u8)) := by
                  rw [HOT.out, List.map_append]
                  exact ho7
                clear hov ho5 hg7 hB5 hbk
                go_wp2_with fail
                go_roundw
                case rel => exact ⟨25 + 1, by omega, by go_num, ho7, hb7⟩
                case measure => first | (simp [intOf]; done) | (simp [intOf]; omega)
              · have c1 : wr.cell? ⟨cg, 26, none⟩ = some (.iface 93 (.agg #[.func (.func 85) #[] #[], .func (.func 44) #[] #[], .func (.func 45) #[] #[]])) := HCC.out wr hbel2 26 _ (by rw [List.getElem?_append_right (by rw [List.length_map, HLN.out]; omega), List.length_map, HLN.out]; rfl)
                have hyl : (txL L).length = L.length := by simp [txL]
                have htx := texts_len (·.tx) (fun x hx => (ok_facts (HOK.out x hx)).htx) hl
                have hen := encodeT_any w1.heap.size 85 #[] (fun _ => w1.heap.size) (fun i => i * 12 + 11) (txL L) wr (by omega) (by rw [hyl]; have := htx.1; show tot (L.map (·.tx)) L.length ≤ _; omega) (fun args wz => enterT2 args wz) (fun wz hz i hi => drew0 (fieldT2_any w1.heap.size (i * 12) wz)) (fun i hi => by
                  have hiL : i < L.length := by rw [← hyl]; exact hi
                  have h1 := (hArr.row i (by rw [HFL.out]; exact hiL)).c11
                  rw [(fold_texts hiL).2] at h1
                  rw [h1]
                  have h2 : (txL L)[i]? = some (ovAt L i).tx := by unfold txL; rw [List.getElem?_map, ovAt_get hiL]; rfl
                  rw [List.getElem?_eq_getElem hi] at h2
                  rw [Option.some.inj h2])
                rw [hyl] at hen
                have HPB : Hid (putTextsB (txL L) = putN (txL L) L.length ∧ putTextsC (txL L) = 0) := by
                  have h := putTexts_yes (ss := txL L) ⟨by rw [hyl]; omega, by rw [hyl]; have := htx.1; show tot (L.map (·.tx)) L.length ≤ _; omega, by rw [hyl]; have := htx.2; show (putN (L.map (·.tx)) L.length).length ≤ _; omega⟩
                  rw [hyl] at h
                  exact h
                have HOT : Hid (outTo L (26 + 1) = outTo L 26 ++ putN (txL L) L.length) := rfl
                have hpl : (putN (txL L) L.length).length ≤ 225290 := htx.2
                clear htx hyl
                go_wp2_with fail
                refine hen.mono ?_
                rintro e w5 ⟨r5, rfl, ho5, hb5⟩
                rw [HPB.out.1] at ho5
                rw [HPB.out.2]
                have hB5 := below_seq hbel2 hb5
                have hov := ho.below hb5 (Nat.le_refl _)
                have hbk := hov.lt
                clear ho hb5 hbel2 hen
                go_wp2_with (at_builtin; refine wpList_append_rd rfl _ _ 24 rfl w4.heap.size 5 i5 (.int .u8 0) 1 Tryz.underlying24 hi5 hy0 hy1 hy2 rfl _ _ rfl hov _ _ _ rfl ho5.rd (by simp [Value.oneCell']) (by simp only [List.length_map]; unfold maxLen; omega) (by simp only [List.length_map]; omega) hB5.size ?_)
                intro v7 w7 ho7 hg7
                have hb7 := hB5.grown hg7 hB5.size hbk
                replace ho7 : Own 5 w7 w4.heap.size v7 ((outTo L (26 + 1)).map (Value.int .u8)) := by
                  rw [HOT.out, List.map_append]
                  exact ho7
                clear hov ho5 hg7 hB5 hbk
                go_wp2_with fail
                go_roundw
                case rel => exact ⟨26 + 1, by omega, by go_num, ho7, hb7⟩
                case measure => first | (simp [intOf]; done) | (simp [intOf]; omega)
          · obtain rfl : j = 27 := by omega
            have HLC : Hid ((logCols L).length ≤ 886030) := logCols_len HOK.out hl
            rw [outTo_end] at ho
            obtain ⟨a2, c2, e2, -⟩ := ho.slice
            rw [List.length_map] at e2
            have hlc := HLC.out
            have hsl := sumF_lt (logCols L) (h := 2166136261) (by omega)
            have HLY : Hid (logBy L = logCols L ++ four (sumF 2166136261 (logCols L))) := rfl
            have hso : Calls Tryz.prog 22 #[.int .u32 2166136261, _] wr fun e w' => e = .returned (.int .u32 ((sumF 2166136261 (logCols L) : Nat) : Int)) ∧ w' = wr := sumOn_any _ wr _ (logCols L) 2166136261 (by omega) (logCols_byte L) (by omega) ho.rd
            generalize sumF 2166136261 (logCols L) = S at hsl HLY hso
            have has := appendSum_any w4.heap.size wr _ (logCols L) S hsl (by omega) hbel2.size ho
            rw [← HLY.out] at has
            obtain ⟨m, HM⟩ : ∃ m, Hid ((logCols L).length = m) := ⟨_, rfl⟩
            rw [HM.out] at e2 hlc
            clear HM HLC ho
            subst e2
            have hg : (m : Int) ≤ 1048572 := by omega
            have hsw4 : w.heap.size ≤ w4.heap.size := by have := hB4.size; omega
            have hbw4 : Below w.heap.size w w4 := below_seq hb1 hB4
            have hz4 := hbel2
            clear hArr hAr hA4 HCC HLO
            have HSO : Hid (Calls Tryz.prog 22 #[.int .u32 2166136261, .slice a2 m c2] wr fun e w' => e = .returned (.int .u32 (S : Int)) ∧ w' = wr) := hso
            have HAS : Hid (Calls Tryz.prog 21 #[.slice a2 m c2, .int .u32 (S : Int)] wr fun e w' => ∃ r, e = .returned r ∧ Own 5 w' w4.heap.size r ((logBy L).map (Value.int .u8)) ∧ Below w4.heap.size wr w') := has
            have HSW : Hid (w.heap.size ≤ w4.heap.size) := hsw4
            have hgd : decide ((1048572 : Int) < (m : Int)) = false := by simp; omega
            clear hsl hlc hz4 hszr hso has hsw4 hg
            clear hlo hj hlt2 hs4 HOK hl HML HMN HFL HKL HLN
            go_wp2_with fail
            refine HSO.out.mono ?_
            rintro e w5 ⟨rfl, hw5⟩
            obtain rfl := hw5.symm
            go_wp2_with fail
            refine HAS.out.mono ?_
            rintro e w6 ⟨r6, rfl, ho6, hb6⟩
            have HO6 : Hid (Own 5 w6 w4.heap.size r6 ((logBy L).map (Value.int .u8))) := ho6
            clear ho6 HAS HSO
            go_wp2_with fail
            go_ret2
            exact ⟨_, by rw [HE1.out]; rfl, by rw [HE2.out]; exact HO6.out.mono HSW.out, hbw4.trans ((hbel2.trans hb6).mono HSW.out)⟩
  | false =>
    obtain ⟨E1, E2⟩ := HBB.out
    rw [if_neg (by decide)] at E1 E2
    have HE1 : Hid _ := E1
    have HE2 : Hid _ := E2
    clear E1 E2 HBB HF hr
    go_wp2_with fail
    go_ret2
    exact ⟨_, by rw [HE1.out]; rfl, by rw [HE2.out]; exact World.ownsRow_nil _ _ _ _, hb1⟩
end Go.Proofs.YtaglbacicpknaaaGreat
