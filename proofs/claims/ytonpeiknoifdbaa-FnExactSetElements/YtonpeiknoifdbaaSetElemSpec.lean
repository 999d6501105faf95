/- What the specification's SetElements does. -/
import Derived.Test.YtonpeiknoifdbaaSetElemImpl
import Derived.Test.YtonpeiknoifdbaaEntriesOK
import Derived.Test.YtonpeiknoifdbaaElemMath
import Derived.BigQuiet
import Derived.Deep.CutRange
import Derived.Deep.CutBlock
namespace Go.Proofs.Ytonpeiknoifdbaa
open Go.RowKit Go.Sort
set_option linter.unusedVariables false

theorem strsOne (l : List TxB) : ∀ u ∈ l.map encStr, u.oneCell' = true := by
  intro u hu
  obtain ⟨x, _, rfl⟩ := List.mem_map.1 hu
  rfl
theorem textsE_len (ls : List En) : (textsE ls).length = ls.length := by simp [textsE]
theorem textsE_snoc {ls : List En} {k : Nat} (hk : k < ls.length) : textsE (ls.take (k + 1)) = textsE (ls.take k) ++ [(enAt ls k).2.2.data.toList] := by
  have : ls.take (k + 1) = ls.take k ++ [enAt ls k] := by simp [enAt, hk]
  rw [this]
  simp [textsE]
theorem elemsB_ins (xs : List Int) (ls : List En) : elemsB xs ls = if okJ xs ls = true then insAll (textsE ls) else [] := by
  unfold elemsB
  rw [compact_sort]

set_option maxHeartbeats 4000000 in
set_option maxRecDepth 100000 in
theorem specSetElements_any (C : Nat) (w : World) (v ve : Value) (xs : List Int) (ls : List En) (hC : C ≤ w.heap.size) (hv : Rd C w v (xs.map (Value.int .i64))) (he : RdE C w ve ls) :
    Calls Try.prog 35 #[.agg #[v, ve]] w fun e w' => ∃ r, e = .returned (.tuple #[r, .int .i64 (elemsC xs ls)]) ∧ Own 9 w' w.heap.size r ((elemsB xs ls).map encStr) ∧ Below w.heap.size w w' := by
  obtain ⟨i0, hi, hz0, hz1, hz2⟩ := info_parts info9
  have hlk : okJ xs ls = true → ls.length ≤ 256 := fun h => by
    unfold okJ at h
    simp only [Bool.and_eq_true, decide_eq_true_eq] at h
    exact h.2.1
  have hW := below_alloc w (.cells #[v, ve] 74)
  have hS := l03EntriesOK_any C (w.alloc (.cells #[v, ve] 74)) v ve xs ls (Nat.le_trans hC hW.size) (hv.belowW hW hC) (he.below (hW.mono hC))
  have hD := Dy.made w v ve 74
  have HB : Hid (elemsB xs ls = if okJ xs ls = true then insAll (textsE ls) else []) := elemsB_ins xs ls
  have HC : Hid (elemsC xs ls = if okJ xs ls = true then 0 else 1) := rfl
  have hsl : ∃ ao len cap, v = .slice ao len cap := by
    obtain ⟨ao, cap, rfl, _⟩ := hv
    exact ⟨_, _, _, rfl⟩
  obtain ⟨ao, la, ca, rfl⟩ := hsl
  have he0 := he
  obtain ⟨eo, ec, rfl, hE⟩ := he0
  generalize okJ xs ls = bl at HB HC hlk hS ⊢
  have hRE := he.below (hW.mono hC)
  have hD0 : Hid _ := hD
  clear hD
  have hDD := hD0.out
  obtain ⟨⟨d0, d1⟩, _⟩ := hDD
  go_enter Try.func35, Try.ntmps35
  go_wp2_with fail
  clear d0 d1
  obtain ⟨W1, hW1⟩ : ∃ W1, w.alloc (.cells #[.slice ao la ca, .slice eo ls.length ec] 74) = W1 := ⟨_, rfl⟩
  rw [hW1] at hS hW hD0 hRE
  have hD := hD0.out
  clear hD0
  rw [hW1]
  refine hS.mono ?_
  rintro e w2 ⟨rfl, hb2⟩
  clear hS hW1 hE he
  cases bl with
  | false =>
    rw [if_neg (by decide)] at HB HC
    go_wp2_with fail
    refine bodyPost_ret (v := .tuple #[.slice (some ⟨w2.heap.size, 0, none⟩) 0 0, .int .i64 1]) ?_ rfl ⟨_, by rw [HC.out], by rw [HB.out]; exact (own_lit w2 9 [] 0 rfl (by decide)).mono (Nat.le_trans hW.size hb2.size), below_then (below_seq hW hb2) _⟩
    simp [results, Try.results35, go_sem]
  | true =>
    rw [if_pos rfl] at HB HC
    have hll := hlk rfl
    have ho := (own_lit w2 9 [] 0 rfl (by decide)).mono hb2.size
    have hB0 := below_then hb2 (.cells #[] 9)
    obtain ⟨w3, hw3⟩ : ∃ w3, w2.alloc (.cells #[] 9) = w3 := ⟨_, rfl⟩
    replace ho : Own 9 w3 W1.heap.size (.slice (some ⟨w2.heap.size, 0, none⟩) 0 0) [] := by rw [← hw3]; exact ho
    rw [hw3] at hB0
    go_upto_region 4 with fail
    clear hw3 hlk
    go_wp2_with fail
    go_loopw [4, 5] (fun tl tk wr => ∃ (k g cap : Nat), k ≤ ls.length ∧ tk = .int .i64 (k : Int) ∧ tl = .slice (some ⟨g, 0, none⟩) (insAll (textsE (ls.take k))).length cap ∧ Own 9 wr W1.heap.size tl ((insAll (textsE (ls.take k))).map encStr) ∧ Below W1.heap.size W1 wr) (fun _ tk _ => ls.length - (intOf tk).toNat)
    case atStart => exact ⟨0, w2.heap.size, 0, Nat.zero_le _, rfl, rfl, ho, hB0⟩
    case round =>
      clear ho hB0 hb2
      obtain ⟨k, g, cap, hk, rfl, rfl, ho, hB⟩ := hrel
      have hDr := Dy.on hD hB
      obtain ⟨⟨d0, d1⟩, _⟩ := hDr
      by_cases hlt : k < ls.length
      · obtain ⟨eo1, ec1, he1, hE⟩ := hRE
        simp only [Value.slice.injEq] at he1
        obtain ⟨rfl, _, rfl⟩ := he1
        obtain ⟨ge, off, rfl, hg, hc⟩ := hE (by omega)
        obtain ⟨q0, q1, q2⟩ := hc k hlt
        have hgW : ge < W1.heap.size := Nat.lt_of_lt_of_le hg (Nat.le_trans hC hW.size)
        have HQ : Hid (W1.cell? ⟨ge, off + (k * 3 + 2), none⟩ = some (.string (enAt ls k).2.2)) := q2
        rw [← hB.cell (p := ⟨ge, off + (k * 3 + 2), none⟩) hgW] at q2
        have HS := textsE_snoc hlt
        obtain ⟨t, a, s, hee⟩ : ∃ t a s, enAt ls k = (t, a, s) := ⟨_, _, _, rfl⟩
        rw [hee] at q2 HS HQ
        replace q2 : wr.cell? ⟨ge, off + k * 3 + 2, none⟩ = some (.string s) := q2
        have HI : Hid (insAll (textsE (ls.take (k + 1))) = insB (insAll (textsE (ls.take k))) s.data.toList) := by
          unfold Hid
          rw [HS, insAll_snoc]
        have hlen := insAll_len (textsE (ls.take k))
        rw [textsE_len, List.length_take] at hlen
        clear HS hee q0 q1 hc hE
        have j0 : (0 : Int) ≤ (k : Int) := by omega
        have j1 : (k : Int) < (ls.length : Int) := by omega
        have j2 : (k : Int) + 1 < 9223372036854775808 := by omega
        generalize hO : insAll (textsE (ls.take k)) = out at ho HI hlen ⊢
        have hol : out.length ≤ 256 := by omega
        have HX : Hid (∀ j (hj : j < out.length), wr.cell? ⟨g, j, none⟩ = some (.string ⟨(out[j]).toArray⟩)) := by
          intro j hj
          rcases ho.shape with ⟨h1, h2⟩ | ⟨g', cap', h1, _, _, h2, _⟩
          · rw [List.map_eq_nil_iff] at h2
            subst h2
            simp at hj
          · simp only [Value.slice.injEq, Option.some.injEq, Addr.mk.injEq] at h1
            obtain ⟨⟨rfl, _⟩, _, _⟩ := h1
            exact h2 j _ (by simp [hj, encStr])
        clear hO
        have hpl := pos_le out s.data.toList
        go_upto_block 2 with fail
        go_cut [6] from 16 to 77 (fun ta wx => ∃ n, ta = .int .i64 ((posB out s.data.toList : Nat) : Int) ∧ wx = wr.drewN n)
        case first =>
          go_wp2_with fail
          go_loopw [6] (fun ta wq => ∃ j n : Nat, j ≤ posB out s.data.toList ∧ ta = .int .i64 (j : Int) ∧ wq = wr.drewN n) (fun ta _ => out.length - (intOf ta).toNat)
          case atStart => exact ⟨0, 0, Nat.zero_le _, rfl, rfl⟩
          case round =>
            obtain ⟨j, n, hj, rfl, rfl⟩ := hrel
            by_cases hjl : j < out.length
            · have x0 := HX.out j hjl
              have hget : out[j]? = some out[j] := by simp
              have i0 : (0 : Int) ≤ (j : Int) := by omega
              have i1 : (j : Int) < (out.length : Int) := by omega
              have i2 : (j : Int) + 1 < 9223372036854775808 := by omega
              by_cases hb : out[j] < s.data.toList
              · have hbl : Op.bytesLess (ByteArray.mk (out[j]).toArray).toList s.toList = true := by
                  rw [bytesLess_eq, Lib.toList_data, Lib.toList_data]
                  simpa using hb
                have hst := pos_step hj hget hb
                have H : Hid _ := hst
                clear hst hb hget
                generalize (ByteArray.mk (out[j]).toArray) = y at x0 hbl
                go_wp2_with fail
                go_quiet (fail)
                go_wp2_with fail
                go_roundw
                case rel => exact ⟨j + 1, n + nq, H.out, by go_num, rfl⟩
                case measure => simp [intOf]; omega
              · have hbl : Op.bytesLess (ByteArray.mk (out[j]).toArray).toList s.toList = false := by
                  rw [bytesLess_eq, Lib.toList_data, Lib.toList_data]
                  simpa using hb
                have H : Hid (j = posB out s.data.toList) := pos_end hj hget hb
                clear hb hget
                generalize (ByteArray.mk (out[j]).toArray) = y at x0 hbl
                go_wp2_with fail
                go_quiet (fail)
                go_wp2_with fail
                go_meet
                case rel => exact ⟨n + nq, by rw [← H.out], World.drewN_drewN _ _ _⟩
            · have i1 : ¬ (j : Int) < (out.length : Int) := by omega
              have H : Hid (j = posB out s.data.toList) := pos_all hj (by omega)
              have hd : decide ((j : Int) < (out.length : Int)) = false := by simpa using hjl
              go_wp2_with fail
              go_quiet (fail)
              go_wp2_with fail
              go_meet
              case rel => exact ⟨n + nq, by rw [← H.out], World.drewN_drewN _ _ _⟩
        case rest =>
          obtain ⟨n, rfl, rfl⟩ := hcut
          generalize hP : posB out s.data.toList = p at hpl ⊢
          have hdc : Hid (∀ j (hj : j < out.length), (wr.drewN n).cell? ⟨g, j, none⟩ = some (.string ⟨(out[j]).toArray⟩)) := HX.out
          replace q2 : (wr.drewN n).cell? ⟨ge, off + k * 3 + 2, none⟩ = some (.string s) := q2
          replace d0 : (wr.drewN n).cell? ⟨w.heap.size, 0, none⟩ = some (.slice ao la ca) := d0
          replace d1 : (wr.drewN n).cell? ⟨w.heap.size, 1, none⟩ = some (.slice (some ⟨ge, off, none⟩) ls.length ec) := d1
          replace ho : Own 9 (wr.drewN n) W1.heap.size _ _ := ho
          replace hB := below_drewN hB n
          replace hD := hD
          clear HX
          generalize wr.drewN n = w5 at hdc q2 d0 d1 ho hB ⊢
          go_upto_region 10 with fail
          go_cut [58] from 16 to 77 (fun c wx => ∃ n, c = .bool (decide (out[p]? ≠ some s.data.toList)) ∧ wx = w5.drewN n)
          case first =>
            by_cases hpe : p = out.length
            · have hd : ((p : Int) == (out.length : Int)) = true := by simp [hpe]
              have hnn : decide (out[p]? ≠ some s.data.toList) = true := by
                rw [hpe]
                simp
              have HNN : Hid _ := hnn
              clear hpe hnn
              go_wp2_with fail
              go_quiet (fail)
              go_wp2_with fail
              go_meet
              case rel => exact ⟨_, by rw [HNN.out], rfl⟩
            · have hpl' : p < out.length := by omega
              have hd : ((p : Int) == (out.length : Int)) = false := by
                simp
                omega
              have x0 := hdc.out p hpl'
              have i0 : (0 : Int) ≤ (p : Int) := by omega
              have i1 : (p : Int) < (out.length : Int) := by omega
              have hbv : (!((ByteArray.mk (out[p]).toArray).toList == s.toList)) = decide (out[p]? ≠ some s.data.toList) := by
                rw [Lib.toList_data, Lib.toList_data]
                simp only [List.getElem?_eq_getElem hpl', ne_eq, Option.some.injEq]
                by_cases hx : out[p] = s.data.toList <;> simp [hx]
              have HBV : Hid _ := hbv
              clear hbv
              generalize (ByteArray.mk (out[p]).toArray) = y at x0 HBV
              go_wp2_with fail
              go_quiet (fail)
              go_wp2_with fail
              go_meet
              case rel => exact ⟨_, congrArg Value.bool HBV.out, rfl⟩
          case rest =>
            obtain ⟨n2, rfl, rfl⟩ := hcut
            replace q2 : (w5.drewN n2).cell? ⟨ge, off + k * 3 + 2, none⟩ = some (.string s) := q2
            replace d0 : (w5.drewN n2).cell? ⟨w.heap.size, 0, none⟩ = some (.slice ao la ca) := d0
            replace d1 : (w5.drewN n2).cell? ⟨w.heap.size, 1, none⟩ = some (.slice (some ⟨ge, off, none⟩) ls.length ec) := d1
            replace ho : Own 9 (w5.drewN n2) W1.heap.size _ _ := ho
            replace hB := below_drewN hB n2
            clear hdc
            generalize w5.drewN n2 = w6 at q2 d0 d1 ho hB ⊢
            by_cases hnew : out[p]? = some s.data.toList
            · have hf : decide (out[p]? ≠ some s.data.toList) = false := by simp [hnew]
              rw [hf]
              have hold : insB out s.data.toList = out := ins_old (by rw [hP]; exact hnew)
              clear hf hnew
              go_wp2_with fail
              go_roundw
              case rel => exact ⟨k + 1, g, cap, by omega, by go_num, by rw [HI.out, hold], by rw [HI.out, hold]; exact ho, hB⟩
              case measure => simp [intOf]; omega
            · have hf : decide (out[p]? ≠ some s.data.toList) = true := by simp [hnew]
              rw [hf]
              have hins : insB out s.data.toList = out.take p ++ s.data.toList :: out.drop p := by
                have := ins_new (out := out) (x := s.data.toList) (by rw [hP]; exact hnew)
                rwa [hP] at this
              clear hf hnew
              have hro := ho.rd
              have hcp : out.length ≤ cap := by
                obtain ⟨_, cap1, h1, h2, _⟩ := hro
                simp only [Value.slice.injEq] at h1
                rw [List.length_map] at h2
                omega
              have hz6 := hB.size
              have hoL := own_lit w6 9 [] 0 rfl (by decide)
              have hro7 := hro.alloc (.cells #[] 9) (Nat.le_refl _)
              have hB7 := below_then hB (.cells #[] 9)
              have hc1 := hro7.cut 0 p (Nat.zero_le _) (by simp; omega) (ao' := some ⟨g, 0, none⟩) (by split <;> rfl)
              rw [List.drop_zero, ← List.map_take] at hc1
              replace hc1 : Rd w6.heap.size (w6.alloc (.cells #[] 9)) (.slice (some ⟨g, 0, none⟩) p cap) ((out.take p).map encStr) := hc1
              have htl : ((out.take p).map encStr).length ≤ 256 := by simp; omega
              have p0 : (0 : Int) ≤ (p : Int) := by omega
              have p1 : (p : Int) ≤ (cap : Int) := by omega
              have p2 : p ≤ cap := by omega
              have p3 : (p : Int) ≤ (out.length : Int) := by omega
              clear q2 d0 d1
              go_upto_region 12 with (at_builtin; refine wpList_append_rd rfl (.tmp 59) (.tmp 62) 69 rfl w6.heap.size 9 i0 (.string ByteArray.empty) 16 Try.underlying69 hi hz0 hz1 hz2 rfl _ [] rfl hoL _ _ ((out.take p).map encStr) rfl hc1 (strsOne _) (by unfold maxLen; simp only [List.length_nil]; omega) (by simp only [List.length_nil]; omega) (by simp) ?_)
              intro v8 w8 ho8 hg8
              rw [← List.map_take] at ho8
              have hB8 := below_grown hB7 (Nat.le_refl _) hg8 (fun k hk => Nat.le_trans hz6 (hoL.lt k hk))
              have hro8 := hro7.grown hg8 hoL.lt
              have hz8 := hB8.size
              have hw8 : w6.heap.size ≤ w8.heap.size := by have := hg8.size; simp at this; omega
              clear hoL hro7 hB7 hc1 hg8
              have hD8 := Dy.on hD hB8
              obtain ⟨⟨d0, d1⟩, _⟩ := hD8
              have q2 : w8.cell? ⟨ge, off + k * 3 + 2, none⟩ = some (.string s) := (hB8.cell (p := ⟨ge, off + (k * 3 + 2), none⟩) hgW).trans HQ.out
              generalize hcs : (out.take p).map encStr = cs at ho8 htl
              go_upto_region 13 with (at_builtin; refine wpList_append_own _ rfl _ _ 69 rfl w6.heap.size 9 i0 (.string ByteArray.empty) 1 16 Try.underlying69 hi hz0 hz1 hz2 rfl (by decide) _ _ _ rfl (World.ownsRow.alloc ho8 _) ⟨w8.heap.size, 0, none⟩ 1 1 [.string s] rfl rfl (one_newS _ _ _) (by simp [Value.oneCell']) (by unfold maxLen; omega) (by omega) (by first | omega | (simp; omega)) ?_)
              intro v10 w10 ho10 hg10 _
              have hoA : Own 9 w10 w6.heap.size v10 (cs ++ [.string s]) := own_of ho10
              have hB10 := below_grown (below_then hB8 (.cells #[.string s] 9)) (Nat.le_refl _) hg10 (fun k hk => Nat.le_trans hz6 ((World.ownsRow.lt ho8 k hk).1))
              have hro10 := (hro8.alloc (.cells #[.string s] 9) hw8).grown hg10 (fun k hk => (World.ownsRow.lt ho8 k hk).1)
              have hz10 : w6.heap.size ≤ w10.heap.size := by have := hg10.size; simp at this; omega
              have hal : (cs ++ [Value.string s]).length ≤ 257 := by simp; omega
              have hdl : ((out.drop p).map encStr).length ≤ 256 := by simp; omega
              clear ho10 ho8 hB8 hg10 hro8 d0 d1 q2
              by_cases hcap : cap = p
              · have hc2 := hro10.cut p (out.length - p) (by simp; omega) (by simp) (ao' := some ⟨g, 0, none⟩) (by rw [if_pos hcap])
                rw [List.take_of_length_le (by simp), ← List.map_drop] at hc2
                subst hcap
                rw [show out.length - cap = 0 by omega] at hc2
                have hc3 := hc2
                rw [Nat.sub_self] at hc3
                go_wp2_with (at_builtin; first | refine wpList_append_rd rfl (.tmp 73) (.tmp 76) 69 rfl w6.heap.size 9 i0 (.string ByteArray.empty) 16 Try.underlying69 hi hz0 hz1 hz2 rfl _ _ rfl hoA _ _ ((out.drop cap).map encStr) rfl hc3 (strsOne _) (by unfold maxLen; omega) (by omega) (by omega) ?_ | refine wpList_append_rd rfl (.tmp 73) (.tmp 76) 69 rfl w6.heap.size 9 i0 (.string ByteArray.empty) 16 Try.underlying69 hi hz0 hz1 hz2 rfl _ _ rfl hoA _ _ ((out.drop cap).map encStr) rfl hc2 (strsOne _) (by unfold maxLen; omega) (by omega) (by omega) ?_)
                intro v12 w12 ho12 hg12
                have hB12 := below_grown hB10 (Nat.le_refl _) hg12 (fun k hk => Nat.le_trans hz6 (hoA.lt k hk))
                have ho13 : Own 9 w12 W1.heap.size v12 ((insAll (textsE (ls.take (k + 1)))).map encStr) := by
                  rw [HI.out, hins, List.map_append, List.map_cons, hcs, encStr_of]
                  have h := ho12.mono hz6
                  simpa [List.map_drop] using h
                have hpos : 0 < ((insAll (textsE (ls.take (k + 1)))).map encStr).length := by
                  rw [HI.out, hins]
                  simp
                  omega
                obtain ⟨g2, cap2, rfl, _⟩ := ho13.some hpos
                rw [List.length_map] at ho13 ⊢
                clear ho12 hg12 hB10
                go_wp2_with fail
                go_roundw
                case rel => exact ⟨k + 1, g2, cap2, by omega, by go_num, rfl, ho13, hB12⟩
                case measure => simp [intOf]; omega
              · have hc2 := hro10.cut p (out.length - p) (by simp; omega) (by simp) (ao' := some ⟨g, p, none⟩) (by rw [if_neg hcap]; simp [Addr.add_lit])
                rw [List.take_of_length_le (by simp), ← List.map_drop] at hc2
                go_wp2_with (at_builtin; refine wpList_append_rd rfl (.tmp 73) (.tmp 76) 69 rfl w6.heap.size 9 i0 (.string ByteArray.empty) 16 Try.underlying69 hi hz0 hz1 hz2 rfl _ _ rfl hoA _ _ ((out.drop p).map encStr) rfl hc2 (strsOne _) (by unfold maxLen; omega) (by omega) (by omega) ?_)
                intro v12 w12 ho12 hg12
                have hB12 := below_grown hB10 (Nat.le_refl _) hg12 (fun k hk => Nat.le_trans hz6 (hoA.lt k hk))
                have ho13 : Own 9 w12 W1.heap.size v12 ((insAll (textsE (ls.take (k + 1)))).map encStr) := by
                  rw [HI.out, hins, List.map_append, List.map_cons, hcs, encStr_of]
                  have h := ho12.mono hz6
                  simpa [List.map_drop] using h
                have hpos : 0 < ((insAll (textsE (ls.take (k + 1)))).map encStr).length := by
                  rw [HI.out, hins]
                  simp
                  omega
                obtain ⟨g2, cap2, rfl, _⟩ := ho13.some hpos
                rw [List.length_map] at ho13 ⊢
                clear ho12 hg12 hB10
                go_wp2_with fail
                go_roundw
                case rel => exact ⟨k + 1, g2, cap2, by omega, by go_num, rfl, ho13, hB12⟩
                case measure => simp [intOf]; omega
      · obtain rfl : k = ls.length := by omega
        rw [List.take_length] at ho
        have hn : ¬ (ls.length : Int) < (ls.length : Int) := by omega
        go_wp2_with fail
        refine bodyPost_ret (v := .tuple #[_, .int .i64 0]) ?_ rfl ⟨_, by rw [HC.out], by rw [HB.out]; exact ho.mono hW.size, below_seq hW hB⟩
        simp [results, Try.results35, go_sem]

end Go.Proofs.Ytonpeiknoifdbaa
