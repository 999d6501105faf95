/- UndoDone: what the code's answers. UndoDone: what the specification's answers. UndoDone: what the specification's answers, whole. -/
import Derived.Test.YtcifbgoonaolbabQSortedInts
import Derived.Test.YtcifbgoonaolbabQLogMathToLogM2
import Derived.Test.YtcifbgoonaolbabQLedCausesToLogCounts
import Derived.Test.YtcifbgoonaolbabQInfoToStr
import Derived.Test.YtcifbgoonaolbabQLogOKSpec
namespace Go.Proofs.Ytcifbgoonaolbab
open Go.RowKit
set_option linter.unusedVariables false

theorem udNil (w : World) (e : TypeId) (B : Nat) : Own e w B (.slice none 0 0) [] := ⟨rfl, .inl ⟨rfl, rfl⟩⟩
theorem own_low {e : TypeId} {w : World} {B B' : Nat} {v : Value} {xs : List Value} (h : Own e w B v xs) (hb : B' ≤ B) : Own e w B' v xs := by
  obtain ⟨h1, h2⟩ := h
  refine ⟨h1, ?_⟩
  rcases h2 with h2 | ⟨g, cap, cur, hv, hg, hh, r⟩
  · exact .inl h2
  · exact .inr ⟨g, cap, cur, hv, by omega, hh, r⟩
theorem ok_undo {x : Ov} (h : x.ok = true) : (1 ≤ x.s ∧ x.s ≤ 1000000000000) ∧ 0 ≤ x.u ∧ x.u < x.s := by
  unfold Ov.ok opB comesOK at h
  simp only [Bool.and_eq_true, decide_eq_true_eq] at h
  omega
theorem logI_steps {L : List Ov} (h : logI L = true) : L.length ≤ 1024 ∧ (∀ i, i < L.length → stepN L i = true) ∧ ∀ x ∈ L, x.ok = true := by
  unfold logI at h
  simp only [Bool.and_eq_true, decide_eq_true_eq] at h
  have hs : ∀ i, i < L.length → stepI L i = true := fun i hi => by
    have := h.2.1
    rw [List.all_eq_true] at this
    exact this i (List.mem_range.2 hi)
  refine ⟨h.1, fun i hi => ?_, step_mem hs⟩
  have := hs i hi
  rw [stepI_split, Bool.and_eq_true] at this
  exact this.1
/-- What UndoDone answers. -/
def ansUD (act : Int) (L : List Ov) : List Int := if logI L = true then (if 0 ≤ act ∧ act < 16 then sqT L act L.length else []) else []
def codUD (act : Int) (L : List Ov) : Int := if logI L = true then (if 0 ≤ act ∧ act < 16 then 0 else 4) else 1
theorem ansUD_len (act : Int) (L : List Ov) : (ansUD act L).length ≤ 1048576 := by
  unfold ansUD
  split
  · rename_i h
    have h1 := (logI_steps h).1
    split
    · have := sqT_len L act L.length; omega
    · simp
  · simp

set_option maxHeartbeats 2000000 in
set_option maxRecDepth 100000 in
theorem implUndoDone_any (act : Int) (C : Nat) (w : World) (v : Value) (L : List Ov) (hC : C ≤ w.heap.size) (hr : RdO C w v L) :
    Calls Try.prog 7 #[v, .int .i64 act] w fun e w' => ∃ r, e = .returned (.tuple #[r, .int .i64 (codUD act L)]) ∧ Own 3 w' w.heap.size r ((ansUD act L).map (Value.int .i64)) ∧ Below w.heap.size w w' := by
  have hl := ledgerOf_any C w v L hC hr
  have hdv := fun x hx => hr.2 x hx
  obtain ⟨ao, cap, rfl⟩ : ∃ ao cap, v = .slice ao L.length cap := by obtain ⟨⟨ao, cap, h, _⟩, _⟩ := hr; exact ⟨_, _, h⟩
  have hA := fun w => isActor_any act w
  cases hlog : logI L with
  | false =>
    have HA : Hid (ansUD act L = []) := by unfold Hid ansUD; rw [if_neg (by rw [hlog]; decide)]
    have hD : codUD act L = 1 := by unfold codUD; rw [if_neg (by rw [hlog]; decide)]
    rw [HA.out, hD]
    clear HA hD
    go_enter Try.func7, Try.ntmps7
    go_wp2_with fail
    refine hl.mono ?_
    rintro e w1 ⟨hans, hb1⟩
    rcases hans with ⟨h1, _⟩ | ⟨_, rfl⟩
    · rw [hlog] at h1; cases h1
    · go_wp2_with fail
      go_ret2
      exact ⟨_, rfl, udNil _ _ _, hb1⟩
  | true =>
    by_cases hact : 0 ≤ act ∧ act < 16
    · have HA : Hid (ansUD act L = sqT L act L.length) := by unfold Hid ansUD; rw [if_pos hlog, if_pos hact]
      have hD : codUD act L = 0 := by unfold codUD; rw [if_pos hlog, if_pos hact]
      obtain ⟨a, rfl⟩ : ∃ a : Nat, act = (a : Int) := ⟨act.toNat, by omega⟩
      have ha : a < 16 := by omega
      obtain ⟨hlen, hst, hok⟩ := logI_steps hlog
      have hrise : (sqT L (a : Int) L.length).Pairwise (· < ·) := sqT_rise hst (fun x hx => (ok_parts (hok x hx)).1.1) _ _ (Nat.le_refl _)
      have hmem := undone_same hst (fun x hx => (ok_parts (hok x hx)).1.1) (fun x hx => (ok_undo (hok x hx)).2) a
      rw [HA.out, hD]
      generalize sqT L (a : Int) L.length = T at hrise hmem ⊢
      have hai : (0 : Int) ≤ (a : Int) ∧ (a : Int) < 16 := hact
      have ha1 : (0 : Int) ≤ (a : Int) := by omega
      have ha2 : (a : Int) < 16 := by omega
      clear HA hD hact
      go_enter Try.func7, Try.ntmps7
      go_wp2_with fail
      refine hl.mono ?_
      rintro e w1 ⟨hans, hb1⟩
      rcases hans with ⟨_, lb, rfl, vs, hL⟩ | ⟨h1, _⟩
      · obtain ⟨za, zc, hz⟩ := hL.slice ha
        have hcell : w1.cell? ⟨lb, a, none⟩ = some (.slice za (byA L a).length zc) := by rw [← hz]; exact hL.cell (led_vs hL.len ha)
        have hby : ∀ x ∈ byA L a, x ∈ L := fun x hx => (List.mem_filter.1 hx).1
        have hs1 := hb1.size
        have hrdM : RdO w1.heap.size w1 (.slice za (byA L a).length zc) (byA L a) := by
          rw [← hz]
          exact owns_rdO (hL.row a ha) (fun x hx => ((hdv x (hby x hx)).mono hC |>.below hb1).mono hs1)
        have hbl : (byA L a).length ≤ 1024 := Nat.le_trans (List.length_filter_le _ _) hlen
        have hU := undoneOf_any w1.heap.size w1 _ _ (Nat.le_refl _) hrdM hbl (fun x hx => by have := ok_undo (hok x (hby x hx)); exact ⟨wfI (by omega) (by omega), wfI (by omega) (by omega)⟩)
        have hlb0 : lb < w1.heap.size := hL.lt
        clear hrdM hL hz hst hok hdv hr hl hlog hby
        generalize (byA L a).length = bl at *
        generalize undS (byA L a) = U at *
        rw [decide_eq_true hai] at hA
        go_wp2_with (first | (go_at_call 18; refine (hA _).mono ?_; rintro e w9 ⟨rfl, hw9⟩; obtain rfl := hw9.symm))
        refine hU.mono ?_
        rintro e w2 ⟨b, rfl, hb, hset, hb2⟩
        have hs2 := hb2.size
        have hset2 := hset.alloc (.cells #[.map (some b)] 58)
        have hbx := (Boxed.new w2 58 (.map (some b)))
        have hS := sortedI_any (w2.alloc (.cells #[.map (some b)] 58)) w2.heap.size b bl U T hbx.lt hbx.cell hset2 (by omega) hrise hmem
        clear hU hset hset2 hbx hcell
        go_wp2_with fail
        refine (keysI_any _ _).mono ?_
        rintro e w3 ⟨rfl, rfl⟩
        go_wp2_with fail
        refine hS.mono ?_
        rintro e w4 ⟨r, rfl, hown, hb4⟩
        rw [World.size_alloc] at hown hb4
        go_wp2_with fail
        go_ret2
        exact ⟨_, rfl, own_low hown (by omega), ((hb1.trans (hb2.mono hs1)).alloc (by omega) _).trans (hb4.mono (by omega))⟩
      · rw [hlog] at h1; cases h1
    · have HA : Hid (ansUD act L = []) := by unfold Hid ansUD; rw [if_pos hlog, if_neg hact]
      have hD : codUD act L = 4 := by unfold codUD; rw [if_pos hlog, if_neg hact]
      rw [decide_eq_false hact] at hA
      rw [HA.out, hD]
      clear HA hD hact
      go_enter Try.func7, Try.ntmps7
      go_wp2_with fail
      refine hl.mono ?_
      rintro e w1 ⟨hans, hb1⟩
      rcases hans with ⟨_, lb, rfl, vs, hL⟩ | ⟨h1, _⟩
      · go_wp2_with (first | (go_at_call 18; refine (hA _).mono ?_; rintro e w9 ⟨rfl, hw9⟩; obtain rfl := hw9.symm))
        go_ret2
        exact ⟨_, rfl, udNil _ _ _, hb1⟩
      · rw [hlog] at h1; cases h1
end Go.Proofs.Ytcifbgoonaolbab

namespace Go.Proofs.Ytcifbgoonaolbab
open Go.RowKit
set_option linter.unusedVariables false

/-- The row of the specification while it asks of the operation i. -/
def rowB (L : List Ov) (i : Nat) (c : Bool) : List Bool := List.replicate i false ++ c :: (udB L).drop (i + 1)
theorem rowB_len {L : List Ov} {i : Nat} {c : Bool} (h : i < L.length) : (rowB L i c).length = L.length := by
  unfold rowB
  rw [List.length_append, List.length_replicate, List.length_cons, List.length_drop, udB_len]
  omega
theorem rowB_start (L : List Ov) (i : Nat) : List.replicate (i + 1) false ++ (udB L).drop (i + 1) = rowB L i false := by
  unfold rowB
  rw [List.replicate_succ', List.append_assoc]
  rfl
theorem rowB_end {L : List Ov} {i : Nat} (h : i < L.length) : rowB L i (uAt L i) = List.replicate i false ++ (udB L).drop i := by
  unfold rowB
  rw [List.drop_eq_getElem_cons (show i < (udB L).length by rw [udB_len]; exact h)]
  congr 2
  have := uAt_get h
  rw [List.getElem?_eq_getElem (by rw [udB_len]; exact h)] at this
  exact (Option.some.inj this).symm
theorem rowB_at {L : List Ov} {i k : Nat} {c : Bool} (h : i < k) (hk : k < L.length) : (rowB L i c)[k]? = some (uAt L k) := by
  unfold rowB
  rw [List.getElem?_append_right (by rw [List.length_replicate]; omega), List.length_replicate, show k - i = (k - i - 1) + 1 by omega, List.getElem?_cons_succ, List.getElem?_drop, show i + 1 + (k - i - 1) = k by omega]
  exact uAt_get hk
theorem rowB_set (L : List Ov) (i : Nat) (c d : Bool) : (rowB L i c).set i d = rowB L i d := by
  unfold rowB
  rw [List.set_append_right _ _ (by rw [List.length_replicate]; omega), List.length_replicate, Nat.sub_self]
  rfl
/-- Whether one of the first d behind i undoes it. -/
def cU (L : List Ov) (i d : Nat) : Bool := (((L.drop (i + 1)).zip ((udB L).drop (i + 1))).take d).any (fun p => decide (p.1.a = (ovAt L i).a) && (decide (p.1.u = (ovAt L i).s) && !p.2))
theorem cU_zero (L : List Ov) (i : Nat) : cU L i 0 = false := rfl
theorem zip_at {L : List Ov} {i d : Nat} (h : i + 1 + d < L.length) : ((L.drop (i + 1)).zip ((udB L).drop (i + 1)))[d]? = some (ovAt L (i + 1 + d), uAt L (i + 1 + d)) := by
  rw [List.getElem?_zip_eq_some, List.getElem?_drop, List.getElem?_drop]
  exact ⟨ovAt_get h, uAt_get h⟩
theorem cU_step {L : List Ov} {i d : Nat} (h : i + 1 + d < L.length) (ha : (ovAt L (i + 1 + d)).a = (ovAt L i).a) : cU L i (d + 1) = (cU L i d || (decide ((ovAt L (i + 1 + d)).u = (ovAt L i).s) && !uAt L (i + 1 + d))) := by
  unfold cU
  rw [List.take_add_one, zip_at h, List.any_append]
  simp [ha]
theorem cU_end {L : List Ov} (hs : ∀ i, i < L.length → stepN L i = true) {i d : Nat} (hi : i < L.length) (h : L.length ≤ i + 1 + d ∨ (i + 1 + d < L.length ∧ (ovAt L (i + 1 + d)).a ≠ (ovAt L i).a)) : uAt L i = cU L i d := by
  rw [uAt_any hi]
  conv => lhs; rw [← List.take_append_drop d ((L.drop (i + 1)).zip ((udB L).drop (i + 1)))]
  rw [List.any_append]
  have : (List.drop d ((L.drop (i + 1)).zip ((udB L).drop (i + 1)))).any (fun p => decide (p.1.a = (ovAt L i).a) && (decide (p.1.u = (ovAt L i).s) && !p.2)) = false := by
    rw [List.any_eq_false]
    intro p hp
    obtain ⟨q, hq⟩ := List.mem_iff_getElem?.1 hp
    rw [List.getElem?_drop] at hq
    have hlt : i + 1 + (d + q) < L.length := by
      have := (List.getElem?_eq_some_iff.1 hq).1
      rw [List.length_zip, List.length_drop, List.length_drop, udB_len] at this
      omega
    rw [zip_at hlt] at hq
    have e := Option.some.inj hq
    rw [← e]
    rcases h with h | ⟨h1, h2⟩
    · omega
    · have r1 := rising hs (i + 1 + d) h1 i (by omega)
      have r2 := rising hs (i + 1 + (d + q)) hlt (i + 1 + d) (by omega)
      have : (ovAt L (i + 1 + (d + q))).a ≠ (ovAt L i).a := by omega
      simp [this]
  rw [this, Bool.or_false]
  rfl
theorem infoBool : (Try.prog.info? 4).map (fun i => (i.zero, i.size, i.bytes)) = some (some (.bool false), 1, 1) := by kernel_rfl
theorem map_bool_get {bs : List Bool} {k : Nat} {b : Bool} (h : bs[k]? = some b) (hk : k < (bs.map Value.bool).length) : (bs.map Value.bool)[k] = .bool b := by
  have : (bs.map Value.bool)[k]? = some (.bool b) := by rw [List.getElem?_map, h]; rfl
  rw [List.getElem?_eq_getElem hk] at this
  exact Option.some.inj this

set_option maxHeartbeats 4000000 in
set_option maxRecDepth 100000 in
theorem l10Undone_any (C : Nat) (w : World) (v : Value) (L : List Ov) (hC : C ≤ w.heap.size) (hr : RdO C w v L) (hlen : L.length ≤ 1024) (hst : ∀ i, i < L.length → stepN L i = true) :
    Calls Try.prog 15 #[v] w fun e w' => ∃ r, e = .returned r ∧ Own 4 w' w.heap.size r ((udB L).map Value.bool) ∧ Below w.heap.size w w' := by
  obtain ⟨i0, hi, hz0, hz1, hz2⟩ := info_parts infoBool
  obtain ⟨⟨ao, cap, rfl, hcap, hmax, hnil, hrow⟩, -⟩ := hr
  have hl0 : (0 : Int) ≤ (L.length : Int) := by omega
  have hl1 : (L.length : Int) ≤ 1024 := by omega
  go_enter Try.func15, Try.ntmps15
  go_wp2_with (at_make; refine wpList_make_full _ rfl _ _ 42 rfl w.heap.size 4 i0 (.bool false) 1 Try.underlying42 hi hz0 hz1 _ _ _ _ L.length rfl rfl rfl rfl (by rw [hz2]; omega) (by unfold maxLen; omega) (Nat.le_refl _) ?_)
  intro w1 hown hgrow
  have ho1 := own_of hown
  rw [toList_madeCells_one] at ho1
  have hb1 : Below w.heap.size w w1 := (Below.refl _ _).grown hgrow (Nat.le_refl _) (fun k hk => by cases hk)
  have HO1 : Hid (Own 4 w1 w.heap.size (.slice (some ⟨w.heap.size, 0, none⟩) L.length L.length) ((List.replicate L.length false ++ (udB L).drop L.length).map Value.bool)) := by
    rw [List.drop_eq_nil_of_le (by rw [udB_len]; exact Nat.le_refl _), List.append_nil, List.map_replicate]
    exact ho1
  clear hown hgrow ho1
  go_wp2_with fail
  go_loopw [4] (fun ti wr => ∃ m : Nat, m ≤ L.length ∧ ti = .int .i64 ((m : Int) - 1) ∧ Own 4 wr w.heap.size (.slice (some ⟨w.heap.size, 0, none⟩) L.length L.length) ((List.replicate m false ++ (udB L).drop m).map Value.bool) ∧ Below w.heap.size w wr) (fun ti _ => (intOf ti + 1).toNat)
  case atStart => exact ⟨L.length, Nat.le_refl _, rfl, HO1.out, hb1⟩
  case round =>
    clear HO1 hb1
    obtain ⟨m, hm, rfl, ho, hbel⟩ := hrel
    cases m with
    | zero =>
      have HO : Hid (Own 4 wr w.heap.size (.slice (some ⟨w.heap.size, 0, none⟩) L.length L.length) ((udB L).map Value.bool)) := ho
      clear ho
      go_wp2_with fail
      go_ret
      exact ⟨_, rfl, HO.out, hbel⟩
    | succ i =>
      have hiL : i < L.length := by omega
      rw [show (((i + 1 : Nat) : Int) - 1) = (i : Int) by omega]
      rw [rowB_start] at ho
      have hi0 : (0 : Int) ≤ (i : Int) := by omega
      have hi1 : (i : Int) < (L.length : Int) := by omega
      have hi2 : (i : Int) + 1 < 9223372036854775808 := by omega
      obtain ⟨g, off, rfl, hg, hcs⟩ := hrow (by omega)
      have HO : Hid (Own 4 wr w.heap.size (.slice (some ⟨w.heap.size, 0, none⟩) L.length L.length) ((rowB L i (cU L i 0)).map Value.bool)) := by rw [cU_zero]; exact ho
      clear ho hrow hnil
      go_wp2_with fail
      go_loopw [5] (fun tk wq => ∃ d : Nat, i + 1 + d ≤ L.length ∧ tk = .int .i64 ((i + 1 + d : Nat) : Int) ∧ Own 4 wq w.heap.size (.slice (some ⟨w.heap.size, 0, none⟩) L.length L.length) ((rowB L i (cU L i d)).map Value.bool) ∧ Below w.heap.size w wq) (fun tk _ => L.length - (intOf tk).toNat)
      case atStart => exact ⟨0, by omega, by go_num, HO.out, hbel⟩
      case round =>
        clear HO hbel
        obtain ⟨d, hd, rfl, ho, hbq⟩ := hrel
        obtain ⟨k, Hk⟩ : ∃ k, Hid (i + 1 + d = k) := ⟨_, rfl⟩
        have hx := (hcs i hiL).below hbq (by omega)
        have ci0 := hx.c0
        have ci1 := hx.c1
        clear hx
        by_cases hlt : i + 1 + d < L.length
        · have hkl : k < L.length := by rw [← Hk.out]; exact hlt
          have hik : i < k := by have := Hk.out; omega
          have hy := (hcs k hkl).below hbq (by omega)
          have ck0 := hy.c0
          have ck7 := hy.c7
          clear hy
          have hk0 : (0 : Int) ≤ (k : Int) := by omega
          have hk1 : (k : Int) < (L.length : Int) := by omega
          have hk2 : (k : Int) + 1 < 9223372036854775808 := by omega
          rw [Hk.out]
          by_cases ha : (ovAt L k).a = (ovAt L i).a
          · have HS : Hid (cU L i (d + 1) = (cU L i d || (decide ((ovAt L k).u = (ovAt L i).s) && !uAt L k))) := by
              have := cU_step hlt (by rw [Hk.out]; exact ha)
              rwa [Hk.out] at this
            have hlen2 : ((rowB L i (cU L i d)).map Value.bool).length = L.length := by rw [List.length_map, rowB_len hiL]
            have cb := own_cell ho (k := k) (by rw [hlen2]; exact hkl)
            rw [map_bool_get (rowB_at hik hkl)] at cb
            have R := fun n => own_set (w := wr.drewN n) ho i (.bool true)
            have hset : ((rowB L i (cU L i d)).map Value.bool).set i (.bool true) = (rowB L i true).map Value.bool := by rw [← rowB_set L i (cU L i d) true, List.map_set]
            rw [hset] at R
            clear hset
            have f1 := own_free ho i
            have cset := own_cell ho (k := i) (by rw [hlen2]; exact hiL)
            rw [ha] at ck0
            generalize ((rowB L i (cU L i d)).map Value.bool)[i] = old at cset
            generalize (ovAt L i).a = xa at *
            generalize (ovAt L i).s = xs at *
            generalize (ovAt L k).u = yu at *
            generalize uAt L k = ub at *
            clear ha hlen2
            by_cases hu : yu = xs
            · have hub : (yu == xs) = true := by simpa using hu
              cases ub with
              | true =>
                have HF : Hid (cU L i (d + 1) = cU L i d) := by unfold Hid; rw [HS.out]; simp
                clear HS R hu cset f1
                go_wp2_with fail
                go_quiet (fail)
                go_wp2_with fail
                go_quiet (fail)
                go_wp2_with fail
                go_roundw
                case rel => exact ⟨d + 1, by omega, by have := Hk.out; go_num, by rw [HF.out]; exact ho, below_drewN hbq _⟩
                case measure => have := Hk.out; simp [intOf]; omega
              | false =>
                have HF : Hid (cU L i (d + 1) = true) := by unfold Hid; rw [HS.out]; simp [hu]
                clear HS hu
                go_wp2_with fail
                go_quiet (fail)
                go_wp2_with fail
                go_quiet (fail)
                go_wp2_with fail
                go_roundw
                case rel => exact ⟨d + 1, by omega, by have := Hk.out; go_num, by rw [HF.out]; exact R _, (below_drewN hbq _).setCell (by exact Nat.le_refl _) _⟩
                case measure => have := Hk.out; simp [intOf]; omega
            · have hub : (yu == xs) = false := by simpa using hu
              have HF : Hid (cU L i (d + 1) = cU L i d) := by unfold Hid; rw [HS.out]; simp [hu]
              clear HS R hu cset f1
              go_wp2_with fail
              go_quiet (fail)
              go_wp2_with fail
              go_quiet (fail)
              go_wp2_with fail
              go_roundw
              case rel => exact ⟨d + 1, by omega, by have := Hk.out; go_num, by rw [HF.out]; exact ho, below_drewN hbq _⟩
              case measure => have := Hk.out; simp [intOf]; omega
          · have HF : Hid (uAt L i = cU L i d) := cU_end hst hiL (.inr ⟨hlt, by rw [Hk.out]; exact ha⟩)
            have hab : ((ovAt L k).a == (ovAt L i).a) = false := by simpa using ha
            have HO : Hid (Own 4 wr w.heap.size (.slice (some ⟨w.heap.size, 0, none⟩) L.length L.length) ((List.replicate i false ++ (udB L).drop i).map Value.bool)) := by unfold Hid; rw [← rowB_end hiL, HF.out]; exact ho
            generalize (ovAt L i).a = xa at *
            generalize (ovAt L k).a = ya at *
            clear ha ho HF
            go_wp2_with fail
            go_quiet (fail)
            go_wp2_with fail
            go_roundw
            case rel => exact ⟨i, by omega, by go_num, HO.out, below_drewN hbq _⟩
            case measure => simp [intOf]
        · have HF : Hid (uAt L i = cU L i d) := cU_end hst hiL (.inl (by omega))
          have HO : Hid (Own 4 wr w.heap.size (.slice (some ⟨w.heap.size, 0, none⟩) L.length L.length) ((List.replicate i false ++ (udB L).drop i).map Value.bool)) := by unfold Hid; rw [← rowB_end hiL, HF.out]; exact ho
          rw [Hk.out] at hlt ⊢
          have i1 : ¬ (k : Int) < (L.length : Int) := by omega
          have hdk : decide ((k : Int) < (L.length : Int)) = false := by simpa using hlt
          clear ho HF
          go_wp2_with fail
          go_quiet (fail)
          go_wp2_with fail
          go_roundw
          case rel => exact ⟨i, by omega, by go_num, HO.out, below_drewN hbq _⟩
          case measure => simp [intOf]
end Go.Proofs.Ytcifbgoonaolbab

namespace Go.Proofs.Ytcifbgoonaolbab
open Go.RowKit
set_option linter.unusedVariables false

theorem udCell (w : World) (x : Value) (t : TypeId) : ∀ j u, [x][j]? = some u → (w.alloc (.cells #[x] t)).cell? ((⟨w.heap.size, 0, none⟩ : Addr).add j) = some u := by
  intro j u h
  cases j with
  | zero =>
    simp only [List.getElem?_cons_zero, Option.some.injEq] at h
    subst h
    rw [Addr.add_mid]
    exact cell_made (Below.refl _ _) (k := 0) rfl
  | succ j => simp at h

set_option maxHeartbeats 4000000 in
set_option maxRecDepth 100000 in
theorem specUndoDone_any (act : Int) (C : Nat) (w : World) (v : Value) (L : List Ov) (hC : C ≤ w.heap.size) (hr : RdO C w v L) :
    Calls Try.prog 5 #[v, .int .i64 act] w fun e w' => ∃ r, e = .returned (.tuple #[r, .int .i64 (codUD act L)]) ∧ Own 3 w' w.heap.size r ((ansUD act L).map (Value.int .i64)) ∧ Below w.heap.size w w' := by
  have hl := specLogOK_any C w v L hC hr
  have hr0 := hr
  obtain ⟨⟨ao, cap, rfl, hcap, hmax, hnil, hrow⟩, -⟩ := hr
  obtain ⟨i0, hi, hz0, hz1, hz2⟩ := info_parts info3
  cases hlog : logI L with
  | false =>
    have hA : Hid (ansUD act L = []) := by unfold Hid ansUD; rw [if_neg (by rw [hlog]; decide)]
    have hD : codUD act L = 1 := by unfold codUD; rw [if_neg (by rw [hlog]; decide)]
    rw [hA.out, hD]
    rw [hlog] at hl
    clear hA hD
    go_enter Try.func5, Try.ntmps5
    go_wp2_with fail
    refine hl.mono ?_
    rintro e w1 ⟨rfl, hb1⟩
    go_wp2_with fail
    go_ret2
    exact ⟨_, rfl, (own_lit w1 3 [] 0 rfl (by unfold maxLen; omega)).mono hb1.size, below_then hb1 _⟩
  | true =>
    rw [hlog] at hl
    obtain ⟨hlen, hst, hok⟩ := logI_steps hlog
    by_cases hact : 0 ≤ act ∧ act < 16
    · have HA : Hid (ansUD act L = sqT L act L.length) := by unfold Hid ansUD; rw [if_pos hlog, if_pos hact]
      have hD : codUD act L = 0 := by unfold codUD; rw [if_pos hlog, if_pos hact]
      rw [HA.out, hD]
      have ha1 : (0 : Int) ≤ act := hact.1
      have ha2 : act < 16 := hact.2
      have ha3 : ¬ act < 0 := by omega
      have ha4 : ¬ (16 : Int) ≤ act := by omega
      have hUn := fun (w9 : World) (hb : Below w.heap.size w w9) => l10Undone_any C w9 _ L (by have := hb.size; omega) (hr0.below (hb.mono hC)) hlen hst
      have HB : Hid (∀ x ∈ L, 1 ≤ x.s ∧ x.s ≤ 1000000000000) := fun x hx => (ok_undo (hok x hx)).1
      clear HA hD hact hlog hst hok hr0
      go_enter Try.func5, Try.ntmps5
      go_wp2_with fail
      refine hl.mono ?_
      rintro e w1 ⟨rfl, hb1⟩
      have hs1 := hb1.size
      go_wp2_with fail
      refine (hUn w1 hb1).mono ?_
      rintro e w2 ⟨ru, rfl, hou, hb2⟩
      have hs2 := hb2.size
      have hB2 : Below w.heap.size w w2 := hb1.trans (hb2.mono hs1)
      have hB3 := hB2.alloc (by omega) (.cells #[] 3)
      have HO0 : Hid (Own 3 (w2.alloc (.cells #[] 3)) w2.heap.size (.slice (some ⟨w2.heap.size, 0, none⟩) 0 0) ((sqT L act 0).map (Value.int .i64))) := own_lit w2 3 [] 0 rfl (by unfold maxLen; omega)
      obtain ⟨ua, uc, e, hug⟩ := hou.slice
      rw [List.length_map, udB_len] at e hug
      subst e
      clear hl hUn
      go_wp2_with fail
      go_loopw [7, 8] (fun tv ti wr => ∃ k : Nat, k ≤ L.length ∧ ti = .int .i64 (k : Int) ∧ Own 3 wr w2.heap.size tv ((sqT L act k).map (Value.int .i64)) ∧ Below w2.heap.size w2 wr) (fun _ ti _ => L.length - (intOf ti).toNat)
      case atStart => exact ⟨0, Nat.zero_le _, rfl, HO0.out, below_alloc w2 _⟩
      case round =>
        clear HO0
        obtain ⟨k, hk, rfl, ho, hbel⟩ := hrel
        have hslen := sqT_len L act k
        have hsz := hbel.size
        by_cases hlt : k < L.length
        · have hki : (k : Int) < (L.length : Int) := by omega
          have hk0 : (0 : Int) ≤ (k : Int) := by omega
          have hk2 : (k : Int) + 1 < 9223372036854775808 := by omega
          obtain ⟨g, off, rfl, hg, hcs⟩ := hrow (by omega)
          obtain ⟨gu, rfl⟩ := hug (by omega)
          have hx := ((hcs k hlt).below hB2 (by omega)).below hbel (by omega)
          have c0 := hx.c0
          have c1 := hx.c1
          clear hx hcs
          have cu := own_cell (hou.below hbel (Nat.le_refl _)) (k := k) (by rw [List.length_map, udB_len]; exact hlt)
          rw [map_bool_get (uAt_get hlt)] at cu
          by_cases ha : (ovAt L k).a = act
          · have hab : ((ovAt L k).a == act) = true := by simpa using ha
            cases hub : uAt L k with
            | true =>
              have HE : Hid (sqT L act (k + 1) = sqT L act k ++ [(ovAt L k).s]) := by unfold Hid; rw [sqT, if_pos ⟨ha, hub⟩]
              have hss := HB.out _ (ovAt_mem hlt)
              rw [hub] at cu
              generalize (ovAt L k).a = xa at *
              generalize (ovAt L k).s = xs at *
              have hcn := udCell wr (.int .i64 xs) 3
              obtain ⟨va, vc, e, -⟩ := ho.slice
              rw [List.length_map] at e
              subst e
              have ho' : wr.ownsRow w2.heap.size 3 1 (.slice va (sqT L act k).length vc) (sqT L act k).length ((sqT L act k).map (Value.int .i64)) := by
                unfold Own at ho
                rwa [List.length_map] at ho
              have hbk := ho.lt
              clear ha hub
              go_wp2_with (at_builtin; refine wpList_append_own _ rfl _ _ 24 rfl w2.heap.size 3 i0 (.int .i64 0) 1 8 Try.underlying24 hi hz0 hz1 hz2 rfl (by decide) _ (sqT L act k).length _ rfl (World.ownsRow.alloc ho' _) ⟨wr.heap.size, 0, none⟩ 1 1 [.int .i64 xs] rfl rfl hcn (by simp [Value.oneCell']) (by unfold maxLen; omega) (by omega) (by rw [World.size_alloc]; omega) ?_)
              intro v6 w6 ho6 hg6 _
              have ho7 : Own 3 w6 w2.heap.size v6 ((sqT L act (k + 1)).map (Value.int .i64)) := by rw [HE.out]; simpa using own_of ho6
              have hb7 : Below w2.heap.size w2 w6 := (below_then hbel _).grown hg6 (by rw [World.size_alloc]; omega) hbk
              clear ho6 hg6 ho ho' hcn HE
              go_wp2_with fail
              go_roundw
              case rel => exact ⟨k + 1, by omega, by go_num, ho7, hb7⟩
              case measure => simp [intOf]; omega
            | false =>
              have HE : Hid (sqT L act (k + 1) = sqT L act k) := by unfold Hid; rw [sqT, if_neg (by rw [hub]; simp)]
              rw [hub] at cu
              generalize (ovAt L k).a = xa at *
              clear ha hub c1
              go_wp2_with fail
              go_roundw
              case rel => exact ⟨k + 1, by omega, by go_num, by rw [HE.out]; exact ho, hbel⟩
              case measure => simp [intOf]; omega
          · have hab : ((ovAt L k).a == act) = false := by simpa using ha
            have HE : Hid (sqT L act (k + 1) = sqT L act k) := by unfold Hid; rw [sqT, if_neg (fun h => ha h.1)]
            generalize (ovAt L k).a = xa at *
            clear ha c1 cu
            go_wp2_with fail
            go_roundw
            case rel => exact ⟨k + 1, by omega, by go_num, by rw [HE.out]; exact ho, hbel⟩
            case measure => simp [intOf]; omega
        · obtain rfl : k = L.length := by omega
          have i1 : ¬ ((L.length : Nat) : Int) < (L.length : Int) := by omega
          go_wp2_with fail
          go_ret2
          exact ⟨_, rfl, ho.mono (by omega), hB2.trans (hbel.mono (by omega))⟩
    · have HA : Hid (ansUD act L = []) := by unfold Hid ansUD; rw [if_pos hlog, if_neg hact]
      have hD : codUD act L = 4 := by unfold codUD; rw [if_pos hlog, if_neg hact]
      rw [HA.out, hD]
      by_cases hneg : act < 0
      · clear HA hD hact
        go_enter Try.func5, Try.ntmps5
        go_wp2_with fail
        refine hl.mono ?_
        rintro e w1 ⟨rfl, hb1⟩
        go_wp2_with fail
        go_ret2
        exact ⟨_, rfl, (own_lit w1 3 [] 0 rfl (by unfold maxLen; omega)).mono hb1.size, below_then hb1 _⟩
      · have h16 : (16 : Int) ≤ act := by omega
        clear HA hD hact
        go_enter Try.func5, Try.ntmps5
        go_wp2_with fail
        refine hl.mono ?_
        rintro e w1 ⟨rfl, hb1⟩
        go_wp2_with fail
        go_ret2
        exact ⟨_, rfl, (own_lit w1 3 [] 0 rfl (by unfold maxLen; omega)).mono hb1.size, below_then hb1 _⟩
end Go.Proofs.Ytcifbgoonaolbab
