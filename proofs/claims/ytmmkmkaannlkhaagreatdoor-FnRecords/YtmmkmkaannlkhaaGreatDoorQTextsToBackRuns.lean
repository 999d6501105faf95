/- What sharedStart, l01Alike, textsSize, szStringS, toStringS and eqStringS do. What the code's PutTexts does. Texts read from bytes: plain facts. Runs and texts that stand at any place of some bytes. Numbers and texts come back from their bytes, with a byte less or more texts do not: plain facts. What l01PutTexts and the specification's PutTexts do. Runs come back from their bytes, with a byte more they do not: plain facts. -/
import Derived.Test.YtmmkmkaannlkhaaGreatDoorQInfoToLawAt
import Derived.Test.YtmmkmkaannlkhaaGreatDoorQTextsBase
import Derived.Test.YtmmkmkaannlkhaaGreatDoorQBaseToOwnType
namespace Go.Proofs.YtmmkmkaannlkhaaGreatDoor
open Go.RowKit Go.Lib
set_option linter.unusedVariables false

theorem info9 : (Tryz.prog.info? 9).map (fun i => (i.zero, i.size, i.bytes)) = some (some (.string ByteArray.empty), 1, 16) := by kernel_rfl

set_option maxHeartbeats 1000000 in
theorem l01Alike_any (a b : ByteArray) (w : World) (ha : a.size ≤ 140737488355328) (hb : b.size ≤ 140737488355328) :
    Calls Tryz.prog 96 #[.string a, .string b] w fun e w' => e = .returned (.int .i64 ((alike a b : Nat) : Int)) ∧ ∃ n, w' = w.drewN n := by
  go_enter Tryz.func96, Tryz.ntmps96
  go_wp2
  go_loopw [5] (fun i wr => ∃ k : Nat, k ≤ a.size ∧ k ≤ b.size ∧ i = .int .i64 k ∧ (∃ n, wr = w.drewN n) ∧ Hid (alike a b = k + alikeL (a.data.toList.drop k) (b.data.toList.drop k))) (fun i _ => a.size - (intOf i).toNat)
  case atStart => exact ⟨0, Nat.zero_le _, Nat.zero_le _, rfl, ⟨0, rfl⟩, by simp [Hid, alike]⟩
  case round =>
    obtain ⟨k, hka, hkb, rfl, ⟨n, rfl⟩, H⟩ := hrel
    by_cases h1 : k < a.size
    · have hi1 : (k : Int) < (a.size : Int) := by omega
      by_cases h2 : k < b.size
      · have hi2 : (k : Int) < (b.size : Int) := by omega
        by_cases he : a[k] = b[k]
        · have HS : Hid _ := alike_step h1 h2 he H.out
          clear H
          go_wp2
          go_quiet (fail)
          go_wp2
          go_roundw
          case rel => exact ⟨k + 1, by omega, by omega, by go_num, ⟨_, rfl⟩, HS⟩
          case measure => simp [intOf]; omega
        · have HS : Hid _ := alike_stop (fun _ _ => he) H.out
          have hne : ((a[k].toNat : Int) == (b[k].toNat : Int)) = false := by
            rw [beq_eq_false_iff_ne]
            intro h
            exact he (UInt8.toNat_inj.1 (by omega))
          clear H
          go_wp2
          go_quiet (fail)
          go_wp2
          go_ret
          exact ⟨by rw [HS.out]; rfl, n + nq, by simp⟩
      · have HS : Hid _ := alike_stop (fun _ h => absurd h h2) H.out
        have hi2 : decide ((k : Int) < (b.size : Int)) = false := by simp; omega
        clear H
        go_wp2
        go_quiet (fail)
        go_wp2
        go_ret
        exact ⟨by rw [HS.out]; rfl, n + nq, by simp⟩
    · have HS : Hid _ := alike_stop (fun h _ => absurd h h1) H.out
      have hi1 : decide ((k : Int) < (a.size : Int)) = false := by simp; omega
      clear H
      go_wp2
      go_quiet (fail)
      go_wp2
      go_ret
      exact ⟨by rw [HS.out]; rfl, n + nq, by simp⟩

set_option maxHeartbeats 1000000 in
theorem sharedStart_any (a b : ByteArray) (w : World) (ha : a.size ≤ 140737488355328) (hb : b.size ≤ 140737488355328) :
    Calls Tryz.prog 94 #[.string a, .string b] w fun e w' => e = .returned (.int .i64 ((alike a b : Nat) : Int)) ∧ ∃ n, w' = w.drewN n := by
  go_enter Tryz.func94, Tryz.ntmps94
  go_wp2
  go_loopw [5] (fun i wr => ∃ k : Nat, k ≤ a.size ∧ k ≤ b.size ∧ i = .int .i64 k ∧ (∃ n, wr = w.drewN n) ∧ Hid (alike a b = k + alikeL (a.data.toList.drop k) (b.data.toList.drop k))) (fun i _ => a.size - (intOf i).toNat)
  case atStart => exact ⟨0, Nat.zero_le _, Nat.zero_le _, rfl, ⟨0, rfl⟩, by simp [Hid, alike]⟩
  case round =>
    obtain ⟨k, hka, hkb, rfl, ⟨n, rfl⟩, H⟩ := hrel
    by_cases h1 : k < a.size
    · have hi1 : (k : Int) < (a.size : Int) := by omega
      by_cases h2 : k < b.size
      · have hi2 : (k : Int) < (b.size : Int) := by omega
        by_cases he : a[k] = b[k]
        · have HS : Hid _ := alike_step h1 h2 he H.out
          clear H
          go_wp2
          go_quiet (fail)
          go_wp2
          go_roundw
          case rel => exact ⟨k + 1, by omega, by omega, by go_num, ⟨_, rfl⟩, HS⟩
          case measure => simp [intOf]; omega
        · have HS : Hid _ := alike_stop (fun _ _ => he) H.out
          have hne : ((a[k].toNat : Int) == (b[k].toNat : Int)) = false := by
            rw [beq_eq_false_iff_ne]
            intro h
            exact he (UInt8.toNat_inj.1 (by omega))
          clear H
          go_wp2
          go_quiet (fail)
          go_wp2
          go_ret
          exact ⟨by rw [HS.out]; rfl, n + nq, by simp⟩
      · have HS : Hid _ := alike_stop (fun _ h => absurd h h2) H.out
        have hi2 : decide ((k : Int) < (b.size : Int)) = false := by simp; omega
        clear H
        go_wp2
        go_quiet (fail)
        go_wp2
        go_ret
        exact ⟨by rw [HS.out]; rfl, n + nq, by simp⟩
    · have HS : Hid _ := alike_stop (fun h _ => absurd h h1) H.out
      have hi1 : decide ((k : Int) < (a.size : Int)) = false := by simp; omega
      clear H
      go_wp2
      go_quiet (fail)
      go_wp2
      go_ret
      exact ⟨by rw [HS.out]; rfl, n + nq, by simp⟩

set_option maxHeartbeats 400000 in
theorem textsSize_any (C : Nat) (w : World) (v : Value) (ss : List ByteArray) (hl : ss.length ≤ 1048576) (ht : tot ss ss.length ≤ 1048576) (hr : Rd C w v (ss.map Value.string)) :
    Calls Tryz.prog 93 #[v] w fun e w' => e = .returned (.int .i64 ((tot ss ss.length : Nat) : Int)) ∧ w' = w := by
  obtain ⟨ao, cap, rfl, _, _, _, hr⟩ := hr
  rw [List.length_map] at hr ⊢
  go_enter Tryz.func93, Tryz.ntmps93
  go_wp2
  go_loop [3, 8] (fun t i => ∃ k : Nat, k ≤ ss.length ∧ i = .int .i64 k ∧ t = .int .i64 ((tot ss k : Nat) : Int)) (fun _ i => ss.length - (intOf i).toNat)
  case atStart => exact ⟨0, Nat.zero_le _, rfl, rfl⟩
  case round =>
    obtain ⟨k, hk, rfl, rfl⟩ := hrel
    have hm := tot_mono ss hk
    by_cases hlt : k < ss.length
    · obtain ⟨g, off, rfl, _, hc⟩ := hr (by omega)
      have c1 := hc k (.string (txt ss k)) (by simp [txt, hlt])
      have hm1 := tot_mono ss (show k + 1 ≤ ss.length from hlt)
      simp only [tot] at hm1
      clear hc hr
      go_wp2
      go_round
      case rel => exact ⟨k + 1, by omega, by go_num, by simp [tot]⟩
      case measure => simp [intOf]; omega
    · go_wp2
      go_ret
      exact ⟨by rw [show k = ss.length by omega]; rfl, rfl⟩

end Go.Proofs.YtmmkmkaannlkhaaGreatDoor

namespace Go.Proofs.YtmmkmkaannlkhaaGreatDoor
open Go.RowKit Go.Lib
set_option linter.unusedVariables false

set_option maxHeartbeats 2000000 in
set_option maxRecDepth 100000 in
theorem implPutTexts_any (C : Nat) (w : World) (v : Value) (ss : List ByteArray) (hl : ss.length ≤ 1048576) (ht : tot ss ss.length ≤ 1048576) (hC : C ≤ w.heap.size) (hr : Rd C w v (ss.map Value.string)) :
    Calls Tryz.prog 57 #[v] w fun e w' => ∃ r, e = .returned (.tuple #[r, .int .i64 (putTextsC ss)]) ∧ Own 5 w' w.heap.size r ((putTextsB ss).map (Value.int .u8)) ∧ Below w.heap.size w w' := by
  obtain ⟨i0, hi, hz0, hz1, hz2⟩ := info_parts info5
  have hlen := putN_len ss (by omega) ss.length ht
  have hr0 := hr
  obtain ⟨ao, cap, rfl, _, _, _, hr⟩ := hr
  rw [List.length_map] at hr hr0 ⊢
  by_cases h4 : 4096 < ss.length
  · obtain ⟨e1, e2⟩ := putTexts_no (ss := ss) (by omega)
    rw [e1, e2]
    clear e1 e2
    go_enter Tryz.func57, Tryz.ntmps57
    go_wp2_with fail
    go_ret2
    exact ⟨_, rfl, World.ownsRow_nil _ _ _ _, Below.refl _ _⟩
  · go_enter Tryz.func57, Tryz.ntmps57
    go_wp2_with fail
    refine (textsSize_any C w _ ss hl ht hr0).mono ?_
    rintro e w' ⟨rfl, rfl⟩
    go_wp2_with fail
    refine (appendInt_any w'.heap.size w' _ [] ss.length (by omega) (by simp) (Nat.le_refl _) (World.ownsRow_nil _ _ _ _)).mono ?_
    rintro e w0 ⟨r0, rfl, ho0, hb0⟩
    rw [List.nil_append] at ho0
    go_wp2_with fail
    go_loopw [4, 5, 22] (fun to tl ti wr => ∃ k : Nat, k ≤ ss.length ∧ ti = .int .i64 k ∧ tl = .string (ahead ss k) ∧ Own 5 wr w'.heap.size to ((putN ss k).map (Value.int .u8)) ∧ Below w'.heap.size w' wr) (fun _ _ ti _ => ss.length - (intOf ti).toNat)
    case atStart => exact ⟨0, Nat.zero_le _, rfl, rfl, ho0, hb0⟩
    case round =>
      clear ho0 hb0
      obtain ⟨k, hk, rfl, rfl, how, hbel⟩ := hrel
      have hln := hlen k hk
      have htk := tot_mono ss hk
      by_cases hlt : k < ss.length
      · obtain ⟨g, off, rfl, hg, hc⟩ := hr (by omega)
        have c1 : wr.cell? ⟨g, off + k, none⟩ = some (.string (txt ss k)) := (hbel.cell (p := ⟨g, off + k, none⟩) (by show g < _; omega)).trans (hc k _ (by simp [txt, hlt]))
        clear hc hr hr0
        have hts := tot_size ss hlt
        have hta : (ahead ss k).size ≤ 1048576 := by
          cases k with
          | zero => simp [ahead]
          | succ k => have := tot_size ss (show k < ss.length by omega); simp only [ahead]; omega
        have hal := alike_le (ahead ss k) (txt ss k)
        have HP : Hid (piece ss k = enc (alike (ahead ss k) (txt ss k)) ++ enc ((txt ss k).size - alike (ahead ss k) (txt ss k)) ++ (strInts (txt ss k)).drop (alike (ahead ss k) (txt ss k))) := rfl
        have hsz := hbel.size
        clear hlen
        go_wp2_with fail
        refine (sharedStart_any _ _ _ (by omega) (by omega)).mono ?_
        rintro e w1 ⟨rfl, n1, rfl⟩
        generalize alike (ahead ss k) (txt ss k) = al at hal HP ⊢
        have hel := enc_len (n := al) (by omega)
        have hel2 := enc_len (n := (txt ss k).size - al) (by omega)
        go_wp2_with fail
        refine (appendInt_any w'.heap.size (wr.drewN n1) _ (putN ss k) al (by omega) (by omega) (by exact hsz) how).mono ?_
        rintro e w2 ⟨r2, rfl, ho2, hb2⟩
        have hbel2 : Below w'.heap.size w' w2 := (below_drewN hbel n1).trans hb2
        have hsz2 := hbel2.size
        clear how c1
        go_wp2_with fail
        rw [show (((txt ss k).size : Int) - (al : Int)) = (((txt ss k).size - al : Nat) : Int) by omega]
        refine (appendInt_any w'.heap.size w2 _ (putN ss k ++ enc al) ((txt ss k).size - al) (by omega) (by simp; omega) hsz2 ho2).mono ?_
        rintro e w3 ⟨r3, rfl, ho3, hb3⟩
        have hbel3 : Below w'.heap.size w' w3 := hbel2.trans hb3
        have hsz3 := hbel3.size
        have hxs : ((txt ss k).extract al (txt ss k).size).size = (txt ss k).size - al := by simp
        clear ho2
        go_wp2_with (at_builtin; refine wpList_append_own_string _ rfl _ _ 22 9 rfl w'.heap.size 5 i0 Tryz.underlying22 Tryz.underlying9 hi hz0 hz1 hz2 _ _ _ rfl ho3 ((txt ss k).extract al (txt ss k).size) rfl (by simp [maxLen]; omega) (by simp; omega) (by omega) ?_)
        intro v6 w6 ho6 hg6 _
        have hout6 := own_of ho6
        have hbel6 : Below w'.heap.size w' w6 := hbel3.grown hg6 hsz3 ho3.lt
        rw [strCells_from _ _ hal.2] at hout6
        have hfin : Own 5 w6 w'.heap.size v6 ((putN ss (k + 1)).map (Value.int .u8)) := by
          have e : (putN ss (k + 1)).map (Value.int .u8) = (putN ss k).map (Value.int .u8) ++ (enc al).map (Value.int .u8) ++ (enc ((txt ss k).size - al)).map (Value.int .u8) ++ ((strInts (txt ss k)).drop al).map (Value.int .u8) := by
            simp only [putN]
            rw [HP.out]
            simp
          rw [e]
          simpa using hout6
        clear ho6 hg6 ho3 hout6
        go_wp2_with fail
        go_roundw
        case rel => exact ⟨k + 1, hlt, by go_num, rfl, hfin, hbel6⟩
        case measure => simp [intOf]; omega
      · have hke : k = ss.length := by omega
        subst hke
        obtain ⟨ao1, cap1, rfl, hsh1⟩ := how.slice
        rw [List.length_map] at how hsh1
        clear hsh1 hr hr0
        by_cases hbig : 1048576 < (putN ss ss.length).length
        · obtain ⟨e1, e2⟩ := putTexts_no (ss := ss) (by omega)
          have E1 : Hid _ := e1
          have E2 : Hid _ := e2
          clear e1 e2
          rw [List.length_map]
          go_wp2_with fail
          go_ret2
          exact ⟨_, by rw [E2.out]; rfl, by rw [E1.out]; exact World.ownsRow_nil _ _ _ _, hbel⟩
        · obtain ⟨e1, e2⟩ := putTexts_yes (ss := ss) ⟨by omega, ht, by omega⟩
          have E1 : Hid _ := e1
          have E2 : Hid _ := e2
          clear e1 e2
          rw [List.length_map]
          go_wp2_with fail
          go_ret2
          exact ⟨_, by rw [E2.out]; rfl, by rw [E1.out]; exact how, hbel⟩
end Go.Proofs.YtmmkmkaannlkhaaGreatDoor

namespace Go.Proofs.YtmmkmkaannlkhaaGreatDoor
open Go.RowKit Go.Lib
set_option linter.unusedVariables false

theorem grownBy_own {w w1 w2 : World} {b : Nat} {row : Option Nat} (h : w.grownBy w1 (some b)) (k : w1.grownBy w2 row) (hr : ∀ g, row = some g → w.heap.size ≤ g) : w.grownBy w2 (some b) :=
  ⟨k.os.trans h.os, k.tape.trans h.tape, k.output.trans h.output, Nat.le_trans h.size k.size, fun i hi hb => (k.block i (Nat.lt_of_lt_of_le hi h.size) (fun e => by have := hr i e.symm; omega)).trans (h.block i hi hb)⟩

/-- The m bytes from p on, as a text. -/
def bytesAt (bs : List Int) (p m : Nat) : ByteArray := ofInts ((bs.drop p).take m)
theorem bytesAt_size {bs : List Int} {p m : Nat} (h : m ≤ bs.length - p) : (bytesAt bs p m).size = m := by
  show ((((bs.drop p).take m).map fun n => UInt8.ofNat n.toNat).toArray).size = m
  simp
  omega
/-- The text of k bytes of the one ahead and m bytes of its own. -/
def mkText (bs : List Int) (last : ByteArray) (k p m : Nat) : ByteArray := last.extract 0 k ++ bytesAt bs p m
theorem mkText_size {bs : List Int} {last : ByteArray} {k p m : Nat} (hk : k ≤ last.size) (h : m ≤ bs.length - p) : (mkText bs last k p m).size = k + m := by
  unfold mkText
  rw [ByteArray.size_append, bytesAt_size h, ByteArray.size_extract]
  omega
/-- One text more: it, and the place behind it. -/
def oneText (bs : List Int) (p : Nat) (last : ByteArray) (all : Nat) : Option (ByteArray × Nat) := match getL bs p with
  | none => none
  | some (k, p1) => if last.size < k.toNat then none else match getL bs p1 with
    | none => none
    | some (m, p2) => if bs.length - p2 < m.toNat then none else
      if k.toNat ≠ alike last (mkText bs last k.toNat p2 m.toNat) ∨ 1048576 < all + (k.toNat + m.toNat) then none else some (mkText bs last k.toNat p2 m.toNat, p2 + m.toNat)
def textsF (bs : List Int) : Nat → Nat → ByteArray → Nat → List ByteArray → Option (List ByteArray × Nat)
  | 0, p, _, _, out => some (out, p)
  | n + 1, p, last, all, out => match oneText bs p last all with
    | none => none
    | some (t, q) => textsF bs n q t (all + t.size) (out ++ [t])
/-- The texts, and the place behind them. -/
def textsL (bs : List Int) : Option (List ByteArray × Nat) := match getL bs 0 with
  | none => none
  | some (n, p) => if 4096 < n then none else textsF bs n.toNat p ByteArray.empty 0 []
/-- What GetTexts answers. -/
def getTexts (bs : List Int) : Option (List ByteArray) := match textsL bs with
  | none => none
  | some (out, q) => if q = bs.length then some out else none

theorem one_none1 {bs : List Int} {p : Nat} {last : ByteArray} {all : Nat} (h : getL bs p = none) : oneText bs p last all = none := by simp [oneText, h]
theorem one_none2 {bs : List Int} {p p1 : Nat} {last : ByteArray} {all : Nat} {k : Int} (h : getL bs p = some (k, p1)) (hk : last.size < k.toNat) : oneText bs p last all = none := by simp [oneText, h, hk]
theorem one_none3 {bs : List Int} {p p1 : Nat} {last : ByteArray} {all : Nat} {k : Int} (h : getL bs p = some (k, p1)) (h2 : getL bs p1 = none) : oneText bs p last all = none := by simp [oneText, h, h2]
theorem one_none4 {bs : List Int} {p p1 p2 : Nat} {last : ByteArray} {all : Nat} {k m : Int} (h : getL bs p = some (k, p1)) (h2 : getL bs p1 = some (m, p2)) (hm : bs.length - p2 < m.toNat) : oneText bs p last all = none := by simp [oneText, h, h2, hm]
theorem one_none5 {bs : List Int} {p p1 p2 : Nat} {last : ByteArray} {all : Nat} {k m : Int} (h : getL bs p = some (k, p1)) (h2 : getL bs p1 = some (m, p2)) (hb : k.toNat ≠ alike last (mkText bs last k.toNat p2 m.toNat) ∨ 1048576 < all + (k.toNat + m.toNat)) : oneText bs p last all = none := by
  unfold oneText
  rw [h]
  simp only
  split
  · rfl
  · rw [h2]
    simp only
    split
    · rfl
    · first | rfl | rw [if_pos hb]
theorem one_some {bs : List Int} {p p1 p2 : Nat} {last : ByteArray} {all : Nat} {k m : Int} (h : getL bs p = some (k, p1)) (hk : ¬ last.size < k.toNat) (h2 : getL bs p1 = some (m, p2)) (hm : ¬ bs.length - p2 < m.toNat) (hb : ¬ (k.toNat ≠ alike last (mkText bs last k.toNat p2 m.toNat) ∨ 1048576 < all + (k.toNat + m.toNat))) :
    oneText bs p last all = some (mkText bs last k.toNat p2 m.toNat, p2 + m.toNat) := by
  unfold oneText
  rw [h]
  simp only
  rw [if_neg hk, h2]
  simp only
  rw [if_neg hm, if_neg hb]
theorem textsF_none {bs : List Int} {n p : Nat} {last : ByteArray} {all : Nat} {out : List ByteArray} (h : oneText bs p last all = none) : textsF bs (n + 1) p last all out = none := by simp [textsF, h]
theorem textsF_some {bs : List Int} {n p q : Nat} {last t : ByteArray} {all : Nat} {out : List ByteArray} (h : oneText bs p last all = some (t, q)) : textsF bs (n + 1) p last all out = textsF bs n q t (all + t.size) (out ++ [t]) := by simp [textsF, h]

theorem take_extract (a : ByteArray) (k : Nat) : (a.extract 0 k).data.toList = a.data.toList.take k := by
  rw [ByteArray.data_extract, Array.toList_extract, List.extract_eq_take_drop]
  simp
theorem mkText_list (bs : List Int) (last : ByteArray) (k p m : Nat) : (mkText bs last k p m).data.toList = last.data.toList.take k ++ ((bs.drop p).take m).map fun n => UInt8.ofNat n.toNat := by
  unfold mkText
  rw [ByteArray.data_append, Array.toList_append, take_extract]
  simp [bytesAt, ofInts]
theorem alikeL_take (a b : List UInt8) : alikeL a (a ++ b) = a.length := by
  induction a with
  | nil => cases b <;> simp [alikeL]
  | cons x a ih => simp [alikeL, ih]
theorem alikeL_pre (x a b : List UInt8) : alikeL (x ++ a) (x ++ b) = x.length + alikeL a b := by
  induction x with
  | nil => simp
  | cons c x ih => simp [alikeL, ih]; omega
/-- When the shared beginning is as long as can be. -/
theorem alike_mk {bs : List Int} {last : ByteArray} {k p m : Nat} (hk : k ≤ last.size) : alike last (mkText bs last k p m) = k + alikeL (last.data.toList.drop k) (((bs.drop p).take m).map fun n => UInt8.ofNat n.toNat) := by
  unfold alike
  rw [mkText_list]
  conv => lhs; arg 1; rw [← List.take_append_drop k last.data.toList]
  rw [alikeL_pre, List.length_take, Array.length_toList, show min k last.data.size = k from Nat.min_eq_left hk]
theorem alike_mk_zero {bs : List Int} {last : ByteArray} {k p : Nat} (hk : k ≤ last.size) : alike last (mkText bs last k p 0) = k := by
  rw [alike_mk hk]
  simp only [List.take_zero, List.map_nil]
  cases last.data.toList.drop k <;> simp [alikeL]
theorem alike_mk_end {bs : List Int} {last : ByteArray} {k p m : Nat} (hk : k = last.size) : alike last (mkText bs last k p m) = k := by
  rw [alike_mk (by omega), List.drop_of_length_le (by rw [Array.length_toList]; exact Nat.le_of_eq hk.symm)]
  simp [alikeL]
theorem alike_mk_in {bs : List Int} {last : ByteArray} {k p m : Nat} (hk : k < last.size) (hm : 0 < m) (hp : p < bs.length) : alike last (mkText bs last k p m) = k ↔ last[k] ≠ UInt8.ofNat (bs[p]).toNat := by
  rw [alike_mk (by omega), drop_cons last k hk]
  obtain ⟨m, rfl⟩ : ∃ m', m = m' + 1 := ⟨m - 1, by omega⟩
  rw [List.drop_eq_getElem_cons hp, List.take_succ_cons, List.map_cons]
  simp only [alikeL]
  split
  · rename_i h; simp [h]
  · rename_i h; simp [h]
end Go.Proofs.YtmmkmkaannlkhaaGreatDoor

namespace Go.Proofs.YtmmkmkaannlkhaaGreatDoor
open Go.RowKit Go.Lib
set_option linter.unusedVariables false

/-- The texts from a place on, and the place behind them. -/
def textsLP (bs : List Int) (p0 : Nat) : Option (List ByteArray × Nat) := match getL bs p0 with
  | none => none
  | some (n, p) => if 4096 < n then none else textsF bs n.toNat p ByteArray.empty 0 []
/-- The numbers from a place on, with the specification's own tests; and the place behind them. -/
def runsLP (xs : List Int) (p0 : Nat) : Option (List Int × Nat) := match getL xs p0 with
  | none => none
  | some (n, p) => if 4096 < n then none else parseS xs n.toNat n.toNat p
end Go.Proofs.YtmmkmkaannlkhaaGreatDoor

namespace Go.Proofs.YtmmkmkaannlkhaaGreatDoor
open Go.RowKit Go.Lib
set_option linter.unusedVariables false

theorem drop_first {xs r : List Int} {p : Nat} {c : Int} (h : xs.drop p = c :: r) : ∃ hp : p < xs.length, xs[p] = c ∧ xs.drop (p + 1) = r := by
  have hp : p < xs.length := by
    rcases Nat.lt_or_ge p xs.length with h1 | h1
    · exact h1
    · rw [List.drop_of_length_le h1] at h; simp at h
  rw [List.drop_eq_getElem_cons hp] at h
  simp only [List.cons.injEq] at h
  exact ⟨hp, h.1, h.2⟩
theorem drop_more {xs a r : List Int} {p : Nat} (h : xs.drop p = a ++ r) : xs.drop (p + a.length) = r := by
  rw [← List.drop_drop, h, List.drop_left]
theorem drop_room {xs a r : List Int} {p : Nat} (hp : p ≤ xs.length) (h : xs.drop p = a ++ r) : p + a.length ≤ xs.length := by
  have := congrArg List.length h
  simp only [List.length_drop, List.length_append] at this
  omega

theorem getF_back (k : Nat) : ∀ n, n ≤ k → ∀ (xs : List Int) f i p (v : Int) r, f + i = 9 → (n : Int) * 128 ^ i ≤ 4611686018427387903 → (0 < i → 0 < n) → xs.drop p = enc n ++ r → getF xs f i p v = some (v + (n : Int) * 128 ^ i, p + (enc n).length) := by
  induction k with
  | zero =>
    intro n hn xs f i p v r hf hb hi hd
    obtain rfl : n = 0 := by omega
    obtain rfl : i = 0 := by omega
    obtain rfl : f = 8 + 1 := by omega
    rw [enc_small (by omega)] at hd ⊢
    obtain ⟨hp, h1, _⟩ := drop_first hd
    rw [getF_last hp (by rw [h1]; decide), if_neg (by omega), h1]
    simp
  | succ k ih =>
    intro n hn xs f i p v r hf hb hi hd
    have hpw := pow_pos i
    have hi8 : i ≤ 8 := by
      rcases Nat.lt_or_ge 8 i with h | h
      · have h9 := pow_le (i := 9) (j := i) (by omega)
        have e9 : (128 : Int) ^ 9 = 9223372036854775808 := by decide
        have h1 : (1 : Int) ≤ (n : Int) := by have := hi (by omega); omega
        have := Int.mul_le_mul_of_nonneg_right h1 (Int.le_of_lt hpw)
        omega
      · exact h
    obtain ⟨g, rfl⟩ : ∃ g, f = g + 1 := ⟨f - 1, by omega⟩
    by_cases hs : n < 128
    · rw [enc_small hs] at hd ⊢
      obtain ⟨hp, h1, _⟩ := drop_first hd
      rw [getF_last hp (by rw [h1]; omega), if_neg, h1]
      · simp
      · rw [h1]
        rintro (⟨rfl, h⟩ | ⟨h2, h3⟩)
        · have e8 : (128 : Int) ^ 8 = 72057594037927936 := by decide
          rw [e8] at hb
          omega
        · have := hi (by omega); omega
    · rw [enc_big (by omega)] at hd ⊢
      obtain ⟨hp, h1, h2⟩ := drop_first hd
      have h4 : ((n / 128 : Nat) : Int) * 128 ^ (i + 1) ≤ (n : Int) * 128 ^ i := by
        rw [pow_step, ← Int.mul_assoc, Int.mul_assoc _ _ 128, Int.mul_comm _ 128, ← Int.mul_assoc]
        exact Int.mul_le_mul_of_nonneg_right (by omega) (Int.le_of_lt hpw)
      rw [getF_more hp (by rw [h1]; omega), ih (n / 128) (by omega) xs g (i + 1) (p + 1) _ r (by omega) (by omega) (fun _ => by omega) h2, h1]
      simp only [Option.some.injEq, Prod.mk.injEq, List.length_cons]
      refine ⟨?_, by omega⟩
      have e1 : (((n % 128 + 128 : Nat) : Int)) % 128 = ((n % 128 : Nat) : Int) := by omega
      rw [e1, pow_step, Int.add_assoc]
      congr 1
      have e2 : (n : Int) = ((n % 128 : Nat) : Int) + ((n / 128 : Nat) : Int) * 128 := by omega
      conv => rhs; rw [e2, Int.add_mul]
      congr 1
      rw [Int.mul_assoc, Int.mul_comm (128 ^ i) 128]
theorem getL_back {xs r : List Int} {p n : Nat} (hn : n ≤ 4611686018427387903) (h : xs.drop p = enc n ++ r) : getL xs p = some ((n : Int), p + (enc n).length) := by
  unfold getL
  rw [getF_back n n (Nat.le_refl _) xs 9 0 p 0 r (by omega) (by simp; omega) (by omega) h]
  simp

theorem getF_mono {xs t : List Int} : ∀ f i p v a, getF xs f i p v = some a → getF (xs ++ t) f i p v = some a := by
  intro f
  induction f with
  | zero => intro i p v a h; simp [getF] at h
  | succ f ih =>
    intro i p v a h
    by_cases hp : p < xs.length
    · have hp' : p < (xs ++ t).length := by simp; omega
      have e : (xs ++ t)[p] = xs[p] := List.getElem_append_left hp
      by_cases hc : xs[p] < 128
      · rw [getF_last hp hc] at h
        rw [getF_last hp' (by rw [e]; exact hc), e]
        exact h
      · rw [getF_more hp hc] at h
        rw [getF_more hp' (by rw [e]; exact hc), e]
        exact ih _ _ _ _ h
    · rw [getF_end (by omega)] at h; simp at h
theorem getL_mono {xs t : List Int} {p : Nat} {a : Int × Nat} (h : getL xs p = some a) : getL (xs ++ t) p = some a := getF_mono _ _ _ _ _ h

theorem alikeL_same (a b : List UInt8) : a.take (alikeL a b) = b.take (alikeL a b) := by
  induction a generalizing b with
  | nil => simp [alikeL]
  | cons x a ih =>
    cases b with
    | nil => simp [alikeL]
    | cons y b =>
      simp only [alikeL]
      split
      · rename_i h
        subst h
        rw [List.take_succ_cons, List.take_succ_cons, ih b]
      · simp
theorem ba_ext {a b : ByteArray} (h : a.data.toList = b.data.toList) : a = b := by
  cases a; cases b
  simp at h
  subst h
  rfl
/-- A text is made again of what it shares with the one ahead and of its own bytes. -/
theorem mkText_back {bs r : List Int} {last t : ByteArray} {p : Nat} (h : bs.drop p = (strInts t).drop (alike last t) ++ r) : mkText bs last (alike last t) p (t.size - alike last t) = t := by
  apply ba_ext
  rw [mkText_list, h]
  have hl : ((strInts t).drop (alike last t)).length = t.size - alike last t := by rw [List.length_drop, strInts_len]
  rw [List.take_append_of_le_length (by omega), List.take_of_length_le (l := (strInts t).drop (alike last t)) (by omega)]
  unfold alike
  rw [alikeL_same]
  conv => rhs; rw [← List.take_append_drop (alikeL last.data.toList t.data.toList) t.data.toList]
  congr 1
  unfold strInts
  rw [List.map_drop, List.map_map]
  have e : ((fun n : Int => UInt8.ofNat n.toNat) ∘ fun b : UInt8 => (b.toNat : Int)) = id := by
    funext b
    simp
  rw [e, List.map_id]
/-- What is written from the k-th text on. -/
def fromN (ss : List ByteArray) : Nat → Nat → List Int
  | _, 0 => []
  | k, m + 1 => piece ss k ++ fromN ss (k + 1) m
theorem putN_from (ss : List ByteArray) : ∀ m k, putN ss (k + m) = putN ss k ++ fromN ss k m := by
  intro m
  induction m with
  | zero => intro k; simp [fromN]
  | succ m ih =>
    intro k
    rw [show k + (m + 1) = (k + 1) + m by omega, ih (k + 1), putN, fromN, List.append_assoc]
theorem oneText_back {ss : List ByteArray} {bs r : List Int} {k p : Nat} (hk : k < ss.length) (ht : tot ss ss.length ≤ 1048576) (hp : p ≤ bs.length) (h : bs.drop p = piece ss k ++ r) :
    oneText bs p (ahead ss k) (tot ss k) = some (txt ss k, p + (piece ss k).length) := by
  have hs := tot_size ss hk
  have hm1 := tot_mono ss (show k + 1 ≤ ss.length from hk)
  simp only [tot] at hm1
  have ha := alike_le (ahead ss k) (txt ss k)
  have h0 := h
  unfold piece at h
  rw [List.append_assoc, List.append_assoc] at h
  have g1 := getL_back (by omega) h
  have h1 := drop_more h
  have r1 := drop_room hp h
  have g2 := getL_back (by omega) h1
  have h2 := drop_more h1
  have r2 := drop_room r1 h1
  have e := mkText_back h2
  have r3 := drop_room r2 h2
  rw [List.length_drop, strInts_len] at r3
  rw [one_some g1 (by rw [Int.toNat_natCast]; omega) g2 (by rw [Int.toNat_natCast]; omega) (by rw [Int.toNat_natCast, Int.toNat_natCast, e]; omega), Int.toNat_natCast, Int.toNat_natCast, e]
  simp only [Option.some.injEq, Prod.mk.injEq, true_and]
  unfold piece
  simp only [List.length_append, List.length_drop, strInts_len]
  omega
theorem textsF_back {ss : List ByteArray} {bs r : List Int} (ht : tot ss ss.length ≤ 1048576) : ∀ m k p, k + m = ss.length → p ≤ bs.length → bs.drop p = fromN ss k m ++ r → textsF bs m p (ahead ss k) (tot ss k) (ss.take k) = some (ss, p + (fromN ss k m).length) := by
  intro m
  induction m with
  | zero =>
    intro k p hk hp h
    simp only [textsF, fromN, List.length_nil, Nat.add_zero]
    rw [List.take_of_length_le (by omega)]
  | succ m ih =>
    intro k p hk hp h
    rw [fromN, List.append_assoc] at h
    have hlt : k < ss.length := by omega
    rw [textsF_some (oneText_back hlt ht hp h)]
    have h1 := ih (k + 1) (p + (piece ss k).length) (by omega) (drop_room hp h) (drop_more h)
    rw [show ahead ss (k + 1) = txt ss k from rfl, show tot ss (k + 1) = tot ss k + (txt ss k).size from rfl] at h1
    rw [show ss.take k ++ [txt ss k] = ss.take (k + 1) by rw [txt_get hlt]; simp, h1, fromN, List.length_append, Nat.add_assoc]
theorem textsL_back {ss : List ByteArray} {r : List Int} (h4 : ss.length ≤ 4096) (ht : tot ss ss.length ≤ 1048576) : textsL (putN ss ss.length ++ r) = some (ss, (putN ss ss.length).length) := by
  have e := putN_from ss ss.length 0
  rw [Nat.zero_add] at e
  have h0 : (putN ss ss.length ++ r).drop 0 = enc ss.length ++ (fromN ss 0 ss.length ++ r) := by
    rw [List.drop_zero, e, List.append_assoc]
    rfl
  unfold textsL
  rw [getL_back (by omega) h0]
  simp only
  rw [if_neg (by omega), Int.toNat_natCast]
  have h1 := textsF_back (ss := ss) (r := r) ht ss.length 0 _ (by omega) (drop_room (Nat.zero_le _) h0) (drop_more h0)
  rw [show ahead ss 0 = ByteArray.empty from rfl, show tot ss 0 = 0 from rfl, List.take_zero] at h1
  rw [h1, e]
  simp [putN]
theorem getTexts_back {ss : List ByteArray} (h4 : ss.length ≤ 4096) (ht : tot ss ss.length ≤ 1048576) : getTexts (putN ss ss.length) = some ss := by
  have h := textsL_back (r := []) h4 ht
  rw [List.append_nil] at h
  unfold getTexts
  rw [h]
  simp
theorem getTexts_much {ss : List ByteArray} (h4 : ss.length ≤ 4096) (ht : tot ss ss.length ≤ 1048576) (c : Int) : getTexts (putN ss ss.length ++ [c]) = none := by
  unfold getTexts
  rw [textsL_back h4 ht]
  simp
theorem oneText_mono {bs t : List Int} {p all : Nat} {last : ByteArray} {a : ByteArray × Nat} (h : oneText bs p last all = some a) : oneText (bs ++ t) p last all = some a := by
  unfold oneText at h
  cases h1 : getL bs p with
  | none => rw [h1] at h; simp at h
  | some z =>
    obtain ⟨k, p1⟩ := z
    rw [h1] at h
    simp only at h
    split at h
    · simp at h
    · rename_i hk
      cases h2 : getL bs p1 with
      | none => rw [h2] at h; simp at h
      | some z =>
        obtain ⟨m, p2⟩ := z
        rw [h2] at h
        simp only at h
        split at h
        · simp at h
        · rename_i hm
          split at h
          · simp at h
          · rename_i hb
            have e : mkText (bs ++ t) last k.toNat p2 m.toNat = mkText bs last k.toNat p2 m.toNat := by
              unfold mkText bytesAt
              congr 2
              by_cases hp : p2 ≤ bs.length
              · rw [List.drop_append_of_le_length hp, List.take_append_of_le_length (by rw [List.length_drop]; omega)]
              · rw [show m.toNat = 0 by omega]
                simp
            rw [← e] at h hb
            rw [one_some (getL_mono h1) hk (getL_mono h2) (by simp; omega) hb]
            exact h
theorem textsF_mono {bs t : List Int} : ∀ n p last all out a, textsF bs n p last all out = some a → textsF (bs ++ t) n p last all out = some a := by
  intro n
  induction n with
  | zero => intro p last all out a h; exact h
  | succ n ih =>
    intro p last all out a h
    cases h1 : oneText bs p last all with
    | none => rw [textsF_none h1] at h; simp at h
    | some z =>
      obtain ⟨x, q⟩ := z
      rw [textsF_some h1] at h
      rw [textsF_some (oneText_mono h1)]
      exact ih _ _ _ _ _ h
theorem textsL_mono {bs t : List Int} {a : List ByteArray × Nat} (h : textsL bs = some a) : textsL (bs ++ t) = some a := by
  unfold textsL at h ⊢
  cases h1 : getL bs 0 with
  | none => rw [h1] at h; simp at h
  | some z =>
    obtain ⟨n, p⟩ := z
    rw [h1] at h
    rw [getL_mono h1]
    simp only at h ⊢
    split
    · rename_i h4; rw [if_pos h4] at h; simp at h
    · rename_i h4; rw [if_neg h4] at h; exact textsF_mono _ _ _ _ _ _ h
/-- With the last byte gone nothing comes back. -/
theorem getTexts_less {ss : List ByteArray} (h4 : ss.length ≤ 4096) (ht : tot ss ss.length ≤ 1048576) {xs : List Int} {c : Int} (he : putN ss ss.length = xs ++ [c]) : getTexts xs = none := by
  have hb := textsL_back (r := []) h4 ht
  rw [List.append_nil] at hb
  unfold getTexts
  cases h : textsL xs with
  | none => rfl
  | some z =>
    obtain ⟨out, q⟩ := z
    have h1 := textsL_mono (t := [c]) h
    rw [← he, hb] at h1
    simp only [Option.some.injEq, Prod.mk.injEq] at h1
    have h2 := congrArg List.length he
    simp at h2
    simp only
    rw [if_neg (by omega)]
theorem putN_pos (ss : List ByteArray) : 0 < (putN ss ss.length).length := by
  have := putN_mono ss (Nat.zero_le ss.length)
  have h := enc_pos ss.length
  rw [show putN ss 0 = enc ss.length from rfl] at this
  omega
end Go.Proofs.YtmmkmkaannlkhaaGreatDoor

namespace Go.Proofs.YtmmkmkaannlkhaaGreatDoor
open Go.RowKit Go.Lib
set_option linter.unusedVariables false

set_option maxHeartbeats 2000000 in
set_option maxRecDepth 100000 in
theorem l01PutTexts_any (C : Nat) (w : World) (v : Value) (ss : List ByteArray) (hl : ss.length ≤ 4096) (ht : tot ss ss.length ≤ 1048576) (hC : C ≤ w.heap.size) (hr : Rd C w v (ss.map Value.string)) :
    Calls Tryz.prog 60 #[v] w fun e w' => ∃ r k, e = .returned r ∧ k ≤ ss.length ∧ Own 5 w' w.heap.size r ((putN ss k).map (Value.int .u8)) ∧ (k = ss.length ∨ 1048576 < (putN ss k).length) ∧ Below w.heap.size w w' := by
  obtain ⟨i0, hi, hz0, hz1, hz2⟩ := info_parts info5
  have hlen := putN_len ss (by omega) ss.length ht
  obtain ⟨ao, cap, rfl, _, _, _, hr⟩ := hr
  rw [List.length_map] at hr ⊢
  go_enter Tryz.func60, Tryz.ntmps60
  go_wp2_with fail
  refine (l01Put_any ss.length ss.length w (Nat.le_refl _) (by omega)).mono ?_
  rintro e w0 ⟨r0, rfl, ho0, hb0⟩
  go_wp2_with fail
  go_loopw [3, 4, 5, 6] (fun to tl ti tn wr => ∃ k : Nat, k ≤ ss.length ∧ ti = .int .i64 k ∧ tl = .string (ahead ss k) ∧ Own 5 wr w.heap.size to ((putN ss k).map (Value.int .u8)) ∧ Below w.heap.size w wr) (fun _ _ ti _ _ => ss.length - (intOf ti).toNat)
  case atStart => exact ⟨0, Nat.zero_le _, rfl, rfl, ho0, hb0⟩
  case round =>
    clear ho0 hb0
    obtain ⟨k, hk, rfl, rfl, how, hbel⟩ := hrel
    by_cases hlt : k < ss.length
    · obtain ⟨g, off, rfl, hg, hc⟩ := hr (by omega)
      have hcell : ∀ w' : World, Below w.heap.size w w' → w'.cell? ⟨g, off + k, none⟩ = some (.string (txt ss k)) := fun w' hb => (hb.cell (p := ⟨g, off + k, none⟩) (by show g < _; omega)).trans (hc k _ (by simp [txt, hlt]))
      have HCELL : Hid _ := hcell
      clear hc hr hcell
      have hln := hlen k (by omega)
      have hln1 := hlen (k + 1) (by omega)
      have htk := tot_mono ss hk
      have hts := tot_size ss hlt
      have hta : (ahead ss k).size ≤ 1048576 := by
        cases k with
        | zero => simp [ahead]
        | succ k => have := tot_size ss (show k < ss.length by omega); simp only [ahead]; omega
      have hal := alike_le (ahead ss k) (txt ss k)
      have hpc : (putN ss (k + 1)).length = (putN ss k).length + (piece ss k).length := by simp [putN]
      have htk1 := tot_mono ss (show k + 1 ≤ ss.length from hlt)
      have HP : Hid (piece ss k = enc (alike (ahead ss k) (txt ss k)) ++ enc ((txt ss k).size - alike (ahead ss k) (txt ss k)) ++ (strInts (txt ss k)).drop (alike (ahead ss k) (txt ss k))) := rfl
      have c1 := HCELL.out _ hbel
      have hsz := hbel.size
      clear hlen
      go_wp2_with fail
      refine (l01Alike_any _ _ _ (by omega) (by omega)).mono ?_
      rintro e w1 ⟨rfl, n1, rfl⟩
      generalize alike (ahead ss k) (txt ss k) = al at hal HP ⊢
      have hel := enc_len (n := al) (by omega)
      have hel2 := enc_len (n := (txt ss k).size - al) (by omega)
      go_wp2_with fail
      refine (l01Put_any al al _ (Nat.le_refl _) (by omega)).mono ?_
      rintro e w2 ⟨r2, rfl, ho2, hb2⟩
      have hout2 : Own 5 w2 w.heap.size _ _ := (show Own 5 (wr.drewN n1) w.heap.size _ _ from how).below hb2 (Nat.le_refl _)
      have hbel2 : Below w.heap.size w w2 := (below_drewN hbel n1).trans (hb2.mono hsz)
      have hsz2 := hbel2.size
      obtain ⟨g2, cap2, rfl, hb2', hlt2, hc2⟩ := ho2.some (by simpa using enc_pos _)
      rw [List.length_map] at ho2 ⊢
      clear how c1 ho2
      go_wp2_with (at_builtin; refine wpList_append_own _ rfl _ _ 22 rfl w.heap.size 5 i0 (.int .u8 0) 1 1 Tryz.underlying22 hi hz0 hz1 hz2 rfl (by decide) _ _ _ rfl hout2 ⟨g2, 0, none⟩ (enc al).length cap2 ((enc al).map (Value.int .u8)) rfl (by simp) hc2 (ints_oneCell _ _) (by simp [maxLen]; omega) (by simp; omega) (by omega) ?_)
      intro v3 w3 ho3 hg3 _
      have hout3 := own_of ho3
      have hbel3 : Below w.heap.size w w3 := hbel2.grown hg3 hsz2 hout2.lt
      have hsz3 := hbel3.size
      have c3 := HCELL.out _ hbel3
      clear ho3 hg3 hout2 hc2
      go_wp2_with fail
      rw [show (((txt ss k).size : Int) - (al : Int)) = (((txt ss k).size - al : Nat) : Int) by omega]
      refine (l01Put_any _ ((txt ss k).size - al) w3 (Nat.le_refl _) (by omega)).mono ?_
      rintro e w4 ⟨r4, rfl, ho4, hb4⟩
      have hout4 : Own 5 w4 w.heap.size _ _ := hout3.below hb4 (Nat.le_refl _)
      have hbel4 : Below w.heap.size w w4 := hbel3.trans (hb4.mono hsz3)
      have hsz4 := hbel4.size
      obtain ⟨g4, cap4, rfl, hb4', hlt4, hc4⟩ := ho4.some (by simpa using enc_pos _)
      rw [List.length_map] at ho4 ⊢
      clear hout3 c3 ho4
      go_wp2_with (at_builtin; refine wpList_append_own _ rfl _ _ 22 rfl w.heap.size 5 i0 (.int .u8 0) 1 1 Tryz.underlying22 hi hz0 hz1 hz2 rfl (by decide) _ _ _ rfl hout4 ⟨g4, 0, none⟩ (enc ((txt ss k).size - al)).length cap4 ((enc ((txt ss k).size - al)).map (Value.int .u8)) rfl (by simp) hc4 (ints_oneCell _ _) (by simp [maxLen]; omega) (by simp; omega) (by omega) ?_)
      intro v5 w5 ho5 hg5 _
      have hout5 := own_of ho5
      have hbel5 : Below w.heap.size w w5 := hbel4.grown hg5 hsz4 hout4.lt
      have hsz5 := hbel5.size
      have c5 := HCELL.out _ hbel5
      clear ho5 hg5 hout4 hc4
      have hxs : ((txt ss k).extract al (txt ss k).size).size = (txt ss k).size - al := by simp
      go_wp2_with (at_builtin; refine wpList_append_own_string _ rfl _ _ 22 9 rfl w.heap.size 5 i0 Tryz.underlying22 Tryz.underlying9 hi hz0 hz1 hz2 _ _ _ rfl hout5 ((txt ss k).extract al (txt ss k).size) rfl (by simp [maxLen]; omega) (by simp; omega) (by omega) ?_)
      intro v6 w6 ho6 hg6 _
      have hout6 := own_of ho6
      have hbel6 : Below w.heap.size w w6 := hbel5.grown hg6 hsz5 hout5.lt
      have hsz6 := hbel6.size
      have c6 := HCELL.out _ hbel6
      rw [strCells_from _ _ hal.2] at hout6
      have hfin : Own 5 w6 w.heap.size v6 ((putN ss (k + 1)).map (Value.int .u8)) := by
        have e : (putN ss (k + 1)).map (Value.int .u8) = (putN ss k).map (Value.int .u8) ++ (enc al).map (Value.int .u8) ++ (enc ((txt ss k).size - al)).map (Value.int .u8) ++ ((strInts (txt ss k)).drop al).map (Value.int .u8) := by
          simp only [putN]
          rw [HP.out]
          simp
        rw [e]
        simpa using hout6
      clear ho6 hg6 hout5 hout6
      obtain ⟨ao6, cap6, rfl, hsh6⟩ := hfin.slice
      rw [List.length_map] at hfin hsh6 ⊢
      clear hsh6
      by_cases hbig : 1048576 < (putN ss (k + 1)).length
      · go_wp2_with fail
        go_ret
        exact ⟨_, k + 1, rfl, hlt, hfin, .inr hbig, hbel6⟩
      · go_wp2_with fail
        go_roundw
        case rel => exact ⟨k + 1, hlt, by go_num, rfl, hfin, hbel6⟩
        case measure => simp [intOf]; omega
    · go_wp2_with fail
      go_ret
      exact ⟨_, k, rfl, hk, how, .inl (by omega), hbel⟩

end Go.Proofs.YtmmkmkaannlkhaaGreatDoor

namespace Go.Proofs.YtmmkmkaannlkhaaGreatDoor
open Go.RowKit Go.Lib
set_option linter.unusedVariables false

theorem unf_foldS {d : Int} : unf (foldS d : Int) = d := by
  unfold unf foldS
  split <;> split <;> omega
/-- The step of the first run. -/
def step1 (ls : List Int) : Int := if 1 < runEnd ls 0 then nth ls 1 - nth ls 0 else 0
theorem ext_all (ls : List Int) (i : Nat) : ∀ f j t, j ≤ t → t < j + extF ls i f j → goesOn ls i t = true := by
  intro f
  induction f with
  | zero => intro j t h1 h2; simp [extF] at h2; omega
  | succ f ih =>
    intro j t h1 h2
    simp only [extF] at h2
    split at h2
    · rename_i hg
      by_cases he : t = j
      · subst he; exact hg
      · exact ih (j + 1) t (by omega) (by omega)
    · omega
theorem run_nth {ls : List Int} (j : Nat) : j < runEnd ls 0 → nth ls j = nth ls 0 + (j : Int) * step1 ls := by
  induction j with
  | zero => intro _; simp
  | succ j ih =>
    intro h
    have h1 := ih (by omega)
    have hs : step1 ls = nth ls 1 - nth ls 0 := by unfold step1; rw [if_pos (by omega)]
    have hg := ext_all ls 0 ls.length 1 (j + 1) (by omega) (by unfold runEnd at h; omega)
    unfold goesOn at hg
    simp only [Bool.and_eq_true, decide_eq_true_eq, Bool.or_eq_true] at hg
    rcases hg.2 with h2 | h2
    · obtain rfl : j = 0 := by omega
      rw [hs]
      simp
      omega
    · rw [Nat.add_sub_cancel, Nat.zero_add] at h2
      have e : ((j + 1 : Nat) : Int) * step1 ls = (j : Int) * step1 ls + step1 ls := by rw [Int.natCast_succ, Int.add_mul, Int.one_mul]
      rw [e]
      generalize (j : Int) * step1 ls = x at *
      omega
theorem run_split {ls : List Int} (h : 0 < ls.length) : ls = valsF (runEnd ls 0) (nth ls 0) (step1 ls) ++ ls.drop (runEnd ls 0) := by
  have hb := runEnd_bd h
  apply List.ext_getElem
  · rw [List.length_append, valsF_len, List.length_drop]; omega
  · intro j h1 h2
    by_cases hj : j < runEnd ls 0
    · have e1 := valsF_nth (runEnd ls 0) (nth ls 0) (step1 ls) (ls.drop (runEnd ls 0)) j hj
      rw [nth_get h2] at e1
      have e2 := run_nth (ls := ls) j hj
      rw [nth_get h1] at e2
      rw [e1, e2]
    · rw [List.getElem_append_right (by rw [valsF_len]; omega)]
      simp only [List.getElem_drop, valsF_len]
      congr 1
      omega
theorem okV_of (k : Nat) : ∀ v d, (∀ j, j < k → 0 ≤ v + (j : Int) * d ∧ v + (j : Int) * d ≤ 1152921504606846975) → okV k v d = true := by
  induction k with
  | zero => intro v d _; rfl
  | succ k ih =>
    intro v d h
    have h0 := h 0 (by omega)
    simp only [okV]
    have h1 := ih (v + d) d (fun j hj => by
      have := h (j + 1) (by omega)
      rw [Int.natCast_succ, Int.add_mul, Int.one_mul] at this
      omega)
    simp at h0
    simp [h1]
    omega
theorem oneRun_back {ls xs r : List Int} {p left : Nat} (h : 0 < ls.length) (hok : runsOK ls = true) (hl : ls.length ≤ 4096) (hL : ls.length ≤ left) (hd : xs.drop p = encRun (nth ls 0) (runEnd ls 0) (step1 ls) ++ r) :
    oneRun xs p left = some (nth ls 0, runEnd ls 0, step1 ls, p + (encRun (nth ls 0) (runEnd ls 0) (step1 ls)).length) := by
  have hb := runEnd_bd h
  have hv := runsOK_nth hok 0
  have hv1 := runsOK_nth hok 1
  have hstep : -1152921504606846975 ≤ step1 ls ∧ step1 ls ≤ 1152921504606846975 := by unfold step1; split <;> omega
  have hO : okV (runEnd ls 0) (nth ls 0) (step1 ls) = true := okV_of _ _ _ (fun j hj => by rw [← run_nth j hj]; exact runsOK_nth hok j)
  have hlen : (encRun (nth ls 0) (runEnd ls 0) (step1 ls)).length = (enc (nth ls 0).toNat).length + (enc (runEnd ls 0)).length + (if 1 < runEnd ls 0 then enc (foldS (step1 ls)) else []).length := by simp [encRun, Nat.add_assoc]
  have hs1 : ¬ 1 < runEnd ls 0 → step1 ls = 0 := fun hn => by unfold step1; rw [if_neg hn]
  rw [hlen]
  unfold encRun at hd
  rw [List.append_assoc, List.append_assoc] at hd
  have g1 := getL_back (by omega) hd
  have d1 := drop_more hd
  have g2 := getL_back (by omega) d1
  have d2 := drop_more d1
  generalize step1 ls = d at *
  generalize runEnd ls 0 = k at *
  rw [Int.toNat_of_nonneg hv.1] at g1
  generalize nth ls 0 = v at *
  unfold oneRun
  rw [g1]
  simp only
  rw [g2]
  simp only
  rw [if_neg (by rw [Int.toNat_natCast]; omega), Int.toNat_natCast]
  by_cases hk1 : k = 1
  · rw [if_pos hk1, hs1 (by omega), hk1]
    simp [Nat.add_assoc]
  · rw [if_neg hk1]
    rw [if_pos (by omega)] at d2
    have g3 := getL_back (by have := foldS_le hstep.1 hstep.2; omega) d2
    rw [g3]
    simp only
    rw [unf_foldS, if_pos hO, if_pos (by omega)]
    simp [Nat.add_assoc]
theorem parseS_back {xs r : List Int} : ∀ f (ls : List Int) p, ls.length ≤ f → ls.length ≤ 4096 → runsOK ls = true → xs.drop p = putRF ls ls.length 0 ++ r → parseS xs f ls.length p = some (ls, p + (putRF ls ls.length 0).length) := by
  intro f
  induction f with
  | zero =>
    intro ls p hf _ _ hd
    obtain rfl : ls = [] := List.eq_nil_of_length_eq_zero (by omega)
    simp [parseS, putRF]
  | succ f ih =>
    intro ls p hf h4 hok hd
    by_cases h0 : ls.length = 0
    · obtain rfl : ls = [] := List.eq_nil_of_length_eq_zero h0
      simp [parseS, putRF]
    · have hpos : 0 < ls.length := by omega
      have hb := runEnd_bd hpos
      have hsp := run_split hpos
      have hput : putRF ls ls.length 0 = encRun (nth ls 0) (runEnd ls 0) (step1 ls) ++ putRF (ls.drop (runEnd ls 0)) (ls.drop (runEnd ls 0)).length 0 := by
        have h1 := putRF_run (k := runEnd ls 0) (v := nth ls 0) (d := step1 ls) (T := ls.drop (runEnd ls 0)) (by omega) (by rw [← hsp])
        rw [← hsp] at h1
        exact h1
      rw [hput, List.append_assoc] at hd
      have h1 := oneRun_back hpos hok h4 (Nat.le_refl _) hd
      have h2 := ih (ls.drop (runEnd ls 0)) (p + (encRun (nth ls 0) (runEnd ls 0) (step1 ls)).length) (by rw [List.length_drop]; omega) (by rw [List.length_drop]; omega) (runsOK_drop hok _) (drop_more hd)
      rw [hput]
      rw [List.length_drop] at h2
      simp only [parseS]
      rw [if_neg h0, h1]
      simp only
      rw [h2]
      simp only [Option.some.injEq, Prod.mk.injEq]
      refine ⟨hsp.symm, ?_⟩
      rw [List.length_append, List.length_drop]
      omega
theorem runsL_back {ls r : List Int} (h4 : ls.length ≤ 4096) (hok : runsOK ls = true) : runsL (putR ls ++ r) = some (ls, (putR ls).length) := by
  have h0 : (putR ls ++ r).drop 0 = enc ls.length ++ (putRF ls ls.length 0 ++ r) := by
    rw [List.drop_zero]
    unfold putR
    rw [List.append_assoc]
  unfold runsL
  rw [getL_back (by omega) h0]
  simp only
  rw [if_neg (by omega), Int.toNat_natCast, parseS_back ls.length ls _ (Nat.le_refl _) h4 hok (drop_more h0)]
  simp [putR]
theorem getRuns_back {ls : List Int} (h4 : ls.length ≤ 4096) (hok : runsOK ls = true) : getRuns (putR ls) = some ls := by
  have h := runsL_back (r := []) h4 hok
  rw [List.append_nil] at h
  unfold getRuns
  rw [h]
  simp
theorem getRuns_much {ls : List Int} (h4 : ls.length ≤ 4096) (hok : runsOK ls = true) (c : Int) : getRuns (putR ls ++ [c]) = none := by
  unfold getRuns
  rw [runsL_back h4 hok]
  simp
theorem Bytes.str (s : ByteArray) (k : Nat) : Bytes ((strInts s).drop k) := fun c hc => by
  have h := List.mem_of_mem_drop hc
  unfold strInts at h
  obtain ⟨b, _, rfl⟩ := List.mem_map.1 h
  have := b.toNat_lt
  omega
theorem putN_bytes (ss : List ByteArray) : ∀ k, Bytes (putN ss k) := by
  intro k
  induction k with
  | zero => exact Bytes.enc _
  | succ k ih => exact Bytes.app ih (Bytes.app (Bytes.app (Bytes.enc _) (Bytes.enc _)) (Bytes.str _ _))
theorem Bytes.take {xs : List Int} (h : Bytes xs) (n : Nat) : Bytes (xs.take n) := fun c hc => h c (List.mem_of_mem_take hc)
theorem Bytes.zero : Bytes [0] := fun c hc => by rw [List.mem_singleton.1 hc]; decide
theorem front_last {xs : List Int} (h : 0 < xs.length) : ∃ c, xs = xs.take (xs.length - 1) ++ [c] := by
  refine ⟨xs[xs.length - 1], ?_⟩
  have e := List.take_append_getElem (i := xs.length - 1) (l := xs) (by omega)
  rw [e, List.take_of_length_le (by omega)]
theorem getTexts_front {ss : List ByteArray} (h4 : ss.length ≤ 4096) (ht : tot ss ss.length ≤ 1048576) : getTexts ((putN ss ss.length).take ((putN ss ss.length).length - 1)) = none := by
  obtain ⟨c, hc⟩ := front_last (putN_pos ss)
  exact getTexts_less h4 ht hc
theorem getI_back {n : Nat} (hn : n ≤ 4611686018427387903) : getI (9 :: enc n) 1 = ((n : Int), 1 + ((enc n).length : Int), 0) := by
  have h : (9 :: enc n).drop 1 = enc n ++ [] := by simp
  have g := getL_back hn h
  have e := getI_some (xs := 9 :: enc n) (p := 1) (by simp) g
  rw [show ((1 : Nat) : Int) = 1 from rfl] at e
  rw [e]
  simp

end Go.Proofs.YtmmkmkaannlkhaaGreatDoor
