/- DocObjects: what the code's and the specification's answer. DocObjects: what the specification's answers. -/
import Derived.Deep.MidRow
import Derived.Test.YtkndagdecifekaaQLedClosedToLogOKImpl
import Derived.Test.YtkndagdecifekaaQLogMathToLogSpA
import Derived.Test.YtkndagdecifekaaQOpToToLawKit
import Derived.Test.YtkndagdecifekaaQLogOKSpec
import Derived.Test.YtkndagdecifekaaQInfoToStr
namespace Go.Proofs.Ytkndagdecifekaa
open Go.RowKit
set_option linter.unusedVariables false

theorem cellOne (w : World) (x : Value) (t : TypeId) : ∀ j u, [x][j]? = some u → (w.alloc (.cells #[x] t)).cell? ((⟨w.heap.size, 0, none⟩ : Addr).add j) = some u := by
  intro j u h
  cases j with
  | zero =>
    simp only [List.getElem?_cons_zero, Option.some.injEq] at h
    subst h
    rw [Addr.add_mid]
    exact cell_made (Below.refl _ _) (k := 0) rfl
  | succ j => simp at h
theorem ownNil (w : World) (e : TypeId) (B : Nat) : Own e w B (.slice none 0 0) [] := ⟨rfl, .inl ⟨rfl, rfl⟩⟩

/-- The objects below k that are something. -/
def objsTo (ts : List Int) : Nat → List Int
  | 0 => []
  | k + 1 => if ts.getD k 0 = 0 then objsTo ts k else objsTo ts k ++ [(k : Int)]
theorem objsTo_len (ts : List Int) : ∀ k, (objsTo ts k).length ≤ k
  | 0 => Nat.le_refl _
  | k + 1 => by
    have := objsTo_len ts k
    unfold objsTo
    split
    · omega
    · rw [List.length_append, List.length_singleton]; omega
/-- What DocObjects answers. -/
def ansObj (L : List Ov) : List Int := if logI L = true then objsTo (tsOf L) 101 else []
def codObj (L : List Ov) : Int := if logI L = true then 0 else 1
theorem ansObj_len (L : List Ov) : (ansObj L).length ≤ 1048576 := by
  unfold ansObj
  split
  · have := objsTo_len (tsOf L) 101; omega
  · simp
theorem things_info {P : List Ov} : (Try.prog.info? 59).map (·.size) = some ((tsOf P).map (Value.int .i64)).length := by
  rw [List.length_map, tsOf_len]
  kernel_rfl
theorem run_indexThings (w : World) (ts : List Int) (k : Nat) (hy : ts.length = 101) (hk : k < 101) : (Instr.index 59 (.agg (ts.map (Value.int .i64)).toArray) (.int .i64 (k : Int))).run Try.prog w = .ok (.int .i64 (ts.getD k 0)) w := by
  obtain ⟨i, hi, hz0, hz1, hz2⟩ := info_parts info3
  have hc : (ts.map (Value.int .i64))[k]? = some (.int .i64 (ts.getD k 0)) := by rw [List.getElem?_map, List.getD_eq_getElem?_getD, List.getElem?_eq_getElem (by omega)]; rfl
  have hl : (ts.map (Value.int .i64)).length = 101 := by rw [List.length_map]; exact hy
  generalize ts.map (Value.int .i64) = cs at hc hl
  generalize ts.getD k 0 = q at hc
  unfold Instr.index
  simp only [Sem.run_bind, asIntOf, Sem.run_pure, Result.andThen_ok, run_underlying Try.underlying59 w]
  rw [if_pos ⟨by omega, by omega⟩]
  simp [Sem.run_bind, sizeOf, typeInfo, hi, hz1, part]
  rw [hc]
  rfl

set_option maxHeartbeats 2000000 in
set_option maxRecDepth 100000 in
theorem implDocObjects_any (C : Nat) (w : World) (v : Value) (L : List Ov) (hC : C ≤ w.heap.size) (hr : RdO C w v L) :
    Calls Try.prog 15 #[v] w fun e w' => ∃ r, e = .returned (.tuple #[r, .int .i64 (codObj L)]) ∧ Own 3 w' w.heap.size r ((ansObj L).map (Value.int .i64)) ∧ Below w.heap.size w w' := by
  have hl := ledgerOf_any C w v L hC hr
  obtain ⟨ao, cap, rfl⟩ : ∃ ao cap, v = .slice ao L.length cap := by obtain ⟨⟨ao, cap, h, _⟩, _⟩ := hr; exact ⟨_, _, h⟩
  clear hr
  obtain ⟨i0, hi, hz0, hz1, hz2⟩ := info_parts info3
  cases hlog : logI L with
  | false =>
    have hA : Hid (ansObj L = []) := by unfold Hid ansObj; rw [if_neg (by rw [hlog]; decide)]
    have hD : codObj L = 1 := by unfold codObj; rw [if_neg (by rw [hlog]; decide)]
    rw [hA.out, hD]
    clear hA hD
    go_enter Try.func15, Try.ntmps15
    go_wp2_with fail
    refine hl.mono ?_
    rintro e w1 ⟨hans, hb1⟩
    rcases hans with ⟨h1, _⟩ | ⟨_, rfl⟩
    · rw [hlog] at h1; cases h1
    · go_wp2_with fail
      go_ret2
      exact ⟨_, rfl, ownNil _ _ _, hb1⟩
  | true =>
    have hA : ansObj L = objsTo (tsOf L) 101 := by unfold ansObj; rw [if_pos hlog]
    have hD : codObj L = 0 := by unfold codObj; rw [if_pos hlog]
    obtain ⟨ts, HTS⟩ : ∃ ts, Hid (tsOf L = ts) := ⟨_, rfl⟩
    rw [hA, hD, HTS.out]
    clear hA hD
    go_enter Try.func15, Try.ntmps15
    go_wp2_with fail
    refine hl.mono ?_
    rintro e w1 ⟨hans, hb1⟩
    rcases hans with ⟨_, lb, rfl, vs, hL⟩ | ⟨h1, _⟩
    · have hrg : w1.rangeAt lb 16 ((tsOf L).map (Value.int .i64)) := fun j u hj => by
        have hj1 := (List.getElem?_eq_some_iff.1 hj).1
        rw [List.length_map, tsOf_len] at hj1
        rw [hL.cell (led_ts hL.len hj1), ← hj, List.getElem?_map, List.getD_eq_getElem?_getD, List.getElem?_eq_getElem (by rw [tsOf_len]; exact hj1)]
        rfl
      have HI : Hid _ := things_info (P := L)
      have hln := tsOf_len L
      rw [HTS.out] at hrg HI hln
      clear HTS
      have HO0 : Hid (Own 3 w1 w.heap.size (.slice none 0 0) ((objsTo ts 0).map (Value.int .i64))) := ownNil _ _ _
      clear hl hL hlog
      go_wp2_with (first | (refine wpList_load_mid rfl 59 _ rfl lb 16 rfl (ts.map (Value.int .i64)) _ hrg Try.underlying59 rfl HI.out ?_))
      clear HI hrg
      go_loopw [6, 20] (fun tv ti wr => ∃ k : Nat, k ≤ 101 ∧ ti = .int .i64 (k : Int) ∧ Own 3 wr w.heap.size tv ((objsTo ts k).map (Value.int .i64)) ∧ Below w.heap.size w wr) (fun _ ti _ => 101 - (intOf ti).toNat)
      case atStart => exact ⟨0, Nat.zero_le _, rfl, HO0.out, hb1⟩
      case round =>
        clear HO0 hb1
        obtain ⟨k, hk, rfl, ho, hbel⟩ := hrel
        by_cases hlt : k < 101
        · have hki : (k : Int) < 101 := by omega
          have hix := run_indexThings wr ts k hln hlt
          have hlen := objsTo_len ts k
          by_cases hz : ts.getD k 0 = 0
          · have HE : Hid (objsTo ts (k + 1) = objsTo ts k) := by unfold Hid; rw [objsTo, if_pos hz]
            rw [hz] at hix
            go_wp2_with fail
            go_roundw
            case rel => exact ⟨k + 1, by omega, by go_num, by rw [HE.out]; exact ho, hbel⟩
            case measure => simp [intOf]; omega
          · have HE : Hid (objsTo ts (k + 1) = objsTo ts k ++ [(k : Int)]) := by unfold Hid; rw [objsTo, if_neg hz]
            have hzz : (ts.getD k 0 == 0) = false := by simpa using hz
            generalize ts.getD k 0 = q at hix hzz
            clear hz
            have hcn := cellOne wr (.int .i64 (k : Int)) 3
            obtain ⟨va, vc, e, -⟩ := ho.slice
            rw [List.length_map] at e
            subst e
            have ho' : wr.ownsRow w.heap.size 3 1 (.slice va (objsTo ts k).length vc) (objsTo ts k).length ((objsTo ts k).map (Value.int .i64)) := by
              unfold Own at ho
              rwa [List.length_map] at ho
            have hsz := hbel.size
            have hbk := ho.lt
            go_wp2_with (at_builtin; refine wpList_append_own _ rfl _ _ 24 rfl w.heap.size 3 i0 (.int .i64 0) 1 8 Try.underlying24 hi hz0 hz1 hz2 rfl (by decide) _ (objsTo ts k).length _ rfl (World.ownsRow.alloc ho' _) ⟨wr.heap.size, 0, none⟩ 1 1 [.int .i64 (k : Int)] rfl rfl hcn (by simp [Value.oneCell']) (by unfold maxLen; omega) (by omega) (by rw [World.size_alloc]; omega) ?_)
            intro v6 w6 ho6 hg6 _
            have ho7 : Own 3 w6 w.heap.size v6 ((objsTo ts (k + 1)).map (Value.int .i64)) := by rw [HE.out]; simpa using own_of ho6
            have hb7 : Below w.heap.size w w6 := (below_then hbel _).grown hg6 (by rw [World.size_alloc]; omega) hbk
            clear ho6 hg6 ho ho' hcn hix HE
            go_wp2_with fail
            go_roundw
            case rel => exact ⟨k + 1, by omega, by go_num, ho7, hb7⟩
            case measure => simp [intOf]; omega
        · obtain rfl : k = 101 := by omega
          go_wp2_with fail
          go_ret2
          exact ⟨_, rfl, ho, hbel⟩
    · rw [hlog] at h1; cases h1
end Go.Proofs.Ytkndagdecifekaa

namespace Go.Proofs.Ytkndagdecifekaa
open Go.RowKit
set_option linter.unusedVariables false

/-- What an object is by the first operation that has it, in the specification's words; 0: none. -/
def thFirst : List Ov → Int → Int
  | [], _ => 0
  | x :: L, o => if x.o = o then spT x.k else thFirst L o
theorem thFirst_drop {o : Int} : ∀ {L : List Ov} {i : Nat}, i ≤ L.length → (∀ q, q < i → (ovAt L q).o ≠ o) → thFirst L o = thFirst (L.drop i) o
  | _, 0, _, _ => rfl
  | [], i + 1, h, _ => absurd h (by simp)
  | x :: L, i + 1, h, hq => by
    have h0 : x.o ≠ o := hq 0 (by omega)
    rw [thFirst, if_neg h0]
    exact thFirst_drop (by simpa using h) (fun q hl => hq (q + 1) (by omega))
theorem thFirst_hit {L : List Ov} {o : Int} {i : Nat} (h : i < L.length) (hq : ∀ q, q < i → (ovAt L q).o ≠ o) (e : (ovAt L i).o = o) : thFirst L o = spT (ovAt L i).k := by
  rw [thFirst_drop (Nat.le_of_lt h) hq, List.drop_eq_getElem_cons h, show L[i] = ovAt L i by have := ovAt_get h; rw [List.getElem?_eq_getElem h] at this; exact Option.some.inj this, thFirst, if_pos e]
theorem thFirst_none {L : List Ov} {o : Int} (hq : ∀ q, q < L.length → (ovAt L q).o ≠ o) : thFirst L o = 0 := by
  rw [thFirst_drop (Nat.le_refl _) hq, List.drop_length]
  rfl
theorem spT_pos (k : Int) : spT k ≠ 0 := by
  unfold spT
  split
  · decide
  · split <;> decide
theorem thFirst_zero {o : Int} : ∀ {L : List Ov}, thFirst L o = 0 ↔ ∀ x ∈ L, x.o ≠ o
  | [] => ⟨fun _ x hx => absurd hx (by simp), fun _ => rfl⟩
  | x :: L => by
    rw [thFirst]
    by_cases e : x.o = o
    · rw [if_pos e]
      exact ⟨fun h => absurd h (spT_pos _), fun h => absurd e (h x (List.mem_cons_self ..))⟩
    · rw [if_neg e, thFirst_zero]
      exact ⟨fun h y hy => by
        rcases List.mem_cons.1 hy with rfl | hy
        · exact e
        · exact h y hy, fun h y hy => h y (List.mem_cons_of_mem _ hy)⟩
theorem tsOf_zero {j : Nat} (hj : j < 101) {L : List Ov} (hk : ∀ x ∈ L, x.k = 1 ∨ x.k = 2 ∨ x.k = 3 ∨ x.k = 4) : (tsOf L).getD j 0 = 0 ↔ ∀ x ∈ L, x.o.toNat ≠ j := by
  unfold tsOf
  have hl : (List.replicate 101 (0 : Int)).length = 101 := by simp
  have h0 : (List.replicate 101 (0 : Int)).getD j 0 = 0 := by rw [List.getD_eq_getElem?_getD, List.getElem?_replicate, if_pos hj]; rfl
  have key : ∀ (L : List Ov) (ts : List Int), ts.length = 101 → (∀ x ∈ L, x.k = 1 ∨ x.k = 2 ∨ x.k = 3 ∨ x.k = 4) → ((L.foldl (fun ts x => ts.set x.o.toNat (thOf x.k)) ts).getD j 0 = 0 ↔ ts.getD j 0 = 0 ∧ ∀ x ∈ L, x.o.toNat ≠ j ∨ False) ∨ (∃ x ∈ L, x.o.toNat = j ∧ (L.foldl (fun ts x => ts.set x.o.toNat (thOf x.k)) ts).getD j 0 ≠ 0) := by
    intro L
    induction L with
    | nil => intro ts _ _; exact .inl ⟨fun h => ⟨h, fun x hx => absurd hx (by simp)⟩, fun h => h.1⟩
    | cons x L ih =>
      intro ts hts hk
      have hk' : ∀ y ∈ L, y.k = 1 ∨ y.k = 2 ∨ y.k = 3 ∨ y.k = 4 := fun y hy => hk y (List.mem_cons_of_mem _ hy)
      have hset : (ts.set x.o.toNat (thOf x.k)).length = 101 := by rw [List.length_set]; exact hts
      rw [List.foldl_cons]
      rcases ih (ts.set x.o.toNat (thOf x.k)) hset hk' with h | ⟨y, hy, e, h⟩
      · by_cases e : x.o.toNat = j
        · refine .inr ⟨x, List.mem_cons_self .., e, fun h1 => ?_⟩
          have h2 := (h.1 h1).1
          rw [e, List.getD_eq_getElem?_getD, List.getElem?_set_self (by omega)] at h2
          have h3 := thOf_in (hk x (List.mem_cons_self ..))
          simp only [Option.getD_some] at h2
          omega
        · refine .inl ⟨fun h1 => ?_, fun h1 => ?_⟩
          · obtain ⟨h2, h3⟩ := h.1 h1
            rw [List.getD_eq_getElem?_getD, List.getElem?_set_ne e, ← List.getD_eq_getElem?_getD] at h2
            refine ⟨h2, fun y hy => ?_⟩
            rcases List.mem_cons.1 hy with rfl | hy
            · exact .inl e
            · exact h3 y hy
          · refine h.2 ⟨?_, fun y hy => h1.2 y (List.mem_cons_of_mem _ hy)⟩
            rw [List.getD_eq_getElem?_getD, List.getElem?_set_ne e, ← List.getD_eq_getElem?_getD]
            exact h1.1
      · exact .inr ⟨y, List.mem_cons_of_mem _ hy, e, h⟩
  rcases key L _ hl hk with h | ⟨x, hx, e, h⟩
  · rw [h]
    exact ⟨fun h1 x hx => (h1.2 x hx).resolve_right id, fun h1 => ⟨h0, fun x hx => .inl (h1 x hx)⟩⟩
  · exact ⟨fun h1 => absurd h1 h, fun h1 => absurd e (h1 x hx)⟩
/-- Both say of the same objects that they are there. -/
theorem there_same {L : List Ov} (hok : ∀ x ∈ L, x.ok = true) {j : Nat} (hj : j < 101) : thFirst L (j : Int) = 0 ↔ (tsOf L).getD j 0 = 0 := by
  rw [thFirst_zero, tsOf_zero hj (fun x hx => ok_kind (hok x hx))]
  refine ⟨fun h x hx e => h x hx ?_, fun h x hx e => h x hx ?_⟩
  · have := (ok_parts (hok x hx)).2.1
    omega
  · rw [e, Int.toNat_natCast]
theorem logI_ok {L : List Ov} (h : logI L = true) : ∀ x ∈ L, x.ok = true := by
  unfold logI at h
  simp only [Bool.and_eq_true] at h
  refine step_mem fun q hq => ?_
  have := h.2.1
  rw [List.all_eq_true] at this
  exact this q (List.mem_range.2 hq)
theorem logI_len {L : List Ov} (h : logI L = true) : L.length ≤ 1024 := by
  unfold logI at h
  simp only [Bool.and_eq_true, decide_eq_true_eq] at h
  exact h.1

set_option maxHeartbeats 1000000 in
set_option maxRecDepth 100000 in
theorem l09Thing_any (C : Nat) (w : World) (v : Value) (L : List Ov) (o : Int) (hC : C ≤ w.heap.size) (hr : RdO C w v L) (hl : L.length ≤ 1024) :
    Calls Try.prog 27 #[v, .int .i64 o] w fun e w' => e = .returned (.int .i64 (thFirst L o)) ∧ w' = w := by
  obtain ⟨⟨ao, cap, rfl, hcap, hmax, hnil, hrow⟩, -⟩ := hr
  obtain ⟨r, HR⟩ : ∃ r, Hid (thFirst L o = r) := ⟨_, rfl⟩
  rw [HR.out]
  go_enter Try.func27, Try.ntmps27
  go_wp2_with fail
  go_loopw [5] (fun ti wr => ∃ i : Nat, i ≤ L.length ∧ ti = .int .i64 (i : Int) ∧ Hid (wr = w) ∧ Hid (∀ q, q < i → (ovAt L q).o ≠ o)) (fun ti _ => L.length - (intOf ti).toNat)
  case atStart => exact ⟨0, Nat.zero_le _, rfl, rfl, fun q hq => absurd hq (by omega)⟩
  case round =>
    obtain ⟨i, hi, rfl, HW, HQ⟩ := hrel
    by_cases hlt : i < L.length
    · have hki : (i : Int) < (L.length : Int) := by omega
      have hk2 : (i : Int) + 1 < 9223372036854775808 := by omega
      obtain ⟨g, off, rfl, hg, hcs⟩ := hrow (by omega)
      have hx := hcs i hlt
      rw [← HW.out] at hx
      have c5 := hx.c5
      have c4 := hx.c4
      have hTk := fun w => l08Thing_any (ovAt L i).k w
      clear hx hcs
      by_cases e : (ovAt L i).o = o
      · have HE : Hid (r = spT (ovAt L i).k) := HR.out.symm.trans (thFirst_hit hlt HQ.out e)
        have HB : Hid (wr = w) := HW
        rw [e] at c5
        generalize (ovAt L i).k = k at *
        clear e HQ HW
        go_wp2_with (first | (go_at_call 31; refine (hTk _).mono ?_; rintro e w9 ⟨rfl, hw⟩; obtain rfl := hw.symm))
        go_ret
        exact ⟨by rw [HE.out]; rfl, HB.out⟩
      · have HE : Hid (∀ q, q < i + 1 → (ovAt L q).o ≠ o) := fun q hq => by
          by_cases e' : q = i
          · subst e'; exact e
          · exact HQ.out q (by omega)
        have e1 : ((ovAt L i).o == o) = false := by simpa using e
        generalize (ovAt L i).o = xo at c5 e1
        clear e HQ c4
        go_wp2_with fail
        go_roundw
        case rel => exact ⟨i + 1, by omega, by go_num, HW, HE⟩
        case measure => simp [intOf]; omega
    · have hki : ¬ (i : Int) < (L.length : Int) := by omega
      have HE : Hid (r = 0) := HR.out.symm.trans (thFirst_none fun q hq => HQ.out q (by omega))
      go_wp2_with fail
      go_ret
      exact ⟨by rw [HE.out]; rfl, HW.out⟩

set_option maxHeartbeats 2000000 in
set_option maxRecDepth 100000 in
theorem specDocObjects_any (C : Nat) (w : World) (v : Value) (L : List Ov) (hC : C ≤ w.heap.size) (hr : RdO C w v L) :
    Calls Try.prog 14 #[v] w fun e w' => ∃ r, e = .returned (.tuple #[r, .int .i64 (codObj L)]) ∧ Own 3 w' w.heap.size r ((ansObj L).map (Value.int .i64)) ∧ Below w.heap.size w w' := by
  have hl := specLogOK_any C w v L hC hr
  obtain ⟨ao, cap, hv⟩ : ∃ ao cap, v = .slice ao L.length cap := by obtain ⟨⟨ao, cap, h, _⟩, _⟩ := hr; exact ⟨_, _, h⟩
  obtain ⟨i0, hi, hz0, hz1, hz2⟩ := info_parts info3
  cases hlog : logI L with
  | false =>
    have hA : Hid (ansObj L = []) := by unfold Hid ansObj; rw [if_neg (by rw [hlog]; decide)]
    have hD : codObj L = 1 := by unfold codObj; rw [if_neg (by rw [hlog]; decide)]
    rw [hA.out, hD]
    rw [hlog] at hl
    clear hA hD
    subst hv
    go_enter Try.func14, Try.ntmps14
    go_wp2_with fail
    refine hl.mono ?_
    rintro e w1 ⟨rfl, hb1⟩
    go_wp2_with fail
    go_ret2
    exact ⟨_, rfl, (own_lit w1 3 [] 0 rfl (by unfold maxLen; omega)).mono hb1.size, below_then hb1 _⟩
  | true =>
    have hA : ansObj L = objsTo (tsOf L) 101 := by unfold ansObj; rw [if_pos hlog]
    have hD : codObj L = 0 := by unfold codObj; rw [if_pos hlog]
    have hok := logI_ok hlog
    have hlen := logI_len hlog
    have HTF : Hid (∀ j : Nat, j < 101 → (thFirst L (j : Int) = 0 ↔ (tsOf L).getD j 0 = 0)) := fun j hj => there_same hok hj
    have HO1 : Hid (objsTo (tsOf L) 1 = []) := by
      unfold Hid
      rw [objsTo, if_pos]
      · rfl
      · rw [tsOf_zero (by omega) (fun x hx => ok_kind (hok x hx))]
        intro x hx e
        have := (ok_parts (hok x hx)).2.1
        omega
    have hTH := fun (o : Int) (w9 : World) (hb : Below w.heap.size w w9) => l09Thing_any C w9 v L o (by have := hb.size; omega) (hr.below (hb.mono hC)) hlen
    obtain ⟨ts, HTS⟩ : ∃ ts, Hid (tsOf L = ts) := ⟨_, rfl⟩
    rw [hA, hD, HTS.out]
    rw [HTS.out] at HTF HO1
    rw [hlog] at hl
    clear hA hD HTS hok hr hlog
    subst hv
    go_enter Try.func14, Try.ntmps14
    go_wp2_with fail
    refine hl.mono ?_
    rintro e w1 ⟨rfl, hb1⟩
    have HO0 : Hid (Own 3 (w1.alloc (.cells #[] 3)) w.heap.size (.slice (some ⟨w1.heap.size, 0, none⟩) 0 0) ((objsTo ts 1).map (Value.int .i64))) := by
      unfold Hid
      rw [HO1.out]
      exact (own_lit w1 3 [] 0 rfl (by unfold maxLen; omega)).mono hb1.size
    have hb2 := below_then hb1 (.cells #[] 3)
    clear hl HO1 hb1
    go_wp2_with fail
    go_loopw [4, 5] (fun tv ti wr => ∃ k : Nat, 1 ≤ k ∧ k ≤ 101 ∧ ti = .int .i64 (k : Int) ∧ Own 3 wr w.heap.size tv ((objsTo ts k).map (Value.int .i64)) ∧ Below w.heap.size w wr) (fun _ ti _ => 101 - (intOf ti).toNat)
    case atStart => exact ⟨1, by omega, by omega, rfl, HO0.out, hb2⟩
    case round =>
      clear HO0 hb2
      obtain ⟨k, hk1, hk, rfl, ho, hbel⟩ := hrel
      by_cases hlt : k < 101
      · have hki : (k : Int) ≤ 100 := by omega
        have hz := HTF.out k hlt
        have hT := hTH (k : Int) wr hbel
        have hlen := objsTo_len ts k
        by_cases hzk : ts.getD k 0 = 0
        · have HE : Hid (objsTo ts (k + 1) = objsTo ts k) := by unfold Hid; rw [objsTo, if_pos hzk]
          rw [hz.2 hzk] at hT
          clear hz hzk
          go_wp2_with fail
          refine hT.mono ?_
          rintro e w5 ⟨rfl, hw⟩
          obtain rfl := hw.symm
          go_wp2_with fail
          go_roundw
          case rel => exact ⟨k + 1, by omega, by omega, by go_num, by rw [HE.out]; exact ho, hbel⟩
          case measure => simp [intOf]; omega
        · have HE : Hid (objsTo ts (k + 1) = objsTo ts k ++ [(k : Int)]) := by unfold Hid; rw [objsTo, if_neg hzk]
          have hzz : (thFirst L (k : Int) == 0) = false := by simp only [beq_eq_false_iff_ne]; exact fun h => hzk (hz.1 h)
          generalize thFirst L (k : Int) = q at hT hzz
          clear hz hzk
          have hcn := cellOne wr (.int .i64 (k : Int)) 3
          obtain ⟨va, vc, e, -⟩ := ho.slice
          rw [List.length_map] at e
          subst e
          have ho' : wr.ownsRow w.heap.size 3 1 (.slice va (objsTo ts k).length vc) (objsTo ts k).length ((objsTo ts k).map (Value.int .i64)) := by
            unfold Own at ho
            rwa [List.length_map] at ho
          have hsz := hbel.size
          have hbk := ho.lt
          go_wp2_with fail
          refine hT.mono ?_
          rintro e w5 ⟨rfl, hw⟩
          obtain rfl := hw.symm
          go_wp2_with (at_builtin; refine wpList_append_own _ rfl _ _ 24 rfl w.heap.size 3 i0 (.int .i64 0) 1 8 Try.underlying24 hi hz0 hz1 hz2 rfl (by decide) _ (objsTo ts k).length _ rfl (World.ownsRow.alloc ho' _) ⟨wr.heap.size, 0, none⟩ 1 1 [.int .i64 (k : Int)] rfl rfl hcn (by simp [Value.oneCell']) (by unfold maxLen; omega) (by omega) (by rw [World.size_alloc]; omega) ?_)
          intro v6 w6 ho6 hg6 _
          have ho7 : Own 3 w6 w.heap.size v6 ((objsTo ts (k + 1)).map (Value.int .i64)) := by rw [HE.out]; simpa using own_of ho6
          have hb7 : Below w.heap.size w w6 := (below_then hbel _).grown hg6 (by rw [World.size_alloc]; omega) hbk
          clear ho6 hg6 ho ho' hcn HE
          go_wp2_with fail
          go_roundw
          case rel => exact ⟨k + 1, by omega, by omega, by go_num, ho7, hb7⟩
          case measure => simp [intOf]; omega
      · obtain rfl : k = 101 := by omega
        go_wp2_with fail
        go_ret2
        exact ⟨_, rfl, ho, hbel⟩
end Go.Proofs.Ytkndagdecifekaa
