/- The code's opNumbers: twenty-five functions, each of which gives the place of a number of an operation. The functions of opNumbers: the place of a number of an operation that lies in block b. The code's opTexts and logColumns: twenty-seven columns, each a value behind an interface. An operation's twelve cells as a range. A piece of operations that can be read. -/
import Derived.Deep.MidRow
import Derived.BigQuiet
import Derived.Test.YtmmkmkaannlkhaaGreatDoorQOpComesToOpSpecBase
import Derived.Test.YtmmkmkaannlkhaaGreatDoorQInfoToLawAt
namespace Go.Proofs.YtmmkmkaannlkhaaGreatDoor
open Go.RowKit
set_option linter.unusedVariables false

theorem infoF : (Tryz.prog.info? 79).map (fun i => (i.zero, i.size, i.bytes)) = some (some .nilFunc, 1, 8) := by kernel_rfl
/-- The functions of the first nine numbers. -/
def plainF : List Value := [.func (.func 80) #[] #[], .func (.func 81) #[] #[], .func (.func 82) #[] #[], .func (.func 83) #[] #[], .func (.func 84) #[] #[], .func (.func 85) #[] #[], .func (.func 86) #[] #[], .func (.func 87) #[] #[], .func (.func 88) #[] #[]]
/-- The function of a count: its actor stands in block k. -/
def cntF (k : Nat) : Value := .func (.func 89) #[] #[.pointer (some ⟨k, 0, none⟩)]
/-- The actors' blocks. -/
def Acts (w : World) (B : Nat) (ks : List Nat) : Prop := ∀ (a k : Nat), ks[a]? = some k → B ≤ k ∧ w.heap[k]? = some (.cells #[.int .i64 (a : Int)] 3)
theorem cellF (w : World) (x : Value) (t : TypeId) : ∀ j u, [x][j]? = some u → (w.alloc (.cells #[x] t)).cell? ((⟨w.heap.size, 0, none⟩ : Addr).add j) = some u := by
  intro j u h
  cases j with
  | zero =>
    simp only [List.getElem?_cons_zero, Option.some.injEq] at h
    subst h
    rw [Addr.add_mid]
    exact cell_made (Below.refl _ _) (k := 0) rfl
  | succ j => simp at h

theorem owns_clash {w : World} {B n k : Nat} {v : Value} {xs : List Value} {b : Int} (h : w.ownsRow B 79 1 v n xs) (hv : v.ownBlock = some k) (hk : w.heap[k]? = some (.cells #[.int .i64 b] 3)) : False := by
  obtain ⟨_, h2⟩ := h
  rcases h2 with ⟨e, _⟩ | ⟨g, cap, cur, e, _, hh, _⟩
  · rw [e] at hv; cases hv
  · rw [e] at hv
    cases hv
    rw [hh] at hk
    simp at hk

set_option maxHeartbeats 2000000 in
set_option maxRecDepth 100000 in
theorem opNumbers_any (w : World) :
    Calls Tryz.prog 55 #[] w fun e w' => ∃ r ks, e = .returned r ∧ ks.length = 16 ∧ Own 79 w' w.heap.size r (plainF ++ ks.map cntF) ∧ Acts w' w.heap.size ks ∧ Below w.heap.size w w' := by
  obtain ⟨i0, hi, hz0, hz1, hz2⟩ := info_parts infoF
  have HO0 : Hid (Own 79 (w.alloc (.cells plainF.toArray 79)) w.heap.size (.slice (some ⟨w.heap.size, 0, none⟩) 9 9) (plainF ++ ([] : List Nat).map cntF)) := own_lit w _ plainF 9 rfl (by unfold maxLen; omega)
  go_enter Tryz.func55, Tryz.ntmps55
  go_wp2_with fail
  go_loopw [1, 4] (fun tv ti wr => ∃ (a : Nat) (ks : List Nat), a ≤ 16 ∧ ti = .int .i64 (a : Int) ∧ Hid (ks.length = a) ∧ Own 79 wr w.heap.size tv (plainF ++ ks.map cntF) ∧ Acts wr w.heap.size ks ∧ Below w.heap.size w wr) (fun _ ti _ => 16 - (intOf ti).toNat)
  case atStart => exact ⟨0, [], Nat.zero_le _, rfl, rfl, HO0.out, fun a k h => by simp at h, below_alloc _ _⟩
  case round =>
    clear HO0
    obtain ⟨a, ks, ha, rfl, HK, ho, hA, hbel⟩ := hrel
    by_cases hlt : a < 16
    · have hai : (a : Int) < 16 := by omega
      have hln : (plainF ++ ks.map cntF).length = 9 + a := by rw [List.length_append, List.length_map, HK.out]; rfl
      obtain ⟨va, vc, e, -⟩ := ho.slice
      rw [hln] at e
      subst e
      have ho' : wr.ownsRow w.heap.size 79 1 (.slice va (9 + a) vc) (9 + a) (plainF ++ ks.map cntF) := by
        unfold Own at ho
        rwa [hln] at ho
      have hsz := hbel.size
      have hbk := ho.lt
      have HC : Hid (∀ w', Below (wr.alloc (.cells #[.int .i64 (a : Int)] 3)).heap.size (wr.alloc (.cells #[.int .i64 (a : Int)] 3)) w' → w'.cell? ⟨wr.heap.size, 0, none⟩ = some (.int .i64 (a : Int))) := fun w' h => cell_made h (k := 0) rfl
      have hcn := cellF (wr.alloc (.cells #[.int .i64 (a : Int)] 3)) (.func (.func 89) #[] #[.pointer (some ⟨wr.heap.size, 0, none⟩)]) 79
      simp only [World.size_alloc] at hcn
      have ho2 := World.ownsRow.alloc (World.ownsRow.alloc ho' (.cells #[.int .i64 (a : Int)] 3)) (.cells #[.func (.func 89) #[] #[.pointer (some ⟨wr.heap.size, 0, none⟩)]] 79)
      have hb2 := below_then (below_then hbel (.cells #[.int .i64 (a : Int)] 3)) (.cells #[.func (.func 89) #[] #[.pointer (some ⟨wr.heap.size, 0, none⟩)]] 79)
      clear ho ho' hln
      go_wp2_with (at_builtin; refine wpList_append_own _ rfl _ _ 77 rfl w.heap.size 79 i0 .nilFunc 1 8 Tryz.underlying77 hi hz0 hz1 hz2 rfl (by decide) _ (9 + a) _ rfl ho2 ⟨wr.heap.size + 1, 0, none⟩ 1 1 [.func (.func 89) #[] #[.pointer (some ⟨wr.heap.size, 0, none⟩)]] rfl rfl hcn (by simp [Value.oneCell']) (by unfold maxLen; omega) (by omega) (by simp only [World.size_alloc]; omega) ?_)
      intro v6 w6 ho6 hg6 _
      have ho7 : Own 79 w6 w.heap.size v6 (plainF ++ (ks ++ [wr.heap.size]).map cntF) := by
        rw [List.map_append]
        exact own_of ho6
      have hb6 : Below w.heap.size w w6 := hb2.grown hg6 (by simp only [World.size_alloc]; omega) hbk
      have hA6 : Acts w6 w.heap.size (ks ++ [wr.heap.size]) := by
        have hk6 : ∀ (b k : Nat), (((wr.alloc (.cells #[.int .i64 (a : Int)] 3)).alloc (.cells #[.func (.func 89) #[] #[.pointer (some ⟨wr.heap.size, 0, none⟩)]] 79)).heap[k]? = some (.cells #[.int .i64 (b : Int)] 3)) → w6.heap[k]? = some (.cells #[.int .i64 (b : Int)] 3) := fun b k h => (hg6.block k (Array.getElem?_eq_some_iff.1 h).1 (fun e => owns_clash ho2 e.symm h)).trans h
        intro b k hk
        by_cases hlb : b < ks.length
        · rw [List.getElem?_append_left hlb] at hk
          obtain ⟨h1, h2⟩ := hA b k hk
          have hlk := (Array.getElem?_eq_some_iff.1 h2).1
          exact ⟨h1, hk6 b k (by rw [Go.heap_alloc_old _ _ (by simp only [World.size_alloc]; omega), Go.heap_alloc_old _ _ hlk]; exact h2)⟩
        · rw [List.getElem?_append_right (by omega)] at hk
          have hb0 : b - ks.length = 0 := by
            have := (List.getElem?_eq_some_iff.1 hk).1
            simp at this
            omega
          rw [hb0] at hk
          simp only [List.getElem?_cons_zero, Option.some.injEq] at hk
          subst hk
          obtain rfl : b = a := by have := HK.out; omega
          exact ⟨hsz, hk6 b _ (by rw [Go.heap_alloc_old _ _ (by simp only [World.size_alloc]; omega), Go.heap_alloc_new])⟩
      have HK6 : Hid ((ks ++ [wr.heap.size]).length = a + 1) := by
        unfold Hid
        rw [List.length_append, HK.out]
        rfl
      clear ho6 hg6 ho2 hcn hb2 hA HK HC hbel
      go_wp2_with fail
      go_roundw
      case rel => exact ⟨a + 1, ks ++ [wr.heap.size], by omega, by go_num, HK6, ho7, hA6, hb6⟩
      case measure => simp [intOf]; omega
    · obtain rfl : a = 16 := by omega
      go_wp2_with fail
      go_ret
      exact ⟨_, ks, rfl, HK.out, ho, hA, hbel⟩
end Go.Proofs.YtmmkmkaannlkhaaGreatDoor

namespace Go.Proofs.YtmmkmkaannlkhaaGreatDoor
open Go.RowKit
set_option linter.unusedVariables false

theorem field1_any (b : Nat) (w : World) : Calls Tryz.prog 80 #[.pointer (some ⟨b, 0, none⟩)] w fun e w' => e = .returned (.pointer (some ⟨b, 0, none⟩)) ∧ w' = w := by
  go_enter Tryz.func80, Tryz.ntmps80
  go_wp2
  go_ret
  exact ⟨rfl, rfl⟩

theorem field2_any (b : Nat) (w : World) : Calls Tryz.prog 81 #[.pointer (some ⟨b, 0, none⟩)] w fun e w' => e = .returned (.pointer (some ⟨b, 1, none⟩)) ∧ w' = w := by
  go_enter Tryz.func81, Tryz.ntmps81
  go_wp2
  go_ret
  exact ⟨rfl, rfl⟩

theorem field3_any (b : Nat) (w : World) : Calls Tryz.prog 82 #[.pointer (some ⟨b, 0, none⟩)] w fun e w' => e = .returned (.pointer (some ⟨b, 2, none⟩)) ∧ w' = w := by
  go_enter Tryz.func82, Tryz.ntmps82
  go_wp2
  go_ret
  exact ⟨rfl, rfl⟩

theorem field4_any (b : Nat) (w : World) : Calls Tryz.prog 83 #[.pointer (some ⟨b, 0, none⟩)] w fun e w' => e = .returned (.pointer (some ⟨b, 4, none⟩)) ∧ w' = w := by
  go_enter Tryz.func83, Tryz.ntmps83
  go_wp2
  go_ret
  exact ⟨rfl, rfl⟩

theorem field5_any (b : Nat) (w : World) : Calls Tryz.prog 84 #[.pointer (some ⟨b, 0, none⟩)] w fun e w' => e = .returned (.pointer (some ⟨b, 5, none⟩)) ∧ w' = w := by
  go_enter Tryz.func84, Tryz.ntmps84
  go_wp2
  go_ret
  exact ⟨rfl, rfl⟩

theorem field6_any (b : Nat) (w : World) : Calls Tryz.prog 85 #[.pointer (some ⟨b, 0, none⟩)] w fun e w' => e = .returned (.pointer (some ⟨b, 6, none⟩)) ∧ w' = w := by
  go_enter Tryz.func85, Tryz.ntmps85
  go_wp2
  go_ret
  exact ⟨rfl, rfl⟩

theorem field7_any (b : Nat) (w : World) : Calls Tryz.prog 86 #[.pointer (some ⟨b, 0, none⟩)] w fun e w' => e = .returned (.pointer (some ⟨b, 7, none⟩)) ∧ w' = w := by
  go_enter Tryz.func86, Tryz.ntmps86
  go_wp2
  go_ret
  exact ⟨rfl, rfl⟩

theorem field8_any (b : Nat) (w : World) : Calls Tryz.prog 87 #[.pointer (some ⟨b, 0, none⟩)] w fun e w' => e = .returned (.pointer (some ⟨b, 8, none⟩)) ∧ w' = w := by
  go_enter Tryz.func87, Tryz.ntmps87
  go_wp2
  go_ret
  exact ⟨rfl, rfl⟩

theorem field9_any (b : Nat) (w : World) : Calls Tryz.prog 88 #[.pointer (some ⟨b, 0, none⟩)] w fun e w' => e = .returned (.pointer (some ⟨b, 9, none⟩)) ∧ w' = w := by
  go_enter Tryz.func88, Tryz.ntmps88
  go_wp2
  go_ret
  exact ⟨rfl, rfl⟩

set_option maxHeartbeats 1000000 in
theorem field10_any (b k a g off cap : Nat) (w : World) (ha : a < 16) (hk : w.cell? ⟨k, 0, none⟩ = some (.int .i64 (a : Int))) (hb : w.cell? ⟨b, 3, none⟩ = some (.slice (some ⟨g, off, none⟩) 16 cap)) : Calls Tryz.prog 89 #[.pointer (some ⟨b, 0, none⟩), .pointer (some ⟨k, 0, none⟩)] w fun e w' => e = .returned (.pointer (some ⟨g, off + a, none⟩)) ∧ ∃ n, w' = w.drewN n := by
  have h1 : (a : Int) < 16 := by omega
  have h0 : (0 : Int) ≤ (a : Int) := by omega
  go_enter Tryz.func89, Tryz.ntmps89
  go_wp2_with fail
  go_quiet (fail)
  go_wp2_with fail
  go_ret
  exact ⟨rfl, _, rfl⟩
end Go.Proofs.YtmmkmkaannlkhaaGreatDoor

namespace Go.Proofs.YtmmkmkaannlkhaaGreatDoor
open Go.RowKit
set_option linter.unusedVariables false

theorem fieldT1_any (b o : Nat) (w : World) : Calls Tryz.prog 119 #[.pointer (some ⟨b, o, none⟩)] w fun e w' => e = .returned (.pointer (some ⟨b, o + 10, none⟩)) ∧ w' = w := by
  go_enter Tryz.func119, Tryz.ntmps119
  go_wp2
  go_ret
  exact ⟨rfl, rfl⟩
theorem fieldT2_any (b o : Nat) (w : World) : Calls Tryz.prog 120 #[.pointer (some ⟨b, o, none⟩)] w fun e w' => e = .returned (.pointer (some ⟨b, o + 11, none⟩)) ∧ w' = w := by
  go_enter Tryz.func120, Tryz.ntmps120
  go_wp2
  go_ret
  exact ⟨rfl, rfl⟩
def textF : List Value := [.func (.func 119) #[] #[], .func (.func 120) #[] #[]]
theorem opTexts_any (w : World) : Calls Tryz.prog 115 #[] w fun e w' => e = .returned (.slice (some ⟨w.heap.size, 0, none⟩) 2 2) ∧ w' = w.alloc (.cells textF.toArray 148) := by
  go_enter Tryz.func115, Tryz.ntmps115
  go_wp2
  go_ret
  exact ⟨rfl, rfl⟩
theorem acts_on {w w' : World} {B : Nat} {ks : List Nat} (h : Acts w B ks) (hb : ∀ k, B ≤ k → k < w.heap.size → w'.heap[k]? = w.heap[k]?) : Acts w' B ks := fun a k hk => by
  obtain ⟨h1, h2⟩ := h a k hk
  exact ⟨h1, (hb k h1 (Array.getElem?_eq_some_iff.1 h2).1).trans h2⟩
theorem ownAllocC {e : TypeId} {w : World} {B : Nat} {v : Value} {cs : List Value} (h : Own e w B v cs) (o : Obj) : Own e (w.alloc o) B v cs := World.ownsRow.alloc h o

end Go.Proofs.YtmmkmkaannlkhaaGreatDoor

namespace Go.Proofs.YtmmkmkaannlkhaaGreatDoor
open Go.RowKit
set_option linter.unusedVariables false

theorem opAt_range {w : World} {g o : Nat} {x : Ov} (h : OpAt w g o x) : w.rangeAt g o x.cs := by
  intro j u hj
  unfold Ov.cs at hj
  match j with
  | 0 => cases hj; exact h.c0
  | 1 => cases hj; exact h.c1
  | 2 => cases hj; exact h.c2
  | 3 => cases hj; exact h.c3
  | 4 => cases hj; exact h.c4
  | 5 => cases hj; exact h.c5
  | 6 => cases hj; exact h.c6
  | 7 => cases hj; exact h.c7
  | 8 => cases hj; exact h.c8
  | 9 => cases hj; exact h.c9
  | 10 => cases hj; exact h.c10
  | 11 => cases hj; exact h.c11
  | j + 12 => simp at hj
theorem infoOpB (x : Ov) : (Tryz.prog.info? 29).map (·.size) = some x.cs.length := by unfold Ov.cs; kernel_rfl

/-- An operation in a block of its own. -/
def OpBlk (W : World) (B : Nat) (x : Ov) : Prop := W.heap[B]? = some (.cells x.cs.toArray 29 (0, 0))
theorem OpBlk.cells {W : World} {B : Nat} {x : Ov} (h : OpBlk W B x) : W.cell? ⟨B, 1, none⟩ = some (.int .i64 x.s) ∧ W.cell? ⟨B, 7, none⟩ = some (.int .i64 x.u) := by
  constructor <;> simp [World.cell?, show W.heap[B]? = _ from h, Ov.cs]
theorem opBlk_range {W : World} {B : Nat} {x : Ov} (h : OpBlk W B x) : W.rangeAt B 0 x.cs := by
  intro j u hj
  unfold World.cell?
  rw [Nat.zero_add, show W.heap[(⟨B, j, none⟩ : Addr).block]? = some (.cells x.cs.toArray 29 (0, 0)) from h]
  simpa using hj
theorem dv_slice {C : Nat} {w : World} {v : Value} {L : List Ov} (h : RdO C w v L) : ∀ i, ∃ a l c, (ovAt L i).dv = .slice a l c := by
  intro i
  by_cases hi : i < L.length
  · have := h.2 _ (ovAt_mem hi)
    obtain ⟨a, c, e, _⟩ := this
    exact ⟨_, _, _, e⟩
  · unfold ovAt
    rw [List.getD_eq_getElem?_getD, List.getElem?_eq_none (by omega)]
    exact ⟨_, _, _, rfl⟩
theorem opNew (w : World) (x : Ov) : ∀ j u, x.cs[j]? = some u → (w.alloc (.cells #[.int .i64 x.a, .int .i64 x.s, .int .i64 x.t, x.dv, .int .i64 x.k, .int .i64 x.o, .int .i64 x.n, .int .i64 x.u, .int .i64 x.pt, .int .i64 x.pa, .string x.ky, .string x.tx] 29)).cell? ((⟨w.heap.size, 0, none⟩ : Addr).add j) = some u := by
  intro j u h
  rw [Addr.add_mid, Nat.zero_add]
  refine cell_made (Below.refl _ _) (k := j) ?_
  rw [← h, ← List.getElem?_toArray]
  rfl
end Go.Proofs.YtmmkmkaannlkhaaGreatDoor

namespace Go.Proofs.YtmmkmkaannlkhaaGreatDoor
open Go.RowKit
set_option linter.unusedVariables false

/-- A piece of operations that can be read. -/
theorem RdO.cut {C : Nat} {w : World} {ao : Option Addr} {n cap : Nat} {L : List Ov} (h : RdO C w (.slice ao n cap) L) (f m : Nat) (hf : f ≤ L.length) (hm : m ≤ L.length - f) :
    RdO C w (.slice (if cap = f then ao else ao.map (·.add (f * 12))) m (cap - f)) ((L.drop f).take m) := by
  obtain ⟨⟨ao1, cap1, e, hl, hx, hz, h⟩, hd⟩ := h
  simp only [Value.slice.injEq] at e
  obtain ⟨rfl, rfl, rfl⟩ := e
  have hlen : ((L.drop f).take m).length = m := by rw [List.length_take, List.length_drop]; omega
  refine ⟨⟨_, cap - f, by rw [hlen], by rw [hlen]; omega, by omega, fun hno => ?_, fun hpos => ?_⟩, fun x hx => hd x (List.mem_of_mem_drop (List.mem_of_mem_take hx))⟩
  · split at hno
    · omega
    · cases ao with
      | none => have := hz rfl; omega
      | some a => simp at hno
  · rw [hlen] at hpos
    obtain ⟨g, off, rfl, hlt, hr⟩ := h (by omega)
    rw [if_neg (by omega)]
    refine ⟨g, off + f * 12, by rw [Option.map_some, Addr.add_lit], hlt, fun k hk => ?_⟩
    rw [hlen] at hk
    have h1 := hr (f + k) (by omega)
    have e1 : ovAt ((L.drop f).take m) k = ovAt L (f + k) := by
      unfold ovAt
      simp only [List.getD_eq_getElem?_getD]
      rw [List.getElem?_take, if_pos hk, List.getElem?_drop]
    rw [e1, show off + f * 12 + k * 12 = off + (f + k) * 12 by omega]
    exact h1
end Go.Proofs.YtmmkmkaannlkhaaGreatDoor
