/- An operation's twelve cells as a range. The code's opNumbers: twenty-five functions, each of which gives the place of a number of an operation. The functions of opNumbers: the place of a number of an operation that lies in block b. The code's opTexts and logColumns: twenty-seven columns, each a value behind an interface. -/
import Derived.Deep.MidRow
import Derived.BigQuiet
import Derived.Test.YtaglbacicpknaaaGreatQOpComesToOpBase
import Derived.Test.YtaglbacicpknaaaGreatQInfoToSignSpec
namespace Go.Proofs.YtaglbacicpknaaaGreat
open Go.RowKit
set_option linter.unusedVariables false

theorem opAt_range {w : World} {g o : Nat} {x : Ov} (h : OpAt w g o x) : w.rangeAt g o x.cs := by
  intro j u hj
  unfold Ov.cs at hj
  match j with
  | 0 => cases hj; exact h.c0
  | 1 => cases hj; exact h.c1
  | 2 => cases hj; exact h.c2
  | 3 => cases hj; exact h.c3
  | 4 => cases hj; exact h.c4
  | 5 => cases hj; exact h.c5
  | 6 => cases hj; exact h.c6
  | 7 => cases hj; exact h.c7
  | 8 => cases hj; exact h.c8
  | 9 => cases hj; exact h.c9
  | 10 => cases hj; exact h.c10
  | 11 => cases hj; exact h.c11
  | j + 12 => simp at hj
theorem infoOpB (x : Ov) : (Tryz.prog.info? 47).map (·.size) = some x.cs.length := by unfold Ov.cs; kernel_rfl

/-- An operation in a block of its own. -/
def OpBlk (W : World) (B : Nat) (x : Ov) : Prop := W.heap[B]? = some (.cells x.cs.toArray 47 (0, 0))
theorem OpBlk.cells {W : World} {B : Nat} {x : Ov} (h : OpBlk W B x) : W.cell? ⟨B, 1, none⟩ = some (.int .i64 x.s) ∧ W.cell? ⟨B, 7, none⟩ = some (.int .i64 x.u) := by
  constructor <;> simp [World.cell?, show W.heap[B]? = _ from h, Ov.cs]
theorem opBlk_range {W : World} {B : Nat} {x : Ov} (h : OpBlk W B x) : W.rangeAt B 0 x.cs := by
  intro j u hj
  unfold World.cell?
  rw [Nat.zero_add, show W.heap[(⟨B, j, none⟩ : Addr).block]? = some (.cells x.cs.toArray 47 (0, 0)) from h]
  simpa using hj
theorem dv_slice {C : Nat} {w : World} {v : Value} {L : List Ov} (h : RdO C w v L) : ∀ i, ∃ a l c, (ovAt L i).dv = .slice a l c := by
  intro i
  by_cases hi : i < L.length
  · have := h.2 _ (ovAt_mem hi)
    obtain ⟨a, c, e, _⟩ := this
    exact ⟨_, _, _, e⟩
  · unfold ovAt
    rw [List.getD_eq_getElem?_getD, List.getElem?_eq_none (by omega)]
    exact ⟨_, _, _, rfl⟩
theorem opNew (w : World) (x : Ov) : ∀ j u, x.cs[j]? = some u → (w.alloc (.cells #[.int .i64 x.a, .int .i64 x.s, .int .i64 x.t, x.dv, .int .i64 x.k, .int .i64 x.o, .int .i64 x.n, .int .i64 x.u, .int .i64 x.pt, .int .i64 x.pa, .string x.ky, .string x.tx] 47)).cell? ((⟨w.heap.size, 0, none⟩ : Addr).add j) = some u := by
  intro j u h
  rw [Addr.add_mid, Nat.zero_add]
  refine cell_made (Below.refl _ _) (k := j) ?_
  rw [← h, ← List.getElem?_toArray]
  rfl
end Go.Proofs.YtaglbacicpknaaaGreat

namespace Go.Proofs.YtaglbacicpknaaaGreat
open Go.RowKit
set_option linter.unusedVariables false

theorem infoF : (Tryz.prog.info? 79).map (fun i => (i.zero, i.size, i.bytes)) = some (some .nilFunc, 1, 8) := by kernel_rfl
/-- The functions of the first nine numbers. -/
def plainF : List Value := [.func (.func 67) #[] #[], .func (.func 68) #[] #[], .func (.func 69) #[] #[], .func (.func 70) #[] #[], .func (.func 71) #[] #[], .func (.func 72) #[] #[], .func (.func 73) #[] #[], .func (.func 74) #[] #[], .func (.func 75) #[] #[]]
/-- The function of a count: its actor stands in block k. -/
def cntF (k : Nat) : Value := .func (.func 76) #[] #[.pointer (some ⟨k, 0, none⟩)]
/-- The actors' blocks. -/
def Acts (w : World) (B : Nat) (ks : List Nat) : Prop := ∀ (a k : Nat), ks[a]? = some k → B ≤ k ∧ w.heap[k]? = some (.cells #[.int .i64 (a : Int)] 3)
theorem cellF (w : World) (x : Value) (t : TypeId) : ∀ j u, [x][j]? = some u → (w.alloc (.cells #[x] t)).cell? ((⟨w.heap.size, 0, none⟩ : Addr).add j) = some u := by
  intro j u h
  cases j with
  | zero =>
    simp only [List.getElem?_cons_zero, Option.some.injEq] at h
    subst h
    rw [Addr.add_mid]
    exact cell_made (Below.refl _ _) (k := 0) rfl
  | succ j => simp at h

theorem owns_clash {w : World} {B n k : Nat} {v : Value} {xs : List Value} {b : Int} (h : w.ownsRow B 79 1 v n xs) (hv : v.ownBlock = some k) (hk : w.heap[k]? = some (.cells #[.int .i64 b] 3)) : False := by
  obtain ⟨_, h2⟩ := h
  rcases h2 with ⟨e, _⟩ | ⟨g, cap, cur, e, _, hh, _⟩
  · rw [e] at hv; cases hv
  · rw [e] at hv
    cases hv
    rw [hh] at hk
    simp at hk

set_option maxHeartbeats 2000000 in
set_option maxRecDepth 100000 in
theorem opNumbers_any (w : World) :
    Calls Tryz.prog 40 #[] w fun e w' => ∃ r ks, e = .returned r ∧ ks.length = 16 ∧ Own 79 w' w.heap.size r (plainF ++ ks.map cntF) ∧ Acts w' w.heap.size ks ∧ Below w.heap.size w w' := by
  obtain ⟨i0, hi, hz0, hz1, hz2⟩ := info_parts infoF
  have HO0 : Hid (Own 79 (w.alloc (.cells plainF.toArray 79)) w.heap.size (.slice (some ⟨w.heap.size, 0, none⟩) 9 9) (plainF ++ ([] : List Nat).map cntF)) := own_lit w _ plainF 9 rfl (by unfold maxLen; omega)
  go_enter Tryz.func40, Tryz.ntmps40
  go_wp2_with fail
  go_loopw [1, 4] (fun tv ti wr => ∃ (a : Nat) (ks : List Nat), a ≤ 16 ∧ ti = .int .i64 (a : Int) ∧ Hid (ks.length = a) ∧ Own 79 wr w.heap.size tv (plainF ++ ks.map cntF) ∧ Acts wr w.heap.size ks ∧ Below w.heap.size w wr) (fun _ ti _ => 16 - (intOf ti).toNat)
  case atStart => exact ⟨0, [], Nat.zero_le _, rfl, rfl, HO0.out, fun a k h => by simp at h, below_alloc _ _⟩
  case round =>
    clear HO0
    obtain ⟨a, ks, ha, rfl, HK, ho, hA, hbel⟩ := hrel
    by_cases hlt : a < 16
    · have hai : (a : Int) < 16 := by omega
      have hln : (plainF ++ ks.map cntF).length = 9 + a := by rw [List.length_append, List.length_map, HK.out]; rfl
      obtain ⟨va, vc, e, -⟩ := ho.slice
      rw [hln] at e
      subst e
      have ho' : wr.ownsRow w.heap.size 79 1 (.slice va (9 + a) vc) (9 + a) (plainF ++ ks.map cntF) := by
        unfold Own at ho
        rwa [hln] at ho
      have hsz := hbel.size
      have hbk := ho.lt
      have HC : Hid (∀ w', Below (wr.alloc (.cells #[.int .i64 (a : Int)] 3)).heap.size (wr.alloc (.cells #[.int .i64 (a : Int)] 3)) w' → w'.cell? ⟨wr.heap.size, 0, none⟩ = some (.int .i64 (a : Int))) := fun w' h => cell_made h (k := 0) rfl
      have hcn := cellF (wr.alloc (.cells #[.int .i64 (a : Int)] 3)) (.func (.func 76) #[] #[.pointer (some ⟨wr.heap.size, 0, none⟩)]) 79
      simp only [World.size_alloc] at hcn
      have ho2 := World.ownsRow.alloc (World.ownsRow.alloc ho' (.cells #[.int .i64 (a : Int)] 3)) (.cells #[.func (.func 76) #[] #[.pointer (some ⟨wr.heap.size, 0, none⟩)]] 79)
      have hb2 := below_then (below_then hbel (.cells #[.int .i64 (a : Int)] 3)) (.cells #[.func (.func 76) #[] #[.pointer (some ⟨wr.heap.size, 0, none⟩)]] 79)
      clear ho ho' hln
      go_wp2_with (at_builtin; refine wpList_append_own _ rfl _ _ 77 rfl w.heap.size 79 i0 .nilFunc 1 8 Tryz.underlying77 hi hz0 hz1 hz2 rfl (by decide) _ (9 + a) _ rfl ho2 ⟨wr.heap.size + 1, 0, none⟩ 1 1 [.func (.func 76) #[] #[.pointer (some ⟨wr.heap.size, 0, none⟩)]] rfl rfl hcn (by simp [Value.oneCell']) (by unfold maxLen; omega) (by omega) (by simp only [World.size_alloc]; omega) ?_)
      intro v6 w6 ho6 hg6 _
      have ho7 : Own 79 w6 w.heap.size v6 (plainF ++ (ks ++ [wr.heap.size]).map cntF) := by
        rw [List.map_append]
        exact own_of ho6
      have hb6 : Below w.heap.size w w6 := hb2.grown hg6 (by simp only [World.size_alloc]; omega) hbk
      have hA6 : Acts w6 w.heap.size (ks ++ [wr.heap.size]) := by
        have hk6 : ∀ (b k : Nat), (((wr.alloc (.cells #[.int .i64 (a : Int)] 3)).alloc (.cells #[.func (.func 76) #[] #[.pointer (some ⟨wr.heap.size, 0, none⟩)]] 79)).heap[k]? = some (.cells #[.int .i64 (b : Int)] 3)) → w6.heap[k]? = some (.cells #[.int .i64 (b : Int)] 3) := fun b k h => (hg6.block k (Array.getElem?_eq_some_iff.1 h).1 (fun e => owns_clash ho2 e.symm h)).trans h
        intro b k hk
        by_cases hlb : b < ks.length
        · rw [List.getElem?_append_left hlb] at hk
          obtain ⟨h1, h2⟩ := hA b k hk
          have hlk := (Array.getElem?_eq_some_iff.1 h2).1
          exact ⟨h1, hk6 b k (by rw [Go.heap_alloc_old _ _ (by simp only [World.size_alloc]; omega), Go.heap_alloc_old _ _ hlk]; exact h2)⟩
        · rw [List.getElem?_append_right (by omega)] at hk
          have hb0 : b - ks.length = 0 := by
            have := (List.getElem?_eq_some_iff.1 hk).1
            simp at this
            omega
          rw [hb0] at hk
          simp only [List.getElem?_cons_zero, Option.some.injEq] at hk
          subst hk
          obtain rfl : b = a := by have := HK.out; omega
          exact ⟨hsz, hk6 b _ (by rw [Go.heap_alloc_old _ _ (by simp only [World.size_alloc]; omega), Go.heap_alloc_new])⟩
      have HK6 : Hid ((ks ++ [wr.heap.size]).length = a + 1) := by
        unfold Hid
        rw [List.length_append, HK.out]
        rfl
      clear ho6 hg6 ho2 hcn hb2 hA HK HC hbel
      go_wp2_with fail
      go_roundw
      case rel => exact ⟨a + 1, ks ++ [wr.heap.size], by omega, by go_num, HK6, ho7, hA6, hb6⟩
      case measure => simp [intOf]; omega
    · obtain rfl : a = 16 := by omega
      go_wp2_with fail
      go_ret
      exact ⟨_, ks, rfl, HK.out, ho, hA, hbel⟩
end Go.Proofs.YtaglbacicpknaaaGreat

namespace Go.Proofs.YtaglbacicpknaaaGreat
open Go.RowKit
set_option linter.unusedVariables false

theorem field1_any (b : Nat) (w : World) : Calls Tryz.prog 67 #[.pointer (some ⟨b, 0, none⟩)] w fun e w' => e = .returned (.pointer (some ⟨b, 0, none⟩)) ∧ w' = w := by
  go_enter Tryz.func67, Tryz.ntmps67
  go_wp2
  go_ret
  exact ⟨rfl, rfl⟩

theorem field2_any (b : Nat) (w : World) : Calls Tryz.prog 68 #[.pointer (some ⟨b, 0, none⟩)] w fun e w' => e = .returned (.pointer (some ⟨b, 1, none⟩)) ∧ w' = w := by
  go_enter Tryz.func68, Tryz.ntmps68
  go_wp2
  go_ret
  exact ⟨rfl, rfl⟩

theorem field3_any (b : Nat) (w : World) : Calls Tryz.prog 69 #[.pointer (some ⟨b, 0, none⟩)] w fun e w' => e = .returned (.pointer (some ⟨b, 2, none⟩)) ∧ w' = w := by
  go_enter Tryz.func69, Tryz.ntmps69
  go_wp2
  go_ret
  exact ⟨rfl, rfl⟩

theorem field4_any (b : Nat) (w : World) : Calls Tryz.prog 70 #[.pointer (some ⟨b, 0, none⟩)] w fun e w' => e = .returned (.pointer (some ⟨b, 4, none⟩)) ∧ w' = w := by
  go_enter Tryz.func70, Tryz.ntmps70
  go_wp2
  go_ret
  exact ⟨rfl, rfl⟩

theorem field5_any (b : Nat) (w : World) : Calls Tryz.prog 71 #[.pointer (some ⟨b, 0, none⟩)] w fun e w' => e = .returned (.pointer (some ⟨b, 5, none⟩)) ∧ w' = w := by
  go_enter Tryz.func71, Tryz.ntmps71
  go_wp2
  go_ret
  exact ⟨rfl, rfl⟩

theorem field6_any (b : Nat) (w : World) : Calls Tryz.prog 72 #[.pointer (some ⟨b, 0, none⟩)] w fun e w' => e = .returned (.pointer (some ⟨b, 6, none⟩)) ∧ w' = w := by
  go_enter Tryz.func72, Tryz.ntmps72
  go_wp2
  go_ret
  exact ⟨rfl, rfl⟩

theorem field7_any (b : Nat) (w : World) : Calls Tryz.prog 73 #[.pointer (some ⟨b, 0, none⟩)] w fun e w' => e = .returned (.pointer (some ⟨b, 7, none⟩)) ∧ w' = w := by
  go_enter Tryz.func73, Tryz.ntmps73
  go_wp2
  go_ret
  exact ⟨rfl, rfl⟩

theorem field8_any (b : Nat) (w : World) : Calls Tryz.prog 74 #[.pointer (some ⟨b, 0, none⟩)] w fun e w' => e = .returned (.pointer (some ⟨b, 8, none⟩)) ∧ w' = w := by
  go_enter Tryz.func74, Tryz.ntmps74
  go_wp2
  go_ret
  exact ⟨rfl, rfl⟩

theorem field9_any (b : Nat) (w : World) : Calls Tryz.prog 75 #[.pointer (some ⟨b, 0, none⟩)] w fun e w' => e = .returned (.pointer (some ⟨b, 9, none⟩)) ∧ w' = w := by
  go_enter Tryz.func75, Tryz.ntmps75
  go_wp2
  go_ret
  exact ⟨rfl, rfl⟩

set_option maxHeartbeats 1000000 in
theorem field10_any (b k a g off cap : Nat) (w : World) (ha : a < 16) (hk : w.cell? ⟨k, 0, none⟩ = some (.int .i64 (a : Int))) (hb : w.cell? ⟨b, 3, none⟩ = some (.slice (some ⟨g, off, none⟩) 16 cap)) : Calls Tryz.prog 76 #[.pointer (some ⟨b, 0, none⟩), .pointer (some ⟨k, 0, none⟩)] w fun e w' => e = .returned (.pointer (some ⟨g, off + a, none⟩)) ∧ ∃ n, w' = w.drewN n := by
  have h1 : (a : Int) < 16 := by omega
  have h0 : (0 : Int) ≤ (a : Int) := by omega
  go_enter Tryz.func76, Tryz.ntmps76
  go_wp2_with fail
  go_quiet (fail)
  go_wp2_with fail
  go_ret
  exact ⟨rfl, _, rfl⟩
end Go.Proofs.YtaglbacicpknaaaGreat

namespace Go.Proofs.YtaglbacicpknaaaGreat
open Go.RowKit
set_option linter.unusedVariables false

theorem fieldT1_any (b o : Nat) (w : World) : Calls Tryz.prog 84 #[.pointer (some ⟨b, o, none⟩)] w fun e w' => e = .returned (.pointer (some ⟨b, o + 10, none⟩)) ∧ w' = w := by
  go_enter Tryz.func84, Tryz.ntmps84
  go_wp2
  go_ret
  exact ⟨rfl, rfl⟩
theorem fieldT2_any (b o : Nat) (w : World) : Calls Tryz.prog 85 #[.pointer (some ⟨b, o, none⟩)] w fun e w' => e = .returned (.pointer (some ⟨b, o + 11, none⟩)) ∧ w' = w := by
  go_enter Tryz.func85, Tryz.ntmps85
  go_wp2
  go_ret
  exact ⟨rfl, rfl⟩
def textF : List Value := [.func (.func 84) #[] #[], .func (.func 85) #[] #[]]
theorem opTexts_any (w : World) : Calls Tryz.prog 43 #[] w fun e w' => e = .returned (.slice (some ⟨w.heap.size, 0, none⟩) 2 2) ∧ w' = w.alloc (.cells textF.toArray 88) := by
  go_enter Tryz.func43, Tryz.ntmps43
  go_wp2
  go_ret
  exact ⟨rfl, rfl⟩
/-- A column of numbers, of texts. -/
def colI (F : Value) : Value := .iface 85 (.agg #[F, .func (.func 41) #[] #[], .func (.func 42) #[] #[]])
def colT (F : Value) : Value := .iface 93 (.agg #[F, .func (.func 44) #[] #[], .func (.func 45) #[] #[]])
theorem infoC : (Tryz.prog.info? 54).map (fun i => (i.zero, i.size, i.bytes)) = some (some .nilIface, 1, 16) := by kernel_rfl
theorem acts_on {w w' : World} {B : Nat} {ks : List Nat} (h : Acts w B ks) (hb : ∀ k, B ≤ k → k < w.heap.size → w'.heap[k]? = w.heap[k]?) : Acts w' B ks := fun a k hk => by
  obtain ⟨h1, h2⟩ := h a k hk
  exact ⟨h1, (hb k h1 (Array.getElem?_eq_some_iff.1 h2).1).trans h2⟩
theorem rowC_clash {w : World} {B n k : Nat} {v : Value} {xs : List Value} {cs : Array Value} {T : TypeId} {fr : Nat × Nat} (h : w.ownsRow B 54 1 v n xs) (hv : v.ownBlock = some k) (hk : w.heap[k]? = some (.cells cs T fr)) : T = 54 := by
  obtain ⟨_, h2⟩ := h
  rcases h2 with ⟨e, _⟩ | ⟨g, cap, cur, e, _, hh, _⟩
  · rw [e] at hv; cases hv
  · rw [e] at hv
    cases hv
    rw [hh] at hk
    simp only [Option.some.injEq, Obj.cells.injEq] at hk
    exact hk.2.1.symm

theorem ownAllocC {e : TypeId} {w : World} {B : Nat} {v : Value} {cs : List Value} (h : Own e w B v cs) (o : Obj) : Own e (w.alloc o) B v cs := World.ownsRow.alloc h o

set_option maxHeartbeats 4000000 in
set_option maxRecDepth 100000 in
theorem logColumns_any (w : World) :
    Calls Tryz.prog 20 #[] w fun e w' => ∃ r ks, e = .returned r ∧ ks.length = 16 ∧ Own 54 w' w.heap.size r ((plainF ++ ks.map cntF).map colI ++ textF.map colT) ∧ Acts w' w.heap.size ks ∧ Below w.heap.size w w' := by
  obtain ⟨i0, hi, hz0, hz1, hz2⟩ := info_parts infoC
  go_enter Tryz.func20, Tryz.ntmps20
  go_wp2_with fail
  refine (opNumbers_any w).mono ?_
  rintro e w2 ⟨r2, ks, rfl, hkl, ho2, hA2, hb2⟩
  have HKL : Hid (ks.length = 16) := hkl
  clear hkl
  have hln2 : (plainF ++ ks.map cntF).length = 25 := by rw [List.length_append, List.length_map, HKL.out]; rfl
  obtain ⟨fg, fcap, e, hf1, hf2, hfc⟩ := ho2.some (by rw [hln2]; omega)
  rw [hln2] at e
  subst e
  have HFN : Hid (∀ F ∈ plainF ++ ks.map cntF, ∃ f cp, F = .func (.func f) #[] cp) := fun F hm => by
    rcases List.mem_append.1 hm with hm | hm
    · simp only [plainF, List.mem_cons, List.not_mem_nil, or_false] at hm
      rcases hm with rfl | rfl | rfl | rfl | rfl | rfl | rfl | rfl | rfl <;> exact ⟨_, _, rfl⟩
    · obtain ⟨kk, _, e⟩ := List.mem_map.1 hm
      exact ⟨_, _, e.symm⟩
  have HFC : Hid (∀ wr, Below w2.heap.size w2 wr → ∀ j, j < 25 → ∃ f cp, (plainF ++ ks.map cntF)[j]? = some (.func (.func f) #[] cp) ∧ wr.cell? ⟨fg, j, none⟩ = some (.func (.func f) #[] cp)) := fun wr h j hj => by
    have hg := List.getElem?_eq_getElem (l := plainF ++ ks.map cntF) (i := j) (by omega)
    obtain ⟨f, cp, e⟩ := HFN.out _ (List.getElem_mem (l := plainF ++ ks.map cntF) (n := j) (by omega))
    rw [e] at hg
    refine ⟨f, cp, hg, ?_⟩
    have h1 := hfc j _ hg
    rw [Addr.add_lit, Nat.zero_add] at h1
    rw [h.cell (p := ⟨fg, j, none⟩) hf2]
    exact h1
  have HLN : Hid ((plainF ++ ks.map cntF).length = 25) := hln2
  generalize hfs : plainF ++ ks.map cntF = FS at HFC HLN
  have HFS : Hid (plainF ++ ks.map cntF = FS) := hfs
  clear hfs hln2 hfc ho2
  have hs2 := hb2.size
  go_wp2_with fail
  go_loopw [1, 8] (fun tv ti wr => ∃ j : Nat, j ≤ 25 ∧ ti = .int .i64 (j : Int) ∧ Own 54 wr w2.heap.size tv ((FS.take j).map colI) ∧ Below w2.heap.size w2 wr) (fun _ ti _ => 25 - (intOf ti).toNat)
  case atStart => exact ⟨0, Nat.zero_le _, rfl, World.ownsRow_nil _ _ _ _, Below.refl _ _⟩
  case round =>
    obtain ⟨j, hj, rfl, ho, hbel⟩ := hrel
    have hsz := hbel.size
    by_cases hlt : j < 25
    · obtain ⟨f, cp, hF, c1⟩ := HFC.out wr hbel j hlt
      have hji : (j : Int) < 25 := by omega
      have HV : Hid ((FS.take (j + 1)).map colI = (FS.take j).map colI ++ [colI (.func (.func f) #[] cp)]) := by
        unfold Hid
        rw [List.take_add_one, hF, List.map_append]
        rfl
      obtain ⟨va, vc, e, -⟩ := ho.slice
      rw [List.length_map, List.length_take, HLN.out, Nat.min_eq_left (by omega)] at e
      subst e
      have ho' : wr.ownsRow w2.heap.size 54 1 (.slice va j vc) j ((FS.take j).map colI) := by
        unfold Own at ho
        rwa [List.length_map, List.length_take, HLN.out, Nat.min_eq_left (by omega)] at ho
      have hbk := ho.lt
      have hcn := cellF wr (.iface 85 (.agg #[.func (.func f) #[] cp, .func (.func 41) #[] #[], .func (.func 42) #[] #[]])) 54
      clear ho hF
      go_wp2_with (at_builtin; refine wpList_append_own _ rfl _ _ 51 rfl w2.heap.size 54 i0 .nilIface 1 16 Tryz.underlying51 hi hz0 hz1 hz2 rfl (by decide) _ j _ rfl (World.ownsRow.alloc ho' _) ⟨wr.heap.size, 0, none⟩ 1 1 [.iface 85 (.agg #[.func (.func f) #[] cp, .func (.func 41) #[] #[], .func (.func 42) #[] #[]])] rfl rfl hcn (by simp [Value.oneCell']) (by unfold maxLen; omega) (by omega) (by rw [World.size_alloc]; omega) ?_)
      intro v6 w6 ho6 hg6 _
      have ho7 : Own 54 w6 w2.heap.size v6 ((FS.take (j + 1)).map colI) := by
        rw [HV.out]
        first | exact own_of ho6 | (rw [List.map_take]; exact own_of ho6)
      have hb7 : Below w2.heap.size w2 w6 := (below_then hbel _).grown hg6 (by rw [World.size_alloc]; omega) hbk
      clear ho6 hg6 ho' hcn HV c1
      go_wp2_with fail
      go_roundw
      case rel => exact ⟨j + 1, by omega, by go_num, ho7, hb7⟩
      case measure => simp [intOf]; omega
    · obtain rfl : j = 25 := by omega
      obtain ⟨wo, hwo⟩ : ∃ wo : World, wo = wr := ⟨_, rfl⟩
      subst hwo
      rw [show ((25 : Nat) : Int) = 25 from rfl]
      rw [List.take_of_length_le (by rw [HLN.out]; omega)] at ho
      go_wp2_with fail
      refine (opTexts_any wo).mono ?_
      rintro e w4 ⟨rfl, hw4⟩
      obtain rfl := hw4.symm
      have HB4 : Hid ((wo.alloc (.cells textF.toArray 88)).heap[wo.heap.size]? = some (.cells textF.toArray 88)) := heap_alloc_new _ _
      have hO4 := ownAllocC ho (.cells textF.toArray 88)
      rw [← List.append_nil (FS.map colI)] at hO4
      have hW4 := below_then hbel (.cells textF.toArray 88)
      have hsW4 : wo.heap.size < (wo.alloc (.cells textF.toArray 88)).heap.size := by rw [World.size_alloc]; omega
      generalize (wo.alloc (.cells textF.toArray 88)) = w4 at HB4 hO4 hW4 hsW4 ⊢
      clear ho hbel HFC HFN
      go_wp2_with fail
      go_loopw [1, 21] (fun tv ti wr => ∃ j : Nat, j ≤ 2 ∧ ti = .int .i64 (j : Int) ∧ Own 54 wr w2.heap.size tv (FS.map colI ++ (textF.take j).map colT) ∧ wr.heap[wo.heap.size]? = some (.cells textF.toArray 88) ∧ wo.heap.size < wr.heap.size ∧ Below w2.heap.size w2 wr) (fun _ ti _ => 2 - (intOf ti).toNat)
      case atStart => exact ⟨0, Nat.zero_le _, rfl, hO4, HB4.out, hsW4, hW4⟩
      case round =>
        clear HB4 hO4 hW4 hsW4
        obtain ⟨j, hj, rfl, ho, hTB, hwo, hwx⟩ := hrel
        have hsz := hwx.size
        have hbk := ho.lt
        by_cases hlt : j < 2
        · obtain ⟨va, vc, e, -⟩ := ho.slice
          have hln : (FS.map colI ++ (textF.take j).map colT).length = 25 + j := by
            rw [List.length_append, List.length_map, List.length_map, List.length_take, HLN.out, show textF.length = 2 from rfl, Nat.min_eq_left (by omega)]
          rw [hln] at e
          subst e
          have ho' : wr.ownsRow w2.heap.size 54 1 (.slice va (25 + j) vc) (25 + j) (FS.map colI ++ (textF.take j).map colT) := by
            unfold Own at ho
            rwa [hln] at ho
          clear ho hln
          have hcs : j = 0 ∨ j = 1 := by omega
          clear hlt hj
          rcases hcs with rfl | rfl
          · have c1 : wr.cell? ⟨wo.heap.size, 0, none⟩ = some (.func (.func 84) #[] #[]) := by simp [World.cell?, hTB, textF]
            have hcn := cellF wr (.iface 93 (.agg #[.func (.func 84) #[] #[], .func (.func 44) #[] #[], .func (.func 45) #[] #[]])) 54
            go_wp2_with (at_builtin; refine wpList_append_own _ rfl _ _ 51 rfl w2.heap.size 54 i0 .nilIface 1 16 Tryz.underlying51 hi hz0 hz1 hz2 rfl (by decide) _ (25 + 0) _ rfl (World.ownsRow.alloc ho' _) ⟨wr.heap.size, 0, none⟩ 1 1 [.iface 93 (.agg #[.func (.func 84) #[] #[], .func (.func 44) #[] #[], .func (.func 45) #[] #[]])] rfl rfl hcn (by simp [Value.oneCell']) (by unfold maxLen; omega) (by omega) (by rw [World.size_alloc]; omega) ?_)
            intro v6 w6 ho6 hg6 _
            have ho7 : Own 54 w6 w2.heap.size v6 (FS.map colI ++ (textF.take (0 + 1)).map colT) := by
              have h := own_of ho6
              first | exact h | (simp only [List.append_assoc] at h; exact h) | (rw [List.append_assoc] at h; exact h)
            have hb7 : Below w2.heap.size w2 w6 := (below_then hwx _).grown hg6 (by rw [World.size_alloc]; omega) hbk
            have HTB : Hid (w6.heap[wo.heap.size]? = some (.cells textF.toArray 88)) := by
              have h1 : (wr.alloc (.cells #[.iface 93 (.agg #[.func (.func 84) #[] #[], .func (.func 44) #[] #[], .func (.func 45) #[] #[]])] 54)).heap[wo.heap.size]? = some (.cells textF.toArray 88) := (Go.heap_alloc_old wr _ hwo).trans hTB
              exact (hg6.block wo.heap.size (by rw [World.size_alloc]; omega) (fun e => absurd (rowC_clash (World.ownsRow.alloc ho' (.cells #[.iface 93 (.agg #[.func (.func 84) #[] #[], .func (.func 44) #[] #[], .func (.func 45) #[] #[]])] 54)) e.symm h1) (by decide))).trans h1
            have hs6 := hg6.size
            clear ho6 hg6 ho' hcn c1 hTB
            go_wp2_with fail
            go_roundw
            case rel => exact ⟨0 + 1, by omega, by go_num, ho7, HTB.out, by rw [World.size_alloc] at hs6; omega, hb7⟩
            case measure => first | (simp [intOf]; done) | (simp [intOf]; omega)
          · have c1 : wr.cell? ⟨wo.heap.size, 1, none⟩ = some (.func (.func 85) #[] #[]) := by simp [World.cell?, hTB, textF]
            have hcn := cellF wr (.iface 93 (.agg #[.func (.func 85) #[] #[], .func (.func 44) #[] #[], .func (.func 45) #[] #[]])) 54
            go_wp2_with (at_builtin; refine wpList_append_own _ rfl _ _ 51 rfl w2.heap.size 54 i0 .nilIface 1 16 Tryz.underlying51 hi hz0 hz1 hz2 rfl (by decide) _ (25 + 1) _ rfl (World.ownsRow.alloc ho' _) ⟨wr.heap.size, 0, none⟩ 1 1 [.iface 93 (.agg #[.func (.func 85) #[] #[], .func (.func 44) #[] #[], .func (.func 45) #[] #[]])] rfl rfl hcn (by simp [Value.oneCell']) (by unfold maxLen; omega) (by omega) (by rw [World.size_alloc]; omega) ?_)
            intro v6 w6 ho6 hg6 _
            have ho7 : Own 54 w6 w2.heap.size v6 (FS.map colI ++ (textF.take (1 + 1)).map colT) := by
              have h := own_of ho6
              first | exact h | (simp only [List.append_assoc] at h; exact h) | (rw [List.append_assoc] at h; exact h)
            have hb7 : Below w2.heap.size w2 w6 := (below_then hwx _).grown hg6 (by rw [World.size_alloc]; omega) hbk
            have HTB : Hid (w6.heap[wo.heap.size]? = some (.cells textF.toArray 88)) := by
              have h1 : (wr.alloc (.cells #[.iface 93 (.agg #[.func (.func 85) #[] #[], .func (.func 44) #[] #[], .func (.func 45) #[] #[]])] 54)).heap[wo.heap.size]? = some (.cells textF.toArray 88) := (Go.heap_alloc_old wr _ hwo).trans hTB
              exact (hg6.block wo.heap.size (by rw [World.size_alloc]; omega) (fun e => absurd (rowC_clash (World.ownsRow.alloc ho' (.cells #[.iface 93 (.agg #[.func (.func 85) #[] #[], .func (.func 44) #[] #[], .func (.func 45) #[] #[]])] 54)) e.symm h1) (by decide))).trans h1
            have hs6 := hg6.size
            clear ho6 hg6 ho' hcn c1 hTB
            go_wp2_with fail
            go_roundw
            case rel => exact ⟨1 + 1, by omega, by go_num, ho7, HTB.out, by rw [World.size_alloc] at hs6; omega, hb7⟩
            case measure => first | (simp [intOf]; done) | (simp [intOf]; omega)
        · obtain rfl : j = 2 := by omega
          go_wp2_with fail
          go_ret
          refine ⟨_, ks, rfl, HKL.out, ?_, acts_on hA2 (fun kk h1 h2 => hwx.block kk h2), below_seq hb2 hwx⟩
          rw [HFS.out]
          exact ho.mono hs2
end Go.Proofs.YtaglbacicpknaaaGreat
