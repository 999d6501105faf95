/- The functions of opNumbers at an operation of a row; the function of each column, and what it reads. The code's newOps: operations with room for what they count, parted from one arena. The code's copyOps: valid operations in new memory. Operations in a row whose numbers N are folded, one after the other. -/
import Derived.Test.YtaglbacicpknaaaGreatQEncode
import Derived.Test.YtaglbacicpknaaaGreatQOpEqToMarkAr
import Derived.Test.YtaglbacicpknaaaGreatQOpByMathToLogByMath
namespace Go.Proofs.YtaglbacicpknaaaGreat
open Go.RowKit
set_option linter.unusedVariables false

theorem fieldO1 (b o : Nat) (w : World) : Calls Tryz.prog 67 #[.pointer (some ⟨b, o, none⟩)] w fun e w' => e = .returned (.pointer (some ⟨b, o + 0, none⟩)) ∧ w' = w := by
  go_enter Tryz.func67, Tryz.ntmps67
  go_wp2
  go_ret
  exact ⟨rfl, rfl⟩
theorem enterO1 (args : Array Value) (w : World) : (callFunc 67 args).run Tryz.prog w = .ok (.enter 67 args) w := by go_simp

theorem fieldO2 (b o : Nat) (w : World) : Calls Tryz.prog 68 #[.pointer (some ⟨b, o, none⟩)] w fun e w' => e = .returned (.pointer (some ⟨b, o + 1, none⟩)) ∧ w' = w := by
  go_enter Tryz.func68, Tryz.ntmps68
  go_wp2
  go_ret
  exact ⟨rfl, rfl⟩
theorem enterO2 (args : Array Value) (w : World) : (callFunc 68 args).run Tryz.prog w = .ok (.enter 68 args) w := by go_simp

theorem fieldO3 (b o : Nat) (w : World) : Calls Tryz.prog 69 #[.pointer (some ⟨b, o, none⟩)] w fun e w' => e = .returned (.pointer (some ⟨b, o + 2, none⟩)) ∧ w' = w := by
  go_enter Tryz.func69, Tryz.ntmps69
  go_wp2
  go_ret
  exact ⟨rfl, rfl⟩
theorem enterO3 (args : Array Value) (w : World) : (callFunc 69 args).run Tryz.prog w = .ok (.enter 69 args) w := by go_simp

theorem fieldO4 (b o : Nat) (w : World) : Calls Tryz.prog 70 #[.pointer (some ⟨b, o, none⟩)] w fun e w' => e = .returned (.pointer (some ⟨b, o + 4, none⟩)) ∧ w' = w := by
  go_enter Tryz.func70, Tryz.ntmps70
  go_wp2
  go_ret
  exact ⟨rfl, rfl⟩
theorem enterO4 (args : Array Value) (w : World) : (callFunc 70 args).run Tryz.prog w = .ok (.enter 70 args) w := by go_simp

theorem fieldO5 (b o : Nat) (w : World) : Calls Tryz.prog 71 #[.pointer (some ⟨b, o, none⟩)] w fun e w' => e = .returned (.pointer (some ⟨b, o + 5, none⟩)) ∧ w' = w := by
  go_enter Tryz.func71, Tryz.ntmps71
  go_wp2
  go_ret
  exact ⟨rfl, rfl⟩
theorem enterO5 (args : Array Value) (w : World) : (callFunc 71 args).run Tryz.prog w = .ok (.enter 71 args) w := by go_simp

theorem fieldO6 (b o : Nat) (w : World) : Calls Tryz.prog 72 #[.pointer (some ⟨b, o, none⟩)] w fun e w' => e = .returned (.pointer (some ⟨b, o + 6, none⟩)) ∧ w' = w := by
  go_enter Tryz.func72, Tryz.ntmps72
  go_wp2
  go_ret
  exact ⟨rfl, rfl⟩
theorem enterO6 (args : Array Value) (w : World) : (callFunc 72 args).run Tryz.prog w = .ok (.enter 72 args) w := by go_simp

theorem fieldO7 (b o : Nat) (w : World) : Calls Tryz.prog 73 #[.pointer (some ⟨b, o, none⟩)] w fun e w' => e = .returned (.pointer (some ⟨b, o + 7, none⟩)) ∧ w' = w := by
  go_enter Tryz.func73, Tryz.ntmps73
  go_wp2
  go_ret
  exact ⟨rfl, rfl⟩
theorem enterO7 (args : Array Value) (w : World) : (callFunc 73 args).run Tryz.prog w = .ok (.enter 73 args) w := by go_simp

theorem fieldO8 (b o : Nat) (w : World) : Calls Tryz.prog 74 #[.pointer (some ⟨b, o, none⟩)] w fun e w' => e = .returned (.pointer (some ⟨b, o + 8, none⟩)) ∧ w' = w := by
  go_enter Tryz.func74, Tryz.ntmps74
  go_wp2
  go_ret
  exact ⟨rfl, rfl⟩
theorem enterO8 (args : Array Value) (w : World) : (callFunc 74 args).run Tryz.prog w = .ok (.enter 74 args) w := by go_simp

theorem fieldO9 (b o : Nat) (w : World) : Calls Tryz.prog 75 #[.pointer (some ⟨b, o, none⟩)] w fun e w' => e = .returned (.pointer (some ⟨b, o + 9, none⟩)) ∧ w' = w := by
  go_enter Tryz.func75, Tryz.ntmps75
  go_wp2
  go_ret
  exact ⟨rfl, rfl⟩
theorem enterO9 (args : Array Value) (w : World) : (callFunc 75 args).run Tryz.prog w = .ok (.enter 75 args) w := by go_simp

theorem enterO10 (args : Array Value) (w : World) : (callFunc 76 args).run Tryz.prog w = .ok (.enter 76 args) w := by go_simp
theorem enterT1 (args : Array Value) (w : World) : (callFunc 84 args).run Tryz.prog w = .ok (.enter 84 args) w := by go_simp
theorem enterT2 (args : Array Value) (w : World) : (callFunc 85 args).run Tryz.prog w = .ok (.enter 85 args) w := by go_simp
set_option maxHeartbeats 1000000 in
theorem fieldO10 (b o k a g off cap : Nat) (w : World) (ha : a < 16) (hk : w.cell? ⟨k, 0, none⟩ = some (.int .i64 (a : Int))) (hb : w.cell? ⟨b, o + 3, none⟩ = some (.slice (some ⟨g, off, none⟩) 16 cap)) : Calls Tryz.prog 76 #[.pointer (some ⟨b, o, none⟩), .pointer (some ⟨k, 0, none⟩)] w fun e w' => e = .returned (.pointer (some ⟨g, off + a, none⟩)) ∧ ∃ n, w' = w.drewN n := by
  have h1 : (a : Int) < 16 := by omega
  have h0 : (0 : Int) ≤ (a : Int) := by omega
  go_enter Tryz.func76, Tryz.ntmps76
  go_wp2_with fail
  go_quiet (fail)
  go_wp2_with fail
  go_ret
  exact ⟨rfl, _, rfl⟩
theorem drew0 {P : Program} {f : Nat} {args : Array Value} {w : World} {r : Value} (h : Calls P f args w fun e w' => e = .returned r ∧ w' = w) : Calls P f args w fun e w' => e = .returned r ∧ ∃ q, w' = w.drewN q := h.mono fun e w' ⟨h1, h2⟩ => ⟨h1, 0, h2⟩
/-- What serves to write column c of the operations M in block g. -/
structure ColAt (w : World) (g n c : Nat) (M : List Ov) (F : Value) : Prop where
  ex : ∃ (f : Nat) (cp : Array Value) (pb po : Nat → Nat), F = .func (.func f) #[] cp ∧ (∀ args wz, (callFunc f args).run Tryz.prog wz = .ok (.enter f args) wz) ∧ (∀ wz, Below w.heap.size w wz → ∀ i, i < n → Calls Tryz.prog f (#[.pointer (some ⟨g, i * 12, none⟩)] ++ cp) wz fun e w' => e = .returned (.pointer (some ⟨pb i, po i, none⟩)) ∧ ∃ q, w' = wz.drewN q) ∧ ∀ i, i < n → w.cell? ⟨pb i, po i, none⟩ = some (.int .i64 (rawAt c (ovAt M i)))
theorem rawAt_ds {x : Ov} {c : Nat} (h9 : 9 ≤ c) : rawAt c x = nth x.ds (c - 9) := by
  unfold rawAt nth
  simp only [List.getD_eq_getElem?_getD]
  rw [List.getElem?_append_right (by simp; omega)]
  simp
theorem colAt {w : World} {B g ga Bk : Nat} {M : List Ov} {ks : List Nat} (h : Ar w B g ga M) (hA : Acts w Bk ks) (hk : ks.length = 16) {c : Nat} (hc : c < 25) {F : Value} (hF : (plainF ++ ks.map cntF)[c]? = some F) : ColAt w g M.length c M F := by
  by_cases h9 : 9 ≤ c
  · obtain ⟨kk, hkk⟩ : ∃ kk, ks[c - 9]? = some kk := ⟨_, List.getElem?_eq_getElem (by omega)⟩
    rw [List.getElem?_append_right (show 9 ≤ c from h9), show c - plainF.length = c - 9 from rfl, List.getElem?_map, hkk] at hF
    simp only [Option.map_some, Option.some.injEq] at hF
    subst hF
    refine ⟨⟨_, _, fun _ => ga, fun i => i * 16 + (c - 9), rfl, enterO10, fun wz hz i hi => ?_, fun i hi => ?_⟩⟩
    · obtain ⟨h1, h2⟩ := hA (c - 9) kk hkk
      have hlk := (Array.getElem?_eq_some_iff.1 h2).1
      have e1 : wz.cell? ⟨kk, 0, none⟩ = some (.int .i64 ((c - 9 : Nat) : Int)) := by
        rw [hz.cell (p := ⟨kk, 0, none⟩) hlk]
        simp [World.cell?, h2]
      have e2 : wz.cell? ⟨g, i * 12 + 3, none⟩ = some (.slice (some ⟨ga, i * 16, none⟩) 16 16) := by
        rw [hz.cell (p := ⟨g, i * 12 + 3, none⟩) h.hi, (h.row i hi).c3, h.dvs i hi]
      exact fieldO10 g (i * 12) kk (c - 9) ga (i * 16) 16 wz (by omega) e1 e2
    · rw [rawAt_ds h9]
      refine h.are i hi (c - 9) _ ?_
      have := h.len i hi
      simp [nth, show c - 9 < (ovAt M i).ds.length by omega]
  · have hcs : c = 0 ∨ c = 1 ∨ c = 2 ∨ c = 3 ∨ c = 4 ∨ c = 5 ∨ c = 6 ∨ c = 7 ∨ c = 8 := by omega
    rcases hcs with rfl | rfl | rfl | rfl | rfl | rfl | rfl | rfl | rfl
    · obtain rfl : F = .func (.func 67) #[] #[] := (Option.some.inj hF).symm
      exact ⟨⟨_, _, fun _ => g, fun i => i * 12 + 0, rfl, enterO1, fun wz hz i hi => drew0 (fieldO1 g (i * 12) wz), fun i hi => (h.row i hi).c0⟩⟩
    · obtain rfl : F = .func (.func 68) #[] #[] := (Option.some.inj hF).symm
      exact ⟨⟨_, _, fun _ => g, fun i => i * 12 + 1, rfl, enterO2, fun wz hz i hi => drew0 (fieldO2 g (i * 12) wz), fun i hi => (h.row i hi).c1⟩⟩
    · obtain rfl : F = .func (.func 69) #[] #[] := (Option.some.inj hF).symm
      exact ⟨⟨_, _, fun _ => g, fun i => i * 12 + 2, rfl, enterO3, fun wz hz i hi => drew0 (fieldO3 g (i * 12) wz), fun i hi => (h.row i hi).c2⟩⟩
    · obtain rfl : F = .func (.func 70) #[] #[] := (Option.some.inj hF).symm
      exact ⟨⟨_, _, fun _ => g, fun i => i * 12 + 4, rfl, enterO4, fun wz hz i hi => drew0 (fieldO4 g (i * 12) wz), fun i hi => (h.row i hi).c4⟩⟩
    · obtain rfl : F = .func (.func 71) #[] #[] := (Option.some.inj hF).symm
      exact ⟨⟨_, _, fun _ => g, fun i => i * 12 + 5, rfl, enterO5, fun wz hz i hi => drew0 (fieldO5 g (i * 12) wz), fun i hi => (h.row i hi).c5⟩⟩
    · obtain rfl : F = .func (.func 72) #[] #[] := (Option.some.inj hF).symm
      exact ⟨⟨_, _, fun _ => g, fun i => i * 12 + 6, rfl, enterO6, fun wz hz i hi => drew0 (fieldO6 g (i * 12) wz), fun i hi => (h.row i hi).c6⟩⟩
    · obtain rfl : F = .func (.func 73) #[] #[] := (Option.some.inj hF).symm
      exact ⟨⟨_, _, fun _ => g, fun i => i * 12 + 7, rfl, enterO7, fun wz hz i hi => drew0 (fieldO7 g (i * 12) wz), fun i hi => (h.row i hi).c7⟩⟩
    · obtain rfl : F = .func (.func 74) #[] #[] := (Option.some.inj hF).symm
      exact ⟨⟨_, _, fun _ => g, fun i => i * 12 + 8, rfl, enterO8, fun wz hz i hi => drew0 (fieldO8 g (i * 12) wz), fun i hi => (h.row i hi).c8⟩⟩
    · obtain rfl : F = .func (.func 75) #[] #[] := (Option.some.inj hF).symm
      exact ⟨⟨_, _, fun _ => g, fun i => i * 12 + 9, rfl, enterO9, fun wz hz i hi => drew0 (fieldO9 g (i * 12) wz), fun i hi => (h.row i hi).c9⟩⟩
end Go.Proofs.YtaglbacicpknaaaGreat

namespace Go.Proofs.YtaglbacicpknaaaGreat
open Go.RowKit
set_option linter.unusedVariables false

def zOp (dv : Value) : Ov := ⟨0, 0, 0, dv, 0, 0, 0, 0, 0, 0, ByteArray.empty, ByteArray.empty, List.replicate 16 0⟩
def zC : Array Value := #[.int .i64 0, .int .i64 0, .int .i64 0, .slice none 0 0, .int .i64 0, .int .i64 0, .int .i64 0, .int .i64 0, .int .i64 0, .int .i64 0, .string ByteArray.empty, .string ByteArray.empty]
theorem zC_at (dv : Value) : ∀ j, j < 12 → j ≠ 3 → some (zC[j]!) = (zOp dv).cs[j]?
  | 0, _, _ => rfl | 1, _, _ => rfl | 2, _, _ => rfl | 3, _, h => absurd rfl h | 4, _, _ => rfl | 5, _, _ => rfl | 6, _, _ => rfl | 7, _, _ => rfl | 8, _, _ => rfl | 9, _, _ => rfl | 10, _, _ => rfl | 11, _, _ => rfl
  | n + 12, h, _ => absurd h (by omega)
theorem made_at (z : Array Value) (n s i j : Nat) (hz : z.size = s) (hi : i < n) (hj : j < s) : (madeCells z (n * s)).toList[i * s + j]? = some z[j]! := by
  have hlt : i * s + j < n * s := by
    have : (i + 1) * s ≤ n * s := Nat.mul_le_mul_right s hi
    rw [Nat.add_mul, Nat.one_mul] at this
    omega
  unfold madeCells
  rw [Array.toList_map, List.getElem?_map, Array.toList_range, List.getElem?_range hlt]
  show some z[(i * s + j) % z.size]! = _
  rw [hz, Nat.add_comm, Nat.add_mul_mod_self_right, Nat.mod_eq_of_lt hj]
/-- Rows as newOps makes them: the first k have their room. -/
structure Nw (w : World) (B g ga n k : Nat) : Prop where
  lo : B ≤ g
  lo' : B ≤ ga
  ne : ga ≠ g
  hi : g < w.heap.size
  hi' : ga < w.heap.size
  rth : w.there g 0 (n * 12)
  ath : w.there ga 0 (n * 16)
  zr : ∀ i, i < n → ∀ j, j < 12 → j ≠ 3 → w.cell? ⟨g, i * 12 + j, none⟩ = some (zC[j]!)
  dv : ∀ i, i < k → w.cell? ⟨g, i * 12 + 3, none⟩ = some (.slice (some ⟨ga, i * 16, none⟩) 16 16)
  za : ∀ j, j < n * 16 → w.cell? ⟨ga, j, none⟩ = some (.int .i64 0)
theorem Nw.set {w : World} {B g ga n k : Nat} (h : Nw w B g ga n k) (hk : k < n) : Nw (w.setCell ⟨g, k * 12 + 3, none⟩ (.slice (some ⟨ga, k * 16, none⟩) 16 16)) B g ga n (k + 1) := by
  have hne := h.ne
  have other : ∀ (b o : Nat), (b ≠ g ∨ o ≠ k * 12 + 3) → (w.setCell ⟨g, k * 12 + 3, none⟩ (.slice (some ⟨ga, k * 16, none⟩) 16 16)).cell? ⟨b, o, none⟩ = w.cell? ⟨b, o, none⟩ := fun b o ho => by
    rw [World.cell?_setCell_other]
    intro e
    simp only [Addr.mk.injEq] at e
    omega
  refine ⟨h.lo, h.lo', h.ne, by rw [World.size_setCell]; exact h.hi, by rw [World.size_setCell]; exact h.hi', World.there_setCells h.rth g _ [_], World.there_setCells h.ath g _ [_], fun i hi j hj h3 => (other _ _ (.inr (by omega))).trans (h.zr i hi j hj h3), fun i hi => ?_, fun j hj => (other _ _ (.inl hne)).trans (h.za j hj)⟩
  by_cases e : i = k
  · subst e
    have := h.rth (i * 12 + 3) (by omega)
    rw [Nat.zero_add] at this
    obtain ⟨z, hz⟩ := Option.isSome_iff_exists.1 this.1
    exact World.cell?_setCell_same _ _ _ hz
  · exact (other _ _ (.inr (by omega))).trans (h.dv i (by omega))
def zL (ga n : Nat) : List Ov := (List.range n).map fun i => zOp (.slice (some ⟨ga, i * 16, none⟩) 16 16)
theorem zL_len (ga n : Nat) : (zL ga n).length = n := by simp [zL]
theorem zL_at (ga n : Nat) {i : Nat} (h : i < n) : ovAt (zL ga n) i = zOp (.slice (some ⟨ga, i * 16, none⟩) 16 16) := by simp [ovAt, zL, h]
theorem Nw.ar {w : World} {B g ga n : Nat} (h : Nw w B g ga n n) : Ar w B g ga (zL ga n) := by
  refine ⟨h.lo, h.lo', h.ne, h.hi, h.hi', fun i hi => ?_, by rw [zL_len]; exact h.rth, fun i hi => ?_, fun i hi => ?_, fun i hi => ?_, by rw [zL_len]; exact h.ath⟩
  all_goals rw [zL_len] at hi
  all_goals rw [zL_at ga n hi]
  · refine opAt_cs fun j hj => ?_
    by_cases e : j = 3
    · subst e; exact h.dv i hi
    · rw [h.zr i hi j hj e, zC_at _ j hj e]
  · rfl
  · exact List.length_replicate
  · intro j v hj
    have hj1 := (List.getElem?_eq_some_iff.1 hj).1
    simp only [zOp, List.length_map, List.length_replicate] at hj1
    rw [h.za _ (by omega), ← hj, List.getElem?_map]
    show some (Value.int .i64 0) = Option.map (Value.int .i64) (List.replicate 16 (0 : Int))[j]?
    rw [List.getElem?_replicate, if_pos hj1]
    rfl

set_option maxHeartbeats 2000000 in
set_option maxRecDepth 100000 in
theorem newOps_any (w : World) (n : Nat) (hn : n ≤ 1024) :
    Calls Tryz.prog 39 #[.int .i64 (n : Int)] w fun e w' => ∃ ga, e = .returned (.slice (some ⟨w.heap.size, 0, none⟩) n n) ∧ Ar w' w.heap.size w.heap.size ga (zL ga n) ∧ Below w.heap.size w w' := by
  obtain ⟨i0, hi, hz0, hz1, hz2⟩ := info_parts infoOp
  obtain ⟨i1, hi1, hy0, hy1, hy2⟩ := info_parts info3
  have hw16 : (n : Int) * 16 < 9223372036854775808 := by omega
  go_enter Tryz.func39, Tryz.ntmps39
  go_wp2_with (at_make; refine wpList_make_full _ rfl _ _ 27 rfl w.heap.size 47 i0 (.agg #[.int .i64 0, .int .i64 0, .int .i64 0, .slice none 0 0, .int .i64 0, .int .i64 0, .int .i64 0, .int .i64 0, .int .i64 0, .int .i64 0, .string ByteArray.empty, .string ByteArray.empty]) 12 Tryz.underlying27 hi hz0 hz1 _ _ _ _ n rfl rfl rfl rfl (by rw [hz2]; omega) (by unfold maxLen; omega) (Nat.le_refl _) ?_)
  intro w1 hown hgrow
  have hb1 : Below w.heap.size w w1 := (Below.refl _ _).grown hgrow (Nat.le_refl _) (fun k hk => by cases hk)
  have hl1 := World.ownsRow.lt hown w.heap.size rfl
  have hc1 : ∀ i, i < n → ∀ j, j < 12 → w1.cell? ⟨w.heap.size, i * 12 + j, none⟩ = some (zC[j]!) := fun i hi' j hj => by
    rw [World.ownsRow.cellAt hown _ (by omega)]
    exact made_at zC n 12 i j rfl hi' hj
  have hf1 : ∀ j, w1.frozen? ⟨w.heap.size, j, none⟩ = false := fun j => World.ownsRow.frozenAt hown j
  clear hown hgrow
  go_wp2_with (at_make; refine wpList_make_full _ rfl _ _ 35 rfl w1.heap.size 3 i1 (.int .i64 0) 1 Tryz.underlying35 hi1 hy0 hy1 _ _ _ _ (n * 16) rfl rfl (by omega) (by omega) (by rw [hy2]; omega) (by unfold maxLen; omega) (Nat.le_refl _) ?_)
  intro w2 hown2 hgrow2
  have hb2 : Below w1.heap.size w1 w2 := (Below.refl _ _).grown hgrow2 (Nat.le_refl _) (fun k hk => by cases hk)
  have hl2 := World.ownsRow.lt hown2 w1.heap.size rfl
  have HN0 : Hid (Nw w2 w.heap.size w.heap.size w1.heap.size n 0 ∧ Below w.heap.size w w2) := by
    refine ⟨⟨Nat.le_refl _, hb1.size, by omega, by have := hb2.size; omega, hl2.2, fun j hj => ?_, fun j hj => ?_, fun i hi' j hj _ => (hb2.cell (p := ⟨w.heap.size, i * 12 + j, none⟩) hl1.2).trans (hc1 i hi' j hj), fun i hi' => absurd hi' (by omega), fun j hj => ?_⟩, hb1.trans (hb2.mono hb1.size)⟩
    · rw [Nat.zero_add]
      have e := hc1 (j / 12) (by omega) (j % 12) (by omega)
      rw [show j / 12 * 12 + j % 12 = j by omega] at e
      refine ⟨?_, ?_⟩
      · rw [hb2.cell (p := ⟨w.heap.size, j, none⟩) hl1.2, e]; rfl
      · have hf := hf1 j
        unfold World.frozen? at hf ⊢
        simp only at hf ⊢
        rw [hb2.block w.heap.size hl1.2]
        exact hf
    · rw [Nat.zero_add, World.ownsRow.cellAt hown2 _ (by omega)]
      have e := made_at #[.int .i64 0] (n * 16) 1 j 0 rfl hj (by omega)
      rw [Nat.mul_one, Nat.mul_one, Nat.add_zero] at e
      exact ⟨by rw [e]; rfl, World.ownsRow.frozenAt hown2 _⟩
    · rw [World.ownsRow.cellAt hown2 _ (by omega)]
      have e := made_at #[.int .i64 0] (n * 16) 1 j 0 rfl hj (by omega)
      rw [Nat.mul_one, Nat.mul_one, Nat.add_zero] at e
      rw [e]
      rfl
  clear hown2 hgrow2 hb2 hc1 hf1 hb1
  generalize w1.heap.size = ga at *
  go_wp2_with fail
  go_loopw [13] (fun ti wr => ∃ k : Nat, k ≤ n ∧ ti = .int .i64 (k : Int) ∧ Hid (Nw wr w.heap.size w.heap.size ga n k ∧ Below w.heap.size w wr)) (fun ti _ => n - (intOf ti).toNat)
  case atStart => exact ⟨0, Nat.zero_le _, rfl, HN0⟩
  case round =>
    clear HN0 hl1 hl2
    obtain ⟨k, hk, rfl, HI⟩ := hrel
    by_cases hlt : k < n
    · have j1 : (k : Int) < (n : Int) := by omega
      obtain ⟨h1, hb⟩ := HI.out
      have hth := h1.rth (k * 12 + 3) (by omega)
      rw [Nat.zero_add] at hth
      obtain ⟨z, c3⟩ := Option.isSome_iff_exists.1 hth.1
      have f3 := hth.2
      have HR : Hid (Nw (wr.setCell ⟨w.heap.size, k * 12 + 3, none⟩ (.slice (some ⟨ga, k * 16, none⟩) 16 16)) w.heap.size w.heap.size ga n (k + 1) ∧ Below w.heap.size w (wr.setCell ⟨w.heap.size, k * 12 + 3, none⟩ (.slice (some ⟨ga, k * 16, none⟩) 16 16))) := ⟨h1.set hlt, hb.setCell (p := ⟨w.heap.size, k * 12 + 3, none⟩) (Nat.le_refl _) _⟩
      clear HI h1 hb hth
      have h16 : (k + 1) * 16 - k * 16 = 16 := by omega
      go_wp2_with fail
      exact ⟨⟨k + 1, by omega, by go_num, HR⟩, by simp [intOf]; omega⟩
    · obtain rfl : k = n := by omega
      go_wp2_with fail
      go_ret
      exact ⟨ga, rfl, HI.out.1.ar, HI.out.2⟩
end Go.Proofs.YtaglbacicpknaaaGreat

namespace Go.Proofs.YtaglbacicpknaaaGreat
open Go.RowKit
set_option linter.unusedVariables false

/-- What an operation counts is written into its part of the arena. -/
theorem Ar.arena {w : World} {B g ga : Nat} {M : List Ov} (h : Ar w B g ga M) {k : Nat} (hk : k < M.length) (x : Ov) (hx : x = { ovAt M k with ds := x.ds }) (hl : x.ds.length = 16) : Ar (w.setCells ga (k * 16) (x.ds.map (Value.int .i64))) B g ga (M.set k x) := by
  have hne := h.ne
  have hlen : (x.ds.map (Value.int .i64)).length = 16 := by rw [List.length_map, hl]
  have hcs : x.cs = (ovAt M k).cs := by rw [hx]; rfl
  have hdv : x.dv = (ovAt M k).dv := by rw [hx]
  have og : ∀ o, (w.setCells ga (k * 16) (x.ds.map (Value.int .i64))).cell? ⟨g, o, none⟩ = w.cell? ⟨g, o, none⟩ := fun o => World.cell?_setCells_out ga _ _ w _ (fun e _ => absurd e.symm hne)
  refine ⟨h.lo, h.lo', h.ne, by rw [size_setCells]; exact h.hi, by rw [size_setCells]; exact h.hi', fun i hi => ?_, by rw [List.length_set]; exact World.there_setCells h.rth ga _ _, fun i hi => ?_, fun i hi => ?_, fun i hi => ?_, by rw [List.length_set]; exact World.there_setCells h.ath ga _ _⟩
  all_goals rw [List.length_set] at hi
  all_goals rw [ovAt_set hk]
  · refine opAt_cs fun j hj => ?_
    rw [og]
    by_cases e : i = k
    · subst e; rw [if_pos rfl, hcs]; exact (h.row i hi).cs j hj
    · rw [if_neg e]; exact (h.row i hi).cs j hj
  · by_cases e : i = k
    · subst e; rw [if_pos rfl, hdv]; exact h.dvs i hi
    · rw [if_neg e]; exact h.dvs i hi
  · by_cases e : i = k
    · rw [if_pos e]; exact hl
    · rw [if_neg e]; exact h.len i hi
  · by_cases e : i = k
    · subst e
      rw [if_pos rfl]
      refine World.rangeAt_setCells_same w ga (i * 16) _ (fun j hj => ?_)
      have := h.ath (i * 16 + j) (by omega)
      rwa [Nat.zero_add] at this
    · rw [if_neg e]
      refine World.rangeAt_setCells_apart (h.are i hi) ga (k * 16) _ (.inr ?_)
      rw [hlen, List.length_map, h.len i hi]
      omega
/-- An operation's cells are written. -/
theorem Ar.cells {w : World} {B g ga : Nat} {M : List Ov} (h : Ar w B g ga M) {k : Nat} (hk : k < M.length) (x : Ov) (hdv : x.dv = (ovAt M k).dv) (hds : x.ds = (ovAt M k).ds) : Ar (w.setCells g (k * 12) x.cs) B g ga (M.set k x) := by
  have hne := h.ne
  have hlen : x.cs.length = 12 := rfl
  have oa : ∀ o, (w.setCells g (k * 12) x.cs).cell? ⟨ga, o, none⟩ = w.cell? ⟨ga, o, none⟩ := fun o => World.cell?_setCells_out g _ _ w _ (fun e _ => absurd e hne)
  refine ⟨h.lo, h.lo', h.ne, by rw [size_setCells]; exact h.hi, by rw [size_setCells]; exact h.hi', fun i hi => ?_, by rw [List.length_set]; exact World.there_setCells h.rth g _ _, fun i hi => ?_, fun i hi => ?_, fun i hi => ?_, by rw [List.length_set]; exact World.there_setCells h.ath g _ _⟩
  all_goals rw [List.length_set] at hi
  all_goals rw [ovAt_set hk]
  · refine opAt_cs fun j hj => ?_
    by_cases e : i = k
    · subst e
      rw [if_pos rfl]
      have hs := World.rangeAt_setCells_same w g (i * 12) x.cs (fun j hj => by
        have := h.rth (i * 12 + j) (by omega)
        rwa [Nat.zero_add] at this)
      rw [List.getElem?_eq_getElem (by omega)]
      exact hs j _ (List.getElem?_eq_getElem (by omega))
    · rw [if_neg e, World.cell?_setCells_out g _ _ w _ (fun _ _ => by show i * 12 + j < k * 12 ∨ k * 12 + x.cs.length ≤ i * 12 + j; rw [hlen]; omega)]
      exact (h.row i hi).cs j hj
  · by_cases e : i = k
    · subst e; rw [if_pos rfl, hdv]; exact h.dvs i hi
    · rw [if_neg e]; exact h.dvs i hi
  · by_cases e : i = k
    · subst e; rw [if_pos rfl, hds]; exact h.len i hi
    · rw [if_neg e]; exact h.len i hi
  · intro j v hj
    rw [oa]
    by_cases e : i = k
    · subst e
      rw [if_pos rfl, hds] at hj
      exact h.are i hi j v hj
    · rw [if_neg e] at hj
      exact h.are i hi j v hj
/-- The first k are copies of those of L. -/
def cpL (ga : Nat) (L : List Ov) : Nat → List Ov
  | 0 => zL ga L.length
  | k + 1 => (cpL ga L k).set k { ovAt L k with dv := .slice (some ⟨ga, k * 16, none⟩) 16 16 }
theorem cpL_len (ga : Nat) (L : List Ov) : ∀ k, (cpL ga L k).length = L.length
  | 0 => zL_len ga _
  | k + 1 => by rw [cpL, List.length_set, cpL_len ga L k]
theorem cpL_at (ga : Nat) (L : List Ov) : ∀ k, k ≤ L.length → ∀ i, i < L.length → ovAt (cpL ga L k) i = if i < k then { ovAt L i with dv := .slice (some ⟨ga, i * 16, none⟩) 16 16 } else zOp (.slice (some ⟨ga, i * 16, none⟩) 16 16)
  | 0, _, i, hi => by rw [if_neg (by omega)]; exact zL_at ga _ hi
  | k + 1, hk, i, hi => by
    rw [cpL, ovAt_set (by rw [cpL_len]; omega)]
    by_cases e : i = k
    · subst e; rw [if_pos rfl, if_pos (by omega)]
    · rw [if_neg e, cpL_at ga L k (by omega) i hi]
      by_cases l : i < k
      · rw [if_pos l, if_pos (by omega)]
      · rw [if_neg l, if_neg (by omega)]
theorem cpL_same (ga : Nat) (L : List Ov) : SameL (cpL ga L L.length) L := ⟨cpL_len ga L _, fun k hk => by
  rw [cpL_at ga L _ (Nat.le_refl _) k hk, if_pos hk]
  exact ⟨rfl, rfl, rfl, rfl, rfl, rfl, rfl, rfl, rfl, rfl, rfl, rfl⟩⟩

set_option maxHeartbeats 4000000 in
set_option maxRecDepth 100000 in
theorem copyOps_any (C : Nat) (w : World) (v : Value) (L : List Ov) (hC : C ≤ w.heap.size) (hr : RdO C w v L) (hl : L.length ≤ 1024) (hd : ∀ x ∈ L, x.ds.length = 16) :
    Calls Tryz.prog 18 #[v] w fun e w' => ∃ ga, e = .returned (.slice (some ⟨w.heap.size, 0, none⟩) L.length L.length) ∧ Ar w' w.heap.size w.heap.size ga (cpL ga L L.length) ∧ Below w.heap.size w w' := by
  obtain ⟨⟨ao, cap, rfl, hcap, hmax, hnil, hrow⟩, hdv⟩ := hr
  go_enter Tryz.func18, Tryz.ntmps18
  go_wp2_with fail
  refine (newOps_any w L.length hl).mono ?_
  rintro e w1 ⟨ga, rfl, hA1, hb1⟩
  have HI0 : Hid (Ar w1 w.heap.size w.heap.size ga (cpL ga L 0) ∧ Below w.heap.size w w1) := ⟨hA1, hb1⟩
  clear hA1 hb1
  go_wp2_with fail
  go_loopw [12] (fun ti wr => ∃ k : Nat, k ≤ L.length ∧ ti = .int .i64 (k : Int) ∧ Hid (Ar wr w.heap.size w.heap.size ga (cpL ga L k) ∧ Below w.heap.size w wr)) (fun ti _ => L.length - (intOf ti).toNat)
  case atStart => exact ⟨0, Nat.zero_le _, rfl, HI0⟩
  case round =>
    clear HI0
    obtain ⟨k, hk, rfl, HI⟩ := hrel
    by_cases hlt : k < L.length
    · have j1 : (k : Int) < (L.length : Int) := by omega
      obtain ⟨hA, hB⟩ := HI.out
      have hsz := hB.size
      obtain ⟨g, off, rfl, hg, hcs⟩ := hrow (by omega)
      have hx := (hcs k hlt).below (hB.mono hC) hg
      have hxd := (hdv _ (ovAt_mem hlt)).below (hB.mono hC)
      have hdl := hd _ (ovAt_mem hlt)
      have hkl : k < (cpL ga L k).length := by rw [cpL_len]; exact hlt
      have hok := hA.row k hkl
      rw [cpL_at ga L k hk k hlt, if_neg (by omega)] at hok
      have r3 : wr.cell? ⟨w.heap.size, k * 12 + 3, none⟩ = some (.slice (some ⟨ga, k * 16, none⟩) 16 16) := hok.c3
      have hga := hA.hi'
      have hgg := hA.hi
      have HXE : Hid (cpL ga L (k + 1) = (cpL ga L k).set k { ovAt L k with dv := .slice (some ⟨ga, k * 16, none⟩) 16 16 }) := rfl
      have hk0 : ovAt (cpL ga L k) k = zOp (.slice (some ⟨ga, k * 16, none⟩) 16 16) := by rw [cpL_at ga L k hk k hlt, if_neg (by omega)]
      clear HI hcs hok
      generalize ovAt L k = x at *
      obtain ⟨xa, xs, xt, xdv, xk, xo, xn, xu, xpt, xpa, xky, xtx, xds⟩ := x
      obtain ⟨c0, c1, c2, c3, c4, c5, c6, c7, c8, c9, c10, c11⟩ := hx
      simp only at c0 c1 c2 c3 c4 c5 c6 c7 c8 c9 c10 c11 hxd hdl HXE
      obtain ⟨da, dc, hxv, hcap', hmax', hnil', hrr⟩ := hxd
      rw [List.length_map, hdl] at hrr hxv
      obtain ⟨gd, od, rfl, hgd, hdc⟩ := hrr (by omega)
      subst hxv
      have hbo : Below wr.heap.size wr ((wr.alloc (.cells #[.int .i64 xa, .int .i64 xs, .int .i64 xt, .slice (some ⟨gd, od, none⟩) 16 dc, .int .i64 xk, .int .i64 xo, .int .i64 xn, .int .i64 xu, .int .i64 xpt, .int .i64 xpa, .string xky, .string xtx] 47)).alloc (.cells #[.slice (some ⟨ga, k * 16, none⟩) 16 16] 44)) := below_then (below_alloc _ _) _
      have hAo := hA.below hbo
      have hsi : (Tryz.prog.info? 3).map (·.size) = some 1 := by kernel_rfl
      have hcp := fun ty => run_copy_cells (P := Tryz.prog) ((wr.alloc (.cells #[.int .i64 xa, .int .i64 xs, .int .i64 xt, .slice (some ⟨gd, od, none⟩) 16 dc, .int .i64 xk, .int .i64 xo, .int .i64 xn, .int .i64 xu, .int .i64 xpt, .int .i64 xpa, .string xky, .string xtx] 47)).alloc (.cells #[.slice (some ⟨ga, k * 16, none⟩) 16 16] 44)) 35 35 ty 3 ga (k * 16) 16 16 ⟨gd, od, none⟩ 16 dc (xds.map (Value.int .i64)) Tryz.underlying35 hsi (by rw [List.length_map, hdl]; rfl)
        (fun j u hj => by rw [Addr.add_mid, hbo.cell (p := ⟨gd, od + j, none⟩) (by show gd < wr.heap.size; omega)]; exact hdc j u hj)
        (fun j hj => by rw [List.length_map, hdl] at hj; have := hAo.ath (k * 16 + j) (by rw [cpL_len]; omega); rw [Nat.zero_add] at this; exact this.1)
        (fun j hj => by rw [List.length_map, hdl] at hj; have := hAo.ath (k * 16 + j) (by rw [cpL_len]; omega); rw [Nat.zero_add] at this; exact this.2)
        (fun u hu => by obtain ⟨y, _, rfl⟩ := List.mem_map.1 hu; rfl)
      have hne := hA.ne
      have og : ∀ (b o : Nat), b ≠ ga → (((wr.alloc (.cells #[.int .i64 xa, .int .i64 xs, .int .i64 xt, .slice (some ⟨gd, od, none⟩) 16 dc, .int .i64 xk, .int .i64 xo, .int .i64 xn, .int .i64 xu, .int .i64 xpt, .int .i64 xpa, .string xky, .string xtx] 47)).alloc (.cells #[.slice (some ⟨ga, k * 16, none⟩) 16 16] 44)).setCells ga (k * 16) (xds.map (Value.int .i64))).cell? ⟨b, o, none⟩ = ((wr.alloc (.cells #[.int .i64 xa, .int .i64 xs, .int .i64 xt, .slice (some ⟨gd, od, none⟩) 16 dc, .int .i64 xk, .int .i64 xo, .int .i64 xn, .int .i64 xu, .int .i64 xpt, .int .i64 xpa, .string xky, .string xtx] 47)).alloc (.cells #[.slice (some ⟨ga, k * 16, none⟩) 16 16] 44)).cell? ⟨b, o, none⟩ := fun b o hb => World.cell?_setCells_out ga _ _ _ _ (fun e _ => absurd e hb)
      obtain ⟨o0, o1, o2, o3, o4, o5, o6, o7, o8, o9, o10, o11⟩ := op_cells (w := wr) (w1 := ((wr.alloc (.cells #[.int .i64 xa, .int .i64 xs, .int .i64 xt, .slice (some ⟨gd, od, none⟩) 16 dc, .int .i64 xk, .int .i64 xo, .int .i64 xn, .int .i64 xu, .int .i64 xpt, .int .i64 xpa, .string xky, .string xtx] 47)).alloc (.cells #[.slice (some ⟨ga, k * 16, none⟩) 16 16] 44))) (below_alloc _ _)
      have HC3 : Hid ((((wr.alloc (.cells #[.int .i64 xa, .int .i64 xs, .int .i64 xt, .slice (some ⟨gd, od, none⟩) 16 dc, .int .i64 xk, .int .i64 xo, .int .i64 xn, .int .i64 xu, .int .i64 xpt, .int .i64 xpa, .string xky, .string xtx] 47)).alloc (.cells #[.slice (some ⟨ga, k * 16, none⟩) 16 16] 44)).setCells ga (k * 16) (xds.map (Value.int .i64))).cell? ⟨wr.heap.size, 0, none⟩ = some (.int .i64 xa) ∧ (((wr.alloc (.cells #[.int .i64 xa, .int .i64 xs, .int .i64 xt, .slice (some ⟨gd, od, none⟩) 16 dc, .int .i64 xk, .int .i64 xo, .int .i64 xn, .int .i64 xu, .int .i64 xpt, .int .i64 xpa, .string xky, .string xtx] 47)).alloc (.cells #[.slice (some ⟨ga, k * 16, none⟩) 16 16] 44)).setCells ga (k * 16) (xds.map (Value.int .i64))).cell? ⟨wr.heap.size, 1, none⟩ = some (.int .i64 xs) ∧ (((wr.alloc (.cells #[.int .i64 xa, .int .i64 xs, .int .i64 xt, .slice (some ⟨gd, od, none⟩) 16 dc, .int .i64 xk, .int .i64 xo, .int .i64 xn, .int .i64 xu, .int .i64 xpt, .int .i64 xpa, .string xky, .string xtx] 47)).alloc (.cells #[.slice (some ⟨ga, k * 16, none⟩) 16 16] 44)).setCells ga (k * 16) (xds.map (Value.int .i64))).cell? ⟨wr.heap.size, 2, none⟩ = some (.int .i64 xt) ∧ (((wr.alloc (.cells #[.int .i64 xa, .int .i64 xs, .int .i64 xt, .slice (some ⟨gd, od, none⟩) 16 dc, .int .i64 xk, .int .i64 xo, .int .i64 xn, .int .i64 xu, .int .i64 xpt, .int .i64 xpa, .string xky, .string xtx] 47)).alloc (.cells #[.slice (some ⟨ga, k * 16, none⟩) 16 16] 44)).setCells ga (k * 16) (xds.map (Value.int .i64))).cell? ⟨wr.heap.size, 3, none⟩ = some (.slice (some ⟨gd, od, none⟩) 16 dc) ∧ (((wr.alloc (.cells #[.int .i64 xa, .int .i64 xs, .int .i64 xt, .slice (some ⟨gd, od, none⟩) 16 dc, .int .i64 xk, .int .i64 xo, .int .i64 xn, .int .i64 xu, .int .i64 xpt, .int .i64 xpa, .string xky, .string xtx] 47)).alloc (.cells #[.slice (some ⟨ga, k * 16, none⟩) 16 16] 44)).setCells ga (k * 16) (xds.map (Value.int .i64))).cell? ⟨wr.heap.size, 4, none⟩ = some (.int .i64 xk) ∧ (((wr.alloc (.cells #[.int .i64 xa, .int .i64 xs, .int .i64 xt, .slice (some ⟨gd, od, none⟩) 16 dc, .int .i64 xk, .int .i64 xo, .int .i64 xn, .int .i64 xu, .int .i64 xpt, .int .i64 xpa, .string xky, .string xtx] 47)).alloc (.cells #[.slice (some ⟨ga, k * 16, none⟩) 16 16] 44)).setCells ga (k * 16) (xds.map (Value.int .i64))).cell? ⟨wr.heap.size, 5, none⟩ = some (.int .i64 xo) ∧ (((wr.alloc (.cells #[.int .i64 xa, .int .i64 xs, .int .i64 xt, .slice (some ⟨gd, od, none⟩) 16 dc, .int .i64 xk, .int .i64 xo, .int .i64 xn, .int .i64 xu, .int .i64 xpt, .int .i64 xpa, .string xky, .string xtx] 47)).alloc (.cells #[.slice (some ⟨ga, k * 16, none⟩) 16 16] 44)).setCells ga (k * 16) (xds.map (Value.int .i64))).cell? ⟨wr.heap.size, 6, none⟩ = some (.int .i64 xn) ∧ (((wr.alloc (.cells #[.int .i64 xa, .int .i64 xs, .int .i64 xt, .slice (some ⟨gd, od, none⟩) 16 dc, .int .i64 xk, .int .i64 xo, .int .i64 xn, .int .i64 xu, .int .i64 xpt, .int .i64 xpa, .string xky, .string xtx] 47)).alloc (.cells #[.slice (some ⟨ga, k * 16, none⟩) 16 16] 44)).setCells ga (k * 16) (xds.map (Value.int .i64))).cell? ⟨wr.heap.size, 7, none⟩ = some (.int .i64 xu) ∧ (((wr.alloc (.cells #[.int .i64 xa, .int .i64 xs, .int .i64 xt, .slice (some ⟨gd, od, none⟩) 16 dc, .int .i64 xk, .int .i64 xo, .int .i64 xn, .int .i64 xu, .int .i64 xpt, .int .i64 xpa, .string xky, .string xtx] 47)).alloc (.cells #[.slice (some ⟨ga, k * 16, none⟩) 16 16] 44)).setCells ga (k * 16) (xds.map (Value.int .i64))).cell? ⟨wr.heap.size, 8, none⟩ = some (.int .i64 xpt) ∧ (((wr.alloc (.cells #[.int .i64 xa, .int .i64 xs, .int .i64 xt, .slice (some ⟨gd, od, none⟩) 16 dc, .int .i64 xk, .int .i64 xo, .int .i64 xn, .int .i64 xu, .int .i64 xpt, .int .i64 xpa, .string xky, .string xtx] 47)).alloc (.cells #[.slice (some ⟨ga, k * 16, none⟩) 16 16] 44)).setCells ga (k * 16) (xds.map (Value.int .i64))).cell? ⟨wr.heap.size, 9, none⟩ = some (.int .i64 xpa) ∧ (((wr.alloc (.cells #[.int .i64 xa, .int .i64 xs, .int .i64 xt, .slice (some ⟨gd, od, none⟩) 16 dc, .int .i64 xk, .int .i64 xo, .int .i64 xn, .int .i64 xu, .int .i64 xpt, .int .i64 xpa, .string xky, .string xtx] 47)).alloc (.cells #[.slice (some ⟨ga, k * 16, none⟩) 16 16] 44)).setCells ga (k * 16) (xds.map (Value.int .i64))).cell? ⟨wr.heap.size, 10, none⟩ = some (.string xky) ∧ (((wr.alloc (.cells #[.int .i64 xa, .int .i64 xs, .int .i64 xt, .slice (some ⟨gd, od, none⟩) 16 dc, .int .i64 xk, .int .i64 xo, .int .i64 xn, .int .i64 xu, .int .i64 xpt, .int .i64 xpa, .string xky, .string xtx] 47)).alloc (.cells #[.slice (some ⟨ga, k * 16, none⟩) 16 16] 44)).setCells ga (k * 16) (xds.map (Value.int .i64))).cell? ⟨wr.heap.size, 11, none⟩ = some (.string xtx)) := ⟨(og _ _ (by omega)).trans o0, (og _ _ (by omega)).trans o1, (og _ _ (by omega)).trans o2, (og _ _ (by omega)).trans o3, (og _ _ (by omega)).trans o4, (og _ _ (by omega)).trans o5, (og _ _ (by omega)).trans o6, (og _ _ (by omega)).trans o7, (og _ _ (by omega)).trans o8, (og _ _ (by omega)).trans o9, (og _ _ (by omega)).trans o10, (og _ _ (by omega)).trans o11⟩
      have hV3 : (((wr.alloc (.cells #[.int .i64 xa, .int .i64 xs, .int .i64 xt, .slice (some ⟨gd, od, none⟩) 16 dc, .int .i64 xk, .int .i64 xo, .int .i64 xn, .int .i64 xu, .int .i64 xpt, .int .i64 xpa, .string xky, .string xtx] 47)).alloc (.cells #[.slice (some ⟨ga, k * 16, none⟩) 16 16] 44)).setCells ga (k * 16) (xds.map (Value.int .i64))).cell? ⟨wr.heap.size + 1, 0, none⟩ = some (.slice (some ⟨ga, k * 16, none⟩) 16 16) := (og _ _ (by omega)).trans (by have := cell_made (w := wr.alloc (.cells #[.int .i64 xa, .int .i64 xs, .int .i64 xt, .slice (some ⟨gd, od, none⟩) 16 dc, .int .i64 xk, .int .i64 xo, .int .i64 xn, .int .i64 xu, .int .i64 xpt, .int .i64 xpa, .string xky, .string xtx] 47)) (Below.refl _ _) (cs := #[.slice (some ⟨ga, k * 16, none⟩) 16 16]) (T := 44) (k := 0) rfl; rwa [World.size_alloc] at this)
      have hF3 : ∀ j, (((wr.alloc (.cells #[.int .i64 xa, .int .i64 xs, .int .i64 xt, .slice (some ⟨gd, od, none⟩) 16 dc, .int .i64 xk, .int .i64 xo, .int .i64 xn, .int .i64 xu, .int .i64 xpt, .int .i64 xpa, .string xky, .string xtx] 47)).alloc (.cells #[.slice (some ⟨ga, k * 16, none⟩) 16 16] 44)).setCells ga (k * 16) (xds.map (Value.int .i64))).frozen? ⟨wr.heap.size, j, none⟩ = false := fun j => by rw [World.frozen?_setCells]; exact frozen_made (w := wr) (below_alloc _ _) j
      have hA3 : Ar (((wr.alloc (.cells #[.int .i64 xa, .int .i64 xs, .int .i64 xt, .slice (some ⟨gd, od, none⟩) 16 dc, .int .i64 xk, .int .i64 xo, .int .i64 xn, .int .i64 xu, .int .i64 xpt, .int .i64 xpa, .string xky, .string xtx] 47)).alloc (.cells #[.slice (some ⟨ga, k * 16, none⟩) 16 16] 44)).setCells ga (k * 16) (xds.map (Value.int .i64))) w.heap.size w.heap.size ga ((cpL ga L k).set k { zOp (.slice (some ⟨ga, k * 16, none⟩) 16 16) with ds := xds }) := hAo.arena hkl { zOp (.slice (some ⟨ga, k * 16, none⟩) 16 16) with ds := xds } (by rw [hk0]) hdl
      have hB3 : Below w.heap.size w (((wr.alloc (.cells #[.int .i64 xa, .int .i64 xs, .int .i64 xt, .slice (some ⟨gd, od, none⟩) 16 dc, .int .i64 xk, .int .i64 xo, .int .i64 xn, .int .i64 xu, .int .i64 xpt, .int .i64 xpa, .string xky, .string xtx] 47)).alloc (.cells #[.slice (some ⟨ga, k * 16, none⟩) 16 16] 44)).setCells ga (k * 16) (xds.map (Value.int .i64))) := below_setsC (by have := hA.lo'; omega) _ _ _ (hB.trans (hbo.mono hsz))
      have hs3 : wr.heap.size + 2 ≤ (((wr.alloc (.cells #[.int .i64 xa, .int .i64 xs, .int .i64 xt, .slice (some ⟨gd, od, none⟩) 16 dc, .int .i64 xk, .int .i64 xo, .int .i64 xn, .int .i64 xu, .int .i64 xpt, .int .i64 xpa, .string xky, .string xtx] 47)).alloc (.cells #[.slice (some ⟨ga, k * 16, none⟩) 16 16] 44)).setCells ga (k * 16) (xds.map (Value.int .i64))).heap.size := by rw [size_setCells, World.size_alloc, World.size_alloc]; omega
      clear o0 o1 o2 o3 o4 o5 o6 o7 o8 o9 o10 o11 og hA hB hAo hbo
      go_upto_region 7 with fail
      generalize (((wr.alloc (.cells #[.int .i64 xa, .int .i64 xs, .int .i64 xt, .slice (some ⟨gd, od, none⟩) 16 dc, .int .i64 xk, .int .i64 xo, .int .i64 xn, .int .i64 xu, .int .i64 xpt, .int .i64 xpa, .string xky, .string xtx] 47)).alloc (.cells #[.slice (some ⟨ga, k * 16, none⟩) 16 16] 44)).setCells ga (k * 16) (xds.map (Value.int .i64))) = w3 at *
      clear hcp c0 c1 c2 c3 c4 c5 c6 c7 c8 c9 c10 c11 r3 hdc hrr
      obtain ⟨p0, p1, p2, p3, p4, p5, p6, p7, p8, p9, p10, p11⟩ := HC3.out
      have f3 := hF3 3
      have o4 : ∀ j, j ≠ 3 → (w3.setCell ⟨wr.heap.size, 3, none⟩ (.slice (some ⟨ga, k * 16, none⟩) 16 16)).cell? ⟨wr.heap.size, j, none⟩ = w3.cell? ⟨wr.heap.size, j, none⟩ := fun j hj => World.cell?_setCell_other _ _ _ _ (by intro e; simp only [Addr.mk.injEq] at e; omega)
      have hrg : (w3.setCell ⟨wr.heap.size, 3, none⟩ (.slice (some ⟨ga, k * 16, none⟩) 16 16)).rangeAt wr.heap.size 0 (Ov.cs (⟨xa, xs, xt, .slice (some ⟨ga, k * 16, none⟩) 16 16, xk, xo, xn, xu, xpt, xpa, xky, xtx, xds⟩ : Ov)) := fun j u hj => by
        rw [Nat.zero_add]
        match j, hj with
        | 3, hj => rw [← hj]; exact World.cell?_setCell_same _ _ _ p3
        | 0, hj => rw [← hj, o4 0 (by omega)]; exact p0
        | 1, hj => rw [← hj, o4 1 (by omega)]; exact p1
        | 2, hj => rw [← hj, o4 2 (by omega)]; exact p2
        | 4, hj => rw [← hj, o4 4 (by omega)]; exact p4
        | 5, hj => rw [← hj, o4 5 (by omega)]; exact p5
        | 6, hj => rw [← hj, o4 6 (by omega)]; exact p6
        | 7, hj => rw [← hj, o4 7 (by omega)]; exact p7
        | 8, hj => rw [← hj, o4 8 (by omega)]; exact p8
        | 9, hj => rw [← hj, o4 9 (by omega)]; exact p9
        | 10, hj => rw [← hj, o4 10 (by omega)]; exact p10
        | 11, hj => rw [← hj, o4 11 (by omega)]; exact p11
        | n + 12, hj => exact absurd (List.getElem?_eq_some_iff.1 hj).1 (by show ¬ n + 12 < 12; omega)
      have hA4 : Ar (w3.setCell ⟨wr.heap.size, 3, none⟩ (.slice (some ⟨ga, k * 16, none⟩) 16 16)) w.heap.size w.heap.size ga ((cpL ga L k).set k { zOp (.slice (some ⟨ga, k * 16, none⟩) 16 16) with ds := xds }) := hA3.on (by rw [World.size_setCell]; exact Nat.le_refl _) (heap_setCell_other w3 ⟨wr.heap.size, 3, none⟩ w.heap.size _ (by show w.heap.size ≠ wr.heap.size; omega)) (heap_setCell_other w3 ⟨wr.heap.size, 3, none⟩ ga _ (by show ga ≠ wr.heap.size; omega))
      have hB4 : Below w.heap.size w (w3.setCell ⟨wr.heap.size, 3, none⟩ (.slice (some ⟨ga, k * 16, none⟩) 16 16)) := hB3.setCell (p := ⟨wr.heap.size, 3, none⟩) (by show w.heap.size ≤ wr.heap.size; omega) _
      clear hA3 hB3 HC3 o4
      go_upto_region 8 with fail
      generalize w3.setCell ⟨wr.heap.size, 3, none⟩ (.slice (some ⟨ga, k * 16, none⟩) 16 16) = w4 at *
      clear p0 p1 p2 p3 p4 p5 p6 p7 p8 p9 p10 p11 f3 hF3 hV3
      have hls : k < ((cpL ga L k).set k { zOp (.slice (some ⟨ga, k * 16, none⟩) 16 16) with ds := xds }).length := by rw [List.length_set]; exact hkl
      have hth : w4.there w.heap.size (k * 12) (Ov.cs (⟨xa, xs, xt, .slice (some ⟨ga, k * 16, none⟩) 16 16, xk, xo, xn, xu, xpt, xpa, xky, xtx, xds⟩ : Ov)).toArray.size := fun j hj => by
        have hj' : j < 12 := hj
        have := hA4.rth (k * 12 + j) (by rw [List.length_set, cpL_len]; omega)
        rwa [Nat.zero_add] at this
      have HI1 : Hid ((Tryz.prog.info? 47).map (·.size) = some (Ov.cs (⟨xa, xs, xt, .slice (some ⟨ga, k * 16, none⟩) 16 16, xk, xo, xn, xu, xpt, xpa, xky, xtx, xds⟩ : Ov)).length) := by show (Tryz.prog.info? 47).map (·.size) = some 12; kernel_rfl
      have HI2 : Hid ((Tryz.prog.info? 47).map (·.size) = some (Ov.cs (⟨xa, xs, xt, .slice (some ⟨ga, k * 16, none⟩) 16 16, xk, xo, xn, xu, xpt, xpa, xky, xtx, xds⟩ : Ov)).toArray.size) := by show (Tryz.prog.info? 47).map (·.size) = some 12; kernel_rfl
      have hone : (Ov.cs (⟨xa, xs, xt, .slice (some ⟨ga, k * 16, none⟩) 16 16, xk, xo, xn, xu, xpt, xpa, xky, xtx, xds⟩ : Ov)).toArray.all (·.oneCell') = true := all_oneCell_toArray (cs_one (⟨xa, xs, xt, .slice (some ⟨ga, k * 16, none⟩) 16 16, xk, xo, xn, xu, xpt, xpa, xky, xtx, xds⟩ : Ov) rfl)
      have HR : Hid (Ar (w4.setCells w.heap.size (k * 12) (Ov.cs (⟨xa, xs, xt, .slice (some ⟨ga, k * 16, none⟩) 16 16, xk, xo, xn, xu, xpt, xpa, xky, xtx, xds⟩ : Ov))) w.heap.size w.heap.size ga (cpL ga L (k + 1)) ∧ Below w.heap.size w (w4.setCells w.heap.size (k * 12) (Ov.cs (⟨xa, xs, xt, .slice (some ⟨ga, k * 16, none⟩) 16 16, xk, xo, xn, xu, xpt, xpa, xky, xtx, xds⟩ : Ov)))) := by
        refine ⟨?_, below_setsC (Nat.le_refl _) _ _ _ hB4⟩
        have := hA4.cells hls (⟨xa, xs, xt, .slice (some ⟨ga, k * 16, none⟩) 16 16, xk, xo, xn, xu, xpt, xpa, xky, xtx, xds⟩ : Ov) (by rw [ovAt_set hkl, if_pos rfl]; rfl) (by rw [ovAt_set hkl, if_pos rfl])
        rw [List.set_set] at this
        rw [HXE.out]
        exact this
      obtain ⟨cs, HCS⟩ : ∃ cs, Hid (Ov.cs (⟨xa, xs, xt, .slice (some ⟨ga, k * 16, none⟩) 16 16, xk, xo, xn, xu, xpt, xpa, xky, xtx, xds⟩ : Ov) = cs) := ⟨_, rfl⟩
      rw [HCS.out] at hrg hth HI1 HI2 hone HR
      clear hA4 hB4 HCS HXE
      go_wp2_with (first | (refine wpList_load_mid rfl 47 _ rfl wr.heap.size 0 rfl cs _ hrg Tryz.underlying47 rfl HI1.out ?_) | (refine wpList_store_mid rfl 47 _ _ rfl w.heap.size (k * 12) cs.toArray rfl rfl hth HI2.out hone ?_))
      go_roundw
      case rel => exact ⟨k + 1, by omega, by go_num, HR⟩
      case measure => simp [intOf]; omega
    · obtain rfl : k = L.length := by omega
      go_wp2_with fail
      go_ret
      exact ⟨ga, rfl, HI.out.1, HI.out.2⟩
end Go.Proofs.YtaglbacicpknaaaGreat

namespace Go.Proofs.YtaglbacicpknaaaGreat
open Go.RowKit
set_option linter.unusedVariables false

theorem Ar.setN {w : World} {B g ga : Nat} {M : List Ov} (h : Ar w B g ga M) {k : Nat} (hk : k < M.length) (z : Int) : Ar (w.setCell ⟨g, k * 12 + 6, none⟩ (.int .i64 z)) B g ga (M.set k { ovAt M k with n := z }) := by
  have hne := h.ne
  have other : ∀ (b o : Nat), (b ≠ g ∨ o ≠ k * 12 + 6) → (w.setCell ⟨g, k * 12 + 6, none⟩ (.int .i64 z)).cell? ⟨b, o, none⟩ = w.cell? ⟨b, o, none⟩ := fun b o ho => by
    rw [World.cell?_setCell_other]
    intro e
    simp only [Addr.mk.injEq] at e
    omega
  refine ⟨h.lo, h.lo', h.ne, by rw [World.size_setCell]; exact h.hi, by rw [World.size_setCell]; exact h.hi', fun i hi => ?_, by rw [List.length_set]; exact World.there_setCells h.rth g (k * 12 + 6) [.int .i64 z], fun i hi => ?_, fun i hi => ?_, fun i hi => ?_, by rw [List.length_set]; exact World.there_setCells h.ath g (k * 12 + 6) [.int .i64 z]⟩
  all_goals rw [List.length_set] at hi
  all_goals rw [ovAt_set hk]
  · by_cases e : i = k
    · subst e
      rw [if_pos rfl]
      have r := h.row i hi
      exact ⟨(other _ _ (.inr (by omega))).trans r.c0, (other _ _ (.inr (by omega))).trans r.c1, (other _ _ (.inr (by omega))).trans r.c2, (other _ _ (.inr (by omega))).trans r.c3, (other _ _ (.inr (by omega))).trans r.c4, (other _ _ (.inr (by omega))).trans r.c5, World.cell?_setCell_same _ _ _ r.c6, (other _ _ (.inr (by omega))).trans r.c7, (other _ _ (.inr (by omega))).trans r.c8, (other _ _ (.inr (by omega))).trans r.c9, (other _ _ (.inr (by omega))).trans r.c10, (other _ _ (.inr (by omega))).trans r.c11⟩
    · rw [if_neg e]
      have r := h.row i hi
      exact ⟨(other _ _ (.inr (by omega))).trans r.c0, (other _ _ (.inr (by omega))).trans r.c1, (other _ _ (.inr (by omega))).trans r.c2, (other _ _ (.inr (by omega))).trans r.c3, (other _ _ (.inr (by omega))).trans r.c4, (other _ _ (.inr (by omega))).trans r.c5, (other _ _ (.inr (by omega))).trans r.c6, (other _ _ (.inr (by omega))).trans r.c7, (other _ _ (.inr (by omega))).trans r.c8, (other _ _ (.inr (by omega))).trans r.c9, (other _ _ (.inr (by omega))).trans r.c10, (other _ _ (.inr (by omega))).trans r.c11⟩
  · by_cases e : i = k
    · subst e; rw [if_pos rfl]; exact h.dvs i hi
    · rw [if_neg e]; exact h.dvs i hi
  · by_cases e : i = k
    · subst e; rw [if_pos rfl]; exact h.len i hi
    · rw [if_neg e]; exact h.len i hi
  · intro j v hj
    rw [other ga _ (.inl hne)]
    by_cases e : i = k
    · subst e
      rw [if_pos rfl] at hj
      exact h.are i hi j v hj
    · rw [if_neg e] at hj
      exact h.are i hi j v hj
/-- The first k are folded. -/
def fdL (M : List Ov) : Nat → List Ov
  | 0 => M
  | k + 1 => (fdL M k).set k { ovAt (fdL M k) k with n := ((foldS (ovAt (fdL M k) k).n : Nat) : Int) }
theorem fdL_len (M : List Ov) : ∀ k, (fdL M k).length = M.length
  | 0 => rfl
  | k + 1 => by rw [fdL, List.length_set, fdL_len M k]
theorem fdL_at (M : List Ov) : ∀ k, k ≤ M.length → ∀ i, ovAt (fdL M k) i = if i < k then { ovAt M i with n := ((foldS (ovAt M i).n : Nat) : Int) } else ovAt M i
  | 0, _, i => by rw [if_neg (by omega)]; rfl
  | k + 1, hk, i => by
    rw [fdL, ovAt_set (by rw [fdL_len]; omega), fdL_at M k (by omega) i, fdL_at M k (by omega) k, if_neg (show ¬ k < k by omega)]
    by_cases e : i = k
    · subst e
      rw [if_pos rfl, if_pos (by omega)]
    · rw [if_neg e]
      by_cases h : i < k
      · rw [if_pos h, if_pos (by omega)]
      · rw [if_neg h, if_neg (by omega)]
/-- What the folded copies say, in columns. -/
theorem raw_folded {ga : Nat} {L : List Ov} {c : Nat} {i : Nat} (hi : i < L.length) : rawAt c (ovAt (fdL (cpL ga L L.length) L.length) i) = numAt c (ovAt L i) := by
  rw [fdL_at _ _ (by rw [cpL_len]; exact Nat.le_refl _), if_pos hi, cpL_at ga L L.length (Nat.le_refl _) i hi, if_pos hi]
  rfl
theorem fold_texts {ga : Nat} {L : List Ov} {i : Nat} (hi : i < L.length) : (ovAt (fdL (cpL ga L L.length) L.length) i).ky = (ovAt L i).ky ∧ (ovAt (fdL (cpL ga L L.length) L.length) i).tx = (ovAt L i).tx := by
  rw [fdL_at _ _ (by rw [cpL_len]; exact Nat.le_refl _), if_pos hi, cpL_at ga L L.length (Nat.le_refl _) i hi, if_pos hi]
  exact ⟨rfl, rfl⟩
end Go.Proofs.YtaglbacicpknaaaGreat
