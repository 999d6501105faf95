/- What the code's SetElements does. -/
import Derived.Test.YtfnlnigeaioocaaGreatQSetOf
import Derived.Test.YtfnlnigeaioocaaGreatQSortOwn
import Derived.Test.YtfnlnigeaioocaaGreatQTexts
namespace Go.Proofs.YtfnlnigeaioocaaGreat
open Go.RowKit Go.Sort Go.Shelf
set_option linter.unusedVariables false

theorem below_grown {B : Nat} {w w1 w2 : World} {row : Option Nat} (h : Below B w w1) (hB : B ≤ w.heap.size) (k : w1.grownBy w2 row) (hr : ∀ g, row = some g → B ≤ g) : Below B w w2 :=
  ⟨k.os.trans h.os, k.tape.trans h.tape, k.output.trans h.output, Nat.le_trans h.size k.size, fun i hi => (k.block i (by have := h.size; omega) (fun e => by have := hr i e.symm; omega)).trans (h.block i hi)⟩
theorem one_newS (w : World) (x : Value) (t : TypeId) : ∀ j u, [x][j]? = some u → (w.alloc (.cells #[x] t)).cell? ((⟨w.heap.size, 0, none⟩ : Addr).add j) = some u := by
  intro j u hj
  have h : (w.alloc (.cells #[x] t)).heap[w.heap.size]? = some (.cells #[x] t (0, 0)) := heap_alloc_new w _
  rw [Addr.add_lit, Nat.zero_add]
  unfold World.cell?
  rw [show (w.alloc (.cells #[x] t)).heap[(⟨w.heap.size, j, none⟩ : Addr).block]? = some (.cells #[x] t (0, 0)) from h]
  rw [← hj]
  simp
/-- The entries' texts, as bytes. -/
def textsE (ls : List En) : List (List UInt8) := ls.map fun e => e.2.2.data.toList
/-- What SetElements answers: texts and a code. -/
def elemsB (xs : List Int) (ls : List En) : List (List UInt8) := if okJ xs ls = true then Lib.compact ((textsE ls).mergeSort fun x y => decide (x ≤ y)) else []
def elemsC (xs : List Int) (ls : List En) : Int := if okJ xs ls = true then 0 else 1
theorem encStr_of (s : ByteArray) : encStr s.data.toList = .string s := by
  show Value.string ⟨s.data.toList.toArray⟩ = .string s
  rw [Array.toArray_toList]
theorem textsE_step {ls : List En} {k : Nat} (hk : k < ls.length) : (textsE (ls.take (k + 1))).map encStr = (textsE (ls.take k)).map encStr ++ [.string (enAt ls k).2.2] := by
  have : ls.take (k + 1) = ls.take k ++ [enAt ls k] := by simp [enAt, hk]
  rw [this]
  simp [textsE, encStr_of]

set_option maxHeartbeats 2000000 in
set_option maxRecDepth 100000 in
theorem implSetElements_any (C : Nat) (w : World) (v ve : Value) (xs : List Int) (ls : List En) (hC : C ≤ w.heap.size) (hv : Rd C w v (xs.map (Value.int .i64))) (he : RdE C w ve ls) :
    Calls Tryz.prog 9 #[.agg #[v, ve]] w fun e w' => ∃ r, e = .returned (.tuple #[r, .int .i64 (elemsC xs ls)]) ∧ Own 9 w' w.heap.size r ((elemsB xs ls).map encStr) ∧ Below w.heap.size w w' := by
  obtain ⟨i0, hi, hz0, hz1, hz2⟩ := info_parts info9
  have hxx : xs.length = 16 ∨ okJ xs ls = false := by
    cases hk : vecOK xs with
    | true => exact .inl (vecOK_get hk).1
    | false => exact .inr (okJ_vec hk)
  have hlk : okJ xs ls = true → ls.length ≤ 256 := fun h => by
    unfold okJ at h
    simp only [Bool.and_eq_true, decide_eq_true_eq] at h
    exact h.2.1
  have hW := below_alloc w (.cells #[v, ve] 28)
  have hS := setOf_any C (w.alloc (.cells #[v, ve] 28)) v ve xs ls (Nat.le_trans hC hW.size) (hv.belowW hW hC) (he.below (hW.mono hC))
  have hD := Dy.made w v ve 28
  have hsl : ∃ ao len cap, v = .slice ao len cap := by
    obtain ⟨ao, cap, rfl, _⟩ := hv
    exact ⟨_, _, _, rfl⟩
  obtain ⟨ao, la, ca, rfl⟩ := hsl
  have he0 := he
  obtain ⟨eo, ec, rfl, hE⟩ := he0
  go_enter Tryz.func9, Tryz.ntmps9
  go_wp2_with fail
  refine hS.mono ?_
  intro e w2 hA
  obtain ⟨Z, rfl, hZ, hone, hb2, _⟩ := hA.out (w := w) hxx hW.size
  have hD2 := Dy.on hD hb2
  have hB2 : Below w.heap.size w w2 := below_seq hW hb2
  have hiS : (Tryz.prog.info? 50).map (·.size) = some Z.toArray.size := by rw [List.size_toArray, hZ]; exact setMap_info
  have hsz : Z.toArray.size = 17 := by rw [List.size_toArray]; exact hZ
  have h3 : (w2.alloc (.cells zeroJ.toArray 50)).there w2.heap.size 0 Z.toArray.size := by rw [hsz]; exact there_new (n := 17) (by rw [zeroJ_size]; exact Nat.le_refl _)
  have HB : Hid (elemsB xs ls = if okJ xs ls = true then Lib.compact ((textsE ls).mergeSort fun x y => decide (x ≤ y)) else []) := rfl
  have HC : Hid (elemsC xs ls = if okJ xs ls = true then 0 else 1) := rfl
  clear hS hA hW hD
  generalize okJ xs ls = bl at HB HC hlk ⊢
  go_upto_region 2 with (first | (refine wpList_store_mid rfl 50 _ _ rfl w2.heap.size 0 Z.toArray rfl rfl h3 hiS hone ?_))
  have hB3 : Below w.heap.size w ((w2.alloc (.cells zeroJ.toArray 50)).setCells w2.heap.size 0 Z) := below_setCells hB2.size _ _ _ (below_then hB2 _)
  have hb3 : Below w2.heap.size w2 ((w2.alloc (.cells zeroJ.toArray 50)).setCells w2.heap.size 0 Z) := below_setCells (Nat.le_refl _) _ _ _ (below_alloc _ _)
  have hD3 := Dy.on hD2 hb3
  have hgen : ∃ w3, ((w2.alloc (.cells zeroJ.toArray 50)).setCells w2.heap.size 0 Z) = w3 := ⟨_, rfl⟩
  obtain ⟨w3, hw3⟩ := hgen
  rw [hw3] at hB3 hD3
  change Code.wp _ _ _ _ ((w2.alloc (.cells zeroJ.toArray 50)).setCells w2.heap.size 0 Z)
  rw [hw3]
  obtain ⟨⟨d0, d1⟩, _⟩ := hD3
  clear hw3 h3 hb3 hD2 hB2 hb2 hiS hone
  cases bl with
  | false =>
    rw [if_neg (by decide)] at HB HC
    go_wp2_with fail
    refine bodyPost_ret (v := .tuple #[.slice none 0 0, .int .i64 1]) ?_ rfl ⟨_, by rw [HC.out], by rw [HB.out]; exact World.ownsRow_nil _ _ _ _, hB3⟩
    simp [results, Tryz.results9, go_sem]
  | true =>
    rw [if_pos rfl] at HB HC
    have hll := hlk rfl
    clear hlk hxx
    have hn : ls.length < 9223372036854775808 := by omega
    go_wp2_with (first | (at_make; refine wpList_make_own _ rfl _ _ 35 rfl w.heap.size 9 i0 (.string ByteArray.empty) 1 Tryz.underlying35 hi hz0 hz1 _ _ _ ls.length rfl rfl rfl (by rw [hz2]; omega) (by unfold maxLen; omega) (by have := hB3.size; omega) ?_))
    intro w4 ho4 hg4
    have ho : Own 9 w4 w.heap.size (.slice (some ⟨w3.heap.size, 0, none⟩) 0 ls.length) [] := ho4
    have hB4 : Below w.heap.size w w4 := below_grown hB3 (Nat.le_refl _) hg4 (fun k hk => by cases hk)
    have d4 : w4.cell? ⟨w.heap.size, 1, none⟩ = some (.slice eo ls.length ec) := by
      rw [← d1]
      unfold World.cell?
      rw [hg4.block w.heap.size (cell_lt d1) (by simp)]
    clear ho4 hg4 d0 d1 hB3
    go_wp2_with fail
    clear d4
    go_loopw [6, 23] (fun tl tk wr => ∃ k : Nat, k ≤ ls.length ∧ tk = .int .i64 (k : Int) ∧ Own 9 wr w.heap.size tl ((textsE (ls.take k)).map encStr) ∧ Below w.heap.size w wr) (fun _ tk _ => ls.length - (intOf tk).toNat)
    case atStart => exact ⟨0, Nat.zero_le _, rfl, by simpa [textsE] using ho, hB4⟩
    case round =>
      clear ho hB4
      obtain ⟨k, hk, rfl, ho, hB⟩ := hrel
      have hsz := hB.size
      by_cases hlt : k < ls.length
      · obtain ⟨g, off, rfl, hg, hc⟩ := hE (by omega)
        obtain ⟨q0, q1, q2⟩ := hc k hlt
        rw [← hB.cell (p := ⟨g, off + k * 3, none⟩) (by show g < _; omega)] at q0
        rw [← hB.cell (p := ⟨g, off + (k * 3 + 1), none⟩) (by show g < _; omega)] at q1
        rw [← hB.cell (p := ⟨g, off + (k * 3 + 2), none⟩) (by show g < _; omega)] at q2
        have HS := textsE_step hlt
        obtain ⟨t, a, s, hee⟩ : ∃ t a s, enAt ls k = (t, a, s) := ⟨_, _, _, rfl⟩
        rw [hee] at q0 q1 q2 HS
        replace q0 : wr.cell? ⟨g, off + k * 3, none⟩ = some (.int .i64 t) := q0
        replace q1 : wr.cell? ⟨g, off + k * 3 + 1, none⟩ = some (.int .i64 a) := q1
        replace q2 : wr.cell? ⟨g, off + k * 3 + 2, none⟩ = some (.string s) := q2
        have j0 : (0 : Int) ≤ (k : Int) := by omega
        have j1 : (k : Int) < (ls.length : Int) := by omega
        have j2 : (k : Int) + 1 < 9223372036854775808 := by omega
        have hlen : ((textsE (ls.take k)).map encStr).length = k := by simp [textsE]; omega
        have HS' : Hid _ := HS
        clear hee hc hE HS
        generalize (textsE (ls.take k)).map encStr = cs at ho HS' hlen
        have ho1 := ho.below (below_alloc wr (.cells #[.int .i64 t, .int .i64 a, .string s] 60)) (Nat.le_refl _)
        have hB1 := below_then hB (.cells #[.int .i64 t, .int .i64 a, .string s] 60)
        go_upto_region 8 with fail
        have c2 := (three_cells (Below.refl (wr.alloc (.cells #[.int .i64 t, .int .i64 a, .string s] 60)).heap.size (wr.alloc (.cells #[.int .i64 t, .int .i64 a, .string s] 60)))).2.2
        obtain ⟨w5, hw5⟩ : ∃ w5, wr.alloc (.cells #[.int .i64 t, .int .i64 a, .string s] 60) = w5 := ⟨_, rfl⟩
        rw [hw5] at ho1 hB1 c2
        rw [hw5]
        have hs5 := hB1.size
        clear hw5 hB ho q0 q1 q2
        go_wp2_with (at_builtin; refine wpList_append_own _ rfl _ _ 35 rfl w.heap.size 9 i0 (.string ByteArray.empty) 1 16 Tryz.underlying35 hi hz0 hz1 hz2 rfl (by decide) _ _ _ rfl (World.ownsRow.alloc ho1 _) ⟨w5.heap.size, 0, none⟩ 1 1 [.string s] rfl rfl (one_newS _ _ _) (by simp [Value.oneCell']) (by unfold maxLen; omega) (by omega) (by first | omega | (simp; omega)) ?_)
        intro v6 w6 ho6 hg6 _
        have hB6 := below_grown (below_then hB1 (.cells #[.string s] 9)) (Nat.le_refl _) hg6 (fun k hk => (World.ownsRow.lt ho1 k hk).1)
        have ho7 : Own 9 w6 w.heap.size v6 ((textsE (ls.take (k + 1))).map encStr) := by
          rw [HS'.out]
          exact own_of ho6
        clear ho6 hg6
        go_wp2_with fail
        go_roundw
        case rel => exact ⟨k + 1, by omega, by go_num, ho7, hB6⟩
        case measure => simp [intOf]; omega
      · obtain rfl : k = ls.length := by omega
        rw [List.take_length] at ho
        have hi' : ¬ (ls.length : Int) < (ls.length : Int) := by omega
        have hT : (textsE ls).length = ls.length := by simp [textsE]
        have hS := sort_own wr w.heap.size u6 (textsE ls) (by omega) ho
        have hmT : ((textsE ls).mergeSort fun x y => decide (x ≤ y)).length = ls.length := by rw [List.length_mergeSort, hT]
        generalize ((textsE ls).mergeSort fun x y => decide (x ≤ y)) = M at hS hmT HB
        go_wp2_with (go_at_call 25; refine hS.mono ?_; rintro e w5 ⟨rfl, ho5, hg5⟩; have hB5 := below_grown hB (Nat.le_refl _) hg5 ho.lt; have hQ := compact_own w5 w.heap.size u6 M (by omega) ho5; clear hS)
        refine hQ.mono ?_
        rintro e w6 ⟨v', rfl, ho6, hg6⟩
        have hB6 := below_grown hB5 (Nat.le_refl _) hg6 ho5.lt
        go_wp2_with fail
        refine bodyPost_ret (v := .tuple #[v', .int .i64 0]) ?_ rfl ⟨_, by rw [HC.out], by rw [HB.out]; exact ho6, hB6⟩
        simp [results, Tryz.results9, go_sem]

end Go.Proofs.YtfnlnigeaioocaaGreat
