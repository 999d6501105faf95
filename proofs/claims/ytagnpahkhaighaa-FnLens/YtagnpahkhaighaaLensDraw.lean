/- What a drawn form is: l14DrawForm. -/
import Derived.Test.YtagnpahkhaighaaSrcStamp
import Derived.Test.YtagnpahkhaighaaSrcMore
import Derived.Test.YtagnpahkhaighaaStr
import Derived.Test.YtagnpahkhaighaaLensSpTake
import Derived.Test.YtagnpahkhaighaaLensFwdSpec
import Derived.Test.YtagnpahkhaighaaTakeKit
import Derived.Handy
import Derived.Deep.Cut
namespace Go.Proofs.Ytagnpahkhaighaa
open Go.RowKit
set_option linter.unusedVariables false

set_option maxHeartbeats 1000000 in
set_option maxRecDepth 100000 in
theorem next1L_any (C b A : Nat) (n : Int) (w : World) (h : Src C w b A) (hA : A ≤ 900000000) (hn : 1 ≤ n) (hn' : n ≤ 16777216) :
    Calls Try.prog 55 #[.pointer (some ⟨b, 0, none⟩), .int .i64 n] w fun e w' => ∃ r : Int, e = .returned (.int .i64 r) ∧ 0 ≤ r ∧ r < n ∧ Src C w' b (A + 3) ∧ w.grownBy w' (some b) := by
  by_cases h2 : 2 ≤ n
  · exact srcNext_any C b A n w h hA h2 hn'
  · obtain rfl : n = 1 := by omega
    go_enter Try.func55, Try.ntmps55
    go_wp2_with fail
    go_ret
    exact ⟨0, rfl, by omega, by omega, h.mono (by omega), World.grownBy.refl _ _⟩

/-- What grows beside a block b and in a row made since. -/
theorem gr_own {w w1 w2 : World} {b B : Nat} {row : Option Nat} (h : w.grownBy w1 (some b)) (k : w1.grownBy w2 row) (hr : ∀ g, row = some g → w.heap.size ≤ g) : w.grownBy w2 (some b) :=
  ⟨k.os.trans h.os, k.tape.trans h.tape, k.output.trans h.output, Nat.le_trans h.size k.size, fun i hi hn => by
    have h1 := h.block i hi hn
    have h2 := k.block i (Nat.lt_of_lt_of_le hi h.size) (fun e => by have := hr i (by first | exact e | exact e.symm); omega)
    exact h2.trans h1⟩
theorem own_lo {T : TypeId} {m : Nat} {w : World} {B : Nat} {v : Value} {n : Nat} {cs : List Value} (h : w.ownsRow B T m v n cs) : ∀ g, v.ownBlock = some g → B ≤ g := fun g hg => (World.ownsRow.lt h g hg).1
theorem own_sliceD {w : World} {B : Nat} {v : Value} {ls : List Pr} (h : OwnPr w B v ls) : ∃ a c, v = .slice a ls.length c := by
  obtain ⟨_, ao, c, e, _⟩ := ownM_rd h
  exact ⟨ao, c, e⟩
/-- Beside a source in b: a row of pairs that the call owns. -/
structure Fr (C b A : Nat) (w wr : World) (v : Value) (ls : List Pr) : Prop where
  src : Src C wr b A
  row : OwnPr wr w.heap.size v ls
  gr : w.grownBy wr (some b)
  lt : b < w.heap.size
theorem Fr.next {C b A A' : Nat} {w wr w2 : World} {v : Value} {ls : List Pr} (h : Fr C b A w wr v ls) (hS : Src C w2 b A') (hG : wr.grownBy w2 (some b)) : Fr C b A' w w2 v ls :=
  ⟨hS, ownM_kept h.row hG (fun k hk e => by cases e; have := own_lo h.row _ hk; have := h.lt; omega), grownBy_trans h.gr hG, h.lt⟩
theorem Fr.alloc {C b A : Nat} {w wr : World} {v : Value} {ls : List Pr} (h : Fr C b A w wr v ls) (o : Obj) : Fr C b A w (wr.alloc o) v ls :=
  ⟨h.src.alloc o, ownM_on h.row (below_alloc wr o), gr_alloc h.gr o, h.lt⟩
theorem gr_drewL {w w1 : World} {row : Option Nat} (h : w.grownBy w1 row) : w.grownBy w1.drew row := ⟨h.os, h.tape, h.output, h.size, h.block⟩
theorem Fr.drew {C b A : Nat} {w wr : World} {v : Value} {ls : List Pr} (h : Fr C b A w wr v ls) : Fr C b A w wr.drew v ls :=
  ⟨h.src, h.row, gr_drewL h.gr, h.lt⟩
theorem Fr.app {C b A n : Nat} {w wr w2 : World} {v v2 : Value} {ls : List Pr} {x y : ByteArray} (h : Fr C b A w wr v ls) (hn : n = ls.length) (ho : w2.ownsRow w.heap.size 46 2 v2 (n + 1) (prCs ls ++ prCs [(x, y)])) (hg : wr.grownBy w2 v.ownBlock) : Fr C b A w w2 v2 (ls ++ [(x, y)]) := by
  subst hn
  refine ⟨?_, ?_, gr_own (B := w.heap.size) h.gr hg (own_lo h.row), h.lt⟩
  · exact h.src.kept hg (fun k hk => by have := own_lo h.row k hk; have := h.lt; omega)
  · unfold OwnPr
    rw [List.length_append, prCs_app]
    exact ho
theorem Fr.made {C b A : Nat} {w wr : World} (hS : Src C wr b A) (hG : w.grownBy wr (some b)) (hb : b < w.heap.size) : Fr C b A w (wr.alloc (.cells #[] 46)) (.slice (some ⟨wr.heap.size, 0, none⟩) 0 0) [] :=
  ⟨hS.alloc _, own_lit0 wr w hG.size, gr_alloc hG _, hb⟩
/-- A row of texts that is written out, in a block of its own. -/
def Txs (w : World) (g n : Nat) : Prop := ∃ cs : Array Value, w.heap[g]? = some (.cells cs 9 (0, 0)) ∧ ∀ k, k < n → ∃ s, cs[k]? = some (.string s)
theorem Txs.at' {w : World} {g n k : Nat} (h : Txs w g n) (hk : k < n) : ∃ s, w.cell? ⟨g, k, none⟩ = some (.string s) := by
  obtain ⟨cs, h1, h2⟩ := h
  obtain ⟨s, hs⟩ := h2 k hk
  exact ⟨s, cell_blk h1 k hs⟩
theorem Txs.grow {w w2 : World} {g n : Nat} {row : Option Nat} (h : Txs w g n) (hg : w.grownBy w2 row) (hn : some g ≠ row) : Txs w2 g n := by
  obtain ⟨cs, h1, h2⟩ := h
  have hlt : g < w.heap.size := (Array.getElem?_eq_some_iff.1 h1).1
  exact ⟨cs, (hg.block g hlt hn).trans h1, h2⟩
theorem Txs.alloc {w : World} {g n : Nat} (h : Txs w g n) (o : Obj) : Txs (w.alloc o) g n := h.grow (World.grownBy_alloc w o none) (by simp)
theorem Txs.ne {w : World} {g n B m k : Nat} {v : Value} {cs : List Value} (h : Txs w g n) (ho : w.ownsRow B 46 m v k cs) : some g ≠ v.ownBlock := by
  obtain ⟨ds, h1, _⟩ := h
  intro hv
  replace hv := hv.symm
  rcases ho.2 with ⟨e, _⟩ | ⟨g', cap, cur, e, _, hh, _⟩
  · rw [e] at hv; cases hv
  · rw [e] at hv
    cases hv
    rw [h1] at hh
    simp at hh
/-- A conversion whose run is known. -/
theorem wpList_convertL {P : Program} {w : World} {ops : Array Oper} {rest : List Oper} {o : Oper} {a : Act} {Q : Exit → Act → World → Prop} (hg : o.guard = none) (f t : TypeId) (x : Operand) (hop : o.op = Op.convert f t x) (v u : Value) (hx : a.eval x = v) (hrun : (convert f t v).run P w = .ok u w)
    (hK : wpList P ops Q rest (a.put o.dst u) w) : wpList P ops Q (o :: rest) a w := by
  refine wpList_plain hg fun K' hK' => ?_
  unfold Oper.wp
  simp [execOp, hop, hx, hrun, Result.andThen]
  exact hK' _ _ hK
theorem heap_new (w : World) (cs : Array Value) (T : TypeId) : (w.alloc (.cells cs T)).heap[w.heap.size]? = some (.cells cs T (0, 0)) := heap_alloc_new w _

set_option maxHeartbeats 8000000 in
set_option maxRecDepth 100000 in
theorem l14DrawForm_any (C b A : Nat) (w : World) (hS : Src C w b A) (hA : A ≤ 700000000) :
    Calls Try.prog 49 #[.pointer (some ⟨b, 0, none⟩)] w fun e w' => ∃ r F, e = .returned r ∧ F.length ≤ 65 ∧ Fr C b (A + 1000) w w' r F := by
  obtain ⟨i0, hi, hz0, hz1, hz2⟩ := info_parts infoPair
  have hlt := hS.lt
  have HF0 := Fr.made hS (World.grownBy.refl w _) hlt
  go_enter Try.func49, Try.ntmps49
  go_wp2_with fail
  have HF1 := HF0.alloc (.cells #[.string ⟨#[97]⟩, .string ⟨#[98]⟩, .string ⟨#[99]⟩, .string ⟨#[100]⟩, .string ⟨#[110, 97, 109, 101]⟩, .string ⟨#[116, 105, 116, 108, 101]⟩] 9)
  have HN : Txs ((w.alloc (.cells #[] 46)).alloc (.cells #[.string ⟨#[97]⟩, .string ⟨#[98]⟩, .string ⟨#[99]⟩, .string ⟨#[100]⟩, .string ⟨#[110, 97, 109, 101]⟩, .string ⟨#[116, 105, 116, 108, 101]⟩] 9)) (w.heap.size + 1) 6 := by
    have hb := heap_new (w.alloc (.cells #[] 46)) #[.string ⟨#[97]⟩, .string ⟨#[98]⟩, .string ⟨#[99]⟩, .string ⟨#[100]⟩, .string ⟨#[110, 97, 109, 101]⟩, .string ⟨#[116, 105, 116, 108, 101]⟩] 9
    rw [World.size_alloc] at hb
    refine ⟨_, hb, fun k hk => ?_⟩
    rcases (by omega : k = 0 ∨ k = 1 ∨ k = 2 ∨ k = 3 ∨ k = 4 ∨ k = 5) with rfl | rfl | rfl | rfl | rfl | rfl <;> exact ⟨_, rfl⟩
  go_loopw [3, 5] (fun ts ti wr => ∃ (k : Nat) (F : List Pr), k ≤ 6 ∧ ti = .int .i64 (k : Int) ∧ F.length ≤ k ∧ Fr C b (A + 6 * k) w wr ts F ∧ Txs wr (w.heap.size + 1) 6) (fun _ ti _ => (6 - intOf ti).toNat)
  case atStart => exact ⟨0, [], by omega, rfl, by simp, HF1, HN⟩
  case round =>
    clear HF0 HF1 HN
    obtain ⟨k, F, hk, rfl, hF, HF, HT⟩ := hrel
    obtain ⟨ra, rc, e⟩ := own_sliceD HF.row
    subst e
    have hbg : b ≠ w.heap.size + 1 := by omega
    by_cases hk6 : k < 6
    · have q0 : (k : Int) < 6 := by omega
      obtain ⟨s0, hs0⟩ := HT.at' hk6
      go_wp2_with fail
      refine (chance_any C b _ 2 _ HF.src (by omega) (by omega) (by omega)).mono ?_
      rintro e w3 ⟨c, rfl, hS3, hG3⟩
      have HF3 := HF.next hS3 hG3
      have HT3 := HT.grow hG3 (fun e => by cases e; exact hbg rfl)
      have hs3 : w3.cell? ⟨w.heap.size + 1, k, none⟩ = some (.string s0) := hG3.cell (a := ⟨w.heap.size + 1, k, none⟩) hs0 (fun e => by cases e; exact hbg rfl)
      clear HF HT hs0 hS3 hG3
      cases c with
      | false =>
        clear hs3
        go_wp2_with fail
        go_roundw
        case rel => exact ⟨k + 1, F, by omega, by go_num, by omega, ⟨HF3.src.mono (by omega), HF3.row, HF3.gr, HF3.lt⟩, HT3⟩
        case measure => simp [intOf]; omega
      | true =>
        have HHS : Hid (∀ w', w3.grownBy w' (some b) → w'.cell? ⟨w.heap.size + 1, k, none⟩ = some (.string s0)) := fun w' hg => hg.cell (a := ⟨w.heap.size + 1, k, none⟩) hs3 (fun e => by cases e; exact hbg rfl)
        have hs3' : w3.drew.cell? ⟨w.heap.size + 1, k, none⟩ = some (.string s0) := HHS.out _ (gr_drewL (World.grownBy.refl w3 _))
        have q1 : (0 : Int) ≤ (k : Int) := by omega
        clear hs3
        go_upto_region 7 with fail
        refine wp_region_held_drew (S := fun w' => w'.cell? ⟨w.heap.size + 1, k, none⟩ = some (.string s0)) (by kernel_rfl) hs3' (fun hHeld => ?_)
        refine tkH 0 (.slice ra F.length rc) rfl (Or.inl ⟨by kernel_rfl, by intro w hSw; clear hSw; go_simp⟩) hHeld ?_
        simp only [tkS, Act.put]
        refine tkH 1 (.slice (some ⟨w.heap.size + 1, 0, none⟩) 6 6) rfl (Or.inl ⟨by kernel_rfl, by intro w hSw; clear hSw; go_simp⟩) hHeld ?_
        simp only [tkS, Act.put]
        refine tkH 2 (.int .i64 (k : Int)) rfl (Or.inl ⟨by kernel_rfl, by intro w hSw; clear hSw; go_simp⟩) hHeld ?_
        simp only [tkS, Act.put]
        refine tkH 3 (.pointer (some ⟨w.heap.size + 1, k, none⟩)) rfl (Or.inl ⟨by kernel_rfl, by intro w hSw; clear hSw; go_simp⟩) hHeld ?_
        simp only [tkS, Act.put]
        refine tkH 4 (.string s0) rfl (Or.inl ⟨by kernel_rfl, by intro w hSw; go_simp⟩) hHeld ?_
        simp only [tkS, Act.put]
        refine tkH 5 (.pointer (some ⟨b, 0, none⟩)) rfl (Or.inl ⟨by kernel_rfl, by intro w hSw; clear hSw; go_simp⟩) hHeld ?_
        simp only [tkS, Act.put]
        refine wpAnyH_ready (rs := [6]) (by kernel_rfl) (by simp) ?_
        refine AllReadyH.cons rfl (fun K hK => ?_) AllReadyH.nil
        rw [if_pos (by kernel_rfl)]
        go_simp
        refine (word_any C b _ _ HF3.drew.src (by omega)).mono ?_
        rintro e w5 ⟨s1, rfl, hs1, hS5, hG5⟩
        have HF5 := HF3.drew.next hS5 hG5
        have HT5 := (show Txs w3.drew _ 6 from HT3).grow hG5 (fun e => by cases e; exact hbg rfl)
        clear HF3 HT3 hS5
        refine hK.out _ _ (HHS.out _ (grownBy_trans (gr_drewL (World.grownBy.refl w3 _)) hG5)) (fun hH6 => ?_)
        clear hK K hHeld hG5
        refine tkH 7 (.agg #[.string s0, .string s1]) rfl (Or.inl ⟨by kernel_rfl, by intro w hSw; clear hSw; go_simp⟩) hH6 ?_
        simp only [tkS, Act.put]
        refine wpAnyH_ready (rs := [8]) (by kernel_rfl) (by simp) ?_
        refine AllReadyH.cons rfl (fun K hK => ?_) AllReadyH.nil
        rw [if_pos (by kernel_rfl)]
        go_simp
        have HF6 := HF5.alloc (.cells #[.string s0, .string s1] 46)
        have HT6 := HT5.alloc (.cells #[.string s0, .string s1] 46)
        have hR6 := one_rdM w5 s0 s1
        clear HF5 HT5
        refine hK.out _ _ (cell_on (below_alloc _ _) hH6) (fun hH7 => ?_)
        clear hK K hH6
        refine wpAnyH_ready (rs := [9]) (by kernel_rfl) (by simp) ?_
        refine AllReadyH.cons rfl (fun K hK => ?_) AllReadyH.nil
        rw [if_pos (by kernel_rfl)]
        refine wp_append_rdM _ _ 26 rfl w.heap.size 46 i0 (.agg #[.string ByteArray.empty, .string ByteArray.empty]) 2 32 Try.underlying26 hi hz0 hz1 hz2 rfl (by decide) _ _ _ rfl HF6.row _ _ 1 _ rfl hR6 (prCs_one _) (by unfold maxLen; omega) (by omega) HF6.gr.size ?_
        intro v8 w8 ho8 hg8
        have HF8 := HF6.app rfl ho8 hg8
        have HT8 := HT6.grow hg8 (HT6.ne HF6.row)
        have hs8 : w8.cell? ⟨w.heap.size + 1, k, none⟩ = some (.string s0) := hg8.cell (a := ⟨w.heap.size + 1, k, none⟩) hH7 (HT6.ne HF6.row)
        have hG9 : (F ++ [(s0, s1)]).length = F.length + 1 := by simp
        have HG9 : Hid _ := hG9
        clear hG9
        generalize F ++ [(s0, s1)] = G at *
        obtain ⟨r8, c8, e8⟩ := own_sliceD HF8.row
        subst e8
        refine hK.out _ _ hs8 (fun hH8 => ?_)
        clear hK K hH7 HF6 HT6 hR6 hg8 ho8 hs8
        refine tkH 10 (.slice r8 G.length c8) rfl (Or.inl ⟨by kernel_rfl, by intro w hSw; clear hSw; go_simp⟩) hH8 ?_
        simp only [tkS, Act.put]
        refine wpAnyH_done (by kernel_rfl) ?_ _
        clear hH8 hs3' HHS
        go_wp2_with fail
        go_roundw
        case rel => exact ⟨k + 1, G, by omega, by go_num, by have := HG9.out; omega, ⟨HF8.src.mono (by omega), HF8.row, HF8.gr, HF8.lt⟩, HT8⟩
        case measure => simp [intOf]; omega
    · obtain rfl : k = 6 := by omega
      have q0 : ¬ ((6 : Nat) : Int) < 6 := by omega
      clear HT hbg
      go_wp2_with fail
      refine (srcNext_any C b _ 30 _ HF.src (by omega) (by omega) (by omega)).mono ?_
      rintro e w3 ⟨c, rfl, c0, c1, hS3, hG3⟩
      have HF3 := HF.next hS3 hG3
      clear HF hS3 hG3
      by_cases h0 : c = 0
      · subst h0
        go_wp2_with fail
        have HF4 := HF3.alloc (.cells #[.string ⟨#[]⟩, .string ⟨#[97]⟩, .string ⟨#[122, 122]⟩] 9)
        have HT4 : Txs (w3.alloc (.cells #[.string ⟨#[]⟩, .string ⟨#[97]⟩, .string ⟨#[122, 122]⟩] 9)) w3.heap.size 3 := ⟨_, heap_new _ _ _, fun k hk => by rcases (by omega : k = 0 ∨ k = 1 ∨ k = 2) with rfl | rfl | rfl <;> exact ⟨_, rfl⟩⟩
        have hb3 : b ≠ w3.heap.size := by have := HF3.gr.size; have := HF3.lt; omega
        refine (srcNext_any C b _ 3 _ HF4.src (by omega) (by omega) (by omega)).mono ?_
        rintro e w5 ⟨r, rfl, r0, r1, hS5, hG5⟩
        have HF5 := HF4.next hS5 hG5
        have HT5 := HT4.grow hG5 (fun e => by cases e; exact hb3 rfl)
        obtain ⟨rn, rfl⟩ : ∃ rn : Nat, r = (rn : Int) := ⟨r.toNat, by omega⟩
        obtain ⟨s0, hs0⟩ := HT5.at' (show rn < 3 by omega)
        have HF6 := HF5.alloc (.cells #[.string s0, .string ByteArray.empty] 46)
        have hR6 := one_rdM w5 s0 ByteArray.empty
        clear HF3 HF4 HT4 hb3 hS5 hG5 HF5 HT5
        go_wp2_with (at_builtin; refine wpList_append_rdM rfl _ _ 26 rfl w.heap.size 46 i0 (.agg #[.string ByteArray.empty, .string ByteArray.empty]) 2 32 Try.underlying26 hi hz0 hz1 hz2 rfl (by decide) _ _ _ rfl HF6.row _ _ 1 _ rfl hR6 (prCs_one _) (by unfold maxLen; omega) (by omega) HF6.gr.size ?_)
        intro v8 w8 ho8 hg8
        have HF8 := HF6.app rfl ho8 hg8
        obtain ⟨r8, c8, e8⟩ := own_sliceD HF8.row
        have hG9 : (F ++ [(s0, ByteArray.empty)]).length ≤ 65 := by simp; omega
        subst e8
        generalize F ++ [(s0, ByteArray.empty)] = G at *
        clear HF6 hR6 hg8 ho8 hs0
        go_wp2_with fail
        go_ret
        exact ⟨_, G, rfl, hG9, ⟨HF8.src.mono (by omega), HF8.row, HF8.gr, HF8.lt⟩⟩
      · by_cases h1 : c = 1
        · subst h1
          go_wp2_with fail
          have HF4 := Fr.made HF3.src HF3.gr HF3.lt
          clear HF3
          go_loopw [3, 6] (fun ts ti wr => ∃ (k : Nat) (G : List Pr), k ≤ 65 ∧ ti = .int .i64 (k : Int) ∧ G.length ≤ k ∧ Fr C b (A + 60 + 6 * k) w wr ts G) (fun _ ti _ => (65 - intOf ti).toNat)
          case atStart => exact ⟨0, [], by omega, rfl, by simp, ⟨HF4.src.mono (by omega), HF4.row, HF4.gr, HF4.lt⟩⟩
          case round =>
            clear HF4
            obtain ⟨k, G, hk, rfl, hG, HF⟩ := hrel
            obtain ⟨ga, gc, e⟩ := own_sliceD HF.row
            subst e
            go_wp2_with fail
            refine (srcNext_any C b _ 2 _ HF.src (by omega) (by omega) (by omega)).mono ?_
            rintro e w5 ⟨r, rfl, r0, r1, hS5, hG5⟩
            have HF5 := HF.next hS5 hG5
            clear HF hS5 hG5
            by_cases hlt9 : (k : Int) < 64 + r
            · have ho : Own 5 (w5.alloc (.cells #[.int .u8 (65 + (k : Int) / 26), .int .u8 (97 + (k : Int) % 26)] 5)) w5.heap.size (.slice (some ⟨w5.heap.size, 0, none⟩) 2 2) ([65 + (k : Int) / 26, 97 + (k : Int) % 26].map (Value.int .u8)) := own_of (World.ownsRow_lit w5 #[.int .u8 (65 + (k : Int) / 26), .int .u8 (97 + (k : Int) % 26)] 2 (Nat.le_refl _) (by decide) (by simp))
              have hst := run_string_of ho.rd
              have HF6 := HF5.alloc (.cells #[.int .u8 (65 + (k : Int) / 26), .int .u8 (97 + (k : Int) % 26)] 5)
              generalize ofInts [65 + (k : Int) / 26, 97 + (k : Int) % 26] = s0 at hst
              have HF7 := HF6.alloc (.cells #[.string s0, .string ByteArray.empty] 46)
              have hR7 := one_rdM (w5.alloc (.cells #[.int .u8 (65 + (k : Int) / 26), .int .u8 (97 + (k : Int) % 26)] 5)) s0 ByteArray.empty
              rw [World.size_alloc] at hR7
              clear ho HF5 HF6
              go_wp2_with (first | (at_builtin; refine wpList_append_rdM rfl _ _ 26 rfl w.heap.size 46 i0 (.agg #[.string ByteArray.empty, .string ByteArray.empty]) 2 32 Try.underlying26 hi hz0 hz1 hz2 rfl (by decide) _ _ _ rfl HF7.row _ _ 1 _ rfl hR7 (prCs_one _) (by unfold maxLen; omega) (by omega) HF7.gr.size ?_) | (refine wpList_convertL rfl _ _ _ rfl _ _ rfl hst ?_))
              intro v8 w8 ho8 hg8
              have HF8 := HF7.app rfl ho8 hg8
              obtain ⟨r8, c8, e8⟩ := own_sliceD HF8.row
              have hG9 : (G ++ [(s0, ByteArray.empty)]).length = G.length + 1 := by simp
              have HG9 : Hid _ := hG9
              subst e8
              clear hG9
              generalize G ++ [(s0, ByteArray.empty)] = G' at *
              clear HF7 hR7 hg8 ho8 hst
              go_wp2_with fail
              go_roundw
              case rel => exact ⟨k + 1, G', by omega, by go_num, by have := HG9.out; omega, ⟨HF8.src.mono (by omega), HF8.row, HF8.gr, HF8.lt⟩⟩
              case measure => simp [intOf]; omega
            · go_wp2_with fail
              go_ret
              exact ⟨_, G, rfl, by omega, ⟨HF5.src.mono (by omega), HF5.row, HF5.gr, HF5.lt⟩⟩
        · go_wp2_with fail
          go_ret
          exact ⟨_, F, rfl, by omega, ⟨HF3.src.mono (by omega), HF3.row, HF3.gr, HF3.lt⟩⟩
end Go.Proofs.Ytagnpahkhaighaa
