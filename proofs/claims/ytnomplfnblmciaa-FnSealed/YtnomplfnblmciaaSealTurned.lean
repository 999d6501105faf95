/- The code's turned: bytes xored with the stream. -/
import Derived.Test.YtnomplfnblmciaaSealNext
namespace Go.Proofs.Ytnomplfnblmciaa
open Go.RowKit
set_option linter.unusedVariables false

theorem Own.sameT {e : TypeId} {w w' : World} {B : Nat} {v : Value} {cs : List Value} (h : Own e w B v cs) (hs : ∀ k, v.ownBlock = Option.some k → w'.heap[k]? = w.heap[k]?) : Own e w' B v cs := by
  obtain ⟨h1, h2⟩ := h
  refine ⟨h1, ?_⟩
  rcases h2 with h2 | ⟨g, cap, cur, hv, hb, hh, r⟩
  · exact .inl h2
  · exact .inr ⟨g, cap, cur, hv, hb, by rw [hs g (by rw [hv]; rfl)]; exact hh, r⟩
/-- A made slice of bytes, k of which are written. -/
def outC (key : List Int) (n : Nat) (b : List Int) (k : Nat) : List Value := (List.range k).map (fun i => Value.int .u8 (maskAt key n b i)) ++ (List.replicate b.length (Value.int .u8 0)).drop k
theorem outC_len (key : List Int) (n : Nat) (b : List Int) (k : Nat) (h : k ≤ b.length) : (outC key n b k).length = b.length := by simp [outC]; omega
theorem outC_zero (key : List Int) (n : Nat) (b : List Int) : outC key n b 0 = List.replicate b.length (Value.int .u8 0) := by simp [outC]
theorem outC_step (key : List Int) (n : Nat) (b : List Int) (k : Nat) (h : k < b.length) : (outC key n b k).set k (.int .u8 (maskAt key n b k)) = outC key n b (k + 1) := range_step _ k _ (by rw [List.length_replicate]; exact h)
theorem outC_end (key : List Int) (n : Nat) (b : List Int) : outC key n b b.length = (maskL key n b).map (Value.int .u8) := by simp [outC, maskL, Function.comp_def]

set_option maxHeartbeats 4000000 in
set_option maxRecDepth 100000 in
theorem turned_any (C : Nat) (w : World) (vb : Value) (key b : List Int) (n : Nat) (hC : C ≤ w.heap.size) (hk : ∀ c ∈ key, 0 ≤ c ∧ c ≤ 255) (hk8 : key.length = 8) (hn : n ≤ 1000000000000) (hb : ∀ c ∈ b, 0 ≤ c ∧ c ≤ 255) (hbl : b.length ≤ 4096) (hrb : Rd C w vb (b.map (Value.int .u8))) :
    Calls Try.prog 22 #[.agg (arr8 key).toArray, .int .i64 (n : Int), vb] w fun e w' => ∃ g, e = .returned (.slice (some ⟨g, 0, none⟩) b.length b.length) ∧ Own 5 w' w.heap.size (.slice (some ⟨g, 0, none⟩) b.length b.length) ((maskL key n b).map (Value.int .u8)) ∧ Below w.heap.size w w' := by
  obtain ⟨i0, hi, hz0, hz1, hz2⟩ := info_parts info5
  obtain ⟨bo, cb, rfl, _, _, _, hrc⟩ := hrb
  rw [List.length_map] at hrc ⊢
  have HK : Hid _ := arr8_info hk8
  have hr0 : (w.alloc (.cells (arr8 key).toArray 41)).rangeAt w.heap.size 0 (arr8 key) := range8_made (Below.refl _ _)
  have hb0 := below_alloc w (.cells (arr8 key).toArray 41)
  have e0 : (w.alloc (.cells (arr8 key).toArray 41)).heap.size = w.heap.size + 1 := by simp
  have hST := stream_any (w.alloc (.cells (arr8 key).toArray 41)) key n hk8
  rw [e0] at hST
  go_enter Try.func22, Try.ntmps22
  go_wp2_with (refine wpList_load_mid rfl 41 _ rfl w.heap.size 0 rfl (arr8 key) _ hr0 Try.underlying41 rfl HK.out ?_)
  refine hST.mono ?_
  rintro e w1 ⟨rfl, ⟨cur0, hS1⟩, hb1⟩
  have hbw : Below w.heap.size w w1 := hb0.trans (hb1.mono (by omega))
  have hlt1 := hS1.lt
  generalize hB : w.heap.size + 1 = B at *
  clear hST hb0 hb1 hr0 e0
  go_wp2_with (at_make; refine wpList_make_full _ rfl _ _ 22 rfl w1.heap.size 5 i0 (.int .u8 0) 1 Try.underlying22 hi hz0 hz1 _ _ _ _ b.length rfl rfl rfl rfl (by rw [hz2]; omega) (by unfold maxLen; omega) (Nat.le_refl _) ?_)
  intro w2 hown hgrow
  have ho2 := own_of hown
  rw [toList_madeCells_one, ← outC_zero key n b] at ho2
  have hb2 : Below w1.heap.size w1 w2 := (Below.refl _ _).grown hgrow (Nat.le_refl _) (fun k hk => by cases hk)
  have hbw2 : Below w.heap.size w w2 := below_seq hbw hb2
  have hS2 := hS1.below hb2
  have z2 := hbw2.size
  have hg2 : w1.heap.size < w2.heap.size := (World.ownsRow.lt hown w1.heap.size rfl).2
  clear hown hgrow hb2 hS1
  generalize w1.heap.size = g at *
  go_wp2_with fail
  go_loopw [19] (fun ti wr => ∃ (k : Nat) (cur : List Int), k ≤ b.length ∧ ti = .int .i64 k ∧ Hid (Strm wr B key n k cur) ∧ Hid (k % 8 ≠ 0 → cur = blkL key n (k / 8)) ∧ Hid (Own 5 wr g (.slice (some ⟨g, 0, none⟩) b.length b.length) (outC key n b k)) ∧ Below w.heap.size w wr) (fun ti _ => b.length - (intOf ti).toNat)
  case atStart => exact ⟨0, cur0, Nat.zero_le _, rfl, hS2, fun h => absurd rfl h, ho2, hbw2⟩
  case round =>
    clear ho2 hS2
    obtain ⟨k, cur, hkl, rfl, HS, HC, HO, hbel⟩ := hrel
    by_cases hlt : k < b.length
    · obtain ⟨gb, off, rfl, hgb, hcb⟩ := hrc (by omega)
      have cB := (hbel.cell (p := ⟨gb, off + k, none⟩) (by show gb < w.heap.size; omega)).trans (hcb k (.int .u8 b[k]) (by simp [hlt]))
      have hbk := hb b[k] (List.getElem_mem hlt)
      have hmk : maskAt key n b k = xorI b[k] (strmAt key n k) := by unfold maskAt; rw [List.getD_eq_getElem?_getD, List.getElem?_eq_getElem hlt]; rfl
      have hxr := xor_u8 hbk (strmAt_byte key n k)
      have HN := fun (_ : World) => next_any wr B key cur n k hk hk8 hn (by omega) HS.out HC.out
      have HSP : Hid _ := outC_step key n b k hlt
      rw [hmk] at HSP
      have hol : (outC key n b k).length = b.length := outC_len key n b k hkl
      have j0 : (0 : Int) ≤ (k : Int) := by omega
      have j1 : (k : Int) < (b.length : Int) := by omega
      generalize b[k] = x at *
      generalize strmAt key n k = y at *
      generalize hQ : outC key n b k = Q at *
      have HL : Hid (Q.length = b.length) := hol
      clear hcb hrc HS HC hmk hQ hol
      have hkq : k < Q.length := by rw [HL.out]; exact hlt
      have HFIN : Hid (∀ wz, KpS B wr wz → wz.cell? ⟨g, k, none⟩ = some Q[k] ∧ wz.frozen? ⟨g, k, none⟩ = false ∧ Below w.heap.size w wz ∧ Hid (Own 5 wz g (.slice (some ⟨g, 0, none⟩) b.length b.length) Q)) := fun wz hz => by
        have h1 : Own 5 wz g (.slice (some ⟨g, 0, none⟩) b.length b.length) Q := HO.out.sameT (fun j hj => by
          have e : g = j := by simpa [Value.ownBlock] using hj
          subst e
          exact hz.2 g (by omega) (by have := (World.ownsRow.lt HO.out g rfl).2; omega))
        exact ⟨own_cell h1 hkq, own_free h1 k, hbel.trans (hz.1.mono (by omega)), h1⟩
      go_wp2_with (go_at_call 37; refine (HN wr).mono ?_; rintro e w5 ⟨rfl, hS5, hK5⟩; obtain ⟨c5, f5, hb5, HO5⟩ := HFIN.out w5 hK5)
      have HO6 : Hid (Own 5 (w5.setCell ⟨g, k, none⟩ (.int .u8 (xorI x y))) g (.slice (some ⟨g, 0, none⟩) b.length b.length) (outC key n b (k + 1))) := by
        have h := own_set HO5.out k (.int .u8 (xorI x y))
        rw [HSP.out] at h
        exact h
      have HB6 : Below w.heap.size w (w5.setCell ⟨g, k, none⟩ (.int .u8 (xorI x y))) := hb5.setCell (p := ⟨g, k, none⟩) (show w.heap.size ≤ g by omega) _
      have HS6 : Hid (Strm (w5.setCell ⟨g, k, none⟩ (.int .u8 (xorI x y))) B key n (k + 1) (blkL key n (k / 8))) := by
        have h := hS5
        exact ⟨rangeAt_setCell_far h.ck _ _ (show g ≠ B by omega), by rw [World.cell?_setCell_far w5 ⟨g, k, none⟩ ⟨B + 1, 0, none⟩ _ (show g ≠ B + 1 by omega)]; exact h.cn, rangeAt_setCell_far h.cb _ _ (show g ≠ B + 2 by omega), there_setCell_any h.tb _ _ (show g ≠ B + 2 by omega), by rw [World.cell?_setCell_far w5 ⟨g, k, none⟩ ⟨B + 3, 0, none⟩ _ (show g ≠ B + 3 by omega)]; exact h.ct, by rw [World.frozen?_setCell]; exact h.ft, by simp; exact h.lt, h.l8⟩
      go_roundw
      case rel => exact ⟨k + 1, blkL key n (k / 8), by omega, by go_num, HS6, fun h9 => by rw [show (k + 1) / 8 = k / 8 by omega], HO6, HB6⟩
      case measure => simp [intOf]; omega
    · go_wp2_with fail
      go_ret
      refine ⟨_, rfl, ?_, hbel⟩
      have hkb : k = b.length := by omega
      subst hkb
      rw [← outC_end]
      exact HO.out.mono (by omega)
end Go.Proofs.Ytnomplfnblmciaa
