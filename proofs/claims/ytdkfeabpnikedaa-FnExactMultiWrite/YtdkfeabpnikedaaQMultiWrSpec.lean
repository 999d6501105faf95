/- What the specification's MultiWrite does. -/
import Derived.Test.YtdkfeabpnikedaaQMultiWrImplToWriteSpec
namespace Go.Proofs.Ytdkfeabpnikedaa
open Go.RowKit
set_option linter.unusedVariables false

set_option maxHeartbeats 4000000 in
set_option maxRecDepth 100000 in
theorem specMultiWrite_any (C : Nat) (w : World) (v ve : Value) (xs : List Int) (ls : List En) (c : Int) (s : ByteArray) (hs : s.size ≤ 9223372036854775807) (hC : C ≤ w.heap.size) (hv : Rd C w v (xs.map (Value.int .i64))) (he : RdE C w ve ls) :
    Calls Try.prog 9 #[.agg #[v, ve], .int .i64 c, .string s] w (SvAns (wrV xs ls c s) (wrE xs ls c s) (wrC xs ls c s) w) := by
  have hB0 : Below w.heap.size w ((w.alloc (.cells #[v, ve] 32)).alloc (.cells #[.slice none 0 0, .slice none 0 0] 32)) := below_then (below_alloc _ _) _
  have h1 := l03EntriesOK_any C ((w.alloc (.cells #[v, ve] 32)).alloc (.cells #[.slice none 0 0, .slice none 0 0] 32)) v ve xs ls (Nat.le_trans hC hB0.size) (hv.belowW hB0 hC) (he.below (hB0.mono hC))
  have hsl : ∃ ao len cap, v = .slice ao len cap := by
    obtain ⟨ao, cap, rfl, _⟩ := hv
    exact ⟨_, _, _, rfl⟩
  obtain ⟨ao, la, ca, rfl⟩ := hsl
  have he0 := he
  obtain ⟨eo, ec, rfl, _⟩ := he0
  have hD0 : Dy ((w.alloc (.cells #[.slice ao la ca, .slice eo ls.length ec] 32)).alloc (.cells #[.slice none 0 0, .slice none 0 0] 32)) w.heap.size (.slice ao la ca) (.slice eo ls.length ec) := (Dy.made w (.slice ao la ca) (.slice eo ls.length ec) 32).on (below_alloc _ _)
  have hR0 : Dy ((w.alloc (.cells #[.slice ao la ca, .slice eo ls.length ec] 32)).alloc (.cells #[.slice none 0 0, .slice none 0 0] 32)) (w.heap.size + 1) (.slice none 0 0) (.slice none 0 0) := by
    have := Dy.made (w.alloc (.cells #[.slice ao la ca, .slice eo ls.length ec] 32)) (.slice none 0 0) (.slice none 0 0) 32
    rw [World.size_alloc] at this
    exact this
  have HD0 : Hid _ := hD0
  obtain ⟨⟨e0, e1⟩, _⟩ := hD0
  cases hok : okJ xs ls with
  | false =>
    obtain ⟨q1, q2, q3⟩ := wr_bad c s hok
    have HA : Hid _ := And.intro q1 (And.intro q2 q3)
    rw [hok] at h1
    clear q1 q2 q3 hok
    go_enter Try.func9, Try.ntmps9
    go_wp2_with fail
    refine h1.mono ?_
    rintro e w1 ⟨rfl, hB⟩
    have hB1 := below_seq hB0 hB
    obtain ⟨⟨r0, r1⟩, rf⟩ := hR0.on hB
    have f0 := rf 0
    have f1 := rf 1
    have HR : Hid _ := (Dy.set1 (Dy.set0 (show Dy w1 (w.heap.size + 1) _ _ from ⟨⟨r0, r1⟩, rf⟩) (.slice none 0 0)) (.slice none 0 0)).1
    have hBf := (hB1.setCell (p := ⟨w.heap.size + 1, 0, none⟩) (by show w.heap.size ≤ w.heap.size + 1; omega) (.slice none 0 0)).setCell (p := ⟨w.heap.size + 1, 1, none⟩) (by show w.heap.size ≤ w.heap.size + 1; omega) (.slice none 0 0)
    clear e0 e1 h1 hR0
    go_wp2_with fail
    refine bodyPost_ret (v := .tuple #[.agg #[.slice none 0 0, .slice none 0 0], .int .i64 1]) ?_ rfl ⟨_, _, by rw [HA.out.1], by rw [HA.out.2.1, HA.out.2.2]; exact svNone _ _ _, hBf⟩
    simp [results, Try.results9, go_sem, HR.out.1, HR.out.2]
  | true =>
    have hvk := vecOK_of hok
    have HW1 : Hid (¬ ((0 ≤ c ∧ c < 16) ∧ s.size ≤ 200) → wrC xs ls c s = 4 ∧ wrV xs ls c s = [] ∧ wrE xs ls c s = []) := fun h => wr_out hok h
    have HW2 : Hid ((0 ≤ c ∧ c < 16) ∧ s.size ≤ 200 → xs.getD c.toNat 0 = 1000000000000 → wrC xs ls c s = 11 ∧ wrV xs ls c s = [] ∧ wrE xs ls c s = []) := fun h h' => wr_full hok h h'
    have HW3 : Hid ((0 ≤ c ∧ c < 16) ∧ s.size ≤ 200 → ¬ xs.getD c.toNat 0 = 1000000000000 → wrC xs ls c s = 0 ∧ wrV xs ls c s = xs.set c.toNat (xs.getD c.toNat 0 + 1) ∧ wrE xs ls c s = [(xs.getD c.toNat 0 + 1, c, s)]) := fun h h' => wr_done hok h h'
    rw [hok] at h1
    clear hok
    go_enter Try.func9, Try.ntmps9
    go_wp2_with fail
    refine h1.mono ?_
    rintro e w1 ⟨rfl, hB⟩
    have hB1 := below_seq hB0 hB
    have hR1 := hR0.on hB
    clear e0 e1
    obtain ⟨⟨e0, e1⟩, _⟩ := Dy.on HD0.out hB
    go_wp2_with fail
    refine (l03Write_any C w1 (.slice ao la ca) xs c s hs (Nat.le_trans hC hB1.size) hvk.1 (hv.belowW hB1 hC)).mono ?_
    rintro e w2 hL
    have hR1l := hR1.lt
    clear h1 hR0 e0 e1
    rcases hL with ⟨hin, rfl, hb2⟩ | ⟨hin, hx, rfl, hb2⟩ | ⟨hin, hx, g, cap, rfl, ho2, hb2⟩
    · have HA : Hid _ := HW1.out hin
      have hb4 := below_seq hb2 (below_then (below_alloc w2 (.cells #[.slice none 0 0] 29)) (.cells #[.int .i64 0, .int .i64 0, .string ByteArray.empty] 60))
      have hR4 := hR1.on hb4
      have hB4 := below_seq hB1 hb4
      clear hR1 hB1 hb2 hb4
      go_upto_region 4 with fail
      change Code.wp _ _ _ _ ((w2.alloc (.cells #[.slice none 0 0] 29)).alloc (.cells #[.int .i64 0, .int .i64 0, .string ByteArray.empty] 60))
      generalize (w2.alloc (.cells #[.slice none 0 0] 29)).alloc (.cells #[.int .i64 0, .int .i64 0, .string ByteArray.empty] 60) = w4 at hR4 hB4 ⊢
      obtain ⟨⟨r0, r1⟩, rf⟩ := hR4
      have f0 := rf 0
      have f1 := rf 1
      have HR : Hid _ := (Dy.set1 (Dy.set0 (show Dy w4 (w.heap.size + 1) _ _ from ⟨⟨r0, r1⟩, rf⟩) (.slice none 0 0)) (.slice none 0 0)).1
      have hBf := (hB4.setCell (p := ⟨w.heap.size + 1, 0, none⟩) (by show w.heap.size ≤ w.heap.size + 1; omega) (.slice none 0 0)).setCell (p := ⟨w.heap.size + 1, 1, none⟩) (by show w.heap.size ≤ w.heap.size + 1; omega) (.slice none 0 0)
      go_wp2_with fail
      refine bodyPost_ret (v := .tuple #[.agg #[.slice none 0 0, .slice none 0 0], .int .i64 4]) ?_ rfl ⟨_, _, by rw [HA.out.1], by rw [HA.out.2.1, HA.out.2.2]; exact svNone _ _ _, hBf⟩
      simp [results, Try.results9, go_sem, HR.out.1, HR.out.2]
    · have HA : Hid _ := HW2.out hin hx
      have hb4 := below_seq hb2 (below_then (below_alloc w2 (.cells #[.slice none 0 0] 29)) (.cells #[.int .i64 0, .int .i64 0, .string ByteArray.empty] 60))
      have hR4 := hR1.on hb4
      have hB4 := below_seq hB1 hb4
      clear hR1 hB1 hb2 hb4
      go_upto_region 4 with fail
      change Code.wp _ _ _ _ ((w2.alloc (.cells #[.slice none 0 0] 29)).alloc (.cells #[.int .i64 0, .int .i64 0, .string ByteArray.empty] 60))
      generalize (w2.alloc (.cells #[.slice none 0 0] 29)).alloc (.cells #[.int .i64 0, .int .i64 0, .string ByteArray.empty] 60) = w4 at hR4 hB4 ⊢
      obtain ⟨⟨r0, r1⟩, rf⟩ := hR4
      have f0 := rf 0
      have f1 := rf 1
      have HR : Hid _ := (Dy.set1 (Dy.set0 (show Dy w4 (w.heap.size + 1) _ _ from ⟨⟨r0, r1⟩, rf⟩) (.slice none 0 0)) (.slice none 0 0)).1
      have hBf := (hB4.setCell (p := ⟨w.heap.size + 1, 0, none⟩) (by show w.heap.size ≤ w.heap.size + 1; omega) (.slice none 0 0)).setCell (p := ⟨w.heap.size + 1, 1, none⟩) (by show w.heap.size ≤ w.heap.size + 1; omega) (.slice none 0 0)
      go_wp2_with fail
      refine bodyPost_ret (v := .tuple #[.agg #[.slice none 0 0, .slice none 0 0], .int .i64 11]) ?_ rfl ⟨_, _, by rw [HA.out.1], by rw [HA.out.2.1, HA.out.2.2]; exact svNone _ _ _, hBf⟩
      simp [results, Try.results9, go_sem, HR.out.1, HR.out.2]
    · have HA : Hid _ := HW3.out hin hx
      obtain ⟨y, hy⟩ : ∃ y, xs.getD c.toNat 0 + 1 = y := ⟨_, rfl⟩
      rw [hy] at HA ho2 ⊢
      clear hx hy HW1 HW2 HW3
      have hz1 := hb2.size
      have hgl := ho2.blk g rfl
      have hgb := ho2.lt g rfl
      have hb4 := below_seq hb2 (below_then (below_alloc w2 (.cells #[.slice (some ⟨g, 0, none⟩) 16 cap] 29)) (.cells #[.int .i64 y, .int .i64 c, .string s] 60))
      have hR4 := hR1.on hb4
      have hB4 := below_seq hB1 hb4
      have ho4 : Own 3 ((w2.alloc (.cells #[.slice (some ⟨g, 0, none⟩) 16 cap] 29)).alloc (.cells #[.int .i64 y, .int .i64 c, .string s] 60)) w1.heap.size (.slice (some ⟨g, 0, none⟩) 16 cap) ((xs.set c.toNat y).map (Value.int .i64)) := World.ownsRow.alloc (World.ownsRow.alloc ho2 _) _
      have v4 : ((w2.alloc (.cells #[.slice (some ⟨g, 0, none⟩) 16 cap] 29)).alloc (.cells #[.int .i64 y, .int .i64 c, .string s] 60)).cell? ⟨w2.heap.size, 0, none⟩ = some (.slice (some ⟨g, 0, none⟩) 16 cap) := alloc_keep (cell_made1 (Below.refl (w2.alloc (.cells #[.slice (some ⟨g, 0, none⟩) 16 cap] 29)).heap.size (w2.alloc (.cells #[.slice (some ⟨g, 0, none⟩) 16 cap] 29)))) _
      have t4 := three_cells (Below.refl ((w2.alloc (.cells #[.slice (some ⟨g, 0, none⟩) 16 cap] 29)).alloc (.cells #[.int .i64 y, .int .i64 c, .string s] 60)).heap.size ((w2.alloc (.cells #[.slice (some ⟨g, 0, none⟩) 16 cap] 29)).alloc (.cells #[.int .i64 y, .int .i64 c, .string s] 60)))
      have hz4 : ((w2.alloc (.cells #[.slice (some ⟨g, 0, none⟩) 16 cap] 29)).alloc (.cells #[.int .i64 y, .int .i64 c, .string s] 60)).heap.size = w2.heap.size + 1 + 1 := by simp
      rw [World.size_alloc] at t4
      clear hR1 hB1 hb2 hb4 ho2
      go_upto_region 4 with fail
      change Code.wp _ _ _ _ ((w2.alloc (.cells #[.slice (some ⟨g, 0, none⟩) 16 cap] 29)).alloc (.cells #[.int .i64 y, .int .i64 c, .string s] 60))
      generalize (w2.alloc (.cells #[.slice (some ⟨g, 0, none⟩) 16 cap] 29)).alloc (.cells #[.int .i64 y, .int .i64 c, .string s] 60) = w4 at hR4 hB4 ho4 v4 t4 hz4 ⊢
      obtain ⟨t0, t1, t2⟩ := t4
      obtain ⟨⟨r0, r1⟩, rf⟩ := hR4
      have f0 := rf 0
      have f1 := rf 1
      have hlt4 : w.heap.size + 1 < w4.heap.size := by omega
      have HR : Hid _ := ((Dy.set1 (Dy.set0 (show Dy w4 (w.heap.size + 1) _ _ from ⟨⟨r0, r1⟩, rf⟩) (.slice (some ⟨g, 0, none⟩) 16 cap)) (.slice (some ⟨w4.heap.size, 0, none⟩) 1 1)).on (below_alloc _ (.cells #[.int .i64 y, .int .i64 c, .string s] 60))).1
      have hBf := below_then ((hB4.setCell (p := ⟨w.heap.size + 1, 0, none⟩) (by show w.heap.size ≤ w.heap.size + 1; omega) (.slice (some ⟨g, 0, none⟩) 16 cap)).setCell (p := ⟨w.heap.size + 1, 1, none⟩) (by show w.heap.size ≤ w.heap.size + 1; omega) (.slice (some ⟨w4.heap.size, 0, none⟩) 1 1)) (.cells #[.int .i64 y, .int .i64 c, .string s] 60)
      have hoV : Own 3 (((w4.setCell ⟨w.heap.size + 1, 0, none⟩ (.slice (some ⟨g, 0, none⟩) 16 cap)).setCell ⟨w.heap.size + 1, 1, none⟩ (.slice (some ⟨w4.heap.size, 0, none⟩) 1 1)).alloc (.cells #[.int .i64 y, .int .i64 c, .string s] 60)) w.heap.size (.slice (some ⟨g, 0, none⟩) 16 cap) ((xs.set c.toNat y).map (Value.int .i64)) := Own.mono (B := w1.heap.size) (World.ownsRow.alloc (Own.setK (Own.setK ho4 0 _ hR1l) 1 _ hR1l) _) (by omega)
      have hoE : OwnE (((w4.setCell ⟨w.heap.size + 1, 0, none⟩ (.slice (some ⟨g, 0, none⟩) 16 cap)).setCell ⟨w.heap.size + 1, 1, none⟩ (.slice (some ⟨w4.heap.size, 0, none⟩) 1 1)).alloc (.cells #[.int .i64 y, .int .i64 c, .string s] 60)) w.heap.size (.slice (some ⟨w4.heap.size, 0, none⟩) 1 1) [(y, c, s)] := by
        have := World.ownsRow_lit ((w4.setCell ⟨w.heap.size + 1, 0, none⟩ (.slice (some ⟨g, 0, none⟩) 16 cap)).setCell ⟨w.heap.size + 1, 1, none⟩ (.slice (some ⟨w4.heap.size, 0, none⟩) 1 1)) (e := 60) (size := 3) #[.int .i64 y, .int .i64 c, .string s] 1 (Nat.le_refl _) (by decide) (by simp)
        have hsz : ((w4.setCell ⟨w.heap.size + 1, 0, none⟩ (.slice (some ⟨g, 0, none⟩) 16 cap)).setCell ⟨w.heap.size + 1, 1, none⟩ (.slice (some ⟨w4.heap.size, 0, none⟩) 1 1)).heap.size = w4.heap.size := by simp
        rw [hsz] at this
        exact OwnE.mono (show OwnE _ _ _ [(y, c, s)] from this) (by omega)
      have hap : Apart (.slice (some ⟨g, 0, none⟩) 16 cap) (.slice (some ⟨w4.heap.size, 0, none⟩) 1 1) := fun i j hi hj => by
        have h1 : g = i := by simpa [Value.ownBlock] using hi
        have h2 : w4.heap.size = j := by simpa [Value.ownBlock] using hj
        omega
      have HS : Hid (Sv _ _ _ _ _ _ _) := ⟨3, hoV, hoE, hap, hoV.blk, fun i hi => (hoE.lt i hi).2⟩
      clear ho4 hB4 hap hoV hoE hz4
      go_wp2_with fail
      refine bodyPost_ret (v := .tuple #[.agg #[.slice (some ⟨g, 0, none⟩) 16 cap, .slice (some ⟨w4.heap.size, 0, none⟩) 1 1], .int .i64 0]) ?_ rfl ⟨_, _, by rw [HA.out.1], by rw [HA.out.2.1, HA.out.2.2]; exact HS.out, hBf⟩
      simp [results, Try.results9, go_sem, HR.out.1, HR.out.2]

end Go.Proofs.Ytdkfeabpnikedaa
