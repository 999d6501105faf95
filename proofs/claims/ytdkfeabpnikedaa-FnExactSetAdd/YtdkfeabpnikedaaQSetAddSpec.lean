/- What the specification's SetAdd does. -/
import Derived.Test.YtdkfeabpnikedaaQSetAddImpl
import Derived.Test.YtdkfeabpnikedaaQMultiWrImplToWriteSpec
namespace Go.Proofs.Ytdkfeabpnikedaa
open Go.RowKit
set_option linter.unusedVariables false

set_option maxHeartbeats 4000000 in
set_option maxRecDepth 100000 in
theorem specSetAdd_any (C : Nat) (w : World) (v ve : Value) (xs : List Int) (ls : List En) (c : Int) (s : ByteArray) (hs : s.size ≤ 9223372036854775807) (hC : C ≤ w.heap.size) (hv : Rd C w v (xs.map (Value.int .i64))) (he : RdE C w ve ls) :
    Calls Try.prog 18 #[.agg #[v, ve], .int .i64 c, .string s] w (SvAns (adV xs ls c s) (adE xs ls c s) (adC xs ls c s) w) := by
  have hB0 : Below w.heap.size w ((w.alloc (.cells #[v, ve] 43)).alloc (.cells #[.slice none 0 0, .slice none 0 0] 43)) := below_then (below_alloc _ _) _
  have h1 := l03EntriesOK_any C ((w.alloc (.cells #[v, ve] 43)).alloc (.cells #[.slice none 0 0, .slice none 0 0] 43)) v ve xs ls (Nat.le_trans hC hB0.size) (hv.belowW hB0 hC) (he.below (hB0.mono hC))
  have hsl : ∃ ao len cap, v = .slice ao len cap := by
    obtain ⟨ao, cap, rfl, _⟩ := hv
    exact ⟨_, _, _, rfl⟩
  obtain ⟨ao, la, ca, rfl⟩ := hsl
  have he0 := he
  obtain ⟨eo, ec, rfl, _⟩ := he0
  have hD0 : Dy ((w.alloc (.cells #[.slice ao la ca, .slice eo ls.length ec] 43)).alloc (.cells #[.slice none 0 0, .slice none 0 0] 43)) w.heap.size (.slice ao la ca) (.slice eo ls.length ec) := (Dy.made w (.slice ao la ca) (.slice eo ls.length ec) 43).on (below_alloc _ _)
  have hR0 : Dy ((w.alloc (.cells #[.slice ao la ca, .slice eo ls.length ec] 43)).alloc (.cells #[.slice none 0 0, .slice none 0 0] 43)) (w.heap.size + 1) (.slice none 0 0) (.slice none 0 0) := by
    have := Dy.made (w.alloc (.cells #[.slice ao la ca, .slice eo ls.length ec] 43)) (.slice none 0 0) (.slice none 0 0) 43
    rw [World.size_alloc] at this
    exact this
  have HD0 : Hid _ := hD0
  obtain ⟨⟨e0, e1⟩, _⟩ := hD0
  cases hok : okJ xs ls with
  | false =>
    obtain ⟨q1, q2, q3⟩ := ad_bad c s hok
    have HA : Hid _ := And.intro q1 (And.intro q2 q3)
    rw [hok] at h1
    clear q1 q2 q3 hok
    go_enter Try.func18, Try.ntmps18
    go_wp2_with fail
    refine h1.mono ?_
    rintro e w1 ⟨rfl, hB⟩
    have hB1 := below_seq hB0 hB
    obtain ⟨⟨r0, r1⟩, rf⟩ := hR0.on hB
    have f0 := rf 0
    have f1 := rf 1
    have HR : Hid _ := (Dy.set1 (Dy.set0 (show Dy w1 (w.heap.size + 1) _ _ from ⟨⟨r0, r1⟩, rf⟩) (.slice none 0 0)) (.slice none 0 0)).1
    have hBf := (hB1.setCell (p := ⟨w.heap.size + 1, 0, none⟩) (by show w.heap.size ≤ w.heap.size + 1; omega) (.slice none 0 0)).setCell (p := ⟨w.heap.size + 1, 1, none⟩) (by show w.heap.size ≤ w.heap.size + 1; omega) (.slice none 0 0)
    clear e0 e1 h1 hR0
    go_wp2_with fail
    refine bodyPost_ret (v := .tuple #[.agg #[.slice none 0 0, .slice none 0 0], .int .i64 1]) ?_ rfl ⟨_, _, by rw [HA.out.1], by rw [HA.out.2.1, HA.out.2.2]; exact svNone _ _ _, hBf⟩
    simp [results, Try.results18, go_sem, HR.out.1, HR.out.2]
  | true =>
    have hvk := vecOK_ofS hok
    have HW1 : Hid (¬ ((0 ≤ c ∧ c < 16) ∧ s.size ≤ 200) → adC xs ls c s = 4 ∧ adV xs ls c s = [] ∧ adE xs ls c s = []) := fun h => ad_out hok h
    have HW2 : Hid ((0 ≤ c ∧ c < 16) ∧ s.size ≤ 200 → xs.getD c.toNat 0 = 1000000000000 → adC xs ls c s = 11 ∧ adV xs ls c s = [] ∧ adE xs ls c s = []) := fun h h' => ad_full hok h h'
    have HW3 : Hid ((0 ≤ c ∧ c < 16) ∧ s.size ≤ 200 → ¬ xs.getD c.toNat 0 = 1000000000000 → ((without ls s).length + 1 ≤ 256 → adC xs ls c s = 0 ∧ adV xs ls c s = xs.set c.toNat (xs.getD c.toNat 0 + 1) ∧ adE xs ls c s = insE (without ls s) (xs.getD c.toNat 0 + 1, c, s)) ∧ (¬ (without ls s).length + 1 ≤ 256 → adC xs ls c s = 11 ∧ adV xs ls c s = [] ∧ adE xs ls c s = [])) := fun h h' => ⟨fun h2 => ad_done hok h h' h2, fun h2 => ad_many hok h h' h2⟩
    rw [hok] at h1
    clear hok
    go_enter Try.func18, Try.ntmps18
    go_wp2_with fail
    refine h1.mono ?_
    rintro e w1 ⟨rfl, hB⟩
    have hB1 := below_seq hB0 hB
    have hR1 := hR0.on hB
    clear e0 e1
    obtain ⟨⟨e0, e1⟩, _⟩ := Dy.on HD0.out hB
    go_wp2_with fail
    refine (l03Write_any C w1 (.slice ao la ca) xs c s hs (Nat.le_trans hC hB1.size) hvk.1 (hv.belowW hB1 hC)).mono ?_
    rintro e w2 hL
    have hR1l := hR1.lt
    clear h1 hR0 e0 e1
    rcases hL with ⟨hin, rfl, hb2⟩ | ⟨hin, hx, rfl, hb2⟩ | ⟨hin, hx, g, cap, rfl, ho2, hb2⟩
    · have HA : Hid _ := HW1.out hin
      have hb4 := below_seq hb2 (below_then (below_alloc w2 (.cells #[.slice none 0 0] 29)) (.cells #[.int .i64 0, .int .i64 0, .string ByteArray.empty] 60))
      have hR4 := hR1.on hb4
      have hB4 := below_seq hB1 hb4
      clear hR1 hB1 hb2 hb4
      go_upto_region 4 with fail
      change Code.wp _ _ _ _ ((w2.alloc (.cells #[.slice none 0 0] 29)).alloc (.cells #[.int .i64 0, .int .i64 0, .string ByteArray.empty] 60))
      generalize (w2.alloc (.cells #[.slice none 0 0] 29)).alloc (.cells #[.int .i64 0, .int .i64 0, .string ByteArray.empty] 60) = w4 at hR4 hB4 ⊢
      obtain ⟨⟨r0, r1⟩, rf⟩ := hR4
      have f0 := rf 0
      have f1 := rf 1
      have HR : Hid _ := (Dy.set1 (Dy.set0 (show Dy w4 (w.heap.size + 1) _ _ from ⟨⟨r0, r1⟩, rf⟩) (.slice none 0 0)) (.slice none 0 0)).1
      have hBf := (hB4.setCell (p := ⟨w.heap.size + 1, 0, none⟩) (by show w.heap.size ≤ w.heap.size + 1; omega) (.slice none 0 0)).setCell (p := ⟨w.heap.size + 1, 1, none⟩) (by show w.heap.size ≤ w.heap.size + 1; omega) (.slice none 0 0)
      go_wp2_with fail
      refine bodyPost_ret (v := .tuple #[.agg #[.slice none 0 0, .slice none 0 0], .int .i64 4]) ?_ rfl ⟨_, _, by rw [HA.out.1], by rw [HA.out.2.1, HA.out.2.2]; exact svNone _ _ _, hBf⟩
      simp [results, Try.results18, go_sem, HR.out.1, HR.out.2]
    · have HA : Hid _ := HW2.out hin hx
      have hb4 := below_seq hb2 (below_then (below_alloc w2 (.cells #[.slice none 0 0] 29)) (.cells #[.int .i64 0, .int .i64 0, .string ByteArray.empty] 60))
      have hR4 := hR1.on hb4
      have hB4 := below_seq hB1 hb4
      clear hR1 hB1 hb2 hb4
      go_upto_region 4 with fail
      change Code.wp _ _ _ _ ((w2.alloc (.cells #[.slice none 0 0] 29)).alloc (.cells #[.int .i64 0, .int .i64 0, .string ByteArray.empty] 60))
      generalize (w2.alloc (.cells #[.slice none 0 0] 29)).alloc (.cells #[.int .i64 0, .int .i64 0, .string ByteArray.empty] 60) = w4 at hR4 hB4 ⊢
      obtain ⟨⟨r0, r1⟩, rf⟩ := hR4
      have f0 := rf 0
      have f1 := rf 1
      have HR : Hid _ := (Dy.set1 (Dy.set0 (show Dy w4 (w.heap.size + 1) _ _ from ⟨⟨r0, r1⟩, rf⟩) (.slice none 0 0)) (.slice none 0 0)).1
      have hBf := (hB4.setCell (p := ⟨w.heap.size + 1, 0, none⟩) (by show w.heap.size ≤ w.heap.size + 1; omega) (.slice none 0 0)).setCell (p := ⟨w.heap.size + 1, 1, none⟩) (by show w.heap.size ≤ w.heap.size + 1; omega) (.slice none 0 0)
      go_wp2_with fail
      refine bodyPost_ret (v := .tuple #[.agg #[.slice none 0 0, .slice none 0 0], .int .i64 11]) ?_ rfl ⟨_, _, by rw [HA.out.1], by rw [HA.out.2.1, HA.out.2.2]; exact svNone _ _ _, hBf⟩
      simp [results, Try.results18, go_sem, HR.out.1, HR.out.2]
    · have HZ : Hid _ := HW3.out hin hx
      obtain ⟨y, hy⟩ : ∃ y, xs.getD c.toNat 0 + 1 = y := ⟨_, rfl⟩
      rw [hy] at HZ ho2 ⊢
      clear hx hy HW1 HW2 HW3
      have hz1 := hb2.size
      have hgl := ho2.blk g rfl
      have hgb := ho2.lt g rfl
      have hll : ls.length ≤ 256 := hvk.2
      have hwl := without_len ls s
      have hb4 := below_seq hb2 (below_then (below_alloc w2 (.cells #[.slice (some ⟨g, 0, none⟩) 16 cap] 29)) (.cells #[.int .i64 y, .int .i64 c, .string s] 60))
      have hR4 := hR1.on hb4
      have hD4 := (Dy.on HD0.out hB).on hb4
      have hB4 := below_seq hB1 hb4
      have ho4 : Own 3 ((w2.alloc (.cells #[.slice (some ⟨g, 0, none⟩) 16 cap] 29)).alloc (.cells #[.int .i64 y, .int .i64 c, .string s] 60)) w1.heap.size (.slice (some ⟨g, 0, none⟩) 16 cap) ((xs.set c.toNat y).map (Value.int .i64)) := World.ownsRow.alloc (World.ownsRow.alloc ho2 _) _
      have v4 : ((w2.alloc (.cells #[.slice (some ⟨g, 0, none⟩) 16 cap] 29)).alloc (.cells #[.int .i64 y, .int .i64 c, .string s] 60)).cell? ⟨w2.heap.size, 0, none⟩ = some (.slice (some ⟨g, 0, none⟩) 16 cap) := alloc_keep (cell_made1 (Below.refl (w2.alloc (.cells #[.slice (some ⟨g, 0, none⟩) 16 cap] 29)).heap.size (w2.alloc (.cells #[.slice (some ⟨g, 0, none⟩) 16 cap] 29)))) _
      have t4 := three_cells (Below.refl ((w2.alloc (.cells #[.slice (some ⟨g, 0, none⟩) 16 cap] 29)).alloc (.cells #[.int .i64 y, .int .i64 c, .string s] 60)).heap.size ((w2.alloc (.cells #[.slice (some ⟨g, 0, none⟩) 16 cap] 29)).alloc (.cells #[.int .i64 y, .int .i64 c, .string s] 60)))
      have hz4 : ((w2.alloc (.cells #[.slice (some ⟨g, 0, none⟩) 16 cap] 29)).alloc (.cells #[.int .i64 y, .int .i64 c, .string s] 60)).heap.size = w2.heap.size + 1 + 1 := by simp
      rw [World.size_alloc] at t4
      clear hR1 hB1 hb2 hb4 ho2
      go_upto_region 4 with fail
      change Code.wp _ _ _ _ ((w2.alloc (.cells #[.slice (some ⟨g, 0, none⟩) 16 cap] 29)).alloc (.cells #[.int .i64 y, .int .i64 c, .string s] 60))
      generalize (w2.alloc (.cells #[.slice (some ⟨g, 0, none⟩) 16 cap] 29)).alloc (.cells #[.int .i64 y, .int .i64 c, .string s] 60) = w4 at hR4 hD4 hB4 ho4 v4 t4 hz4 ⊢
      have hS : w4.drew.cell? ⟨w.heap.size, 1, none⟩ = some (.slice eo ls.length ec) ∧ w4.drew.cell? ⟨w2.heap.size + 1, 0, none⟩ = some (.int .i64 y) ∧ w4.drew.cell? ⟨w2.heap.size + 1, 1, none⟩ = some (.int .i64 c) ∧ w4.drew.cell? ⟨w2.heap.size + 1, 2, none⟩ = some (.string s) := ⟨hD4.1.2, t4.1, t4.2.1, t4.2.2⟩
      replace hR4 : Dy w4.drew (w.heap.size + 1) _ _ := hR4
      replace hB4 := hB4.drew
      replace v4 : w4.drew.cell? ⟨w2.heap.size, 0, none⟩ = _ := v4
      replace ho4 : Own 3 w4.drew w1.heap.size _ _ := ho4
      replace hz4 : w4.drew.heap.size = w2.heap.size + 1 + 1 := hz4
      have HR4 : Hid _ := hR4
      have HV4 : Hid _ := v4
      clear hD4 t4 hR4 v4
      go_wp2_with fail
      go_region_held3 (fun w' => w'.cell? ⟨w.heap.size, 1, none⟩ = some (.slice eo ls.length ec) ∧ w'.cell? ⟨w2.heap.size + 1, 0, none⟩ = some (.int .i64 y) ∧ w'.cell? ⟨w2.heap.size + 1, 1, none⟩ = some (.int .i64 c) ∧ w'.cell? ⟨w2.heap.size + 1, 2, none⟩ = some (.string s)) (exact hS) (first | (go_at_call 50; refine Calls.mono (l03Without_any C _ _ ls s (by omega) (Nat.le_trans hC hB4.size) (he.below (hB4.mono hC))) ?_; rintro e w5 ⟨r5, rfl, hq5, hn5, hb5⟩; replace hS := And.intro (cell_on hb5 hS.1) (And.intro (cell_on hb5 hS.2.1) (And.intro (cell_on hb5 hS.2.2.1) (cell_on hb5 hS.2.2.2)))) | (go_at_call 49; refine Calls.mono (l03Insert_any _ _ _ (without ls s) y c s (by omega) hq5 hn5) ?_; rintro e w6 ⟨r6, rfl, hq6, hn6, hb6⟩; replace hS := And.intro (cell_on hb6 hS.1) (And.intro (cell_on hb6 hS.2.1) (And.intro (cell_on hb6 hS.2.2.1) (cell_on hb6 hS.2.2.2)))))
      have hb56 := below_seq hb5 hb6
      have z5 := hb5.size
      have z6 := hb6.size
      have hR6 := Dy.on HR4.out hb56
      have v6 := cell_on hb56 HV4.out
      have hB6 := below_seq hB4 hb56
      have ho6 := ho4.below hb56 (Nat.le_refl _)
      have hq6' := hq6.mono (B' := w2.heap.size + 1 + 1) (by omega)
      obtain ⟨g6, d6, rfl, hg6, hg6l, _⟩ := hq6'.some hn6
      have hlen : (insE (without ls s) (y, c, s)).length = (without ls s).length + 1 := insE_len _ _
      clear hS HR4 HV4 hB4 ho4 hb5 hb6 hb56 hq5 hq6 hn5 hn6
      obtain ⟨⟨r0, r1⟩, rf⟩ := hR6
      have f0 := rf 0
      have f1 := rf 1
      have hlt6 : w.heap.size + 1 < w6.heap.size := by omega
      by_cases h256 : (without ls s).length + 1 ≤ 256
      · have HA : Hid _ := HZ.out.1 h256
        generalize hle : (insE (without ls s) (y, c, s)).length = le at hlen hq6' ⊢
        have i0 : ¬ (256 : Int) < (le : Int) := by omega
        clear hlen hle
        have HR : Hid _ := (Dy.set1 (Dy.set0 (show Dy w6 (w.heap.size + 1) _ _ from ⟨⟨r0, r1⟩, rf⟩) (.slice (some ⟨g, 0, none⟩) 16 cap)) (.slice (some ⟨g6, 0, none⟩) le d6)).1
        have hBf := (hB6.setCell (p := ⟨w.heap.size + 1, 0, none⟩) (by show w.heap.size ≤ w.heap.size + 1; omega) (.slice (some ⟨g, 0, none⟩) 16 cap)).setCell (p := ⟨w.heap.size + 1, 1, none⟩) (by show w.heap.size ≤ w.heap.size + 1; omega) (.slice (some ⟨g6, 0, none⟩) le d6)
        have hap : Apart (.slice (some ⟨g, 0, none⟩) 16 cap) (.slice (some ⟨g6, 0, none⟩) le d6) := fun i j hi hj => by
          have h1 : g = i := by simpa [Value.ownBlock] using hi
          have h2 : g6 = j := by simpa [Value.ownBlock] using hj
          omega
        have HS : Hid (Sv _ _ _ _ _ _ _) := (sv_put (show Sv w6 (w.heap.size + 1 + 1) w6.heap.size (.slice (some ⟨g, 0, none⟩) 16 cap) (.slice (some ⟨g6, 0, none⟩) le d6) _ _ from ⟨3, ho6.mono (by omega), hq6'.mono (by omega), hap, ho6.blk, fun i hi => (hq6'.lt i hi).2⟩) (w.heap.size + 1) (by omega) (.slice (some ⟨g, 0, none⟩) 16 cap) (.slice (some ⟨g6, 0, none⟩) le d6)).mono (B' := w.heap.size) (E' := ((w6.setCell ⟨w.heap.size + 1, 0, none⟩ (.slice (some ⟨g, 0, none⟩) 16 cap)).setCell ⟨w.heap.size + 1, 1, none⟩ (.slice (some ⟨g6, 0, none⟩) le d6)).heap.size) (by omega) (by simp)
        clear hap ho6 hq6' hB6 HZ
        go_wp2_with fail
        refine bodyPost_ret (v := .tuple #[.agg #[.slice (some ⟨g, 0, none⟩) 16 cap, .slice (some ⟨g6, 0, none⟩) le d6], .int .i64 0]) ?_ rfl ⟨_, _, by rw [HA.out.1], by rw [HA.out.2.1, HA.out.2.2]; exact HS.out, hBf⟩
        simp [results, Try.results18, go_sem, HR.out.1, HR.out.2]
      · have HA : Hid _ := HZ.out.2 h256
        generalize (insE (without ls s) (y, c, s)).length = le at hlen ⊢
        have i0 : (256 : Int) < (le : Int) := by omega
        clear hlen
        have HR : Hid _ := (Dy.set1 (Dy.set0 (show Dy w6 (w.heap.size + 1) _ _ from ⟨⟨r0, r1⟩, rf⟩) (.slice none 0 0)) (.slice none 0 0)).1
        have hBf := (hB6.setCell (p := ⟨w.heap.size + 1, 0, none⟩) (by show w.heap.size ≤ w.heap.size + 1; omega) (.slice none 0 0)).setCell (p := ⟨w.heap.size + 1, 1, none⟩) (by show w.heap.size ≤ w.heap.size + 1; omega) (.slice none 0 0)
        clear ho6 hq6' hB6 HZ
        go_wp2_with fail
        refine bodyPost_ret (v := .tuple #[.agg #[.slice none 0 0, .slice none 0 0], .int .i64 11]) ?_ rfl ⟨_, _, by rw [HA.out.1], by rw [HA.out.2.1, HA.out.2.2]; exact svNone _ _ _, hBf⟩
        simp [results, Try.results18, go_sem, HR.out.1, HR.out.2]

end Go.Proofs.Ytdkfeabpnikedaa
