/- What the code's SetRemove does. -/
import Derived.Test.YtdkfeabpnikedaaQRemImpl
import Derived.Test.YtdkfeabpnikedaaQSetTold
import Derived.Test.YtdkfeabpnikedaaQEntInsertToSetRemSpec
import Derived.Test.YtdkfeabpnikedaaQSortAll
namespace Go.Proofs.Ytdkfeabpnikedaa
open Go.RowKit
set_option linter.unusedVariables false

theorem SortsTo.le {N M : Nat} (h : SortsTo M) (hN : N ≤ M) : SortsTo N := fun B v ss W ho hl => h B v ss W ho (Nat.le_trans hl hN)
theorem up_eq {a b : List En} (hp : a.Perm b) (ha : a.Pairwise upE) (hb : b.Pairwise upE) : a = b := by
  refine List.Perm.eq_of_pairwise (le := upE) (fun x y _ _ h1 h2 => ?_) ha hb hp
  unfold upE at h1 h2
  rw [lessS_iff] at h1 h2
  omega
theorem okJ_up {xs : List Int} {ls : List En} (h : okJ xs ls = true) : ls.Pairwise upE := by
  unfold okJ at h
  simp only [Bool.and_eq_true, decide_eq_true_eq] at h
  rw [List.pairwise_iff_getElem]
  intro i j hi hj hij
  have h1 := allOne_mono (k := j + 1) (by omega) h.2.2
  simp only [allOne, Bool.and_eq_true] at h1
  have h2 := (one_parts h1.2).2.2.1
  have ei : enAt ls i = ls[i] := by simp [enAt, hi]
  have ej : enAt ls j = ls[j] := by simp [enAt, hj]
  have h3 : lessS (enAt ls i).1 (enAt ls i).2.1 (enAt ls j).1 (enAt ls j).2.1 = true := by
    rcases all_less j h1.1 i hij with h3 | h3
    · exact lessS_trans h3 h2
    · subst h3; exact h2
  rw [ei, ej] at h3
  exact h3
theorem without_up {ls : List En} (s : ByteArray) (h : ls.Pairwise upE) : (without ls s).Pairwise upE := h.sublist List.filter_sublist
theorem without_len (ls : List En) (s : ByteArray) : (without ls s).length ≤ ls.length := List.length_filter_le _ _
theorem vecOK_ofS {xs : List Int} {ls : List En} (h : okJ xs ls = true) : vecOK xs = true ∧ ls.length ≤ 256 := by
  unfold okJ at h
  simp only [Bool.and_eq_true, decide_eq_true_eq] at h
  exact ⟨h.1, h.2.1⟩
theorem jm_laidS {w2 : World} {b : Nat} {xs : List Int} {ls : List En} {T : TypeId} (h16 : xs.length = 16) (hM : Mp Try.prog 58 w2 b (ls.map kvE)) :
    Jm ((w2.alloc (.cells zeroJ.toArray T)).setCells w2.heap.size 0 (arrC xs ++ [Value.map (some b)])) w2.heap.size xs b ∧ Mp Try.prog 58 ((w2.alloc (.cells zeroJ.toArray T)).setCells w2.heap.size 0 (arrC xs ++ [Value.map (some b)])) b (ls.map kvE) := by
  have hl : (arrC xs ++ [Value.map (some b)]).length = 17 := by simp [arrC_len, h16]
  have ht : (w2.alloc (.cells zeroJ.toArray T)).there w2.heap.size 0 17 := there_new (n := 17) (by rw [zeroJ_size]; exact Nat.le_refl _)
  have hlt := hM.lt
  exact ⟨⟨World.rangeAt_setCells_same _ _ _ _ (by rw [hl]; exact ht), World.there_setCells ht _ _ _⟩, mp_setCells (hM.alloc _) (by omega) _ _⟩

set_option maxHeartbeats 2000000 in
set_option maxRecDepth 100000 in
theorem remove_any (w : World) (n b : Nat) (X : List Int) (ls : List En) (s : ByteArray) (hJ : Jm w n X b) (hX : X.length = 16) (hM : Mp Try.prog 58 w b (ls.map kvE)) :
    Calls Try.prog 52 #[.pointer (some ⟨n, 0, none⟩), .string s] w fun e w' => e = .returned (.tuple #[]) ∧ Mp Try.prog 58 w' b ((without ls s).map kvE) ∧ w.grownBy w' (some b) := by
  have hb1 := below_alloc w (.cells #[.string s] 9)
  have hJ1 := hJ.on hb1
  have m1 := hJ1.map hX
  have hM1 := hM.on hb1
  have hbl := hM.lt
  have c1 : (w.alloc (.cells #[.string s] 9)).cell? ⟨w.heap.size, 0, none⟩ = some (.string s) := cell_made1 (Below.refl _ _)
  have hD := deleteFunc_any s w.heap.size b ls _ c1 (by omega) hM1
  clear hJ1 hM1 c1
  go_enter Try.func52, Try.ntmps52
  go_wp2_with (first | (go_at_call 72; refine hD.mono ?_; rintro e w' ⟨rfl, hM', hg'⟩))
  refine bodyPost_end (v := .tuple #[]) ?_ rfl ⟨rfl, hM', (World.grownBy_alloc w _ (some b)).andThen hg' (fun j hj => .inr hj)⟩
  simp [results, Try.results52, go_sem]

theorem svAns_of {xs : List Int} {ls : List En} {k : Int} {w w' : World} {e : Ending} (h : SetAns xs ls k w e w') : SvAns xs ls k w e w' := by
  obtain ⟨a, n, c, b, m, d, rfl, h1, h2, h3, h4⟩ := h
  exact ⟨_, _, rfl, ⟨3, h1, h2, fun i j hi hj he => h3 i hi (by rw [hj, he]), h1.blk, fun i hi => (h2.lt i hi).2⟩, h4⟩

theorem specSetRemove_sv (C : Nat) (w : World) (v ve : Value) (xs : List Int) (ls : List En) (s : ByteArray) (hs : s.size ≤ 9223372036854775807) (hC : C ≤ w.heap.size) (hv : Rd C w v (xs.map (Value.int .i64))) (he : RdE C w ve ls) :
    Calls Try.prog 24 #[.agg #[v, ve], .string s] w (SvAns (remV xs ls s) (remE xs ls s) (remC xs ls s) w) :=
  (specSetRemove_any C w v ve xs ls s hs hC hv he).mono fun e w' h => svAns_of h

set_option maxHeartbeats 4000000 in
set_option maxRecDepth 100000 in
theorem implSetRemove_any (C : Nat) (w : World) (v ve : Value) (xs : List Int) (ls : List En) (s : ByteArray) (hs : s.size ≤ 9223372036854775807) (hC : C ≤ w.heap.size) (hv : Rd C w v (xs.map (Value.int .i64))) (he : RdE C w ve ls) :
    Calls Try.prog 25 #[.agg #[v, ve], .string s] w (SvAns (remV xs ls s) (remE xs ls s) (remC xs ls s) w) := by
  have hxx : xs.length = 16 ∨ okJ xs ls = false := by
    cases hk : vecOK xs with
    | true => exact .inl (vecOK_get hk).1
    | false => exact .inr (okJ_vec hk)
  have hB0 : Below w.heap.size w ((w.alloc (.cells #[v, ve] 43)).alloc (.cells #[.slice none 0 0, .slice none 0 0] 43)) := below_then (below_alloc _ _) _
  have hS := setOf_any C ((w.alloc (.cells #[v, ve] 43)).alloc (.cells #[.slice none 0 0, .slice none 0 0] 43)) v ve xs ls (Nat.le_trans hC hB0.size) (hv.belowW hB0 hC) (he.below (hB0.mono hC))
  have hsl : ∃ ao len cap, v = .slice ao len cap := by
    obtain ⟨ao, cap, rfl, _⟩ := hv
    exact ⟨_, _, _, rfl⟩
  obtain ⟨ao, la, ca, rfl⟩ := hsl
  have he0 := he
  obtain ⟨eo, ec, rfl, _⟩ := he0
  have hD0 : Dy ((w.alloc (.cells #[.slice ao la ca, .slice eo ls.length ec] 43)).alloc (.cells #[.slice none 0 0, .slice none 0 0] 43)) w.heap.size (.slice ao la ca) (.slice eo ls.length ec) := (Dy.made w (.slice ao la ca) (.slice eo ls.length ec) 43).on (below_alloc _ _)
  have hR0 : Dy ((w.alloc (.cells #[.slice ao la ca, .slice eo ls.length ec] 43)).alloc (.cells #[.slice none 0 0, .slice none 0 0] 43)) (w.heap.size + 1) (.slice none 0 0) (.slice none 0 0) := by
    have := Dy.made (w.alloc (.cells #[.slice ao la ca, .slice eo ls.length ec] 43)) (.slice none 0 0) (.slice none 0 0) 43
    rw [World.size_alloc] at this
    exact this
  obtain ⟨⟨e0, e1⟩, _⟩ := hD0
  go_enter Try.func25, Try.ntmps25
  go_wp2_with fail
  refine hS.mono ?_
  rintro e w2 (⟨hok, b, rfl, hb, hM, hB⟩ | ⟨hok, rfl, hB⟩)
  · have h16 : xs.length = 16 := hxx.resolve_right (by rw [hok]; decide)
    obtain ⟨hJ3, hM3⟩ := jm_laidS (T := 90) h16 hM
    have hZ : (arrC xs ++ [Value.map (some b)]).length = 17 := by simp [arrC_len, h16]
    have hsz : (arrC xs ++ [Value.map (some b)]).toArray.size = 17 := by rw [List.size_toArray]; exact hZ
    have hone : (arrC xs ++ [Value.map (some b)]).toArray.all (·.oneCell') = true := all_oneCell_toArray (fun v hv => by rcases List.mem_append.1 hv with h | h; exact arrC_one xs v h; rw [List.mem_singleton.1 h]; rfl)
    have hiS : (Try.prog.info? 90).map (·.size) = some (arrC xs ++ [Value.map (some b)]).toArray.size := by rw [List.size_toArray, hZ]; exact setMap_info
    have h3 : (w2.alloc (.cells zeroJ.toArray 90)).there w2.heap.size 0 (arrC xs ++ [Value.map (some b)]).toArray.size := by rw [hsz]; exact there_new (n := 17) (by rw [zeroJ_size]; exact Nat.le_refl _)
    have hR2 := hR0.on hB
    have hb3 : Below w2.heap.size w2 ((w2.alloc (.cells zeroJ.toArray 90)).setCells w2.heap.size 0 (arrC xs ++ [Value.map (some b)])) := below_setCells (Nat.le_refl _) _ _ _ (below_alloc _ _)
    have hR3 := hR2.on hb3
    have hB3 := below_seq (below_seq hB0 hB) hb3
    have hb' : w.heap.size + 1 + 1 ≤ b := by simpa using hb
    have hblt := hM.lt
    have hvk := vecOK_ofS hok
    have hup := okJ_up hok
    have hn2 : w.heap.size + 1 + 1 ≤ w2.heap.size := by have := hB.size; simpa using this
    clear hS e0 e1 hR0 hsz hZ hb3
    have hgen : ∃ Z, arrC xs ++ [Value.map (some b)] = Z := ⟨_, rfl⟩
    obtain ⟨Z, hZZ⟩ := hgen
    rw [hZZ] at hJ3 hM3 hone hiS h3 hR3 hB3
    have hE : (Value.agg (arrC xs ++ [Value.map (some b)]).toArray) = .agg Z.toArray := by rw [hZZ]
    rw [hE]
    clear hE hZZ
    go_upto_region 2 with (first | (refine wpList_store_mid rfl 90 _ _ rfl w2.heap.size 0 Z.toArray rfl rfl h3 hiS hone ?_))
    have hgen : ∃ w3, ((w2.alloc (.cells zeroJ.toArray 90)).setCells w2.heap.size 0 Z) = w3 := ⟨_, rfl⟩
    obtain ⟨w3, hw3⟩ := hgen
    rw [hw3] at hJ3 hM3 hR3 hB3
    change Code.wp _ _ _ _ ((w2.alloc (.cells zeroJ.toArray 90)).setCells w2.heap.size 0 Z)
    rw [hw3]
    clear hw3 h3 hiS hone
    by_cases h200 : s.size ≤ 200
    · have HA : Hid (remC xs ls s = 0 ∧ remV xs ls s = xs ∧ remE xs ls s = without ls s) := by
        unfold remC remV remE
        exact ⟨by rw [if_pos hok, if_pos h200], by rw [if_pos hok, if_pos h200], by rw [if_pos hok, if_pos h200]⟩
      have hW := fun w => isWord_any s w
      rw [decide_eq_true h200] at hW
      have hwl := without_len ls s
      have hne := jm_ne hJ3 hM3
      have hn3 := hJ3.lt
      have hRm := remove_any w3 w2.heap.size b xs ls s hJ3 h16 hM3
      clear hok
      go_wp2_with (first | (go_at_call 36; refine (hW _).mono ?_; rintro e w' ⟨rfl, rfl⟩))
      refine hRm.mono ?_
      rintro e w7 ⟨rfl, hM7, hg7⟩
      have hJ7 := hJ3.kept hg7 (fun e => hne (by simpa using e.symm))
      have hR7 := hR3.grown hg7 (by simp; omega)
      have hB7 : Below w.heap.size w w7 := below_grownE hB3 (Nat.le_refl _) hg7 (fun g hg => by cases hg; omega)
      have hT := toldSet_any (without ls s).length (sortsAll.le (by omega)) (by omega) w7 w2.heap.size b xs (without ls s) hJ7 h16 hM7 (.inl rfl)
      clear hRm hM3 hJ3 hR3 hB3 hg7
      go_wp2_with fail
      refine hT.mono ?_
      rintro e w8 (⟨_, es, hpe, hue, u, v, rfl, hSv, hb8⟩ | ⟨hno, _⟩)
      · obtain rfl := up_eq hpe hue (without_up s hup)
        have hR8 := hR7.on hb8
        have hB8 := below_seq hB7 hb8
        have hlt8 := hR7.lt
        obtain ⟨ua, un, uc, va, vn, vc, rfl, rfl⟩ := hSv.shape
        obtain ⟨⟨r0, r1⟩, rf⟩ := hR8
        have f0 := rf 0
        have f1 := rf 1
        have HR : Hid _ := (Dy.set1 (Dy.set0 (show Dy w8 (w.heap.size + 1) _ _ from ⟨⟨r0, r1⟩, rf⟩) (.slice ua un uc)) (.slice va vn vc)).1
        have hBf := (hB8.setCell (p := ⟨w.heap.size + 1, 0, none⟩) (by show w.heap.size ≤ w.heap.size + 1; omega) (.slice ua un uc)).setCell (p := ⟨w.heap.size + 1, 1, none⟩) (by show w.heap.size ≤ w.heap.size + 1; omega) (.slice va vn vc)
        have hSf := (sv_put hSv (w.heap.size + 1) hlt8 (.slice ua un uc) (.slice va vn vc)).mono (B' := w.heap.size) (E' := ((w8.setCell ⟨w.heap.size + 1, 0, none⟩ (.slice ua un uc)).setCell ⟨w.heap.size + 1, 1, none⟩ (.slice va vn vc)).heap.size) (by omega) (by simp)
        clear hT hM7 hJ7 hR7 hB7 hb8 hSv
        go_wp2_with fail
        refine bodyPost_ret (v := .tuple #[.agg #[.slice ua un uc, .slice va vn vc], .int .i64 0]) ?_ rfl ⟨_, _, by rw [HA.out.1], by rw [HA.out.2.1, HA.out.2.2]; exact hSf, hBf⟩
        simp [results, Try.results25, go_sem, HR.out.1, HR.out.2]
      · exact absurd (by omega) hno
    · have HA : Hid (remC xs ls s = 4 ∧ remV xs ls s = [] ∧ remE xs ls s = []) := by
        unfold remC remV remE
        exact ⟨by rw [if_pos hok, if_neg h200], by rw [if_pos hok, if_neg h200], by rw [if_pos hok, if_neg h200]⟩
      have hW := fun w => isWord_any s w
      rw [decide_eq_false h200] at hW
      clear hok
      obtain ⟨⟨r0, r1⟩, rf⟩ := hR3
      have f0 := rf 0
      have f1 := rf 1
      have HR : Hid _ := (Dy.set1 (Dy.set0 (show Dy w3 (w.heap.size + 1) _ _ from ⟨⟨r0, r1⟩, rf⟩) (.slice none 0 0)) (.slice none 0 0)).1
      have hBf := (hB3.setCell (p := ⟨w.heap.size + 1, 0, none⟩) (by show w.heap.size ≤ w.heap.size + 1; omega) (.slice none 0 0)).setCell (p := ⟨w.heap.size + 1, 1, none⟩) (by show w.heap.size ≤ w.heap.size + 1; omega) (.slice none 0 0)
      go_wp2_with (first | (go_at_call 36; refine (hW _).mono ?_; rintro e w' ⟨rfl, rfl⟩))
      refine bodyPost_ret (v := .tuple #[.agg #[.slice none 0 0, .slice none 0 0], .int .i64 4]) ?_ rfl ⟨_, _, by rw [HA.out.1], by rw [HA.out.2.1, HA.out.2.2]; exact svNone _ _ _, hBf⟩
      simp [results, Try.results25, go_sem, HR.out.1, HR.out.2]
  · have HA : Hid (remC xs ls s = 1 ∧ remV xs ls s = [] ∧ remE xs ls s = []) := by
      unfold remC remV remE
      have hn : ¬ okJ xs ls = true := by rw [hok]; decide
      exact ⟨if_neg hn, if_neg hn, if_neg hn⟩
    clear hS e0 e1
    have hR2 := hR0.on hB
    have hB2 := below_seq hB0 hB
    have hgen : ∃ Z, zeroJ = Z ∧ Z.toArray.size = 17 ∧ Z.toArray.all (·.oneCell') = true := ⟨_, rfl, zeroJ_size, zeroJ_one⟩
    obtain ⟨Z, hZZ, hsz, hone⟩ := hgen
    have hiS : (Try.prog.info? 90).map (·.size) = some Z.toArray.size := by rw [hsz]; exact setMap_info
    have h3 : (w2.alloc (.cells zeroJ.toArray 90)).there w2.heap.size 0 Z.toArray.size := by rw [hsz]; exact there_new (n := 17) (by rw [zeroJ_size]; exact Nat.le_refl _)
    have hb3 : Below w2.heap.size w2 ((w2.alloc (.cells zeroJ.toArray 90)).setCells w2.heap.size 0 Z) := below_setCells (Nat.le_refl _) _ _ _ (below_alloc _ _)
    have hR3 := hR2.on hb3
    have hB3 := below_seq hB2 hb3
    have hE : (Value.agg zeroJ.toArray) = .agg Z.toArray := by rw [hZZ]
    rw [hE]
    clear hR0 hR2 hB2 hB hB0 hb3 hsz hE hZZ
    go_upto_region 2 with (first | (refine wpList_store_mid rfl 90 _ _ rfl w2.heap.size 0 Z.toArray rfl rfl h3 hiS hone ?_))
    have hgen : ∃ w3, ((w2.alloc (.cells zeroJ.toArray 90)).setCells w2.heap.size 0 Z) = w3 := ⟨_, rfl⟩
    obtain ⟨w3, hw3⟩ := hgen
    rw [hw3] at hR3 hB3
    change Code.wp _ _ _ _ ((w2.alloc (.cells zeroJ.toArray 90)).setCells w2.heap.size 0 Z)
    rw [hw3]
    clear hw3 h3 hiS hone
    obtain ⟨⟨r0, r1⟩, rf⟩ := hR3
    have f0 := rf 0
    have f1 := rf 1
    have HR : Hid _ := (Dy.set1 (Dy.set0 (show Dy w3 (w.heap.size + 1) _ _ from ⟨⟨r0, r1⟩, rf⟩) (.slice none 0 0)) (.slice none 0 0)).1
    have hBf := (hB3.setCell (p := ⟨w.heap.size + 1, 0, none⟩) (by show w.heap.size ≤ w.heap.size + 1; omega) (.slice none 0 0)).setCell (p := ⟨w.heap.size + 1, 1, none⟩) (by show w.heap.size ≤ w.heap.size + 1; omega) (.slice none 0 0)
    go_wp2_with (fail)
    refine bodyPost_ret (v := .tuple #[.agg #[.slice none 0 0, .slice none 0 0], .int .i64 1]) ?_ rfl ⟨_, _, by rw [HA.out.1], by rw [HA.out.2.1, HA.out.2.2]; exact svNone _ _ _, hBf⟩
    simp [results, Try.results25, go_sem, HR.out.1, HR.out.2]

end Go.Proofs.Ytdkfeabpnikedaa
