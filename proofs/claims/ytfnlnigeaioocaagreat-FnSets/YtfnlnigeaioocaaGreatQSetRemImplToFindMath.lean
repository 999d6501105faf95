/- What the code's SetRemove does. What the code's SetAdd does. What the specification's SetAdd does. The entries of a joining as a list: rising, and those that the code's map holds. What the specification's MultiJoin does, over what its l03Join answers. What the specification's SetJoin does, over what its l03Join answers. The place of a twin, and the twin. -/
import Derived.Test.YtfnlnigeaioocaaGreatQRemImpl
import Derived.Test.YtfnlnigeaioocaaGreatQSetToldToMultiWrSpec
import Derived.Test.YtfnlnigeaioocaaGreatQEntInsertToSetRemSpec
import Derived.Test.YtfnlnigeaioocaaGreatQSortAll
import Derived.Test.YtfnlnigeaioocaaGreatQNextImplToMultiOf
import Derived.Test.YtfnlnigeaioocaaGreatQJoinImplToJoinMath
import Derived.Test.YtfnlnigeaioocaaGreatQEntriesOK
import Derived.Test.YtfnlnigeaioocaaGreatQVecArrToVecJoinSpec
import Derived.Test.YtfnlnigeaioocaaGreatQEntCellsToSvBase
namespace Go.Proofs.YtfnlnigeaioocaaGreat
open Go.RowKit
set_option linter.unusedVariables false

theorem SortsTo.le {N M : Nat} (h : SortsTo M) (hN : N ≤ M) : SortsTo N := fun B v ss W ho hl => h B v ss W ho (Nat.le_trans hl hN)
theorem up_eq {a b : List En} (hp : a.Perm b) (ha : a.Pairwise upE) (hb : b.Pairwise upE) : a = b := by
  refine List.Perm.eq_of_pairwise (le := upE) (fun x y _ _ h1 h2 => ?_) ha hb hp
  unfold upE at h1 h2
  rw [lessS_iff] at h1 h2
  omega
theorem okJ_up {xs : List Int} {ls : List En} (h : okJ xs ls = true) : ls.Pairwise upE := by
  unfold okJ at h
  simp only [Bool.and_eq_true, decide_eq_true_eq] at h
  rw [List.pairwise_iff_getElem]
  intro i j hi hj hij
  have h1 := allOne_mono (k := j + 1) (by omega) h.2.2
  simp only [allOne, Bool.and_eq_true] at h1
  have h2 := (one_parts h1.2).2.2.1
  have ei : enAt ls i = ls[i] := by simp [enAt, hi]
  have ej : enAt ls j = ls[j] := by simp [enAt, hj]
  have h3 : lessS (enAt ls i).1 (enAt ls i).2.1 (enAt ls j).1 (enAt ls j).2.1 = true := by
    rcases all_less j h1.1 i hij with h3 | h3
    · exact lessS_trans h3 h2
    · subst h3; exact h2
  rw [ei, ej] at h3
  exact h3
theorem without_up {ls : List En} (s : ByteArray) (h : ls.Pairwise upE) : (without ls s).Pairwise upE := h.sublist List.filter_sublist
theorem without_len (ls : List En) (s : ByteArray) : (without ls s).length ≤ ls.length := List.length_filter_le _ _
theorem vecOK_ofS {xs : List Int} {ls : List En} (h : okJ xs ls = true) : vecOK xs = true ∧ ls.length ≤ 256 := by
  unfold okJ at h
  simp only [Bool.and_eq_true, decide_eq_true_eq] at h
  exact ⟨h.1, h.2.1⟩
theorem jm_laidS {w2 : World} {b : Nat} {xs : List Int} {ls : List En} {T : TypeId} (h16 : xs.length = 16) (hM : Mp Tryz.prog 56 w2 b (ls.map kvE)) :
    Jm ((w2.alloc (.cells zeroJ.toArray T)).setCells w2.heap.size 0 (arrC xs ++ [Value.map (some b)])) w2.heap.size xs b ∧ Mp Tryz.prog 56 ((w2.alloc (.cells zeroJ.toArray T)).setCells w2.heap.size 0 (arrC xs ++ [Value.map (some b)])) b (ls.map kvE) := by
  have hl : (arrC xs ++ [Value.map (some b)]).length = 17 := by simp [arrC_len, h16]
  have ht : (w2.alloc (.cells zeroJ.toArray T)).there w2.heap.size 0 17 := there_new (n := 17) (by rw [zeroJ_size]; exact Nat.le_refl _)
  have hlt := hM.lt
  exact ⟨⟨World.rangeAt_setCells_same _ _ _ _ (by rw [hl]; exact ht), World.there_setCells ht _ _ _⟩, mp_setCells (hM.alloc _) (by omega) _ _⟩

set_option maxHeartbeats 2000000 in
set_option maxRecDepth 100000 in
theorem remove_any (w : World) (n b : Nat) (X : List Int) (ls : List En) (s : ByteArray) (hJ : Jm w n X b) (hX : X.length = 16) (hM : Mp Tryz.prog 56 w b (ls.map kvE)) :
    Calls Tryz.prog 17 #[.pointer (some ⟨n, 0, none⟩), .string s] w fun e w' => e = .returned (.tuple #[]) ∧ Mp Tryz.prog 56 w' b ((without ls s).map kvE) ∧ w.grownBy w' (some b) := by
  have hb1 := below_alloc w (.cells #[.string s] 9)
  have hJ1 := hJ.on hb1
  have m1 := hJ1.map hX
  have hM1 := hM.on hb1
  have hbl := hM.lt
  have c1 : (w.alloc (.cells #[.string s] 9)).cell? ⟨w.heap.size, 0, none⟩ = some (.string s) := cell_made1 (Below.refl _ _)
  have hD := deleteFunc_any s w.heap.size b ls _ c1 (by omega) hM1
  clear hJ1 hM1 c1
  go_enter Tryz.func17, Tryz.ntmps17
  go_wp2_with (first | (go_at_call 33; refine hD.mono ?_; rintro e w' ⟨rfl, hM', hg'⟩))
  refine bodyPost_end (v := .tuple #[]) ?_ rfl ⟨rfl, hM', (World.grownBy_alloc w _ (some b)).andThen hg' (fun j hj => .inr hj)⟩
  simp [results, Tryz.results17, go_sem]

theorem svAns_of {xs : List Int} {ls : List En} {k : Int} {w w' : World} {e : Ending} (h : SetAns xs ls k w e w') : SvAns xs ls k w e w' := by
  obtain ⟨a, n, c, b, m, d, rfl, h1, h2, h3, h4⟩ := h
  exact ⟨_, _, rfl, ⟨3, h1, h2, fun i j hi hj he => h3 i hi (by rw [hj, he]), h1.blk, fun i hi => (h2.lt i hi).2⟩, h4⟩

theorem specSetRemove_sv (C : Nat) (w : World) (v ve : Value) (xs : List Int) (ls : List En) (s : ByteArray) (hs : s.size ≤ 9223372036854775807) (hC : C ≤ w.heap.size) (hv : Rd C w v (xs.map (Value.int .i64))) (he : RdE C w ve ls) :
    Calls Tryz.prog 70 #[.agg #[v, ve], .string s] w (SvAns (remV xs ls s) (remE xs ls s) (remC xs ls s) w) :=
  (specSetRemove_any C w v ve xs ls s hs hC hv he).mono fun e w' h => svAns_of h

set_option maxHeartbeats 4000000 in
set_option maxRecDepth 100000 in
theorem implSetRemove_any (C : Nat) (w : World) (v ve : Value) (xs : List Int) (ls : List En) (s : ByteArray) (hs : s.size ≤ 9223372036854775807) (hC : C ≤ w.heap.size) (hv : Rd C w v (xs.map (Value.int .i64))) (he : RdE C w ve ls) :
    Calls Tryz.prog 7 #[.agg #[v, ve], .string s] w (SvAns (remV xs ls s) (remE xs ls s) (remC xs ls s) w) := by
  have hxx : xs.length = 16 ∨ okJ xs ls = false := by
    cases hk : vecOK xs with
    | true => exact .inl (vecOK_get hk).1
    | false => exact .inr (okJ_vec hk)
  have hB0 : Below w.heap.size w ((w.alloc (.cells #[v, ve] 28)).alloc (.cells #[.slice none 0 0, .slice none 0 0] 28)) := below_then (below_alloc _ _) _
  have hS := setOf_any C ((w.alloc (.cells #[v, ve] 28)).alloc (.cells #[.slice none 0 0, .slice none 0 0] 28)) v ve xs ls (Nat.le_trans hC hB0.size) (hv.belowW hB0 hC) (he.below (hB0.mono hC))
  have hsl : ∃ ao len cap, v = .slice ao len cap := by
    obtain ⟨ao, cap, rfl, _⟩ := hv
    exact ⟨_, _, _, rfl⟩
  obtain ⟨ao, la, ca, rfl⟩ := hsl
  have he0 := he
  obtain ⟨eo, ec, rfl, _⟩ := he0
  have hD0 : Dy ((w.alloc (.cells #[.slice ao la ca, .slice eo ls.length ec] 28)).alloc (.cells #[.slice none 0 0, .slice none 0 0] 28)) w.heap.size (.slice ao la ca) (.slice eo ls.length ec) := (Dy.made w (.slice ao la ca) (.slice eo ls.length ec) 28).on (below_alloc _ _)
  have hR0 : Dy ((w.alloc (.cells #[.slice ao la ca, .slice eo ls.length ec] 28)).alloc (.cells #[.slice none 0 0, .slice none 0 0] 28)) (w.heap.size + 1) (.slice none 0 0) (.slice none 0 0) := by
    have := Dy.made (w.alloc (.cells #[.slice ao la ca, .slice eo ls.length ec] 28)) (.slice none 0 0) (.slice none 0 0) 28
    rw [World.size_alloc] at this
    exact this
  obtain ⟨⟨e0, e1⟩, _⟩ := hD0
  go_enter Tryz.func7, Tryz.ntmps7
  go_wp2_with fail
  refine hS.mono ?_
  rintro e w2 (⟨hok, b, rfl, hb, hM, hB⟩ | ⟨hok, rfl, hB⟩)
  · have h16 : xs.length = 16 := hxx.resolve_right (by rw [hok]; decide)
    obtain ⟨hJ3, hM3⟩ := jm_laidS (T := 50) h16 hM
    have hZ : (arrC xs ++ [Value.map (some b)]).length = 17 := by simp [arrC_len, h16]
    have hsz : (arrC xs ++ [Value.map (some b)]).toArray.size = 17 := by rw [List.size_toArray]; exact hZ
    have hone : (arrC xs ++ [Value.map (some b)]).toArray.all (·.oneCell') = true := all_oneCell_toArray (fun v hv => by rcases List.mem_append.1 hv with h | h; exact arrC_one xs v h; rw [List.mem_singleton.1 h]; rfl)
    have hiS : (Tryz.prog.info? 50).map (·.size) = some (arrC xs ++ [Value.map (some b)]).toArray.size := by rw [List.size_toArray, hZ]; exact setMap_info
    have h3 : (w2.alloc (.cells zeroJ.toArray 50)).there w2.heap.size 0 (arrC xs ++ [Value.map (some b)]).toArray.size := by rw [hsz]; exact there_new (n := 17) (by rw [zeroJ_size]; exact Nat.le_refl _)
    have hR2 := hR0.on hB
    have hb3 : Below w2.heap.size w2 ((w2.alloc (.cells zeroJ.toArray 50)).setCells w2.heap.size 0 (arrC xs ++ [Value.map (some b)])) := below_setCells (Nat.le_refl _) _ _ _ (below_alloc _ _)
    have hR3 := hR2.on hb3
    have hB3 := below_seq (below_seq hB0 hB) hb3
    have hb' : w.heap.size + 1 + 1 ≤ b := by simpa using hb
    have hblt := hM.lt
    have hvk := vecOK_ofS hok
    have hup := okJ_up hok
    have hn2 : w.heap.size + 1 + 1 ≤ w2.heap.size := by have := hB.size; simpa using this
    clear hS e0 e1 hR0 hsz hZ hb3
    have hgen : ∃ Z, arrC xs ++ [Value.map (some b)] = Z := ⟨_, rfl⟩
    obtain ⟨Z, hZZ⟩ := hgen
    rw [hZZ] at hJ3 hM3 hone hiS h3 hR3 hB3
    have hE : (Value.agg (arrC xs ++ [Value.map (some b)]).toArray) = .agg Z.toArray := by rw [hZZ]
    rw [hE]
    clear hE hZZ
    go_upto_region 2 with (first | (refine wpList_store_mid rfl 50 _ _ rfl w2.heap.size 0 Z.toArray rfl rfl h3 hiS hone ?_))
    have hgen : ∃ w3, ((w2.alloc (.cells zeroJ.toArray 50)).setCells w2.heap.size 0 Z) = w3 := ⟨_, rfl⟩
    obtain ⟨w3, hw3⟩ := hgen
    rw [hw3] at hJ3 hM3 hR3 hB3
    change Code.wp _ _ _ _ ((w2.alloc (.cells zeroJ.toArray 50)).setCells w2.heap.size 0 Z)
    rw [hw3]
    clear hw3 h3 hiS hone
    by_cases h200 : s.size ≤ 200
    · have HA : Hid (remC xs ls s = 0 ∧ remV xs ls s = xs ∧ remE xs ls s = without ls s) := by
        unfold remC remV remE
        exact ⟨by rw [if_pos hok, if_pos h200], by rw [if_pos hok, if_pos h200], by rw [if_pos hok, if_pos h200]⟩
      have hW := fun w => isWord_any s w
      rw [decide_eq_true h200] at hW
      have hwl := without_len ls s
      have hne := jm_ne hJ3 hM3
      have hn3 := hJ3.lt
      have hRm := remove_any w3 w2.heap.size b xs ls s hJ3 h16 hM3
      clear hok
      go_wp2_with (first | (go_at_call 15; refine (hW _).mono ?_; rintro e w' ⟨rfl, rfl⟩))
      refine hRm.mono ?_
      rintro e w7 ⟨rfl, hM7, hg7⟩
      have hJ7 := hJ3.kept hg7 (fun e => hne (by simpa using e.symm))
      have hR7 := hR3.grown hg7 (by simp; omega)
      have hB7 : Below w.heap.size w w7 := below_grownE hB3 (Nat.le_refl _) hg7 (fun g hg => by cases hg; omega)
      have hT := toldSet_any (without ls s).length (sortsAll.le (by omega)) (by omega) w7 w2.heap.size b xs (without ls s) hJ7 h16 hM7 (.inl rfl)
      clear hRm hM3 hJ3 hR3 hB3 hg7
      go_wp2_with fail
      refine hT.mono ?_
      rintro e w8 (⟨_, es, hpe, hue, u, v, rfl, hSv, hb8⟩ | ⟨hno, _⟩)
      · obtain rfl := up_eq hpe hue (without_up s hup)
        have hR8 := hR7.on hb8
        have hB8 := below_seq hB7 hb8
        have hlt8 := hR7.lt
        obtain ⟨ua, un, uc, va, vn, vc, rfl, rfl⟩ := hSv.shape
        obtain ⟨⟨r0, r1⟩, rf⟩ := hR8
        have f0 := rf 0
        have f1 := rf 1
        have HR : Hid _ := (Dy.set1 (Dy.set0 (show Dy w8 (w.heap.size + 1) _ _ from ⟨⟨r0, r1⟩, rf⟩) (.slice ua un uc)) (.slice va vn vc)).1
        have hBf := (hB8.setCell (p := ⟨w.heap.size + 1, 0, none⟩) (by show w.heap.size ≤ w.heap.size + 1; omega) (.slice ua un uc)).setCell (p := ⟨w.heap.size + 1, 1, none⟩) (by show w.heap.size ≤ w.heap.size + 1; omega) (.slice va vn vc)
        have hSf := (sv_put hSv (w.heap.size + 1) hlt8 (.slice ua un uc) (.slice va vn vc)).mono (B' := w.heap.size) (E' := ((w8.setCell ⟨w.heap.size + 1, 0, none⟩ (.slice ua un uc)).setCell ⟨w.heap.size + 1, 1, none⟩ (.slice va vn vc)).heap.size) (by omega) (by simp)
        clear hT hM7 hJ7 hR7 hB7 hb8 hSv
        go_wp2_with fail
        refine bodyPost_ret (v := .tuple #[.agg #[.slice ua un uc, .slice va vn vc], .int .i64 0]) ?_ rfl ⟨_, _, by rw [HA.out.1], by rw [HA.out.2.1, HA.out.2.2]; exact hSf, hBf⟩
        simp [results, Tryz.results7, go_sem, HR.out.1, HR.out.2]
      · exact absurd (by omega) hno
    · have HA : Hid (remC xs ls s = 4 ∧ remV xs ls s = [] ∧ remE xs ls s = []) := by
        unfold remC remV remE
        exact ⟨by rw [if_pos hok, if_neg h200], by rw [if_pos hok, if_neg h200], by rw [if_pos hok, if_neg h200]⟩
      have hW := fun w => isWord_any s w
      rw [decide_eq_false h200] at hW
      clear hok
      obtain ⟨⟨r0, r1⟩, rf⟩ := hR3
      have f0 := rf 0
      have f1 := rf 1
      have HR : Hid _ := (Dy.set1 (Dy.set0 (show Dy w3 (w.heap.size + 1) _ _ from ⟨⟨r0, r1⟩, rf⟩) (.slice none 0 0)) (.slice none 0 0)).1
      have hBf := (hB3.setCell (p := ⟨w.heap.size + 1, 0, none⟩) (by show w.heap.size ≤ w.heap.size + 1; omega) (.slice none 0 0)).setCell (p := ⟨w.heap.size + 1, 1, none⟩) (by show w.heap.size ≤ w.heap.size + 1; omega) (.slice none 0 0)
      go_wp2_with (first | (go_at_call 15; refine (hW _).mono ?_; rintro e w' ⟨rfl, rfl⟩))
      refine bodyPost_ret (v := .tuple #[.agg #[.slice none 0 0, .slice none 0 0], .int .i64 4]) ?_ rfl ⟨_, _, by rw [HA.out.1], by rw [HA.out.2.1, HA.out.2.2]; exact svNone _ _ _, hBf⟩
      simp [results, Tryz.results7, go_sem, HR.out.1, HR.out.2]
  · have HA : Hid (remC xs ls s = 1 ∧ remV xs ls s = [] ∧ remE xs ls s = []) := by
      unfold remC remV remE
      have hn : ¬ okJ xs ls = true := by rw [hok]; decide
      exact ⟨if_neg hn, if_neg hn, if_neg hn⟩
    clear hS e0 e1
    have hR2 := hR0.on hB
    have hB2 := below_seq hB0 hB
    have hgen : ∃ Z, zeroJ = Z ∧ Z.toArray.size = 17 ∧ Z.toArray.all (·.oneCell') = true := ⟨_, rfl, zeroJ_size, zeroJ_one⟩
    obtain ⟨Z, hZZ, hsz, hone⟩ := hgen
    have hiS : (Tryz.prog.info? 50).map (·.size) = some Z.toArray.size := by rw [hsz]; exact setMap_info
    have h3 : (w2.alloc (.cells zeroJ.toArray 50)).there w2.heap.size 0 Z.toArray.size := by rw [hsz]; exact there_new (n := 17) (by rw [zeroJ_size]; exact Nat.le_refl _)
    have hb3 : Below w2.heap.size w2 ((w2.alloc (.cells zeroJ.toArray 50)).setCells w2.heap.size 0 Z) := below_setCells (Nat.le_refl _) _ _ _ (below_alloc _ _)
    have hR3 := hR2.on hb3
    have hB3 := below_seq hB2 hb3
    have hE : (Value.agg zeroJ.toArray) = .agg Z.toArray := by rw [hZZ]
    rw [hE]
    clear hR0 hR2 hB2 hB hB0 hb3 hsz hE hZZ
    go_upto_region 2 with (first | (refine wpList_store_mid rfl 50 _ _ rfl w2.heap.size 0 Z.toArray rfl rfl h3 hiS hone ?_))
    have hgen : ∃ w3, ((w2.alloc (.cells zeroJ.toArray 50)).setCells w2.heap.size 0 Z) = w3 := ⟨_, rfl⟩
    obtain ⟨w3, hw3⟩ := hgen
    rw [hw3] at hR3 hB3
    change Code.wp _ _ _ _ ((w2.alloc (.cells zeroJ.toArray 50)).setCells w2.heap.size 0 Z)
    rw [hw3]
    clear hw3 h3 hiS hone
    obtain ⟨⟨r0, r1⟩, rf⟩ := hR3
    have f0 := rf 0
    have f1 := rf 1
    have HR : Hid _ := (Dy.set1 (Dy.set0 (show Dy w3 (w.heap.size + 1) _ _ from ⟨⟨r0, r1⟩, rf⟩) (.slice none 0 0)) (.slice none 0 0)).1
    have hBf := (hB3.setCell (p := ⟨w.heap.size + 1, 0, none⟩) (by show w.heap.size ≤ w.heap.size + 1; omega) (.slice none 0 0)).setCell (p := ⟨w.heap.size + 1, 1, none⟩) (by show w.heap.size ≤ w.heap.size + 1; omega) (.slice none 0 0)
    go_wp2_with (fail)
    refine bodyPost_ret (v := .tuple #[.agg #[.slice none 0 0, .slice none 0 0], .int .i64 1]) ?_ rfl ⟨_, _, by rw [HA.out.1], by rw [HA.out.2.1, HA.out.2.2]; exact svNone _ _ _, hBf⟩
    simp [results, Tryz.results7, go_sem, HR.out.1, HR.out.2]

end Go.Proofs.YtfnlnigeaioocaaGreat

namespace Go.Proofs.YtfnlnigeaioocaaGreat
open Go.RowKit
set_option linter.unusedVariables false

theorem insE_nil (e : En) : insE [] e = [e] := rfl
theorem insE_cons (y : En) (ys : List En) (e : En) : insE (y :: ys) e = if lessS y.1 y.2.1 e.1 e.2.1 = true then y :: insE ys e else e :: y :: ys := by
  unfold insE posE
  by_cases h : lessS y.1 y.2.1 e.1 e.2.1 = true
  · rw [if_pos h]
    simp [posP, h]
  · rw [if_neg h]
    simp [posP, h]
theorem insE_perm (L : List En) (e : En) : (insE L e).Perm (L ++ [e]) := by
  unfold insE
  refine List.perm_middle.trans ?_
  rw [List.take_append_drop]
  exact (List.perm_append_singleton e L).symm
theorem insE_up {L : List En} {e : En} (h : L.Pairwise upE) (hn : ∀ y ∈ L, ¬ (y.1 = e.1 ∧ y.2.1 = e.2.1)) : (insE L e).Pairwise upE := by
  induction L with
  | nil => rw [insE_nil]; simp
  | cons y ys ih =>
    obtain ⟨h1, h2⟩ := List.pairwise_cons.1 h
    rw [insE_cons]
    by_cases hl : lessS y.1 y.2.1 e.1 e.2.1 = true
    · rw [if_pos hl]
      refine List.pairwise_cons.2 ⟨fun z hz => ?_, ih h2 (fun z hz => hn z (List.mem_cons_of_mem _ hz))⟩
      have := (insE_perm ys e).subset hz
      rcases List.mem_append.1 this with h3 | h3
      · exact h1 z h3
      · rw [List.mem_singleton.1 h3]
        exact hl
    · rw [if_neg hl]
      have hy : upE e y := by
        have h3 := hn y (by simp)
        unfold upE
        rw [lessS_iff] at hl ⊢
        omega
      refine List.pairwise_cons.2 ⟨fun z hz => ?_, h⟩
      rcases List.mem_cons.1 hz with rfl | h3
      · exact hy
      · exact lessS_trans hy (h1 z h3)
theorem insE_len (L : List En) (e : En) : (insE L e).length = L.length + 1 := by
  have := (insE_perm L e).length_eq
  simpa using this
theorem seen_le {xs : List Int} {ls : List En} (h : okJ xs ls = true) : ∀ e ∈ ls, e.1 ≤ xs.getD e.2.1.toNat 0 := by
  unfold okJ at h
  simp only [Bool.and_eq_true, decide_eq_true_eq] at h
  intro e he
  obtain ⟨j, hj, rfl⟩ := List.getElem_of_mem he
  have h1 := allOne_mono (k := j + 1) (by omega) h.2.2
  simp only [allOne, Bool.and_eq_true] at h1
  have h2 := (one_parts h1.2).2.2.2
  rw [show enAt ls j = ls[j] by simp [enAt, hj]] at h2
  exact h2
/-- The code of an adding; the counts and the entries behind it. -/
def adC (xs : List Int) (ls : List En) (c : Int) (s : ByteArray) : Int :=
  if okJ xs ls = true then (if (0 ≤ c ∧ c < 16) ∧ s.size ≤ 200 then (if xs.getD c.toNat 0 = 1000000000000 then 11 else if (without ls s).length + 1 ≤ 256 then 0 else 11) else 4) else 1
def adV (xs : List Int) (ls : List En) (c : Int) (s : ByteArray) : List Int := if adC xs ls c s = 0 then xs.set c.toNat (xs.getD c.toNat 0 + 1) else []
def adE (xs : List Int) (ls : List En) (c : Int) (s : ByteArray) : List En := if adC xs ls c s = 0 then insE (without ls s) (xs.getD c.toNat 0 + 1, c, s) else []
theorem ad_bad {xs : List Int} {ls : List En} (c : Int) (s : ByteArray) (h : okJ xs ls = false) : adC xs ls c s = 1 ∧ adV xs ls c s = [] ∧ adE xs ls c s = [] := by
  have : adC xs ls c s = 1 := by simp [adC, h]
  simp [adV, adE, this]
theorem ad_out {xs : List Int} {ls : List En} {c : Int} {s : ByteArray} (h : okJ xs ls = true) (hc : ¬ ((0 ≤ c ∧ c < 16) ∧ s.size ≤ 200)) : adC xs ls c s = 4 ∧ adV xs ls c s = [] ∧ adE xs ls c s = [] := by
  have : adC xs ls c s = 4 := by unfold adC; rw [if_pos h, if_neg hc]
  simp [adV, adE, this]
theorem ad_full {xs : List Int} {ls : List En} {c : Int} {s : ByteArray} (h : okJ xs ls = true) (hc : (0 ≤ c ∧ c < 16) ∧ s.size ≤ 200) (hx : xs.getD c.toNat 0 = 1000000000000) : adC xs ls c s = 11 ∧ adV xs ls c s = [] ∧ adE xs ls c s = [] := by
  have : adC xs ls c s = 11 := by unfold adC; rw [if_pos h, if_pos hc, if_pos hx]
  simp [adV, adE, this]
theorem ad_many {xs : List Int} {ls : List En} {c : Int} {s : ByteArray} (h : okJ xs ls = true) (hc : (0 ≤ c ∧ c < 16) ∧ s.size ≤ 200) (hx : ¬ xs.getD c.toNat 0 = 1000000000000) (hl : ¬ (without ls s).length + 1 ≤ 256) : adC xs ls c s = 11 ∧ adV xs ls c s = [] ∧ adE xs ls c s = [] := by
  have : adC xs ls c s = 11 := by unfold adC; rw [if_pos h, if_pos hc, if_neg hx, if_neg hl]
  simp [adV, adE, this]
theorem ad_done {xs : List Int} {ls : List En} {c : Int} {s : ByteArray} (h : okJ xs ls = true) (hc : (0 ≤ c ∧ c < 16) ∧ s.size ≤ 200) (hx : ¬ xs.getD c.toNat 0 = 1000000000000) (hl : (without ls s).length + 1 ≤ 256) : adC xs ls c s = 0 ∧ adV xs ls c s = xs.set c.toNat (xs.getD c.toNat 0 + 1) ∧ adE xs ls c s = insE (without ls s) (xs.getD c.toNat 0 + 1, c, s) := by
  have : adC xs ls c s = 0 := by unfold adC; rw [if_pos h, if_pos hc, if_neg hx, if_pos hl]
  simp [adV, adE, this]

set_option maxHeartbeats 4000000 in
set_option maxRecDepth 100000 in
theorem implSetAdd_any (C : Nat) (w : World) (v ve : Value) (xs : List Int) (ls : List En) (c : Int) (s : ByteArray) (hs : s.size ≤ 9223372036854775807) (hC : C ≤ w.heap.size) (hv : Rd C w v (xs.map (Value.int .i64))) (he : RdE C w ve ls) :
    Calls Tryz.prog 5 #[.agg #[v, ve], .int .i64 c, .string s] w (SvAns (adV xs ls c s) (adE xs ls c s) (adC xs ls c s) w) := by
  have hxx : xs.length = 16 ∨ okJ xs ls = false := by
    cases hk : vecOK xs with
    | true => exact .inl (vecOK_get hk).1
    | false => exact .inr (okJ_vec hk)
  have hB0 : Below w.heap.size w ((w.alloc (.cells #[v, ve] 28)).alloc (.cells #[.slice none 0 0, .slice none 0 0] 28)) := below_then (below_alloc _ _) _
  have hS := setOf_any C ((w.alloc (.cells #[v, ve] 28)).alloc (.cells #[.slice none 0 0, .slice none 0 0] 28)) v ve xs ls (Nat.le_trans hC hB0.size) (hv.belowW hB0 hC) (he.below (hB0.mono hC))
  have hsl : ∃ ao len cap, v = .slice ao len cap := by
    obtain ⟨ao, cap, rfl, _⟩ := hv
    exact ⟨_, _, _, rfl⟩
  obtain ⟨ao, la, ca, rfl⟩ := hsl
  have he0 := he
  obtain ⟨eo, ec, rfl, _⟩ := he0
  have hD0 : Dy ((w.alloc (.cells #[.slice ao la ca, .slice eo ls.length ec] 28)).alloc (.cells #[.slice none 0 0, .slice none 0 0] 28)) w.heap.size (.slice ao la ca) (.slice eo ls.length ec) := (Dy.made w (.slice ao la ca) (.slice eo ls.length ec) 28).on (below_alloc _ _)
  have hR0 : Dy ((w.alloc (.cells #[.slice ao la ca, .slice eo ls.length ec] 28)).alloc (.cells #[.slice none 0 0, .slice none 0 0] 28)) (w.heap.size + 1) (.slice none 0 0) (.slice none 0 0) := by
    have := Dy.made (w.alloc (.cells #[.slice ao la ca, .slice eo ls.length ec] 28)) (.slice none 0 0) (.slice none 0 0) 28
    rw [World.size_alloc] at this
    exact this
  obtain ⟨⟨e0, e1⟩, _⟩ := hD0
  go_enter Tryz.func5, Tryz.ntmps5
  go_wp2_with fail
  refine hS.mono ?_
  rintro e w2 (⟨hok, b, rfl, hb, hM, hB⟩ | ⟨hok, rfl, hB⟩)
  · have h16 : xs.length = 16 := hxx.resolve_right (by rw [hok]; decide)
    obtain ⟨hJ3, hM3⟩ := jm_laidS (T := 50) h16 hM
    have hZ : (arrC xs ++ [Value.map (some b)]).length = 17 := by simp [arrC_len, h16]
    have hsz : (arrC xs ++ [Value.map (some b)]).toArray.size = 17 := by rw [List.size_toArray]; exact hZ
    have hone : (arrC xs ++ [Value.map (some b)]).toArray.all (·.oneCell') = true := all_oneCell_toArray (fun v hv => by rcases List.mem_append.1 hv with h | h; exact arrC_one xs v h; rw [List.mem_singleton.1 h]; rfl)
    have hiS : (Tryz.prog.info? 50).map (·.size) = some (arrC xs ++ [Value.map (some b)]).toArray.size := by rw [List.size_toArray, hZ]; exact setMap_info
    have h3 : (w2.alloc (.cells zeroJ.toArray 50)).there w2.heap.size 0 (arrC xs ++ [Value.map (some b)]).toArray.size := by rw [hsz]; exact there_new (n := 17) (by rw [zeroJ_size]; exact Nat.le_refl _)
    have hR2 := hR0.on hB
    have hb3 : Below w2.heap.size w2 ((w2.alloc (.cells zeroJ.toArray 50)).setCells w2.heap.size 0 (arrC xs ++ [Value.map (some b)])) := below_setCells (Nat.le_refl _) _ _ _ (below_alloc _ _)
    have hR3 := hR2.on hb3
    have hB3 := below_seq (below_seq hB0 hB) hb3
    have hb' : w.heap.size + 1 + 1 ≤ b := by simpa using hb
    have hblt := hM.lt
    have hvk := vecOK_ofS hok
    clear hS e0 e1 hR0 hsz hZ hb3
    have hgen : ∃ Z, arrC xs ++ [Value.map (some b)] = Z := ⟨_, rfl⟩
    obtain ⟨Z, hZZ⟩ := hgen
    rw [hZZ] at hJ3 hM3 hone hiS h3 hR3 hB3
    have hE : (Value.agg (arrC xs ++ [Value.map (some b)]).toArray) = .agg Z.toArray := by rw [hZZ]
    rw [hE]
    clear hE hZZ
    go_upto_region 2 with (first | (refine wpList_store_mid rfl 50 _ _ rfl w2.heap.size 0 Z.toArray rfl rfl h3 hiS hone ?_))
    have hgen : ∃ w3, ((w2.alloc (.cells zeroJ.toArray 50)).setCells w2.heap.size 0 Z) = w3 := ⟨_, rfl⟩
    obtain ⟨w3, hw3⟩ := hgen
    rw [hw3] at hJ3 hM3 hR3 hB3
    change Code.wp _ _ _ _ ((w2.alloc (.cells zeroJ.toArray 50)).setCells w2.heap.size 0 Z)
    rw [hw3]
    clear hw3 h3 hiS hone
    by_cases hin : (0 ≤ c ∧ c < 16) ∧ s.size ≤ 200
    · have hin' := hin
      obtain ⟨hc, hs200⟩ := hin
      obtain ⟨k, rfl⟩ : ∃ k : Nat, c = (k : Int) := ⟨c.toNat, by omega⟩
      have hk : k < 16 := by omega
      have hA := fun w => isActor_any (k : Int) w
      rw [decide_eq_true hc] at hA
      have hW := fun w => isWord_any s w
      rw [decide_eq_true hs200] at hW
      have hgd : xs.getD k 0 = xs[k] := by simp [List.getD, h16, hk]
      have hxb := (vecOK_get hvk.1).2 k (by omega)
      have hN := next_any w3 w2.heap.size b xs k hJ3 h16 hk (by rw [hgd]; exact hxb.1) (by rw [hgd]; exact hxb.2)
      have hx0 : 0 ≤ xs.getD k 0 := by rw [hgd]; exact hxb.1
      have hx1 : xs.getD k 0 ≤ 1000000000000 := by rw [hgd]; exact hxb.2
      have hn3 := hJ3.lt
      have hne := jm_ne hJ3 hM3
      have HQ : Hid ((xs.getD k 0 = 1000000000000 → adC xs ls (k : Int) s = 11 ∧ adV xs ls (k : Int) s = [] ∧ adE xs ls (k : Int) s = []) ∧ (¬ xs.getD k 0 = 1000000000000 → ((without ls s).length + 1 ≤ 256 → adC xs ls (k : Int) s = 0 ∧ adV xs ls (k : Int) s = xs.set k (xs.getD k 0 + 1) ∧ adE xs ls (k : Int) s = insE (without ls s) (xs.getD k 0 + 1, (k : Int), s)) ∧ (¬ (without ls s).length + 1 ≤ 256 → adC xs ls (k : Int) s = 11 ∧ adV xs ls (k : Int) s = [] ∧ adE xs ls (k : Int) s = []))) := ⟨fun h => ad_full hok hin' (by simpa using h), fun h => ⟨fun h2 => by simpa using ad_done hok hin' (by simpa using h) h2, fun h2 => ad_many hok hin' (by simpa using h) h2⟩⟩
      have hup := without_up s (okJ_up hok)
      have hno : ∀ e ∈ without ls s, ¬ (e.1 = xs.getD k 0 + 1 ∧ e.2.1 = (k : Int)) := by
        intro e hm ⟨h1, h2⟩
        have h3 := seen_le hok e (List.mem_filter.1 (show e ∈ ls.filter _ from hm)).1
        rw [h2, Int.toNat_natCast] at h3
        omega
      clear hgd hxb hc hs200 hin' hok
      generalize xs.getD k 0 = x at hN HQ hx0 hx1 hno
      go_wp2_with (first | (go_at_call 14; refine (hA _).mono ?_; rintro e w' ⟨rfl, rfl⟩) | (go_at_call 15; refine (hW _).mono ?_; rintro e w' ⟨rfl, rfl⟩))
      refine hN.mono ?_
      rintro e w4 (⟨hx, rfl, hb4⟩ | ⟨hx, rfl, hJ4, hg4⟩)
      · obtain ⟨q1, q2, q3⟩ := HQ.out.1 hx
        have HA : Hid _ := And.intro q1 (And.intro q2 q3)
        have hR4 := hR3.on hb4
        have hB4 := below_seq hB3 hb4
        have hlt4 := hR4.lt
        obtain ⟨⟨r0, r1⟩, rf⟩ := hR4
        have f0 := rf 0
        have f1 := rf 1
        have HR : Hid _ := ((Dy.set1 (Dy.set0 (show Dy w4 (w.heap.size + 1) _ _ from ⟨⟨r0, r1⟩, rf⟩) (.slice none 0 0)) (.slice none 0 0)).on (below_alloc _ (.cells #[.int .i64 0, .int .i64 0] 56))).1
        have hBf := below_then ((hB4.setCell (p := ⟨w.heap.size + 1, 0, none⟩) (by show w.heap.size ≤ w.heap.size + 1; omega) (.slice none 0 0)).setCell (p := ⟨w.heap.size + 1, 1, none⟩) (by show w.heap.size ≤ w.heap.size + 1; omega) (.slice none 0 0)) (.cells #[.int .i64 0, .int .i64 0] 56)
        clear q1 q2 q3 HQ hN hR3 hJ3 hM3 hB3 hb4 hB4
        go_wp2_with fail
        refine bodyPost_ret (v := .tuple #[.agg #[.slice none 0 0, .slice none 0 0], .int .i64 11]) ?_ rfl ⟨_, _, by rw [HA.out.1], by rw [HA.out.2.1, HA.out.2.2]; exact svNone _ _ _, hBf⟩
        simp [results, Tryz.results5, go_sem, HR.out.1, HR.out.2]
      · have HZ : Hid _ := HQ.out.2 hx
        have hX' : (xs.set k (x + 1)).length = 16 := by simp [h16]
        have hM4 := hM3.kept hg4 (fun e => hne (by simpa using e))
        have hn2 : w.heap.size + 1 + 1 ≤ w2.heap.size := by have := hB.size; simpa using this
        have hR4 := hR3.grown hg4 (by simp; omega)
        have hB4 : Below w.heap.size w w4 := below_grownE hB3 (Nat.le_refl _) hg4 (fun g hg => by cases hg; omega)
        have hb5 := below_alloc w4 (.cells #[.int .i64 (x + 1), .int .i64 (k : Int)] 56)
        have hJ5 := hJ4.on hb5
        have hM5 := hM4.on hb5
        have hR5 := hR4.on hb5
        have hB5 := below_seq hB4 hb5
        have hS5 := Dy.made w4 (.int .i64 (x + 1)) (.int .i64 (k : Int)) 56
        have hM4lt := hM4.lt
        have hn4 := hJ4.lt
        have hRm := remove_any _ w2.heap.size b (xs.set k (x + 1)) ls s hJ5 hX' hM5
        clear HQ hN hR3 hJ3 hM3 hB3 hg4 hB4 hR4 hJ4
        go_upto_region 10 with (first | (go_at_call 17; refine hRm.mono ?_; rintro e w6 ⟨rfl, hM6, hg6⟩))
        have hJ6 := hJ5.kept hg6 (fun e => hne (by simpa using e.symm))
        have hR6 := hR5.grown hg6 (by simp; omega)
        have hS6 := hS5.grown hg6 (by simp; omega)
        have hB6 : Below w.heap.size w w6 := below_grownE hB5 (Nat.le_refl _) hg6 (fun g hg => by cases hg; omega)
        obtain ⟨⟨s0, s1⟩, _⟩ := hS6
        clear hg6 hM5 hJ5 hR5 hS5 hB5 hRm
        obtain ⟨l, hl⟩ := stKey (t := x + 1) (a := (k : Int)) (by omega) (by omega) (by omega) (by omega)
        have hP := put_any w6 w2.heap.size b (xs.set k (x + 1)) ((without ls s).map kvE) ((without ls s).map kvE ++ [(.agg #[.int .i64 (x + 1), .int .i64 (k : Int)], .agg #[.int .i64 (x + 1), .int .i64 (k : Int), .string s])]) (x + 1) (k : Int) s hJ6 hX' hM6 (fun w1 h1 => h1.new stKeyed Tryz.underlying46 hl (fun p hp he => by
          obtain ⟨e, hm, rfl⟩ := List.mem_map.1 hp
          simp only [kvE, Value.agg.injEq] at he
          exact hno e hm (by simpa using he)) _)
        have hwl := without_len ls s
        have hlen : (without ls s ++ [(x + 1, (k : Int), s)]).length = (without ls s).length + 1 := by simp
        have hll : ls.length ≤ 256 := hvk.2
        clear hvk
        go_wp2_with fail
        refine hP.mono ?_
        rintro e w7 ⟨rfl, hM7, hg7⟩
        have hJ7 := hJ6.kept hg7 (fun e => hne (by simpa using e.symm))
        have hR7 := hR6.grown hg7 (by simp; omega)
        have hB7 : Below w.heap.size w w7 := below_grownE hB6 (Nat.le_refl _) hg7 (fun g hg => by cases hg; omega)
        rw [show (without ls s).map kvE ++ [(Value.agg #[.int .i64 (x + 1), .int .i64 (k : Int)], Value.agg #[.int .i64 (x + 1), .int .i64 (k : Int), .string s])] = (without ls s ++ [(x + 1, (k : Int), s)]).map kvE by simp [kvE]] at hM7
        have hT := toldSet_any (without ls s ++ [(x + 1, (k : Int), s)]).length (sortsAll.le (by omega)) (by omega) w7 w2.heap.size b (xs.set k (x + 1)) (without ls s ++ [(x + 1, (k : Int), s)]) hJ7 hX' hM7 (.inl rfl)
        clear hP hM6 hJ6 hR6 hB6 hg7 s0 s1
        go_wp2_with fail
        refine hT.mono ?_
        have hans : ∀ (e : Ending) (w8 : World), ToSet (xs.set k (x + 1)) (without ls s ++ [(x + 1, (k : Int), s)]) w7 e w8 → SvAns (adV xs ls (k : Int) s) (adE xs ls (k : Int) s) (adC xs ls (k : Int) s) w7 e w8 := by
          rintro e w8 (⟨h256, es, hpe, hue, h⟩ | ⟨hnot, h⟩)
          · obtain ⟨q1, q2, q3⟩ := HZ.out.1 (by omega)
            have := up_eq (hpe.trans (insE_perm (without ls s) (x + 1, (k : Int), s)).symm) hue (insE_up hup hno)
            rw [q1, q2, q3, ← this]
            exact h
          · obtain ⟨q1, q2, q3⟩ := HZ.out.2 (by omega)
            rw [q1, q2, q3]
            exact h
        intro e w8 hto
        obtain ⟨u, v, rfl, hSv, hb8⟩ := hans e w8 hto
        have hR8 := hR7.on hb8
        have hB8 := below_seq hB7 hb8
        have hlt8 := hR7.lt
        obtain ⟨ua, un, uc, va, vn, vc, rfl, rfl⟩ := hSv.shape
        obtain ⟨⟨r0, r1⟩, rf⟩ := hR8
        have f0 := rf 0
        have f1 := rf 1
        have HR : Hid _ := (Dy.set1 (Dy.set0 (show Dy w8 (w.heap.size + 1) _ _ from ⟨⟨r0, r1⟩, rf⟩) (.slice ua un uc)) (.slice va vn vc)).1
        have hBf := (hB8.setCell (p := ⟨w.heap.size + 1, 0, none⟩) (by show w.heap.size ≤ w.heap.size + 1; omega) (.slice ua un uc)).setCell (p := ⟨w.heap.size + 1, 1, none⟩) (by show w.heap.size ≤ w.heap.size + 1; omega) (.slice va vn vc)
        have hSf := (sv_put hSv (w.heap.size + 1) hlt8 (.slice ua un uc) (.slice va vn vc)).mono (B' := w.heap.size) (E' := ((w8.setCell ⟨w.heap.size + 1, 0, none⟩ (.slice ua un uc)).setCell ⟨w.heap.size + 1, 1, none⟩ (.slice va vn vc)).heap.size) (by omega) (by simp)
        clear hT hM7 hJ7 hR7 hB7 hb8 hSv hans hto HZ
        go_wp2_with fail
        refine bodyPost_ret (v := .tuple #[.agg #[.slice ua un uc, .slice va vn vc], .int .i64 (adC xs ls (k : Int) s)]) ?_ rfl ⟨_, _, rfl, hSf, hBf⟩
        simp [results, Tryz.results5, go_sem, HR.out.1, HR.out.2]
    · obtain ⟨q1, q2, q3⟩ := ad_out hok hin
      have HA : Hid _ := And.intro q1 (And.intro q2 q3)
      clear q1 q2 q3 hok
      by_cases hc : 0 ≤ c ∧ c < 16
      · have hA := fun w => isActor_any c w
        rw [decide_eq_true hc] at hA
        have hW := fun w => isWord_any s w
        rw [decide_eq_false (fun h => hin ⟨hc, h⟩)] at hW
        clear hin
        obtain ⟨⟨r0, r1⟩, rf⟩ := hR3
        have f0 := rf 0
        have f1 := rf 1
        have HR : Hid _ := (Dy.set1 (Dy.set0 (show Dy w3 (w.heap.size + 1) _ _ from ⟨⟨r0, r1⟩, rf⟩) (.slice none 0 0)) (.slice none 0 0)).1
        have hBf := (hB3.setCell (p := ⟨w.heap.size + 1, 0, none⟩) (by show w.heap.size ≤ w.heap.size + 1; omega) (.slice none 0 0)).setCell (p := ⟨w.heap.size + 1, 1, none⟩) (by show w.heap.size ≤ w.heap.size + 1; omega) (.slice none 0 0)
        go_wp2_with (first | (go_at_call 14; refine (hA _).mono ?_; rintro e w' ⟨rfl, rfl⟩) | (go_at_call 15; refine (hW _).mono ?_; rintro e w' ⟨rfl, rfl⟩))
        refine bodyPost_ret (v := .tuple #[.agg #[.slice none 0 0, .slice none 0 0], .int .i64 4]) ?_ rfl ⟨_, _, by rw [HA.out.1], by rw [HA.out.2.1, HA.out.2.2]; exact svNone _ _ _, hBf⟩
        simp [results, Tryz.results5, go_sem, HR.out.1, HR.out.2]
      · have hA := fun w => isActor_any c w
        rw [decide_eq_false hc] at hA
        clear hin
        obtain ⟨⟨r0, r1⟩, rf⟩ := hR3
        have f0 := rf 0
        have f1 := rf 1
        have HR : Hid _ := (Dy.set1 (Dy.set0 (show Dy w3 (w.heap.size + 1) _ _ from ⟨⟨r0, r1⟩, rf⟩) (.slice none 0 0)) (.slice none 0 0)).1
        have hBf := (hB3.setCell (p := ⟨w.heap.size + 1, 0, none⟩) (by show w.heap.size ≤ w.heap.size + 1; omega) (.slice none 0 0)).setCell (p := ⟨w.heap.size + 1, 1, none⟩) (by show w.heap.size ≤ w.heap.size + 1; omega) (.slice none 0 0)
        go_wp2_with (first | (go_at_call 14; refine (hA _).mono ?_; rintro e w' ⟨rfl, rfl⟩))
        refine bodyPost_ret (v := .tuple #[.agg #[.slice none 0 0, .slice none 0 0], .int .i64 4]) ?_ rfl ⟨_, _, by rw [HA.out.1], by rw [HA.out.2.1, HA.out.2.2]; exact svNone _ _ _, hBf⟩
        simp [results, Tryz.results5, go_sem, HR.out.1, HR.out.2]
  · obtain ⟨q1, q2, q3⟩ := ad_bad c s hok
    have HA : Hid _ := And.intro q1 (And.intro q2 q3)
    clear q1 q2 q3 hS e0 e1
    have hR2 := hR0.on hB
    have hB2 := below_seq hB0 hB
    have hgen : ∃ Z, zeroJ = Z ∧ Z.toArray.size = 17 ∧ Z.toArray.all (·.oneCell') = true := ⟨_, rfl, zeroJ_size, zeroJ_one⟩
    obtain ⟨Z, hZZ, hsz, hone⟩ := hgen
    have hiS : (Tryz.prog.info? 50).map (·.size) = some Z.toArray.size := by rw [hsz]; exact setMap_info
    have h3 : (w2.alloc (.cells zeroJ.toArray 50)).there w2.heap.size 0 Z.toArray.size := by rw [hsz]; exact there_new (n := 17) (by rw [zeroJ_size]; exact Nat.le_refl _)
    have hb3 : Below w2.heap.size w2 ((w2.alloc (.cells zeroJ.toArray 50)).setCells w2.heap.size 0 Z) := below_setCells (Nat.le_refl _) _ _ _ (below_alloc _ _)
    have hR3 := hR2.on hb3
    have hB3 := below_seq hB2 hb3
    have hE : (Value.agg zeroJ.toArray) = .agg Z.toArray := by rw [hZZ]
    rw [hE]
    clear hR0 hR2 hB2 hB hB0 hb3 hsz hE hZZ
    go_upto_region 2 with (first | (refine wpList_store_mid rfl 50 _ _ rfl w2.heap.size 0 Z.toArray rfl rfl h3 hiS hone ?_))
    have hgen : ∃ w3, ((w2.alloc (.cells zeroJ.toArray 50)).setCells w2.heap.size 0 Z) = w3 := ⟨_, rfl⟩
    obtain ⟨w3, hw3⟩ := hgen
    rw [hw3] at hR3 hB3
    change Code.wp _ _ _ _ ((w2.alloc (.cells zeroJ.toArray 50)).setCells w2.heap.size 0 Z)
    rw [hw3]
    clear hw3 h3 hiS hone
    obtain ⟨⟨r0, r1⟩, rf⟩ := hR3
    have f0 := rf 0
    have f1 := rf 1
    have HR : Hid _ := (Dy.set1 (Dy.set0 (show Dy w3 (w.heap.size + 1) _ _ from ⟨⟨r0, r1⟩, rf⟩) (.slice none 0 0)) (.slice none 0 0)).1
    have hBf := (hB3.setCell (p := ⟨w.heap.size + 1, 0, none⟩) (by show w.heap.size ≤ w.heap.size + 1; omega) (.slice none 0 0)).setCell (p := ⟨w.heap.size + 1, 1, none⟩) (by show w.heap.size ≤ w.heap.size + 1; omega) (.slice none 0 0)
    go_wp2_with (fail)
    refine bodyPost_ret (v := .tuple #[.agg #[.slice none 0 0, .slice none 0 0], .int .i64 1]) ?_ rfl ⟨_, _, by rw [HA.out.1], by rw [HA.out.2.1, HA.out.2.2]; exact svNone _ _ _, hBf⟩
    simp [results, Tryz.results5, go_sem, HR.out.1, HR.out.2]

end Go.Proofs.YtfnlnigeaioocaaGreat

namespace Go.Proofs.YtfnlnigeaioocaaGreat
open Go.RowKit
set_option linter.unusedVariables false

set_option maxHeartbeats 4000000 in
set_option maxRecDepth 100000 in
theorem specSetAdd_any (C : Nat) (w : World) (v ve : Value) (xs : List Int) (ls : List En) (c : Int) (s : ByteArray) (hs : s.size ≤ 9223372036854775807) (hC : C ≤ w.heap.size) (hv : Rd C w v (xs.map (Value.int .i64))) (he : RdE C w ve ls) :
    Calls Tryz.prog 6 #[.agg #[v, ve], .int .i64 c, .string s] w (SvAns (adV xs ls c s) (adE xs ls c s) (adC xs ls c s) w) := by
  have hB0 : Below w.heap.size w ((w.alloc (.cells #[v, ve] 28)).alloc (.cells #[.slice none 0 0, .slice none 0 0] 28)) := below_then (below_alloc _ _) _
  have h1 := l03EntriesOK_any C ((w.alloc (.cells #[v, ve] 28)).alloc (.cells #[.slice none 0 0, .slice none 0 0] 28)) v ve xs ls (Nat.le_trans hC hB0.size) (hv.belowW hB0 hC) (he.below (hB0.mono hC))
  have hsl : ∃ ao len cap, v = .slice ao len cap := by
    obtain ⟨ao, cap, rfl, _⟩ := hv
    exact ⟨_, _, _, rfl⟩
  obtain ⟨ao, la, ca, rfl⟩ := hsl
  have he0 := he
  obtain ⟨eo, ec, rfl, _⟩ := he0
  have hD0 : Dy ((w.alloc (.cells #[.slice ao la ca, .slice eo ls.length ec] 28)).alloc (.cells #[.slice none 0 0, .slice none 0 0] 28)) w.heap.size (.slice ao la ca) (.slice eo ls.length ec) := (Dy.made w (.slice ao la ca) (.slice eo ls.length ec) 28).on (below_alloc _ _)
  have hR0 : Dy ((w.alloc (.cells #[.slice ao la ca, .slice eo ls.length ec] 28)).alloc (.cells #[.slice none 0 0, .slice none 0 0] 28)) (w.heap.size + 1) (.slice none 0 0) (.slice none 0 0) := by
    have := Dy.made (w.alloc (.cells #[.slice ao la ca, .slice eo ls.length ec] 28)) (.slice none 0 0) (.slice none 0 0) 28
    rw [World.size_alloc] at this
    exact this
  have HD0 : Hid _ := hD0
  obtain ⟨⟨e0, e1⟩, _⟩ := hD0
  cases hok : okJ xs ls with
  | false =>
    obtain ⟨q1, q2, q3⟩ := ad_bad c s hok
    have HA : Hid _ := And.intro q1 (And.intro q2 q3)
    rw [hok] at h1
    clear q1 q2 q3 hok
    go_enter Tryz.func6, Tryz.ntmps6
    go_wp2_with fail
    refine h1.mono ?_
    rintro e w1 ⟨rfl, hB⟩
    have hB1 := below_seq hB0 hB
    obtain ⟨⟨r0, r1⟩, rf⟩ := hR0.on hB
    have f0 := rf 0
    have f1 := rf 1
    have HR : Hid _ := (Dy.set1 (Dy.set0 (show Dy w1 (w.heap.size + 1) _ _ from ⟨⟨r0, r1⟩, rf⟩) (.slice none 0 0)) (.slice none 0 0)).1
    have hBf := (hB1.setCell (p := ⟨w.heap.size + 1, 0, none⟩) (by show w.heap.size ≤ w.heap.size + 1; omega) (.slice none 0 0)).setCell (p := ⟨w.heap.size + 1, 1, none⟩) (by show w.heap.size ≤ w.heap.size + 1; omega) (.slice none 0 0)
    clear e0 e1 h1 hR0
    go_wp2_with fail
    refine bodyPost_ret (v := .tuple #[.agg #[.slice none 0 0, .slice none 0 0], .int .i64 1]) ?_ rfl ⟨_, _, by rw [HA.out.1], by rw [HA.out.2.1, HA.out.2.2]; exact svNone _ _ _, hBf⟩
    simp [results, Tryz.results6, go_sem, HR.out.1, HR.out.2]
  | true =>
    have hvk := vecOK_ofS hok
    have HW1 : Hid (¬ ((0 ≤ c ∧ c < 16) ∧ s.size ≤ 200) → adC xs ls c s = 4 ∧ adV xs ls c s = [] ∧ adE xs ls c s = []) := fun h => ad_out hok h
    have HW2 : Hid ((0 ≤ c ∧ c < 16) ∧ s.size ≤ 200 → xs.getD c.toNat 0 = 1000000000000 → adC xs ls c s = 11 ∧ adV xs ls c s = [] ∧ adE xs ls c s = []) := fun h h' => ad_full hok h h'
    have HW3 : Hid ((0 ≤ c ∧ c < 16) ∧ s.size ≤ 200 → ¬ xs.getD c.toNat 0 = 1000000000000 → ((without ls s).length + 1 ≤ 256 → adC xs ls c s = 0 ∧ adV xs ls c s = xs.set c.toNat (xs.getD c.toNat 0 + 1) ∧ adE xs ls c s = insE (without ls s) (xs.getD c.toNat 0 + 1, c, s)) ∧ (¬ (without ls s).length + 1 ≤ 256 → adC xs ls c s = 11 ∧ adV xs ls c s = [] ∧ adE xs ls c s = [])) := fun h h' => ⟨fun h2 => ad_done hok h h' h2, fun h2 => ad_many hok h h' h2⟩
    rw [hok] at h1
    clear hok
    go_enter Tryz.func6, Tryz.ntmps6
    go_wp2_with fail
    refine h1.mono ?_
    rintro e w1 ⟨rfl, hB⟩
    have hB1 := below_seq hB0 hB
    have hR1 := hR0.on hB
    clear e0 e1
    obtain ⟨⟨e0, e1⟩, _⟩ := Dy.on HD0.out hB
    go_wp2_with fail
    refine (l03Write_any C w1 (.slice ao la ca) xs c s hs (Nat.le_trans hC hB1.size) hvk.1 (hv.belowW hB1 hC)).mono ?_
    rintro e w2 hL
    have hR1l := hR1.lt
    clear h1 hR0 e0 e1
    rcases hL with ⟨hin, rfl, hb2⟩ | ⟨hin, hx, rfl, hb2⟩ | ⟨hin, hx, g, cap, rfl, ho2, hb2⟩
    · have HA : Hid _ := HW1.out hin
      have hb4 := below_seq hb2 (below_then (below_alloc w2 (.cells #[.slice none 0 0] 25)) (.cells #[.int .i64 0, .int .i64 0, .string ByteArray.empty] 60))
      have hR4 := hR1.on hb4
      have hB4 := below_seq hB1 hb4
      clear hR1 hB1 hb2 hb4
      go_upto_region 4 with fail
      change Code.wp _ _ _ _ ((w2.alloc (.cells #[.slice none 0 0] 25)).alloc (.cells #[.int .i64 0, .int .i64 0, .string ByteArray.empty] 60))
      generalize (w2.alloc (.cells #[.slice none 0 0] 25)).alloc (.cells #[.int .i64 0, .int .i64 0, .string ByteArray.empty] 60) = w4 at hR4 hB4 ⊢
      obtain ⟨⟨r0, r1⟩, rf⟩ := hR4
      have f0 := rf 0
      have f1 := rf 1
      have HR : Hid _ := (Dy.set1 (Dy.set0 (show Dy w4 (w.heap.size + 1) _ _ from ⟨⟨r0, r1⟩, rf⟩) (.slice none 0 0)) (.slice none 0 0)).1
      have hBf := (hB4.setCell (p := ⟨w.heap.size + 1, 0, none⟩) (by show w.heap.size ≤ w.heap.size + 1; omega) (.slice none 0 0)).setCell (p := ⟨w.heap.size + 1, 1, none⟩) (by show w.heap.size ≤ w.heap.size + 1; omega) (.slice none 0 0)
      go_wp2_with fail
      refine bodyPost_ret (v := .tuple #[.agg #[.slice none 0 0, .slice none 0 0], .int .i64 4]) ?_ rfl ⟨_, _, by rw [HA.out.1], by rw [HA.out.2.1, HA.out.2.2]; exact svNone _ _ _, hBf⟩
      simp [results, Tryz.results6, go_sem, HR.out.1, HR.out.2]
    · have HA : Hid _ := HW2.out hin hx
      have hb4 := below_seq hb2 (below_then (below_alloc w2 (.cells #[.slice none 0 0] 25)) (.cells #[.int .i64 0, .int .i64 0, .string ByteArray.empty] 60))
      have hR4 := hR1.on hb4
      have hB4 := below_seq hB1 hb4
      clear hR1 hB1 hb2 hb4
      go_upto_region 4 with fail
      change Code.wp _ _ _ _ ((w2.alloc (.cells #[.slice none 0 0] 25)).alloc (.cells #[.int .i64 0, .int .i64 0, .string ByteArray.empty] 60))
      generalize (w2.alloc (.cells #[.slice none 0 0] 25)).alloc (.cells #[.int .i64 0, .int .i64 0, .string ByteArray.empty] 60) = w4 at hR4 hB4 ⊢
      obtain ⟨⟨r0, r1⟩, rf⟩ := hR4
      have f0 := rf 0
      have f1 := rf 1
      have HR : Hid _ := (Dy.set1 (Dy.set0 (show Dy w4 (w.heap.size + 1) _ _ from ⟨⟨r0, r1⟩, rf⟩) (.slice none 0 0)) (.slice none 0 0)).1
      have hBf := (hB4.setCell (p := ⟨w.heap.size + 1, 0, none⟩) (by show w.heap.size ≤ w.heap.size + 1; omega) (.slice none 0 0)).setCell (p := ⟨w.heap.size + 1, 1, none⟩) (by show w.heap.size ≤ w.heap.size + 1; omega) (.slice none 0 0)
      go_wp2_with fail
      refine bodyPost_ret (v := .tuple #[.agg #[.slice none 0 0, .slice none 0 0], .int .i64 11]) ?_ rfl ⟨_, _, by rw [HA.out.1], by rw [HA.out.2.1, HA.out.2.2]; exact svNone _ _ _, hBf⟩
      simp [results, Tryz.results6, go_sem, HR.out.1, HR.out.2]
    · have HZ : Hid _ := HW3.out hin hx
      obtain ⟨y, hy⟩ : ∃ y, xs.getD c.toNat 0 + 1 = y := ⟨_, rfl⟩
      rw [hy] at HZ ho2 ⊢
      clear hx hy HW1 HW2 HW3
      have hz1 := hb2.size
      have hgl := ho2.blk g rfl
      have hgb := ho2.lt g rfl
      have hll : ls.length ≤ 256 := hvk.2
      have hwl := without_len ls s
      have hb4 := below_seq hb2 (below_then (below_alloc w2 (.cells #[.slice (some ⟨g, 0, none⟩) 16 cap] 25)) (.cells #[.int .i64 y, .int .i64 c, .string s] 60))
      have hR4 := hR1.on hb4
      have hD4 := (Dy.on HD0.out hB).on hb4
      have hB4 := below_seq hB1 hb4
      have ho4 : Own 3 ((w2.alloc (.cells #[.slice (some ⟨g, 0, none⟩) 16 cap] 25)).alloc (.cells #[.int .i64 y, .int .i64 c, .string s] 60)) w1.heap.size (.slice (some ⟨g, 0, none⟩) 16 cap) ((xs.set c.toNat y).map (Value.int .i64)) := World.ownsRow.alloc (World.ownsRow.alloc ho2 _) _
      have v4 : ((w2.alloc (.cells #[.slice (some ⟨g, 0, none⟩) 16 cap] 25)).alloc (.cells #[.int .i64 y, .int .i64 c, .string s] 60)).cell? ⟨w2.heap.size, 0, none⟩ = some (.slice (some ⟨g, 0, none⟩) 16 cap) := alloc_keep (cell_made1 (Below.refl (w2.alloc (.cells #[.slice (some ⟨g, 0, none⟩) 16 cap] 25)).heap.size (w2.alloc (.cells #[.slice (some ⟨g, 0, none⟩) 16 cap] 25)))) _
      have t4 := three_cells (Below.refl ((w2.alloc (.cells #[.slice (some ⟨g, 0, none⟩) 16 cap] 25)).alloc (.cells #[.int .i64 y, .int .i64 c, .string s] 60)).heap.size ((w2.alloc (.cells #[.slice (some ⟨g, 0, none⟩) 16 cap] 25)).alloc (.cells #[.int .i64 y, .int .i64 c, .string s] 60)))
      have hz4 : ((w2.alloc (.cells #[.slice (some ⟨g, 0, none⟩) 16 cap] 25)).alloc (.cells #[.int .i64 y, .int .i64 c, .string s] 60)).heap.size = w2.heap.size + 1 + 1 := by simp
      rw [World.size_alloc] at t4
      clear hR1 hB1 hb2 hb4 ho2
      go_upto_region 4 with fail
      change Code.wp _ _ _ _ ((w2.alloc (.cells #[.slice (some ⟨g, 0, none⟩) 16 cap] 25)).alloc (.cells #[.int .i64 y, .int .i64 c, .string s] 60))
      generalize (w2.alloc (.cells #[.slice (some ⟨g, 0, none⟩) 16 cap] 25)).alloc (.cells #[.int .i64 y, .int .i64 c, .string s] 60) = w4 at hR4 hD4 hB4 ho4 v4 t4 hz4 ⊢
      have hS : w4.drew.cell? ⟨w.heap.size, 1, none⟩ = some (.slice eo ls.length ec) ∧ w4.drew.cell? ⟨w2.heap.size + 1, 0, none⟩ = some (.int .i64 y) ∧ w4.drew.cell? ⟨w2.heap.size + 1, 1, none⟩ = some (.int .i64 c) ∧ w4.drew.cell? ⟨w2.heap.size + 1, 2, none⟩ = some (.string s) := ⟨hD4.1.2, t4.1, t4.2.1, t4.2.2⟩
      replace hR4 : Dy w4.drew (w.heap.size + 1) _ _ := hR4
      replace hB4 := hB4.drew
      replace v4 : w4.drew.cell? ⟨w2.heap.size, 0, none⟩ = _ := v4
      replace ho4 : Own 3 w4.drew w1.heap.size _ _ := ho4
      replace hz4 : w4.drew.heap.size = w2.heap.size + 1 + 1 := hz4
      have HR4 : Hid _ := hR4
      have HV4 : Hid _ := v4
      clear hD4 t4 hR4 v4
      go_wp2_with fail
      go_region_held3 (fun w' => w'.cell? ⟨w.heap.size, 1, none⟩ = some (.slice eo ls.length ec) ∧ w'.cell? ⟨w2.heap.size + 1, 0, none⟩ = some (.int .i64 y) ∧ w'.cell? ⟨w2.heap.size + 1, 1, none⟩ = some (.int .i64 c) ∧ w'.cell? ⟨w2.heap.size + 1, 2, none⟩ = some (.string s)) (exact hS) (first | (go_at_call 23; refine Calls.mono (l03Without_any C _ _ ls s (by omega) (Nat.le_trans hC hB4.size) (he.below (hB4.mono hC))) ?_; rintro e w5 ⟨r5, rfl, hq5, hn5, hb5⟩; replace hS := And.intro (cell_on hb5 hS.1) (And.intro (cell_on hb5 hS.2.1) (And.intro (cell_on hb5 hS.2.2.1) (cell_on hb5 hS.2.2.2)))) | (go_at_call 22; refine Calls.mono (l03Insert_any _ _ _ (without ls s) y c s (by omega) hq5 hn5) ?_; rintro e w6 ⟨r6, rfl, hq6, hn6, hb6⟩; replace hS := And.intro (cell_on hb6 hS.1) (And.intro (cell_on hb6 hS.2.1) (And.intro (cell_on hb6 hS.2.2.1) (cell_on hb6 hS.2.2.2)))))
      have hb56 := below_seq hb5 hb6
      have z5 := hb5.size
      have z6 := hb6.size
      have hR6 := Dy.on HR4.out hb56
      have v6 := cell_on hb56 HV4.out
      have hB6 := below_seq hB4 hb56
      have ho6 := ho4.below hb56 (Nat.le_refl _)
      have hq6' := hq6.mono (B' := w2.heap.size + 1 + 1) (by omega)
      obtain ⟨g6, d6, rfl, hg6, hg6l, _⟩ := hq6'.some hn6
      have hlen : (insE (without ls s) (y, c, s)).length = (without ls s).length + 1 := insE_len _ _
      clear hS HR4 HV4 hB4 ho4 hb5 hb6 hb56 hq5 hq6 hn5 hn6
      obtain ⟨⟨r0, r1⟩, rf⟩ := hR6
      have f0 := rf 0
      have f1 := rf 1
      have hlt6 : w.heap.size + 1 < w6.heap.size := by omega
      by_cases h256 : (without ls s).length + 1 ≤ 256
      · have HA : Hid _ := HZ.out.1 h256
        generalize hle : (insE (without ls s) (y, c, s)).length = le at hlen hq6' ⊢
        have i0 : ¬ (256 : Int) < (le : Int) := by omega
        clear hlen hle
        have HR : Hid _ := (Dy.set1 (Dy.set0 (show Dy w6 (w.heap.size + 1) _ _ from ⟨⟨r0, r1⟩, rf⟩) (.slice (some ⟨g, 0, none⟩) 16 cap)) (.slice (some ⟨g6, 0, none⟩) le d6)).1
        have hBf := (hB6.setCell (p := ⟨w.heap.size + 1, 0, none⟩) (by show w.heap.size ≤ w.heap.size + 1; omega) (.slice (some ⟨g, 0, none⟩) 16 cap)).setCell (p := ⟨w.heap.size + 1, 1, none⟩) (by show w.heap.size ≤ w.heap.size + 1; omega) (.slice (some ⟨g6, 0, none⟩) le d6)
        have hap : Apart (.slice (some ⟨g, 0, none⟩) 16 cap) (.slice (some ⟨g6, 0, none⟩) le d6) := fun i j hi hj => by
          have h1 : g = i := by simpa [Value.ownBlock] using hi
          have h2 : g6 = j := by simpa [Value.ownBlock] using hj
          omega
        have HS : Hid (Sv _ _ _ _ _ _ _) := (sv_put (show Sv w6 (w.heap.size + 1 + 1) w6.heap.size (.slice (some ⟨g, 0, none⟩) 16 cap) (.slice (some ⟨g6, 0, none⟩) le d6) _ _ from ⟨3, ho6.mono (by omega), hq6'.mono (by omega), hap, ho6.blk, fun i hi => (hq6'.lt i hi).2⟩) (w.heap.size + 1) (by omega) (.slice (some ⟨g, 0, none⟩) 16 cap) (.slice (some ⟨g6, 0, none⟩) le d6)).mono (B' := w.heap.size) (E' := ((w6.setCell ⟨w.heap.size + 1, 0, none⟩ (.slice (some ⟨g, 0, none⟩) 16 cap)).setCell ⟨w.heap.size + 1, 1, none⟩ (.slice (some ⟨g6, 0, none⟩) le d6)).heap.size) (by omega) (by simp)
        clear hap ho6 hq6' hB6 HZ
        go_wp2_with fail
        refine bodyPost_ret (v := .tuple #[.agg #[.slice (some ⟨g, 0, none⟩) 16 cap, .slice (some ⟨g6, 0, none⟩) le d6], .int .i64 0]) ?_ rfl ⟨_, _, by rw [HA.out.1], by rw [HA.out.2.1, HA.out.2.2]; exact HS.out, hBf⟩
        simp [results, Tryz.results6, go_sem, HR.out.1, HR.out.2]
      · have HA : Hid _ := HZ.out.2 h256
        generalize (insE (without ls s) (y, c, s)).length = le at hlen ⊢
        have i0 : (256 : Int) < (le : Int) := by omega
        clear hlen
        have HR : Hid _ := (Dy.set1 (Dy.set0 (show Dy w6 (w.heap.size + 1) _ _ from ⟨⟨r0, r1⟩, rf⟩) (.slice none 0 0)) (.slice none 0 0)).1
        have hBf := (hB6.setCell (p := ⟨w.heap.size + 1, 0, none⟩) (by show w.heap.size ≤ w.heap.size + 1; omega) (.slice none 0 0)).setCell (p := ⟨w.heap.size + 1, 1, none⟩) (by show w.heap.size ≤ w.heap.size + 1; omega) (.slice none 0 0)
        clear ho6 hq6' hB6 HZ
        go_wp2_with fail
        refine bodyPost_ret (v := .tuple #[.agg #[.slice none 0 0, .slice none 0 0], .int .i64 11]) ?_ rfl ⟨_, _, by rw [HA.out.1], by rw [HA.out.2.1, HA.out.2.2]; exact svNone _ _ _, hBf⟩
        simp [results, Tryz.results6, go_sem, HR.out.1, HR.out.2]

end Go.Proofs.YtfnlnigeaioocaaGreat

namespace Go.Proofs.YtfnlnigeaioocaaGreat
open Go.RowKit
set_option linter.unusedVariables false

/-- Stamps that differ. -/
def farE (p q : En) : Prop := ¬ (p.1 = q.1 ∧ p.2.1 = q.2.1)
theorem fold_ins : ∀ (L acc : List En), acc.Pairwise upE → (acc ++ L).Pairwise farE → (L.foldl insE acc).Pairwise upE ∧ (L.foldl insE acc).Perm (acc ++ L) := by
  intro L
  induction L with
  | nil => intro acc h _; exact ⟨h, by simp⟩
  | cons e L ih =>
    intro acc h hd
    have hd2 := List.pairwise_append.1 hd
    have hne : ∀ y ∈ acc, ¬ (y.1 = e.1 ∧ y.2.1 = e.2.1) := fun y hy => hd2.2.2 y hy e (by simp)
    have hp := insE_perm acc e
    have hup := insE_up h hne
    have hperm : (insE acc e ++ L).Perm (acc ++ e :: L) := by
      refine (hp.append_right L).trans ?_
      simp
    have hd3 : (insE acc e ++ L).Pairwise farE := hd.perm hperm.symm (fun hxy hyx => hxy ⟨hyx.1.symm, hyx.2.symm⟩)
    obtain ⟨r1, r2⟩ := ih (insE acc e) hup hd3
    exact ⟨r1, r2.trans hperm⟩
theorem up_nodup {L : List En} (h : L.Pairwise upE) : L.Nodup := by
  refine h.imp fun {a b} hab e => ?_
  subst e
  unfold upE at hab
  rw [lessS_irr] at hab
  cases hab
theorem up_ext {a b : List En} (ha : a.Pairwise upE) (hb : b.Pairwise upE) (h : ∀ x, x ∈ a ↔ x ∈ b) : a = b :=
  up_eq ((List.perm_ext_iff_of_nodup (up_nodup ha) (up_nodup hb)).2 h) ha hb

/-- What stays of the first beside the second; what stays of the second that has no twin in the first; both, rising. -/
def jnA (Y : List Int) (ls1 ls2 : List En) : List En := ls1.filterMap (keepE ls2 Y)
def soleE (X : List Int) (ls1 : List En) (e : En) : Option En := if (ls1.find? (twinE e)).isSome = true then none else keepE ls1 X e
def jnB (X : List Int) (ls1 ls2 : List En) : List En := ls2.filterMap (soleE X ls1)
def jnL (X Y : List Int) (ls1 ls2 : List En) : List En := (jnB X ls1 ls2).foldl insE ((jnA Y ls1 ls2).foldl insE [])
theorem sole_some {X : List Int} {ls1 : List En} {e x : En} (h : soleE X ls1 e = some x) : keepE ls1 X e = some x ∧ ls1.find? (twinE e) = none := by
  unfold soleE at h
  split at h
  · cases h
  · rename_i hc
    refine ⟨h, ?_⟩
    cases hf : ls1.find? (twinE e) with
    | none => rfl
    | some z => rw [hf] at hc; exact absurd rfl hc
theorem far_of {ls : List En} (hap : (ls.map kvE).Pairwise (fun p q => p.1 ≠ q.1)) {f : En → Option En} (hf : ∀ e x, f e = some x → x.1 = e.1 ∧ x.2.1 = e.2.1) : (ls.filterMap f).Pairwise farE := by
  rw [List.pairwise_filterMap]
  rw [List.pairwise_map] at hap
  refine hap.imp fun {a b} hab x hx y hy hst => hab ?_
  have s1 := hf a x hx
  have s2 := hf b y hy
  exact (key_iff b a).2 ⟨by rw [← s1.1, hst.1, s2.1], by rw [← s1.2, hst.2, s2.2]⟩
theorem jn_far {X Y : List Int} {ls1 ls2 : List En} (h1 : (ls1.map kvE).Pairwise (fun p q => p.1 ≠ q.1)) (h2 : (ls2.map kvE).Pairwise (fun p q => p.1 ≠ q.1)) : (jnA Y ls1 ls2 ++ jnB X ls1 ls2).Pairwise farE := by
  refine List.pairwise_append.2 ⟨far_of h1 (fun e x h => keep_stamp h), far_of h2 (fun e x h => keep_stamp (sole_some h).1), fun x hx y hy hst => ?_⟩
  obtain ⟨e, he, hke⟩ := List.mem_filterMap.1 hx
  obtain ⟨z, hz, hkz⟩ := List.mem_filterMap.1 hy
  have s1 := keep_stamp hke
  have s2 := keep_stamp (sole_some hkz).1
  have hn := List.find?_eq_none.1 (sole_some hkz).2 e he
  unfold twinE at hn
  exact hn (by simpa using (⟨by rw [← s1.1, hst.1, s2.1], by rw [← s1.2, hst.2, s2.2]⟩ : e.1 = z.1 ∧ e.2.1 = z.2.1))
theorem jnL_up {X Y : List Int} {ls1 ls2 : List En} (h1 : (ls1.map kvE).Pairwise (fun p q => p.1 ≠ q.1)) (h2 : (ls2.map kvE).Pairwise (fun p q => p.1 ≠ q.1)) : (jnL X Y ls1 ls2).Pairwise upE ∧ (jnL X Y ls1 ls2).Perm (jnA Y ls1 ls2 ++ jnB X ls1 ls2) := by
  have hd := jn_far (X := X) (Y := Y) h1 h2
  obtain ⟨a1, a2⟩ := fold_ins (jnA Y ls1 ls2) [] List.Pairwise.nil (by simpa using (List.pairwise_append.1 hd).1)
  have hd2 : ((jnA Y ls1 ls2).foldl insE [] ++ jnB X ls1 ls2).Pairwise farE := hd.perm (a2.symm.append_right _) (fun hxy hyx => hxy ⟨hyx.1.symm, hyx.2.symm⟩)
  obtain ⟨b1, b2⟩ := fold_ins (jnB X ls1 ls2) _ a1 hd2
  exact ⟨b1, b2.trans (a2.append_right _)⟩
/-- The code's map holds just these. -/
theorem jn_out {X Y : List Int} {ls1 ls2 out1 out es : List En} (h1 : (ls1.map kvE).Pairwise (fun p q => p.1 ≠ q.1)) (h2 : (ls2.map kvE).Pairwise (fun p q => p.1 ≠ q.1)) (hK1 : KeptIs [] ls1 ls2 Y out1) (hK2 : KeptIs out1 ls2 ls1 X out) (hp : es.Perm out) (hu : es.Pairwise upE) : es = jnL X Y ls1 ls2 := by
  obtain ⟨u1, u2⟩ := jnL_up (X := X) (Y := Y) h1 h2
  refine up_ext hu u1 fun x => ?_
  rw [hp.mem_iff, hK2, hK1, u2.mem_iff, List.mem_append]
  constructor
  · rintro ((h | ⟨e, he, hk⟩) | ⟨e, he, hk⟩)
    · cases h
    · exact .inl (List.mem_filterMap.2 ⟨e, he, hk⟩)
    · cases hf : ls1.find? (twinE e) with
      | none =>
        refine .inr (List.mem_filterMap.2 ⟨e, he, ?_⟩)
        unfold soleE
        rw [hf]
        exact hk
      | some z =>
        have hz := List.find?_some hf
        have hzm := List.mem_of_find?_eq_some hf
        unfold twinE at hz
        simp only [decide_eq_true_eq] at hz
        rw [keep_twin h1 hzm hz] at hk
        refine .inl (List.mem_filterMap.2 ⟨z, hzm, ?_⟩)
        rw [keep_twin h2 he ⟨hz.1.symm, hz.2.symm⟩, ← hk, gr_comm hz]
  · rintro (h | h)
    · obtain ⟨e, he, hk⟩ := List.mem_filterMap.1 h
      exact .inl (.inr ⟨e, he, hk⟩)
    · obtain ⟨e, he, hk⟩ := List.mem_filterMap.1 h
      exact .inr ⟨e, he, (sole_some hk).1⟩

theorem apart_nodup {ls : List En} (h : (ls.map kvE).Pairwise (fun p q => p.1 ≠ q.1)) : ls.Nodup := by
  rw [List.pairwise_map] at h
  exact h.imp fun {a b} hab e => hab (by rw [e])
theorem jn_mem {X Y : List Int} {ls1 ls2 out1 out : List En} (h1 : (ls1.map kvE).Pairwise (fun p q => p.1 ≠ q.1)) (h2 : (ls2.map kvE).Pairwise (fun p q => p.1 ≠ q.1)) (hK1 : KeptIs [] ls1 ls2 Y out1) (hK2 : KeptIs out1 ls2 ls1 X out) (h3 : (out.map kvE).Pairwise (fun p q => p.1 ≠ q.1)) : out.Perm (jnL X Y ls1 ls2) := by
  obtain ⟨u1, u2⟩ := jnL_up (X := X) (Y := Y) h1 h2
  refine (List.perm_ext_iff_of_nodup (apart_nodup h3) (up_nodup u1)).2 fun x => ?_
  rw [hK2, hK1, u2.mem_iff, List.mem_append]
  constructor
  · rintro ((h | ⟨e, he, hk⟩) | ⟨e, he, hk⟩)
    · cases h
    · exact .inl (List.mem_filterMap.2 ⟨e, he, hk⟩)
    · cases hf : ls1.find? (twinE e) with
      | none =>
        refine .inr (List.mem_filterMap.2 ⟨e, he, ?_⟩)
        unfold soleE
        rw [hf]
        exact hk
      | some z =>
        have hz := List.find?_some hf
        have hzm := List.mem_of_find?_eq_some hf
        unfold twinE at hz
        simp only [decide_eq_true_eq] at hz
        rw [keep_twin h1 hzm hz] at hk
        refine .inl (List.mem_filterMap.2 ⟨z, hzm, ?_⟩)
        rw [keep_twin h2 he ⟨hz.1.symm, hz.2.symm⟩, ← hk, gr_comm hz]
  · rintro (h | h)
    · obtain ⟨e, he, hk⟩ := List.mem_filterMap.1 h
      exact .inl (.inr ⟨e, he, hk⟩)
    · obtain ⟨e, he, hk⟩ := List.mem_filterMap.1 h
      exact .inr ⟨e, he, (sole_some hk).1⟩
theorem jnL_len {X Y : List Int} {ls1 ls2 : List En} (h1 : (ls1.map kvE).Pairwise (fun p q => p.1 ≠ q.1)) (h2 : (ls2.map kvE).Pairwise (fun p q => p.1 ≠ q.1)) : (jnL X Y ls1 ls2).length ≤ ls1.length + ls2.length := by
  rw [(jnL_up (X := X) (Y := Y) h1 h2).2.length_eq, List.length_append]
  exact Nat.add_le_add (List.length_filterMap_le _ _) (List.length_filterMap_le _ _)
theorem okJ_apart {xs : List Int} {ls : List En} (h : okJ xs ls = true) : (ls.map kvE).Pairwise (fun p q => p.1 ≠ q.1) := by
  rw [List.pairwise_map]
  refine (okJ_up h).imp fun {a b} hab e => ?_
  obtain ⟨e1, e2⟩ := (key_iff b a).1 e
  unfold upE at hab
  rw [e1, e2, lessS_irr] at hab
  cases hab
theorem okJ_act {xs : List Int} {ls : List En} (h : okJ xs ls = true) : ∀ e ∈ ls, 0 ≤ e.2.1 ∧ e.2.1 < 16 := by
  unfold okJ at h
  simp only [Bool.and_eq_true, decide_eq_true_eq] at h
  intro e he
  obtain ⟨j, hj, rfl⟩ := List.getElem_of_mem he
  have h1 := allOne_mono (k := j + 1) (by omega) h.2.2
  simp only [allOne, Bool.and_eq_true] at h1
  have h2 := (one_parts h1.2).1
  rw [show enAt ls j = ls[j] by simp [enAt, hj]] at h2
  unfold stOK at h2
  simp only [decide_eq_true_eq] at h2
  omega
/-- The code of a joining; the counts and the entries behind it. -/
def jnC (xs : List Int) (ls : List En) (ys : List Int) (ms : List En) : Int := if okJ xs ls = true ∧ okJ ys ms = true then (if (jnL xs ys ls ms).length ≤ 256 then 0 else 11) else 1
def jnV (xs : List Int) (ls : List En) (ys : List Int) (ms : List En) : List Int := if jnC xs ls ys ms = 0 then List.zipWith mxI xs ys else []
def jnE (xs : List Int) (ls : List En) (ys : List Int) (ms : List En) : List En := if jnC xs ls ys ms = 0 then jnL xs ys ls ms else []
theorem jn_bad {xs : List Int} {ls : List En} {ys : List Int} {ms : List En} (h : ¬ (okJ xs ls = true ∧ okJ ys ms = true)) : jnC xs ls ys ms = 1 ∧ jnV xs ls ys ms = [] ∧ jnE xs ls ys ms = [] := by
  have : jnC xs ls ys ms = 1 := if_neg h
  simp [jnV, jnE, this]
theorem jn_many {xs : List Int} {ls : List En} {ys : List Int} {ms : List En} (h : okJ xs ls = true ∧ okJ ys ms = true) (hl : ¬ (jnL xs ys ls ms).length ≤ 256) : jnC xs ls ys ms = 11 ∧ jnV xs ls ys ms = [] ∧ jnE xs ls ys ms = [] := by
  have : jnC xs ls ys ms = 11 := by unfold jnC; rw [if_pos h, if_neg hl]
  simp [jnV, jnE, this]
theorem jn_done {xs : List Int} {ls : List En} {ys : List Int} {ms : List En} (h : okJ xs ls = true ∧ okJ ys ms = true) (hl : (jnL xs ys ls ms).length ≤ 256) : jnC xs ls ys ms = 0 ∧ jnV xs ls ys ms = List.zipWith mxI xs ys ∧ jnE xs ls ys ms = jnL xs ys ls ms := by
  have : jnC xs ls ys ms = 0 := by unfold jnC; rw [if_pos h, if_pos hl]
  simp [jnV, jnE, this]

end Go.Proofs.YtfnlnigeaioocaaGreat

namespace Go.Proofs.YtfnlnigeaioocaaGreat
open Go.RowKit
set_option linter.unusedVariables false

/-- What the specification's l03Join answers at valid values. -/
def L03Join : Prop := ∀ (C : Nat) (w : World) (v ve v' ve' : Value) (xs ys : List Int) (ls ms : List En), C ≤ w.heap.size → Rd C w v (xs.map (Value.int .i64)) → RdE C w ve ls → Rd C w v' (ys.map (Value.int .i64)) → RdE C w ve' ms → okJ xs ls = true → okJ ys ms = true →
  Calls Tryz.prog 96 #[.agg #[v], ve, .agg #[v'], ve'] w fun e w' => ∃ r, e = .returned r ∧ OwnE w' w.heap.size r (jnL xs ys ls ms) ∧ r ≠ .slice none 0 0 ∧ Below w.heap.size w w'

set_option maxHeartbeats 8000000 in
set_option maxRecDepth 100000 in
theorem specMultiJoin_of (hL : L03Join) (C : Nat) (w : World) (v ve v' ve' : Value) (xs ys : List Int) (ls ms : List En) (hC : C ≤ w.heap.size) (hv : Rd C w v (xs.map (Value.int .i64))) (he : RdE C w ve ls) (hv' : Rd C w v' (ys.map (Value.int .i64))) (he' : RdE C w ve' ms) :
    Calls Tryz.prog 88 #[.agg #[v, ve], .agg #[v', ve']] w (SvAns (jnV xs ls ys ms) (jnE xs ls ys ms) (jnC xs ls ys ms) w) := by
  have HL : Hid _ := hL
  clear hL
  have hsl : ∃ ao len cap, v = .slice ao len cap := by
    obtain ⟨ao, cap, rfl, _⟩ := hv
    exact ⟨_, _, _, rfl⟩
  obtain ⟨ao, la, ca, rfl⟩ := hsl
  have hsl : ∃ ao len cap, v' = .slice ao len cap := by
    obtain ⟨ao, cap, rfl, _⟩ := hv'
    exact ⟨_, _, _, rfl⟩
  obtain ⟨bo, lb, cb, rfl⟩ := hsl
  have he0 := he
  obtain ⟨eo, ec, rfl, _⟩ := he0
  have he0 := he'
  obtain ⟨fo, fc, rfl, _⟩ := he0
  obtain ⟨W, hW⟩ : ∃ W, ((w.alloc (.cells #[.slice ao la ca, .slice eo ls.length ec] 74)).alloc (.cells #[.slice bo lb cb, .slice fo ms.length fc] 74)).alloc (.cells #[.slice none 0 0, .slice none 0 0] 74) = W := ⟨_, rfl⟩
  have hB0 : Below w.heap.size w W := by rw [← hW]; exact below_then (below_then (below_alloc _ _) _) _
  have HZ0 : Hid (W.heap.size = w.heap.size + 1 + 1 + 1) := by unfold Hid; rw [← hW]; simp
  have hD0 : Dy W w.heap.size (.slice ao la ca) (.slice eo ls.length ec) := by rw [← hW]; exact ((Dy.made w (.slice ao la ca) (.slice eo ls.length ec) 74).on (below_alloc _ _)).on (below_alloc _ _)
  have hE0 : Dy W (w.heap.size + 1) (.slice bo lb cb) (.slice fo ms.length fc) := by
    have := (Dy.made (w.alloc (.cells #[.slice ao la ca, .slice eo ls.length ec] 74)) (.slice bo lb cb) (.slice fo ms.length fc) 74).on (below_alloc _ (.cells #[.slice none 0 0, .slice none 0 0] 74))
    rw [World.size_alloc, hW] at this
    exact this
  have hR0 : Dy W (w.heap.size + 1 + 1) (.slice none 0 0) (.slice none 0 0) := by
    have := Dy.made ((w.alloc (.cells #[.slice ao la ca, .slice eo ls.length ec] 74)).alloc (.cells #[.slice bo lb cb, .slice fo ms.length fc] 74)) (.slice none 0 0) (.slice none 0 0) 74
    rw [World.size_alloc, World.size_alloc, hW] at this
    exact this
  have h1 := l03EntriesOK_any C W (.slice ao la ca) (.slice eo ls.length ec) xs ls (Nat.le_trans hC hB0.size) (hv.belowW hB0 hC) (he.below (hB0.mono hC))
  have HD : Hid _ := hD0
  have HE : Hid _ := hE0
  have HR : Hid _ := hR0
  obtain ⟨⟨e0, e1⟩, _⟩ := hD0
  clear hE0 hR0
  go_enter Tryz.func88, Tryz.ntmps88
  go_upto_region 1 with fail
  clear hW
  cases hk1 : okJ xs ls with
  | false =>
    have HA : Hid (jnC xs ls ys ms = 1 ∧ jnV xs ls ys ms = [] ∧ jnE xs ls ys ms = []) := jn_bad (by rw [hk1]; simp)
    rw [hk1] at h1
    clear hk1
    go_wp2_with (first | (go_at_call 20; refine h1.mono ?_; rintro e w1 ⟨rfl, hb1⟩; obtain ⟨⟨r0, r1⟩, rf⟩ := Dy.on HR.out hb1; have f0 := rf 0; have f1 := rf 1))
    have hp := (Dy.set1 (Dy.set0 (show Dy w1 (w.heap.size + 1 + 1) _ _ from Dy.on HR.out hb1) (.slice none 0 0)) (.slice none 0 0)).1
    have hBf := ((below_seq hB0 hb1).setCell (p := ⟨w.heap.size + 1 + 1, 0, none⟩) (by show w.heap.size ≤ w.heap.size + 1 + 1; omega) (.slice none 0 0)).setCell (p := ⟨w.heap.size + 1 + 1, 1, none⟩) (by show w.heap.size ≤ w.heap.size + 1 + 1; omega) (.slice none 0 0)
    refine bodyPost_ret (v := .tuple #[.agg #[.slice none 0 0, .slice none 0 0], .int .i64 1]) ?_ rfl ⟨_, _, by rw [HA.out.1], by rw [HA.out.2.1, HA.out.2.2]; exact svNone _ _ _, hBf⟩
    simp [results, Tryz.results88, go_sem, hp.1, hp.2]
  | true =>
    rw [hk1] at h1
    have HK1 : Hid _ := hk1
    clear hk1
    go_wp2_with fail
    refine h1.mono ?_
    rintro e w1 ⟨rfl, hb1⟩
    have hB1 := below_seq hB0 hb1
    have h2 := l03EntriesOK_any C w1 (.slice bo lb cb) (.slice fo ms.length fc) ys ms (Nat.le_trans hC hB1.size) (hv'.belowW hB1 hC) (he'.below (hB1.mono hC))
    clear e0 e1 h1
    obtain ⟨⟨c0, c1⟩, _⟩ := Dy.on HE.out hb1
    cases hk2 : okJ ys ms with
    | false =>
      have HA : Hid (jnC xs ls ys ms = 1 ∧ jnV xs ls ys ms = [] ∧ jnE xs ls ys ms = []) := jn_bad (by rw [hk2]; simp)
      rw [hk2] at h2
      clear hk2
      go_wp2_with (first | (go_at_call 20; refine h2.mono ?_; rintro e w2 ⟨rfl, hb2⟩; obtain ⟨⟨r0, r1⟩, rf⟩ := Dy.on HR.out (below_seq hb1 hb2); have f0 := rf 0; have f1 := rf 1))
      have hp := (Dy.set1 (Dy.set0 (show Dy w2 (w.heap.size + 1 + 1) _ _ from Dy.on HR.out (below_seq hb1 hb2)) (.slice none 0 0)) (.slice none 0 0)).1
      have hBf := ((below_seq hB0 (below_seq hb1 hb2)).setCell (p := ⟨w.heap.size + 1 + 1, 0, none⟩) (by show w.heap.size ≤ w.heap.size + 1 + 1; omega) (.slice none 0 0)).setCell (p := ⟨w.heap.size + 1 + 1, 1, none⟩) (by show w.heap.size ≤ w.heap.size + 1 + 1; omega) (.slice none 0 0)
      refine bodyPost_ret (v := .tuple #[.agg #[.slice none 0 0, .slice none 0 0], .int .i64 1]) ?_ rfl ⟨_, _, by rw [HA.out.1], by rw [HA.out.2.1, HA.out.2.2]; exact svNone _ _ _, hBf⟩
      simp [results, Tryz.results88, go_sem, hp.1, hp.2]
    | true =>
      rw [hk2] at h2
      have HK2 : Hid _ := hk2
      clear hk2
      go_wp2_with fail
      refine h2.mono ?_
      rintro e w2 ⟨rfl, hb2⟩
      have hb02 := below_seq hb1 hb2
      have hB2 := below_seq hB0 hb02
      have h3 := HL.out C w2 (.slice ao la ca) (.slice eo ls.length ec) (.slice bo lb cb) (.slice fo ms.length fc) xs ys ls ms (Nat.le_trans hC hB2.size) (hv.belowW hB2 hC) (he.below (hB2.mono hC)) (hv'.belowW hB2 hC) (he'.below (hB2.mono hC)) HK1.out HK2.out
      have hz2 := hb02.size
      clear c0 c1 h2 hb1 hb2 hB1
      obtain ⟨⟨a0, a1⟩, _⟩ := Dy.on HD.out hb02
      obtain ⟨⟨c0, c1⟩, _⟩ := Dy.on HE.out hb02
      go_wp2_with fail
      refine h3.mono ?_
      rintro e w3 ⟨r, rfl, ho3, hn3, hb3⟩
      obtain ⟨g3, d3, rfl, hg3, hg3l, _⟩ := ho3.some hn3
      have hb03 := below_seq hb02 hb3
      have hB3 := below_seq hB0 hb03
      have x16 := (vecOK_get (vecOK_ofS HK1.out).1).1
      have y16 := (vecOK_get (vecOK_ofS HK2.out).1).1
      have h4 := l02Join_any C C w3 (.slice ao la ca) (.slice bo lb cb) xs ys x16 y16 (Nat.le_trans hC hB3.size) (Nat.le_trans hC hB3.size) (hv.belowW hB3 hC) (hv'.belowW hB3 hC)
      have hz3 := hb3.size
      clear a0 a1 c0 c1 h3
      obtain ⟨⟨a0, a1⟩, _⟩ := Dy.on HD.out hb03
      obtain ⟨⟨c0, c1⟩, _⟩ := Dy.on HE.out hb03
      obtain ⟨le, hle⟩ : ∃ le, (jnL xs ys ls ms).length = le := ⟨_, rfl⟩
      by_cases h256 : le ≤ 256
      · have HA : Hid _ := jn_done ⟨HK1.out, HK2.out⟩ (show (jnL xs ys ls ms).length ≤ 256 by omega)
        have i0 : ¬ (256 : Int) < (le : Int) := by omega
        rw [hle] at ho3 ⊢
        clear hle
        go_wp2_with fail
        refine h4.mono ?_
        rintro e w4 ⟨a4, n4, c4, rfl, ho4, hb4⟩
        have hb04 := below_seq hb03 hb4
        have hB4 := below_seq hB0 hb04
        have hz4 := hb4.size
        have hR4 := Dy.on HR.out hb04
        have hlt4 := Dy.lt HR.out
        have ho34 := ho3.on hb4
        have hap : Apart (.slice a4 n4 c4) (.slice (some ⟨g3, 0, none⟩) le d3) := fun i j hi hj => by
          have h1 : w3.heap.size ≤ i := ho4.lt i hi
          have h2 : g3 = j := by simpa [Value.ownBlock] using hj
          omega
        have HS : Hid (Sv _ _ _ _ _ _ _) := (sv_put (show Sv w4 (w.heap.size + 1 + 1 + 1) w4.heap.size (.slice a4 n4 c4) (.slice (some ⟨g3, 0, none⟩) le d3) _ _ from ⟨3, ho4.mono (by have := HZ0.out; omega), ho34.mono (by have := HZ0.out; omega), hap, ho4.blk, fun i hi => (ho34.lt i hi).2⟩) (w.heap.size + 1 + 1) (by omega) (.slice a4 n4 c4) (.slice (some ⟨g3, 0, none⟩) le d3)).mono (B' := w.heap.size) (E' := ((w4.setCell ⟨w.heap.size + 1 + 1, 0, none⟩ (.slice a4 n4 c4)).setCell ⟨w.heap.size + 1 + 1, 1, none⟩ (.slice (some ⟨g3, 0, none⟩) le d3)).heap.size) (by omega) (by simp)
        obtain ⟨⟨r0, r1⟩, rf⟩ := hR4
        have f0 := rf 0
        have f1 := rf 1
        have hp := (Dy.set1 (Dy.set0 (show Dy w4 (w.heap.size + 1 + 1) _ _ from ⟨⟨r0, r1⟩, rf⟩) (.slice a4 n4 c4)) (.slice (some ⟨g3, 0, none⟩) le d3)).1
        have HP : Hid _ := hp
        have hBf := (hB4.setCell (p := ⟨w.heap.size + 1 + 1, 0, none⟩) (by show w.heap.size ≤ w.heap.size + 1 + 1; omega) (.slice a4 n4 c4)).setCell (p := ⟨w.heap.size + 1 + 1, 1, none⟩) (by show w.heap.size ≤ w.heap.size + 1 + 1; omega) (.slice (some ⟨g3, 0, none⟩) le d3)
        clear hp hap ho34 ho4 ho3 h4
        go_wp2_with fail
        refine bodyPost_ret (v := .tuple #[.agg #[.slice a4 n4 c4, .slice (some ⟨g3, 0, none⟩) le d3], .int .i64 0]) ?_ rfl ⟨_, _, by rw [HA.out.1], by rw [HA.out.2.1, HA.out.2.2]; exact HS.out, hBf⟩
        simp [results, Tryz.results88, go_sem, HP.out.1, HP.out.2]
      · have HA : Hid _ := jn_many ⟨HK1.out, HK2.out⟩ (show ¬ (jnL xs ys ls ms).length ≤ 256 by omega)
        have i0 : (256 : Int) < (le : Int) := by omega
        rw [hle] at ho3 ⊢
        clear hle h4
        obtain ⟨⟨r0, r1⟩, rf⟩ := Dy.on HR.out hb03
        have f0 := rf 0
        have f1 := rf 1
        go_wp2_with fail
        have hp := (Dy.set1 (Dy.set0 (show Dy w3 (w.heap.size + 1 + 1) _ _ from Dy.on HR.out (hb03)) (.slice none 0 0)) (.slice none 0 0)).1
        have hBf := ((below_seq hB0 (hb03)).setCell (p := ⟨w.heap.size + 1 + 1, 0, none⟩) (by show w.heap.size ≤ w.heap.size + 1 + 1; omega) (.slice none 0 0)).setCell (p := ⟨w.heap.size + 1 + 1, 1, none⟩) (by show w.heap.size ≤ w.heap.size + 1 + 1; omega) (.slice none 0 0)
        refine bodyPost_ret (v := .tuple #[.agg #[.slice none 0 0, .slice none 0 0], .int .i64 11]) ?_ rfl ⟨_, _, by rw [HA.out.1], by rw [HA.out.2.1, HA.out.2.2]; exact svNone _ _ _, hBf⟩
        simp [results, Tryz.results88, go_sem, hp.1, hp.2]

end Go.Proofs.YtfnlnigeaioocaaGreat

namespace Go.Proofs.YtfnlnigeaioocaaGreat
open Go.RowKit
set_option linter.unusedVariables false

set_option maxHeartbeats 8000000 in
set_option maxRecDepth 100000 in
theorem specSetJoin_of (hL : L03Join) (C : Nat) (w : World) (v ve v' ve' : Value) (xs ys : List Int) (ls ms : List En) (hC : C ≤ w.heap.size) (hv : Rd C w v (xs.map (Value.int .i64))) (he : RdE C w ve ls) (hv' : Rd C w v' (ys.map (Value.int .i64))) (he' : RdE C w ve' ms) :
    Calls Tryz.prog 71 #[.agg #[v, ve], .agg #[v', ve']] w (SvAns (jnV xs ls ys ms) (jnE xs ls ys ms) (jnC xs ls ys ms) w) := by
  have hsl : ∃ ao len cap, v = .slice ao len cap := by
    obtain ⟨ao, cap, rfl, _⟩ := hv
    exact ⟨_, _, _, rfl⟩
  obtain ⟨ao, la, ca, rfl⟩ := hsl
  have hsl : ∃ ao len cap, v' = .slice ao len cap := by
    obtain ⟨ao, cap, rfl, _⟩ := hv'
    exact ⟨_, _, _, rfl⟩
  obtain ⟨bo, lb, cb, rfl⟩ := hsl
  have he0 := he
  obtain ⟨eo, ec, rfl, _⟩ := he0
  have he0 := he'
  obtain ⟨fo, fc, rfl, _⟩ := he0
  obtain ⟨W, hW⟩ : ∃ W, ((w.alloc (.cells #[.slice ao la ca, .slice eo ls.length ec] 28)).alloc (.cells #[.slice bo lb cb, .slice fo ms.length fc] 28)).alloc (.cells #[.slice none 0 0, .slice none 0 0] 28) = W := ⟨_, rfl⟩
  have hB0 : Below w.heap.size w W := by rw [← hW]; exact below_then (below_then (below_alloc _ _) _) _
  have HZ0 : Hid (W.heap.size = w.heap.size + 1 + 1 + 1) := by unfold Hid; rw [← hW]; simp
  have hD0 : Dy W w.heap.size (.slice ao la ca) (.slice eo ls.length ec) := by rw [← hW]; exact ((Dy.made w (.slice ao la ca) (.slice eo ls.length ec) 28).on (below_alloc _ _)).on (below_alloc _ _)
  have hE0 : Dy W (w.heap.size + 1) (.slice bo lb cb) (.slice fo ms.length fc) := by
    have := (Dy.made (w.alloc (.cells #[.slice ao la ca, .slice eo ls.length ec] 28)) (.slice bo lb cb) (.slice fo ms.length fc) 28).on (below_alloc _ (.cells #[.slice none 0 0, .slice none 0 0] 28))
    rw [World.size_alloc, hW] at this
    exact this
  have hR0 : Dy W (w.heap.size + 1 + 1) (.slice none 0 0) (.slice none 0 0) := by
    have := Dy.made ((w.alloc (.cells #[.slice ao la ca, .slice eo ls.length ec] 28)).alloc (.cells #[.slice bo lb cb, .slice fo ms.length fc] 28)) (.slice none 0 0) (.slice none 0 0) 28
    rw [World.size_alloc, World.size_alloc, hW] at this
    exact this
  have h1 := specMultiJoin_of hL C W (.slice ao la ca) (.slice eo ls.length ec) (.slice bo lb cb) (.slice fo ms.length fc) xs ys ls ms (Nat.le_trans hC hB0.size) (hv.belowW hB0 hC) (he.below (hB0.mono hC)) (hv'.belowW hB0 hC) (he'.below (hB0.mono hC))
  generalize jnV xs ls ys ms = us at h1 ⊢
  generalize jnE xs ls ys ms = bs at h1 ⊢
  generalize jnC xs ls ys ms = kc at h1 ⊢
  have HR : Hid _ := hR0
  obtain ⟨⟨e0, e1⟩, _⟩ := hD0
  obtain ⟨⟨c0, c1⟩, _⟩ := hE0
  clear hR0 hL
  go_enter Tryz.func71, Tryz.ntmps71
  go_upto_region 1 with fail
  clear hW
  go_wp2_with fail
  refine h1.mono ?_
  rintro e w1 ⟨u, v, rfl, hSv, hb1⟩
  obtain ⟨ua, un, uc, va, vn, vc, rfl, rfl⟩ := hSv.shape
  have hb2 := below_alloc w1 (.cells #[.slice ua un uc, .slice va vn vc] 74)
  have hM2 := (Dy.made w1 (.slice ua un uc) (.slice va vn vc) 74).1
  have hS2 := hSv.on hb2
  have hR2 := Dy.on HR.out (below_seq hb1 hb2)
  have hB2 := below_seq hB0 (below_seq hb1 hb2)
  have hlt := Dy.lt HR.out
  clear e0 e1 c0 c1 h1 hSv
  go_upto_region 2 with fail
  change Code.wp _ _ _ _ (w1.alloc (.cells #[.slice ua un uc, .slice va vn vc] 74))
  generalize w1.alloc (.cells #[.slice ua un uc, .slice va vn vc] 74) = w2 at *
  obtain ⟨m0, m1⟩ := hM2
  obtain ⟨⟨r0, r1⟩, rf⟩ := hR2
  have f0 := rf 0
  have f1 := rf 1
  have HP : Hid _ := (Dy.set1 (Dy.set0 (show Dy w2 (w.heap.size + 1 + 1) _ _ from ⟨⟨r0, r1⟩, rf⟩) (.slice ua un uc)) (.slice va vn vc)).1
  have hBf := (hB2.setCell (p := ⟨w.heap.size + 1 + 1, 0, none⟩) (by show w.heap.size ≤ w.heap.size + 1 + 1; omega) (.slice ua un uc)).setCell (p := ⟨w.heap.size + 1 + 1, 1, none⟩) (by show w.heap.size ≤ w.heap.size + 1 + 1; omega) (.slice va vn vc)
  have hz2 : w1.heap.size ≤ w2.heap.size := hb2.size
  have HS : Hid (Sv _ _ _ _ _ _ _) := (sv_put hS2 (w.heap.size + 1 + 1) hlt (.slice ua un uc) (.slice va vn vc)).mono (B' := w.heap.size) (E' := ((w2.setCell ⟨w.heap.size + 1 + 1, 0, none⟩ (.slice ua un uc)).setCell ⟨w.heap.size + 1 + 1, 1, none⟩ (.slice va vn vc)).heap.size) (by omega) (by simpa using hz2)
  clear hS2 hB2
  go_wp2_with fail
  refine bodyPost_ret (v := .tuple #[.agg #[.slice ua un uc, .slice va vn vc], .int .i64 kc]) ?_ rfl ⟨_, _, rfl, HS.out, hBf⟩
  simp [results, Tryz.results71, go_sem, HP.out.1, HP.out.2]

end Go.Proofs.YtfnlnigeaioocaaGreat

namespace Go.Proofs.YtfnlnigeaioocaaGreat
open Go.RowKit
set_option linter.unusedVariables false

theorem find_pos (e : En) : ∀ ls : List En, (posP (isnt e.1 e.2.1) ls < ls.length → ls.find? (twinE e) = some (enAt ls (posP (isnt e.1 e.2.1) ls))) ∧ (¬ posP (isnt e.1 e.2.1) ls < ls.length → ls.find? (twinE e) = none) := by
  intro ls
  induction ls with
  | nil => exact ⟨fun h => by simp [posP] at h, fun _ => rfl⟩
  | cons y ys ih =>
    by_cases hy : y.1 = e.1 ∧ y.2.1 = e.2.1
    · have h1 : isnt e.1 e.2.1 y = false := by unfold isnt; simp [hy.1, hy.2]
      have h2 : twinE e y = true := by unfold twinE; simp [hy.1, hy.2]
      have h3 : posP (isnt e.1 e.2.1) (y :: ys) = 0 := by unfold posP; rw [h1]; rfl
      rw [h3]
      refine ⟨fun _ => ?_, fun h => absurd (by simp) h⟩
      rw [List.find?_cons, h2]
      rfl
    · have h1 : isnt e.1 e.2.1 y = true := by
        unfold isnt
        simp only [Bool.not_eq_true', Bool.and_eq_false_iff, beq_eq_false_iff_ne]
        by_cases hq : y.1 = e.1
        · exact .inr (fun h => hy ⟨hq, h⟩)
        · exact .inl hq
      have h2 : twinE e y = false := by unfold twinE; exact decide_eq_false hy
      have h3 : posP (isnt e.1 e.2.1) (y :: ys) = posP (isnt e.1 e.2.1) ys + 1 := by
        show (if isnt e.1 e.2.1 y = true then posP (isnt e.1 e.2.1) ys + 1 else 0) = _
        rw [if_pos h1]
      rw [h3, List.find?_cons, h2]
      refine ⟨fun h => ?_, fun h => ?_⟩
      · have := ih.1 (by simpa using h)
        simpa [enAt] using this
      · exact ih.2 (fun hl => h (by simpa using hl))
/-- There is a twin just where its place is found. -/
theorem findE_some {ls : List En} {e : En} {k : Nat} (h : findE ls e.1 e.2.1 = (k : Int)) : k < ls.length ∧ ls.find? (twinE e) = some (enAt ls k) := by
  unfold findE at h
  split at h
  · rename_i hl
    have hk : posP (isnt e.1 e.2.1) ls = k := by omega
    rw [← hk]
    exact ⟨hl, (find_pos e ls).1 hl⟩
  · omega
theorem findE_none {ls : List En} {e : En} (h : findE ls e.1 e.2.1 < 0) : ls.find? (twinE e) = none := by
  unfold findE at h
  split at h
  · omega
  · rename_i hl
    exact (find_pos e ls).2 hl
theorem findE_cases (ls : List En) (t a : Int) : (∃ k : Nat, findE ls t a = (k : Int)) ∨ findE ls t a = -1 := by
  unfold findE
  split
  · exact .inl ⟨_, rfl⟩
  · exact .inr rfl

end Go.Proofs.YtfnlnigeaioocaaGreat
