/- The walk of the law FnBytes: it answers true at every list of bytes. -/
import Derived.Deep.RegionHeld2
import Derived.Deep.CutRange
import Derived.Test.YtpiadcjkbbgggaaQSrcBytesToDrawVecB
import Derived.Test.YtpiadcjkbbgggaaQTextsToPutTextsSpec
import Derived.Test.YtpiadcjkbbgggaaQBackVec
import Derived.Test.YtpiadcjkbbgggaaQInfoToRunsDef
import Derived.Test.YtpiadcjkbbgggaaQTextsImplToAttemptRuns
import Derived.Test.YtpiadcjkbbgggaaQVecReadImplToVecReadTop
import Derived.Test.YtpiadcjkbbgggaaQPutRunsImplToPutRunsSpec
import Derived.Test.YtpiadcjkbbgggaaQFrame
namespace Go.Proofs.Ytpiadcjkbbgggaa
open Go.RowKit
set_option linter.unusedVariables false

/-- Behind an append onto a list that was made just now. -/
theorem gr_below2 {w w' : World} {o : Obj} {e : TypeId} {v : Value} {cs : List Value} (hg : (w.alloc o).grownBy w' v.ownBlock) (ho : Own e (w.alloc o) w.heap.size v cs) : Below w.heap.size w w' :=
  (below_alloc w o).grown hg (by rw [World.size_alloc]; omega) (fun k hk => ho.lt k hk)

theorem own_cap {e : TypeId} {w : World} {B g n cap : Nat} {cs : List Value} (h : Own e w B (.slice (some ⟨g, 0, none⟩) n cap) cs) : n ≤ cap ∧ cap ≤ maxLen := by
  rcases h.shape with ⟨hv, _⟩ | ⟨g', cap', hv, _, _, _, _, h1, h2⟩
  · simp at hv
  · simp only [Value.slice.injEq] at hv
    obtain ⟨_, rfl, rfl⟩ := hv
    exact ⟨h1, h2⟩

set_option maxHeartbeats 8000000 in
set_option maxRecDepth 100000 in
theorem lawBytes_walk (a0 : Option Addr) (l0 c0 : Nat) (z0 : List Int) (w : World) (h0 : IsRow .u8 w a0 l0 c0 z0) :
    Calls Try.prog 6 #[.slice a0 l0 c0] w fun e w' => e = .returned (.bool true) ∧ Below w.heap.size w w' := by
  obtain ⟨i0, hi, hz0, hz1, hz2⟩ := info_parts info5
  obtain ⟨hr0, hl0⟩ := h0.rd
  have hX0 := h0.bytes
  generalize z0.take l0 = zs at hr0 hl0 hX0
  clear h0
  subst hl0
  by_cases q0 : zs.length ≤ 1048576
  · have i1 : ¬ (1048576 : Int) < (zs.length : Int) := by omega
    have HR : Hid (∀ wx, Below w.heap.size w wx → Rd w.heap.size wx (.slice a0 zs.length c0) (zs.map (Value.int .u8))) := fun wx h => Rd.below hr0 h
    go_enter Try.func6, Try.ntmps6
    go_wp2_with fail
    refine (drawPutInt_any w.heap.size w _ zs (Nat.le_refl _) hr0 hX0 q0).mono ?_
    rintro e w1 ⟨x, rfl, hx0, hx1, hB1⟩
    go_wp2_with fail
    refine (implPutInt_any x w1).mono ?_
    rintro e w2 ⟨r2, rfl, ho2, hb2⟩
    have hB2 := below_seq hB1 hb2
    clear hr0 hB1 hb2
    go_upto_region 5 with fail
    go_cut [5, 52] from 34 (fun s5 s wx => s5 = .int .i64 (putIntCode x) ∧ s = .bool false ∧ wx = w2)
    case first =>
      by_cases hx : 0 ≤ x ∧ x ≤ 4611686018427387903
      · have e2 : putIntCode x = 0 := by unfold putIntCode; rw [if_pos hx]
        obtain ⟨hx2, hx3⟩ := hx
        rw [e2]
        go_wp2_with fail
        go_meet
        exact ⟨by rw [e2], rfl, rfl⟩
      · have e2 : putIntCode x = 4 := by unfold putIntCode; rw [if_neg hx]
        rw [e2]
        by_cases hx2 : x < 0
        · clear hx
          go_wp2_with fail
          go_meet
          exact ⟨by rw [e2], rfl, rfl⟩
        · have hx3 : decide (x ≤ 4611686018427387903) = false := by simp; omega
          have hx4 : 0 ≤ x := by omega
          clear hx hx2
          go_wp2_with fail
          go_meet
          exact ⟨by rw [e2], rfl, rfl⟩
    case rest =>
    obtain ⟨rfl, rfl, rfl⟩ := hcut
    go_upto_if 54 with fail
    go_cut [4, 5, 6, 7, 8] from 34 (fun s4 s5 s6 s7 s8 wx => Below w.heap.size w wx)
    case first =>
      by_cases hx : 0 ≤ x ∧ x ≤ 4611686018427387903
      · have e2 : putIntCode x = 0 := by unfold putIntCode; rw [if_pos hx]
        have e3 : putIntBytes x = enc x.toNat := by unfold putIntBytes; rw [if_pos hx]
        obtain ⟨hx2, hx3⟩ := hx
        have hb : (putIntCode x == 0) = true := by rw [e2]; rfl
        rw [hb]
        clear hb e2
        rw [e3] at ho2
        obtain ⟨m, rfl⟩ := Int.eq_ofNat_of_zero_le hx2
        rw [Int.toNat_natCast] at ho2
        have hm : m ≤ 4611686018427387903 := by omega
        have hlen := enc_len (n := m) (by omega)
        have hgi := getI_back hm
        have ho3 : Own 5 (wc.alloc (.cells #[.int .u8 9] 5)) wc.heap.size (.slice (some ⟨wc.heap.size, 0, none⟩) 1 1) [.int .u8 9] := own_lit wc 5 [.int .u8 9] 1 rfl (by decide)
        have ho2' := ho2.rd.alloc (.cells #[.int .u8 9] 5) (Nat.le_refl _)
        obtain ⟨ar, cr, rfl, _⟩ := ho2.slice
        simp only [List.length_map] at ho2' ⊢
        go_wp2_with (at_builtin; go_loud (refine wpList_append_rd rfl (.tmp 56) (.tmp 57) 22 rfl wc.heap.size 5 i0 (.int .u8 0) 1 Try.underlying22 hi hz0 hz1 hz2 rfl _ _ rfl ho3 _ _ ((enc m).map (Value.int .u8)) rfl ho2' (ints_oneCell _ _) (by simp [maxLen]; omega) (by simp; omega) (by rw [World.size_alloc]; omega) ?_))
        intro v4 w4 ho4 hg4
        have hB4 : Below w.heap.size w w4 := (below_then hB2 (.cells #[.int .u8 9] 5)).grown hg4 (by have := hB2.size; rw [World.size_alloc]; omega) (fun k hk => by have := ho3.lt k hk; have := hB2.size; omega)
        have ho5 : Own 5 w4 wc.heap.size v4 ((9 :: enc m).map (Value.int .u8)) := ho4
        go_wp2_with fail
        refine (implGetInt_any _ w4 v4 (9 :: enc m) 1 (Bytes.app (a := [9]) (fun c hc => by rw [List.mem_singleton.1 hc]; decide) (Bytes.enc m)) (by simp; omega) (Nat.le_refl _) ho5.rd).mono ?_
        rw [hgi]
        rintro e w5 ⟨rfl, hb5⟩
        have hB5 := below_seq hB4 hb5
        clear hB4 hb5 ho4 ho5 hg4
        go_wp2_with fail
        go_meet
        exact hB5
      · have e2 : putIntCode x = 4 := by unfold putIntCode; rw [if_neg hx]
        have hb : (putIntCode x == 0) = false := by rw [e2]; rfl
        rw [hb]
        clear hx hb e2
        go_wp2_with fail
        go_meet
        exact hB2
    case rest =>
    have hB3 : Below w.heap.size w wc := hcut
    clear hcut hB2 ho2 hx0 hx1
    go_wp2_with fail
    refine (drawPutTexts_any w.heap.size wc _ zs hB3.size (HR.out _ hB3) hX0 q0).mono ?_
    rintro e w3 ⟨v3, ss, rfl, hs1, hs2, ho3, hb3⟩
    have hB4 := below_seq hB3 hb3
    clear hB3 hb3
    go_wp2_with fail
    refine (implPutTexts_any w3.heap.size w3 v3 ss (by omega) (by omega) (Nat.le_refl _) ho3.rd).mono ?_
    rintro e w4 ⟨r4, rfl, ho4, hb4⟩
    have hB5 := below_seq hB4 hb4
    have ho5 := ho3.below hb4 (Nat.le_refl _)
    clear hB4 hb4 ho3
    go_wp2_with fail
    refine (specPutTexts_any w4.heap.size w4 v3 ss (by omega) (by omega) (Nat.le_refl _) ho5.rd).mono ?_
    rintro e w5 ⟨r5, rfl, _, hb5⟩
    have hB6 := below_seq hB5 hb5
    have ho6 := ho5.below hb5 (Nat.le_refl _)
    have ho7 := ho4.below hb5 (Nat.le_refl _)
    clear hB5 hb5 ho4 ho5
    go_upto_if 93 with fail
    go_cut [9, 10, 11, 12, 13, 14, 15, 16, 17, 18, 19] from 34 (fun s9 s10 s11 s12 s13 s14 s15 s16 s17 s18 s19 wx => Below w.heap.size w wx)
    case first =>
      by_cases hok : ss.length ≤ 4096 ∧ tot ss ss.length ≤ 1048576 ∧ (putN ss ss.length).length ≤ 1048576
      · obtain ⟨e1, e2⟩ := putTexts_yes hok
        have hb : (putTextsC ss == 0) = true := by rw [e2]; rfl
        rw [hb]
        rw [e1] at ho7
        clear hb e1 e2
        obtain ⟨k1, k2, k3⟩ := hok
        have g1 := getTexts_yes (getTexts_back k1 k2)
        have g2 := getTexts_no (getTexts_much k1 k2 0)
        have g3 := getTexts_no (getTexts_front k1 k2)
        have hby := putN_bytes ss ss.length
        have hpos := putN_pos ss
        have hlen := putN_len ss (by omega) ss.length k2 ss.length (Nat.le_refl _)
        replace k3 : (putN ss ss.length).length ≤ 100000 := by omega
        generalize putN ss ss.length = bs at ho7 g1 g2 g3 k3 hby hpos
        clear hlen
        obtain ⟨g4, c4, rfl, _⟩ := ho7.some (by rw [List.length_map]; omega)
        simp only [List.length_map] at ho7 ⊢
        have hT := own_take (m := bs.length - 1) ho7 (by rw [List.length_map]; omega)
        rw [← List.map_take] at hT
        go_wp2_with fail
        refine (implGetTexts_any w5.heap.size w5 _ bs hby (by omega) (Nat.le_refl _) ho7.rd).mono ?_
        rw [g1.1, g1.2]
        rintro e w6 ⟨r6, rfl, ho8, hb6⟩
        have hB8 := below_seq hB6 hb6
        have ho9 := ho6.below hb6 (Nat.le_refl _)
        have hT2 := hT.below hb6 (Nat.le_refl _)
        have hoA := (ho7.below hb6 (Nat.le_refl _)).rd.alloc (.cells #[] 5) (Nat.le_refl _)
        have hoE : Own 5 (w6.alloc (.cells #[] 5)) w6.heap.size (.slice (some ⟨w6.heap.size, 0, none⟩) 0 0) [] := own_lit w6 5 [] 0 rfl (by decide)
        clear hB6 hb6 ho6 ho7 hT
        go_wp2_with (at_builtin; refine wpList_append_rd rfl (.tmp 100) (.tmp 101) 22 rfl w6.heap.size 5 i0 (.int .u8 0) 1 Try.underlying22 hi hz0 hz1 hz2 rfl _ _ rfl hoE _ _ (bs.map (Value.int .u8)) rfl hoA (ints_oneCell _ _) (by simp [maxLen]; omega) (by simp; omega) (by rw [World.size_alloc]; omega) ?_)
        intro v7 w7 hoB hg7
        have hgB := gr_below2 hg7 hoE
        have hoC := Own.below hoB (below_alloc w7 (.cells #[.int .u8 0] 5)) (Nat.le_refl _)
        have hoD := (own_lit w7 5 [.int .u8 0] 1 rfl (by decide)).rd
        have hz7 := hgB.size
        clear hoE hoA hg7
        go_wp2_with (at_builtin; refine wpList_append_rd rfl (.tmp 102) (.tmp 103) 22 rfl w6.heap.size 5 i0 (.int .u8 0) 1 Try.underlying22 hi hz0 hz1 hz2 rfl _ _ rfl hoC _ _ [.int .u8 0] rfl hoD (by simp [Value.oneCell']) (by simp [maxLen]; omega) (by simp; omega) (by rw [World.size_alloc]; omega) ?_)
        intro v8 w8 hoF hg8
        have hgC : Below w6.heap.size w6 w8 := (hgB.alloc hz7 _).grown hg8 (by rw [World.size_alloc]; omega) (fun k hk => hoC.lt k hk)
        have hoG : Own 5 w8 w6.heap.size v8 ((bs ++ [0]).map (Value.int .u8)) := by rw [List.map_append]; exact hoF
        have ho7 := ho8.below hgC (Nat.le_refl _)
        have ho6 := ho9.below hgC (Nat.le_refl _)
        have hT := hT2.below hgC (Nat.le_refl _)
        have hB6 := below_seq hB8 hgC
        clear hoF hg8 hoC hoD hgB hgC ho8 ho9 hT2 hB8 hoB
        go_wp2_with fail
        refine (implGetTexts_any w8.heap.size w8 v8 (bs ++ [0]) (Bytes.app hby Bytes.zero) (by simp; omega) (Nat.le_refl _) hoG.rd).mono ?_
        rw [g2.1, g2.2]
        rintro e w9 ⟨r9, rfl, _, hb9⟩
        have ho8 := ho7.below hb9 (Nat.le_refl _)
        have ho9 := ho6.below hb9 (Nat.le_refl _)
        have hT2 := hT.below hb9 (Nat.le_refl _)
        have hB8 := below_seq hB6 hb9
        clear hoG ho7 ho6 hT hB6 hb9
        obtain ⟨m, hm⟩ : ∃ m, bs.length = m + 1 := ⟨bs.length - 1, by omega⟩
        rw [hm, Nat.add_sub_cancel] at hT2
        rw [hm] at g3
        rw [Nat.add_sub_cancel] at g3
        have hcap := own_cap hT2
        have em : ((m + 1 : Nat) : Int) - 1 = (m : Int) := by omega
        have hm1 : m ≤ c4 := hcap.1
        have hm2 : c4 ≤ 9223372036854775807 := by have := hcap.2; unfold maxLen at this; omega
        simp only [hm]
        go_wp2_with fail
        refine (implGetTexts_any w9.heap.size w9 _ (bs.take m) (hby.take m) (by simp; omega) (Nat.le_refl _) hT2.rd).mono ?_
        rw [g3.1, g3.2]
        rintro e w10 ⟨r10, rfl, _, hb10⟩
        have ho7 := ho8.below hb10 (Nat.le_refl _)
        have ho6 := ho9.below hb10 (Nat.le_refl _)
        have hB6 := below_seq hB8 hb10
        clear ho8 ho9 hT2 hB8 hb10
        go_wp2_with fail
        refine (sameTexts_same _ _ w10 r6 v3 ss (by omega) ho7.rd ho6.rd).mono ?_
        rintro e w11 ⟨rfl, n11, rfl⟩
        go_wp2_with fail
        go_meet
        exact below_drewN hB6 n11
      · obtain ⟨e1, e2⟩ := putTexts_no hok
        have hb : (putTextsC ss == 0) = false := by rw [e2]; rfl
        rw [hb]
        clear hok hb e1 e2
        go_wp2_with fail
        go_meet
        exact hB6
    case rest =>
    have hB7 : Below w.heap.size w wc := hcut
    clear hcut hB6 ho6 ho7 hs1 hs2
    go_wp2_with fail
    refine (drawPutRuns_any w.heap.size wc _ zs hB7.size (HR.out _ hB7) hX0 q0).mono ?_
    rintro e w3 ⟨v3, ls, rfl, hs1, ho3, hb3⟩
    have hB4 := below_seq hB7 hb3
    clear hB7 hb3
    go_wp2_with fail
    refine (implPutRuns_any w3.heap.size w3 v3 ls (by omega) (Nat.le_refl _) ho3.rd).mono ?_
    rintro e w4 ⟨r4, rfl, ho4, hb4⟩
    have hB5 := below_seq hB4 hb4
    have ho5 := ho3.below hb4 (Nat.le_refl _)
    clear hB4 hb4 ho3
    go_wp2_with fail
    refine (specPutRuns_any w4.heap.size w4 v3 ls (by omega) (Nat.le_refl _) ho5.rd).mono ?_
    rintro e w5 ⟨r5, rfl, _, hb5⟩
    have hB6 := below_seq hB5 hb5
    have ho6 := ho5.below hb5 (Nat.le_refl _)
    have ho7 := ho4.below hb5 (Nat.le_refl _)
    clear hB5 hb5 ho4 ho5
    go_upto_if 149 with fail
    go_cut [20, 21, 22, 23, 24, 25, 26, 27, 28] from 34 (fun s20 s21 s22 s23 s24 s25 s26 s27 s28 wx => Below w.heap.size w wx)
    case first =>
      cases hok : runsOK ls with
      | true =>
        obtain ⟨e1, e2⟩ := putRuns_ok (show ls.length ≤ 4096 by omega) hok
        have hb : (putRunsC ls == 0) = true := by rw [e2]; rfl
        rw [hb]
        rw [e1] at ho7
        clear hb e1 e2
        have g1 := getRuns_yes (getRuns_back (show ls.length ≤ 4096 by omega) hok)
        have g2 := getRuns_no (getRuns_much (show ls.length ≤ 4096 by omega) hok 0)
        have hby := putR_bytes ls
        have k3 := putR_len hok (show ls.length ≤ 4096 by omega)
        generalize putR ls = bs at ho7 g1 g2 k3 hby
        clear hok
        go_wp2_with fail
        refine (implGetRuns_any w5.heap.size w5 _ bs hby (by omega) (Nat.le_refl _) ho7.rd).mono ?_
        rw [g1.1, g1.2]
        rintro e w6 ⟨r6, rfl, ho8, hb6⟩
        have hB8 := below_seq hB6 hb6
        have ho9 := ho6.below hb6 (Nat.le_refl _)
        have hoA := (ho7.below hb6 (Nat.le_refl _)).rd.alloc (.cells #[] 5) (Nat.le_refl _)
        have hoE : Own 5 (w6.alloc (.cells #[] 5)) w6.heap.size (.slice (some ⟨w6.heap.size, 0, none⟩) 0 0) [] := own_lit w6 5 [] 0 rfl (by decide)
        clear hB6 hb6 ho6 ho7
        go_wp2_with (at_builtin; refine wpList_append_rd rfl (.tmp 156) (.tmp 157) 22 rfl w6.heap.size 5 i0 (.int .u8 0) 1 Try.underlying22 hi hz0 hz1 hz2 rfl _ _ rfl hoE _ _ (bs.map (Value.int .u8)) rfl hoA (ints_oneCell _ _) (by simp [maxLen]; omega) (by simp; omega) (by rw [World.size_alloc]; omega) ?_)
        intro v7 w7 hoB hg7
        have hgB := gr_below2 hg7 hoE
        have hoC := Own.below hoB (below_alloc w7 (.cells #[.int .u8 0] 5)) (Nat.le_refl _)
        have hoD := (own_lit w7 5 [.int .u8 0] 1 rfl (by decide)).rd
        have hz7 := hgB.size
        clear hoE hoA hg7
        go_wp2_with (at_builtin; refine wpList_append_rd rfl (.tmp 158) (.tmp 159) 22 rfl w6.heap.size 5 i0 (.int .u8 0) 1 Try.underlying22 hi hz0 hz1 hz2 rfl _ _ rfl hoC _ _ [.int .u8 0] rfl hoD (by simp [Value.oneCell']) (by simp [maxLen]; omega) (by simp; omega) (by rw [World.size_alloc]; omega) ?_)
        intro v8 w8 hoF hg8
        have hgC : Below w6.heap.size w6 w8 := (hgB.alloc hz7 _).grown hg8 (by rw [World.size_alloc]; omega) (fun k hk => hoC.lt k hk)
        have hoG : Own 5 w8 w6.heap.size v8 ((bs ++ [0]).map (Value.int .u8)) := by rw [List.map_append]; exact hoF
        have ho7 := ho8.below hgC (Nat.le_refl _)
        have ho6 := ho9.below hgC (Nat.le_refl _)
        have hB6 := below_seq hB8 hgC
        clear hoF hg8 hoC hoD hgB hgC ho8 ho9 hB8 hoB
        go_wp2_with fail
        refine (implGetRuns_any w8.heap.size w8 v8 (bs ++ [0]) (Bytes.app hby Bytes.zero) (by simp; omega) (Nat.le_refl _) hoG.rd).mono ?_
        rw [g2.1, g2.2]
        rintro e w9 ⟨r9, rfl, _, hb9⟩
        have ho8 := ho7.below hb9 (Nat.le_refl _)
        have ho9 := ho6.below hb9 (Nat.le_refl _)
        have hB8 := below_seq hB6 hb9
        clear hoG ho7 ho6 hB6 hb9
        go_wp2_with fail
        refine (sameInts_same _ _ w9 r6 v3 ls (by omega) ho8.rd ho9.rd).mono ?_
        rintro e w11 ⟨rfl, n11, rfl⟩
        go_wp2_with fail
        go_meet
        exact below_drewN hB8 n11
      | false =>
        obtain ⟨e1, e2⟩ := putRuns_bad (show ls.length ≤ 4096 by omega) hok
        have hb : (putRunsC ls == 0) = false := by rw [e2]; rfl
        rw [hb]
        clear hok hb e1 e2
        go_wp2_with fail
        go_meet
        exact hB6
    case rest =>
    have hB7 : Below w.heap.size w wc := hcut
    clear hcut hB6 ho6 ho7 hs1
    go_wp2_with fail
    refine (drawVecBytes_any w.heap.size wc _ zs hB7.size (HR.out _ hB7) hX0 q0).mono ?_
    rintro e w3 ⟨g3, n3, c3, xs, rfl, hn3, hx3, ho3, hb3⟩
    have hB4 := below_seq hB7 hb3
    clear hB7 hb3
    have hB5 := below_then hB4 (.cells #[.slice (some ⟨g3, 0, none⟩) n3 c3] 38)
    have d0 := cell_blk (heap_alloc_new w3 (.cells #[.slice (some ⟨g3, 0, none⟩) n3 c3] 38)) 0 rfl
    have ho4 := Own.below ho3 (below_alloc w3 (.cells #[.slice (some ⟨g3, 0, none⟩) n3 c3] 38)) (Nat.le_refl _)
    have HB : Hid (∀ wx, Below (w3.alloc (.cells #[.slice (some ⟨g3, 0, none⟩) n3 c3] 38)).heap.size (w3.alloc (.cells #[.slice (some ⟨g3, 0, none⟩) n3 c3] 38)) wx → Below w.heap.size w wx ∧ wx.cell? ⟨w3.heap.size, 0, none⟩ = some (.slice (some ⟨g3, 0, none⟩) n3 c3) ∧ Rd wx.heap.size wx (.slice (some ⟨g3, 0, none⟩) n3 c3) (xs.map (Value.int .i64))) := fun wx h => ⟨below_seq hB5 h, (h.cell (p := ⟨w3.heap.size, 0, none⟩) (by show w3.heap.size < _; rw [World.size_alloc]; omega)).trans d0, (ho4.below h (Nat.le_refl _)).rd⟩
    have hrd := ho4.rd
    have HN : Hid _ := hn3
    clear ho3 hB4 hB5 hn3
    go_wp2_with fail
    have hbb := vecB_bytes xs
    have hbl := vecB_len xs
    cases hok : vecOK xs with
    | true =>
      have hback := readV_back hok
      have e1 : vecC xs = 0 := by unfold vecC; rw [if_pos hok]
      have e2 : readB (vecB xs) = xs := by unfold readB; rw [hback]
      have e3 : readC (vecB xs) = 0 := by unfold readC; rw [hback]
      refine (implVecBytes_any _ _ _ xs (Nat.le_refl _) hrd).mono ?_
      rw [e1]
      rintro e w4 ⟨r4, rfl, ho5, hb4⟩
      generalize vecB xs = bs at hbb hbl e2 e3 ho5
      have hB := hb4.drew
      have hO : Own 5 w4.drew _ r4 _ := ho5
      have hD := Below.refl w4.drew.heap.size w4.drew
      clear hback e1 hrd ho4 d0
      go_wp2_with fail
      go_region_held2 (fun w' => w'.cell? ⟨w3.heap.size, 0, none⟩ = some (.slice (some ⟨g3, 0, none⟩) n3 c3)) (exact (HB.out _ hB).2.1) (first | (go_at_call 38; refine (specVecOK_any _ _ _ xs (Nat.le_refl _) (HB.out _ hB).2.2).mono ?_; rw [hok]; rintro e w' ⟨rfl, hb⟩; replace hB := below_seq hB hb; replace hD := below_seq hD hb; clear hb) | (go_at_call 39; refine (implVecOK_any _ _ _ xs (Nat.le_refl _) (HB.out _ hB).2.2).mono ?_; rw [hok]; rintro e w' ⟨rfl, hb⟩; replace hB := below_seq hB hb; replace hD := below_seq hD hb; clear hb))
      have hO2 := hO.below hD (Nat.le_refl _)
      clear hO ho5 hD
      go_wp2_with fail
      refine (implReadVec_any _ _ r4 bs hbb (by omega) (Nat.le_refl _) hO2.rd).mono ?_
      rintro e w9 ⟨a9, n9, c9, T9, rfl, ho9, hb9⟩
      rw [e2] at ho9
      rw [e3]
      have hB9 := below_then (below_seq hB hb9) (.cells #[.slice a9 n9 c9] 38)
      obtain ⟨q1, q2, q3⟩ := HB.out _ hB9
      have q4 := cell_blk (heap_alloc_new w9 (.cells #[.slice a9 n9 c9] 38)) 0 rfl
      have q5 := Own.below ho9 (below_alloc w9 (.cells #[.slice a9 n9 c9] 38)) (Nat.le_refl _)
      clear hO2 hB hb9 ho9 hB9
      go_wp2_with fail
      refine (sameInts_same _ _ _ _ _ xs (by omega) q5.rd q3).mono ?_
      rintro e w11 ⟨rfl, n11, rfl⟩
      go_wp2_with fail
      go_ret
      exact ⟨rfl, below_drewN q1 n11⟩
    | false =>
      have e1 : vecC xs = 1 := by unfold vecC; rw [if_neg (by rw [hok]; decide)]
      refine (implVecBytes_any _ _ _ xs (Nat.le_refl _) hrd).mono ?_
      rw [e1]
      rintro e w4 ⟨r4, rfl, _, hb4⟩
      have hB := hb4.drew
      clear e1 hrd ho4 d0
      go_wp2_with fail
      go_region_held2 (fun w' => w'.cell? ⟨w3.heap.size, 0, none⟩ = some (.slice (some ⟨g3, 0, none⟩) n3 c3)) (exact (HB.out _ hB).2.1) (first | (go_at_call 38; refine (specVecOK_any _ _ _ xs (Nat.le_refl _) (HB.out _ hB).2.2).mono ?_; rw [hok]; rintro e w' ⟨rfl, hb⟩; replace hB := below_seq hB hb; clear hb) | (go_at_call 39; refine (implVecOK_any _ _ _ xs (Nat.le_refl _) (HB.out _ hB).2.2).mono ?_; rw [hok]; rintro e w' ⟨rfl, hb⟩; replace hB := below_seq hB hb; clear hb))
      go_wp2_with fail
      go_ret
      exact ⟨rfl, (HB.out _ hB).1⟩
  · have i0 : (1048576 : Int) < (zs.length : Int) := by omega
    go_enter Try.func6, Try.ntmps6
    go_wp2_with fail
    go_ret
    exact ⟨rfl, Below.refl _ _⟩

end Go.Proofs.Ytpiadcjkbbgggaa
