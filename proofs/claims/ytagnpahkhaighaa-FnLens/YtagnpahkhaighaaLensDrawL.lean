/- What a drawn lens is: l14DrawLens, l14Draw, DrawLensForward. -/
import Derived.Test.YtagnpahkhaighaaLensDrawB
import Derived.Deep.CutRange
import Derived.Deep.DeepCutAuto
namespace Go.Proofs.Ytagnpahkhaighaa
open Go.RowKit
set_option linter.unusedVariables false

theorem own_cellP {w : World} {B : Nat} {a : Option Addr} {c : Nat} {ls : List Pr} (h : OwnPr w B (.slice a ls.length c) ls) {k : Nat} (hk : k < ls.length) : ∃ g, a = some ⟨g, 0, none⟩ ∧ ls.length ≤ c ∧ w.cell? ⟨g, k * 2, none⟩ = some (.string (prAt ls k).1) := by
  rcases ownM_shape h with ⟨e, h0, _⟩ | ⟨g, c', e, _, _, hc, _⟩
  · omega
  · cases e
    refine ⟨g, rfl, hc, ?_⟩
    have h2 : w.cell? ⟨g, k * 2, none⟩ = _ := World.ownsRow.cellAt h (k * 2) (by omega)
    rw [h2]
    exact (prCs_at hk).1

set_option maxHeartbeats 16000000 in
set_option maxRecDepth 100000 in
theorem l14DrawLens_any (C b A : Nat) (w : World) (v : Value) (F : List Pr) (hS : Src C w b A) (hA : A ≤ 700000000) (hr : RdM 2 w.heap.size w v F.length (prCs F)) (hF : F.length ≤ 1048576) :
    Calls Try.prog 50 #[.pointer (some ⟨b, 0, none⟩), v] w fun e w' => ∃ r L, e = .returned r ∧ L.length ≤ 8 ∧ OwnSt w' w.heap.size r L ∧ Src C w' b (A + 1000) ∧ w.grownBy w' (some b) := by
  obtain ⟨i0, hi, hz0, hz1, hz2⟩ := info_parts infoPair
  obtain ⟨j0, hj, hy0, hy1, hy2⟩ := info_parts infoStep
  have hlt := hS.lt
  have hb1 : Below w.heap.size w (w.alloc (.cells #[] 43)) := below_alloc _ _
  have hb2 : Below w.heap.size w ((w.alloc (.cells #[] 43)).alloc (.cells #[] 46)) := below_then hb1 _
  have hr2 : RdM 2 w.heap.size ((w.alloc (.cells #[] 43)).alloc (.cells #[] 46)) v F.length (prCs F) := hr.on (Nat.le_refl _) hb2
  have ho1 : OwnSt (w.alloc (.cells #[] 43)) w.heap.size (.slice (some ⟨w.heap.size, 0, none⟩) 0 0) [] := World.ownsRow_lit w #[] 0 (Nat.le_refl _) (by decide) (by simp)
  have ho2 : ((w.alloc (.cells #[] 43)).alloc (.cells #[] 46)).ownsRow w.heap.size 46 2 (.slice (some ⟨w.heap.size + 1, 0, none⟩) 0 0) 0 [] := by
    have := own_lit0 (w.alloc (.cells #[] 43)) w (by rw [World.size_alloc]; omega)
    rwa [World.size_alloc] at this
  have hs2 : w.heap.size ≤ ((w.alloc (.cells #[] 43)).alloc (.cells #[] 46)).heap.size := hb2.size
  obtain ⟨_, va, vc, ev, _⟩ := id hr
  subst ev
  go_enter Try.func50, Try.ntmps50
  go_wp2_with (at_builtin; refine wpList_append_rdM rfl _ _ 26 rfl w.heap.size 46 i0 (.agg #[.string ByteArray.empty, .string ByteArray.empty]) 2 32 Try.underlying26 hi hz0 hz1 hz2 rfl (by decide) _ _ _ rfl ho2 _ _ F.length _ rfl hr2 (prCs_one _) (by unfold maxLen; omega) (by omega) hs2 ?_)
  intro v3 w3 ho3 hg3
  have H3 : Lw C b A w w3 (.slice (some ⟨w.heap.size, 0, none⟩) 0 0) v3 [] F := by
    refine ⟨(hS.below hb2 hlt).kept hg3 (fun k hk => by have : k = w.heap.size + 1 := by simpa [Value.ownBlock] using hk.symm
                                                        omega), ?_, ?_, ?_, hlt⟩
    · exact ownM_kept (ownM_on ho1 (below_alloc _ _)) hg3 (fun k hk e => by have h1 : w.heap.size = k := by simpa [Value.ownBlock] using hk
                                                                            have h2 : w.heap.size + 1 = k := by simpa [Value.ownBlock] using e
                                                                            omega)
    · unfold OwnPr; simpa using ho3
    · exact gr_own (B := w.heap.size) (grownBy_below hb2 (Nat.le_refl _) (some b)) hg3 (own_lo ho2)
  obtain ⟨na, nc, en⟩ := own_sliceD H3.now
  subst en
  clear ho3 hg3 ho1 ho2 hr2 hb1 hb2 hs2 hr
  go_wp2_with fail
  refine (size_any C b _ 8 _ H3.src (by omega)).mono ?_
  rintro e w' ⟨r, rfl, r0, r1, rfl⟩
  go_wp2_with fail
  refine (srcNext_any C b _ (r + 1) _ H3.src (by omega) (by omega) (by omega)).mono ?_
  rintro e w4 ⟨n, rfl, n0, n1, hS4, hG4⟩
  have H4 := H3.next hS4 hG4
  clear H3 hS4 hG4
  obtain ⟨m, rfl⟩ : ∃ m : Nat, n = (m : Int) := ⟨n.toNat, by omega⟩
  go_wp2_with fail
  go_loopw [5, 6, 7] (fun ts tn ti wr => ∃ (j : Nat) (L : List St) (N : List Pr), j ≤ 8 ∧ ti = .int .i64 (j : Int) ∧ L.length + j ≤ 8 ∧ N.length ≤ 1048576 ∧ Lw C b (A + 10 + 30 * (8 - j)) w wr ts tn L N) (fun _ _ ti _ => (intOf ti).toNat)
  case atStart => exact ⟨m, [], F, by omega, rfl, by simp; omega, hF, H4.mono (by omega)⟩
  case round =>
    clear H4
    obtain ⟨j, L, N, hj8, rfl, hL, hN, H⟩ := hrel
    obtain ⟨ta, tc, et⟩ := own_sliceE H.out
    obtain ⟨na, nc, en⟩ := own_sliceD H.now
    subst et en
    by_cases hj0 : 0 < j
    · have q0 : (0 : Int) < (j : Int) := by omega
      go_wp2_with fail
      refine (srcNext_any C b _ 3 _ H.src (by omega) (by omega) (by omega)).mono ?_
      rintro e w5 ⟨k, rfl, k0, k1, hS5, hG5⟩
      have H5 := H.next hS5 hG5
      clear H hS5 hG5
      have HT5 : Txs (w5.alloc (.cells #[.string ⟨#[97]⟩, .string ⟨#[98]⟩, .string ⟨#[99]⟩, .string ⟨#[100]⟩, .string ⟨#[101]⟩] 9)) w5.heap.size 5 := ⟨_, heap_new _ _ _, fun k hk => by rcases (by omega : k = 0 ∨ k = 1 ∨ k = 2 ∨ k = 3 ∨ k = 4) with rfl | rfl | rfl | rfl | rfl <;> exact ⟨_, rfl⟩⟩
      have H6 := H5.alloc (.cells #[.string ⟨#[97]⟩, .string ⟨#[98]⟩, .string ⟨#[99]⟩, .string ⟨#[100]⟩, .string ⟨#[101]⟩] 9)
      have hb5 : b ≠ w5.heap.size := by have := H5.src.lt; omega
      go_wp2_with fail
      refine (srcNext_any C b _ 5 _ H6.src (by omega) (by omega) (by omega)).mono ?_
      rintro e w7 ⟨q, rfl, q1, q2, hS7, hG7⟩
      have H7 := H6.next hS7 hG7
      have HT7 := HT5.grow hG7 (fun e => by cases e; exact hb5 rfl)
      obtain ⟨qn, rfl⟩ : ∃ qn : Nat, q = (qn : Int) := ⟨q.toNat, by omega⟩
      obtain ⟨s0, hs0⟩ := HT7.at' (show qn < 5 by omega)
      clear H5 H6 HT5 HT7 hS7 hG7 hb5
      go_upto_region 7 with fail
      generalize hK : (1 : Int) + k = K
      have hK1 : 1 ≤ K ∧ K ≤ 3 := by omega
      clear hK k0 k1
      have H8 := H7.alloc (.cells #[.int .i64 K, .string s0, .string ⟨#[]⟩, .string ⟨#[]⟩] 43)
      have Z8 := Lz.made H7 (K, s0, ⟨#[]⟩, ⟨#[]⟩)
      clear hs0 H7
      generalize w7.alloc (.cells #[.int .i64 K, .string s0, .string ⟨#[]⟩, .string ⟨#[]⟩] 43) = W8 at *
      generalize w7.heap.size = sb at *
      have hbs : b ≠ sb := by have := Z8.lo; omega
      go_cut [45] from 33 to 45 (fun t45 wx => ∃ c : Bool, t45 = .bool c ∧ Hid (c = true → 0 < N.length) ∧ Hid (Lw C b (A + 10 + 30 * (8 - j) + 9) w wx (.slice ta L.length tc) (.slice na N.length nc) L N) ∧ Hid (Lz w wx (.slice ta L.length tc) (.slice na N.length nc) sb (K, s0, ⟨#[]⟩, ⟨#[]⟩)))
      case first =>
        obtain ⟨c0, c1, c2, c3⟩ := Z8.c
        by_cases hN0 : 0 < N.length
        · have q3 : (0 : Int) < (N.length : Int) := by omega
          by_cases hK2 : K = 2
          · subst hK2
            go_wp2_with fail
            go_meet
            exact ⟨false, rfl, fun h => (by cases h), H8.mono (by omega), Z8⟩
          · have q4 : (K == 2) = false := by simpa using hK2
            have q5 : (K != 2) = true := by simp [bne, q4]
            clear hK2
            go_wp2_with fail
            refine (chance_any C b _ 8 _ H8.src (by omega) (by omega) (by omega)).mono ?_
            rintro e w9 ⟨c, rfl, hS9, hG9⟩
            have H9 := H8.next hS9 hG9
            have Z9 := Z8.grow hG9 (fun e => by cases e; exact hbs rfl)
            clear H8 Z8 hS9 hG9 c0 c1 c2 c3
            go_wp2_with fail
            go_meet
            exact ⟨!c, rfl, fun _ => hN0, H9.mono (by omega), Z9⟩
        · have q3 : ¬ (0 : Int) < (N.length : Int) := by omega
          go_wp2_with fail
          go_meet
          exact ⟨false, rfl, fun h => (by cases h), H8.mono (by omega), Z8⟩
      case rest =>
        clear H8 Z8
        obtain ⟨c, rfl, HcN, HL, HZ⟩ := hcut
        have H9 := HL.out
        have Z9 := HZ.out
        clear HL HZ
        go_upto_if 45 with fail
        go_cut [] from 45 to 54 (fun wy => ∃ n : ByteArray, Hid (Lw C b (A + 10 + 30 * (8 - j) + 12) w wy (.slice ta L.length tc) (.slice na N.length nc) L N) ∧ Hid (Lz w wy (.slice ta L.length tc) (.slice na N.length nc) sb (K, n, ⟨#[]⟩, ⟨#[]⟩)))
        case first =>
          cases c with
          | false =>
            go_wp2_with fail
            go_meet
            exact ⟨s0, H9.mono (by omega), Z9⟩
          | true =>
            have hN0 := HcN.out rfl
            have hnn : N.length ≤ 16777216 := by omega
            go_wp2_with fail
            refine (next1L_any C b _ (N.length : Int) _ H9.src (by omega) (by omega) (by omega)).mono ?_
            rintro e w10 ⟨p, rfl, p0, p1, hS10, hG10⟩
            have H10 := H9.next hS10 hG10
            have Z10 := Z9.grow hG10 (fun e => by cases e; exact hbs rfl)
            clear H9 Z9 hS10 hG10
            obtain ⟨pn, rfl⟩ : ∃ pn : Nat, p = (pn : Int) := ⟨p.toNat, by omega⟩
            obtain ⟨g, eg, hgc, hcell⟩ := own_cellP H10.now (show pn < N.length by omega)
            subst eg
            have hf := Z10.f 1
            have c1 := Z10.c.2.1
            have H11 := H10.set Z10 1 (.string (prAt N pn).1)
            have Z11 := Z10.set1 (prAt N pn).1
            generalize (prAt N pn).1 = nq at *
            clear H10 Z10
            go_wp2_with fail
            go_meet
            exact ⟨nq, H11.mono (by omega), Z11⟩
        case rest =>
          clear H9 Z9 HcN
          obtain ⟨n, HL, HZ⟩ := hcut
          have H9 := HL.out
          have Z9 := HZ.out
          clear HL HZ
          have c0 := Z9.c.1
          go_upto_if 57 with fail
          clear c0
          go_cut [] from 57 to 66 (fun wy => ∃ e : St, Hid (Lw C b (A + 10 + 30 * (8 - j) + 15) w wy (.slice ta L.length tc) (.slice na N.length nc) L N) ∧ Hid (Lz w wy (.slice ta L.length tc) (.slice na N.length nc) sb e))
          case first =>
            by_cases hK4 : K = 1
            · subst hK4
              have H10 := H9.alloc (.cells #[.string ⟨#[120]⟩, .string ⟨#[121]⟩, .string ⟨#[122]⟩, .string ⟨#[97]⟩, .string ⟨#[98]⟩] 9)
              have Z10 := Z9.alloc (.cells #[.string ⟨#[120]⟩, .string ⟨#[121]⟩, .string ⟨#[122]⟩, .string ⟨#[97]⟩, .string ⟨#[98]⟩] 9)
              have HT10 : Txs (wc.alloc (.cells #[.string ⟨#[120]⟩, .string ⟨#[121]⟩, .string ⟨#[122]⟩, .string ⟨#[97]⟩, .string ⟨#[98]⟩] 9)) wc.heap.size 5 := ⟨_, heap_new _ _ _, fun k hk => by rcases (by omega : k = 0 ∨ k = 1 ∨ k = 2 ∨ k = 3 ∨ k = 4) with rfl | rfl | rfl | rfl | rfl <;> exact ⟨_, rfl⟩⟩
              have hb10 : b ≠ wc.heap.size := by have := H9.src.lt; omega
              clear H9 Z9
              go_wp2_with fail
              refine (srcNext_any C b _ 5 _ H10.src (by omega) (by omega) (by omega)).mono ?_
              rintro e w11 ⟨q5, rfl, q6, q7, hS11, hG11⟩
              have H11 := H10.next hS11 hG11
              have Z11 := Z10.grow hG11 (fun e => by cases e; exact hbs rfl)
              have HT11 := HT10.grow hG11 (fun e => by cases e; exact hb10 rfl)
              obtain ⟨q5n, rfl⟩ : ∃ q5n : Nat, q5 = (q5n : Int) := ⟨q5.toNat, by omega⟩
              obtain ⟨s5, hs5⟩ := HT11.at' (show q5n < 5 by omega)
              have hf := Z11.f 2
              have c2 := Z11.c.2.2.1
              have H12 := H11.set Z11 2 (.string s5)
              have Z12 := Z11.set2 s5
              clear H10 Z10 HT10 hb10 hS11 hG11 HT11 H11 Z11
              go_wp2_with fail
              go_meet
              exact ⟨_, H12.mono (by omega), Z12⟩
            · have q6 : (K == 1) = false := by simpa using hK4
              go_wp2_with fail
              refine (word_any C b _ _ H9.src (by omega)).mono ?_
              rintro e w10 ⟨x1, rfl, hx1, hS10, hG10⟩
              have H10 := H9.next hS10 hG10
              have Z10 := Z9.grow hG10 (fun e => by cases e; exact hbs rfl)
              clear H9 Z9 hS10 hG10
              have hf := Z10.f 3
              have c3 := Z10.c.2.2.2
              have H11 := H10.set Z10 3 (.string x1)
              have Z11 := Z10.set3 x1
              clear H10 Z10
              go_wp2_with fail
              go_meet
              exact ⟨_, H11.mono (by omega), Z11⟩
          case rest =>
            clear H9 Z9
            obtain ⟨⟨k', n', t', x'⟩, HL, HZ⟩ := hcut
            have H9 := HL.out
            have Z9 := HZ.out
            clear HL HZ
            obtain ⟨c0, c1, c2, c3⟩ := Z9.c
            have H12 := H9.alloc (.cells #[.int .i64 k', .string n', .string t', .string x'] 43)
            have Z12 := Z9.alloc (.cells #[.int .i64 k', .string n', .string t', .string x'] 43)
            have hR12 := (one_rdSt wc (k', n', t', x')).mono (show wc.heap.size + 1 ≤ (wc.alloc (.cells #[.int .i64 k', .string n', .string t', .string x'] 43)).heap.size by rw [World.size_alloc]; exact Nat.le_refl _)
            have hF12 := specFwd_any (wc.alloc (.cells #[.int .i64 k', .string n', .string t', .string x'] 43)).heap.size _ _ _ [(k', n', t', x')] N (by simp) hN (Nat.le_refl _) hR12 (ownM_rd H12.now)
            have hfl := fwdL_len [(k', n', t', x')] N
            clear H9 Z9 hR12
            go_wp2_with fail
            refine hF12.mono ?_
            rintro e w13 ⟨r13, rfl, ho13, hb13⟩
            have H13 := H12.below hb13
            have Z13 := Z12.below hb13
            have ho14 : OwnPr w13 w.heap.size r13 _ := ownM_mono ho13 H12.gr.size
            have hn14 : r13.ownBlock ≠ some sb := fun e => by have h1 := own_lo ho13 _ e; have h2 := Z12.lt; omega
            clear hF12 H12 Z12 ho13 hb13 c0 c1 c2 c3
            generalize fwdC [(k', n', t', x')] N = fc at *
            generalize fwdL [(k', n', t', x')] N = fl at *
            obtain ⟨ra, rc, er⟩ := own_sliceD ho14
            subst er
            by_cases hfc : fc = 0
            · subst hfc
              have H14 : Lw C b (A + 10 + 30 * (8 - j) + 15) w w13 (.slice ta L.length tc) (.slice ra fl.length rc) L fl := ⟨H13.src, H13.out, ho14, H13.gr, H13.lt⟩
              have Z14 : Lz w w13 (.slice ta L.length tc) (.slice ra fl.length rc) sb (k', n', t', x') := ⟨Z13.stp, Z13.n1, hn14, Z13.lo⟩
              clear H13 Z13 ho14 hn14
              have HA := H14.alloc (.cells #[.int .i64 k', .string n', .string t', .string x'] 43)
              have hRA := one_rdSt w13 (k', n', t', x')
              obtain ⟨c0, c1, c2, c3⟩ := Z14.c
              clear H14 Z14
              go_wp2_with (at_builtin; refine wpList_append_rdM rfl _ _ 29 rfl w.heap.size 43 j0 (.agg #[.int .i64 0, .string ByteArray.empty, .string ByteArray.empty, .string ByteArray.empty]) 4 56 Try.underlying29 hj hy0 hy1 hy2 rfl (by decide) _ _ _ rfl HA.out _ _ 1 _ rfl hRA (stCs_one _) (by unfold maxLen; omega) (by omega) HA.gr.size ?_)
              intro v15 w15 ho15 hg15
              have HB := HA.app rfl ho15 hg15
              obtain ⟨ta5, tc5, e15⟩ := own_sliceE HB.out
              have hG5 : (L ++ [(k', n', t', x')]).length = L.length + 1 := by simp
              have HG5 : Hid _ := hG5
              subst e15
              clear hG5
              generalize L ++ [(k', n', t', x')] = L5 at *
              clear HA hRA hg15 ho15 c0 c1 c2 c3
              go_wp2_with fail
              go_roundw
              case rel => exact ⟨j - 1, L5, fl, by omega, by congr 1; omega, by have := HG5.out; omega, hfl, HB.mono (by omega)⟩
              case measure => simp [intOf]; omega
            · clear ho14 hn14
              have q8 : (fc == 0) = false := by simpa using hfc
              go_wp2_with fail
              refine (chance_any C b _ 8 _ H13.src (by omega) (by omega) (by omega)).mono ?_
              rintro e w14 ⟨cc, rfl, hS14, hG14⟩
              have H14 := H13.next hS14 hG14
              have Z14 := Z13.grow hG14 (fun e => by cases e; exact hbs rfl)
              clear H13 Z13 hS14 hG14
              cases cc with
              | false =>
                go_wp2_with fail
                go_roundw
                case rel => exact ⟨j - 1, L, N, by omega, by congr 1; omega, by omega, hN, H14.mono (by omega)⟩
                case measure => simp [intOf]; omega
              | true =>
                have HA := H14.alloc (.cells #[.int .i64 k', .string n', .string t', .string x'] 43)
                have hRA := one_rdSt w14 (k', n', t', x')
                obtain ⟨c0, c1, c2, c3⟩ := Z14.c
                clear H14 Z14
                go_wp2_with (at_builtin; refine wpList_append_rdM rfl _ _ 29 rfl w.heap.size 43 j0 (.agg #[.int .i64 0, .string ByteArray.empty, .string ByteArray.empty, .string ByteArray.empty]) 4 56 Try.underlying29 hj hy0 hy1 hy2 rfl (by decide) _ _ _ rfl HA.out _ _ 1 _ rfl hRA (stCs_one _) (by unfold maxLen; omega) (by omega) HA.gr.size ?_)
                intro v15 w15 ho15 hg15
                have HB := HA.app rfl ho15 hg15
                obtain ⟨ta5, tc5, e15⟩ := own_sliceE HB.out
                have hG5 : (L ++ [(k', n', t', x')]).length = L.length + 1 := by simp
                have HG5 : Hid _ := hG5
                subst e15
                clear hG5
                generalize L ++ [(k', n', t', x')] = L5 at *
                clear HA hRA hg15 ho15 c0 c1 c2 c3
                go_wp2_with fail
                go_roundw
                case rel => exact ⟨j - 1, L5, N, by omega, by congr 1; omega, by have := HG5.out; omega, hN, HB.mono (by omega)⟩
                case measure => simp [intOf]; omega
    · have q0 : ¬ (0 : Int) < (j : Int) := by omega
      obtain rfl : j = 0 := by omega
      have HLL : Hid (L.length ≤ 8) := by unfold Hid; omega
      have HO := H.out
      have hlen : ∃ ll, Hid (L.length = ll) ∧ ll = L.length := ⟨_, rfl, rfl⟩
      obtain ⟨ll, HL2, hl2⟩ := hlen
      rw [← hl2] at HO hL ⊢
      have HS := H.src
      have HG := H.gr
      have HN := own_lo HO
      clear H hl2 hN
      by_cases hl0 : 0 < ll
      · have q1 : (0 : Int) < (ll : Int) := by omega
        go_wp2_with fail
        refine (chance_any C b _ 30 _ HS (by omega) (by omega) (by omega)).mono ?_
        rintro e w5 ⟨c, rfl, hS5, hG5⟩
        have HO5 : OwnSt w5 w.heap.size (.slice ta ll tc) L := ownM_kept HO hG5 (fun k hk e => by cases e; have := HN _ hk; omega)
        have HG5 := grownBy_trans HG hG5
        clear HO HS HG hG5
        cases c with
        | false =>
          go_wp2_with fail
          go_ret
          exact ⟨_, L, rfl, HLL.out, HO5, hS5.mono (by omega), HG5⟩
        | true =>
          go_wp2_with fail
          refine (srcNext_any C b _ 5 _ hS5 (by omega) (by omega) (by omega)).mono ?_
          rintro e w6 ⟨q, rfl, q2, q3, hS6, hG6⟩
          have HO6 : OwnSt w6 w.heap.size (.slice ta ll tc) L := ownM_kept HO5 hG6 (fun k hk e => by cases e; have := HN _ hk; omega)
          have HG6 := grownBy_trans HG5 hG6
          clear HO5 hS5 HG5 hG6
          have hE : ∃ g c0 L', ta = some ⟨g, 0, none⟩ ∧ w.heap.size ≤ g ∧ ll ≤ tc ∧ w6.cell? ⟨g, 0, none⟩ = some c0 ∧ w6.frozen? ⟨g, 0, none⟩ = false ∧ L'.length ≤ 8 ∧ OwnSt (w6.setCell ⟨g, 0, none⟩ (.int .i64 q)) w.heap.size (.slice ta ll tc) L' := by
            have hll := HL2.out
            subst hll
            cases L with
            | nil => simp at hl0
            | cons e0 L =>
              rcases ownM_shape HO6 with ⟨e, h0, _⟩ | ⟨g, c', e, hB, hgl, hc, _⟩
              · simp at h0
              · cases e
                have hcell : w6.cell? ⟨g, 0, none⟩ = _ := World.ownsRow.cellAt HO6 0 (by simp)
                have hfz : w6.frozen? ⟨g, 0, none⟩ = false := by
                  rcases HO6.2 with ⟨e, _⟩ | ⟨g', cap, cur, e, _, hh, _⟩
                  · cases e
                  · cases e
                    simp [World.frozen?, hh]
                exact ⟨g, _, (q, e0.2) :: L, rfl, hB, hc, hcell.trans rfl, hfz, by have := HLL.out; simpa using this, own_head HO6 q⟩
          obtain ⟨g, c0, L', rfl, hgB, hgc, hcell, hfz, hL', HO7⟩ := hE
          have hS7 := hS6.kept (gr_set1 w6 g 0 (.int .i64 q)) (fun k hk => by cases hk; omega)
          have HG7 := gr_own (B := w.heap.size) HG6 (gr_set1 w6 g 0 (.int .i64 q)) (fun k hk => by cases hk; exact hgB)
          clear HO6 hS6 HG6 HL2
          go_wp2_with fail
          go_ret
          exact ⟨_, L', rfl, hL', HO7, hS7.mono (by omega), HG7⟩
      · have q1 : ¬ (0 : Int) < (ll : Int) := by omega
        go_wp2_with fail
        go_ret
        exact ⟨_, rfl, L, HLL.out, HO, HS.mono (by omega), HG⟩

set_option maxHeartbeats 2000000 in
set_option maxRecDepth 100000 in
theorem l14Draw_any (C : Nat) (w : World) (v : Value) (xs : List Int) (hC : C ≤ w.heap.size) (hr : Rd C w v (xs.map (Value.int .u8))) (hX : ∀ x ∈ xs, 0 ≤ x ∧ x ≤ 255) (hl : xs.length ≤ 1048576) :
    Calls Try.prog 40 #[v] w fun e w' => ∃ ra rc fa fc L F, e = .returned (.tuple #[.slice ra (List.length L) rc, .slice fa (List.length F) fc]) ∧ L.length ≤ 8 ∧ F.length ≤ 65 ∧ OwnSt w' w.heap.size (.slice ra (List.length L) rc) L ∧ OwnPr w' w.heap.size (.slice fa (List.length F) fc) F ∧ Below w.heap.size w w' := by
  have hs := source_any C w v xs hC hr hX hl
  obtain ⟨va, vc, ev⟩ : ∃ va vc, v = .slice va (xs.map (Value.int .u8)).length vc := by obtain ⟨va, vc, e, _⟩ := hr; exact ⟨va, vc, e⟩
  generalize (xs.map (Value.int .u8)).length = vn at *
  subst ev
  clear hr
  go_enter Try.func40, Try.ntmps40
  go_wp2_with fail
  refine hs.mono ?_
  rintro e w1 ⟨rfl, hS, hb1⟩
  have hlt1 := hS.lt
  clear hs
  go_wp2_with fail
  refine (l14DrawForm_any C w.heap.size 0 w1 hS (by omega)).mono ?_
  rintro e w2 ⟨r, F, rfl, hF, HF⟩
  obtain ⟨fa, fc, er⟩ := own_sliceD HF.row
  subst er
  have hb2 : Below w.heap.size w w2 := gr_below hb1 HF.gr (Nat.le_refl _) hb1.size
  clear hS
  go_wp2_with fail
  refine (l14DrawLens_any C w.heap.size _ w2 _ F HF.src (by omega) (ownM_rd HF.row) (by omega)).mono ?_
  rintro e w3 ⟨r3, L, rfl, hL, HL, hS3, hG3⟩
  obtain ⟨ra, rc, er⟩ := own_sliceE HL
  subst er
  have hb3 : Below w.heap.size w w3 := gr_below hb2 hG3 (Nat.le_refl _) hb2.size
  have HL3 : OwnSt w3 w.heap.size (.slice ra L.length rc) L := ownM_mono HL hb2.size
  have HF3 : OwnPr w3 w.heap.size (.slice fa F.length fc) F := ownM_mono (ownM_kept HF.row hG3 (fun k hk e => by cases e; have := own_lo HF.row _ hk; omega)) hb1.size
  clear HL HF hS3 hG3 hb1 hb2
  go_wp2_with fail
  go_ret2
  exact ⟨ra, rc, fa, fc, L, F, rfl, hL, hF, HL3, HF3, hb3⟩

set_option maxHeartbeats 2000000 in
set_option maxRecDepth 100000 in
theorem drawLensForward_any (C : Nat) (w : World) (v : Value) (xs : List Int) (hC : C ≤ w.heap.size) (hr : Rd C w v (xs.map (Value.int .u8))) (hX : ∀ x ∈ xs, 0 ≤ x ∧ x ≤ 255) (hl : xs.length ≤ 1048576) :
    Calls Try.prog 19 #[v] w fun e w' => ∃ ra rc fa fc L F, e = .returned (.tuple #[.slice ra (List.length L) rc, .slice fa (List.length F) fc]) ∧ L.length ≤ 8 ∧ F.length ≤ 65 ∧ OwnSt w' w.heap.size (.slice ra (List.length L) rc) L ∧ OwnPr w' w.heap.size (.slice fa (List.length F) fc) F ∧ Below w.heap.size w w' := by
  have hs := l14Draw_any C w v xs hC hr hX hl
  obtain ⟨va, vc, ev⟩ : ∃ va vc, v = .slice va (xs.map (Value.int .u8)).length vc := by obtain ⟨va, vc, e, _⟩ := hr; exact ⟨va, vc, e⟩
  generalize (xs.map (Value.int .u8)).length = vn at *
  subst ev
  clear hr
  go_enter Try.func19, Try.ntmps19
  go_wp2_with fail
  refine hs.mono ?_
  rintro e w3 ⟨ra, rc, fa, fc, L, F, rfl, hL, hF, HL3, HF3, hb3⟩
  clear hs
  go_wp2_with fail
  go_ret2
  exact ⟨ra, rc, fa, fc, L, F, rfl, hL, hF, HL3, HF3, hb3⟩
end Go.Proofs.Ytagnpahkhaighaa
