/- What the draws of StampNext answer: a list of at most twenty stamps, and an actor. -/
import Derived.Test.YtonpeiknoifdbabSrcStamps
namespace Go.Proofs.Ytonpeiknoifdbab
open Go.RowKit
set_option linter.unusedVariables false

theorem infoStD : (Try.prog.info? 24).map (fun i => (i.zero, i.size, i.bytes)) = some (some (.agg #[.int .i64 0, .int .i64 0]), 2, 16) := by kernel_rfl
theorem cell_two_new (w : World) (x y : Value) (t : TypeId) : ∀ j u, [x, y][j]? = some u → (w.alloc (.cells #[x, y] t)).cell? ((⟨w.heap.size, 0, none⟩ : Addr).add j) = some u := by
  intro j u hj
  have h : (w.alloc (.cells #[x, y] t)).heap[w.heap.size]? = some (.cells #[x, y] t (0, 0)) := heap_alloc_new w _
  have e : (⟨w.heap.size, 0, none⟩ : Addr).add j = ⟨w.heap.size, j, none⟩ := by
    simp [Addr.add]
    exact fun h => h.symm
  rw [e]
  exact cell_blk h j (by rw [← hj]; simp)
theorem addS {C b A : Nat} {w0 w w2 : World} {v v' : Value} {ls : List (Int × Int)} {t a : Int} {Z : Obj} (hB : Below b w0 w) (hS : Src C w b A) (how : OwS w (b + 1) v ls)
    (ho : w2.ownsRow (b + 1) 24 2 v' (ls.length + 1) (flS ls ++ [.int .i64 t, .int .i64 a])) (hg : (w.alloc Z).grownBy w2 v.ownBlock) (hi : ¬ v' = .slice none 0 0) :
    OwS w2 (b + 1) v' (ls ++ [(t, a)]) ∧ Src C w2 b A ∧ Below b w0 w2 := by
  have hlt := hS.lt
  obtain ⟨g, cap, rfl, h1, h2, _⟩ := how.out
  have hg' : (w.alloc Z).grownBy w2 (some g) := hg
  refine ⟨⟨?_, hi⟩, (hS.alloc Z).apart hg' (by omega), (below_seq' hB hlt Z).grown hg' (by rw [World.size_alloc]; omega) (fun k hk => by cases hk; omega)⟩
  rw [List.length_append, ← flS_add]
  exact ho

set_option maxHeartbeats 4000000 in
set_option maxRecDepth 100000 in
theorem drawStampNext_any (C : Nat) (w : World) (v : Value) (xs : List Int) (hC : C ≤ w.heap.size) (hr : Rd C w v (xs.map (Value.int .u8))) (hX : ∀ x ∈ xs, 0 ≤ x ∧ x ≤ 255) (hl : xs.length ≤ 1048576) :
    Calls Try.prog 21 #[v] w fun e w' => ∃ (g cap : Nat) (ls : List (Int × Int)) (c : Int), e = .returned (.tuple #[.slice (some ⟨g, 0, none⟩) ls.length cap, .int .i64 c]) ∧ ls.length ≤ 20 ∧ w.heap.size ≤ g ∧ g < w'.heap.size ∧ SlS w' g ls ∧ Below w.heap.size w w' := by
  obtain ⟨i0, hi, hz0, hz1, hz2⟩ := info_parts infoStD
  obtain ⟨ao, la, ca, rfl⟩ : ∃ ao len cap, v = .slice ao len cap := by
    obtain ⟨ao, cap, rfl, _⟩ := hr
    exact ⟨_, _, _, rfl⟩
  go_enter Try.func21, Try.ntmps21
  go_wp2_with fail
  refine (source_any C _ _ xs hC hr hX hl).mono ?_
  rintro e w1 ⟨rfl, hS, hb1⟩
  have hlt1 := hS.lt
  clear hr
  have hS1 := hS.alloc (.cells #[] 24)
  have ho1 : OwS (w1.alloc (.cells #[] 24)) (w.heap.size + 1) (.slice (some ⟨w1.heap.size, 0, none⟩) 0 0) [] := ⟨World.ownsRow_made w1 #[] 0 (by omega) (by simp [maxLen]) rfl, by simp⟩
  have hB1 := below_seq' hb1 hlt1 (.cells #[] 24)
  clear hS hb1
  go_wp2_with fail
  refine (size_any C _ _ 9 _ hS1 (by omega)).mono ?_
  rintro e w' ⟨r, rfl, r0, r1, rfl⟩
  go_wp2_with fail
  refine (srcNext_any C _ _ (r + 1) _ hS1 (by omega) (by omega) (by omega)).mono ?_
  rintro e w2 ⟨n, rfl, n0, n1, hS2, hG2⟩
  obtain ⟨j0, rfl⟩ : ∃ j : Nat, n = (j : Int) := ⟨n.toNat, by omega⟩
  have ho2 := ho1.apart hG2 (by omega)
  have hB2 := gr_below hB1 hG2 (Nat.le_refl _) hB1.size
  clear hS1 ho1 hB1 hG2
  go_wp2_with fail
  go_loopw [5, 6] (fun tl ti wr => ∃ (j : Nat) (ls : List (Int × Int)), ti = .int .i64 (j : Int) ∧ ls.length + j ≤ 9 ∧ OwS wr (w.heap.size + 1) tl ls ∧ Src C wr w.heap.size (3 + 6 * ls.length) ∧ Below w.heap.size w wr) (fun _ ti _ => (intOf ti).toNat)
  case atStart => exact ⟨j0, [], rfl, by simp; omega, ho2, hS2, hB2⟩
  case round =>
    clear ho2 hS2 hB2
    obtain ⟨j, ls, rfl, hjl, how, hSr, hBr⟩ := hrel
    by_cases hj : 0 < j
    · have q0 : (0 : Int) < (j : Int) := by omega
      go_wp2_with fail
      refine (stamp_any C _ _ _ hSr (by omega)).mono ?_
      rintro e w3 ⟨t, a, rfl, hS3, hG3⟩
      have ho3 := how.apart hG3 (by omega)
      have hB3 := gr_below hBr hG3 (Nat.le_refl _) hBr.size
      have hlt3 := hS3.lt
      clear how hSr hBr hG3
      go_wp2_with (at_builtin; refine wpList_append_own _ rfl _ _ 50 rfl (w.heap.size + 1) 24 i0 (.agg #[.int .i64 0, .int .i64 0]) 2 16 Try.underlying50 hi hz0 hz1 hz2 rfl (by decide) _ _ _ rfl (ho3.1.alloc _) ⟨w3.heap.size, 0, none⟩ 1 1 [.int .i64 t, .int .i64 a] rfl rfl (cell_two_new _ _ _ _) (by simp [Value.oneCell']) (by simp [maxLen]; omega) (by omega) (by simp; omega) ?_)
      intro v4 w4 ho4 hg4 hiff
      obtain ⟨ho5, hS5, hB5⟩ := addS hB3 hS3 ho3 ho4 hg4 hiff
      clear ho3 hS3 hB3 ho4 hg4 hiff
      go_wp2_with fail
      go_roundw
      case rel => exact ⟨j - 1, ls ++ [(t, a)], by congr 1; omega, by simp; omega, ho5, hS5.mono (by simp; omega), hB5⟩
      case measure => simp [intOf]; omega
    · have q0 : ¬ (0 : Int) < (j : Int) := by omega
      go_wp2_with fail
      refine (srcNext_any C _ _ 6 _ hSr (by omega) (by omega) (by omega)).mono ?_
      rintro e w3 ⟨c, rfl, c0, c1, hS3, hG3⟩
      go_wp2_with fail
      refine (srcNext_any C _ _ 12 _ hS3 (by omega) (by omega) (by omega)).mono ?_
      rintro e w4 ⟨r2, rfl, r3, r4, hS4, hG4⟩
      have ho4 := (how.apart hG3 (by omega)).apart hG4 (by omega)
      have hB3 := gr_below hBr hG3 (Nat.le_refl _) hBr.size
      have hB4 := gr_below hB3 hG4 (Nat.le_refl _) hB3.size
      have hlt4 := hS4.lt
      clear how hSr hBr hG3 hG4 hS3 hB3
      refine if h0 : r2 = 0 then ?pa else ?pb
      case' pb => refine if h1 : r2 = 1 then ?pc else ?pd
      case' pd => refine if h2 : r2 = 2 then ?pe else ?pf
      case pa =>
        subst h0
        go_wp2_with fail
        refine (oddStamp_any C _ _ _ hS4 (by omega)).mono ?_
        rintro e w5 ⟨t, a, rfl, hS5, hG5⟩
        have ho5 := ho4.apart hG5 (by omega)
        have hB5 := gr_below hB4 hG5 (Nat.le_refl _) hB4.size
        have hlt5 := hS5.lt
        clear ho4 hS4 hB4 hG5
        go_wp2_with (at_builtin; refine wpList_append_own _ rfl _ _ 50 rfl (w.heap.size + 1) 24 i0 (.agg #[.int .i64 0, .int .i64 0]) 2 16 Try.underlying50 hi hz0 hz1 hz2 rfl (by decide) _ _ _ rfl (ho5.1.alloc _) ⟨w5.heap.size, 0, none⟩ 1 1 [.int .i64 t, .int .i64 a] rfl rfl (cell_two_new _ _ _ _) (by simp [Value.oneCell']) (by simp [maxLen]; omega) (by omega) (by simp; omega) ?_)
        intro v6 w6 ho6 hg6 hiff
        obtain ⟨ho7, hS7, hB7⟩ := addS hB5 hS5 ho5 ho6 hg6 hiff
        clear ho5 hS5 hB5 ho6 hg6 hiff
        obtain ⟨g, cap, rfl, hb, hlt, hSl⟩ := ho7.out
        go_wp2_with fail
        refine bodyPost_ret (v := .tuple #[.slice (some ⟨g, 0, none⟩) (ls ++ [(t, a)]).length cap, .int .i64 c]) ?_ rfl ⟨g, cap, _, c, rfl, by simp; omega, by omega, hlt, hSl, hB7⟩
        simp [results, Try.results21, go_sem]
      case pc =>
        subst h1
        go_wp2_with fail
        refine (srcNext_any C _ _ 3 _ (Src.alloc hS4 _) (by omega) (by omega) (by omega)).mono ?_
        rintro e w5 ⟨r5, rfl, r6, r7, hS5, hG5⟩
        obtain ⟨n1, rfl⟩ : ∃ n : Nat, r5 = (n : Int) := ⟨r5.toNat, by omega⟩
        obtain ⟨x1, hx1⟩ := lit3 n1 (by omega)
        have hl := cell_blk (blk_kept (by omega) hG5) n1 hx1
        have hG6 := grownBy_trans (World.grownBy_alloc w4 _ (some w.heap.size)) hG5
        have ho5 := ho4.apart hG6 (by omega)
        have hB5 := gr_below hB4 hG6 (Nat.le_refl _) hB4.size
        clear ho4 hS4 hB4 hG5 hG6
        obtain ⟨g, cap, rfl, hb, hlt, hSl⟩ := ho5.out
        go_wp2_with fail
        refine bodyPost_ret (v := .tuple #[.slice (some ⟨g, 0, none⟩) ls.length cap, .int .i64 x1]) ?_ rfl ⟨g, cap, _, x1, rfl, by omega, by omega, hlt, hSl, hB5⟩
        simp [results, Try.results21, go_sem]
      case pe =>
        subst h2
        go_wp2_with fail
        refine (srcNext_any C _ _ 2 _ hS4 (by omega) (by omega) (by omega)).mono ?_
        rintro e w5 ⟨r5, rfl, r6, r7, hS5, hG5⟩
        have ho5 := ho4.apart hG5 (by omega)
        have hB5 := gr_below hB4 hG5 (Nat.le_refl _) hB4.size
        have hlt5 := hS5.lt
        clear ho4 hS4 hB4 hG5
        go_wp2_with (at_builtin; refine wpList_append_own _ rfl _ _ 50 rfl (w.heap.size + 1) 24 i0 (.agg #[.int .i64 0, .int .i64 0]) 2 16 Try.underlying50 hi hz0 hz1 hz2 rfl (by decide) _ _ _ rfl (ho5.1.alloc _) ⟨w5.heap.size, 0, none⟩ 1 1 [.int .i64 (1000000000000 - r5), .int .i64 3] rfl rfl (cell_two_new _ _ _ _) (by simp [Value.oneCell']) (by simp [maxLen]; omega) (by omega) (by simp; omega) ?_)
        intro v6 w6 ho6 hg6 hiff
        obtain ⟨ho7, hS7, hB7⟩ := addS hB5 hS5 ho5 ho6 hg6 hiff
        clear ho5 hS5 hB5 ho6 hg6 hiff
        obtain ⟨g, cap, rfl, hb, hlt, hSl⟩ := ho7.out
        go_wp2_with fail
        refine bodyPost_ret (v := .tuple #[.slice (some ⟨g, 0, none⟩) (ls ++ [(1000000000000 - r5, 3)]).length cap, .int .i64 c]) ?_ rfl ⟨g, cap, _, c, rfl, by simp; omega, by omega, hlt, hSl, hB7⟩
        simp [results, Try.results21, go_sem]
      case pf =>
        have e0 : (r2 == 0) = false := by simpa using h0
        have e1 : (r2 == 1) = false := by simpa using h1
        have e2 : (r2 == 2) = false := by simpa using h2
        clear h0 h1 h2
        obtain ⟨g, cap, rfl, hb, hlt, hSl⟩ := ho4.out
        go_wp2_with fail
        refine bodyPost_ret (v := .tuple #[.slice (some ⟨g, 0, none⟩) ls.length cap, .int .i64 c]) ?_ rfl ⟨g, cap, _, c, rfl, by omega, by omega, hlt, hSl, hB4⟩
        simp [results, Try.results21, go_sem]

end Go.Proofs.Ytonpeiknoifdbab
