/- The specification's l12Bytes and OpBytes. The specification's l12Power and l12Node. The specification's l12Own and TreeSum. The specification's TreeSum. Hash trees, plain facts: a node over two that are 0 is 0; what an actor without operations has is 0. The code's nodesAt, nodeSum and leafSum. The code's leaf: the operations of a leaf. -/
import Derived.Deep.RegionHeld2
import Derived.Deep.RegionHeld3
import Derived.Test.YtocffojhhjdeoaaGreatQOpByMathToTreeMath
import Derived.Test.YtocffojhhjdeoaaGreatQOpSpec
import Derived.Test.YtocffojhhjdeoaaGreatQInfoToSignSpec
import Derived.Test.YtocffojhhjdeoaaGreatQOpToToLogSame
import Derived.Test.YtocffojhhjdeoaaGreatQStampLessWalkToPutRunsImpl2
import Derived.Test.YtocffojhhjdeoaaGreatQTextsToPutTextsImpl
import Derived.Test.YtocffojhhjdeoaaGreatQTakeKitToBigKit
import Derived.Test.YtocffojhhjdeoaaGreatQOpRangeToOpFields
import Derived.Test.YtocffojhhjdeoaaGreatQLedgerToRowRd
import Derived.Test.YtocffojhhjdeoaaGreatQLogOKSpec
import Derived.Test.YtocffojhhjdeoaaGreatQOpBytesCode
namespace Go.Proofs.YtocffojhhjdeoaaGreat
open Go.RowKit
set_option linter.unusedVariables false

theorem rdTexts (w : World) (ky tx : ByteArray) : Rd (w.alloc (.cells #[.string ky, .string tx] 9)).heap.size (w.alloc (.cells #[.string ky, .string tx] 9)) (.slice (some ⟨w.heap.size, 0, none⟩) 2 2) ([ky, tx].map Value.string) := (own_lit w 9 [.string ky, .string tx] 2 rfl (by unfold maxLen; omega)).rd
theorem rdTexts_on {w w' : World} {ky tx : ByteArray} (h : Below (w.alloc (.cells #[.string ky, .string tx] 9)).heap.size (w.alloc (.cells #[.string ky, .string tx] 9)) w') : Rd (w.alloc (.cells #[.string ky, .string tx] 9)).heap.size w' (.slice (some ⟨w.heap.size, 0, none⟩) 2 2) ([ky, tx].map Value.string) := (rdTexts w ky tx).below h
theorem ownAllocB {e : TypeId} {w : World} {B : Nat} {v : Value} {cs : List Value} (h : Own e w B v cs) (o : Obj) : Own e (w.alloc o) B v cs := World.ownsRow.alloc h o

set_option maxHeartbeats 4000000 in
set_option maxRecDepth 100000 in
theorem l12Bytes_any (C : Nat) (a s t k o n u pt pa : Int) (dv : Value) (ky tx : ByteArray) (ds : List Int) (w : World) (hC : C ≤ w.heap.size) (hF : OpFacts a s t k o n u pt pa ky tx ds) (hr : Rd C w dv (ds.map (Value.int .i64))) :
    Calls Tryz.prog 38 #[.agg #[.int .i64 a, .int .i64 s, .int .i64 t, dv, .int .i64 k, .int .i64 o, .int .i64 n, .int .i64 u, .int .i64 pt, .int .i64 pa, .string ky, .string tx]] w fun e w' => ∃ r, e = .returned r ∧ Own 5 w' w.heap.size r ((opBy a s t k o n u pt pa ky tx ds).map (Value.int .u8)) ∧ Below w.heap.size w w' := by
  have hn1 := hF.hn
  have hsg := fun w' => l08Sign_any n w' (by omega) (by omega)
  have HNL : Hid ((numsO a s t k o n u pt pa ds).length = 25) := nums_len (vecOK_get hF.hds).1
  have h16 := (vecOK_get hF.hds).1
  obtain ⟨da, dcap, rfl⟩ : ∃ da dcap, dv = .slice da 16 dcap := by
    obtain ⟨ao, cap, rfl, _⟩ := hr
    exact ⟨ao, cap, by rw [List.length_map, h16]⟩
  have HS : Hid (∀ w', Below (w.alloc (.cells #[.int .i64 a, .int .i64 s, .int .i64 t, .slice da 16 dcap, .int .i64 k, .int .i64 o, .int .i64 n, .int .i64 u, .int .i64 pt, .int .i64 pa, .string ky, .string tx] 37)).heap.size (w.alloc (.cells #[.int .i64 a, .int .i64 s, .int .i64 t, .slice da 16 dcap, .int .i64 k, .int .i64 o, .int .i64 n, .int .i64 u, .int .i64 pt, .int .i64 pa, .string ky, .string tx] 37)) w' → (w'.cell? ⟨w.heap.size, 0, none⟩ = some (.int .i64 a) ∧ w'.cell? ⟨w.heap.size, 1, none⟩ = some (.int .i64 s) ∧ w'.cell? ⟨w.heap.size, 2, none⟩ = some (.int .i64 t) ∧ w'.cell? ⟨w.heap.size, 4, none⟩ = some (.int .i64 k) ∧ w'.cell? ⟨w.heap.size, 5, none⟩ = some (.int .i64 o) ∧ w'.cell? ⟨w.heap.size, 6, none⟩ = some (.int .i64 n) ∧ w'.cell? ⟨w.heap.size, 7, none⟩ = some (.int .i64 u) ∧ w'.cell? ⟨w.heap.size, 8, none⟩ = some (.int .i64 pt) ∧ w'.cell? ⟨w.heap.size, 9, none⟩ = some (.int .i64 pa)) ∧ w'.cell? ⟨w.heap.size, 3, none⟩ = some (.slice da 16 dcap) ∧ w'.cell? ⟨w.heap.size, 10, none⟩ = some (.string ky) ∧ w'.cell? ⟨w.heap.size, 11, none⟩ = some (.string tx)) := fun w' h => by
    obtain ⟨p0, p1, p2, p3, p4, p5, p6, p7, p8, p9, p10, p11⟩ := op_cells h
    exact ⟨⟨p0, p1, p2, p4, p5, p6, p7, p8, p9⟩, p3, p10, p11⟩
  go_enter Tryz.func38, Tryz.ntmps38
  go_wp2_with fail
  go_region_held2 (fun w' => w'.cell? ⟨w.heap.size, 0, none⟩ = some (.int .i64 a) ∧ w'.cell? ⟨w.heap.size, 1, none⟩ = some (.int .i64 s) ∧ w'.cell? ⟨w.heap.size, 2, none⟩ = some (.int .i64 t) ∧ w'.cell? ⟨w.heap.size, 4, none⟩ = some (.int .i64 k) ∧ w'.cell? ⟨w.heap.size, 5, none⟩ = some (.int .i64 o) ∧ w'.cell? ⟨w.heap.size, 6, none⟩ = some (.int .i64 n) ∧ w'.cell? ⟨w.heap.size, 7, none⟩ = some (.int .i64 u) ∧ w'.cell? ⟨w.heap.size, 8, none⟩ = some (.int .i64 pt) ∧ w'.cell? ⟨w.heap.size, 9, none⟩ = some (.int .i64 pa)) (first | exact (HS.out _ (Below.refl _ _).drew).1 | exact (HS.out _ (below_alloc _ _).drew).1 | exact (HS.out _ (below_then (Below.refl _ _).drew _)).1 | exact (HS.out _ (below_then (Below.refl _ _) _)).1) ((go_at_call 58; refine (hsg _).mono ?_; rintro e w5 ⟨rfl, hw5⟩; obtain rfl := hw5.symm))
  clear hsg
  have hB1 : Below (w.alloc (.cells #[.int .i64 a, .int .i64 s, .int .i64 t, .slice da 16 dcap, .int .i64 k, .int .i64 o, .int .i64 n, .int .i64 u, .int .i64 pt, .int .i64 pa, .string ky, .string tx] 37)).heap.size (w.alloc (.cells #[.int .i64 a, .int .i64 s, .int .i64 t, .slice da 16 dcap, .int .i64 k, .int .i64 o, .int .i64 n, .int .i64 u, .int .i64 pt, .int .i64 pa, .string ky, .string tx] 37)) ((w.alloc (.cells #[.int .i64 a, .int .i64 s, .int .i64 t, .slice da 16 dcap, .int .i64 k, .int .i64 o, .int .i64 n, .int .i64 u, .int .i64 pt, .int .i64 pa, .string ky, .string tx] 37)).alloc (.cells #[.int .i64 a, .int .i64 s, .int .i64 t, .int .i64 k, .int .i64 o, .int .i64 ((foldS n : Nat) : Int), .int .i64 u, .int .i64 pt, .int .i64 pa] 3)).drew := (below_then (Below.refl _ _) _).drew
  have hro : Own 3 ((w.alloc (.cells #[.int .i64 a, .int .i64 s, .int .i64 t, .slice da 16 dcap, .int .i64 k, .int .i64 o, .int .i64 n, .int .i64 u, .int .i64 pt, .int .i64 pa, .string ky, .string tx] 37)).alloc (.cells #[.int .i64 a, .int .i64 s, .int .i64 t, .int .i64 k, .int .i64 o, .int .i64 ((foldS n : Nat) : Int), .int .i64 u, .int .i64 pt, .int .i64 pa] 3)).drew (w.heap.size + 1) (.slice (some ⟨w.heap.size + 1, 0, none⟩) 9 9) ([a, s, t, k, o, ((foldS n : Nat) : Int), u, pt, pa].map (Value.int .i64)) := by
    have h : Own 3 ((w.alloc (.cells #[.int .i64 a, .int .i64 s, .int .i64 t, .slice da 16 dcap, .int .i64 k, .int .i64 o, .int .i64 n, .int .i64 u, .int .i64 pt, .int .i64 pa, .string ky, .string tx] 37)).alloc (.cells #[.int .i64 a, .int .i64 s, .int .i64 t, .int .i64 k, .int .i64 o, .int .i64 ((foldS n : Nat) : Int), .int .i64 u, .int .i64 pt, .int .i64 pa] 3)) (w.alloc (.cells #[.int .i64 a, .int .i64 s, .int .i64 t, .slice da 16 dcap, .int .i64 k, .int .i64 o, .int .i64 n, .int .i64 u, .int .i64 pt, .int .i64 pa, .string ky, .string tx] 37)).heap.size (.slice (some ⟨(w.alloc (.cells #[.int .i64 a, .int .i64 s, .int .i64 t, .slice da 16 dcap, .int .i64 k, .int .i64 o, .int .i64 n, .int .i64 u, .int .i64 pt, .int .i64 pa, .string ky, .string tx] 37)).heap.size, 0, none⟩) 9 9) ([a, s, t, k, o, ((foldS n : Nat) : Int), u, pt, pa].map (Value.int .i64)) := own_lit _ 3 _ 9 rfl (by unfold maxLen; omega)
    rw [World.size_alloc] at h
    exact h
  have hrd : Rd C ((w.alloc (.cells #[.int .i64 a, .int .i64 s, .int .i64 t, .slice da 16 dcap, .int .i64 k, .int .i64 o, .int .i64 n, .int .i64 u, .int .i64 pt, .int .i64 pa, .string ky, .string tx] 37)).alloc (.cells #[.int .i64 a, .int .i64 s, .int .i64 t, .int .i64 k, .int .i64 o, .int .i64 ((foldS n : Nat) : Int), .int .i64 u, .int .i64 pt, .int .i64 pa] 3)).drew (.slice da 16 dcap) (ds.map (Value.int .i64)) := hr.below ((below_then (below_alloc _ _) _).drew.mono hC)
  have hss := hB1.size
  rw [World.size_alloc] at hss
  generalize ((w.alloc (.cells #[.int .i64 a, .int .i64 s, .int .i64 t, .slice da 16 dcap, .int .i64 k, .int .i64 o, .int .i64 n, .int .i64 u, .int .i64 pt, .int .i64 pa, .string ky, .string tx] 37)).alloc (.cells #[.int .i64 a, .int .i64 s, .int .i64 t, .int .i64 k, .int .i64 o, .int .i64 ((foldS n : Nat) : Int), .int .i64 u, .int .i64 pt, .int .i64 pa] 3)).drew = w1 at hB1 hro hrd hss ⊢
  have hcx := (HS.out _ hB1).2.1
  obtain ⟨i0, hi, hz0, hz1, hz2⟩ := info_parts info3
  have HNU : Hid ([a, s, t, k, o, ((foldS n : Nat) : Int), u, pt, pa] ++ ds = numsO a s t k o n u pt pa ds) := rfl
  have hbk := hro.lt
  go_wp2_with (at_builtin; refine wpList_append_rd rfl _ _ 31 rfl (w.heap.size + 1) 3 i0 (.int .i64 0) 8 Tryz.underlying31 hi hz0 hz1 hz2 rfl _ _ rfl hro _ _ _ rfl hrd (by simp [Value.oneCell']) (by simp only [List.length_map, h16]; simp [maxLen]) (by simp only [List.length_map, h16]; simp) (by omega) ?_)
  intro v3 w3 ho3 hg3
  replace ho3 : Own 3 w3 (w.heap.size + 1) v3 ((numsO a s t k o n u pt pa ds).map (Value.int .i64)) := ho3
  have hB3 : Below (w.alloc (.cells #[.int .i64 a, .int .i64 s, .int .i64 t, .slice da 16 dcap, .int .i64 k, .int .i64 o, .int .i64 n, .int .i64 u, .int .i64 pt, .int .i64 pa, .string ky, .string tx] 37)).heap.size (w.alloc (.cells #[.int .i64 a, .int .i64 s, .int .i64 t, .slice da 16 dcap, .int .i64 k, .int .i64 o, .int .i64 n, .int .i64 u, .int .i64 pt, .int .i64 pa, .string ky, .string tx] 37)) w3 := hB1.grown hg3 (by rw [World.size_alloc]; omega) (fun kk hk => by rw [World.size_alloc]; exact hbk kk hk)
  clear hro hrd hg3 hbk hcx hss hB1 hr
  generalize hnu : numsO a s t k o n u pt pa ds = NU at ho3 HNU HNL
  have HOB : Hid (opBy a s t k o n u pt pa ky tx ds = putR NU ++ putN [ky, tx] 2) := by unfold Hid opBy; rw [hnu]
  have hok : runsOK NU = true := by rw [← hnu]; exact nums_ok hF
  clear hnu HNU
  have hln : NU.length ≤ 4096 := by rw [HNL.out]; omega
  have hlP := putR_len hok hln
  have hlT := texts2 hF.hky hF.htx
  have htt : tot [ky, tx] 2 ≤ 1048576 := by rw [tot2]; have := hF.hky; have := hF.htx; omega
  have rd3 := ho3.rd
  have HBW : Hid (Below w.heap.size w w3) := below_seq (below_alloc _ _) hB3
  have hB := (Below.refl w3.heap.size w3).drew
  have HC2 : Hid (∀ w', Below w3.heap.size w3 w' → w'.cell? ⟨w.heap.size, 10, none⟩ = some (.string ky) ∧ w'.cell? ⟨w.heap.size, 11, none⟩ = some (.string tx)) := fun w' h => (HS.out w' (below_seq hB3 h)).2.2
  have HK2 : Hid (∀ kk, kk ≤ [ky, tx].length → (kk = [ky, tx].length ∨ 1048576 < (putN [ky, tx] kk).length) → kk = 2) := fun kk h1 h2 => by
    have h3 := putN_mono [ky, tx] (show kk ≤ 2 from h1)
    rcases h2 with h | h
    · exact h
    · omega
  have hpos : 0 < ((putN [ky, tx] 2).map (Value.int .u8)).length := by
    have h1 := putN_mono [ky, tx] (show 0 ≤ 2 by omega)
    have h2 := enc_pos [ky, tx].length
    rw [List.length_map]
    exact Nat.lt_of_lt_of_le h2 h1
  have hmx : ((putR NU).map (Value.int .u8)).length + ((putN [ky, tx] 2).map (Value.int .u8)).length ≤ maxLen := by simp only [List.length_map]; unfold maxLen; omega
  have hby : (((putR NU).map (Value.int .u8)).length + ((putN [ky, tx] 2).map (Value.int .u8)).length) * 1 ≤ 140737488355328 := by simp only [List.length_map]; omega
  obtain ⟨i5, hi5, hy0, hy1, hy2⟩ := info_parts info5
  have hm2 : 2 ≤ maxLen := by unfold maxLen; omega
  clear HS hB3 hF
  go_wp2_with fail
  have hB0 := hB
  refine wp_region_held_drew (S := (fun w' => w'.cell? ⟨w.heap.size, 10, none⟩ = some (.string ky) ∧ w'.cell? ⟨w.heap.size, 11, none⟩ = some (.string tx))) (by kernel_rfl) (HC2.out _ hB) (fun hS => ?_)
  refine wpAnyH_take (i := 0) (v := v3) rfl (by kernel_rfl) (by kernel_rfl) (by kernel_rfl) (fun _ _ _ h => h) (Or.inl ⟨by rfl, by intro w' hSw; go_simp⟩) hS ?_
  simp only [tkS, Act.put]
  refine wpAnyH_take (i := 2) (v := .pointer (some ⟨w.heap.size, 10, none⟩)) rfl (by kernel_rfl) (by kernel_rfl) (by kernel_rfl) (fun _ _ _ h => h) (Or.inl ⟨by rfl, by intro w' hSw; go_simp⟩) hS ?_
  simp only [tkS, Act.put]
  refine wpAnyH_take (i := 3) (v := .string ky) rfl (by kernel_rfl) (by kernel_rfl) (by kernel_rfl) (fun _ _ _ h => h) (Or.inl ⟨by rfl, by intro w' hSw; have h1 := hSw.1; have h2 := hSw.2; clear hSw; go_simp⟩) hS ?_
  simp only [tkS, Act.put]
  refine wpAnyH_take (i := 4) (v := .pointer (some ⟨w.heap.size, 11, none⟩)) rfl (by kernel_rfl) (by kernel_rfl) (by kernel_rfl) (fun _ _ _ h => h) (Or.inl ⟨by rfl, by intro w' hSw; go_simp⟩) hS ?_
  simp only [tkS, Act.put]
  refine wpAnyH_take (i := 5) (v := .string tx) rfl (by kernel_rfl) (by kernel_rfl) (by kernel_rfl) (fun _ _ _ h => h) (Or.inl ⟨by rfl, by intro w' hSw; have h1 := hSw.1; have h2 := hSw.2; clear hSw; go_simp⟩) hS ?_
  simp only [tkS, Act.put]
  refine wpAnyH_ready (rs := [1, 6]) (by kernel_rfl) (by simp) ?_
  refine AllReadyH.cons rfl (fun K hK => ?wayA) (AllReadyH.cons rfl (fun K hK => ?wayB) AllReadyH.nil)
  case' wayA =>
    go_simp
    refine (l01PutRuns_any w3.heap.size _ _ NU hln hok hB.size (rd3.below hB)).mono ?_
    rintro e w4 ⟨r4, rfl, ho4, hb4⟩
    replace ho4 := ho4.mono hB.size
    replace hB := below_seq hB hb4
    go_wp2_with fail
    refine hK.out _ _ (HC2.out _ hB) (fun hS => ?_)
    clear hK K
    refine wpAnyH_ready (rs := [6]) (by kernel_rfl) (by simp) ?_
    refine AllReadyH.cons rfl (fun K hK => ?_) AllReadyH.nil
    go_simp
    refine hK.out _ _ (HC2.out _ (below_then hB _)) (fun hS => ?_)
    clear hK K
    replace ho4 := ownAllocB ho4 (.cells #[.string ky, .string tx] 9)
    replace hB := below_then hB (.cells #[.string ky, .string tx] 9)
    refine wpAnyH_ready (rs := [7]) (by kernel_rfl) (by simp) ?_
    refine AllReadyH.cons rfl (fun K hK => ?_) AllReadyH.nil
    go_simp
    refine (l01PutTexts_any _ _ _ [ky, tx] (by simp) htt (Nat.le_refl _) (rdTexts w4 ky tx)).mono ?_
    rintro e w5 ⟨r5, k5, rfl, hk5, ho5, hk5', hb5⟩
    obtain rfl := HK2.out k5 hk5 hk5'
    replace hB := below_seq hB hb5
    go_wp2_with fail
    refine hK.out _ _ (HC2.out _ hB) (fun hS => ?_)
    clear hK K
    replace ho4 := Own.below ho4 hb5 (Nat.le_refl _)
  case' wayB =>
    go_simp
    refine hK.out _ _ (HC2.out _ (below_then hB _)) (fun hS => ?_)
    clear hK K
    replace hB := below_then hB (.cells #[.string ky, .string tx] 9)
    refine wpAnyH_ready (rs := [1]) (by kernel_rfl) (by simp) ?_
    refine AllReadyH.cons rfl (fun K hK => ?_) AllReadyH.nil
    go_simp
    refine (l01PutRuns_any w3.heap.size _ _ NU hln hok hB.size (rd3.below hB)).mono ?_
    rintro e w4 ⟨r4, rfl, ho4, hb4⟩
    replace ho4 := ho4.mono hB.size
    replace hB := below_seq hB hb4
    go_wp2_with fail
    refine hK.out _ _ (HC2.out _ hB) (fun hS => ?_)
    clear hK K
    refine wpAnyH_ready (rs := [7]) (by kernel_rfl) (by simp) ?_
    refine AllReadyH.cons rfl (fun K hK => ?_) AllReadyH.nil
    go_simp
    refine (l01PutTexts_any _ _ _ [ky, tx] (by simp) htt (Nat.le_refl _) ((rdTexts_on hb4).mono hb4.size)).mono ?_
    rintro e w5 ⟨r5, k5, rfl, hk5, ho5, hk5', hb5⟩
    obtain rfl := HK2.out k5 hk5 hk5'
    replace hB := below_seq hB hb5
    go_wp2_with fail
    refine hK.out _ _ (HC2.out _ hB) (fun hS => ?_)
    clear hK K
    replace ho4 := Own.below ho4 hb5 (Nat.le_refl _)
  all_goals
    refine wpAnyH_ready (rs := [8]) (by kernel_rfl) (by simp) ?_
    refine AllReadyH.cons rfl (fun K hK => ?_) AllReadyH.nil
    refine step_append_rd rfl (.tmp 32) (.tmp 38) 22 rfl w3.heap.size 5 i5 (.int .u8 0) 1 Tryz.underlying22 hi5 hy0 hy1 hy2 rfl _ _ rfl ho4 _ _ ((putN [ky, tx] 2).map (Value.int .u8)) rfl ho5.rd hpos (ints_oneCell _ _) hmx hby hB.size ?_
    intro v7 w7 ho7 hg7
    have hbk7 := ho4.lt
    replace hB := hB.grown hg7 hB.size hbk7
    refine hK.out _ _ (HC2.out _ hB) (fun hS => ?_)
    clear hK K
    simp only [tkS, Act.put]
    refine wpAnyH_ready (rs := [9]) (by kernel_rfl) (by simp) ?_
    refine AllReadyH.cons rfl (fun K hK => ?_) AllReadyH.nil
    go_simp
    refine hK.out _ _ (HC2.out _ hB) (fun hS => ?_)
    clear hK K
    refine wpAnyH_done (by kernel_rfl) ?_ _
    go_wp2_with fail
    go_ret
    refine ⟨_, rfl, ?_, below_seq HBW.out hB⟩
    rw [HOB.out, List.map_append]
    exact ho7.mono HBW.out.size

/-- What OpBytes answers: the bytes, and the code. -/
def opByB (a s t k o n u pt pa : Int) (ky tx : ByteArray) (ds : List Int) : List Int := if opB a s t k o n u pt pa ky tx ds = true then opBy a s t k o n u pt pa ky tx ds else []
def opByC (a s t k o n u pt pa : Int) (ky tx : ByteArray) (ds : List Int) : Int := if opB a s t k o n u pt pa ky tx ds = true then 0 else 1
theorem opByB_len (a s t k o n u pt pa : Int) (ky tx : ByteArray) (ds : List Int) : (opByB a s t k o n u pt pa ky tx ds).length ≤ 1250 := by
  unfold opByB
  split
  · rename_i h; exact opBy_len (op_facts h)
  · simp
theorem range_op {w w1 : World} {c0 c1 c2 c3 c4 c5 c6 c7 c8 c9 c10 c11 : Value} {T : TypeId} (h : Below (w.alloc (.cells #[c0, c1, c2, c3, c4, c5, c6, c7, c8, c9, c10, c11] T)).heap.size (w.alloc (.cells #[c0, c1, c2, c3, c4, c5, c6, c7, c8, c9, c10, c11] T)) w1) : w1.rangeAt w.heap.size 0 [c0, c1, c2, c3, c4, c5, c6, c7, c8, c9, c10, c11] := by
  obtain ⟨p0, p1, p2, p3, p4, p5, p6, p7, p8, p9, p10, p11⟩ := op_cells h
  exact range12 p0 p1 p2 p3 p4 p5 p6 p7 p8 p9 p10 p11

end Go.Proofs.YtocffojhhjdeoaaGreat

namespace Go.Proofs.YtocffojhhjdeoaaGreat
open Go.RowKit
set_option linter.unusedVariables false

theorem pow_le8 : ∀ n, n ≤ 8 → 2 ^ n ≤ 256 := by
  intro n h
  have : 2 ^ n ≤ 2 ^ 8 := Nat.pow_le_pow_right (by omega) h
  omega
set_option maxHeartbeats 1000000 in
theorem l12Power_any (n : Nat) (hn : n ≤ 8) (w : World) : Calls Tryz.prog 13 #[.int .i64 (n : Int)] w fun e w' => e = .returned (.int .i64 ((2 ^ n : Nat) : Int)) ∧ w' = w := by
  go_enter Tryz.func13, Tryz.ntmps13
  go_wp2_with fail
  go_loop [0, 3] (fun ti tp => ∃ k p : Nat, k ≤ n ∧ ti = .int .i64 (k : Int) ∧ tp = .int .i64 (p : Int) ∧ Hid (p * 2 ^ k = 2 ^ n ∧ p ≤ 256)) (fun ti _ => (intOf ti).toNat)
  case atStart => exact ⟨n, 1, Nat.le_refl _, rfl, rfl, by omega, by omega⟩
  case round =>
    obtain ⟨k, p, hk, rfl, rfl, HP⟩ := hrel
    cases k with
    | zero =>
      have HPE : Hid (p = 2 ^ n) := by have := HP.out.1; unfold Hid; omega
      go_wp2_with fail
      go_ret
      have e := HPE.out
      exact ⟨by simp [e], rfl⟩
    | succ k =>
      have HQ : Hid ((2 * p) * 2 ^ k = 2 ^ n ∧ 2 * p ≤ 256) := by
        have h1 := HP.out.1
        have e1 : (2 * p) * 2 ^ k = 2 ^ n := by
          rw [← h1, Nat.pow_succ, Nat.mul_comm 2 p, Nat.mul_assoc, Nat.mul_comm 2 (2 ^ k)]
        refine ⟨e1, ?_⟩
        have h2 := pow_le8 n hn
        have h3 : 1 ≤ 2 ^ k := Nat.one_le_two_pow
        have h4 : 2 * p * 1 ≤ 2 * p * 2 ^ k := Nat.mul_le_mul_left _ h3
        omega
      have hp := HP.out.2
      have hkk : (0 : Int) < ((k + 1 : Nat) : Int) := by omega
      clear HP
      go_wp2_with fail
      go_round
      case rel => exact ⟨k, 2 * p, by omega, by go_num, by go_num, HQ⟩
      case measure => simp [intOf]
/-- The numbers of the sums of a leaf's first operations. -/
theorem drop_snoc {L : List Ov} {f j : Nat} (h : f + j < L.length) : (L.drop f).take (j + 1) = (L.drop f).take j ++ [ovAt L (f + j)] := by
  rw [List.take_add_one, List.getElem?_drop, ovAt_get h]
  rfl

set_option maxHeartbeats 4000000 in
set_option maxRecDepth 100000 in
theorem l12Node_zero (C : Nat) (v : Value) (L : List Ov) (w : World) (p : Nat) (hp : p ≤ 256) (hC : C ≤ w.heap.size) (hr : RdO C w v L) (hl : L.length ≤ 1024) (hok : ∀ x ∈ L, x.ok = true) :
    Calls Tryz.prog 16 #[v, .int .i64 0, .int .i64 (p : Int)] w fun e w' => e = .returned (.int .i64 ((nodeN L 0 p : Nat) : Int)) ∧ Below w.heap.size w w' := by
  obtain ⟨i5, hi5, hy0, hy1, hy2⟩ := info_parts info5
  obtain ⟨⟨ao, cap, rfl, hcap, hmax, hnil, hrow⟩, hdv⟩ := hr
  have HR : Hid (∀ k, k < L.length → ∃ g off, ao = some ⟨g, off, none⟩ ∧ g < C ∧ OpAt w g (off + k * 12) (ovAt L k)) := fun k hk => by
    obtain ⟨g, off, h1, h2, h3⟩ := hrow (by omega)
    exact ⟨g, off, h1, h2, h3 k hk⟩
  have HD : Hid (∀ k, k < L.length → Rd C w (ovAt L k).dv ((ovAt L k).ds.map (Value.int .i64)) ∧ (ovAt L k).ok = true) := fun k hk => ⟨hdv _ (ovAt_mem hk), hok _ (ovAt_mem hk)⟩
  clear hrow hdv hnil hok
  have hpw := fun wz => l12Power_any 0 (by omega) wz
  simp only [Nat.pow_zero] at hpw
  go_enter Tryz.func16, Tryz.ntmps16
  go_wp2_with fail
  refine (hpw w).mono ?_
  rintro e w1 ⟨rfl, hw1⟩
  obtain rfl := hw1.symm
  clear hpw
  by_cases hge : L.length ≤ p * 4
  · have HZ : Hid (nodeN L 0 p = 0) := nodeN_none L 0 p (by omega)
    have hgi : ((L.length : Nat) : Int) ≤ (p : Int) * 4 := by omega
    go_wp2_with fail
    go_ret
    exact ⟨by rw [HZ.out]; rfl, Below.refl _ _⟩
  · have hgi : (p : Int) * 4 < ((L.length : Nat) : Int) := by omega
    go_wp2_with fail
    have HO0 : Hid (Own 5 (w.alloc (.cells #[] 5)) w.heap.size (.slice (some ⟨w.heap.size, 0, none⟩) 0 0) ((leafB ((L.drop (p * 4)).take 0)).map (Value.int .u8))) := own_lit w 5 [] 0 rfl (Nat.zero_le _)
    have HLF : Hid (leafOf L p = (L.drop (p * 4)).take 4) := by unfold Hid leafOf; rw [Nat.mul_comm 4 p]
    go_loopw [8, 9] (fun tb ti wr => ∃ j : Nat, j ≤ 4 ∧ p * 4 + j ≤ L.length ∧ ti = .int .i64 ((p * 4 + j : Nat) : Int) ∧ Own 5 wr w.heap.size tb ((leafB ((L.drop (p * 4)).take j)).map (Value.int .u8)) ∧ Below w.heap.size w wr) (fun _ ti _ => 1028 - (intOf ti).toNat)
    case atStart => exact ⟨0, by omega, by omega, by go_num, HO0.out, below_alloc _ _⟩
    case round =>
      clear HO0
      obtain ⟨j, hj, hjl, rfl, ho, hbel⟩ := hrel
      have hsz := hbel.size
      have hlb : (leafB ((L.drop (p * 4)).take j)).length ≤ 16 := by
        rw [leafB_len, List.length_take]
        omega
      by_cases hlt : j < 4 ∧ p * 4 + j < L.length
      · obtain ⟨g, off, rfl, hg, hx⟩ := HR.out (p * 4 + j) hlt.2
        obtain ⟨hdr, hxk⟩ := HD.out (p * 4 + j) hlt.2
        have HV : Hid (leafB ((L.drop (p * 4)).take (j + 1)) = leafB ((L.drop (p * 4)).take j) ++ four (opSum (ovAt L (p * 4 + j)))) := by
          unfold Hid
          rw [drop_snoc hlt.2, leafB_snoc]
        have hrg := opAt_range (hx.below (hbel.mono hC) hg)
        replace hdr := hdr.below (hbel.mono hC)
        have hF := ok_facts hxk
        have hsl := opSum_lt (ovAt L (p * 4 + j))
        have HOS : Hid (opSum (ovAt L (p * 4 + j)) = sumF 2166136261 (opBy (ovAt L (p * 4 + j)).a (ovAt L (p * 4 + j)).s (ovAt L (p * 4 + j)).t (ovAt L (p * 4 + j)).k (ovAt L (p * 4 + j)).o (ovAt L (p * 4 + j)).n (ovAt L (p * 4 + j)).u (ovAt L (p * 4 + j)).pt (ovAt L (p * 4 + j)).pa (ovAt L (p * 4 + j)).ky (ovAt L (p * 4 + j)).tx (ovAt L (p * 4 + j)).ds)) := rfl
        generalize opSum (ovAt L (p * 4 + j)) = S at HV hsl HOS
        generalize ovAt L (p * 4 + j) = X at hrg hdr hF HOS
        obtain ⟨xa, xs, xt, xdv, xk, xo, xn, xu, xpt, xpa, xky, xtx, xds⟩ := X
        dsimp only at hdr hF HOS
        obtain ⟨da, dcap, hde⟩ : ∃ da dcap, xdv = .slice da xds.length dcap := by
          obtain ⟨ao', cap', e, _⟩ := hdr
          exact ⟨ao', cap', by rw [e, List.length_map]⟩
        subst hde
        replace hrg : wr.rangeAt g (off + (p * 4 + j) * 12) [.int .i64 xa, .int .i64 xs, .int .i64 xt, .slice da xds.length dcap, .int .i64 xk, .int .i64 xo, .int .i64 xn, .int .i64 xu, .int .i64 xpt, .int .i64 xpa, .string xky, .string xtx] := by
          have h := hrg
          unfold Ov.cs at h
          exact h
        have hby := l12Bytes_any C xa xs xt xk xo xn xu xpt xpa _ xky xtx xds wr (by omega) hF hdr
        have hbl := opBy_len hF
        have i1 : ((p * 4 + j : Nat) : Int) < (p : Int) * 4 + 4 := by omega
        have i2 : ((p * 4 + j : Nat) : Int) < ((L.length : Nat) : Int) := by omega
        have i3 : (0 : Int) ≤ ((p * 4 + j : Nat) : Int) := by omega
        obtain ⟨q, HQ⟩ : ∃ q, Hid (p * 4 + j = q) := ⟨_, rfl⟩
        rw [HQ.out] at hrg i1 i2 i3 ⊢
        clear hx hxk hdr
        go_wp2_with (refine wpList_load_mid rfl 37 _ rfl g (off + q * 12) rfl _ _ hrg Tryz.underlying37 rfl info12 ?_)
        refine hby.mono ?_
        rintro e w4 ⟨r4, rfl, ho4, hb4⟩
        have hs32 := sum32_any _ w4 r4 (opBy xa xs xt xk xo xn xu xpt xpa xky xtx xds) (opBy_byte _ _ _ _ _ _ _ _ _ _ _ _) (by omega) ho4.rd
        rw [← HOS.out] at hs32
        clear hby hrg hF
        go_wp2_with fail
        refine hs32.mono ?_
        rintro e w5 ⟨rfl, hw5⟩
        obtain rfl := hw5.symm
        clear hs32 ho4
        go_wp2_with fail
        refine (l01Four_any S hsl w4).mono ?_
        rintro e w6 ⟨r6, rfl, ho6, hb6⟩
        have hov := (ho.below hb4 (Nat.le_refl _)).below hb6 (Nat.le_refl _)
        have hB6 := below_seq (below_seq hbel hb4) hb6
        have hbk := hov.lt
        have hl4 : (four S).length = 4 := rfl
        clear ho hb4 hb6 hbel
        go_wp2_with (at_builtin; refine wpList_append_rd rfl _ _ 22 rfl w.heap.size 5 i5 (.int .u8 0) 1 Tryz.underlying22 hi5 hy0 hy1 hy2 rfl _ _ rfl hov _ _ _ rfl ho6.rd (by simp [Value.oneCell']) (by simp only [List.length_map]; unfold maxLen; omega) (by simp only [List.length_map]; omega) hB6.size ?_)
        intro v7 w7 ho7 hg7
        have hb7 := hB6.grown hg7 hB6.size hbk
        replace ho7 : Own 5 w7 w.heap.size v7 ((leafB ((L.drop (p * 4)).take (j + 1))).map (Value.int .u8)) := by
          rw [HV.out, List.map_append]
          exact ho7
        clear hov ho6 hg7 hB6 hbk
        go_wp2_with fail
        go_roundw
        case rel =>
          have := HQ.out
          exact ⟨j + 1, by omega, by omega, by subst this; go_num, ho7, hb7⟩
        case measure =>
          have := HQ.out
          simp [intOf]
          omega
      · have HE : Hid ((L.drop (p * 4)).take j = leafOf L p) := by
          unfold Hid
          rw [HLF.out]
          by_cases h4 : j = 4
          · rw [h4]
          · have hl2 : p * 4 + j = L.length := by omega
            rw [List.take_of_length_le (by rw [List.length_drop]; omega), List.take_of_length_le (by rw [List.length_drop]; omega)]
        have HNE : Hid (leafOf L p ≠ []) := by
          unfold Hid
          intro e
          have := congrArg List.length e
          rw [HLF.out, List.length_take, List.length_drop] at this
          simp at this
          omega
        rw [HE.out] at ho hlb
        have HN : Hid (nodeN L 0 p = sumF 2166136261 (leafB (leafOf L p))) := by
          unfold Hid
          rw [nodeN, leafN, if_neg HNE.out]
        have hs32 := sum32_any _ wr _ (leafB (leafOf L p)) (leafB_byte _) (by omega) ho.rd
        rw [← HN.out] at hs32
        have hdd : (decide (((p * 4 + j : Nat) : Int) < (p : Int) * 4 + 4) && decide (((p * 4 + j : Nat) : Int) < ((L.length : Nat) : Int))) = false := by
          simp only [Bool.and_eq_false_iff, decide_eq_false_iff_not]
          omega
        obtain ⟨q, HQ⟩ : ∃ q, Hid (p * 4 + j = q) := ⟨_, rfl⟩
        rw [HQ.out] at hdd ⊢
        have hcs : decide ((q : Int) < (p : Int) * 4 + 4) = false ∨ decide ((q : Int) < ((L.length : Nat) : Int)) = false := by
          simp only [Bool.and_eq_false_iff] at hdd
          exact hdd
        clear hdd HNE HE HLF hlt hj hjl
        rcases hcs with hcs | hcs
        · go_wp2_with fail
          refine hs32.mono ?_
          rintro e w5 ⟨rfl, hw5⟩
          obtain rfl := hw5.symm
          go_wp2_with fail
          go_ret
          exact ⟨rfl, hbel⟩
        · have hcn : decide (q < L.length) = false := by
            simp only [decide_eq_false_iff_not] at hcs ⊢
            omega
          by_cases hc1 : decide ((q : Int) < (p : Int) * 4 + 4) = true
          · go_wp2_with fail
            refine hs32.mono ?_
            rintro e w5 ⟨rfl, hw5⟩
            obtain rfl := hw5.symm
            go_wp2_with fail
            go_ret
            exact ⟨rfl, hbel⟩
          · have hc2 : decide ((q : Int) < (p : Int) * 4 + 4) = false := by simpa using hc1
            clear hc1
            go_wp2_with fail
            refine hs32.mono ?_
            rintro e w5 ⟨rfl, hw5⟩
            obtain rfl := hw5.symm
            go_wp2_with fail
            go_ret
            exact ⟨rfl, hbel⟩

set_option maxHeartbeats 4000000 in
set_option maxRecDepth 100000 in
theorem l12Node_step (C : Nat) (v : Value) (L : List Ov) (w : World) (l m p : Nat) (HM : Hid (m = l + 1)) (hm : m ≤ 8) (HPB : Hid ((p + 1) * 2 ^ m ≤ 256)) (hC : C ≤ w.heap.size) (hr : RdO C w v L) (hl : L.length ≤ 1024)
    (ih : ∀ (p' : Nat) (wz : World), Hid ((p' + 1) * 2 ^ l ≤ 256) → Below w.heap.size w wz → Calls Tryz.prog 16 #[v, .int .i64 (l : Int), .int .i64 (p' : Int)] wz fun e w' => e = .returned (.int .i64 ((nodeN L l p' : Nat) : Int)) ∧ Below wz.heap.size wz w') :
    Calls Tryz.prog 16 #[v, .int .i64 (m : Int), .int .i64 (p : Int)] w fun e w' => e = .returned (.int .i64 ((nodeN L m p : Nat) : Int)) ∧ Below w.heap.size w w' := by
  obtain ⟨i5, hi5, hy0, hy1, hy2⟩ := info_parts info5
  obtain ⟨ao, cap, rfl⟩ : ∃ ao cap, v = .slice ao L.length cap := by
    obtain ⟨⟨ao, cap, rfl, _⟩, _⟩ := hr
    exact ⟨_, _, rfl⟩
  clear hr
  have hpw := l12Power_any m hm w
  have HE : Hid (nodeN L m p = overN (nodeN L l (2 * p)) (nodeN L l (2 * p + 1))) := by
    unfold Hid
    rw [HM.out]
    rfl
  have HNO : Hid (L.length ≤ p * 4 * 2 ^ m → nodeN L m p = 0) := nodeN_none L m p
  have HC1 : Hid ((2 * p + 1) * 2 ^ l ≤ 256 ∧ (2 * p + 1 + 1) * 2 ^ l ≤ 256) := by
    have h1 := HPB.out
    rw [HM.out, Nat.pow_succ] at h1
    have e : (p + 1) * (2 ^ l * 2) = (2 * p + 1 + 1) * 2 ^ l := by
      rw [Nat.mul_comm (2 ^ l) 2, ← Nat.mul_assoc]
      congr 1
      omega
    rw [e] at h1
    exact ⟨Nat.le_trans (Nat.mul_le_mul_right _ (by omega)) h1, h1⟩
  have hp2 : p * 2 ^ m ≤ 256 := Nat.le_trans (Nat.mul_le_mul_right _ (by omega)) HPB.out
  have hpp : p ≤ 256 := by
    have h3 : 1 ≤ 2 ^ m := Nat.one_le_two_pow
    have := Nat.mul_le_mul_left p h3
    omega
  have hq : p * 4 * 2 ^ m = 4 * (p * 2 ^ m) := by rw [Nat.mul_comm p 4, Nat.mul_assoc]
  have hqb : p * 4 * 2 ^ m ≤ 1024 := by omega
  have hcast : (p : Int) * 4 * ((2 ^ m : Nat) : Int) = ((p * 4 * 2 ^ m : Nat) : Int) := by rw [Int.natCast_mul, Int.natCast_mul]; rfl
  have ih1 := fun wz => ih (2 * p) wz HC1.out.1
  have ih2 := fun wz => ih (2 * p + 1) wz HC1.out.2
  rw [show ((2 * p : Nat) : Int) = 2 * (p : Int) by omega] at ih1
  rw [show ((2 * p + 1 : Nat) : Int) = 2 * (p : Int) + 1 by omega] at ih2
  have hx := nodeN_lt L l (2 * p)
  have hy := nodeN_lt L l (2 * p + 1)
  generalize nodeN L l (2 * p) = X at ih1 HE hx
  generalize nodeN L l (2 * p + 1) = Y at ih2 HE hy
  generalize nodeN L m p = R at HE HNO
  generalize p * 4 * 2 ^ m = Q at hqb hcast HNO
  generalize 2 ^ m = P at hpw hcast
  clear ih hp2 hq HPB HC1
  have q0 : (0 : Int) ≤ (p : Int) * 4 * (P : Int) := by rw [hcast]; omega
  have q1 : (p : Int) * 4 * (P : Int) < 9223372036854775808 := by rw [hcast]; omega
  have HCA : Hid ((p : Int) * 4 * (P : Int) = (Q : Int)) := hcast
  clear hcast
  go_enter Tryz.func16, Tryz.ntmps16
  go_wp2_with fail
  refine hpw.mono ?_
  rintro e w1 ⟨rfl, hw1⟩
  obtain rfl := hw1.symm
  clear hpw
  by_cases hge : L.length ≤ Q
  · have HZ : Hid (R = 0) := HNO.out hge
    have hgd : decide (((L.length : Nat) : Int) ≤ (p : Int) * 4 * (P : Int)) = true := by
      rw [HCA.out]
      simp
      exact hge
    go_wp2_with fail
    go_ret
    exact ⟨by rw [HZ.out]; rfl, Below.refl _ _⟩
  · have hgd : decide (((L.length : Nat) : Int) ≤ (p : Int) * 4 * (P : Int)) = false := by
      rw [HCA.out]
      simp
      omega
    have m0 : (((m : Nat) : Int) == 0) = false := by have := HM.out; simp; omega
    have m1 : ((m : Nat) : Int) - 1 = (l : Int) := by have := HM.out; omega
    have hb0 := below_alloc w (.cells #[] 5)
    go_wp2_with fail
    refine (ih1 _ hb0).mono ?_
    rintro e w3 ⟨rfl, hb3⟩
    have hB3 := below_seq hb0 hb3
    clear ih1 hb0 hb3
    go_wp2_with fail
    refine (ih2 _ hB3).mono ?_
    rintro e w4 ⟨rfl, hb4⟩
    have hB4 := below_seq hB3 hb4
    clear ih2 hB3 hb4
    by_cases hz : X = 0 ∧ Y = 0
    · obtain ⟨hx0, hy0'⟩ := hz
      have HZ : Hid (R = 0) := by
        unfold Hid
        rw [HE.out, overN, if_pos ⟨hx0, hy0'⟩]
      subst hx0
      subst hy0'
      clear hx hy
      go_wp2_with fail
      go_ret
      exact ⟨by rw [HZ.out]; rfl, hB4⟩
    · have HZ : Hid (R = sumF 2166136261 (four X ++ four Y)) := by
        unfold Hid
        rw [HE.out, overN, if_neg hz]
      have hcs : (((X : Nat) : Int) == 0) = false ∨ ((((X : Nat) : Int) == 0) = true ∧ (((Y : Nat) : Int) == 0) = false) := by
        by_cases h0 : X = 0
        · right
          subst h0
          refine ⟨rfl, ?_⟩
          simp
          intro e
          exact hz ⟨rfl, e⟩
        · left
          simp
          exact h0
      have hs32 := fun wz r (h : Rd wz.heap.size wz r ((four X ++ four Y).map (Value.int .u8))) => sum32_any _ wz r (four X ++ four Y) (fours_byte hx hy) (by simp [four]) h
      rw [← HZ.out] at hs32
      have hl4 : (four X).length = 4 := rfl
      have hl5 : (four Y).length = 4 := rfl
      clear hz HE HNO HZ
      have hfx := fun wz => l01Four_any X hx wz
      have hfy := fun wz => l01Four_any Y hy wz
      clear hx hy
      rcases hcs with hcs | ⟨hc1, hc2⟩
      all_goals
        go_wp2_with fail
        refine (hfx _).mono ?_
        rintro e w5 ⟨r5, rfl, ho5, hb5⟩
        go_wp2_with fail
        refine (hfy _).mono ?_
        rintro e w6 ⟨r6, rfl, ho6, hb6⟩
        have hov := ho5.below hb6 (Nat.le_refl _)
        have hB5 := below_seq hB4 hb5
        have hs5 := hb5.size
        have hb46 := below_seq hb5 hb6
        have hbk := hov.lt
        go_wp2_with (at_builtin; refine wpList_append_rd rfl _ _ 22 rfl w4.heap.size 5 i5 (.int .u8 0) 1 Tryz.underlying22 hi5 hy0 hy1 hy2 rfl _ _ rfl hov _ _ _ rfl ho6.rd (by simp [Value.oneCell']) (by simp only [List.length_map]; unfold maxLen; omega) (by simp only [List.length_map]; omega) hb46.size ?_)
        intro v7 w7 ho7 hg7
        have hb7 := hb46.grown hg7 hb46.size hbk
        replace ho7 : Own 5 w7 w4.heap.size v7 ((four X ++ four Y).map (Value.int .u8)) := by
          rw [List.map_append]
          exact ho7
        have hsm := hs32 w7 v7 ho7.rd
        clear hs32 hfx hfy
        go_wp2_with fail
        refine hsm.mono ?_
        rintro e w8 ⟨rfl, hw8⟩
        obtain rfl := hw8.symm
        go_wp2_with fail
        go_ret
        exact ⟨rfl, below_seq hB4 hb7⟩

theorem l12Node_any (C : Nat) (v : Value) (L : List Ov) (hl : L.length ≤ 1024) (hok : ∀ x ∈ L, x.ok = true) : ∀ (l p : Nat) (w : World), l ≤ 8 → (p + 1) * 2 ^ l ≤ 256 → C ≤ w.heap.size → RdO C w v L →
    Calls Tryz.prog 16 #[v, .int .i64 (l : Int), .int .i64 (p : Int)] w fun e w' => e = .returned (.int .i64 ((nodeN L l p : Nat) : Int)) ∧ Below w.heap.size w w' := by
  intro l
  induction l with
  | zero => exact fun p w _ hp hC hr => l12Node_zero C v L w p (by omega) hC hr hl hok
  | succ l ih => exact fun p w h8 hp hC hr => l12Node_step C v L w l (l + 1) p rfl h8 hp hC hr hl (fun p' wz h1 hb => ih p' wz (by omega) h1 (by have := hb.size; omega) (hr.below (hb.mono hC)))
end Go.Proofs.YtocffojhhjdeoaaGreat

namespace Go.Proofs.YtocffojhhjdeoaaGreat
open Go.RowKit
set_option linter.unusedVariables false

theorem opNewO (w : World) (x : Ov) (T : TypeId) : ∀ q u, x.cs[q]? = some u → (w.alloc (.cells x.cs.toArray T)).cell? ((⟨w.heap.size, 0, none⟩ : Addr).add q) = some u := by
  intro q u hq
  rw [Addr.add_mid, Nat.zero_add]
  exact cell_made (Below.refl _ _) (k := q) (by simpa using hq)
theorem byA_length (P : List Ov) (a : Nat) : (byA P a).length ≤ P.length := List.length_filter_le _ _
theorem byA_in {P : List Ov} {a : Nat} {x : Ov} (h : x ∈ byA P a) : x ∈ P := (List.mem_filter.1 h).1

set_option maxHeartbeats 4000000 in
set_option maxRecDepth 100000 in
theorem l12Own_any (C : Nat) (w : World) (v : Value) (L : List Ov) (a : Nat) (hC : C ≤ w.heap.size) (hr : RdO C w v L) (hl : L.length ≤ 1024) :
    Calls Tryz.prog 17 #[v, .int .i64 (a : Int)] w fun e w' => ∃ r, e = .returned r ∧ RdO w'.heap.size w' r (byA L a) ∧ Below w.heap.size w w' := by
  obtain ⟨i0, hi, hz0, hz1, hz2⟩ := info_parts infoOp
  obtain ⟨⟨ao, cap, rfl, hcap, hmax, hnil, hrow⟩, hdv⟩ := hr
  have HR : Hid (∀ k, k < L.length → ∃ g off, ao = some ⟨g, off, none⟩ ∧ g < C ∧ OpAt w g (off + k * 12) (ovAt L k)) := fun k hk => by
    obtain ⟨g, off, h1, h2, h3⟩ := hrow (by omega)
    exact ⟨g, off, h1, h2, h3 k hk⟩
  have HD : Hid (∀ x ∈ L, Rd C w x.dv (x.ds.map (Value.int .i64))) := hdv
  clear hrow hdv hnil
  have HO0 : Hid ((w.alloc (.cells #[] 37)).ownsRow w.heap.size 37 12 (.slice (some ⟨w.heap.size, 0, none⟩) 0 0) (byA (L.take 0) a).length (rowCs (byA (L.take 0) a))) := by
    refine ⟨rfl, .inr ⟨w.heap.size, 0, #[], rfl, Nat.le_refl _, heap_alloc_new _ _, Nat.le_refl _, Nat.zero_le _, rfl, rfl⟩⟩
  go_enter Tryz.func17, Tryz.ntmps17
  go_wp2_with fail
  go_loopw [5, 6] (fun tv ti wr => ∃ k : Nat, k ≤ L.length ∧ ti = .int .i64 (k : Int) ∧ Hid (wr.ownsRow w.heap.size 37 12 tv (byA (L.take k) a).length (rowCs (byA (L.take k) a))) ∧ Below w.heap.size w wr) (fun _ ti _ => L.length - (intOf ti).toNat)
  case atStart => exact ⟨0, Nat.zero_le _, rfl, HO0, below_alloc _ _⟩
  case round =>
    clear HO0
    obtain ⟨k, hk, rfl, HO, hbel⟩ := hrel
    have hsz := hbel.size
    by_cases hlt : k < L.length
    · obtain ⟨g, off, rfl, hg, hx⟩ := HR.out k hlt
      have hxw := hx.below (hbel.mono hC) hg
      have hdr := (HD.out _ (ovAt_mem hlt)).below (hbel.mono hC)
      have hrg := opAt_range hxw
      have c0 := hxw.c0
      have HSN : Hid (byA (L.take (k + 1)) a = if (ovAt L k).a = (a : Int) then byA (L.take k) a ++ [ovAt L k] else byA (L.take k) a) := by
        unfold Hid
        rw [List.take_add_one, ovAt_get hlt]
        exact byA_snoc _ _ _
      have hll : (byA (L.take k) a).length ≤ 1024 := by
        have := byA_length (L.take k) a
        rw [List.length_take] at this
        omega
      have hki : (k : Int) < ((L.length : Nat) : Int) := by omega
      have hki0 : (0 : Int) ≤ (k : Int) := by omega
      generalize ovAt L k = X at c0 hrg hdr HSN
      obtain ⟨xa, xs, xt, xdv, xk, xo, xn, xu, xpt, xpa, xky, xtx, xds⟩ := X
      dsimp only at c0 hdr HSN
      obtain ⟨da, dcap, hde⟩ : ∃ da dcap, xdv = .slice da xds.length dcap := by
        obtain ⟨ao', cap', e, _⟩ := hdr
        exact ⟨ao', cap', by rw [e, List.length_map]⟩
      subst hde
      replace hrg : wr.rangeAt g (off + k * 12) [.int .i64 xa, .int .i64 xs, .int .i64 xt, .slice da xds.length dcap, .int .i64 xk, .int .i64 xo, .int .i64 xn, .int .i64 xu, .int .i64 xpt, .int .i64 xpa, .string xky, .string xtx] := by
        have h := hrg
        unfold Ov.cs at h
        exact h
      clear hx hxw hdr
      by_cases hxa : xa = (a : Int)
      · have HE : Hid (byA (L.take (k + 1)) a = byA (L.take k) a ++ [(⟨xa, xs, xt, .slice da xds.length dcap, xk, xo, xn, xu, xpt, xpa, xky, xtx, xds⟩ : Ov)]) := by
          unfold Hid
          rw [HSN.out, if_pos hxa]
        obtain ⟨va, vc, e8⟩ : ∃ va vc, u5 = .slice va (byA (L.take k) a).length vc := by
          obtain ⟨_, h2⟩ := HO.out
          rcases h2 with ⟨hv, hn⟩ | ⟨g, cap, cur, hv, _⟩
          · exact ⟨none, 0, by rw [hv, hn]⟩
          · exact ⟨_, cap, hv⟩
        subst e8
        have ho := HO.out
        have hbk := fun k hk => (World.ownsRow.lt ho k hk).1
        have hcn := opNewO wr (⟨xa, xs, xt, .slice da xds.length dcap, xk, xo, xn, xu, xpt, xpa, xky, xtx, xds⟩ : Ov) 37
        have hone : ∀ u ∈ Ov.cs (⟨xa, xs, xt, .slice da xds.length dcap, xk, xo, xn, xu, xpt, xpa, xky, xtx, xds⟩ : Ov), u.oneCell' = true := cs_one (⟨xa, xs, xt, .slice da xds.length dcap, xk, xo, xn, xu, xpt, xpa, xky, xtx, xds⟩ : Ov) rfl
        have hoW := World.ownsRow.alloc ho (.cells (Ov.cs (⟨xa, xs, xt, .slice da xds.length dcap, xk, xo, xn, xu, xpt, xpa, xky, xtx, xds⟩ : Ov)).toArray 37)
        have hbW := below_then hbel (.cells (Ov.cs (⟨xa, xs, xt, .slice da xds.length dcap, xk, xo, xn, xu, xpt, xpa, xky, xtx, xds⟩ : Ov)).toArray 37)
        have hxd : (xa == (a : Int)) = true := by simp [hxa]
        generalize byA (L.take k) a = sl at *
        clear HO HSN ho hxa
        go_wp2_with (first | (refine wpList_load_mid rfl 37 _ rfl g (off + k * 12) rfl _ _ hrg Tryz.underlying37 rfl info12 ?_) | (at_builtin; refine wpList_append_own _ rfl _ _ 23 rfl w.heap.size 37 i0 (.agg #[.int .i64 0, .int .i64 0, .int .i64 0, .slice none 0 0, .int .i64 0, .int .i64 0, .int .i64 0, .int .i64 0, .int .i64 0, .int .i64 0, .string ByteArray.empty, .string ByteArray.empty]) 12 128 Tryz.underlying23 hi hz0 hz1 hz2 rfl (by decide) _ sl.length _ rfl hoW ⟨wr.heap.size, 0, none⟩ 1 1 (Ov.cs (⟨xa, xs, xt, .slice da xds.length dcap, xk, xo, xn, xu, xpt, xpa, xky, xtx, xds⟩ : Ov)) rfl rfl hcn hone (by unfold maxLen; omega) (by omega) hbW.size ?_))
        intro v6 w6 ho6 hg6 _
        have HI2 : Hid (w6.ownsRow w.heap.size 37 12 v6 (byA (L.take (k + 1)) a).length (rowCs (byA (L.take (k + 1)) a))) := by
          unfold Hid
          rw [HE.out, rowCs_app, List.length_append]
          have e1 : rowCs [(⟨xa, xs, xt, .slice da xds.length dcap, xk, xo, xn, xu, xpt, xpa, xky, xtx, xds⟩ : Ov)] = Ov.cs (⟨xa, xs, xt, .slice da xds.length dcap, xk, xo, xn, xu, xpt, xpa, xky, xtx, xds⟩ : Ov) := by simp [rowCs]
          rw [e1]
          exact ho6
        have hb6 := hbW.grown hg6 hbW.size hbk
        clear ho6 hg6 hoW hbW hcn HE hone
        go_wp2_with fail
        go_roundw
        case rel => exact ⟨k + 1, by omega, by go_num, HI2, hb6⟩
        case measure => simp [intOf]; omega
      · have HE : Hid (byA (L.take (k + 1)) a = byA (L.take k) a) := by
          unfold Hid
          rw [HSN.out, if_neg hxa]
        have hxd : (xa == (a : Int)) = false := by simp [hxa]
        clear HSN hxa hrg
        go_wp2_with fail
        go_roundw
        case rel => exact ⟨k + 1, by omega, by go_num, by unfold Hid; rw [HE.out]; exact HO.out, hbel⟩
        case measure => simp [intOf]; omega
    · obtain rfl : k = L.length := by omega
      rw [List.take_length] at HO
      go_wp2_with fail
      go_ret
      exact ⟨_, rfl, owns_rdO HO.out (fun x hx => ((HD.out x (byA_in hx)).below (hbel.mono hC)).mono (by omega)), hbel⟩
end Go.Proofs.YtocffojhhjdeoaaGreat

namespace Go.Proofs.YtocffojhhjdeoaaGreat
open Go.RowKit
set_option linter.unusedVariables false

/-- A place of an actor's tree. -/
abbrev inTree (a l p : Int) : Prop := 0 ≤ a ∧ a < 16 ∧ 0 ≤ l ∧ l ≤ 8 ∧ 0 ≤ p ∧ p < ((2 ^ (8 - l.toNat) : Nat) : Int)
/-- What TreeSum answers. -/
def treeV (L : List Ov) (a l p : Int) : Nat := if logI L = true ∧ inTree a l p then nodeN (byA L a.toNat) l.toNat p.toNat else 0
def treeC (L : List Ov) (a l p : Int) : Int := if logI L = true then (if inTree a l p then 0 else 4) else 1
theorem okL {L : List Ov} (h : logI L = true) : L.length ≤ 1024 ∧ ∀ x ∈ L, x.ok = true := by
  unfold logI at h
  simp only [Bool.and_eq_true, decide_eq_true_eq] at h
  refine ⟨h.1, step_mem fun q hq => ?_⟩
  exact List.all_eq_true.1 h.2.1 q (List.mem_range.2 hq)
theorem tree_bad {L : List Ov} (h : logI L = false) (a l p : Int) : treeV L a l p = 0 ∧ treeC L a l p = 1 := by
  unfold treeV treeC
  rw [h]
  simp
theorem tree_out {L : List Ov} (h : logI L = true) {a l p : Int} (h2 : ¬ inTree a l p) : treeV L a l p = 0 ∧ treeC L a l p = 4 := by
  unfold treeV treeC
  rw [h, if_neg (fun e => h2 e.2), if_pos rfl, if_neg h2]
  exact ⟨rfl, rfl⟩
theorem tree_in {L : List Ov} (h : logI L = true) {a l p : Int} (h2 : inTree a l p) : treeV L a l p = nodeN (byA L a.toNat) l.toNat p.toNat ∧ treeC L a l p = 0 := by
  unfold treeV treeC
  rw [h, if_pos ⟨rfl, h2⟩, if_pos rfl, if_pos h2]
  exact ⟨rfl, rfl⟩
theorem pow_split {l p : Nat} (hl : l ≤ 8) (hp : p < 2 ^ (8 - l)) : (p + 1) * 2 ^ l ≤ 256 := by
  have h1 : (p + 1) * 2 ^ l ≤ 2 ^ (8 - l) * 2 ^ l := Nat.mul_le_mul_right _ hp
  have h2 : 2 ^ (8 - l) * 2 ^ l = 2 ^ 8 := by rw [← Nat.pow_add]; congr 1; omega
  omega

set_option maxHeartbeats 4000000 in
set_option maxRecDepth 100000 in
theorem specTreeSum_any (C : Nat) (w : World) (v : Value) (L : List Ov) (a l p : Int) (hC : C ≤ w.heap.size) (hr : RdO C w v L) :
    Calls Tryz.prog 5 #[v, .int .i64 a, .int .i64 l, .int .i64 p] w fun e w' => e = .returned (.tuple #[.int .i64 ((treeV L a l p : Nat) : Int), .int .i64 (treeC L a l p)]) ∧ Below w.heap.size w w' := by
  have hlk := specLogOK_any C w v L hC hr
  obtain ⟨b, hb⟩ : ∃ b, logI L = b := ⟨_, rfl⟩
  obtain ⟨ao, cap, rfl⟩ : ∃ ao cap, v = .slice ao L.length cap := by
    obtain ⟨⟨ao, cap, rfl, _⟩, _⟩ := hr
    exact ⟨_, _, rfl⟩
  rw [hb] at hlk
  cases b with
  | false =>
    obtain ⟨E1, E2⟩ := tree_bad hb a l p
    rw [E1, E2]
    clear E1 E2 hb hr
    go_enter Tryz.func5, Tryz.ntmps5
    go_wp2_with fail
    refine hlk.mono ?_
    rintro e w1 ⟨rfl, hb1⟩
    clear hlk
    go_wp2_with fail
    go_ret2
    exact ⟨rfl, hb1⟩
  | true =>
    obtain ⟨hl, hok⟩ := okL hb
    by_cases hin : inTree a l p
    · obtain ⟨E1, E2⟩ := tree_in hb hin
      rw [E1, E2]
      clear E1 E2
      obtain ⟨h1, h2, h3, h4, h5, h6⟩ := hin
      obtain ⟨na, rfl⟩ := Int.eq_ofNat_of_zero_le h1
      obtain ⟨nl, rfl⟩ := Int.eq_ofNat_of_zero_le h3
      obtain ⟨np, rfl⟩ := Int.eq_ofNat_of_zero_le h5
      simp only [Int.toNat_natCast] at h6 ⊢
      have hnl : nl ≤ 8 := by omega
      have HPS : Hid ((np + 1) * 2 ^ nl ≤ 256) := pow_split hnl (by omega)
      have hpw := fun wz => l12Power_any (8 - nl) (by omega) wz
      have hsub : (8 : Int) - (nl : Int) = ((8 - nl : Nat) : Int) := by omega
      have hgd : decide (((2 ^ (8 - nl) : Nat) : Int) ≤ (np : Int)) = false := by simp only [decide_eq_false_iff_not]; omega
      generalize 2 ^ (8 - nl) = P at hpw hgd
      have hgn : decide (P ≤ np) = false := by simp only [decide_eq_false_iff_not] at hgd ⊢; omega
      have d4 : decide ((nl : Int) < 0) = false := by simp
      have d5 : decide ((np : Int) < 0) = false := by simp
      clear h6
      have d1 : decide ((na : Int) < 0) = false := by simp
      have d2 : decide ((16 : Int) ≤ (na : Int)) = false := by simp; omega
      have d3 : decide ((8 : Int) < (nl : Int)) = false := by simp; omega
      have HOK : Hid (∀ x ∈ L, x.ok = true) := hok
      have HR : Hid (RdO C w (.slice ao L.length cap) L) := hr
      have HNL : Hid (nl ≤ 8) := hnl
      clear h1 h2 h3 h4 h5 hb hok hr hnl
      go_enter Tryz.func5, Tryz.ntmps5
      go_wp2_with fail
      refine hlk.mono ?_
      rintro e w1 ⟨rfl, hb1⟩
      clear hlk
      go_wp2_with (go_at_call 13; refine (hpw _).mono ?_; rintro e w2 ⟨rfl, hw2⟩; obtain rfl := hw2.symm)
      have hs1 := hb1.size
      have hown := l12Own_any C w1 _ L na (by omega) (HR.out.below (hb1.mono hC)) hl
      clear hpw hgd hsub d1 d2 d3 d4 d5 hgn
      refine hown.mono ?_
      rintro e w3 ⟨r3, rfl, hR3, hb3⟩
      have hnd := l12Node_any w3.heap.size r3 (byA L na) (by have := byA_length L na; omega) (fun x hx => HOK.out x (byA_in hx)) nl np w3 HNL.out HPS.out (Nat.le_refl _) hR3
      clear hown
      go_wp2_with fail
      refine hnd.mono ?_
      rintro e w4 ⟨rfl, hb4⟩
      clear hnd
      go_wp2_with fail
      go_ret2
      exact ⟨rfl, below_seq (below_seq hb1 hb3) hb4⟩
    · obtain ⟨E1, E2⟩ := tree_out hb hin
      rw [E1, E2]
      clear E1 E2 hr hb hok
      go_enter Tryz.func5, Tryz.ntmps5
      go_wp2_with fail
      refine hlk.mono ?_
      rintro e w1 ⟨rfl, hb1⟩
      clear hlk
      by_cases c1 : a < 0
      · clear hin
        go_wp2_with fail
        go_ret2
        exact ⟨rfl, hb1⟩
      · by_cases c2 : 16 ≤ a
        · have d1 : decide (a < 0) = false := by simp; omega
          have d2 : decide ((16 : Int) ≤ a) = true := by simp; omega
          clear hin c1 c2
          go_wp2_with fail
          go_ret2
          exact ⟨rfl, hb1⟩
        · have d1 : decide (a < 0) = false := by simp; omega
          have d2 : decide ((16 : Int) ≤ a) = false := by simp; omega
          by_cases c3 : l < 0
          · have d3 : decide (l < 0) = true := by simp; omega
            clear hin c1 c2 c3
            go_wp2_with fail
            go_ret2
            exact ⟨rfl, hb1⟩
          · have d3 : decide (l < 0) = false := by simp; omega
            by_cases c4 : 8 < l
            · have d4 : decide ((8 : Int) < l) = true := by simp; omega
              clear hin c1 c2 c3 c4
              go_wp2_with fail
              go_ret2
              exact ⟨rfl, hb1⟩
            · have d4 : decide ((8 : Int) < l) = false := by simp; omega
              by_cases c5 : p < 0
              · have d5 : decide (p < 0) = true := by simp; omega
                clear hin c1 c2 c3 c4 c5
                go_wp2_with fail
                go_ret2
                exact ⟨rfl, hb1⟩
              · have d5 : decide (p < 0) = false := by simp; omega
                obtain ⟨nl, rfl⟩ := Int.eq_ofNat_of_zero_le (show 0 ≤ l by omega)
                have d6 : decide (((2 ^ (8 - nl) : Nat) : Int) ≤ p) = true := by
                  simp only [decide_eq_true_eq]
                  have h7 : ¬ p < ((2 ^ (8 - nl) : Nat) : Int) := fun h => hin ⟨by omega, by omega, by omega, by omega, by omega, by rw [Int.toNat_natCast]; exact h⟩
                  omega
                have hpw := fun wz => l12Power_any (8 - nl) (by omega) wz
                have hsub : (8 : Int) - (nl : Int) = ((8 - nl : Nat) : Int) := by omega
                generalize 2 ^ (8 - nl) = P at hpw d6
                clear hin c1 c2 c3 c4 c5
                go_wp2_with (go_at_call 13; refine (hpw _).mono ?_; rintro e w2 ⟨rfl, hw2⟩; obtain rfl := hw2.symm)
                go_ret2
                exact ⟨rfl, hb1⟩
end Go.Proofs.YtocffojhhjdeoaaGreat

namespace Go.Proofs.YtocffojhhjdeoaaGreat
open Go.RowKit
set_option linter.unusedVariables false

theorem tree_ok {L : List Ov} {a l p : Int} (h : treeC L a l p = 0) : logI L = true ∧ inTree a l p := by
  unfold treeC at h
  split at h
  · rename_i h1
    split at h
    · rename_i h2
      exact ⟨h1, h2⟩
    · cases h
  · cases h
theorem tree_code {L : List Ov} {a l p : Int} (h : logI L = true) (hi : inTree a l p) : treeC L a l p = 0 ∧ treeV L a l p = nodeN (byA L a.toNat) l.toNat p.toNat := by
  unfold treeC treeV
  rw [if_pos h, if_pos hi, if_pos ⟨h, hi⟩]
  exact ⟨rfl, rfl⟩
theorem tree_up {L : List Ov} {a l p : Int} (h : treeC L a l p = 0) (hl : l ≠ 0) : treeC L a (l - 1) (2 * p) = 0 ∧ treeC L a (l - 1) (2 * p + 1) = 0 ∧ (treeV L a (l - 1) (2 * p) = 0 → treeV L a (l - 1) (2 * p + 1) = 0 → treeV L a l p = 0) := by
  obtain ⟨h1, h2⟩ := tree_ok h
  have h2' := h2
  obtain ⟨m, rfl⟩ : ∃ m : Nat, l = (m : Int) + 1 := ⟨(l - 1).toNat, by omega⟩
  obtain ⟨q, rfl⟩ : ∃ q : Nat, p = (q : Int) := ⟨p.toNat, by omega⟩
  have hm : m ≤ 7 := by omega
  have hpw : 2 ^ (8 - m) = 2 * 2 ^ (8 - (m + 1)) := by
    rw [show 8 - m = (8 - (m + 1)) + 1 by omega, Nat.pow_succ, Nat.mul_comm]
  have e1 : ((m : Int) + 1).toNat = m + 1 := by omega
  have e2 : ((m : Int) + 1 - 1).toNat = m := by omega
  obtain ⟨a0, a1, l0, l1, p0, p1⟩ := h2
  rw [e1] at p1
  have i1 : inTree a ((m : Int) + 1 - 1) (2 * (q : Int)) := by
    refine ⟨a0, a1, by omega, by omega, by omega, ?_⟩
    rw [e2, hpw]
    generalize 2 ^ (8 - (m + 1)) = z at p1
    omega
  have i2 : inTree a ((m : Int) + 1 - 1) (2 * (q : Int) + 1) := by
    refine ⟨a0, a1, by omega, by omega, by omega, ?_⟩
    rw [e2, hpw]
    generalize 2 ^ (8 - (m + 1)) = z at p1
    omega
  obtain ⟨c1, v1⟩ := tree_code h1 i1
  obtain ⟨c2, v2⟩ := tree_code h1 i2
  obtain ⟨c3, v3⟩ := tree_code h1 h2'
  refine ⟨c1, c2, fun e3 e4 => ?_⟩
  rw [v1, e2] at e3
  rw [v2, e2] at e4
  rw [v3, e1, Int.toNat_natCast, nodeN]
  rw [show (2 * (q : Int)).toNat = 2 * q by omega] at e3
  rw [show (2 * (q : Int) + 1).toNat = 2 * q + 1 by omega] at e4
  rw [e3, e4]
  rfl
theorem tree_none {L : List Ov} (h : logI L = true) (h7 : ∀ x ∈ L, x.a ≠ 7) : treeV L 7 8 0 = 0 ∧ treeC L 7 8 0 = 0 := by
  have hi : inTree 7 8 0 := by
    unfold inTree
    decide
  obtain ⟨c, v⟩ := tree_code h hi
  refine ⟨?_, c⟩
  rw [v]
  have e : byA L (7 : Int).toNat = [] := by
    unfold byA
    refine List.filter_eq_nil_iff.2 fun x hx => ?_
    have := h7 x hx
    simpa using this
  rw [e]
  exact nodeN_none [] _ _ (by simp)
end Go.Proofs.YtocffojhhjdeoaaGreat

namespace Go.Proofs.YtocffojhhjdeoaaGreat
open Go.RowKit
set_option linter.unusedVariables false

theorem nodesAt_any (l : Nat) (h : l ≤ 8) (w : World) : Calls Tryz.prog 20 #[.int .i64 (l : Int)] w fun e w' => e = .returned (.int .i64 ((2 ^ (8 - l) : Nat) : Int)) ∧ w' = w := by
  have hcs : l = 0 ∨ l = 1 ∨ l = 2 ∨ l = 3 ∨ l = 4 ∨ l = 5 ∨ l = 6 ∨ l = 7 ∨ l = 8 := by omega
  rcases hcs with rfl | rfl | rfl | rfl | rfl | rfl | rfl | rfl | rfl
  all_goals
    go_enter Tryz.func20, Tryz.ntmps20
    go_wp2
    go_ret
    exact ⟨rfl, rfl⟩

set_option maxHeartbeats 2000000 in
theorem nodeSum_any (X Y : Nat) (hx : X < 4294967296) (hy : Y < 4294967296) (w : World) : Calls Tryz.prog 73 #[.int .u32 (X : Int), .int .u32 (Y : Int)] w fun e w' => e = .returned (.int .u32 ((overN X Y : Nat) : Int)) ∧ Below w.heap.size w w' := by
  by_cases hz : X = 0 ∧ Y = 0
  · obtain ⟨rfl, rfl⟩ := hz
    have HZ : Hid (overN 0 0 = 0) := rfl
    go_enter Tryz.func73, Tryz.ntmps73
    go_wp2_with fail
    go_ret
    exact ⟨by rw [HZ.out]; rfl, Below.refl _ _⟩
  · have HZ : Hid (overN X Y = sumF 2166136261 (four X ++ four Y)) := by
      unfold Hid
      rw [overN, if_neg hz]
    have hcs : (((X : Nat) : Int) == 0) = false ∨ ((((X : Nat) : Int) == 0) = true ∧ (((Y : Nat) : Int) == 0) = false) := by
      by_cases h0 : X = 0
      · right
        subst h0
        refine ⟨rfl, ?_⟩
        simp
        intro e
        exact hz ⟨rfl, e⟩
      · left
        simp
        exact h0
    have h1 := appendSum_any w.heap.size w (.slice none 0 0) [] X hx (by simp) (Nat.le_refl _) (World.ownsRow_nil _ _ _ _)
    rw [List.nil_append] at h1
    have h2 := fun wz v (h : Own 5 wz w.heap.size v ((four X).map (Value.int .u8))) (hs : w.heap.size ≤ wz.heap.size) => appendSum_any w.heap.size wz v (four X) Y hy (by simp [four]) hs h
    have h3 : ∀ wz v, Own 5 wz w.heap.size v ((four X ++ four Y).map (Value.int .u8)) → Calls Tryz.prog 90 #[.int .u32 2166136261, v] wz fun e w' => e = .returned (.int .u32 ((overN X Y : Nat) : Int)) ∧ w' = wz := fun wz v h => by
      rw [HZ.out]
      exact sumOn_any _ wz v (four X ++ four Y) 2166136261 (by omega) (fours_byte hx hy) (by simp [four]) h.rd
    clear hz HZ hx hy
    generalize overN X Y = R at h3
    rcases hcs with hcs | ⟨hc1, hc2⟩
    all_goals
      go_enter Tryz.func73, Tryz.ntmps73
      go_wp2_with fail
      refine h1.mono ?_
      rintro e w1 ⟨r1, rfl, ho1, hb1⟩
      have hk1 := h2 w1 r1 ho1 hb1.size
      clear h1 h2 ho1
      go_wp2_with fail
      refine hk1.mono ?_
      rintro e w2 ⟨r2, rfl, ho2, hb2⟩
      have hk2 := h3 w2 r2 ho2
      clear h3 hk1 ho2
      go_wp2_with fail
      refine hk2.mono ?_
      rintro e w3 ⟨rfl, hw3⟩
      obtain rfl := hw3.symm
      clear hk2
      go_wp2_with fail
      go_ret
      exact ⟨rfl, hb1.trans hb2⟩

set_option maxHeartbeats 4000000 in
set_option maxRecDepth 100000 in
theorem leafSum_any (C : Nat) (v : Value) (L : List Ov) (w : World) (hC : C ≤ w.heap.size) (hr : RdO C w v L) (hl : L.length ≤ 4) (hok : ∀ x ∈ L, x.ok = true) :
    Calls Tryz.prog 71 #[v] w fun e w' => e = .returned (.int .u32 ((leafN L : Nat) : Int)) ∧ Below w.heap.size w w' := by
  obtain ⟨⟨ao, cap, rfl, hcap, hmax, hnil, hrow⟩, hdv⟩ := hr
  have HR : Hid (∀ k, k < L.length → ∃ g off, ao = some ⟨g, off, none⟩ ∧ g < C ∧ OpAt w g (off + k * 12) (ovAt L k)) := fun k hk => by
    obtain ⟨g, off, h1, h2, h3⟩ := hrow (by omega)
    exact ⟨g, off, h1, h2, h3 k hk⟩
  have HD : Hid (∀ k, k < L.length → Rd C w (ovAt L k).dv ((ovAt L k).ds.map (Value.int .i64)) ∧ (ovAt L k).ok = true) := fun k hk => ⟨hdv _ (ovAt_mem hk), hok _ (ovAt_mem hk)⟩
  clear hrow hdv hnil hok
  by_cases h0 : L.length = 0
  · have HZ : Hid (leafN L = 0) := by
      unfold Hid
      rw [List.eq_nil_of_length_eq_zero h0]
      rfl
    rw [h0]
    go_enter Tryz.func71, Tryz.ntmps71
    go_wp2_with fail
    go_ret
    exact ⟨by rw [HZ.out]; rfl, Below.refl _ _⟩
  · have HZ : Hid (leafN L = sumF 2166136261 (leafB L)) := by
      unfold Hid
      rw [leafN, if_neg (fun e => h0 (by rw [e]; rfl))]
    have h0d : (((L.length : Nat) : Int) == 0) = false := by simp; intro e; exact h0 (by rw [e]; rfl)
    clear h0
    go_enter Tryz.func71, Tryz.ntmps71
    go_wp2_with fail
    go_loopw [3, 11] (fun tb ti wr => ∃ j : Nat, j ≤ L.length ∧ ti = .int .i64 (j : Int) ∧ Own 5 wr w.heap.size tb ((leafB (L.take j)).map (Value.int .u8)) ∧ Below w.heap.size w wr) (fun _ ti _ => L.length - (intOf ti).toNat)
    case atStart => exact ⟨0, by omega, rfl, World.ownsRow_nil _ _ _ _, Below.refl _ _⟩
    case round =>
      obtain ⟨j, hj, rfl, ho, hbel⟩ := hrel
      have hsz := hbel.size
      have hlb : (leafB (L.take j)).length ≤ 16 := by
        rw [leafB_len, List.length_take]
        omega
      by_cases hlt : j < L.length
      · obtain ⟨g, off, rfl, hg, hx⟩ := HR.out j hlt
        obtain ⟨hdr, hxk⟩ := HD.out j hlt
        have HV : Hid (leafB (L.take (j + 1)) = leafB (L.take j) ++ four (opSum (ovAt L j))) := by
          unfold Hid
          rw [List.take_add_one, ovAt_get hlt]
          exact leafB_snoc _ _
        have hrg := opAt_range (hx.below (hbel.mono hC) hg)
        replace hdr := hdr.below (hbel.mono hC)
        have hF := ok_facts hxk
        have hsl := opSum_lt (ovAt L j)
        have HOS : Hid (opSum (ovAt L j) = sumF 2166136261 (opBy (ovAt L j).a (ovAt L j).s (ovAt L j).t (ovAt L j).k (ovAt L j).o (ovAt L j).n (ovAt L j).u (ovAt L j).pt (ovAt L j).pa (ovAt L j).ky (ovAt L j).tx (ovAt L j).ds)) := rfl
        generalize opSum (ovAt L j) = S at HV hsl HOS
        generalize ovAt L j = X at hrg hdr hF HOS
        obtain ⟨xa, xs, xt, xdv, xk, xo, xn, xu, xpt, xpa, xky, xtx, xds⟩ := X
        dsimp only at hdr hF HOS
        obtain ⟨da, dcap, hde⟩ : ∃ da dcap, xdv = .slice da xds.length dcap := by
          obtain ⟨ao', cap', e, _⟩ := hdr
          exact ⟨ao', cap', by rw [e, List.length_map]⟩
        subst hde
        replace hrg : wr.rangeAt g (off + j * 12) [.int .i64 xa, .int .i64 xs, .int .i64 xt, .slice da xds.length dcap, .int .i64 xk, .int .i64 xo, .int .i64 xn, .int .i64 xu, .int .i64 xpt, .int .i64 xpa, .string xky, .string xtx] := by
          have h := hrg
          unfold Ov.cs at h
          exact h
        have hbA := below_alloc wr (.cells #[.int .i64 xa, .int .i64 xs, .int .i64 xt, .slice da xds.length dcap, .int .i64 xk, .int .i64 xo, .int .i64 xn, .int .i64 xu, .int .i64 xpt, .int .i64 xpa, .string xky, .string xtx] 37)
        have hrA := range_op (Below.refl (wr.alloc (.cells #[.int .i64 xa, .int .i64 xs, .int .i64 xt, .slice da xds.length dcap, .int .i64 xk, .int .i64 xo, .int .i64 xn, .int .i64 xu, .int .i64 xpt, .int .i64 xpa, .string xky, .string xtx] 37)).heap.size (wr.alloc (.cells #[.int .i64 xa, .int .i64 xs, .int .i64 xt, .slice da xds.length dcap, .int .i64 xk, .int .i64 xo, .int .i64 xn, .int .i64 xu, .int .i64 xpt, .int .i64 xpa, .string xky, .string xtx] 37)))
        have hby := opBytes_any C xa xs xt xk xo xn xu xpt xpa _ xky xtx xds _ (by have := hbA.size; omega) hF (hdr.below (hbA.mono (by omega)))
        have hbl := opBy_len hF
        have hji : (j : Int) < ((L.length : Nat) : Int) := by omega
        clear hx hxk hdr
        go_wp2_with (first | (refine wpList_load_mid rfl 37 _ rfl g (off + j * 12) rfl _ _ hrg Tryz.underlying37 rfl info12 ?_) | (refine wpList_load_mid rfl 37 _ rfl wr.heap.size 0 rfl _ _ hrA Tryz.underlying37 rfl info12 ?_))
        refine hby.mono ?_
        rintro e w4 ⟨r4, rfl, ho4, hb4⟩
        have hsm : Calls Tryz.prog 90 #[.int .u32 2166136261, r4] w4 fun e w' => e = .returned (.int .u32 (S : Int)) ∧ w' = w4 := by
          rw [HOS.out]
          exact sumOn_any _ w4 r4 (opBy xa xs xt xk xo xn xu xpt xpa xky xtx xds) 2166136261 (by omega) (opBy_byte _ _ _ _ _ _ _ _ _ _ _ _) (by omega) ho4.rd
        have hB4 := below_seq hbA hb4
        clear hby hrg hF HOS hrA hbA hb4
        go_wp2_with fail
        refine hsm.mono ?_
        rintro e w5 ⟨rfl, hw5⟩
        obtain rfl := hw5.symm
        clear hsm ho4
        have hov := ho.below hB4 (Nat.le_refl _)
        have hBw := below_seq hbel hB4
        have has := appendSum_any w.heap.size w4 _ _ S hsl (by omega) hBw.size hov
        rw [← HV.out] at has
        clear ho hov hbel hB4
        go_wp2_with fail
        refine has.mono ?_
        rintro e w6 ⟨r6, rfl, ho6, hb6⟩
        have hb7 := hBw.trans hb6
        clear has hb6 hBw
        go_wp2_with fail
        go_roundw
        case rel => exact ⟨j + 1, by omega, by go_num, ho6, hb7⟩
        case measure => simp [intOf]; omega
      · obtain rfl : j = L.length := by omega
        rw [List.take_length] at ho hlb
        have hsm : ∀ tb, Own 5 wr w.heap.size tb ((leafB L).map (Value.int .u8)) → Calls Tryz.prog 90 #[.int .u32 2166136261, tb] wr fun e w' => e = .returned (.int .u32 ((leafN L : Nat) : Int)) ∧ w' = wr := fun tb h => by
          rw [HZ.out]
          exact sumOn_any _ wr tb (leafB L) 2166136261 (by omega) (leafB_byte _) (by omega) h.rd
        have hs1 := hsm _ ho
        clear hsm
        go_wp2_with fail
        refine hs1.mono ?_
        rintro e w5 ⟨rfl, hw5⟩
        obtain rfl := hw5.symm
        go_wp2_with fail
        go_ret
        exact ⟨rfl, hbel⟩
end Go.Proofs.YtocffojhhjdeoaaGreat

namespace Go.Proofs.YtocffojhhjdeoaaGreat
open Go.RowKit
set_option linter.unusedVariables false

set_option maxHeartbeats 2000000 in
set_option maxRecDepth 100000 in
theorem leaf_a (b p n cap : Nat) (ao : Option Addr) (w : World) (hp : p ≤ 256) (hn : n ≤ 1024) (hb : w.cell? ⟨b, 3, none⟩ = some (.slice ao n cap)) (hcap : n ≤ cap) (h1 : n < p * 4) :
    Calls Tryz.prog 72 #[.pointer (some ⟨b, 0, none⟩), .int .i64 (p : Int)] w fun e w' => e = .returned (.slice (if cap = n then ao else ao.map (·.add (n * 12))) 0 (cap - n)) ∧ ∃ q, w' = w.drewN q := by
  have i1 : ((n : Nat) : Int) < (p : Int) * 4 := by omega
  have i2 : ((n : Nat) : Int) < (n : Int) + 4 := by omega
  have i3 : (0 : Int) ≤ (n : Int) := by omega
  go_enter Tryz.func72, Tryz.ntmps72
  go_wp2_with fail
  go_quiet (fail)
  go_wp2_with fail
  all_goals
    go_ret
    exact ⟨rfl, _, rfl⟩
set_option maxHeartbeats 2000000 in
set_option maxRecDepth 100000 in
theorem leaf_b (b p n cap t : Nat) (ao : Option Addr) (w : World) (hp : p ≤ 256) (hn : n ≤ 1024) (hb : w.cell? ⟨b, 3, none⟩ = some (.slice ao n cap)) (hcap : n ≤ cap) (h1 : p * 4 ≤ n) (HT : Hid (t = n ∧ n < p * 4 + 4 ∨ t = p * 4 + 4 ∧ p * 4 + 4 ≤ n)) :
    Calls Tryz.prog 72 #[.pointer (some ⟨b, 0, none⟩), .int .i64 (p : Int)] w fun e w' => e = .returned (.slice (if cap = p * 4 then ao else ao.map (·.add (p * 4 * 12))) (t - p * 4) (cap - p * 4)) ∧ ∃ q, w' = w.drewN q := by
  obtain ⟨f, HF⟩ : ∃ f, Hid (p * 4 = f) := ⟨_, rfl⟩
  have i1 : decide (((n : Nat) : Int) < (p : Int) * 4) = false := by simp only [decide_eq_false_iff_not]; omega
  have hfc : (p : Int) * 4 = (f : Int) := by have := HF.out; omega
  rcases HT.out with ⟨rfl, h2⟩ | ⟨rfl, h2⟩
  · have i2 : decide (((t : Nat) : Int) < (p : Int) * 4 + 4) = true := by simp only [decide_eq_true_eq]; omega
    have j2 : ((t : Nat) : Int) < (f : Int) + 4 := by omega
    have j3 : (0 : Int) ≤ (f : Int) := by omega
    have j4 : f ≤ t := by have := HF.out; omega
    have HFC : Hid ((p : Int) * 4 = (f : Int)) := hfc
    clear hfc HT
    rw [HF.out]
    go_enter Tryz.func72, Tryz.ntmps72
    go_wp2_with fail
    rw [HFC.out]
    clear i1 i2 h1 h2 HFC
    go_quiet (fail)
    go_wp2_with fail
    all_goals
      go_ret
      exact ⟨rfl, _, rfl⟩
  · have i2 : decide (((n : Nat) : Int) < (p : Int) * 4 + 4) = false := by simp only [decide_eq_false_iff_not]; omega
    have j2 : (f : Int) + 4 ≤ ((n : Nat) : Int) := by omega
    have j2d : decide (((n : Nat) : Int) < (f : Int) + 4) = false := by simp only [decide_eq_false_iff_not]; omega
    have j3 : (0 : Int) ≤ (f : Int) := by omega
    have j4 : f + 4 ≤ n := by have := HF.out; omega
    have HFC : Hid ((p : Int) * 4 = (f : Int)) := hfc
    clear hfc HT
    rw [HF.out]
    go_enter Tryz.func72, Tryz.ntmps72
    go_wp2_with fail
    rw [HFC.out]
    clear i1 i2 h1 h2 HFC
    go_quiet (fail)
    go_wp2_with fail
    all_goals
      go_ret
      first | exact ⟨rfl, _, rfl⟩ | exact ⟨by simp, _, rfl⟩
/-- The operations of a leaf. -/
theorem leaf_any (C b p : Nat) (v : Value) (L : List Ov) (w : World) (hp : p ≤ 256) (hl : L.length ≤ 1024) (hb : w.cell? ⟨b, 3, none⟩ = some v) (hr : RdO C w v L) :
    Calls Tryz.prog 72 #[.pointer (some ⟨b, 0, none⟩), .int .i64 (p : Int)] w fun e w' => ∃ r, e = .returned r ∧ RdO C w r (leafOf L p) ∧ ∃ q, w' = w.drewN q := by
  have hr0 := hr
  obtain ⟨⟨ao, cap, rfl, hcap, hmax, hnil, hrow⟩, hdv⟩ := hr
  clear hrow hdv hnil
  by_cases h1 : L.length < p * 4
  · refine (leaf_a b p L.length cap ao w hp hl hb hcap h1).mono ?_
    rintro e w' ⟨rfl, q, rfl⟩
    refine ⟨_, rfl, ?_, q, rfl⟩
    have h := hr0.cut L.length 0 (Nat.le_refl _) (Nat.zero_le _)
    have e : leafOf L p = (L.drop L.length).take 0 := by
      unfold leafOf
      rw [List.drop_eq_nil_of_le (by omega)]
      rfl
    rw [e]
    exact h
  · by_cases h2 : L.length < p * 4 + 4
    · refine (leaf_b b p L.length cap L.length ao w hp hl hb hcap (by omega) (.inl ⟨rfl, h2⟩)).mono ?_
      rintro e w' ⟨rfl, q, rfl⟩
      refine ⟨_, rfl, ?_, q, rfl⟩
      have h := hr0.cut (p * 4) (L.length - p * 4) (by omega) (Nat.le_refl _)
      have e : leafOf L p = (L.drop (p * 4)).take (L.length - p * 4) := by
        unfold leafOf
        rw [Nat.mul_comm 4 p, List.take_of_length_le (by rw [List.length_drop]; omega), List.take_of_length_le (by rw [List.length_drop]; omega)]
      rw [e]
      exact h
    · refine (leaf_b b p L.length cap (p * 4 + 4) ao w hp hl hb hcap (by omega) (.inr ⟨rfl, by omega⟩)).mono ?_
      rintro e w' ⟨rfl, q, rfl⟩
      refine ⟨_, rfl, ?_, q, rfl⟩
      have h := hr0.cut (p * 4) 4 (by omega) (by omega)
      rw [show p * 4 + 4 - p * 4 = 4 by omega]
      have e : leafOf L p = (L.drop (p * 4)).take 4 := by
        unfold leafOf
        rw [Nat.mul_comm 4 p]
      rw [e]
      exact h
end Go.Proofs.YtocffojhhjdeoaaGreat
