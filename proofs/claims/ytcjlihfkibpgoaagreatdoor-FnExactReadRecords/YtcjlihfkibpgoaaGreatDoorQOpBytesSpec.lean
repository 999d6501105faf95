/- The specification's l12Bytes and OpBytes. -/
import Derived.Deep.RegionHeld2
import Derived.Deep.RegionHeld3
import Derived.Test.YtcjlihfkibpgoaaGreatDoorQOpByMathToLogByMath
import Derived.Test.YtcjlihfkibpgoaaGreatDoorQOpSpec
import Derived.Test.YtcjlihfkibpgoaaGreatDoorQInfoToCopies
import Derived.Test.YtcjlihfkibpgoaaGreatDoorQOpToToLawKit
import Derived.Test.YtcjlihfkibpgoaaGreatDoorQStampLessWalkToStampNextEq
import Derived.Test.YtcjlihfkibpgoaaGreatDoorQTextsToPutTextsSpec
import Derived.Test.YtcjlihfkibpgoaaGreatDoorQTakeKitToBigKit
namespace Go.Proofs.YtcjlihfkibpgoaaGreatDoor
open Go.RowKit
set_option linter.unusedVariables false

theorem rdTexts (w : World) (ky tx : ByteArray) : Rd (w.alloc (.cells #[.string ky, .string tx] 9)).heap.size (w.alloc (.cells #[.string ky, .string tx] 9)) (.slice (some ⟨w.heap.size, 0, none⟩) 2 2) ([ky, tx].map Value.string) := (own_lit w 9 [.string ky, .string tx] 2 rfl (by unfold maxLen; omega)).rd
theorem rdTexts_on {w w' : World} {ky tx : ByteArray} (h : Below (w.alloc (.cells #[.string ky, .string tx] 9)).heap.size (w.alloc (.cells #[.string ky, .string tx] 9)) w') : Rd (w.alloc (.cells #[.string ky, .string tx] 9)).heap.size w' (.slice (some ⟨w.heap.size, 0, none⟩) 2 2) ([ky, tx].map Value.string) := (rdTexts w ky tx).below h
theorem ownAllocB {e : TypeId} {w : World} {B : Nat} {v : Value} {cs : List Value} (h : Own e w B v cs) (o : Obj) : Own e (w.alloc o) B v cs := World.ownsRow.alloc h o

set_option maxHeartbeats 4000000 in
set_option maxRecDepth 100000 in
theorem l12Bytes_any (C : Nat) (a s t k o n u pt pa : Int) (dv : Value) (ky tx : ByteArray) (ds : List Int) (w : World) (hC : C ≤ w.heap.size) (hF : OpFacts a s t k o n u pt pa ky tx ds) (hr : Rd C w dv (ds.map (Value.int .i64))) :
    Calls Tryz.prog 29 #[.agg #[.int .i64 a, .int .i64 s, .int .i64 t, dv, .int .i64 k, .int .i64 o, .int .i64 n, .int .i64 u, .int .i64 pt, .int .i64 pa, .string ky, .string tx]] w fun e w' => ∃ r, e = .returned r ∧ Own 5 w' w.heap.size r ((opBy a s t k o n u pt pa ky tx ds).map (Value.int .u8)) ∧ Below w.heap.size w w' := by
  have hn1 := hF.hn
  have hsg := fun w' => l08Sign_any n w' (by omega) (by omega)
  have HNL : Hid ((numsO a s t k o n u pt pa ds).length = 25) := nums_len (vecOK_get hF.hds).1
  have h16 := (vecOK_get hF.hds).1
  obtain ⟨da, dcap, rfl⟩ : ∃ da dcap, dv = .slice da 16 dcap := by
    obtain ⟨ao, cap, rfl, _⟩ := hr
    exact ⟨ao, cap, by rw [List.length_map, h16]⟩
  have HS : Hid (∀ w', Below (w.alloc (.cells #[.int .i64 a, .int .i64 s, .int .i64 t, .slice da 16 dcap, .int .i64 k, .int .i64 o, .int .i64 n, .int .i64 u, .int .i64 pt, .int .i64 pa, .string ky, .string tx] 41)).heap.size (w.alloc (.cells #[.int .i64 a, .int .i64 s, .int .i64 t, .slice da 16 dcap, .int .i64 k, .int .i64 o, .int .i64 n, .int .i64 u, .int .i64 pt, .int .i64 pa, .string ky, .string tx] 41)) w' → (w'.cell? ⟨w.heap.size, 0, none⟩ = some (.int .i64 a) ∧ w'.cell? ⟨w.heap.size, 1, none⟩ = some (.int .i64 s) ∧ w'.cell? ⟨w.heap.size, 2, none⟩ = some (.int .i64 t) ∧ w'.cell? ⟨w.heap.size, 4, none⟩ = some (.int .i64 k) ∧ w'.cell? ⟨w.heap.size, 5, none⟩ = some (.int .i64 o) ∧ w'.cell? ⟨w.heap.size, 6, none⟩ = some (.int .i64 n) ∧ w'.cell? ⟨w.heap.size, 7, none⟩ = some (.int .i64 u) ∧ w'.cell? ⟨w.heap.size, 8, none⟩ = some (.int .i64 pt) ∧ w'.cell? ⟨w.heap.size, 9, none⟩ = some (.int .i64 pa)) ∧ w'.cell? ⟨w.heap.size, 3, none⟩ = some (.slice da 16 dcap) ∧ w'.cell? ⟨w.heap.size, 10, none⟩ = some (.string ky) ∧ w'.cell? ⟨w.heap.size, 11, none⟩ = some (.string tx)) := fun w' h => by
    obtain ⟨p0, p1, p2, p3, p4, p5, p6, p7, p8, p9, p10, p11⟩ := op_cells h
    exact ⟨⟨p0, p1, p2, p4, p5, p6, p7, p8, p9⟩, p3, p10, p11⟩
  go_enter Tryz.func29, Tryz.ntmps29
  go_wp2_with fail
  go_region_held2 (fun w' => w'.cell? ⟨w.heap.size, 0, none⟩ = some (.int .i64 a) ∧ w'.cell? ⟨w.heap.size, 1, none⟩ = some (.int .i64 s) ∧ w'.cell? ⟨w.heap.size, 2, none⟩ = some (.int .i64 t) ∧ w'.cell? ⟨w.heap.size, 4, none⟩ = some (.int .i64 k) ∧ w'.cell? ⟨w.heap.size, 5, none⟩ = some (.int .i64 o) ∧ w'.cell? ⟨w.heap.size, 6, none⟩ = some (.int .i64 n) ∧ w'.cell? ⟨w.heap.size, 7, none⟩ = some (.int .i64 u) ∧ w'.cell? ⟨w.heap.size, 8, none⟩ = some (.int .i64 pt) ∧ w'.cell? ⟨w.heap.size, 9, none⟩ = some (.int .i64 pa)) (first | exact (HS.out _ (Below.refl _ _).drew).1 | exact (HS.out _ (below_alloc _ _).drew).1 | exact (HS.out _ (below_then (Below.refl _ _).drew _)).1 | exact (HS.out _ (below_then (Below.refl _ _) _)).1) ((go_at_call 45; refine (hsg _).mono ?_; rintro e w5 ⟨rfl, hw5⟩; obtain rfl := hw5.symm))
  clear hsg
  have hB1 : Below (w.alloc (.cells #[.int .i64 a, .int .i64 s, .int .i64 t, .slice da 16 dcap, .int .i64 k, .int .i64 o, .int .i64 n, .int .i64 u, .int .i64 pt, .int .i64 pa, .string ky, .string tx] 41)).heap.size (w.alloc (.cells #[.int .i64 a, .int .i64 s, .int .i64 t, .slice da 16 dcap, .int .i64 k, .int .i64 o, .int .i64 n, .int .i64 u, .int .i64 pt, .int .i64 pa, .string ky, .string tx] 41)) ((w.alloc (.cells #[.int .i64 a, .int .i64 s, .int .i64 t, .slice da 16 dcap, .int .i64 k, .int .i64 o, .int .i64 n, .int .i64 u, .int .i64 pt, .int .i64 pa, .string ky, .string tx] 41)).alloc (.cells #[.int .i64 a, .int .i64 s, .int .i64 t, .int .i64 k, .int .i64 o, .int .i64 ((foldS n : Nat) : Int), .int .i64 u, .int .i64 pt, .int .i64 pa] 3)).drew := (below_then (Below.refl _ _) _).drew
  have hro : Own 3 ((w.alloc (.cells #[.int .i64 a, .int .i64 s, .int .i64 t, .slice da 16 dcap, .int .i64 k, .int .i64 o, .int .i64 n, .int .i64 u, .int .i64 pt, .int .i64 pa, .string ky, .string tx] 41)).alloc (.cells #[.int .i64 a, .int .i64 s, .int .i64 t, .int .i64 k, .int .i64 o, .int .i64 ((foldS n : Nat) : Int), .int .i64 u, .int .i64 pt, .int .i64 pa] 3)).drew (w.heap.size + 1) (.slice (some ⟨w.heap.size + 1, 0, none⟩) 9 9) ([a, s, t, k, o, ((foldS n : Nat) : Int), u, pt, pa].map (Value.int .i64)) := by
    have h : Own 3 ((w.alloc (.cells #[.int .i64 a, .int .i64 s, .int .i64 t, .slice da 16 dcap, .int .i64 k, .int .i64 o, .int .i64 n, .int .i64 u, .int .i64 pt, .int .i64 pa, .string ky, .string tx] 41)).alloc (.cells #[.int .i64 a, .int .i64 s, .int .i64 t, .int .i64 k, .int .i64 o, .int .i64 ((foldS n : Nat) : Int), .int .i64 u, .int .i64 pt, .int .i64 pa] 3)) (w.alloc (.cells #[.int .i64 a, .int .i64 s, .int .i64 t, .slice da 16 dcap, .int .i64 k, .int .i64 o, .int .i64 n, .int .i64 u, .int .i64 pt, .int .i64 pa, .string ky, .string tx] 41)).heap.size (.slice (some ⟨(w.alloc (.cells #[.int .i64 a, .int .i64 s, .int .i64 t, .slice da 16 dcap, .int .i64 k, .int .i64 o, .int .i64 n, .int .i64 u, .int .i64 pt, .int .i64 pa, .string ky, .string tx] 41)).heap.size, 0, none⟩) 9 9) ([a, s, t, k, o, ((foldS n : Nat) : Int), u, pt, pa].map (Value.int .i64)) := own_lit _ 3 _ 9 rfl (by unfold maxLen; omega)
    rw [World.size_alloc] at h
    exact h
  have hrd : Rd C ((w.alloc (.cells #[.int .i64 a, .int .i64 s, .int .i64 t, .slice da 16 dcap, .int .i64 k, .int .i64 o, .int .i64 n, .int .i64 u, .int .i64 pt, .int .i64 pa, .string ky, .string tx] 41)).alloc (.cells #[.int .i64 a, .int .i64 s, .int .i64 t, .int .i64 k, .int .i64 o, .int .i64 ((foldS n : Nat) : Int), .int .i64 u, .int .i64 pt, .int .i64 pa] 3)).drew (.slice da 16 dcap) (ds.map (Value.int .i64)) := hr.below ((below_then (below_alloc _ _) _).drew.mono hC)
  have hss := hB1.size
  rw [World.size_alloc] at hss
  generalize ((w.alloc (.cells #[.int .i64 a, .int .i64 s, .int .i64 t, .slice da 16 dcap, .int .i64 k, .int .i64 o, .int .i64 n, .int .i64 u, .int .i64 pt, .int .i64 pa, .string ky, .string tx] 41)).alloc (.cells #[.int .i64 a, .int .i64 s, .int .i64 t, .int .i64 k, .int .i64 o, .int .i64 ((foldS n : Nat) : Int), .int .i64 u, .int .i64 pt, .int .i64 pa] 3)).drew = w1 at hB1 hro hrd hss ⊢
  have hcx := (HS.out _ hB1).2.1
  obtain ⟨i0, hi, hz0, hz1, hz2⟩ := info_parts info3
  have HNU : Hid ([a, s, t, k, o, ((foldS n : Nat) : Int), u, pt, pa] ++ ds = numsO a s t k o n u pt pa ds) := rfl
  have hbk := hro.lt
  go_wp2_with (at_builtin; refine wpList_append_rd rfl _ _ 35 rfl (w.heap.size + 1) 3 i0 (.int .i64 0) 8 Tryz.underlying35 hi hz0 hz1 hz2 rfl _ _ rfl hro _ _ _ rfl hrd (by simp [Value.oneCell']) (by simp only [List.length_map, h16]; simp [maxLen]) (by simp only [List.length_map, h16]; simp) (by omega) ?_)
  intro v3 w3 ho3 hg3
  replace ho3 : Own 3 w3 (w.heap.size + 1) v3 ((numsO a s t k o n u pt pa ds).map (Value.int .i64)) := ho3
  have hB3 : Below (w.alloc (.cells #[.int .i64 a, .int .i64 s, .int .i64 t, .slice da 16 dcap, .int .i64 k, .int .i64 o, .int .i64 n, .int .i64 u, .int .i64 pt, .int .i64 pa, .string ky, .string tx] 41)).heap.size (w.alloc (.cells #[.int .i64 a, .int .i64 s, .int .i64 t, .slice da 16 dcap, .int .i64 k, .int .i64 o, .int .i64 n, .int .i64 u, .int .i64 pt, .int .i64 pa, .string ky, .string tx] 41)) w3 := hB1.grown hg3 (by rw [World.size_alloc]; omega) (fun kk hk => by rw [World.size_alloc]; exact hbk kk hk)
  clear hro hrd hg3 hbk hcx hss hB1 hr
  generalize hnu : numsO a s t k o n u pt pa ds = NU at ho3 HNU HNL
  have HOB : Hid (opBy a s t k o n u pt pa ky tx ds = putR NU ++ putN [ky, tx] 2) := by unfold Hid opBy; rw [hnu]
  have hok : runsOK NU = true := by rw [← hnu]; exact nums_ok hF
  clear hnu HNU
  have hln : NU.length ≤ 4096 := by rw [HNL.out]; omega
  have hlP := putR_len hok hln
  have hlT := texts2 hF.hky hF.htx
  have htt : tot [ky, tx] 2 ≤ 1048576 := by rw [tot2]; have := hF.hky; have := hF.htx; omega
  have rd3 := ho3.rd
  have HBW : Hid (Below w.heap.size w w3) := below_seq (below_alloc _ _) hB3
  have hB := (Below.refl w3.heap.size w3).drew
  have HC2 : Hid (∀ w', Below w3.heap.size w3 w' → w'.cell? ⟨w.heap.size, 10, none⟩ = some (.string ky) ∧ w'.cell? ⟨w.heap.size, 11, none⟩ = some (.string tx)) := fun w' h => (HS.out w' (below_seq hB3 h)).2.2
  have HK2 : Hid (∀ kk, kk ≤ [ky, tx].length → (kk = [ky, tx].length ∨ 1048576 < (putN [ky, tx] kk).length) → kk = 2) := fun kk h1 h2 => by
    have h3 := putN_mono [ky, tx] (show kk ≤ 2 from h1)
    rcases h2 with h | h
    · exact h
    · omega
  have hpos : 0 < ((putN [ky, tx] 2).map (Value.int .u8)).length := by
    have h1 := putN_mono [ky, tx] (show 0 ≤ 2 by omega)
    have h2 := enc_pos [ky, tx].length
    rw [List.length_map]
    exact Nat.lt_of_lt_of_le h2 h1
  have hmx : ((putR NU).map (Value.int .u8)).length + ((putN [ky, tx] 2).map (Value.int .u8)).length ≤ maxLen := by simp only [List.length_map]; unfold maxLen; omega
  have hby : (((putR NU).map (Value.int .u8)).length + ((putN [ky, tx] 2).map (Value.int .u8)).length) * 1 ≤ 140737488355328 := by simp only [List.length_map]; omega
  obtain ⟨i5, hi5, hy0, hy1, hy2⟩ := info_parts info5
  have hm2 : 2 ≤ maxLen := by unfold maxLen; omega
  clear HS hB3 hF
  go_wp2_with fail
  have hB0 := hB
  refine wp_region_held_drew (S := (fun w' => w'.cell? ⟨w.heap.size, 10, none⟩ = some (.string ky) ∧ w'.cell? ⟨w.heap.size, 11, none⟩ = some (.string tx))) (by kernel_rfl) (HC2.out _ hB) (fun hS => ?_)
  refine wpAnyH_take (i := 0) (v := v3) rfl (by kernel_rfl) (by kernel_rfl) (by kernel_rfl) (fun _ _ _ h => h) (Or.inl ⟨by rfl, by intro w' hSw; go_simp⟩) hS ?_
  simp only [tkS, Act.put]
  refine wpAnyH_take (i := 2) (v := .pointer (some ⟨w.heap.size, 10, none⟩)) rfl (by kernel_rfl) (by kernel_rfl) (by kernel_rfl) (fun _ _ _ h => h) (Or.inl ⟨by rfl, by intro w' hSw; go_simp⟩) hS ?_
  simp only [tkS, Act.put]
  refine wpAnyH_take (i := 3) (v := .string ky) rfl (by kernel_rfl) (by kernel_rfl) (by kernel_rfl) (fun _ _ _ h => h) (Or.inl ⟨by rfl, by intro w' hSw; have h1 := hSw.1; have h2 := hSw.2; clear hSw; go_simp⟩) hS ?_
  simp only [tkS, Act.put]
  refine wpAnyH_take (i := 4) (v := .pointer (some ⟨w.heap.size, 11, none⟩)) rfl (by kernel_rfl) (by kernel_rfl) (by kernel_rfl) (fun _ _ _ h => h) (Or.inl ⟨by rfl, by intro w' hSw; go_simp⟩) hS ?_
  simp only [tkS, Act.put]
  refine wpAnyH_take (i := 5) (v := .string tx) rfl (by kernel_rfl) (by kernel_rfl) (by kernel_rfl) (fun _ _ _ h => h) (Or.inl ⟨by rfl, by intro w' hSw; have h1 := hSw.1; have h2 := hSw.2; clear hSw; go_simp⟩) hS ?_
  simp only [tkS, Act.put]
  refine wpAnyH_ready (rs := [1, 6]) (by kernel_rfl) (by simp) ?_
  refine AllReadyH.cons rfl (fun K hK => ?wayA) (AllReadyH.cons rfl (fun K hK => ?wayB) AllReadyH.nil)
  case' wayA =>
    go_simp
    refine (l01PutRuns_any w3.heap.size _ _ NU hln hok hB.size (rd3.below hB)).mono ?_
    rintro e w4 ⟨r4, rfl, ho4, hb4⟩
    replace ho4 := ho4.mono hB.size
    replace hB := below_seq hB hb4
    go_wp2_with fail
    refine hK.out _ _ (HC2.out _ hB) (fun hS => ?_)
    clear hK K
    refine wpAnyH_ready (rs := [6]) (by kernel_rfl) (by simp) ?_
    refine AllReadyH.cons rfl (fun K hK => ?_) AllReadyH.nil
    go_simp
    refine hK.out _ _ (HC2.out _ (below_then hB _)) (fun hS => ?_)
    clear hK K
    replace ho4 := ownAllocB ho4 (.cells #[.string ky, .string tx] 9)
    replace hB := below_then hB (.cells #[.string ky, .string tx] 9)
    refine wpAnyH_ready (rs := [7]) (by kernel_rfl) (by simp) ?_
    refine AllReadyH.cons rfl (fun K hK => ?_) AllReadyH.nil
    go_simp
    refine (l01PutTexts_any _ _ _ [ky, tx] (by simp) htt (Nat.le_refl _) (rdTexts w4 ky tx)).mono ?_
    rintro e w5 ⟨r5, k5, rfl, hk5, ho5, hk5', hb5⟩
    obtain rfl := HK2.out k5 hk5 hk5'
    replace hB := below_seq hB hb5
    go_wp2_with fail
    refine hK.out _ _ (HC2.out _ hB) (fun hS => ?_)
    clear hK K
    replace ho4 := Own.below ho4 hb5 (Nat.le_refl _)
  case' wayB =>
    go_simp
    refine hK.out _ _ (HC2.out _ (below_then hB _)) (fun hS => ?_)
    clear hK K
    replace hB := below_then hB (.cells #[.string ky, .string tx] 9)
    refine wpAnyH_ready (rs := [1]) (by kernel_rfl) (by simp) ?_
    refine AllReadyH.cons rfl (fun K hK => ?_) AllReadyH.nil
    go_simp
    refine (l01PutRuns_any w3.heap.size _ _ NU hln hok hB.size (rd3.below hB)).mono ?_
    rintro e w4 ⟨r4, rfl, ho4, hb4⟩
    replace ho4 := ho4.mono hB.size
    replace hB := below_seq hB hb4
    go_wp2_with fail
    refine hK.out _ _ (HC2.out _ hB) (fun hS => ?_)
    clear hK K
    refine wpAnyH_ready (rs := [7]) (by kernel_rfl) (by simp) ?_
    refine AllReadyH.cons rfl (fun K hK => ?_) AllReadyH.nil
    go_simp
    refine (l01PutTexts_any _ _ _ [ky, tx] (by simp) htt (Nat.le_refl _) ((rdTexts_on hb4).mono hb4.size)).mono ?_
    rintro e w5 ⟨r5, k5, rfl, hk5, ho5, hk5', hb5⟩
    obtain rfl := HK2.out k5 hk5 hk5'
    replace hB := below_seq hB hb5
    go_wp2_with fail
    refine hK.out _ _ (HC2.out _ hB) (fun hS => ?_)
    clear hK K
    replace ho4 := Own.below ho4 hb5 (Nat.le_refl _)
  all_goals
    refine wpAnyH_ready (rs := [8]) (by kernel_rfl) (by simp) ?_
    refine AllReadyH.cons rfl (fun K hK => ?_) AllReadyH.nil
    refine step_append_rd rfl (.tmp 32) (.tmp 38) 22 rfl w3.heap.size 5 i5 (.int .u8 0) 1 Tryz.underlying22 hi5 hy0 hy1 hy2 rfl _ _ rfl ho4 _ _ ((putN [ky, tx] 2).map (Value.int .u8)) rfl ho5.rd hpos (ints_oneCell _ _) hmx hby hB.size ?_
    intro v7 w7 ho7 hg7
    have hbk7 := ho4.lt
    replace hB := hB.grown hg7 hB.size hbk7
    refine hK.out _ _ (HC2.out _ hB) (fun hS => ?_)
    clear hK K
    simp only [tkS, Act.put]
    refine wpAnyH_ready (rs := [9]) (by kernel_rfl) (by simp) ?_
    refine AllReadyH.cons rfl (fun K hK => ?_) AllReadyH.nil
    go_simp
    refine hK.out _ _ (HC2.out _ hB) (fun hS => ?_)
    clear hK K
    refine wpAnyH_done (by kernel_rfl) ?_ _
    go_wp2_with fail
    go_ret
    refine ⟨_, rfl, ?_, below_seq HBW.out hB⟩
    rw [HOB.out, List.map_append]
    exact ho7.mono HBW.out.size

/-- What OpBytes answers: the bytes, and the code. -/
def opByB (a s t k o n u pt pa : Int) (ky tx : ByteArray) (ds : List Int) : List Int := if opB a s t k o n u pt pa ky tx ds = true then opBy a s t k o n u pt pa ky tx ds else []
def opByC (a s t k o n u pt pa : Int) (ky tx : ByteArray) (ds : List Int) : Int := if opB a s t k o n u pt pa ky tx ds = true then 0 else 1
theorem opByB_len (a s t k o n u pt pa : Int) (ky tx : ByteArray) (ds : List Int) : (opByB a s t k o n u pt pa ky tx ds).length ≤ 1250 := by
  unfold opByB
  split
  · rename_i h; exact opBy_len (op_facts h)
  · simp
theorem range_op {w w1 : World} {c0 c1 c2 c3 c4 c5 c6 c7 c8 c9 c10 c11 : Value} {T : TypeId} (h : Below (w.alloc (.cells #[c0, c1, c2, c3, c4, c5, c6, c7, c8, c9, c10, c11] T)).heap.size (w.alloc (.cells #[c0, c1, c2, c3, c4, c5, c6, c7, c8, c9, c10, c11] T)) w1) : w1.rangeAt w.heap.size 0 [c0, c1, c2, c3, c4, c5, c6, c7, c8, c9, c10, c11] := by
  obtain ⟨p0, p1, p2, p3, p4, p5, p6, p7, p8, p9, p10, p11⟩ := op_cells h
  exact range12 p0 p1 p2 p3 p4 p5 p6 p7 p8 p9 p10 p11

end Go.Proofs.YtcjlihfkibpgoaaGreatDoor
