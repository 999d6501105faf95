/- The specification's l12Bytes and OpBytes. A record of an operation: how many bytes it has, these, and their sum: the code's and the specification's. The code's OpBytes. RecordBytes: the code's and the specification's. -/
import Derived.Deep.RegionHeld2
import Derived.Deep.RegionHeld3
import Derived.Test.YtmmkmkaannlkhaaGreatDoorQOpByMathToTreeMath
import Derived.Test.YtmmkmkaannlkhaaGreatDoorQOpSpec
import Derived.Test.YtmmkmkaannlkhaaGreatDoorQInfoToLawAt
import Derived.Test.YtmmkmkaannlkhaaGreatDoorQOpToToLogSame
import Derived.Test.YtmmkmkaannlkhaaGreatDoorQStampLessWalkToStampNextMax
import Derived.Test.YtmmkmkaannlkhaaGreatDoorQTextsToBackRuns
import Derived.Test.YtmmkmkaannlkhaaGreatDoorQTakeKitToBigKit
import Derived.Test.YtmmkmkaannlkhaaGreatDoorQEncodeToOpBytesCode
namespace Go.Proofs.YtmmkmkaannlkhaaGreatDoor
open Go.RowKit
set_option linter.unusedVariables false

theorem rdTexts (w : World) (ky tx : ByteArray) : Rd (w.alloc (.cells #[.string ky, .string tx] 9)).heap.size (w.alloc (.cells #[.string ky, .string tx] 9)) (.slice (some ⟨w.heap.size, 0, none⟩) 2 2) ([ky, tx].map Value.string) := (own_lit w 9 [.string ky, .string tx] 2 rfl (by unfold maxLen; omega)).rd
theorem rdTexts_on {w w' : World} {ky tx : ByteArray} (h : Below (w.alloc (.cells #[.string ky, .string tx] 9)).heap.size (w.alloc (.cells #[.string ky, .string tx] 9)) w') : Rd (w.alloc (.cells #[.string ky, .string tx] 9)).heap.size w' (.slice (some ⟨w.heap.size, 0, none⟩) 2 2) ([ky, tx].map Value.string) := (rdTexts w ky tx).below h
theorem ownAllocB {e : TypeId} {w : World} {B : Nat} {v : Value} {cs : List Value} (h : Own e w B v cs) (o : Obj) : Own e (w.alloc o) B v cs := World.ownsRow.alloc h o

set_option maxHeartbeats 4000000 in
set_option maxRecDepth 100000 in
theorem l12Bytes_any (C : Nat) (a s t k o n u pt pa : Int) (dv : Value) (ky tx : ByteArray) (ds : List Int) (w : World) (hC : C ≤ w.heap.size) (hF : OpFacts a s t k o n u pt pa ky tx ds) (hr : Rd C w dv (ds.map (Value.int .i64))) :
    Calls Tryz.prog 35 #[.agg #[.int .i64 a, .int .i64 s, .int .i64 t, dv, .int .i64 k, .int .i64 o, .int .i64 n, .int .i64 u, .int .i64 pt, .int .i64 pa, .string ky, .string tx]] w fun e w' => ∃ r, e = .returned r ∧ Own 5 w' w.heap.size r ((opBy a s t k o n u pt pa ky tx ds).map (Value.int .u8)) ∧ Below w.heap.size w w' := by
  have hn1 := hF.hn
  have hsg := fun w' => l08Sign_any n w' (by omega) (by omega)
  have HNL : Hid ((numsO a s t k o n u pt pa ds).length = 25) := nums_len (vecOK_get hF.hds).1
  have h16 := (vecOK_get hF.hds).1
  obtain ⟨da, dcap, rfl⟩ : ∃ da dcap, dv = .slice da 16 dcap := by
    obtain ⟨ao, cap, rfl, _⟩ := hr
    exact ⟨ao, cap, by rw [List.length_map, h16]⟩
  have HS : Hid (∀ w', Below (w.alloc (.cells #[.int .i64 a, .int .i64 s, .int .i64 t, .slice da 16 dcap, .int .i64 k, .int .i64 o, .int .i64 n, .int .i64 u, .int .i64 pt, .int .i64 pa, .string ky, .string tx] 29)).heap.size (w.alloc (.cells #[.int .i64 a, .int .i64 s, .int .i64 t, .slice da 16 dcap, .int .i64 k, .int .i64 o, .int .i64 n, .int .i64 u, .int .i64 pt, .int .i64 pa, .string ky, .string tx] 29)) w' → (w'.cell? ⟨w.heap.size, 0, none⟩ = some (.int .i64 a) ∧ w'.cell? ⟨w.heap.size, 1, none⟩ = some (.int .i64 s) ∧ w'.cell? ⟨w.heap.size, 2, none⟩ = some (.int .i64 t) ∧ w'.cell? ⟨w.heap.size, 4, none⟩ = some (.int .i64 k) ∧ w'.cell? ⟨w.heap.size, 5, none⟩ = some (.int .i64 o) ∧ w'.cell? ⟨w.heap.size, 6, none⟩ = some (.int .i64 n) ∧ w'.cell? ⟨w.heap.size, 7, none⟩ = some (.int .i64 u) ∧ w'.cell? ⟨w.heap.size, 8, none⟩ = some (.int .i64 pt) ∧ w'.cell? ⟨w.heap.size, 9, none⟩ = some (.int .i64 pa)) ∧ w'.cell? ⟨w.heap.size, 3, none⟩ = some (.slice da 16 dcap) ∧ w'.cell? ⟨w.heap.size, 10, none⟩ = some (.string ky) ∧ w'.cell? ⟨w.heap.size, 11, none⟩ = some (.string tx)) := fun w' h => by
    obtain ⟨p0, p1, p2, p3, p4, p5, p6, p7, p8, p9, p10, p11⟩ := op_cells h
    exact ⟨⟨p0, p1, p2, p4, p5, p6, p7, p8, p9⟩, p3, p10, p11⟩
  go_enter Tryz.func35, Tryz.ntmps35
  go_wp2_with fail
  go_region_held2 (fun w' => w'.cell? ⟨w.heap.size, 0, none⟩ = some (.int .i64 a) ∧ w'.cell? ⟨w.heap.size, 1, none⟩ = some (.int .i64 s) ∧ w'.cell? ⟨w.heap.size, 2, none⟩ = some (.int .i64 t) ∧ w'.cell? ⟨w.heap.size, 4, none⟩ = some (.int .i64 k) ∧ w'.cell? ⟨w.heap.size, 5, none⟩ = some (.int .i64 o) ∧ w'.cell? ⟨w.heap.size, 6, none⟩ = some (.int .i64 n) ∧ w'.cell? ⟨w.heap.size, 7, none⟩ = some (.int .i64 u) ∧ w'.cell? ⟨w.heap.size, 8, none⟩ = some (.int .i64 pt) ∧ w'.cell? ⟨w.heap.size, 9, none⟩ = some (.int .i64 pa)) (first | exact (HS.out _ (Below.refl _ _).drew).1 | exact (HS.out _ (below_alloc _ _).drew).1 | exact (HS.out _ (below_then (Below.refl _ _).drew _)).1 | exact (HS.out _ (below_then (Below.refl _ _) _)).1) ((go_at_call 58; refine (hsg _).mono ?_; rintro e w5 ⟨rfl, hw5⟩; obtain rfl := hw5.symm))
  clear hsg
  have hB1 : Below (w.alloc (.cells #[.int .i64 a, .int .i64 s, .int .i64 t, .slice da 16 dcap, .int .i64 k, .int .i64 o, .int .i64 n, .int .i64 u, .int .i64 pt, .int .i64 pa, .string ky, .string tx] 29)).heap.size (w.alloc (.cells #[.int .i64 a, .int .i64 s, .int .i64 t, .slice da 16 dcap, .int .i64 k, .int .i64 o, .int .i64 n, .int .i64 u, .int .i64 pt, .int .i64 pa, .string ky, .string tx] 29)) ((w.alloc (.cells #[.int .i64 a, .int .i64 s, .int .i64 t, .slice da 16 dcap, .int .i64 k, .int .i64 o, .int .i64 n, .int .i64 u, .int .i64 pt, .int .i64 pa, .string ky, .string tx] 29)).alloc (.cells #[.int .i64 a, .int .i64 s, .int .i64 t, .int .i64 k, .int .i64 o, .int .i64 ((foldS n : Nat) : Int), .int .i64 u, .int .i64 pt, .int .i64 pa] 3)).drew := (below_then (Below.refl _ _) _).drew
  have hro : Own 3 ((w.alloc (.cells #[.int .i64 a, .int .i64 s, .int .i64 t, .slice da 16 dcap, .int .i64 k, .int .i64 o, .int .i64 n, .int .i64 u, .int .i64 pt, .int .i64 pa, .string ky, .string tx] 29)).alloc (.cells #[.int .i64 a, .int .i64 s, .int .i64 t, .int .i64 k, .int .i64 o, .int .i64 ((foldS n : Nat) : Int), .int .i64 u, .int .i64 pt, .int .i64 pa] 3)).drew (w.heap.size + 1) (.slice (some ⟨w.heap.size + 1, 0, none⟩) 9 9) ([a, s, t, k, o, ((foldS n : Nat) : Int), u, pt, pa].map (Value.int .i64)) := by
    have h : Own 3 ((w.alloc (.cells #[.int .i64 a, .int .i64 s, .int .i64 t, .slice da 16 dcap, .int .i64 k, .int .i64 o, .int .i64 n, .int .i64 u, .int .i64 pt, .int .i64 pa, .string ky, .string tx] 29)).alloc (.cells #[.int .i64 a, .int .i64 s, .int .i64 t, .int .i64 k, .int .i64 o, .int .i64 ((foldS n : Nat) : Int), .int .i64 u, .int .i64 pt, .int .i64 pa] 3)) (w.alloc (.cells #[.int .i64 a, .int .i64 s, .int .i64 t, .slice da 16 dcap, .int .i64 k, .int .i64 o, .int .i64 n, .int .i64 u, .int .i64 pt, .int .i64 pa, .string ky, .string tx] 29)).heap.size (.slice (some ⟨(w.alloc (.cells #[.int .i64 a, .int .i64 s, .int .i64 t, .slice da 16 dcap, .int .i64 k, .int .i64 o, .int .i64 n, .int .i64 u, .int .i64 pt, .int .i64 pa, .string ky, .string tx] 29)).heap.size, 0, none⟩) 9 9) ([a, s, t, k, o, ((foldS n : Nat) : Int), u, pt, pa].map (Value.int .i64)) := own_lit _ 3 _ 9 rfl (by unfold maxLen; omega)
    rw [World.size_alloc] at h
    exact h
  have hrd : Rd C ((w.alloc (.cells #[.int .i64 a, .int .i64 s, .int .i64 t, .slice da 16 dcap, .int .i64 k, .int .i64 o, .int .i64 n, .int .i64 u, .int .i64 pt, .int .i64 pa, .string ky, .string tx] 29)).alloc (.cells #[.int .i64 a, .int .i64 s, .int .i64 t, .int .i64 k, .int .i64 o, .int .i64 ((foldS n : Nat) : Int), .int .i64 u, .int .i64 pt, .int .i64 pa] 3)).drew (.slice da 16 dcap) (ds.map (Value.int .i64)) := hr.below ((below_then (below_alloc _ _) _).drew.mono hC)
  have hss := hB1.size
  rw [World.size_alloc] at hss
  generalize ((w.alloc (.cells #[.int .i64 a, .int .i64 s, .int .i64 t, .slice da 16 dcap, .int .i64 k, .int .i64 o, .int .i64 n, .int .i64 u, .int .i64 pt, .int .i64 pa, .string ky, .string tx] 29)).alloc (.cells #[.int .i64 a, .int .i64 s, .int .i64 t, .int .i64 k, .int .i64 o, .int .i64 ((foldS n : Nat) : Int), .int .i64 u, .int .i64 pt, .int .i64 pa] 3)).drew = w1 at hB1 hro hrd hss ⊢
  have hcx := (HS.out _ hB1).2.1
  obtain ⟨i0, hi, hz0, hz1, hz2⟩ := info_parts info3
  have HNU : Hid ([a, s, t, k, o, ((foldS n : Nat) : Int), u, pt, pa] ++ ds = numsO a s t k o n u pt pa ds) := rfl
  have hbk := hro.lt
  go_wp2_with (at_builtin; refine wpList_append_rd rfl _ _ 23 rfl (w.heap.size + 1) 3 i0 (.int .i64 0) 8 Tryz.underlying23 hi hz0 hz1 hz2 rfl _ _ rfl hro _ _ _ rfl hrd (by simp [Value.oneCell']) (by simp only [List.length_map, h16]; simp [maxLen]) (by simp only [List.length_map, h16]; simp) (by omega) ?_)
  intro v3 w3 ho3 hg3
  replace ho3 : Own 3 w3 (w.heap.size + 1) v3 ((numsO a s t k o n u pt pa ds).map (Value.int .i64)) := ho3
  have hB3 : Below (w.alloc (.cells #[.int .i64 a, .int .i64 s, .int .i64 t, .slice da 16 dcap, .int .i64 k, .int .i64 o, .int .i64 n, .int .i64 u, .int .i64 pt, .int .i64 pa, .string ky, .string tx] 29)).heap.size (w.alloc (.cells #[.int .i64 a, .int .i64 s, .int .i64 t, .slice da 16 dcap, .int .i64 k, .int .i64 o, .int .i64 n, .int .i64 u, .int .i64 pt, .int .i64 pa, .string ky, .string tx] 29)) w3 := hB1.grown hg3 (by rw [World.size_alloc]; omega) (fun kk hk => by rw [World.size_alloc]; exact hbk kk hk)
  clear hro hrd hg3 hbk hcx hss hB1 hr
  generalize hnu : numsO a s t k o n u pt pa ds = NU at ho3 HNU HNL
  have HOB : Hid (opBy a s t k o n u pt pa ky tx ds = putR NU ++ putN [ky, tx] 2) := by unfold Hid opBy; rw [hnu]
  have hok : runsOK NU = true := by rw [← hnu]; exact nums_ok hF
  clear hnu HNU
  have hln : NU.length ≤ 4096 := by rw [HNL.out]; omega
  have hlP := putR_len hok hln
  have hlT := texts2 hF.hky hF.htx
  have htt : tot [ky, tx] 2 ≤ 1048576 := by rw [tot2]; have := hF.hky; have := hF.htx; omega
  have rd3 := ho3.rd
  have HBW : Hid (Below w.heap.size w w3) := below_seq (below_alloc _ _) hB3
  have hB := (Below.refl w3.heap.size w3).drew
  have HC2 : Hid (∀ w', Below w3.heap.size w3 w' → w'.cell? ⟨w.heap.size, 10, none⟩ = some (.string ky) ∧ w'.cell? ⟨w.heap.size, 11, none⟩ = some (.string tx)) := fun w' h => (HS.out w' (below_seq hB3 h)).2.2
  have HK2 : Hid (∀ kk, kk ≤ [ky, tx].length → (kk = [ky, tx].length ∨ 1048576 < (putN [ky, tx] kk).length) → kk = 2) := fun kk h1 h2 => by
    have h3 := putN_mono [ky, tx] (show kk ≤ 2 from h1)
    rcases h2 with h | h
    · exact h
    · omega
  have hpos : 0 < ((putN [ky, tx] 2).map (Value.int .u8)).length := by
    have h1 := putN_mono [ky, tx] (show 0 ≤ 2 by omega)
    have h2 := enc_pos [ky, tx].length
    rw [List.length_map]
    exact Nat.lt_of_lt_of_le h2 h1
  have hmx : ((putR NU).map (Value.int .u8)).length + ((putN [ky, tx] 2).map (Value.int .u8)).length ≤ maxLen := by simp only [List.length_map]; unfold maxLen; omega
  have hby : (((putR NU).map (Value.int .u8)).length + ((putN [ky, tx] 2).map (Value.int .u8)).length) * 1 ≤ 140737488355328 := by simp only [List.length_map]; omega
  obtain ⟨i5, hi5, hy0, hy1, hy2⟩ := info_parts info5
  have hm2 : 2 ≤ maxLen := by unfold maxLen; omega
  clear HS hB3 hF
  go_wp2_with fail
  have hB0 := hB
  refine wp_region_held_drew (S := (fun w' => w'.cell? ⟨w.heap.size, 10, none⟩ = some (.string ky) ∧ w'.cell? ⟨w.heap.size, 11, none⟩ = some (.string tx))) (by kernel_rfl) (HC2.out _ hB) (fun hS => ?_)
  refine wpAnyH_take (i := 0) (v := v3) rfl (by kernel_rfl) (by kernel_rfl) (by kernel_rfl) (fun _ _ _ h => h) (Or.inl ⟨by rfl, by intro w' hSw; go_simp⟩) hS ?_
  simp only [tkS, Act.put]
  refine wpAnyH_take (i := 2) (v := .pointer (some ⟨w.heap.size, 10, none⟩)) rfl (by kernel_rfl) (by kernel_rfl) (by kernel_rfl) (fun _ _ _ h => h) (Or.inl ⟨by rfl, by intro w' hSw; go_simp⟩) hS ?_
  simp only [tkS, Act.put]
  refine wpAnyH_take (i := 3) (v := .string ky) rfl (by kernel_rfl) (by kernel_rfl) (by kernel_rfl) (fun _ _ _ h => h) (Or.inl ⟨by rfl, by intro w' hSw; have h1 := hSw.1; have h2 := hSw.2; clear hSw; go_simp⟩) hS ?_
  simp only [tkS, Act.put]
  refine wpAnyH_take (i := 4) (v := .pointer (some ⟨w.heap.size, 11, none⟩)) rfl (by kernel_rfl) (by kernel_rfl) (by kernel_rfl) (fun _ _ _ h => h) (Or.inl ⟨by rfl, by intro w' hSw; go_simp⟩) hS ?_
  simp only [tkS, Act.put]
  refine wpAnyH_take (i := 5) (v := .string tx) rfl (by kernel_rfl) (by kernel_rfl) (by kernel_rfl) (fun _ _ _ h => h) (Or.inl ⟨by rfl, by intro w' hSw; have h1 := hSw.1; have h2 := hSw.2; clear hSw; go_simp⟩) hS ?_
  simp only [tkS, Act.put]
  refine wpAnyH_ready (rs := [1, 6]) (by kernel_rfl) (by simp) ?_
  refine AllReadyH.cons rfl (fun K hK => ?wayA) (AllReadyH.cons rfl (fun K hK => ?wayB) AllReadyH.nil)
  case' wayA =>
    go_simp
    refine (l01PutRuns_any w3.heap.size _ _ NU hln hok hB.size (rd3.below hB)).mono ?_
    rintro e w4 ⟨r4, rfl, ho4, hb4⟩
    replace ho4 := ho4.mono hB.size
    replace hB := below_seq hB hb4
    go_wp2_with fail
    refine hK.out _ _ (HC2.out _ hB) (fun hS => ?_)
    clear hK K
    refine wpAnyH_ready (rs := [6]) (by kernel_rfl) (by simp) ?_
    refine AllReadyH.cons rfl (fun K hK => ?_) AllReadyH.nil
    go_simp
    refine hK.out _ _ (HC2.out _ (below_then hB _)) (fun hS => ?_)
    clear hK K
    replace ho4 := ownAllocB ho4 (.cells #[.string ky, .string tx] 9)
    replace hB := below_then hB (.cells #[.string ky, .string tx] 9)
    refine wpAnyH_ready (rs := [7]) (by kernel_rfl) (by simp) ?_
    refine AllReadyH.cons rfl (fun K hK => ?_) AllReadyH.nil
    go_simp
    refine (l01PutTexts_any _ _ _ [ky, tx] (by simp) htt (Nat.le_refl _) (rdTexts w4 ky tx)).mono ?_
    rintro e w5 ⟨r5, k5, rfl, hk5, ho5, hk5', hb5⟩
    obtain rfl := HK2.out k5 hk5 hk5'
    replace hB := below_seq hB hb5
    go_wp2_with fail
    refine hK.out _ _ (HC2.out _ hB) (fun hS => ?_)
    clear hK K
    replace ho4 := Own.below ho4 hb5 (Nat.le_refl _)
  case' wayB =>
    go_simp
    refine hK.out _ _ (HC2.out _ (below_then hB _)) (fun hS => ?_)
    clear hK K
    replace hB := below_then hB (.cells #[.string ky, .string tx] 9)
    refine wpAnyH_ready (rs := [1]) (by kernel_rfl) (by simp) ?_
    refine AllReadyH.cons rfl (fun K hK => ?_) AllReadyH.nil
    go_simp
    refine (l01PutRuns_any w3.heap.size _ _ NU hln hok hB.size (rd3.below hB)).mono ?_
    rintro e w4 ⟨r4, rfl, ho4, hb4⟩
    replace ho4 := ho4.mono hB.size
    replace hB := below_seq hB hb4
    go_wp2_with fail
    refine hK.out _ _ (HC2.out _ hB) (fun hS => ?_)
    clear hK K
    refine wpAnyH_ready (rs := [7]) (by kernel_rfl) (by simp) ?_
    refine AllReadyH.cons rfl (fun K hK => ?_) AllReadyH.nil
    go_simp
    refine (l01PutTexts_any _ _ _ [ky, tx] (by simp) htt (Nat.le_refl _) ((rdTexts_on hb4).mono hb4.size)).mono ?_
    rintro e w5 ⟨r5, k5, rfl, hk5, ho5, hk5', hb5⟩
    obtain rfl := HK2.out k5 hk5 hk5'
    replace hB := below_seq hB hb5
    go_wp2_with fail
    refine hK.out _ _ (HC2.out _ hB) (fun hS => ?_)
    clear hK K
    replace ho4 := Own.below ho4 hb5 (Nat.le_refl _)
  all_goals
    refine wpAnyH_ready (rs := [8]) (by kernel_rfl) (by simp) ?_
    refine AllReadyH.cons rfl (fun K hK => ?_) AllReadyH.nil
    refine step_append_rd rfl (.tmp 32) (.tmp 38) 22 rfl w3.heap.size 5 i5 (.int .u8 0) 1 Tryz.underlying22 hi5 hy0 hy1 hy2 rfl _ _ rfl ho4 _ _ ((putN [ky, tx] 2).map (Value.int .u8)) rfl ho5.rd hpos (ints_oneCell _ _) hmx hby hB.size ?_
    intro v7 w7 ho7 hg7
    have hbk7 := ho4.lt
    replace hB := hB.grown hg7 hB.size hbk7
    refine hK.out _ _ (HC2.out _ hB) (fun hS => ?_)
    clear hK K
    simp only [tkS, Act.put]
    refine wpAnyH_ready (rs := [9]) (by kernel_rfl) (by simp) ?_
    refine AllReadyH.cons rfl (fun K hK => ?_) AllReadyH.nil
    go_simp
    refine hK.out _ _ (HC2.out _ hB) (fun hS => ?_)
    clear hK K
    refine wpAnyH_done (by kernel_rfl) ?_ _
    go_wp2_with fail
    go_ret
    refine ⟨_, rfl, ?_, below_seq HBW.out hB⟩
    rw [HOB.out, List.map_append]
    exact ho7.mono HBW.out.size

/-- What OpBytes answers: the bytes, and the code. -/
def opByB (a s t k o n u pt pa : Int) (ky tx : ByteArray) (ds : List Int) : List Int := if opB a s t k o n u pt pa ky tx ds = true then opBy a s t k o n u pt pa ky tx ds else []
def opByC (a s t k o n u pt pa : Int) (ky tx : ByteArray) (ds : List Int) : Int := if opB a s t k o n u pt pa ky tx ds = true then 0 else 1
theorem opByB_len (a s t k o n u pt pa : Int) (ky tx : ByteArray) (ds : List Int) : (opByB a s t k o n u pt pa ky tx ds).length ≤ 1250 := by
  unfold opByB
  split
  · rename_i h; exact opBy_len (op_facts h)
  · simp
theorem range_op {w w1 : World} {c0 c1 c2 c3 c4 c5 c6 c7 c8 c9 c10 c11 : Value} {T : TypeId} (h : Below (w.alloc (.cells #[c0, c1, c2, c3, c4, c5, c6, c7, c8, c9, c10, c11] T)).heap.size (w.alloc (.cells #[c0, c1, c2, c3, c4, c5, c6, c7, c8, c9, c10, c11] T)) w1) : w1.rangeAt w.heap.size 0 [c0, c1, c2, c3, c4, c5, c6, c7, c8, c9, c10, c11] := by
  obtain ⟨p0, p1, p2, p3, p4, p5, p6, p7, p8, p9, p10, p11⟩ := op_cells h
  exact range12 p0 p1 p2 p3 p4 p5 p6 p7 p8 p9 p10 p11

end Go.Proofs.YtmmkmkaannlkhaaGreatDoor

namespace Go.Proofs.YtmmkmkaannlkhaaGreatDoor
open Go.RowKit
set_option linter.unusedVariables false

/-- The record of some bytes. -/
def recOf (ys : List Int) : List Int := enc ys.length ++ ys ++ four (sumF 2166136261 ys)
theorem recOf_len {ys : List Int} (h : ys.length ≤ 1250) : (recOf ys).length ≤ 1264 := by
  unfold recOf
  have h1 := enc_len (n := ys.length) (by omega)
  have h2 : (four (sumF 2166136261 ys)).length = 4 := rfl
  simp only [List.length_append]
  omega
theorem recOf_byte {ys : List Int} (h : ∀ c ∈ ys, 0 ≤ c ∧ c ≤ 255) : ∀ c ∈ recOf ys, 0 ≤ c ∧ c ≤ 255 := by
  intro c hc
  unfold recOf at hc
  rcases List.mem_append.1 hc with h1 | h1
  · rcases List.mem_append.1 h1 with h2 | h2
    · exact enc_byte _ c h2
    · exact h c h2
  · exact four_bytes (sumF_lt ys (by decide)) c h1
/-- What RecordBytes answers: the bytes, and the code is OpBytes' own. -/
def recByB (a s t k o n u pt pa : Int) (ky tx : ByteArray) (ds : List Int) : List Int := if opB a s t k o n u pt pa ky tx ds = true then recOf (opBy a s t k o n u pt pa ky tx ds) else []
theorem recByB_len (a s t k o n u pt pa : Int) (ky tx : ByteArray) (ds : List Int) : (recByB a s t k o n u pt pa ky tx ds).length ≤ 1264 := by
  unfold recByB
  split
  · rename_i h; exact recOf_len (opBy_len (op_facts h))
  · simp

set_option maxHeartbeats 2000000 in
set_option maxRecDepth 100000 in
theorem recordBytes_any (C : Nat) (a s t k o n u pt pa : Int) (dv : Value) (ky tx : ByteArray) (ds : List Int) (w : World) (hC : C ≤ w.heap.size) (hF : OpFacts a s t k o n u pt pa ky tx ds) (hr : Rd C w dv (ds.map (Value.int .i64))) :
    Calls Tryz.prog 11 #[.agg #[.int .i64 a, .int .i64 s, .int .i64 t, dv, .int .i64 k, .int .i64 o, .int .i64 n, .int .i64 u, .int .i64 pt, .int .i64 pa, .string ky, .string tx]] w fun e w' => ∃ r, e = .returned r ∧ Own 5 w' w.heap.size r ((recOf (opBy a s t k o n u pt pa ky tx ds)).map (Value.int .u8)) ∧ Below w.heap.size w w' := by
  obtain ⟨i5, hi5, hy0, hy1, hy2⟩ := info_parts info5
  have hB0 := below_alloc w (.cells #[.int .i64 a, .int .i64 s, .int .i64 t, dv, .int .i64 k, .int .i64 o, .int .i64 n, .int .i64 u, .int .i64 pt, .int .i64 pa, .string ky, .string tx] 29)
  have hr0 := range_op (Below.refl (w.alloc (.cells #[.int .i64 a, .int .i64 s, .int .i64 t, dv, .int .i64 k, .int .i64 o, .int .i64 n, .int .i64 u, .int .i64 pt, .int .i64 pa, .string ky, .string tx] 29)).heap.size (w.alloc (.cells #[.int .i64 a, .int .i64 s, .int .i64 t, dv, .int .i64 k, .int .i64 o, .int .i64 n, .int .i64 u, .int .i64 pt, .int .i64 pa, .string ky, .string tx] 29)))
  have hby := opBytes_any C a s t k o n u pt pa dv ky tx ds (w.alloc (.cells #[.int .i64 a, .int .i64 s, .int .i64 t, dv, .int .i64 k, .int .i64 o, .int .i64 n, .int .i64 u, .int .i64 pt, .int .i64 pa, .string ky, .string tx] 29)) (by have := hB0.size; omega) hF (hr.below (hB0.mono hC))
  have hlen := opBy_len hF
  have hbt := opBy_byte a s t k o n u pt pa ky tx ds
  generalize opBy a s t k o n u pt pa ky tx ds = ys at *
  clear hr hF
  go_enter Tryz.func11, Tryz.ntmps11
  go_wp2_with (refine wpList_load_mid rfl 29 _ rfl w.heap.size 0 rfl _ _ hr0 Tryz.underlying29 rfl info12 ?_)
  refine hby.mono ?_
  rintro e w1 ⟨r1, rfl, ho1, hb1⟩
  have hB1 := below_seq hB0 hb1
  have rd1 := ho1.rd
  have hs1 := hB1.size
  clear hr0 hB0 hb1 hby ho1
  obtain ⟨x1, c1, hx1⟩ : ∃ x1 c1, r1 = .slice x1 ys.length c1 := by
    obtain ⟨ao, cap, e, _⟩ := rd1
    exact ⟨ao, cap, by rw [e, List.length_map]⟩
  subst hx1
  have hap := appendInt_any w1.heap.size w1 (.slice none 0 0) [] ys.length (by omega) (by simp) (Nat.le_refl _) (World.ownsRow_nil _ _ _ _)
  rw [List.nil_append] at hap
  have hel := enc_len (n := ys.length) (by omega)
  go_wp2_with fail
  refine hap.mono ?_
  rintro e w2 ⟨r2, rfl, ho2, hb2⟩
  have rd2 := rd1.below hb2
  have hz2 := hb2.size
  clear hap rd1
  go_wp2_with (at_builtin; refine wpList_append_rd rfl _ _ 22 rfl w1.heap.size 5 i5 (.int .u8 0) 1 Tryz.underlying22 hi5 hy0 hy1 hy2 rfl _ _ rfl ho2 _ _ _ rfl rd2 (by simp [Value.oneCell']) (by simp only [List.length_map]; unfold maxLen; omega) (by simp only [List.length_map]; omega) hz2 ?_)
  intro v3 w3 ho3 hg3
  have hb3 := hb2.grown hg3 hz2 ho2.lt
  have rd3 := rd2.grown hg3 ho2.lt
  rw [← List.map_append] at ho3
  clear ho2 rd2 hg3
  have hsu := sumOn_any _ w3 _ ys 2166136261 (by omega) hbt (by omega) rd3
  have hsl := sumF_lt ys (h := 2166136261) (by omega)
  have has := appendSum_any w1.heap.size w3 v3 (enc ys.length ++ ys) (sumF 2166136261 ys) hsl (by simp only [List.length_append]; omega) hb3.size ho3
  have HRO : Hid (recOf ys = enc ys.length ++ ys ++ four (sumF 2166136261 ys)) := rfl
  rw [← HRO.out] at has
  generalize sumF 2166136261 ys = S at hsu has
  clear HRO hsl ho3
  go_wp2_with fail
  refine hsu.mono ?_
  rintro e w4 ⟨rfl, hw4⟩
  obtain rfl := hw4.symm
  go_wp2_with fail
  refine has.mono ?_
  rintro e w5 ⟨r5, rfl, ho5, hb5⟩
  go_wp2_with fail
  go_ret
  exact ⟨_, rfl, ho5.mono hs1, below_seq hB1 (hb3.trans hb5)⟩

set_option maxHeartbeats 2000000 in
set_option maxRecDepth 100000 in
theorem l13Bytes_any (C : Nat) (a s t k o n u pt pa : Int) (dv : Value) (ky tx : ByteArray) (ds : List Int) (w : World) (hC : C ≤ w.heap.size) (hF : OpFacts a s t k o n u pt pa ky tx ds) (hr : Rd C w dv (ds.map (Value.int .i64))) :
    Calls Tryz.prog 13 #[.agg #[.int .i64 a, .int .i64 s, .int .i64 t, dv, .int .i64 k, .int .i64 o, .int .i64 n, .int .i64 u, .int .i64 pt, .int .i64 pa, .string ky, .string tx]] w fun e w' => ∃ r, e = .returned r ∧ Own 5 w' w.heap.size r ((recOf (opBy a s t k o n u pt pa ky tx ds)).map (Value.int .u8)) ∧ Below w.heap.size w w' := by
  obtain ⟨i5, hi5, hy0, hy1, hy2⟩ := info_parts info5
  have hB0 := below_alloc w (.cells #[.int .i64 a, .int .i64 s, .int .i64 t, dv, .int .i64 k, .int .i64 o, .int .i64 n, .int .i64 u, .int .i64 pt, .int .i64 pa, .string ky, .string tx] 29)
  have hr0 := range_op (Below.refl (w.alloc (.cells #[.int .i64 a, .int .i64 s, .int .i64 t, dv, .int .i64 k, .int .i64 o, .int .i64 n, .int .i64 u, .int .i64 pt, .int .i64 pa, .string ky, .string tx] 29)).heap.size (w.alloc (.cells #[.int .i64 a, .int .i64 s, .int .i64 t, dv, .int .i64 k, .int .i64 o, .int .i64 n, .int .i64 u, .int .i64 pt, .int .i64 pa, .string ky, .string tx] 29)))
  have hby := l12Bytes_any C a s t k o n u pt pa dv ky tx ds (w.alloc (.cells #[.int .i64 a, .int .i64 s, .int .i64 t, dv, .int .i64 k, .int .i64 o, .int .i64 n, .int .i64 u, .int .i64 pt, .int .i64 pa, .string ky, .string tx] 29)) (by have := hB0.size; omega) hF (hr.below (hB0.mono hC))
  have hlen := opBy_len hF
  have hbt := opBy_byte a s t k o n u pt pa ky tx ds
  generalize opBy a s t k o n u pt pa ky tx ds = ys at *
  clear hr hF
  go_enter Tryz.func13, Tryz.ntmps13
  go_wp2_with (refine wpList_load_mid rfl 29 _ rfl w.heap.size 0 rfl _ _ hr0 Tryz.underlying29 rfl info12 ?_)
  refine hby.mono ?_
  rintro e w1 ⟨r1, rfl, ho1, hb1⟩
  have hB1 := below_seq hB0 hb1
  have rd1 := ho1.rd
  have hs1 := hB1.size
  clear hr0 hB0 hb1 hby ho1
  obtain ⟨x1, c1, hx1⟩ : ∃ x1 c1, r1 = .slice x1 ys.length c1 := by
    obtain ⟨ao, cap, e, _⟩ := rd1
    exact ⟨ao, cap, by rw [e, List.length_map]⟩
  subst hx1
  have hap := l01Put_any ys.length ys.length w1 (Nat.le_refl _) (by omega)
  have hel := enc_len (n := ys.length) (by omega)
  go_wp2_with fail
  refine hap.mono ?_
  rintro e w2 ⟨r2, rfl, ho2, hb2⟩
  have rd2 := rd1.below hb2
  have hz2 := hb2.size
  clear hap rd1
  go_wp2_with (at_builtin; refine wpList_append_rd rfl _ _ 22 rfl w1.heap.size 5 i5 (.int .u8 0) 1 Tryz.underlying22 hi5 hy0 hy1 hy2 rfl _ _ rfl ho2 _ _ _ rfl rd2 (by simp [Value.oneCell']) (by simp only [List.length_map]; unfold maxLen; omega) (by simp only [List.length_map]; omega) hz2 ?_)
  intro v3 w3 ho3 hg3
  have hb3 := hb2.grown hg3 hz2 ho2.lt
  have rd3 := rd2.grown hg3 ho2.lt
  rw [← List.map_append] at ho3
  clear ho2 rd2 hg3
  have hsu := sum32_any _ w3 _ ys hbt (by omega) rd3
  have hsl := sumF_lt ys (h := 2166136261) (by omega)
  have HRO : Hid (recOf ys = enc ys.length ++ ys ++ four (sumF 2166136261 ys)) := rfl
  generalize sumF 2166136261 ys = S at hsu hsl HRO
  go_wp2_with fail
  refine hsu.mono ?_
  rintro e w4 ⟨rfl, hw4⟩
  obtain rfl := hw4.symm
  have hfo := l01Four_any S hsl w3
  clear hsu
  go_wp2_with fail
  refine hfo.mono ?_
  rintro e w5 ⟨r5, rfl, ho5, hb5⟩
  have hz3 := hb3.size
  have ho3' := ho3.below hb5 (Nat.le_refl _)
  have hB5 := hb3.trans (hb5.mono hz3)
  have hlf : (four S).length = 4 := rfl
  clear hfo ho3 hb5
  go_wp2_with (at_builtin; refine wpList_append_rd rfl _ _ 22 rfl w1.heap.size 5 i5 (.int .u8 0) 1 Tryz.underlying22 hi5 hy0 hy1 hy2 rfl _ _ rfl ho3' _ _ _ rfl ho5.rd (by simp [Value.oneCell']) (by simp only [List.length_map]; simp only [List.length_append]; unfold maxLen; omega) (by simp only [List.length_map, List.length_append]; omega) hB5.size ?_)
  intro v6 w6 ho6 hg6
  have hb6 := hB5.grown hg6 hB5.size ho3'.lt
  have ho7 : Own 5 w6 w1.heap.size v6 ((recOf ys).map (Value.int .u8)) := by
    rw [HRO.out]
    simpa using ho6
  go_wp2_with fail
  go_ret
  exact ⟨_, rfl, ho7.mono hs1, below_seq hB1 hb6⟩
end Go.Proofs.YtmmkmkaannlkhaaGreatDoor

namespace Go.Proofs.YtmmkmkaannlkhaaGreatDoor
open Go.RowKit
set_option linter.unusedVariables false

end Go.Proofs.YtmmkmkaannlkhaaGreatDoor

namespace Go.Proofs.YtmmkmkaannlkhaaGreatDoor
open Go.RowKit
set_option linter.unusedVariables false

set_option maxHeartbeats 2000000 in
set_option maxRecDepth 100000 in
theorem implRecordBytes_any (C : Nat) (a s t k o n u pt pa : Int) (dv : Value) (ky tx : ByteArray) (ds : List Int) (w : World) (hC : C ≤ w.heap.size) (hr : Rd C w dv (ds.map (Value.int .i64))) :
    Calls Tryz.prog 5 #[.agg #[.int .i64 a, .int .i64 s, .int .i64 t, dv, .int .i64 k, .int .i64 o, .int .i64 n, .int .i64 u, .int .i64 pt, .int .i64 pa, .string ky, .string tx]] w fun e w' => ∃ r, e = .returned (.tuple #[r, .int .i64 (opByC a s t k o n u pt pa ky tx ds)]) ∧ Own 5 w' w.heap.size r ((recByB a s t k o n u pt pa ky tx ds).map (Value.int .u8)) ∧ Below w.heap.size w w' := by
  have hB0 := below_alloc w (.cells #[.int .i64 a, .int .i64 s, .int .i64 t, dv, .int .i64 k, .int .i64 o, .int .i64 n, .int .i64 u, .int .i64 pt, .int .i64 pa, .string ky, .string tx] 29)
  have hr0 := range_op (Below.refl (w.alloc (.cells #[.int .i64 a, .int .i64 s, .int .i64 t, dv, .int .i64 k, .int .i64 o, .int .i64 n, .int .i64 u, .int .i64 pt, .int .i64 pa, .string ky, .string tx] 29)).heap.size (w.alloc (.cells #[.int .i64 a, .int .i64 s, .int .i64 t, dv, .int .i64 k, .int .i64 o, .int .i64 n, .int .i64 u, .int .i64 pt, .int .i64 pa, .string ky, .string tx] 29)))
  have hok := opOK_any C a s t k o n u pt pa dv ky tx ds (w.alloc (.cells #[.int .i64 a, .int .i64 s, .int .i64 t, dv, .int .i64 k, .int .i64 o, .int .i64 n, .int .i64 u, .int .i64 pt, .int .i64 pa, .string ky, .string tx] 29)) (by have := hB0.size; omega) (hr.below (hB0.mono hC))
  obtain ⟨b, hb⟩ : ∃ b, opB a s t k o n u pt pa ky tx ds = b := ⟨_, rfl⟩
  have HBB : Hid (opByC a s t k o n u pt pa ky tx ds = (if b = true then 0 else 1) ∧ recByB a s t k o n u pt pa ky tx ds = (if b = true then recOf (opBy a s t k o n u pt pa ky tx ds) else [])) := by
    unfold Hid opByC recByB
    rw [hb]
    exact ⟨rfl, rfl⟩
  rw [hb] at hok
  have HF : Hid (b = true → OpFacts a s t k o n u pt pa ky tx ds) := fun h => op_facts (hb.trans h)
  clear hb
  go_enter Tryz.func5, Tryz.ntmps5
  go_wp2_with (refine wpList_load_mid rfl 29 _ rfl w.heap.size 0 rfl _ _ hr0 Tryz.underlying29 rfl info12 ?_)
  refine hok.mono ?_
  rintro e w1 ⟨rfl, hb1⟩
  have hr1 := range_op hb1
  have hB1 := below_seq hB0 hb1
  have hs1 := hB1.size
  clear hr0 hB0 hb1 hok
  cases b with
  | true =>
    have hby := recordBytes_any C a s t k o n u pt pa dv ky tx ds w1 (by omega) (HF.out rfl) (hr.below (hB1.mono hC))
    obtain ⟨E1, E2⟩ := HBB.out
    rw [if_pos rfl] at E1 E2
    have HE1 : Hid _ := E1
    have HE2 : Hid _ := E2
    clear E1 E2 HBB HF hr
    go_wp2_with (refine wpList_load_mid rfl 29 _ rfl w.heap.size 0 rfl _ _ hr1 Tryz.underlying29 rfl info12 ?_)
    refine hby.mono ?_
    rintro e w2 ⟨r2, rfl, ho2, hb2⟩
    clear hr1 hby
    go_wp2_with fail
    go_ret2
    exact ⟨_, by rw [HE1.out]; rfl, by rw [HE2.out]; exact ho2.mono hs1, below_seq hB1 hb2⟩
  | false =>
    obtain ⟨E1, E2⟩ := HBB.out
    rw [if_neg (by decide)] at E1 E2
    have HE1 : Hid _ := E1
    have HE2 : Hid _ := E2
    clear E1 E2 HBB HF hr hr1
    go_wp2_with fail
    go_ret2
    exact ⟨_, by rw [HE1.out]; rfl, by rw [HE2.out]; exact World.ownsRow_nil _ _ _ _, hB1⟩

set_option maxHeartbeats 2000000 in
set_option maxRecDepth 100000 in
theorem specRecordBytes_any (C : Nat) (a s t k o n u pt pa : Int) (dv : Value) (ky tx : ByteArray) (ds : List Int) (w : World) (hC : C ≤ w.heap.size) (hr : Rd C w dv (ds.map (Value.int .i64))) :
    Calls Tryz.prog 6 #[.agg #[.int .i64 a, .int .i64 s, .int .i64 t, dv, .int .i64 k, .int .i64 o, .int .i64 n, .int .i64 u, .int .i64 pt, .int .i64 pa, .string ky, .string tx]] w fun e w' => ∃ r, e = .returned (.tuple #[r, .int .i64 (opByC a s t k o n u pt pa ky tx ds)]) ∧ Own 5 w' w.heap.size r ((recByB a s t k o n u pt pa ky tx ds).map (Value.int .u8)) ∧ Below w.heap.size w w' := by
  have hB0 := below_alloc w (.cells #[.int .i64 a, .int .i64 s, .int .i64 t, dv, .int .i64 k, .int .i64 o, .int .i64 n, .int .i64 u, .int .i64 pt, .int .i64 pa, .string ky, .string tx] 29)
  have hr0 := range_op (Below.refl (w.alloc (.cells #[.int .i64 a, .int .i64 s, .int .i64 t, dv, .int .i64 k, .int .i64 o, .int .i64 n, .int .i64 u, .int .i64 pt, .int .i64 pa, .string ky, .string tx] 29)).heap.size (w.alloc (.cells #[.int .i64 a, .int .i64 s, .int .i64 t, dv, .int .i64 k, .int .i64 o, .int .i64 n, .int .i64 u, .int .i64 pt, .int .i64 pa, .string ky, .string tx] 29)))
  have hok := specOpOK_any C a s t k o n u pt pa dv ky tx ds (w.alloc (.cells #[.int .i64 a, .int .i64 s, .int .i64 t, dv, .int .i64 k, .int .i64 o, .int .i64 n, .int .i64 u, .int .i64 pt, .int .i64 pa, .string ky, .string tx] 29)) (by have := hB0.size; omega) (hr.below (hB0.mono hC))
  obtain ⟨b, hb⟩ : ∃ b, opB a s t k o n u pt pa ky tx ds = b := ⟨_, rfl⟩
  have HBB : Hid (opByC a s t k o n u pt pa ky tx ds = (if b = true then 0 else 1) ∧ recByB a s t k o n u pt pa ky tx ds = (if b = true then recOf (opBy a s t k o n u pt pa ky tx ds) else [])) := by
    unfold Hid opByC recByB
    rw [hb]
    exact ⟨rfl, rfl⟩
  rw [hb] at hok
  have HF : Hid (b = true → OpFacts a s t k o n u pt pa ky tx ds) := fun h => op_facts (hb.trans h)
  clear hb
  go_enter Tryz.func6, Tryz.ntmps6
  go_wp2_with (refine wpList_load_mid rfl 29 _ rfl w.heap.size 0 rfl _ _ hr0 Tryz.underlying29 rfl info12 ?_)
  refine hok.mono ?_
  rintro e w1 ⟨rfl, hb1⟩
  have hr1 := range_op hb1
  have hB1 := below_seq hB0 hb1
  have hs1 := hB1.size
  clear hr0 hB0 hb1 hok
  cases b with
  | true =>
    have hby := l13Bytes_any C a s t k o n u pt pa dv ky tx ds w1 (by omega) (HF.out rfl) (hr.below (hB1.mono hC))
    obtain ⟨E1, E2⟩ := HBB.out
    rw [if_pos rfl] at E1 E2
    have HE1 : Hid _ := E1
    have HE2 : Hid _ := E2
    clear E1 E2 HBB HF hr
    go_wp2_with (refine wpList_load_mid rfl 29 _ rfl w.heap.size 0 rfl _ _ hr1 Tryz.underlying29 rfl info12 ?_)
    refine hby.mono ?_
    rintro e w2 ⟨r2, rfl, ho2, hb2⟩
    clear hr1 hby
    go_wp2_with fail
    go_ret2
    exact ⟨_, by rw [HE1.out]; rfl, by rw [HE2.out]; exact ho2.mono hs1, below_seq hB1 hb2⟩
  | false =>
    obtain ⟨E1, E2⟩ := HBB.out
    rw [if_neg (by decide)] at E1 E2
    have HE1 : Hid _ := E1
    have HE2 : Hid _ := E2
    clear E1 E2 HBB HF hr hr1
    go_wp2_with fail
    go_ret2
    exact ⟨_, by rw [HE1.out]; rfl, by rw [HE2.out]; exact (own_lit w1 5 [] 0 rfl (Nat.zero_le _)).mono hs1, below_then hB1 _⟩
end Go.Proofs.YtmmkmkaannlkhaaGreatDoor
