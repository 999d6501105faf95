/- The code's columns, written: encode of a column of numbers, of texts. The code's opBytes and OpBytes. -/
import Derived.Test.YtmmkmkaannlkhaaGreatDoorQOpNumsToRdCut
import Derived.Test.YtmmkmkaannlkhaaGreatDoorQOpByMathToTreeMath
import Derived.Test.YtmmkmkaannlkhaaGreatDoorQStampLessWalkToStampNextMax
import Derived.Test.YtmmkmkaannlkhaaGreatDoorQTextsToBackRuns
import Derived.Test.YtmmkmkaannlkhaaGreatDoorQTakeKitToBigKit
import Derived.Test.YtmmkmkaannlkhaaGreatDoorQOpOKToUndoDef
namespace Go.Proofs.YtmmkmkaannlkhaaGreatDoor
open Go.RowKit
set_option linter.unusedVariables false

end Go.Proofs.YtmmkmkaannlkhaaGreatDoor

namespace Go.Proofs.YtmmkmkaannlkhaaGreatDoor
open Go.RowKit
set_option linter.unusedVariables false

theorem nums_snoc {L : List Int} {j : Nat} (h : j < L.length) : L.take (j + 1) = L.take j ++ [nth L j] := by
  rw [List.take_succ_eq_append_getElem h, nth_get h]

set_option maxHeartbeats 4000000 in
set_option maxRecDepth 100000 in
theorem opBytes_any (C : Nat) (a s t k o n u pt pa : Int) (dv : Value) (ky tx : ByteArray) (ds : List Int) (w : World) (hC : C ≤ w.heap.size) (hF : OpFacts a s t k o n u pt pa ky tx ds) (hr : Rd C w dv (ds.map (Value.int .i64))) :
    Calls Tryz.prog 25 #[.agg #[.int .i64 a, .int .i64 s, .int .i64 t, dv, .int .i64 k, .int .i64 o, .int .i64 n, .int .i64 u, .int .i64 pt, .int .i64 pa, .string ky, .string tx]] w fun e w' => ∃ r, e = .returned r ∧ Own 5 w' w.heap.size r ((opBy a s t k o n u pt pa ky tx ds).map (Value.int .u8)) ∧ Below w.heap.size w w' := by
  obtain ⟨i0, hi, hz0, hz1, hz2⟩ := info_parts info3
  obtain ⟨h16, hdd⟩ := vecOK_get hF.hds
  obtain ⟨ao, dcap, rfl, hcap, hmax, hnil, hrow⟩ := hr
  rw [List.length_map, h16] at hcap hrow ⊢
  obtain ⟨dg, doff, rfl, hdg, hdc⟩ := hrow (by omega)
  clear hnil hrow
  have hn1 := hF.hn
  have hfs := foldSign_any n (w.alloc (.cells #[.int .i64 a, .int .i64 s, .int .i64 t, .slice (some ⟨dg, doff, none⟩) 16 dcap, .int .i64 k, .int .i64 o, .int .i64 n, .int .i64 u, .int .i64 pt, .int .i64 pa, .string ky, .string tx] 29)) (by omega) (by omega)
  have HNL : Hid ((numsO a s t k o n u pt pa ds).length = 25) := nums_len h16
  obtain ⟨HA1, HA2⟩ := nums_ans hF
  have HB1 : Hid _ := HA1
  have HT : Hid _ := texts2_ans hF.hky hF.htx
  clear HA1 HA2
  go_enter Tryz.func25, Tryz.ntmps25
  go_wp2_with fail
  refine hfs.mono ?_
  rintro e w1 ⟨rfl, rfl⟩
  go_wp2_with fail
  refine (opNumbers_any _).mono ?_
  rintro e w2 ⟨r2, ks, rfl, hkl, ho2, hA2, hb2⟩
  have HKL : Hid (ks.length = 16) := hkl
  clear hkl hfs
  have hbw : Below w.heap.size w w2 := below_seq (below_alloc _ _) hb2
  have hs2 := hb2.size
  rw [World.size_alloc] at hs2
  obtain ⟨p0, p1, p2, p3, p4, p5, p6, p7, p8, p9, p10, p11⟩ := op_cells hb2
  have HP : Hid (∀ wr, Below w2.heap.size w2 wr → (wr.cell? ⟨w.heap.size, 0, none⟩ = some (.int .i64 a) ∧ wr.cell? ⟨w.heap.size, 1, none⟩ = some (.int .i64 s) ∧ wr.cell? ⟨w.heap.size, 2, none⟩ = some (.int .i64 t) ∧ wr.cell? ⟨w.heap.size, 4, none⟩ = some (.int .i64 k) ∧ wr.cell? ⟨w.heap.size, 5, none⟩ = some (.int .i64 o) ∧ wr.cell? ⟨w.heap.size, 6, none⟩ = some (.int .i64 ((foldS n : Nat) : Int)) ∧ wr.cell? ⟨w.heap.size, 7, none⟩ = some (.int .i64 u) ∧ wr.cell? ⟨w.heap.size, 8, none⟩ = some (.int .i64 pt) ∧ wr.cell? ⟨w.heap.size, 9, none⟩ = some (.int .i64 pa)) ∧ wr.cell? ⟨w.heap.size, 3, none⟩ = some (.slice (some ⟨dg, doff, none⟩) 16 dcap) ∧ wr.cell? ⟨w.heap.size, 10, none⟩ = some (.string ky) ∧ wr.cell? ⟨w.heap.size, 11, none⟩ = some (.string tx)) := fun wr h => by
    obtain ⟨p0, p1, p2, p3, p4, p5, p6, p7, p8, p9, p10, p11⟩ := op_cells (below_seq hb2 h)
    exact ⟨⟨p0, p1, p2, p4, p5, p6, p7, p8, p9⟩, p3, p10, p11⟩
  have HDC : Hid (∀ wr, Below w2.heap.size w2 wr → ∀ j, j < 16 → wr.cell? ⟨dg, doff + j, none⟩ = some (.int .i64 (nth ds j))) := fun wr h j hj => by
    have h1 := (below_seq hbw h).cell (p := ⟨dg, doff + j, none⟩) (show dg < w.heap.size by omega)
    rw [h1, hdc j (.int .i64 (nth ds j)) (by simp [nth, show j < ds.length by omega])]
  clear hdc p0 p1 p2 p3 p4 p5 p6 p7 p8 p9 p10 p11
  have hln2 : (plainF ++ ks.map cntF).length = 25 := by rw [List.length_append, List.length_map, HKL.out]; rfl
  obtain ⟨fg, fcap, e, hf1, hf2, hfc⟩ := ho2.some (by rw [hln2]; omega)
  rw [hln2] at e
  subst e
  have HFC : Hid (∀ wr, Below w2.heap.size w2 wr → ∀ j v, (plainF ++ ks.map cntF)[j]? = some v → wr.cell? ⟨fg, j, none⟩ = some v) := fun wr h j v hv => by
    have h1 := hfc j v hv
    rw [Addr.add_lit, Nat.zero_add] at h1
    rw [h.cell (p := ⟨fg, j, none⟩) hf2]
    exact h1
  have HAC : Hid (∀ wr, Below w2.heap.size w2 wr → ∀ (j kk : Nat), ks[j]? = some kk → wr.cell? ⟨kk, 0, none⟩ = some (.int .i64 (j : Int))) := fun wr h j kk hv => by
    obtain ⟨h1, h2⟩ := hA2 j kk hv
    have hlk := (Array.getElem?_eq_some_iff.1 h2).1
    rw [h.cell (p := ⟨kk, 0, none⟩) hlk]
    simp [World.cell?, h2]
  clear hfc ho2 hA2 hb2 hln2 hdg hC
  generalize hnu : numsO a s t k o n u pt pa ds = NU at HNL HB1
  have HNU : Hid (numsO a s t k o n u pt pa ds = NU) := hnu
  clear hnu
  go_wp2_with fail
  go_loopw [3, 16] (fun tv ti wr => ∃ j : Nat, j ≤ 25 ∧ ti = .int .i64 (j : Int) ∧ Own 3 wr w2.heap.size tv ((NU.take j).map (Value.int .i64)) ∧ Below w2.heap.size w2 wr) (fun _ ti _ => 25 - (intOf ti).toNat)
  case atStart => exact ⟨0, Nat.zero_le _, rfl, World.ownsRow_nil _ _ _ _, Below.refl _ _⟩
  case round =>
    obtain ⟨j, hj, rfl, ho, hbel⟩ := hrel
    by_cases hlt : j < 25
    · by_cases h9 : j < 9
      · have hcs : j = 0 ∨ j = 1 ∨ j = 2 ∨ j = 3 ∨ j = 4 ∨ j = 5 ∨ j = 6 ∨ j = 7 ∨ j = 8 := by omega
        clear h9 hlt hj
        rcases hcs with rfl | rfl | rfl | rfl | rfl | rfl | rfl | rfl | rfl
        · have c1 := HFC.out wr hbel 0 _ rfl
          have HV : Hid (NU.take (0 + 1) = NU.take 0 ++ [a]) := by
            have h := nums_snoc (L := NU) (j := 0) (by rw [HNL.out]; omega)
            rw [show nth NU 0 = a by rw [← HNU.out]; rfl] at h
            exact h
          have q := (HP.out wr hbel).1.1
          have hcn := cellF wr (.int .i64 a) 3
          obtain ⟨va, vc, e, -⟩ := ho.slice
          rw [List.length_map, List.length_take, HNL.out, Nat.min_eq_left (by omega)] at e
          subst e
          have ho' : wr.ownsRow w2.heap.size 3 1 (.slice va 0 vc) 0 ((NU.take 0).map (Value.int .i64)) := by
            unfold Own at ho
            rwa [List.length_map, List.length_take, HNL.out, Nat.min_eq_left (by omega)] at ho
          have hsz := hbel.size
          have hbk := ho.lt
          clear ho
          go_wp2_with fail
          refine (field1_any w.heap.size wr).mono ?_
          rintro e w5 ⟨rfl, hw5⟩
          obtain rfl := hw5.symm
          go_wp2_with (at_builtin; refine wpList_append_own _ rfl _ _ 23 rfl w2.heap.size 3 i0 (.int .i64 0) 1 8 Tryz.underlying23 hi hz0 hz1 hz2 rfl (by decide) _ 0 _ rfl (World.ownsRow.alloc (w := wr) ho' _) ⟨wr.heap.size, 0, none⟩ 1 1 [.int .i64 a] rfl rfl hcn (by simp [Value.oneCell']) (by unfold maxLen; omega) (by omega) (by rw [World.size_alloc]; first | omega | (show w2.heap.size ≤ wr.heap.size + 1; omega)) ?_)
          intro v6 w6 ho6 hg6 _
          have hbelW : Below w2.heap.size w2 wr := by first | exact hbel | exact below_drewN hbel _
          have ho7 : Own 3 w6 w2.heap.size v6 ((NU.take (0 + 1)).map (Value.int .i64)) := by rw [HV.out, List.map_append]; first | exact own_of ho6 | (rw [List.map_take]; exact own_of ho6)
          have hb7 : Below w2.heap.size w2 w6 := (below_then hbelW _).grown hg6 (by rw [World.size_alloc]; first | omega | (show w2.heap.size ≤ wr.heap.size + 1; omega)) hbk
          clear ho6 hg6 ho' hcn HV c1 q
          go_wp2_with fail
          go_roundw
          case rel => exact ⟨0 + 1, by omega, by go_num, ho7, hb7⟩
          case measure => first | (simp [intOf]; done) | (simp [intOf]; omega)
        · have c1 := HFC.out wr hbel 1 _ rfl
          have HV : Hid (NU.take (1 + 1) = NU.take 1 ++ [s]) := by
            have h := nums_snoc (L := NU) (j := 1) (by rw [HNL.out]; omega)
            rw [show nth NU 1 = s by rw [← HNU.out]; rfl] at h
            exact h
          have q := (HP.out wr hbel).1.2.1
          have hcn := cellF wr (.int .i64 s) 3
          obtain ⟨va, vc, e, -⟩ := ho.slice
          rw [List.length_map, List.length_take, HNL.out, Nat.min_eq_left (by omega)] at e
          subst e
          have ho' : wr.ownsRow w2.heap.size 3 1 (.slice va 1 vc) 1 ((NU.take 1).map (Value.int .i64)) := by
            unfold Own at ho
            rwa [List.length_map, List.length_take, HNL.out, Nat.min_eq_left (by omega)] at ho
          have hsz := hbel.size
          have hbk := ho.lt
          clear ho
          go_wp2_with fail
          refine (field2_any w.heap.size wr).mono ?_
          rintro e w5 ⟨rfl, hw5⟩
          obtain rfl := hw5.symm
          go_wp2_with (at_builtin; refine wpList_append_own _ rfl _ _ 23 rfl w2.heap.size 3 i0 (.int .i64 0) 1 8 Tryz.underlying23 hi hz0 hz1 hz2 rfl (by decide) _ 1 _ rfl (World.ownsRow.alloc (w := wr) ho' _) ⟨wr.heap.size, 0, none⟩ 1 1 [.int .i64 s] rfl rfl hcn (by simp [Value.oneCell']) (by unfold maxLen; omega) (by omega) (by rw [World.size_alloc]; first | omega | (show w2.heap.size ≤ wr.heap.size + 1; omega)) ?_)
          intro v6 w6 ho6 hg6 _
          have hbelW : Below w2.heap.size w2 wr := by first | exact hbel | exact below_drewN hbel _
          have ho7 : Own 3 w6 w2.heap.size v6 ((NU.take (1 + 1)).map (Value.int .i64)) := by rw [HV.out, List.map_append]; first | exact own_of ho6 | (rw [List.map_take]; exact own_of ho6)
          have hb7 : Below w2.heap.size w2 w6 := (below_then hbelW _).grown hg6 (by rw [World.size_alloc]; first | omega | (show w2.heap.size ≤ wr.heap.size + 1; omega)) hbk
          clear ho6 hg6 ho' hcn HV c1 q
          go_wp2_with fail
          go_roundw
          case rel => exact ⟨1 + 1, by omega, by go_num, ho7, hb7⟩
          case measure => first | (simp [intOf]; done) | (simp [intOf]; omega)
        · have c1 := HFC.out wr hbel 2 _ rfl
          have HV : Hid (NU.take (2 + 1) = NU.take 2 ++ [t]) := by
            have h := nums_snoc (L := NU) (j := 2) (by rw [HNL.out]; omega)
            rw [show nth NU 2 = t by rw [← HNU.out]; rfl] at h
            exact h
          have q := (HP.out wr hbel).1.2.2.1
          have hcn := cellF wr (.int .i64 t) 3
          obtain ⟨va, vc, e, -⟩ := ho.slice
          rw [List.length_map, List.length_take, HNL.out, Nat.min_eq_left (by omega)] at e
          subst e
          have ho' : wr.ownsRow w2.heap.size 3 1 (.slice va 2 vc) 2 ((NU.take 2).map (Value.int .i64)) := by
            unfold Own at ho
            rwa [List.length_map, List.length_take, HNL.out, Nat.min_eq_left (by omega)] at ho
          have hsz := hbel.size
          have hbk := ho.lt
          clear ho
          go_wp2_with fail
          refine (field3_any w.heap.size wr).mono ?_
          rintro e w5 ⟨rfl, hw5⟩
          obtain rfl := hw5.symm
          go_wp2_with (at_builtin; refine wpList_append_own _ rfl _ _ 23 rfl w2.heap.size 3 i0 (.int .i64 0) 1 8 Tryz.underlying23 hi hz0 hz1 hz2 rfl (by decide) _ 2 _ rfl (World.ownsRow.alloc (w := wr) ho' _) ⟨wr.heap.size, 0, none⟩ 1 1 [.int .i64 t] rfl rfl hcn (by simp [Value.oneCell']) (by unfold maxLen; omega) (by omega) (by rw [World.size_alloc]; first | omega | (show w2.heap.size ≤ wr.heap.size + 1; omega)) ?_)
          intro v6 w6 ho6 hg6 _
          have hbelW : Below w2.heap.size w2 wr := by first | exact hbel | exact below_drewN hbel _
          have ho7 : Own 3 w6 w2.heap.size v6 ((NU.take (2 + 1)).map (Value.int .i64)) := by rw [HV.out, List.map_append]; first | exact own_of ho6 | (rw [List.map_take]; exact own_of ho6)
          have hb7 : Below w2.heap.size w2 w6 := (below_then hbelW _).grown hg6 (by rw [World.size_alloc]; first | omega | (show w2.heap.size ≤ wr.heap.size + 1; omega)) hbk
          clear ho6 hg6 ho' hcn HV c1 q
          go_wp2_with fail
          go_roundw
          case rel => exact ⟨2 + 1, by omega, by go_num, ho7, hb7⟩
          case measure => first | (simp [intOf]; done) | (simp [intOf]; omega)
        · have c1 := HFC.out wr hbel 3 _ rfl
          have HV : Hid (NU.take (3 + 1) = NU.take 3 ++ [k]) := by
            have h := nums_snoc (L := NU) (j := 3) (by rw [HNL.out]; omega)
            rw [show nth NU 3 = k by rw [← HNU.out]; rfl] at h
            exact h
          have q := (HP.out wr hbel).1.2.2.2.1
          have hcn := cellF wr (.int .i64 k) 3
          obtain ⟨va, vc, e, -⟩ := ho.slice
          rw [List.length_map, List.length_take, HNL.out, Nat.min_eq_left (by omega)] at e
          subst e
          have ho' : wr.ownsRow w2.heap.size 3 1 (.slice va 3 vc) 3 ((NU.take 3).map (Value.int .i64)) := by
            unfold Own at ho
            rwa [List.length_map, List.length_take, HNL.out, Nat.min_eq_left (by omega)] at ho
          have hsz := hbel.size
          have hbk := ho.lt
          clear ho
          go_wp2_with fail
          refine (field4_any w.heap.size wr).mono ?_
          rintro e w5 ⟨rfl, hw5⟩
          obtain rfl := hw5.symm
          go_wp2_with (at_builtin; refine wpList_append_own _ rfl _ _ 23 rfl w2.heap.size 3 i0 (.int .i64 0) 1 8 Tryz.underlying23 hi hz0 hz1 hz2 rfl (by decide) _ 3 _ rfl (World.ownsRow.alloc (w := wr) ho' _) ⟨wr.heap.size, 0, none⟩ 1 1 [.int .i64 k] rfl rfl hcn (by simp [Value.oneCell']) (by unfold maxLen; omega) (by omega) (by rw [World.size_alloc]; first | omega | (show w2.heap.size ≤ wr.heap.size + 1; omega)) ?_)
          intro v6 w6 ho6 hg6 _
          have hbelW : Below w2.heap.size w2 wr := by first | exact hbel | exact below_drewN hbel _
          have ho7 : Own 3 w6 w2.heap.size v6 ((NU.take (3 + 1)).map (Value.int .i64)) := by rw [HV.out, List.map_append]; first | exact own_of ho6 | (rw [List.map_take]; exact own_of ho6)
          have hb7 : Below w2.heap.size w2 w6 := (below_then hbelW _).grown hg6 (by rw [World.size_alloc]; first | omega | (show w2.heap.size ≤ wr.heap.size + 1; omega)) hbk
          clear ho6 hg6 ho' hcn HV c1 q
          go_wp2_with fail
          go_roundw
          case rel => exact ⟨3 + 1, by omega, by go_num, ho7, hb7⟩
          case measure => first | (simp [intOf]; done) | (simp [intOf]; omega)
        · have c1 := HFC.out wr hbel 4 _ rfl
          have HV : Hid (NU.take (4 + 1) = NU.take 4 ++ [o]) := by
            have h := nums_snoc (L := NU) (j := 4) (by rw [HNL.out]; omega)
            rw [show nth NU 4 = o by rw [← HNU.out]; rfl] at h
            exact h
          have q := (HP.out wr hbel).1.2.2.2.2.1
          have hcn := cellF wr (.int .i64 o) 3
          obtain ⟨va, vc, e, -⟩ := ho.slice
          rw [List.length_map, List.length_take, HNL.out, Nat.min_eq_left (by omega)] at e
          subst e
          have ho' : wr.ownsRow w2.heap.size 3 1 (.slice va 4 vc) 4 ((NU.take 4).map (Value.int .i64)) := by
            unfold Own at ho
            rwa [List.length_map, List.length_take, HNL.out, Nat.min_eq_left (by omega)] at ho
          have hsz := hbel.size
          have hbk := ho.lt
          clear ho
          go_wp2_with fail
          refine (field5_any w.heap.size wr).mono ?_
          rintro e w5 ⟨rfl, hw5⟩
          obtain rfl := hw5.symm
          go_wp2_with (at_builtin; refine wpList_append_own _ rfl _ _ 23 rfl w2.heap.size 3 i0 (.int .i64 0) 1 8 Tryz.underlying23 hi hz0 hz1 hz2 rfl (by decide) _ 4 _ rfl (World.ownsRow.alloc (w := wr) ho' _) ⟨wr.heap.size, 0, none⟩ 1 1 [.int .i64 o] rfl rfl hcn (by simp [Value.oneCell']) (by unfold maxLen; omega) (by omega) (by rw [World.size_alloc]; first | omega | (show w2.heap.size ≤ wr.heap.size + 1; omega)) ?_)
          intro v6 w6 ho6 hg6 _
          have hbelW : Below w2.heap.size w2 wr := by first | exact hbel | exact below_drewN hbel _
          have ho7 : Own 3 w6 w2.heap.size v6 ((NU.take (4 + 1)).map (Value.int .i64)) := by rw [HV.out, List.map_append]; first | exact own_of ho6 | (rw [List.map_take]; exact own_of ho6)
          have hb7 : Below w2.heap.size w2 w6 := (below_then hbelW _).grown hg6 (by rw [World.size_alloc]; first | omega | (show w2.heap.size ≤ wr.heap.size + 1; omega)) hbk
          clear ho6 hg6 ho' hcn HV c1 q
          go_wp2_with fail
          go_roundw
          case rel => exact ⟨4 + 1, by omega, by go_num, ho7, hb7⟩
          case measure => first | (simp [intOf]; done) | (simp [intOf]; omega)
        · have c1 := HFC.out wr hbel 5 _ rfl
          have HV : Hid (NU.take (5 + 1) = NU.take 5 ++ [((foldS n : Nat) : Int)]) := by
            have h := nums_snoc (L := NU) (j := 5) (by rw [HNL.out]; omega)
            rw [show nth NU 5 = ((foldS n : Nat) : Int) by rw [← HNU.out]; rfl] at h
            exact h
          have q := (HP.out wr hbel).1.2.2.2.2.2.1
          have hcn := cellF wr (.int .i64 ((foldS n : Nat) : Int)) 3
          obtain ⟨va, vc, e, -⟩ := ho.slice
          rw [List.length_map, List.length_take, HNL.out, Nat.min_eq_left (by omega)] at e
          subst e
          have ho' : wr.ownsRow w2.heap.size 3 1 (.slice va 5 vc) 5 ((NU.take 5).map (Value.int .i64)) := by
            unfold Own at ho
            rwa [List.length_map, List.length_take, HNL.out, Nat.min_eq_left (by omega)] at ho
          have hsz := hbel.size
          have hbk := ho.lt
          clear ho
          go_wp2_with fail
          refine (field6_any w.heap.size wr).mono ?_
          rintro e w5 ⟨rfl, hw5⟩
          obtain rfl := hw5.symm
          go_wp2_with (at_builtin; refine wpList_append_own _ rfl _ _ 23 rfl w2.heap.size 3 i0 (.int .i64 0) 1 8 Tryz.underlying23 hi hz0 hz1 hz2 rfl (by decide) _ 5 _ rfl (World.ownsRow.alloc (w := wr) ho' _) ⟨wr.heap.size, 0, none⟩ 1 1 [.int .i64 ((foldS n : Nat) : Int)] rfl rfl hcn (by simp [Value.oneCell']) (by unfold maxLen; omega) (by omega) (by rw [World.size_alloc]; first | omega | (show w2.heap.size ≤ wr.heap.size + 1; omega)) ?_)
          intro v6 w6 ho6 hg6 _
          have hbelW : Below w2.heap.size w2 wr := by first | exact hbel | exact below_drewN hbel _
          have ho7 : Own 3 w6 w2.heap.size v6 ((NU.take (5 + 1)).map (Value.int .i64)) := by rw [HV.out, List.map_append]; first | exact own_of ho6 | (rw [List.map_take]; exact own_of ho6)
          have hb7 : Below w2.heap.size w2 w6 := (below_then hbelW _).grown hg6 (by rw [World.size_alloc]; first | omega | (show w2.heap.size ≤ wr.heap.size + 1; omega)) hbk
          clear ho6 hg6 ho' hcn HV c1 q
          go_wp2_with fail
          go_roundw
          case rel => exact ⟨5 + 1, by omega, by go_num, ho7, hb7⟩
          case measure => first | (simp [intOf]; done) | (simp [intOf]; omega)
        · have c1 := HFC.out wr hbel 6 _ rfl
          have HV : Hid (NU.take (6 + 1) = NU.take 6 ++ [u]) := by
            have h := nums_snoc (L := NU) (j := 6) (by rw [HNL.out]; omega)
            rw [show nth NU 6 = u by rw [← HNU.out]; rfl] at h
            exact h
          have q := (HP.out wr hbel).1.2.2.2.2.2.2.1
          have hcn := cellF wr (.int .i64 u) 3
          obtain ⟨va, vc, e, -⟩ := ho.slice
          rw [List.length_map, List.length_take, HNL.out, Nat.min_eq_left (by omega)] at e
          subst e
          have ho' : wr.ownsRow w2.heap.size 3 1 (.slice va 6 vc) 6 ((NU.take 6).map (Value.int .i64)) := by
            unfold Own at ho
            rwa [List.length_map, List.length_take, HNL.out, Nat.min_eq_left (by omega)] at ho
          have hsz := hbel.size
          have hbk := ho.lt
          clear ho
          go_wp2_with fail
          refine (field7_any w.heap.size wr).mono ?_
          rintro e w5 ⟨rfl, hw5⟩
          obtain rfl := hw5.symm
          go_wp2_with (at_builtin; refine wpList_append_own _ rfl _ _ 23 rfl w2.heap.size 3 i0 (.int .i64 0) 1 8 Tryz.underlying23 hi hz0 hz1 hz2 rfl (by decide) _ 6 _ rfl (World.ownsRow.alloc (w := wr) ho' _) ⟨wr.heap.size, 0, none⟩ 1 1 [.int .i64 u] rfl rfl hcn (by simp [Value.oneCell']) (by unfold maxLen; omega) (by omega) (by rw [World.size_alloc]; first | omega | (show w2.heap.size ≤ wr.heap.size + 1; omega)) ?_)
          intro v6 w6 ho6 hg6 _
          have hbelW : Below w2.heap.size w2 wr := by first | exact hbel | exact below_drewN hbel _
          have ho7 : Own 3 w6 w2.heap.size v6 ((NU.take (6 + 1)).map (Value.int .i64)) := by rw [HV.out, List.map_append]; first | exact own_of ho6 | (rw [List.map_take]; exact own_of ho6)
          have hb7 : Below w2.heap.size w2 w6 := (below_then hbelW _).grown hg6 (by rw [World.size_alloc]; first | omega | (show w2.heap.size ≤ wr.heap.size + 1; omega)) hbk
          clear ho6 hg6 ho' hcn HV c1 q
          go_wp2_with fail
          go_roundw
          case rel => exact ⟨6 + 1, by omega, by go_num, ho7, hb7⟩
          case measure => first | (simp [intOf]; done) | (simp [intOf]; omega)
        · have c1 := HFC.out wr hbel 7 _ rfl
          have HV : Hid (NU.take (7 + 1) = NU.take 7 ++ [pt]) := by
            have h := nums_snoc (L := NU) (j := 7) (by rw [HNL.out]; omega)
            rw [show nth NU 7 = pt by rw [← HNU.out]; rfl] at h
            exact h
          have q := (HP.out wr hbel).1.2.2.2.2.2.2.2.1
          have hcn := cellF wr (.int .i64 pt) 3
          obtain ⟨va, vc, e, -⟩ := ho.slice
          rw [List.length_map, List.length_take, HNL.out, Nat.min_eq_left (by omega)] at e
          subst e
          have ho' : wr.ownsRow w2.heap.size 3 1 (.slice va 7 vc) 7 ((NU.take 7).map (Value.int .i64)) := by
            unfold Own at ho
            rwa [List.length_map, List.length_take, HNL.out, Nat.min_eq_left (by omega)] at ho
          have hsz := hbel.size
          have hbk := ho.lt
          clear ho
          go_wp2_with fail
          refine (field8_any w.heap.size wr).mono ?_
          rintro e w5 ⟨rfl, hw5⟩
          obtain rfl := hw5.symm
          go_wp2_with (at_builtin; refine wpList_append_own _ rfl _ _ 23 rfl w2.heap.size 3 i0 (.int .i64 0) 1 8 Tryz.underlying23 hi hz0 hz1 hz2 rfl (by decide) _ 7 _ rfl (World.ownsRow.alloc (w := wr) ho' _) ⟨wr.heap.size, 0, none⟩ 1 1 [.int .i64 pt] rfl rfl hcn (by simp [Value.oneCell']) (by unfold maxLen; omega) (by omega) (by rw [World.size_alloc]; first | omega | (show w2.heap.size ≤ wr.heap.size + 1; omega)) ?_)
          intro v6 w6 ho6 hg6 _
          have hbelW : Below w2.heap.size w2 wr := by first | exact hbel | exact below_drewN hbel _
          have ho7 : Own 3 w6 w2.heap.size v6 ((NU.take (7 + 1)).map (Value.int .i64)) := by rw [HV.out, List.map_append]; first | exact own_of ho6 | (rw [List.map_take]; exact own_of ho6)
          have hb7 : Below w2.heap.size w2 w6 := (below_then hbelW _).grown hg6 (by rw [World.size_alloc]; first | omega | (show w2.heap.size ≤ wr.heap.size + 1; omega)) hbk
          clear ho6 hg6 ho' hcn HV c1 q
          go_wp2_with fail
          go_roundw
          case rel => exact ⟨7 + 1, by omega, by go_num, ho7, hb7⟩
          case measure => first | (simp [intOf]; done) | (simp [intOf]; omega)
        · have c1 := HFC.out wr hbel 8 _ rfl
          have HV : Hid (NU.take (8 + 1) = NU.take 8 ++ [pa]) := by
            have h := nums_snoc (L := NU) (j := 8) (by rw [HNL.out]; omega)
            rw [show nth NU 8 = pa by rw [← HNU.out]; rfl] at h
            exact h
          have q := (HP.out wr hbel).1.2.2.2.2.2.2.2.2
          have hcn := cellF wr (.int .i64 pa) 3
          obtain ⟨va, vc, e, -⟩ := ho.slice
          rw [List.length_map, List.length_take, HNL.out, Nat.min_eq_left (by omega)] at e
          subst e
          have ho' : wr.ownsRow w2.heap.size 3 1 (.slice va 8 vc) 8 ((NU.take 8).map (Value.int .i64)) := by
            unfold Own at ho
            rwa [List.length_map, List.length_take, HNL.out, Nat.min_eq_left (by omega)] at ho
          have hsz := hbel.size
          have hbk := ho.lt
          clear ho
          go_wp2_with fail
          refine (field9_any w.heap.size wr).mono ?_
          rintro e w5 ⟨rfl, hw5⟩
          obtain rfl := hw5.symm
          go_wp2_with (at_builtin; refine wpList_append_own _ rfl _ _ 23 rfl w2.heap.size 3 i0 (.int .i64 0) 1 8 Tryz.underlying23 hi hz0 hz1 hz2 rfl (by decide) _ 8 _ rfl (World.ownsRow.alloc (w := wr) ho' _) ⟨wr.heap.size, 0, none⟩ 1 1 [.int .i64 pa] rfl rfl hcn (by simp [Value.oneCell']) (by unfold maxLen; omega) (by omega) (by rw [World.size_alloc]; first | omega | (show w2.heap.size ≤ wr.heap.size + 1; omega)) ?_)
          intro v6 w6 ho6 hg6 _
          have hbelW : Below w2.heap.size w2 wr := by first | exact hbel | exact below_drewN hbel _
          have ho7 : Own 3 w6 w2.heap.size v6 ((NU.take (8 + 1)).map (Value.int .i64)) := by rw [HV.out, List.map_append]; first | exact own_of ho6 | (rw [List.map_take]; exact own_of ho6)
          have hb7 : Below w2.heap.size w2 w6 := (below_then hbelW _).grown hg6 (by rw [World.size_alloc]; first | omega | (show w2.heap.size ≤ wr.heap.size + 1; omega)) hbk
          clear ho6 hg6 ho' hcn HV c1 q
          go_wp2_with fail
          go_roundw
          case rel => exact ⟨8 + 1, by omega, by go_num, ho7, hb7⟩
          case measure => first | (simp [intOf]; done) | (simp [intOf]; omega)
      · obtain ⟨kk, hkk⟩ : ∃ kk, ks[j - 9]? = some kk := ⟨_, List.getElem?_eq_getElem (by rw [HKL.out]; omega)⟩
        have c1 : wr.cell? ⟨fg, j, none⟩ = some (.func (.func 89) #[] #[.pointer (some ⟨kk, 0, none⟩)]) := HFC.out wr hbel j _ (by
          rw [List.getElem?_append_right (show 9 ≤ j by omega), show j - plainF.length = j - 9 from rfl, List.getElem?_map, hkk]
          rfl)
        have HV : Hid (NU.take (j + 1) = NU.take j ++ [nth ds (j - 9)]) := by
          have h := nums_snoc (L := NU) (j := j) (by rw [HNL.out]; omega)
          rw [show nth NU j = nth ds (j - 9) by
            rw [← HNU.out]
            unfold numsO nth
            simp only [List.getD_eq_getElem?_getD]
            rw [List.getElem?_append_right (by simp; omega)]
            simp] at h
          exact h
        have hfd := field10_any w.heap.size kk (j - 9) dg doff dcap wr (by omega) (HAC.out wr hbel (j - 9) kk hkk) (HP.out wr hbel).2.1
        have q0 := HDC.out wr hbel (j - 9) (by omega)
        have hji : (j : Int) < 25 := by omega
        generalize doff + (j - 9) = od at hfd q0
        generalize nth ds (j - 9) = y at HV q0
        clear hkk h9 hj
        have hcn := cellF wr (.int .i64 y) 3
        obtain ⟨va, vc, e, -⟩ := ho.slice
        rw [List.length_map, List.length_take, HNL.out, Nat.min_eq_left (by omega)] at e
        subst e
        have ho' : wr.ownsRow w2.heap.size 3 1 (.slice va j vc) j ((NU.take j).map (Value.int .i64)) := by
          unfold Own at ho
          rwa [List.length_map, List.length_take, HNL.out, Nat.min_eq_left (by omega)] at ho
        have hsz := hbel.size
        have hbk := ho.lt
        clear ho
        go_wp2_with fail
        refine hfd.mono ?_
        rintro e w5 ⟨rfl, n5, rfl⟩
        have q : (wr.drewN n5).cell? ⟨dg, od, none⟩ = some (.int .i64 y) := q0
        replace hcn : ∀ (j : Nat) (u : Value), [Value.int .i64 y][j]? = some u → ((wr.drewN n5).alloc (.cells #[.int .i64 y] 3)).cell? ((⟨wr.heap.size, 0, none⟩ : Addr).add j) = some u := cellF (wr.drewN n5) (.int .i64 y) 3
        clear hfd q0
        go_wp2_with (at_builtin; refine wpList_append_own _ rfl _ _ 23 rfl w2.heap.size 3 i0 (.int .i64 0) 1 8 Tryz.underlying23 hi hz0 hz1 hz2 rfl (by decide) _ j _ rfl (World.ownsRow.alloc (w := (wr.drewN n5)) ho' _) ⟨wr.heap.size, 0, none⟩ 1 1 [.int .i64 y] rfl rfl hcn (by simp [Value.oneCell']) (by unfold maxLen; omega) (by omega) (by rw [World.size_alloc]; first | omega | (show w2.heap.size ≤ wr.heap.size + 1; omega)) ?_)
        intro v6 w6 ho6 hg6 _
        have hbelW : Below w2.heap.size w2 (wr.drewN n5) := by first | exact hbel | exact below_drewN hbel _
        have ho7 : Own 3 w6 w2.heap.size v6 ((NU.take (j + 1)).map (Value.int .i64)) := by rw [HV.out, List.map_append]; first | exact own_of ho6 | (rw [List.map_take]; exact own_of ho6)
        have hb7 : Below w2.heap.size w2 w6 := (below_then hbelW _).grown hg6 (by rw [World.size_alloc]; first | omega | (show w2.heap.size ≤ wr.heap.size + 1; omega)) hbk
        clear ho6 hg6 ho' hcn HV c1 q
        go_wp2_with fail
        go_roundw
        case rel => exact ⟨j + 1, by omega, by go_num, ho7, hb7⟩
        case measure => first | (simp [intOf]; done) | (simp [intOf]; omega)
    · obtain rfl : j = 25 := by omega
      rw [List.take_of_length_le (by rw [HNL.out]; omega)] at ho
      have hbe : Below w.heap.size w wr := below_seq hbw hbel
      have hwz := hbel.size
      go_wp2_with fail
      refine (implPutRuns_any wr.heap.size wr _ NU (by rw [HNL.out]; omega) (Nat.le_refl _) ho.rd).mono ?_
      rintro e w3 ⟨r3, rfl, ho3, hb3⟩
      have hs3 := hb3.size
      have hbel3 := below_seq hbel hb3
      obtain ⟨-, -, q10, q11⟩ := HP.out w3 hbel3
      have hbe3 := below_seq hbe hb3
      rw [HB1.out] at ho3
      have hlP : (putR NU).length ≤ 122890 := putR_len (by rw [← HNU.out]; exact nums_ok hF) (by rw [HNL.out]; omega)
      clear ho hb3 hbel hbe HB1
      go_wp2_with fail
      have hbe4 := below_then hbe3 (.cells #[.string ky, .string tx] 9)
      have ho4 := World.ownsRow.alloc ho3 (.cells #[.string ky, .string tx] 9)
      have htx : Rd (w3.alloc (.cells #[.string ky, .string tx] 9)).heap.size (w3.alloc (.cells #[.string ky, .string tx] 9)) (.slice (some ⟨w3.heap.size, 0, none⟩) 2 2) ([ky, tx].map Value.string) := (own_lit w3 9 [.string ky, .string tx] 2 rfl (by unfold maxLen; omega)).rd
      refine (implPutTexts_any _ _ _ [ky, tx] (by simp) (by show tot [ky, tx] 2 ≤ _; rw [tot2]; have := hF.hky; have := hF.htx; omega) (Nat.le_refl _) htx).mono ?_
      rintro e w5 ⟨r5, rfl, ho5, hb5⟩
      rw [HT.out.1] at ho5
      have hlT := texts2 hF.hky hF.htx
      have hbe5 := below_seq hbe4 hb5
      have ho6 : Own 5 w5 wr.heap.size r3 ((putR NU).map (Value.int .u8)) := Own.below ho4 hb5 (Nat.le_refl _)
      have hs5 := hb5.size
      rw [World.size_alloc] at hs5
      have hbk6 := ho6.lt
      clear htx ho4 ho3 hb5 hbe4 hbe3 q10 q11
      obtain ⟨i5, hi5, hy0, hy1, hy2⟩ := info_parts info5
      go_wp2_with (at_builtin; refine wpList_append_rd rfl _ _ 22 rfl wr.heap.size 5 i5 (.int .u8 0) 1 Tryz.underlying22 hi5 hy0 hy1 hy2 rfl _ _ rfl ho6 _ _ _ rfl ho5.rd (by simp [Value.oneCell']) (by simp only [List.length_map]; unfold maxLen; omega) (by simp only [List.length_map]; omega) (by omega) ?_)
      intro v7 w7 ho7 hg7
      have hb7 : Below w.heap.size w w7 := hbe5.grown hg7 (by omega) (fun kk hk => by have := hbk6 kk hk; have := hbw.size; omega)
      go_wp2_with fail
      go_ret
      refine ⟨_, rfl, ?_, hb7⟩
      rw [opBy, HNU.out, List.map_append]
      exact ho7.mono (by have := hbw.size; omega)
end Go.Proofs.YtmmkmkaannlkhaaGreatDoor
