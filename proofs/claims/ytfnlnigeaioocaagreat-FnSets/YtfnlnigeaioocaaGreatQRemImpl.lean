/- What the code's remove does at a set's map. -/
import Derived.Test.YtfnlnigeaioocaaGreatQKeysIterToKeepMath
import Derived.Test.YtfnlnigeaioocaaGreatQSetOf
namespace Go.Proofs.YtfnlnigeaioocaaGreat
open Go.RowKit
set_option linter.unusedVariables false

set_option maxHeartbeats 2000000 in
set_option maxRecDepth 100000 in
theorem remove1_any (t a : Int) (x s : ByteArray) (tb : Nat) (w : World) (hc : w.cell? ⟨tb, 0, none⟩ = some (.string s)) :
    Calls Tryz.prog 34 #[.agg #[.int .i64 t, .int .i64 a], .agg #[.int .i64 t, .int .i64 a, .string x], .pointer (some ⟨tb, 0, none⟩)] w fun e w' => e = .returned (.bool (x.toList == s.toList)) ∧ Below w.heap.size w w' := by
  have hlt : tb < w.heap.size := cell_lt hc
  have hne1 : tb ≠ w.heap.size := by omega
  have hne2 : tb ≠ w.heap.size + 1 := by omega
  have hB := below_then (below_alloc w (.cells #[.int .i64 t, .int .i64 a] 56)) (.cells #[.int .i64 t, .int .i64 a, .string x] 60)
  go_enter Tryz.func34, Tryz.ntmps34
  go_wp2_with fail
  refine bodyPost_ret (v := .bool (x.toList == s.toList)) ?_ rfl ⟨rfl, hB⟩
  simp [results, Tryz.results34, go_sem]

set_option maxHeartbeats 4000000 in
set_option maxRecDepth 100000 in
theorem deleteFunc_any (s : ByteArray) (tb b : Nat) (ls : List En) (w : World) (hc : w.cell? ⟨tb, 0, none⟩ = some (.string s)) (hne : tb ≠ b) (hM : Mp Tryz.prog 56 w b (ls.map kvE)) :
    Calls Tryz.prog 33 #[.map (some b), .func (.func 34) #[] #[.pointer (some ⟨tb, 0, none⟩)]] w fun e w' => e = .returned (.tuple #[]) ∧ Mp Tryz.prog 56 w' b ((without ls s).map kvE) ∧ w.grownBy w' (some b) := by
  have hlt : tb < w.heap.size := cell_lt hc
  have hbl := hM.lt
  go_enter Tryz.func33, Tryz.ntmps33
  go_wp2_with (first
    | (at_range; refine wpList_range_mp rfl _ 46 rfl 56 60 Tryz.underlying46 b _ rfl hM ?_; intro w0 hrg0 hg0 hs0)
    | go_in)
  go_frame
  go_loopw [8] (fun _ wr => ∃ (L M : List En), Rg Tryz.prog 56 wr b w.heap.size (L.map kvE) (M.map kvE) ∧ w.grownBy wr (some b) ∧ Hid (Dl ls L M s)) (fun _ wr => rgLeft wr b w.heap.size)
  case atStart => exact ⟨ls, ls, hrg0, hg0.but _, Dl.start ls s⟩
  case round =>
    obtain ⟨L, M, hrg, hgw, HD⟩ := hrel
    go_wp2_with (first
      | (at_next; refine wpList_next_rg rfl _ rfl 56 b w.heap.size _ _ rfl hrg ?_ ?_)
      | go_in)
    · intro hM0
      obtain rfl : M = [] := by simpa using hM0
      go_wp2_with fail
      go_end0
      exact ⟨rfl, by rw [← Dl.done HD.out]; exact hrg.mp, hgw⟩
    · intro M1 pk pv M2 w2 hMM hrg2 hg2 hs2 hen
      obtain ⟨A, e, B, rfl, rfl, hpe, rfl⟩ := split_kv hMM
      obtain ⟨L1, L2, rfl, hne1, hne2⟩ := Rg.came (w' := wr) hrg
      obtain ⟨t, a, x⟩ := e
      simp only [kvE, Prod.mk.injEq] at hpe
      obtain ⟨rfl, rfl⟩ := hpe
      rw [← List.map_append] at hrg2
      have hgw2 := hgw.andThen hg2 (fun j hj => by cases hj; exact Or.inl (Nat.le_refl _))
      have hgA := World.grownBy_alloc w2 (.cells #[.int .i64 t, .int .i64 a] 56) none
      have hgB := World.grownBy_alloc (w2.alloc (.cells #[.int .i64 t, .int .i64 a] 56)) (.cells #[.int .i64 t, .int .i64 a, .string x] 60) none
      have hrgB := (hrg2.kept hgA (by simp) (by simp)).kept hgB (by simp) (by simp)
      have hgwB := (hgw2.andThen hgA (fun j hj => by cases hj)).andThen hgB (fun j hj => by cases hj)
      have cB : ((w2.alloc (.cells #[.int .i64 t, .int .i64 a] 56)).alloc (.cells #[.int .i64 t, .int .i64 a, .string x] 60)).cell? ⟨tb, 0, none⟩ = some (.string s) := (World.cell?_of_block (a := ⟨tb, 0, none⟩) (hgwB.block tb hlt (fun e => hne (by simpa using e)))).trans hc
      have hR := remove1_any t a x s tb _ cB
      have HNE : Hid _ := And.intro hne1 hne2
      have HMM : Hid _ := hMM
      clear hs2 hMM hgA hgB hne1 hne2
      cases htx : (x.toList == s.toList)
      · rw [htx] at hR
        have HX : Hid _ := htx
        clear htx
        go_wp2_with (first | (go_at_call 34; refine hR.mono ?_; rintro e w3 ⟨rfl, hb3⟩))
        have hg3 := grownBy_below hb3 (Nat.le_refl _) none
        have hrg3 := hrgB.kept hg3 (by simp) (by simp)
        have hgw3 := hgwB.andThen hg3 (fun j hj => by cases hj)
        go_roundw
        case rel => exact ⟨_, A ++ B, hrg3, hgw3, Dl.stays HD.out HX.out⟩
        case measure => rw [hrg3.left_eq, hrg.left_eq]; simp
      · rw [htx] at hR
        have HX : Hid _ := htx
        have s0 : ((w2.alloc (.cells #[.int .i64 t, .int .i64 a] 56)).alloc (.cells #[.int .i64 t, .int .i64 a, .string x] 60)).cell? ⟨w2.heap.size, 0, none⟩ = some (.int .i64 t) ∧ ((w2.alloc (.cells #[.int .i64 t, .int .i64 a] 56)).alloc (.cells #[.int .i64 t, .int .i64 a, .string x] 60)).cell? ⟨w2.heap.size, 1, none⟩ = some (.int .i64 a) := ((Dy.made w2 (.int .i64 t) (.int .i64 a) 56).on (below_alloc _ (.cells #[.int .i64 t, .int .i64 a, .string x] 60))).1
        clear htx
        go_upto_region 4 with (first | (go_at_call 34; refine hR.mono ?_; rintro e w3 ⟨rfl, hb3⟩))
        have hg3 := grownBy_below hb3 (Nat.le_refl _) none
        have hrg3 := hrgB.kept hg3 (by simp) (by simp)
        have hgw3 := hgwB.andThen hg3 (fun j hj => by cases hj)
        have e0 := cell_on hb3 s0.1
        have e1 := cell_on hb3 s0.2
        rw [List.map_append, List.map_cons] at hrg3
        clear hR s0 hb3 cB
        go_wp2_with (first
          | (at_delete; refine wpList_drop_rg rfl _ _ 46 56 rfl 60 stKeyed Tryz.underlying46 b w.heap.size (L1.map kvE) (L2.map kvE) _ (.agg #[.int .i64 t, .int .i64 a]) (.agg #[.int .i64 t, .int .i64 a, .string x]) rfl rfl hrg3 HNE.out.2 ?_; intro w4 hrg4 hg4 hs4; go_frame)
          | go_in)
        have hrg5 := hrg4
        rw [← List.map_append] at hrg5
        have hgw4 := hgw3.andThen hg4 (fun j hj => by cases hj; exact Or.inr rfl)
        go_roundw
        case rel => exact ⟨L1 ++ L2, A ++ B, hrg5, hgw4, Dl.goes HD.out HX.out HNE.out.1⟩
        case measure => rw [hrg5.left_eq, hrg.left_eq]; simp

end Go.Proofs.YtfnlnigeaioocaaGreat
