/- What attempt does with number: the fault becomes a code; and the code's GetInt. -/
import Derived.Test.YtpiadcjkbbgggaaNumber
import Derived.Test.YtpiadcjkbbgggaaGetsSpec
namespace Go.Proofs.Ytpiadcjkbbgggaa
open Go.RowKit
set_option linter.unusedVariables false

theorem at_cell {w : World} {g : Nat} {v : Value} {T : TypeId} (h : w.heap[g]? = some (.cells #[v] T (0, 0))) : w.cell? ⟨g, 0, none⟩ = some v := by
  unfold World.cell?
  rw [show w.heap[(⟨g, 0, none⟩ : Addr).block]? = some (.cells #[v] T (0, 0)) from h]
  rfl

set_option maxHeartbeats 400000 in
theorem faultCode_any (w : World) : Calls Try.prog 90 #[.iface 108 (.int .i64 3)] w fun e w' => e = .returned (.int .i64 3) ∧ w' = w := by
  have hta : ∀ w, (Instr.typeAssert (.iface 108 (.int .i64 3)) 20 108 true).run Try.prog w = .ok (.tuple #[.int .i64 3, .bool true]) w := fun _ => by kernel_rfl
  go_enter Try.func90, Try.ntmps90
  go_wp2
  go_ret
  exact ⟨rfl, rfl⟩

set_option maxHeartbeats 400000 in
theorem catchInt_panic (p : Addr) (x : Int) (w : World) (hc : w.cell? p = some (.int .i64 x)) (hz : w.frozen? p = false) :
    CallsD Try.prog 89 #[.pointer (some p)] (.panicking [{ v := .iface 108 (.int .i64 3), recovered := false }]) w fun e u' w' =>
      e = .returned (.tuple #[]) ∧ u' = .panicking [{ v := .iface 108 (.int .i64 3), recovered := true }] ∧ w' = w.setCell p (.int .i64 3) := by
  refine callsD_of_wpS Try.func89 rfl fun c₀ cs hu => ?_
  apply wpS_seq
  apply wpS_region
  simp [wpOpsS, go_sem, recoverD, hu, Try.ntmps89, Exit.thenS]
  refine wpS_of_wp ?_
  rw [show Array.replicate 6 undef = #[undef, undef, undef, undef, undef, undef] from rfl]
  simp
  go_wp2_with (first | (go_at_call 90; refine (faultCode_any _).mono ?_; rintro e w' ⟨rfl, rfl⟩))
  simp [bodyPostS, results, Try.results89]

set_option maxHeartbeats 400000 in
theorem catchInt_idle (p : Addr) (w : World) :
    CallsD Try.prog 89 #[.pointer (some p)] .returning w fun e u' w' => e = .returned (.tuple #[]) ∧ u' = .returning ∧ w' = w := by
  refine callsD_of_wpS Try.func89 rfl fun c₀ cs hu => ?_
  apply wpS_seq
  apply wpS_region
  simp [wpOpsS, go_sem, recoverD, hu, Try.ntmps89, Exit.thenS]
  refine wpS_of_wp ?_
  rw [show Array.replicate 6 undef = #[undef, undef, undef, undef, undef, undef] from rfl]
  simp
  go_wp2
  cases c₀
  simp_all [bodyPostS, results, Try.results89]

/-- What attempt answers with number, and where the reader stands behind it. -/
def attR (xs : List Int) (b : Nat) (va : Value) (p : Nat) (e : Ending) (w' : World) : Prop := match getL xs p with
  | some (a, q) => e = .returned (.tuple #[.int .i64 a, .int .i64 0]) ∧ Rdr w' b va q
  | none => e = .returned (.tuple #[.int .i64 0, .int .i64 3]) ∧ ∃ q, q ≤ xs.length ∧ Rdr w' b va q

set_option maxHeartbeats 1000000 in
theorem attemptInt_any (C b p : Nat) (w : World) (va : Value) (xs : List Int) (hx : Bytes xs) (hl : xs.length ≤ 1048576) (hp : p ≤ xs.length) (hC : C ≤ b) (hb : b < w.heap.size) (hr : Rd C w va (xs.map (Value.int .u8))) (hR : Rdr w b va p) :
    Calls Try.prog 57 #[.pointer (some ⟨b, 0, none⟩), .func (.func 58) #[] #[]] w fun e w' => attR xs b va p e w' ∧ w.grownBy w' (some b) := by
  have hmf : ∀ (fn : Fn) (first cap : Array Value) (w : World), (Instr.makeFunc fn first cap).run Try.prog w = .ok (.func fn first cap) w := fun _ _ _ _ => rfl
  cases hG : getL xs p with
  | none =>
    have HG : Hid _ := hG
    clear hG
    go_enter_defers Try.func57, Try.ntmps57
    go_wp2_with fail
    refine (number_any C b p _ va xs hx hl hp hC (hr.grown (World.grownBy_alloc w _ none) (fun k hk => by cases hk)) (hR.alloc _)).mono ?_
    rintro e w1 ⟨hn, hg⟩
    unfold numR at hn
    rw [HG.out] at hn
    obtain ⟨he, q, hq, hR1⟩ := hn
    unfold Bad at he
    subst he
    obtain ⟨hc, hf, hg0, hgs⟩ := code_cell hb hg
    refine leaves_cons (f := 89) (args := #[.pointer (some ⟨w.heap.size, 0, none⟩)]) (by simp) (by simp [go_sem]) ?_
    refine (catchInt_panic ⟨w.heap.size, 0, none⟩ 0 w1 hc hf).mono ?_
    rintro e u' w'' ⟨rfl, rfl, rfl⟩
    have hres : attR xs b va p (.returned (.tuple #[.int .i64 0, .int .i64 3])) (w1.setCell ⟨w.heap.size, 0, none⟩ (.int .i64 3)) ∧ w.grownBy (w1.setCell ⟨w.heap.size, 0, none⟩ (.int .i64 3)) (some b) := by
      refine ⟨?_, hgs _⟩
      unfold attR
      rw [HG.out]
      exact ⟨rfl, q, hq, hR1.other (by omega) _⟩
    have hcell : (w1.setCell ⟨w.heap.size, 0, none⟩ (.int .i64 3)).cell? ⟨w.heap.size, 0, none⟩ = some (.int .i64 3) := World.cell?_setCell_same w1 _ _ hc
    generalize w1.setCell ⟨w.heap.size, 0, none⟩ (.int .i64 3) = w2 at hres hcell ⊢
    simp [Leaves, settle, results, Try.results57, go_sem, hcell]
    exact hres
  | some z =>
    obtain ⟨x, q⟩ := z
    have HG : Hid _ := hG
    clear hG
    go_enter_defers Try.func57, Try.ntmps57
    go_wp2_with fail
    refine (number_any C b p _ va xs hx hl hp hC (hr.grown (World.grownBy_alloc w _ none) (fun k hk => by cases hk)) (hR.alloc _)).mono ?_
    rintro e w1 ⟨hn, hg⟩
    unfold numR at hn
    rw [HG.out] at hn
    obtain ⟨rfl, hR1⟩ := hn
    obtain ⟨hc, hf, hg0, hgs⟩ := code_cell hb hg
    have hres : attR xs b va p (.returned (.tuple #[.int .i64 x, .int .i64 0])) (w1.setCell ⟨w.heap.size, 0, none⟩ (.int .i64 0)) ∧ w.grownBy (w1.setCell ⟨w.heap.size, 0, none⟩ (.int .i64 0)) (some b) := by
      refine ⟨?_, hgs _⟩
      unfold attR
      rw [HG.out]
      exact ⟨rfl, hR1.other (by omega) _⟩
    have hcell : (w1.setCell ⟨w.heap.size, 0, none⟩ (.int .i64 0)).cell? ⟨w.heap.size, 0, none⟩ = some (.int .i64 0) := World.cell?_setCell_same w1 _ _ hc
    clear hr hR hR1 hg0 hgs hg
    go_wp2_with fail
    refine leaves_cons (f := 89) (args := #[.pointer (some ⟨w.heap.size, 0, none⟩)]) (by simp) (by simp [go_sem]) ?_
    refine (catchInt_idle ⟨w.heap.size, 0, none⟩ _).mono ?_
    rintro e u' w'' ⟨rfl, rfl, rfl⟩
    generalize w1.setCell ⟨w.heap.size, 0, none⟩ (.int .i64 0) = w2 at hres hcell ⊢
    simp [Leaves, settle, results, Try.results57, go_sem, hcell]
    exact hres

set_option maxHeartbeats 1000000 in
set_option maxRecDepth 100000 in
theorem implGetInt_any (C : Nat) (w : World) (v : Value) (xs : List Int) (a : Int) (hx : Bytes xs) (hl : xs.length ≤ 1048576) (hC : C ≤ w.heap.size) (hr : Rd C w v (xs.map (Value.int .u8))) :
    Calls Try.prog 27 #[v, .int .i64 a] w fun e w' => e = .returned (.tuple #[.int .i64 (getI xs a).1, .int .i64 (getI xs a).2.1, .int .i64 (getI xs a).2.2]) ∧ Below w.heap.size w w' := by
  have hr0 := hr
  obtain ⟨ao, cap, rfl, hcap, hmax, hnil, hr⟩ := hr
  rw [List.length_map] at hr hr0 ⊢
  clear hr
  by_cases h : a < 0 ∨ (xs.length : Int) < a
  · rw [getI_out h]
    by_cases h' : a < 0
    · clear h
      go_enter Try.func27, Try.ntmps27
      go_wp2_with fail
      go_ret3
      exact ⟨rfl, Below.refl _ _⟩
    · have h2 : (xs.length : Int) < a := by omega
      clear h
      go_enter Try.func27, Try.ntmps27
      go_wp2_with fail
      go_ret3
      exact ⟨rfl, Below.refl _ _⟩
  · obtain ⟨p, rfl⟩ := Int.eq_ofNat_of_zero_le (show 0 ≤ a by omega)
    have hp : p ≤ xs.length := by omega
    have hR0 : Rdr (w.alloc (.cells #[.slice ao xs.length cap, .int .i64 (p : Int)] 80)) w.heap.size (.slice ao xs.length cap) p := heap_alloc_new w _
    cases hG : getL xs p with
    | none =>
      rw [getI_none hp hG]
      have HG : Hid _ := hG
      clear hG h
      go_enter Try.func27, Try.ntmps27
      go_wp2_with fail
      refine (attemptInt_any C w.heap.size p _ _ xs hx hl hp hC (by simp) (hr0.grown (World.grownBy_alloc w _ none) (fun k hk => by cases hk)) hR0).mono ?_
      rintro e w1 ⟨hn, hg⟩
      unfold attR at hn
      rw [HG.out] at hn
      obtain ⟨rfl, q, hq, hR1⟩ := hn
      have hb1 : Below w.heap.size w w1 := ((Below.refl _ _).alloc (Nat.le_refl _) _).grown hg (by simp) (fun k hk => by cases hk; exact Nat.le_refl _)
      go_wp2_with fail
      go_ret3
      exact ⟨rfl, hb1⟩
    | some z =>
      obtain ⟨x, q⟩ := z
      rw [getI_some hp hG]
      have HG : Hid _ := hG
      clear hG h
      go_enter Try.func27, Try.ntmps27
      go_wp2_with fail
      refine (attemptInt_any C w.heap.size p _ _ xs hx hl hp hC (by simp) (hr0.grown (World.grownBy_alloc w _ none) (fun k hk => by cases hk)) hR0).mono ?_
      rintro e w1 ⟨hn, hg⟩
      unfold attR at hn
      rw [HG.out] at hn
      obtain ⟨rfl, hR1⟩ := hn
      have hb1 : Below w.heap.size w w1 := ((Below.refl _ _).alloc (Nat.le_refl _) _).grown hg (by simp) (fun k hk => by cases hk; exact Nat.le_refl _)
      have r1 := hR1.c1
      go_wp2_with fail
      go_quiet (fail)
      go_wp2_with fail
      go_ret3
      exact ⟨rfl, below_drewN hb1 _⟩
end Go.Proofs.Ytpiadcjkbbgggaa
