/- What attempt does with texts; and the code's GetTexts. -/
import Derived.Test.YtbkdjaodbknlpaaAttempt
import Derived.Test.YtbkdjaodbknlpaaTextsImpl2
import Derived.Test.YtbkdjaodbknlpaaTextsDef
namespace Go.Proofs.Ytbkdjaodbknlpaa
open Go.RowKit
set_option linter.unusedVariables false

set_option maxHeartbeats 400000 in
theorem catchTexts_panic (p : Addr) (x : Int) (w : World) (hc : w.cell? p = some (.int .i64 x)) (hz : w.frozen? p = false) :
    CallsD Try.prog 105 #[.pointer (some p)] (.panicking [{ v := .iface 151 (.int .i64 3), recovered := false }]) w fun e u' w' =>
      e = .returned (.tuple #[]) ∧ u' = .panicking [{ v := .iface 151 (.int .i64 3), recovered := true }] ∧ w' = w.setCell p (.int .i64 3) := by
  refine callsD_of_wpS Try.func105 rfl fun c₀ cs hu => ?_
  apply wpS_seq
  apply wpS_region
  simp [wpOpsS, go_sem, recoverD, hu, Try.ntmps105, Exit.thenS]
  refine wpS_of_wp ?_
  rw [show Array.replicate 6 undef = #[undef, undef, undef, undef, undef, undef] from rfl]
  simp
  go_wp2_with (first | (go_at_call 98; refine (faultCode_any _).mono ?_; rintro e w' ⟨rfl, rfl⟩))
  simp [bodyPostS, results, Try.results105]

set_option maxHeartbeats 400000 in
theorem catchTexts_idle (p : Addr) (w : World) :
    CallsD Try.prog 105 #[.pointer (some p)] .returning w fun e u' w' => e = .returned (.tuple #[]) ∧ u' = .returning ∧ w' = w := by
  refine callsD_of_wpS Try.func105 rfl fun c₀ cs hu => ?_
  apply wpS_seq
  apply wpS_region
  simp [wpOpsS, go_sem, recoverD, hu, Try.ntmps105, Exit.thenS]
  refine wpS_of_wp ?_
  rw [show Array.replicate 6 undef = #[undef, undef, undef, undef, undef, undef] from rfl]
  simp
  go_wp2
  cases c₀
  simp_all [bodyPostS, results, Try.results105]

set_option maxHeartbeats 1000000 in
theorem attemptTexts_any (C b : Nat) (w : World) (va : Value) (xs : List Int) (hx : Bytes xs) (hl : xs.length ≤ 1048576) (hC : C ≤ b) (hb : b < w.heap.size) (hr : Rd C w va (xs.map (Value.int .u8))) (hR : Rdr w b va 0) :
    Calls Try.prog 55 #[.pointer (some ⟨b, 0, none⟩), .func (.func 56) #[] #[]] w fun e w' => (∃ r, e = .returned (.tuple #[r, .int .i64 (getTextsC xs)]) ∧ Own 9 w' w.heap.size r ((getTextsB xs).map Value.string) ∧ (getTextsB xs).length ≤ 4096) ∧ w.grownBy w' (some b) := by
  have hmf : ∀ (fn : Fn) (first cap : Array Value) (w : World), (Instr.makeFunc fn first cap).run Try.prog w = .ok (.func fn first cap) w := fun _ _ _ _ => rfl
  cases hG : getTexts xs with
  | none =>
    obtain ⟨e1, e2⟩ := getTexts_no hG
    rw [e1, e2]
    clear e1 e2
    have HG : Hid _ := hG
    clear hG
    go_enter_defers Try.func55, Try.ntmps55
    go_wp2_with fail
    refine (texts_any C b _ va xs hx hl hC (by simp; omega) (hr.grown (World.grownBy_alloc w _ none) (fun k hk => by cases hk)) (hR.alloc _)).mono ?_
    rintro e w1 ⟨hn, hg⟩
    unfold textsR at hn
    rw [HG.out] at hn
    simp only at hn
    unfold Bad at hn
    subst hn
    obtain ⟨hc, hf, hg0, hgs⟩ := code_cell hb hg
    refine leaves_cons (f := 105) (args := #[.pointer (some ⟨w.heap.size, 0, none⟩)]) (by simp) (by simp [go_sem]) ?_
    refine (catchTexts_panic ⟨w.heap.size, 0, none⟩ 0 w1 hc hf).mono ?_
    rintro e u' w'' ⟨rfl, rfl, rfl⟩
    have hres : w.grownBy (w1.setCell ⟨w.heap.size, 0, none⟩ (.int .i64 3)) (some b) := hgs _
    have hcell : (w1.setCell ⟨w.heap.size, 0, none⟩ (.int .i64 3)).cell? ⟨w.heap.size, 0, none⟩ = some (.int .i64 3) := World.cell?_setCell_same w1 _ _ hc
    generalize w1.setCell ⟨w.heap.size, 0, none⟩ (.int .i64 3) = w2 at hres hcell ⊢
    simp [Leaves, settle, results, Try.results55, go_sem, hcell]
    exact ⟨⟨rfl, .inl ⟨rfl, rfl⟩⟩, hres⟩
  | some out =>
    obtain ⟨e1, e2⟩ := getTexts_yes hG
    rw [e1, e2]
    clear e1 e2
    have HG : Hid _ := hG
    clear hG
    go_enter_defers Try.func55, Try.ntmps55
    go_wp2_with fail
    refine (texts_any C b _ va xs hx hl hC (by simp; omega) (hr.grown (World.grownBy_alloc w _ none) (fun k hk => by cases hk)) (hR.alloc _)).mono ?_
    rintro e w1 ⟨hn, hg⟩
    unfold textsR at hn
    rw [HG.out] at hn
    obtain ⟨r, rfl, ho1, hlen⟩ := hn
    obtain ⟨hc, hf, hg0, hgs⟩ := code_cell hb hg
    have ho2 : Own 9 (w1.setCell ⟨w.heap.size, 0, none⟩ (.int .i64 0)) w.heap.size r _ := (ho1.apart (grownBy_set w1 w.heap.size 0 (.int .i64 0)) (fun k hk => by cases hk; simp)).mono (by simp)
    have hres : w.grownBy (w1.setCell ⟨w.heap.size, 0, none⟩ (.int .i64 0)) (some b) := hgs _
    have hcell : (w1.setCell ⟨w.heap.size, 0, none⟩ (.int .i64 0)).cell? ⟨w.heap.size, 0, none⟩ = some (.int .i64 0) := World.cell?_setCell_same w1 _ _ hc
    clear hr hR hg0 hgs hg ho1
    go_wp2_with fail
    refine leaves_cons (f := 105) (args := #[.pointer (some ⟨w.heap.size, 0, none⟩)]) (by simp) (by simp [go_sem]) ?_
    refine (catchTexts_idle ⟨w.heap.size, 0, none⟩ _).mono ?_
    rintro e u' w'' ⟨rfl, rfl, rfl⟩
    generalize w1.setCell ⟨w.heap.size, 0, none⟩ (.int .i64 0) = w2 at hres hcell ho2 ⊢
    simp [Leaves, settle, results, Try.results55, go_sem, hcell]
    exact ⟨⟨ho2, hlen⟩, hres⟩

set_option maxHeartbeats 1000000 in
set_option maxRecDepth 100000 in
theorem implGetTexts_any (C : Nat) (w : World) (v : Value) (xs : List Int) (hx : Bytes xs) (hl : xs.length ≤ 1048576) (hC : C ≤ w.heap.size) (hr : Rd C w v (xs.map (Value.int .u8))) :
    Calls Try.prog 13 #[v] w fun e w' => ∃ r, e = .returned (.tuple #[r, .int .i64 (getTextsC xs)]) ∧ Own 9 w' w.heap.size r ((getTextsB xs).map Value.string) ∧ Below w.heap.size w w' := by
  have hr0 := hr
  obtain ⟨ao, cap, rfl, hcap, hmax, hnil, hr⟩ := hr
  rw [List.length_map] at hr hr0 ⊢
  clear hr
  have hR0 : Rdr (w.alloc (.cells #[.slice ao xs.length cap, .int .i64 0] 84)) w.heap.size (.slice ao xs.length cap) 0 := heap_alloc_new w _
  go_enter Try.func13, Try.ntmps13
  go_wp2_with fail
  refine (attemptTexts_any C w.heap.size _ _ xs hx hl hC (by simp) (hr0.grown (World.grownBy_alloc w _ none) (fun k hk => by cases hk)) hR0).mono ?_
  rintro e w1 ⟨⟨r, rfl, ho, hlen⟩, hg⟩
  have hb1 : Below w.heap.size w w1 := ((Below.refl _ _).alloc (Nat.le_refl _) _).grown hg (by simp) (fun k hk => by cases hk; exact Nat.le_refl _)
  have ho1 : Own 9 w1 w.heap.size r _ := ho.mono (by simp)
  clear ho hg hr0 hR0
  go_wp2_with fail
  go_ret2
  exact ⟨_, rfl, ho1, hb1⟩
end Go.Proofs.Ytbkdjaodbknlpaa
