/- What attempt does with texts; and the code's GetTexts. -/
import Derived.Test.YtpiadcjkbbgggaaAttempt
import Derived.Test.YtpiadcjkbbgggaaTextsImpl2
import Derived.Test.YtpiadcjkbbgggaaTextsDef
namespace Go.Proofs.Ytpiadcjkbbgggaa
open Go.RowKit
set_option linter.unusedVariables false

theorem getTexts_of {xs : List Int} {T : List ByteArray} {q : Nat} (h : textsL xs = some (T, q)) : getTexts xs = if q = xs.length then some T else none := by
  unfold getTexts
  rw [h]
theorem getTexts_nil {xs : List Int} (h : textsL xs = none) : getTexts xs = none := by
  unfold getTexts
  rw [h]

/-- What texts answers where it is all of the bytes. -/
def textsT (xs : List Int) (N : Nat) (e : Ending) (w' : World) : Prop := match getTexts xs with
  | some out => ∃ r, e = .returned r ∧ Own 9 w' N r (out.map Value.string) ∧ out.length ≤ 4096
  | none => Bad e

set_option maxHeartbeats 1000000 in
set_option maxRecDepth 100000 in
theorem allTexts_any (C b k0 k1 : Nat) (w : World) (va : Value) (xs : List Int) (hx : Bytes xs) (hl : xs.length ≤ 1048576) (hC : C ≤ b) (hb : b < w.heap.size) (hr : Rd C w va (xs.map (Value.int .u8))) (hR : Rdr w b va 0) (hk : k0 < w.heap.size) (hkb : k0 ≠ b) (h0 : w.cell? ⟨k0, 0, none⟩ = some va) (h1 : w.cell? ⟨k1, 0, none⟩ = some (.func (.func 42) #[] #[])) :
    Calls Try.prog 78 #[.pointer (some ⟨b, 0, none⟩), .pointer (some ⟨k1, 0, none⟩), .pointer (some ⟨k0, 0, none⟩)] w fun e w' => textsT xs w.heap.size e w' ∧ w.grownBy w' (some b) := by
  go_enter Try.func78, Try.ntmps78
  go_wp2_with fail
  refine (texts_any C b _ va xs hx hl hC hb hr hR).mono ?_
  rintro e w1 ⟨hn, hg⟩
  unfold textsR at hn
  cases hT : textsL xs with
  | none =>
    rw [hT] at hn
    have HN : Hid (textsT xs w.heap.size e w1) := by
      unfold Hid textsT
      rw [getTexts_nil hT]
      exact hn
    unfold Bad at hn
    subst hn
    exact ⟨rfl, HN.out, hg⟩
  | some z =>
    obtain ⟨out, p⟩ := z
    rw [hT] at hn
    obtain ⟨r, rfl, ho, hlen, hp, hR1⟩ := hn
    have c0 : w1.cell? ⟨k0, 0, none⟩ = some va := (World.cell?_of_block (w := w) (hg.block k0 hk (by simpa using hkb))).trans h0
    obtain ⟨ao, cap, rfl, hrr⟩ := hr
    clear hrr h0
    rw [List.length_map] at hR1 c0
    have r1 := hR1.c1
    by_cases hpe : p = xs.length
    · subst hpe
      have HN : Hid (∀ m, textsT xs w.heap.size (.returned r) (w1.drewN m)) := by
        intro m
        unfold textsT
        rw [getTexts_of hT, if_pos rfl]
        exact ⟨_, rfl, ho, hlen⟩
      clear hT
      go_wp2_with fail
      go_quiet ((go_at_call 79; exact Calls.quiet_of_same (require_yes _ _)))
      go_wp2_with fail
      go_ret
      exact ⟨HN.out _, grownBy_trans hg (grownBy_drewN _ _ _)⟩
    · have HN : Hid (∀ w', textsT xs w.heap.size (.panicked [{ v := .iface 108 (.int .i64 3), recovered := false }]) w') := by
        intro w'
        unfold textsT
        rw [getTexts_of hT, if_neg hpe]
        rfl
      have hpi : ((p : Int) == (xs.length : Int)) = false := by simp; omega
      have HG : Hid (∀ m, w.grownBy (w1.drewN m) (some b)) := fun m => grownBy_trans hg (grownBy_drewN _ _ _)
      generalize xs.length = len at hpi c0 hR1 hl hlen hp
      clear hT hpe
      go_wp2_with fail
      go_region_held2 (fun w' => w'.cell? ⟨b, 1, none⟩ = some (.int .i64 (p : Int)) ∧ w'.cell? ⟨k0, 0, none⟩ = some (.slice ao len cap)) (go_keep) (first | (go_at_call 79; refine (require_none _ _).mono ?_; rintro e w' (⟨rfl, rfl, hF⟩ | ⟨rfl, rfl⟩); rotate_left; exact ⟨rfl, HN.out _, HG.out 1⟩))
      all_goals exact (hF.out).elim

set_option maxHeartbeats 400000 in
theorem catchTexts_panic (p : Addr) (x : Int) (w : World) (hc : w.cell? p = some (.int .i64 x)) (hz : w.frozen? p = false) :
    CallsD Try.prog 97 #[.pointer (some p)] (.panicking [{ v := .iface 108 (.int .i64 3), recovered := false }]) w fun e u' w' =>
      e = .returned (.tuple #[]) ∧ u' = .panicking [{ v := .iface 108 (.int .i64 3), recovered := true }] ∧ w' = w.setCell p (.int .i64 3) := by
  refine callsD_of_wpS Try.func97 rfl fun c₀ cs hu => ?_
  apply wpS_seq
  apply wpS_region
  simp [wpOpsS, go_sem, recoverD, hu, Try.ntmps97, Exit.thenS]
  refine wpS_of_wp ?_
  rw [show Array.replicate 6 undef = #[undef, undef, undef, undef, undef, undef] from rfl]
  simp
  go_wp2_with (first | (go_at_call 90; refine (faultCode_any _).mono ?_; rintro e w' ⟨rfl, rfl⟩))
  simp [bodyPostS, results, Try.results97]

set_option maxHeartbeats 400000 in
theorem catchTexts_idle (p : Addr) (w : World) :
    CallsD Try.prog 97 #[.pointer (some p)] .returning w fun e u' w' => e = .returned (.tuple #[]) ∧ u' = .returning ∧ w' = w := by
  refine callsD_of_wpS Try.func97 rfl fun c₀ cs hu => ?_
  apply wpS_seq
  apply wpS_region
  simp [wpOpsS, go_sem, recoverD, hu, Try.ntmps97, Exit.thenS]
  refine wpS_of_wp ?_
  rw [show Array.replicate 6 undef = #[undef, undef, undef, undef, undef, undef] from rfl]
  simp
  go_wp2
  cases c₀
  simp_all [bodyPostS, results, Try.results97]

set_option maxHeartbeats 1000000 in
theorem attemptTexts_any (C b k0 k1 : Nat) (w : World) (va : Value) (xs : List Int) (hx : Bytes xs) (hl : xs.length ≤ 1048576) (hC : C ≤ b) (hb : b < w.heap.size) (hr : Rd C w va (xs.map (Value.int .u8))) (hR : Rdr w b va 0) (hk0 : k0 < w.heap.size) (hk1 : k1 < w.heap.size) (hkb : k0 ≠ b) (h0 : w.cell? ⟨k0, 0, none⟩ = some va) (h1 : w.cell? ⟨k1, 0, none⟩ = some (.func (.func 42) #[] #[])) :
    Calls Try.prog 77 #[.pointer (some ⟨b, 0, none⟩), .func (.func 78) #[] #[.pointer (some ⟨k1, 0, none⟩), .pointer (some ⟨k0, 0, none⟩)]] w fun e w' => (∃ r, e = .returned (.tuple #[r, .int .i64 (getTextsC xs)]) ∧ Own 9 w' w.heap.size r ((getTextsB xs).map Value.string) ∧ (getTextsB xs).length ≤ 4096) ∧ w.grownBy w' (some b) := by
  have hmf : ∀ (fn : Fn) (first cap : Array Value) (w : World), (Instr.makeFunc fn first cap).run Try.prog w = .ok (.func fn first cap) w := fun _ _ _ _ => rfl
  cases hG : getTexts xs with
  | none =>
    obtain ⟨e1, e2⟩ := getTexts_no hG
    rw [e1, e2]
    clear e1 e2
    have HG : Hid _ := hG
    clear hG
    go_enter_defers Try.func77, Try.ntmps77
    go_wp2_with fail
    refine (allTexts_any C b k0 k1 _ va xs hx hl hC (by simp; omega) (hr.grown (World.grownBy_alloc w _ none) (fun k hk => by cases hk)) (hR.alloc _) (by simp; omega) hkb ((World.cell?_of_block (w := w) (Below.heap_alloc w _ k0 hk0)).trans h0) ((World.cell?_of_block (w := w) (Below.heap_alloc w _ k1 hk1)).trans h1)).mono ?_
    rintro e w1 ⟨hn, hg⟩
    unfold textsT at hn
    rw [HG.out] at hn
    simp only at hn
    unfold Bad at hn
    subst hn
    obtain ⟨hc, hf, hg0, hgs⟩ := code_cell hb hg
    refine leaves_cons (f := 97) (args := #[.pointer (some ⟨w.heap.size, 0, none⟩)]) (by simp) (by simp [go_sem]) ?_
    refine (catchTexts_panic ⟨w.heap.size, 0, none⟩ 0 w1 hc hf).mono ?_
    rintro e u' w'' ⟨rfl, rfl, rfl⟩
    have hres : w.grownBy (w1.setCell ⟨w.heap.size, 0, none⟩ (.int .i64 3)) (some b) := hgs _
    have hcell : (w1.setCell ⟨w.heap.size, 0, none⟩ (.int .i64 3)).cell? ⟨w.heap.size, 0, none⟩ = some (.int .i64 3) := World.cell?_setCell_same w1 _ _ hc
    generalize w1.setCell ⟨w.heap.size, 0, none⟩ (.int .i64 3) = w2 at hres hcell ⊢
    simp [Leaves, settle, results, Try.results77, go_sem, hcell]
    exact ⟨⟨rfl, .inl ⟨rfl, rfl⟩⟩, hres⟩
  | some out =>
    obtain ⟨e1, e2⟩ := getTexts_yes hG
    rw [e1, e2]
    clear e1 e2
    have HG : Hid _ := hG
    clear hG
    go_enter_defers Try.func77, Try.ntmps77
    go_wp2_with fail
    refine (allTexts_any C b k0 k1 _ va xs hx hl hC (by simp; omega) (hr.grown (World.grownBy_alloc w _ none) (fun k hk => by cases hk)) (hR.alloc _) (by simp; omega) hkb ((World.cell?_of_block (w := w) (Below.heap_alloc w _ k0 hk0)).trans h0) ((World.cell?_of_block (w := w) (Below.heap_alloc w _ k1 hk1)).trans h1)).mono ?_
    rintro e w1 ⟨hn, hg⟩
    unfold textsT at hn
    rw [HG.out] at hn
    obtain ⟨r, rfl, ho1, hlen⟩ := hn
    obtain ⟨hc, hf, hg0, hgs⟩ := code_cell hb hg
    have ho2 : Own 9 (w1.setCell ⟨w.heap.size, 0, none⟩ (.int .i64 0)) w.heap.size r _ := (ho1.apart (grownBy_set w1 w.heap.size 0 (.int .i64 0)) (fun k hk => by cases hk; simp)).mono (by simp)
    have hres : w.grownBy (w1.setCell ⟨w.heap.size, 0, none⟩ (.int .i64 0)) (some b) := hgs _
    have hcell : (w1.setCell ⟨w.heap.size, 0, none⟩ (.int .i64 0)).cell? ⟨w.heap.size, 0, none⟩ = some (.int .i64 0) := World.cell?_setCell_same w1 _ _ hc
    clear hr hR hg0 hgs hg ho1
    go_wp2_with fail
    refine leaves_cons (f := 97) (args := #[.pointer (some ⟨w.heap.size, 0, none⟩)]) (by simp) (by simp [go_sem]) ?_
    refine (catchTexts_idle ⟨w.heap.size, 0, none⟩ _).mono ?_
    rintro e u' w'' ⟨rfl, rfl, rfl⟩
    generalize w1.setCell ⟨w.heap.size, 0, none⟩ (.int .i64 0) = w2 at hres hcell ho2 ⊢
    simp [Leaves, settle, results, Try.results77, go_sem, hcell]
    exact ⟨⟨ho2, hlen⟩, hres⟩

set_option maxHeartbeats 1000000 in
set_option maxRecDepth 100000 in
theorem attemptAllTexts_any (C : Nat) (w : World) (v : Value) (xs : List Int) (hx : Bytes xs) (hl : xs.length ≤ 1048576) (hC : C ≤ w.heap.size) (hr : Rd C w v (xs.map (Value.int .u8))) :
    Calls Try.prog 41 #[v, .func (.func 42) #[] #[]] w fun e w' => ∃ r, e = .returned (.tuple #[r, .int .i64 (getTextsC xs)]) ∧ Own 9 w' w.heap.size r ((getTextsB xs).map Value.string) ∧ Below w.heap.size w w' := by
  have hmf : ∀ (fn : Fn) (first cap : Array Value) (w : World), (Instr.makeFunc fn first cap).run Try.prog w = .ok (.func fn first cap) w := fun _ _ _ _ => rfl
  have hr0 := hr
  obtain ⟨ao, cap, rfl, hcap, hmax, hnil, hr⟩ := hr
  rw [List.length_map] at hr hr0 ⊢
  clear hr
  have hB0 : Below w.heap.size w (((w.alloc (.cells #[.slice ao xs.length cap] 22)).alloc (.cells #[.func (.func 42) #[] #[]] 60)).alloc (.cells #[.slice ao xs.length cap, .int .i64 0] 80)) := (((Below.refl _ _).alloc (Nat.le_refl _) _).alloc (by simp) _).alloc (by simp; omega) _
  have hR0 : Rdr (((w.alloc (.cells #[.slice ao xs.length cap] 22)).alloc (.cells #[.func (.func 42) #[] #[]] 60)).alloc (.cells #[.slice ao xs.length cap, .int .i64 0] 80)) (w.heap.size + 2) (.slice ao xs.length cap) 0 := by
    have := heap_alloc_new ((w.alloc (.cells #[.slice ao xs.length cap] 22)).alloc (.cells #[.func (.func 42) #[] #[]] 60)) (.cells #[.slice ao xs.length cap, .int .i64 0] 80)
    rw [World.size_alloc, World.size_alloc] at this
    exact this
  have k0 : (((w.alloc (.cells #[.slice ao xs.length cap] 22)).alloc (.cells #[.func (.func 42) #[] #[]] 60)).alloc (.cells #[.slice ao xs.length cap, .int .i64 0] 80)).heap[w.heap.size]? = some (.cells #[.slice ao xs.length cap] 22 (0, 0)) := by
    rw [Below.heap_alloc _ _ _ (by simp; omega), Below.heap_alloc _ _ _ (by simp)]
    exact heap_alloc_new w _
  have k1 : (((w.alloc (.cells #[.slice ao xs.length cap] 22)).alloc (.cells #[.func (.func 42) #[] #[]] 60)).alloc (.cells #[.slice ao xs.length cap, .int .i64 0] 80)).heap[w.heap.size + 1]? = some (.cells #[.func (.func 42) #[] #[]] 60 (0, 0)) := by
    rw [Below.heap_alloc _ _ _ (by simp)]
    have := heap_alloc_new (w.alloc (.cells #[.slice ao xs.length cap] 22)) (.cells #[.func (.func 42) #[] #[]] 60)
    rw [World.size_alloc] at this
    exact this
  have hc := attemptTexts_any C (w.heap.size + 2) w.heap.size (w.heap.size + 1) _ _ xs hx hl (by omega) (by simp) (hr0.below (hB0.mono hC)) hR0 (by simp only [World.size_alloc]; omega) (by simp only [World.size_alloc]; omega) (by omega) (at_cell k0) (at_cell k1)
  go_enter Try.func41, Try.ntmps41
  go_wp2_with fail
  refine hc.mono ?_
  rintro e w1 ⟨⟨r, rfl, ho, hlen⟩, hg⟩
  have hb1 : Below w.heap.size w w1 := hB0.grown hg (by simp; omega) (fun k hk => by cases hk; omega)
  have ho1 : Own 9 w1 w.heap.size r _ := ho.mono (by simp; omega)
  clear ho hg hr0 hR0 hc k0 k1 hB0
  go_wp2_with fail
  go_ret2
  exact ⟨_, rfl, ho1, hb1⟩

set_option maxHeartbeats 1000000 in
set_option maxRecDepth 100000 in
theorem implGetTexts_any (C : Nat) (w : World) (v : Value) (xs : List Int) (hx : Bytes xs) (hl : xs.length ≤ 1048576) (hC : C ≤ w.heap.size) (hr : Rd C w v (xs.map (Value.int .u8))) :
    Calls Try.prog 9 #[v] w fun e w' => ∃ r, e = .returned (.tuple #[r, .int .i64 (getTextsC xs)]) ∧ Own 9 w' w.heap.size r ((getTextsB xs).map Value.string) ∧ Below w.heap.size w w' := by
  have hc := attemptAllTexts_any C w v xs hx hl hC hr
  obtain ⟨ao, cap, rfl, hcap, hmax, hnil, hr⟩ := hr
  rw [List.length_map] at hr hc ⊢
  clear hr
  go_enter Try.func9, Try.ntmps9
  go_wp2_with fail
  refine hc.mono ?_
  rintro e w1 ⟨r, rfl, ho1, hb1⟩
  clear hc
  go_wp2_with fail
  go_ret2
  exact ⟨_, rfl, ho1, hb1⟩
end Go.Proofs.Ytpiadcjkbbgggaa
