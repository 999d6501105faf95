/- The walk of the law over the two functions ReadVec: it answers true whatever bytes it is given. -/
import Derived.Test.YtpiadcjkbbgggaaVecReadSpec
import Derived.Test.YtpiadcjkbbgggaaVecMarks
import Derived.Test.YtpiadcjkbbgggaaCells
import Derived.Test.YtpiadcjkbbgggaaCopies
import Derived.Test.YtpiadcjkbbgggaaFrame
namespace Go.Proofs.Ytpiadcjkbbgggaa
open Go.RowKit Go.Lib
set_option linter.unusedVariables false

set_option maxHeartbeats 4000000 in
set_option maxRecDepth 100000 in
theorem lawReadVec_walk (a0 : Option Addr) (len0 cap0 : Nat) (z0 : List Int) (w : World) (h0 : IsRow .u8 w a0 len0 cap0 z0) :
    Calls Try.prog 5 #[.slice a0 len0 cap0] w fun e w' => e = .returned (.bool true) ∧ Below w.heap.size w w' := by
  obtain ⟨hr, hlen⟩ := h0.rd
  have hx : Bytes (z0.take len0) := h0.bytes
  have hmx : len0 ≤ maxLen := by rcases h0 with ⟨_, rfl, _⟩ | ⟨_, _, h1, h2, _⟩ <;> omega
  clear h0
  unfold maxLen at hmx
  generalize z0.take len0 = xs at hr hlen hx
  subst hlen
  by_cases hl : (1048576 : Int) < (xs.length : Int)
  · go_enter Try.func5, Try.ntmps5
    go_wp2_with fail
    go_ret
    exact ⟨rfl, Below.refl _ _⟩
  · have hl' : xs.length ≤ 1048576 := by omega
    have hyl := readB_len hx
    have hSp := fun w' t (h : Rd w'.heap.size w' t (xs.map (Value.int .u8))) => specReadVec_any w'.heap.size w' t xs hx hl' (Nat.le_refl _) h
    have hIm := fun w' t (h : Rd w'.heap.size w' t (xs.map (Value.int .u8))) => implReadVec_any w'.heap.size w' t xs hx hl' (Nat.le_refl _) h
    unfold RvAns at hSp hIm
    generalize readB xs = Y at hyl hSp hIm
    generalize readC xs = kc at hSp hIm
    go_enter Try.func5, Try.ntmps5
    go_wp2_with fail
    refine (toByteS_any _ w _ xs hl' (Nat.le_refl _) hr).mono ?_
    rintro e w1 ⟨t1, rfl, ho1, hb1⟩
    go_wp2_with fail
    refine (hSp w1 t1 ho1.rd).mono ?_
    rintro e w2 ⟨a2, n2, k2, T2, rfl, ho2, hb2⟩
    have s2 := (below_seq hb1 hb2).size
    have hB2 := below_then (below_seq hb1 hb2) (.cells #[.slice a2 n2 k2] 38)
    have hE2 : Env (w2.alloc (.cells #[.slice a2 n2 k2] 38)) [(w2.heap.size, .slice a2 n2 k2)] := (Env.add (w := w2) (L := []) (fun p hp => by simp at hp) (.slice a2 n2 k2) 38)
    have rd2 : Rd w2.heap.size (w2.alloc (.cells #[.slice a2 n2 k2] 38)) (.slice a2 n2 k2) (Y.map (Value.int .i64)) := ho2.rd.alloc _ (Nat.le_refl _)
    clear hSp ho1 ho2 hb1 hb2
    go_wp2_with fail
    refine (toByteS_any _ _ _ xs hl' hB2.size (hr.below hB2)).mono ?_
    rintro e w3 ⟨x0, rfl, hox, hb3⟩
    have hB3 := below_seq hB2 hb3
    have hE3 := hE2.below hb3
    have rd3 := rd2.below (hb3.mono (by rw [World.size_alloc]; omega))
    have s3 := hb3.size
    rw [World.size_alloc] at s3 hox
    have hxk := hox.blk
    have hxl := hox.lt
    clear hB2 hE2 rd2 hb3
    go_wp2_with fail
    refine (hIm w3 x0 hox.rd).mono ?_
    rintro e w4 ⟨a4, n4, k4, T4, rfl, ho4, hb4⟩
    have hB4 := below_then (below_seq hB3 hb4) (.cells #[.slice a4 n4 k4] 38)
    have hE4 := (hE3.below hb4).add (.slice a4 n4 k4) 38
    have rd4 := (rd3.below (hb4.mono (by omega))).alloc (.cells #[.slice a4 n4 k4] 38) (by have := hb4.size; omega)
    have hx4 := World.ownsRow.alloc (hox.below hb4 (Nat.le_refl _)) (.cells #[.slice a4 n4 k4] 38)
    have hg4 := World.ownsRow.alloc ho4 (.cells #[.slice a4 n4 k4] 38)
    have hgk := ho4.blk
    have hgl := ho4.lt
    have s4 := hb4.size
    have cG := (hE4 (w4.heap.size, .slice a4 n4 k4) (by simp)).1
    have cR := (hE4 (w2.heap.size, .slice a2 n2 k2) (by simp)).1
    replace hx4 : Own 5 _ (w2.heap.size + 1) x0 _ := hx4
    replace hg4 : Own T4 _ w3.heap.size (.slice a4 n4 k4) _ := hg4
    clear hB3 hE3 rd3 hox ho4 hb4
    go_wp2_with fail
    refine (eqVector_same _ _ _ _ _ Y (by omega) (Nat.le_refl _) (by rw [World.size_alloc]; omega) hg4.rd rd4).mono ?_
    rintro e w5 ⟨rfl, hb5⟩
    have hB5 := below_seq hB4 hb5
    have hE5 := hE4.below hb5
    have s5 := hb5.size
    rw [World.size_alloc] at s5
    have rd5 := rd4.below (hb5.mono (by rw [World.size_alloc]; omega))
    have hx5 := hx4.below hb5 (Nat.le_refl _)
    have hg5 := hg4.below hb5 (Nat.le_refl _)
    clear hB4 hE4 rd4 hx4 hg4 hb5 cG cR
    go_wp2_with fail
    refine (toByteS_any _ _ _ xs hl' hB5.size (hr.below hB5)).mono ?_
    rintro e w6 ⟨t6, rfl, ho6, hb6⟩
    have hB6 := below_seq hB5 hb6
    have hE6 := hE5.below hb6
    have s6 := hb6.size
    have rd6 := rd5.below (hb6.mono (by omega))
    have hx6 := hx5.below hb6 (Nat.le_refl _)
    have hg6 := hg5.below hb6 (Nat.le_refl _)
    clear hB5 hE5 rd5 hx5 hg5 hb6
    go_wp2_with fail
    refine (eqByteS_same _ _ w6 x0 t6 xs (by omega) hx6.rd ho6.rd).mono ?_
    rintro e w7 ⟨rfl, n7, rfl⟩
    replace hB6 := below_drewN hB6 n7
    replace hE6 : Env (w6.drewN n7) _ := hE6
    replace rd6 : Rd _ (w6.drewN n7) _ _ := rd6
    replace hx6 : Own 5 (w6.drewN n7) _ _ _ := hx6
    replace hg6 : Own T4 (w6.drewN n7) _ _ _ := hg6
    have s7 : w5.heap.size ≤ (w6.drewN n7).heap.size := s6
    clear ho6 s6
    generalize w6.drewN n7 = w7 at *
    go_wp2_with fail
    refine (markByteS_any (w2.heap.size + 1) w7 x0 _ 1 (by simp; omega) (by omega) hx6).mono ?_
    rintro e w8 ⟨rfl, _, hb8, hg8⟩
    rw [List.length_map]
    have hE8 := hE6.mark hg8 (fun k hk p hp => by
      have h1 := hxl k hk
      have h2 := hxk k hk
      simp only [List.mem_cons, List.not_mem_nil, or_false] at hp
      rcases hp with rfl | rfl <;> simp only <;> omega)
    have s8 := hb8.size
    have hB8 : Below w.heap.size w w8 := hB6.trans (hb8.mono (by omega))
    have rd8 := rd6.below (hb8.mono (by omega))
    have hg8' := hg6.apart hg8 (fun k hk => by have := hxk k hk; omega)
    have hnk : ¬ ((1 + xs.length : Nat) : Int) < 0 := by omega
    have cG := (hE8 (w4.heap.size, .slice a4 n4 k4) (by simp)).1
    have cR := (hE8 (w2.heap.size, .slice a2 n2 k2) (by simp)).1
    have l8 := hE8.lt (p := (w4.heap.size, .slice a4 n4 k4)) (by simp)
    clear hB6 hE6 rd6 hx6 hg6 hb8 hg8
    go_wp2_with fail
    refine (eqVector_same _ _ _ _ _ Y (by omega) (Nat.le_refl _) (by omega) hg8'.rd rd8).mono ?_
    rintro e w9 ⟨rfl, hb9⟩
    have hB9 := below_seq hB8 hb9
    have hE9 := hE8.below hb9
    have s9 := hb9.size
    have rd9 := rd8.below (hb9.mono (by omega))
    have hg9 := hg8'.below hb9 (Nat.le_refl _)
    have cG9 := (hE9 (w4.heap.size, .slice a4 n4 k4) (by simp)).1
    clear hB8 hE8 rd8 hg8' hb9 cG cR
    go_wp2_with fail
    refine (markVector_any w3.heap.size w9 _ _ _ _ 1 (by simp; omega) (by omega) (by omega) hg9).mono ?_
    rintro e w10 ⟨rfl, ho10, hb10, hg10⟩
    rw [List.length_map] at ho10 ⊢
    have hE10 := hE9.mark hg10 (fun k hk p hp => by
      have h1 := hgl k hk
      have h2 := hgk k hk
      simp only [List.mem_cons, List.not_mem_nil, or_false] at hp
      rcases hp with rfl | rfl <;> simp only <;> omega)
    have s10 := hb10.size
    have hB10 : Below w.heap.size w w10 := hB9.trans (hb10.mono (by have := hB9.size; omega))
    have rd10 := rd9.below (hb10.mono (by omega))
    have cG10 := (hE10 (w4.heap.size, .slice a4 n4 k4) (by simp)).1
    clear hB9 hE9 rd9 hg9 hb10 hg10 cG9
    go_wp2_with fail
    refine (heldVector_same _ w10 _ 1 Y.length (by omega) (by omega) (Nat.le_refl _) ho10.rd).mono ?_
    rintro e w11 ⟨rfl, hb11⟩
    have hB11 := below_seq hB10 hb11
    have hE11 := hE10.below hb11
    have s11 := hb11.size
    have rd11 := rd10.below (hb11.mono (by omega))
    have ho11 := ho10.below hb11 (Nat.le_refl _)
    have hnq : ¬ ((1 + Y.length : Nat) : Int) < 0 := by omega
    clear hB10 hE10 rd10 ho10 hb11 cG10
    go_wp2_with fail
    refine (toByteS_any _ _ _ xs hl' hB11.size (hr.below hB11)).mono ?_
    rintro e w12 ⟨t12, rfl, ho12, hb12⟩
    have hB12 := below_seq hB11 hb12
    have hE12 := hE11.below hb12
    have s12 := hb12.size
    have rd12 := rd11.below (hb12.mono (by omega))
    have hm12 := ho11.below hb12 (Nat.le_refl _)
    clear hB11 hE11 rd11 ho11 hb12
    go_wp2_with fail
    refine (hIm w12 t12 ho12.rd).mono ?_
    rintro e w13 ⟨a13, n13, k13, T13, rfl, ho13, hb13⟩
    have hB13 := below_then (below_seq hB12 hb13) (.cells #[.slice a13 n13 k13] 38)
    have hE13 := (hE12.below hb13).add (.slice a13 n13 k13) 38
    have s13 := hb13.size
    have rd13 := (rd12.below (hb13.mono (by omega))).alloc (.cells #[.slice a13 n13 k13] 38) (by omega)
    have hm13 := World.ownsRow.alloc (hm12.below hb13 (Nat.le_refl _)) (.cells #[.slice a13 n13 k13] 38)
    have hh13 := World.ownsRow.alloc ho13 (.cells #[.slice a13 n13 k13] 38)
    replace hm13 : Own T4 _ w3.heap.size (.slice a4 n4 k4) _ := hm13
    replace hh13 : Own T13 _ w12.heap.size (.slice a13 n13 k13) _ := hh13
    have cH := (hE13 (w13.heap.size, .slice a13 n13 k13) (by simp)).1
    have cR := (hE13 (w2.heap.size, .slice a2 n2 k2) (by simp)).1
    clear hB12 hE12 rd12 hm12 ho13 hb13 hIm ho12
    go_wp2_with fail
    refine (eqVector_same _ _ _ _ _ Y (by omega) (Nat.le_refl _) (by rw [World.size_alloc]; omega) hh13.rd rd13).mono ?_
    rintro e w14 ⟨rfl, hb14⟩
    have hB14 := below_seq hB13 hb14
    have hE14 := hE13.below hb14
    have hm14 := hm13.below hb14 (Nat.le_refl _)
    have cG14 := (hE14 (w4.heap.size, .slice a4 n4 k4) (by simp)).1
    clear hB13 hE13 rd13 hm13 hh13 hb14 cH cR
    go_wp2_with fail
    refine (heldVector_same _ w14 _ 1 Y.length (by omega) (by omega) (Nat.le_refl _) hm14.rd).mono ?_
    rintro e w15 ⟨rfl, hb15⟩
    have hB15 := below_seq hB14 hb15
    go_wp2_with fail
    go_ret
    exact ⟨rfl, hB15⟩
end Go.Proofs.Ytpiadcjkbbgggaa
