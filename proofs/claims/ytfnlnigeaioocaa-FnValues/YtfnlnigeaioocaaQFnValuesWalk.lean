/- The walk of the law FnValues: it answers true at all bytes. -/
import Derived.Test.YtfnlnigeaioocaaQSameLaws
import Derived.Test.YtfnlnigeaioocaaQSetJoinImplToJoinLat
import Derived.Test.YtfnlnigeaioocaaQFrame
namespace Go.Proofs.Ytfnlnigeaioocaa
open Go.RowKit
set_option linter.unusedVariables false

/-- A variable that holds a value which can be read. -/
def Vr (w : World) (n : Nat) (x y : Value) (xs : List Int) (ls : List En) : Prop := Dy w n x y ∧ Rd w.heap.size w x (xs.map (Value.int .i64)) ∧ RdE w.heap.size w y ls
theorem vrOn {w w' : World} {n : Nat} {x y : Value} {xs : List Int} {ls : List En} (h : Hid (Vr w n x y xs ls)) (hb : Below w.heap.size w w') : Hid (Vr w' n x y xs ls) := ⟨h.out.1.on hb, rd_gr h.out.2.1 (grownBy_below hb (Nat.le_refl _) none) (fun _ _ _ _ => by simp), rdE_gr h.out.2.2 (grownBy_below hb (Nat.le_refl _) none) (fun _ _ _ _ => by simp)⟩
theorem vrMade {g z : World} {B E : Nat} {x y : Value} {T : TypeId} {xs : List Int} {ls : List En} (S : Sv g B E x y xs ls) (h : g.alloc (.cells #[x, y] T) = z) : Hid (Vr z g.heap.size x y xs ls) := by
  rw [← h]
  exact ⟨Dy.made g x y T, (S.alloc _).rd, (S.alloc _).rdE⟩
theorem onMade {w g z : World} {o : Obj} (hb : Below w.heap.size w g) (h : g.alloc o = z) : Below w.heap.size w z := by
  rw [← h]
  exact below_then hb _
theorem onMade2 {w g z : World} {o o' : Obj} (hb : Below w.heap.size w g) (h : (g.alloc o).alloc o' = z) : Below w.heap.size w z := by
  rw [← h]
  exact below_then (below_then hb _) _
theorem vrTwo1 {g z : World} {x y x' y' : Value} {T : TypeId} {xs : List Int} {ls : List En} (h1 : Rd g.heap.size g x (xs.map (Value.int .i64))) (h2 : RdE g.heap.size g y ls) (h : (g.alloc (.cells #[x, y] T)).alloc (.cells #[x', y'] T) = z) : Hid (Vr z g.heap.size x y xs ls) := by
  have hb : Below g.heap.size g z := by rw [← h]; exact below_then (below_alloc _ _) _
  refine ⟨?_, rd_gr h1 (grownBy_below hb (Nat.le_refl _) none) (fun _ _ _ _ => by simp), rdE_gr h2 (grownBy_below hb (Nat.le_refl _) none) (fun _ _ _ _ => by simp)⟩
  rw [← h]
  exact (Dy.made g x y T).on (below_alloc _ _)
theorem vrTwo2 {g z : World} {x y x' y' : Value} {T : TypeId} {xs : List Int} {ls : List En} (h1 : Rd g.heap.size g x' (xs.map (Value.int .i64))) (h2 : RdE g.heap.size g y' ls) (h : (g.alloc (.cells #[x, y] T)).alloc (.cells #[x', y'] T) = z) : Hid (Vr z (g.heap.size + 1) x' y' xs ls) := by
  have hb : Below g.heap.size g z := by rw [← h]; exact below_then (below_alloc _ _) _
  refine ⟨?_, rd_gr h1 (grownBy_below hb (Nat.le_refl _) none) (fun _ _ _ _ => by simp), rdE_gr h2 (grownBy_below hb (Nat.le_refl _) none) (fun _ _ _ _ => by simp)⟩
  have := Dy.made (g.alloc (.cells #[x, y] T)) x' y' T
  rw [World.size_alloc, h] at this
  exact this
theorem jn_zero {xs : List Int} {ls : List En} {ys : List Int} {ms : List En} (h : jnC xs ls ys ms = 0) : okJ xs ls = true ∧ okJ ys ms = true ∧ (jnL xs ys ls ms).length ≤ 256 ∧ jnV xs ls ys ms = List.zipWith mxI xs ys ∧ jnE xs ls ys ms = jnL xs ys ls ms := by
  unfold jnC at h
  split at h
  · rename_i hk
    split at h
    · rename_i hl
      obtain ⟨_, e1, e2⟩ := jn_done hk hl
      exact ⟨hk.1, hk.2, hl, e1, e2⟩
    · cases h
  · cases h
/-- Joined the other way round. -/
theorem jn_turn {xs : List Int} {ls : List En} {ys : List Int} {ms : List En} (h : jnC xs ls ys ms = 0) : jnC ys ms xs ls = 0 ∧ jnV ys ms xs ls = jnV xs ls ys ms ∧ jnE ys ms xs ls = jnE xs ls ys ms := by
  obtain ⟨h1, h2, hl, e1, e2⟩ := jn_zero h
  have hc := jnL_comm h1 h2
  obtain ⟨d0, d1, d2⟩ := jn_done (xs := ys) (ls := ms) (ys := xs) (ms := ls) ⟨h2, h1⟩ (by rw [hc]; exact hl)
  exact ⟨d0, by rw [d1, e1, zipJ_comm], by rw [d2, e2, hc]⟩
/-- Joined once more. -/
theorem jn_more {xs : List Int} {ls : List En} {ys : List Int} {ms : List En} (h : jnC xs ls ys ms = 0) : jnC (jnV xs ls ys ms) (jnE xs ls ys ms) ys ms = 0 ∧ jnE (jnV xs ls ys ms) (jnE xs ls ys ms) ys ms = jnE xs ls ys ms := by
  obtain ⟨h1, h2, hl, e1, e2⟩ := jn_zero h
  have hi := jnL_idem h1 h2
  have hv := jn_valid h1 h2 hl
  rw [e1, e2]
  obtain ⟨d0, d1, d2⟩ := jn_done (xs := List.zipWith mxI xs ys) (ls := jnL xs ys ls ms) (ys := ys) (ms := ms) ⟨hv, h2⟩ (by rw [hi]; exact hl)
  exact ⟨d0, by rw [d2, hi]⟩
/-- Joined with a third one, whichever is joined first. -/
theorem jn_three {xs ys zs : List Int} {ls ms ns : List En} (h1 : jnC xs ls ys ms = 0) (h2 : jnC ys ms zs ns = 0) (h3 : jnC (jnV xs ls ys ms) (jnE xs ls ys ms) zs ns = 0) (h4 : jnC xs ls (jnV ys ms zs ns) (jnE ys ms zs ns) = 0) :
    jnV (jnV xs ls ys ms) (jnE xs ls ys ms) zs ns = jnV xs ls (jnV ys ms zs ns) (jnE ys ms zs ns) ∧ jnE (jnV xs ls ys ms) (jnE xs ls ys ms) zs ns = jnE xs ls (jnV ys ms zs ns) (jnE ys ms zs ns) := by
  obtain ⟨k1, k2, _, e1, e2⟩ := jn_zero h1
  obtain ⟨_, k3, _, e3, e4⟩ := jn_zero h2
  obtain ⟨_, _, _, e5, e6⟩ := jn_zero h3
  obtain ⟨_, _, _, e7, e8⟩ := jn_zero h4
  rw [e5, e6, e7, e8, e1, e2, e3, e4]
  exact ⟨zipJ_assoc _ _ _, jnL_assoc k1 k2 k3⟩
theorem lensV (xs : List Int) (ls : List En) (ys : List Int) (ms : List En) : (jnV xs ls ys ms).length ≤ 1048576 ∧ (jnE xs ls ys ms).length ≤ 1048576 := by
  by_cases h : jnC xs ls ys ms = 0
  · obtain ⟨k1, k2, hl, e1, e2⟩ := jn_zero h
    rw [e1, e2, List.length_zipWith]
    have := (vecOK_get (vecOK_ofS k1).1).1
    omega
  · unfold jnV jnE
    rw [if_neg h, if_neg h]
    simp

set_option maxHeartbeats 40000000 in
set_option maxRecDepth 100000 in
theorem lawFnValues_core (va vb : Value) (cs ds : List Int) (w : World) (ha : Rd w.heap.size w va (cs.map (Value.int .u8))) (hX : ∀ x ∈ cs, 0 ≤ x ∧ x ≤ 255) (hb : Rd w.heap.size w vb (ds.map (Value.int .u8))) (hY : ∀ x ∈ ds, 0 ≤ x ∧ x ≤ 255) :
    Calls Try.prog 3 #[va, vb] w fun e w' => e = .returned (.bool true) ∧ Below w.heap.size w w' := by
  obtain ⟨ao, ac, hva, _⟩ := id ha
  obtain ⟨bo, bc, hvb, _⟩ := id hb
  rw [List.length_map] at hva hvb
  subst hva hvb
  have hB := Below.refl w.heap.size w
  by_cases hca : cs.length ≤ 1048576
  · by_cases hcb : ds.length ≤ 1048576
    · have i0 : ¬ (1048576 : Int) < (cs.length : Int) := by omega
      have i1 : ¬ (1048576 : Int) < (ds.length : Int) := by omega
      have HA : Hid (Rd w.heap.size w (.slice ao cs.length ac) (cs.map (Value.int .u8))) := ha
      have HB : Hid (Rd w.heap.size w (.slice bo ds.length bc) (ds.map (Value.int .u8))) := hb
      have HX : Hid (∀ x ∈ cs, 0 ≤ x ∧ x ≤ 255) := hX
      have HY : Hid (∀ x ∈ ds, 0 ≤ x ∧ x ≤ 255) := hY
      have HL : Hid (cs.length ≤ 1048576 ∧ ds.length ≤ 1048576) := ⟨hca, hcb⟩
      clear ha hb hX hY hca hcb
      go_enter Try.func3, Try.ntmps3
      go_wp2_with fail
      (try clear hv)
      refine (drawSetJoin_any w.heap.size _ _ cs hB.size (HA.out.belowW hB (Nat.le_refl _)) HX.out HL.out.1).mono ?_
      rintro e g1 ⟨Aa, Ab, Ac, Ad, Ae, Af, Ba, Bb, Bc, Bd, Be, Bf, rfl, T1, hb1⟩
      obtain ⟨⟨xs, lxs, r1a⟩, ⟨ls, lls, r1b⟩, ⟨ys, lys, r1c⟩, ⟨ms, lms, r1d⟩, _, _, _, _⟩ := T1
      obtain ⟨v1, hv⟩ : ∃ z, (g1.alloc (.cells #[.slice Aa Ab Ac, .slice Ad Ae Af] 28)).alloc (.cells #[.slice Ba Bb Bc, .slice Bd Be Bf] 28) = z := ⟨_, rfl⟩
      have VA : Hid (Vr v1 g1.heap.size (.slice Aa Ab Ac) (.slice Ad Ae Af) xs ls) := vrTwo1 r1a.rd r1b.rd hv
      have VB : Hid (Vr v1 (g1.heap.size + 1) (.slice Ba Bb Bc) (.slice Bd Be Bf) ys ms) := vrTwo2 r1c.rd r1d.rd hv
      have hz1 := onMade2 hb1 hv
      replace hB := below_seq hB hz1
      clear hb1 hz1 r1a r1b r1c r1d
      obtain ⟨l1, l2⟩ := lensV xs ls ys ms
      have hP := fun C w v ve v' ve' hC hv he hv' he' => specSetJoin_of l03Join_any C w v ve v' ve' xs ys ls ms hC hv he hv' he'
      have hI := fun C w v ve v' ve' hC hv he hv' he' => implSetJoin_any C w v ve v' ve' xs ys ls ms hC hv he hv' he'
      unfold SvAns at hP hI
      have HTU : Hid (jnC xs ls ys ms = 0 → _) := jn_turn (xs := xs) (ls := ls) (ys := ys) (ms := ms)
      have HMO : Hid (jnC xs ls ys ms = 0 → _) := jn_more (xs := xs) (ls := ls) (ys := ys) (ms := ms)
      have HLM := HMO
      generalize jnV xs ls ys ms = us at *
      generalize jnE xs ls ys ms = bs at *
      generalize jnC xs ls ys ms = k at *
      obtain ⟨⟨c0, d0⟩, _⟩ := VA.out.1
      obtain ⟨⟨c1, d1⟩, _⟩ := VB.out.1
      go_wp2_with fail
      (try clear hv)
      refine (hP _ _ _ _ _ _ (Nat.le_refl _) VA.out.2.1 VA.out.2.2 VB.out.2.1 VB.out.2.2).mono ?_
      rintro e g2 ⟨x2, y2, rfl, S2, hb2⟩
      obtain ⟨Ca, Cb, Cc, Cd, Ce, Cf, rfl, rfl⟩ := S2.shape
      obtain ⟨v2, hv⟩ : ∃ z, g2.alloc (.cells #[.slice Ca Cb Cc, .slice Cd Ce Cf] 28) = z := ⟨_, rfl⟩
      have VC : Hid (Vr v2 g2.heap.size (.slice Ca Cb Cc) (.slice Cd Ce Cf) us bs) := vrMade S2 hv
      have hz2 := onMade hb2 hv
      replace hB := below_seq hB hz2
      replace VA := vrOn VA hz2
      replace VB := vrOn VB hz2
      clear hb2 S2 hz2 c0 c1 d0 d1
      obtain ⟨⟨c0, d0⟩, _⟩ := VA.out.1
      obtain ⟨⟨c1, d1⟩, _⟩ := VB.out.1
      go_wp2_with fail
      (try clear hv)
      refine (hI _ _ _ _ _ _ (Nat.le_refl _) VA.out.2.1 VA.out.2.2 VB.out.2.1 VB.out.2.2).mono ?_
      rintro e g3 ⟨x3, y3, rfl, S3, hb3⟩
      obtain ⟨Da, Db, Dc, Dd, De, Df, rfl, rfl⟩ := S3.shape
      obtain ⟨v3, hv⟩ : ∃ z, g3.alloc (.cells #[.slice Da Db Dc, .slice Dd De Df] 28) = z := ⟨_, rfl⟩
      have VD : Hid (Vr v3 g3.heap.size (.slice Da Db Dc) (.slice Dd De Df) us bs) := vrMade S3 hv
      have hz3 := onMade hb3 hv
      replace hB := below_seq hB hz3
      replace VA := vrOn VA hz3
      replace VB := vrOn VB hz3
      replace VC := vrOn VC hz3
      clear hb3 S3 hz3 c0 c1 d0 d1
      clear hP hI
      obtain ⟨⟨c0, d0⟩, _⟩ := VD.out.1
      obtain ⟨⟨c1, d1⟩, _⟩ := VC.out.1
      go_wp2_with fail
      (try clear hv)
      refine (sameIntsV _ _ _ _ _ us (by omega) VD.out.2.1 VC.out.2.1).mono ?_
      rintro e g4 ⟨rfl, hb4⟩
      replace hB := below_seq hB hb4
      replace VA := vrOn VA hb4
      replace VB := vrOn VB hb4
      replace VC := vrOn VC hb4
      replace VD := vrOn VD hb4
      clear hb4
      clear c0 d0 c1 d1
      obtain ⟨⟨c0, d0⟩, _⟩ := VD.out.1
      obtain ⟨⟨c1, d1⟩, _⟩ := VC.out.1
      go_wp2_with fail
      (try clear hv)
      refine (sameEntriesV _ _ _ _ _ bs (by omega) VD.out.2.2 VC.out.2.2).mono ?_
      rintro e g5 ⟨rfl, hb5⟩
      replace hB := below_seq hB hb5
      replace VA := vrOn VA hb5
      replace VB := vrOn VB hb5
      replace VC := vrOn VC hb5
      replace VD := vrOn VD hb5
      clear hb5
      clear c0 d0 c1 d1
      obtain ⟨⟨c0, d0⟩, _⟩ := VD.out.1
      obtain ⟨⟨c1, d1⟩, _⟩ := VC.out.1
      clear c0 d0 c1 d1
      go_upto_if 84 with fail
      (try clear hv)
      go_cut [11, 12, 13, 14] from 84 (fun t11 t12 t13 t14 wx => Below w.heap.size w wx)
      case first =>
        by_cases hk : k = 0
        · obtain ⟨t0, t1, t2⟩ := HTU.out hk
          obtain ⟨m0, m1⟩ := HMO.out hk
          have hI := fun C w v ve v' ve' hC hv he hv' he' => implSetJoin_any C w v ve v' ve' ys xs ms ls hC hv he hv' he'
          have hJ := fun C w v ve v' ve' hC hv he hv' he' => implSetJoin_any C w v ve v' ve' us ys bs ms hC hv he hv' he'
          unfold SvAns at hI hJ
          rw [t0, t1, t2] at hI
          rw [m0, m1] at hJ
          obtain ⟨l3, _⟩ := lensV us bs ys ms
          generalize jnV us bs ys ms = ws at hJ l3
          have e0 : (k == 0) = true := by simpa using hk
          clear t0 t1 t2 m0 m1 hk HTU HMO HLM
          obtain ⟨⟨c0, d0⟩, _⟩ := VB.out.1
          obtain ⟨⟨c1, d1⟩, _⟩ := VA.out.1
          go_wp2_with fail
          (try clear hv)
          refine (hI _ _ _ _ _ _ (Nat.le_refl _) VB.out.2.1 VB.out.2.2 VA.out.2.1 VA.out.2.2).mono ?_
          rintro e g6 ⟨x6, y6, rfl, S6, hb6⟩
          obtain ⟨Ea, Eb, Ec, Ed, Ee, Ef, rfl, rfl⟩ := S6.shape
          obtain ⟨v6, hv⟩ : ∃ z, g6.alloc (.cells #[.slice Ea Eb Ec, .slice Ed Ee Ef] 28) = z := ⟨_, rfl⟩
          have VE : Hid (Vr v6 g6.heap.size (.slice Ea Eb Ec) (.slice Ed Ee Ef) us bs) := vrMade S6 hv
          have hz6 := onMade hb6 hv
          replace hB := below_seq hB hz6
          replace VA := vrOn VA hz6
          replace VB := vrOn VB hz6
          replace VC := vrOn VC hz6
          replace VD := vrOn VD hz6
          clear hb6 S6 hz6 c0 c1 d0 d1
          obtain ⟨⟨c0, d0⟩, _⟩ := VD.out.1
          obtain ⟨⟨c1, d1⟩, _⟩ := VB.out.1
          go_wp2_with fail
          (try clear hv)
          refine (hJ _ _ _ _ _ _ (Nat.le_refl _) VD.out.2.1 VD.out.2.2 VB.out.2.1 VB.out.2.2).mono ?_
          rintro e g7 ⟨x7, y7, rfl, S7, hb7⟩
          obtain ⟨Ga, Gb, Gc, Gd, Ge, Gf, rfl, rfl⟩ := S7.shape
          obtain ⟨v7, hv⟩ : ∃ z, g7.alloc (.cells #[.slice Ga Gb Gc, .slice Gd Ge Gf] 28) = z := ⟨_, rfl⟩
          have VG : Hid (Vr v7 g7.heap.size (.slice Ga Gb Gc) (.slice Gd Ge Gf) ws bs) := vrMade S7 hv
          have hz7 := onMade hb7 hv
          replace hB := below_seq hB hz7
          replace VA := vrOn VA hz7
          replace VB := vrOn VB hz7
          replace VC := vrOn VC hz7
          replace VD := vrOn VD hz7
          replace VE := vrOn VE hz7
          clear hb7 S7 hz7 c0 c1 d0 d1
          clear hI hJ
          obtain ⟨⟨c0, d0⟩, _⟩ := VE.out.1
          obtain ⟨⟨c1, d1⟩, _⟩ := VD.out.1
          go_wp2_with fail
          (try clear hv)
          refine (sameEntriesV _ _ _ _ _ bs (by omega) VE.out.2.2 VD.out.2.2).mono ?_
          rintro e g8 ⟨rfl, hb8⟩
          replace hB := below_seq hB hb8
          replace VA := vrOn VA hb8
          replace VB := vrOn VB hb8
          replace VC := vrOn VC hb8
          replace VD := vrOn VD hb8
          replace VE := vrOn VE hb8
          replace VG := vrOn VG hb8
          clear hb8
          clear c0 d0 c1 d1
          obtain ⟨⟨c0, d0⟩, _⟩ := VE.out.1
          obtain ⟨⟨c1, d1⟩, _⟩ := VD.out.1
          clear c0 d0 c1 d1
          obtain ⟨⟨c0, d0⟩, _⟩ := VG.out.1
          obtain ⟨⟨c1, d1⟩, _⟩ := VD.out.1
          go_wp2_with fail
          (try clear hv)
          refine (sameEntriesV _ _ _ _ _ bs (by omega) VG.out.2.2 VD.out.2.2).mono ?_
          rintro e g9 ⟨rfl, hb9⟩
          replace hB := below_seq hB hb9
          replace VA := vrOn VA hb9
          replace VB := vrOn VB hb9
          replace VC := vrOn VC hb9
          replace VD := vrOn VD hb9
          replace VE := vrOn VE hb9
          replace VG := vrOn VG hb9
          clear hb9
          clear c0 d0 c1 d1
          obtain ⟨⟨c0, d0⟩, _⟩ := VG.out.1
          obtain ⟨⟨c1, d1⟩, _⟩ := VD.out.1
          clear c0 d0 c1 d1
          obtain ⟨⟨c0, d0⟩, _⟩ := VE.out.1
          obtain ⟨⟨c1, d1⟩, _⟩ := VD.out.1
          go_wp2_with fail
          (try clear hv)
          refine (sameIntsV _ _ _ _ _ us (by omega) VE.out.2.1 VD.out.2.1).mono ?_
          rintro e g10 ⟨rfl, hb10⟩
          replace hB := below_seq hB hb10
          replace VA := vrOn VA hb10
          replace VB := vrOn VB hb10
          replace VC := vrOn VC hb10
          replace VD := vrOn VD hb10
          replace VE := vrOn VE hb10
          replace VG := vrOn VG hb10
          clear hb10
          clear c0 d0 c1 d1
          obtain ⟨⟨c0, d0⟩, _⟩ := VE.out.1
          obtain ⟨⟨c1, d1⟩, _⟩ := VD.out.1
          go_wp2_with fail
          go_meet
          case rel => exact hB
        · have hk0 : (k == 0) = false := by simpa using hk
          go_wp2_with fail
          go_meet
          case rel => exact hB
      case rest =>
        clear hB VA VB VC VD
        have hB := hcut
        clear hcut
        go_wp2_with fail
        (try clear hv)
        refine (drawMultiJoin_any w.heap.size _ _ cs hB.size (HA.out.belowW hB (Nat.le_refl _)) HX.out HL.out.1).mono ?_
        rintro e g11 ⟨Ha, Hb, Hc, Hd, He, Hf, Ia, Ib, Ic, Id, Ie, If, rfl, T11, hb11⟩
        obtain ⟨⟨xp, lxp, r11a⟩, ⟨lp, llp, r11b⟩, ⟨xq, lxq, r11c⟩, ⟨lq, llq, r11d⟩, _, _, _, _⟩ := T11
        obtain ⟨v11, hv⟩ : ∃ z, (g11.alloc (.cells #[.slice Ha Hb Hc, .slice Hd He Hf] 35)).alloc (.cells #[.slice Ia Ib Ic, .slice Id Ie If] 35) = z := ⟨_, rfl⟩
        have VH : Hid (Vr v11 g11.heap.size (.slice Ha Hb Hc) (.slice Hd He Hf) xp lp) := vrTwo1 r11a.rd r11b.rd hv
        have VI : Hid (Vr v11 (g11.heap.size + 1) (.slice Ia Ib Ic) (.slice Id Ie If) xq lq) := vrTwo2 r11c.rd r11d.rd hv
        have hz11 := onMade2 hb11 hv
        replace hB := below_seq hB hz11
        clear hb11 hz11 r11a r11b r11c r11d
        go_wp2_with fail
        (try clear hv)
        refine (drawMultiJoin_any w.heap.size _ _ ds hB.size (HB.out.belowW hB (Nat.le_refl _)) HY.out HL.out.2).mono ?_
        rintro e g12 ⟨Ja, Jb, Jc, Jd, Je, Jf, Ka, Kb, Kc, Kd, Ke, Kf, rfl, T12, hb12⟩
        obtain ⟨⟨xr, lxr, r12a⟩, ⟨lr, llr, r12b⟩, ⟨xz, lxz, r12c⟩, ⟨lz, llz, r12d⟩, _, _, _, _⟩ := T12
        obtain ⟨v12, hv⟩ : ∃ z, (g12.alloc (.cells #[.slice Ja Jb Jc, .slice Jd Je Jf] 35)).alloc (.cells #[.slice Ka Kb Kc, .slice Kd Ke Kf] 35) = z := ⟨_, rfl⟩
        have VJ : Hid (Vr v12 g12.heap.size (.slice Ja Jb Jc) (.slice Jd Je Jf) xr lr) := vrTwo1 r12a.rd r12b.rd hv
        have VK : Hid (Vr v12 (g12.heap.size + 1) (.slice Ka Kb Kc) (.slice Kd Ke Kf) xz lz) := vrTwo2 r12c.rd r12d.rd hv
        have hz12 := onMade2 hb12 hv
        replace hB := below_seq hB hz12
        replace VH := vrOn VH hz12
        replace VI := vrOn VI hz12
        clear hb12 hz12 r12a r12b r12c r12d
        have hP1 := fun C w v ve v' ve' hC hv he hv' he' => specMultiJoin_of l03Join_any C w v ve v' ve' xp xq lp lq hC hv he hv' he'
        have hI1 := fun C w v ve v' ve' hC hv he hv' he' => implMultiJoin_any C w v ve v' ve' xp xq lp lq hC hv he hv' he'
        have hP2 := fun C w v ve v' ve' hC hv he hv' he' => specMultiJoin_of l03Join_any C w v ve v' ve' xq xr lq lr hC hv he hv' he'
        have hI2 := fun C w v ve v' ve' hC hv he hv' he' => implMultiJoin_any C w v ve v' ve' xq xr lq lr hC hv he hv' he'
        have hTH := jn_three (xs := xp) (ys := xq) (zs := xr) (ls := lp) (ms := lq) (ns := lr)
        have hP3 := fun C w v ve v' ve' hC hv he hv' he' => specMultiJoin_of l03Join_any C w v ve v' ve' (jnV xp lp xq lq) xr (jnE xp lp xq lq) lr hC hv he hv' he'
        have hI3 := fun C w v ve v' ve' hC hv he hv' he' => implMultiJoin_any C w v ve v' ve' (jnV xp lp xq lq) xr (jnE xp lp xq lq) lr hC hv he hv' he'
        have hP4 := fun C w v ve v' ve' hC hv he hv' he' => specMultiJoin_of l03Join_any C w v ve v' ve' xp (jnV xq lq xr lr) lp (jnE xq lq xr lr) hC hv he hv' he'
        have hI4 := fun C w v ve v' ve' hC hv he hv' he' => implMultiJoin_any C w v ve v' ve' xp (jnV xq lq xr lr) lp (jnE xq lq xr lr) hC hv he hv' he'
        unfold SvAns at hP1 hI1 hP2 hI2 hP3 hI3 hP4 hI4
        obtain ⟨l5, l6⟩ := lensV (jnV xp lp xq lq) (jnE xp lp xq lq) xr lr
        generalize jnV (jnV xp lp xq lq) (jnE xp lp xq lq) xr lr = u3 at *
        generalize jnE (jnV xp lp xq lq) (jnE xp lp xq lq) xr lr = b3 at *
        generalize jnC (jnV xp lp xq lq) (jnE xp lp xq lq) xr lr = k3 at *
        generalize jnV xp lp (jnV xq lq xr lr) (jnE xq lq xr lr) = u4 at *
        generalize jnE xp lp (jnV xq lq xr lr) (jnE xq lq xr lr) = b4 at *
        generalize jnC xp lp (jnV xq lq xr lr) (jnE xq lq xr lr) = k4 at *
        generalize jnV xp lp xq lq = u1 at *
        generalize jnE xp lp xq lq = b1 at *
        generalize jnC xp lp xq lq = k1 at *
        generalize jnV xq lq xr lr = u2 at *
        generalize jnE xq lq xr lr = b2 at *
        generalize jnC xq lq xr lr = k2 at *
        have HTH : Hid _ := hTH
        clear hTH
        obtain ⟨⟨c0, d0⟩, _⟩ := VH.out.1
        obtain ⟨⟨c1, d1⟩, _⟩ := VI.out.1
        go_wp2_with fail
        (try clear hv)
        refine (hI1 _ _ _ _ _ _ (Nat.le_refl _) VH.out.2.1 VH.out.2.2 VI.out.2.1 VI.out.2.2).mono ?_
        rintro e g13 ⟨x13, y13, rfl, S13, hb13⟩
        obtain ⟨Ma, Mb, Mc, Md, Me, Mf, rfl, rfl⟩ := S13.shape
        obtain ⟨v13, hv⟩ : ∃ z, g13.alloc (.cells #[.slice Ma Mb Mc, .slice Md Me Mf] 35) = z := ⟨_, rfl⟩
        have VM : Hid (Vr v13 g13.heap.size (.slice Ma Mb Mc) (.slice Md Me Mf) u1 b1) := vrMade S13 hv
        have hz13 := onMade hb13 hv
        replace hB := below_seq hB hz13
        replace VH := vrOn VH hz13
        replace VI := vrOn VI hz13
        replace VJ := vrOn VJ hz13
        replace VK := vrOn VK hz13
        clear hb13 S13 hz13 c0 c1 d0 d1
        obtain ⟨⟨c0, d0⟩, _⟩ := VH.out.1
        obtain ⟨⟨c1, d1⟩, _⟩ := VI.out.1
        go_wp2_with fail
        (try clear hv)
        refine (hP1 _ _ _ _ _ _ (Nat.le_refl _) VH.out.2.1 VH.out.2.2 VI.out.2.1 VI.out.2.2).mono ?_
        rintro e g14 ⟨x14, y14, rfl, S14, hb14⟩
        obtain ⟨Na, Nb, Nc, Nd, Ne, Nf, rfl, rfl⟩ := S14.shape
        obtain ⟨v14, hv⟩ : ∃ z, g14.alloc (.cells #[.slice Na Nb Nc, .slice Nd Ne Nf] 35) = z := ⟨_, rfl⟩
        have VN : Hid (Vr v14 g14.heap.size (.slice Na Nb Nc) (.slice Nd Ne Nf) u1 b1) := vrMade S14 hv
        have hz14 := onMade hb14 hv
        replace hB := below_seq hB hz14
        replace VH := vrOn VH hz14
        replace VI := vrOn VI hz14
        replace VJ := vrOn VJ hz14
        replace VK := vrOn VK hz14
        replace VM := vrOn VM hz14
        clear hb14 S14 hz14 c0 c1 d0 d1
        obtain ⟨⟨c0, d0⟩, _⟩ := VI.out.1
        obtain ⟨⟨c1, d1⟩, _⟩ := VJ.out.1
        go_wp2_with fail
        (try clear hv)
        refine (hI2 _ _ _ _ _ _ (Nat.le_refl _) VI.out.2.1 VI.out.2.2 VJ.out.2.1 VJ.out.2.2).mono ?_
        rintro e g15 ⟨x15, y15, rfl, S15, hb15⟩
        obtain ⟨Oa, Ob, Oc, Od, Oe, Of, rfl, rfl⟩ := S15.shape
        obtain ⟨v15, hv⟩ : ∃ z, g15.alloc (.cells #[.slice Oa Ob Oc, .slice Od Oe Of] 35) = z := ⟨_, rfl⟩
        have VO : Hid (Vr v15 g15.heap.size (.slice Oa Ob Oc) (.slice Od Oe Of) u2 b2) := vrMade S15 hv
        have hz15 := onMade hb15 hv
        replace hB := below_seq hB hz15
        replace VH := vrOn VH hz15
        replace VI := vrOn VI hz15
        replace VJ := vrOn VJ hz15
        replace VK := vrOn VK hz15
        replace VM := vrOn VM hz15
        replace VN := vrOn VN hz15
        clear hb15 S15 hz15 c0 c1 d0 d1
        obtain ⟨⟨c0, d0⟩, _⟩ := VH.out.1
        obtain ⟨⟨c1, d1⟩, _⟩ := VI.out.1
        go_wp2_with fail
        (try clear hv)
        refine (hP1 _ _ _ _ _ _ (Nat.le_refl _) VH.out.2.1 VH.out.2.2 VI.out.2.1 VI.out.2.2).mono ?_
        rintro e g16 ⟨x16, y16, rfl, S16, hb16⟩
        obtain ⟨Pa, Pb, Pc, Pd, Pe, Pf, rfl, rfl⟩ := S16.shape
        obtain ⟨v16, hv⟩ : ∃ z, g16.alloc (.cells #[.slice Pa Pb Pc, .slice Pd Pe Pf] 35) = z := ⟨_, rfl⟩
        have VP : Hid (Vr v16 g16.heap.size (.slice Pa Pb Pc) (.slice Pd Pe Pf) u1 b1) := vrMade S16 hv
        have hz16 := onMade hb16 hv
        replace hB := below_seq hB hz16
        replace VH := vrOn VH hz16
        replace VI := vrOn VI hz16
        replace VJ := vrOn VJ hz16
        replace VK := vrOn VK hz16
        replace VM := vrOn VM hz16
        replace VN := vrOn VN hz16
        replace VO := vrOn VO hz16
        clear hb16 S16 hz16 c0 c1 d0 d1
        obtain ⟨⟨c0, d0⟩, _⟩ := VI.out.1
        obtain ⟨⟨c1, d1⟩, _⟩ := VJ.out.1
        go_wp2_with fail
        (try clear hv)
        refine (hP2 _ _ _ _ _ _ (Nat.le_refl _) VI.out.2.1 VI.out.2.2 VJ.out.2.1 VJ.out.2.2).mono ?_
        rintro e g17 ⟨x17, y17, rfl, S17, hb17⟩
        obtain ⟨Qa, Qb, Qc, Qd, Qe, Qf, rfl, rfl⟩ := S17.shape
        obtain ⟨v17, hv⟩ : ∃ z, g17.alloc (.cells #[.slice Qa Qb Qc, .slice Qd Qe Qf] 35) = z := ⟨_, rfl⟩
        have VQ : Hid (Vr v17 g17.heap.size (.slice Qa Qb Qc) (.slice Qd Qe Qf) u2 b2) := vrMade S17 hv
        have hz17 := onMade hb17 hv
        replace hB := below_seq hB hz17
        replace VH := vrOn VH hz17
        replace VI := vrOn VI hz17
        replace VJ := vrOn VJ hz17
        replace VK := vrOn VK hz17
        replace VM := vrOn VM hz17
        replace VN := vrOn VN hz17
        replace VO := vrOn VO hz17
        replace VP := vrOn VP hz17
        clear hb17 S17 hz17 c0 c1 d0 d1
        clear hI1 hP1 hI2 hP2
        by_cases hk1 : k1 = 0
        · by_cases hk2 : k2 = 0
          · have e1 : (k1 == 0) = true := by simpa using hk1
            have e2 : (k2 == 0) = true := by simpa using hk2
            obtain ⟨⟨c0, d0⟩, _⟩ := VM.out.1
            obtain ⟨⟨c1, d1⟩, _⟩ := VJ.out.1
            go_wp2_with fail
            (try clear hv)
            refine (hI3 _ _ _ _ _ _ (Nat.le_refl _) VM.out.2.1 VM.out.2.2 VJ.out.2.1 VJ.out.2.2).mono ?_
            rintro e g18 ⟨x18, y18, rfl, S18, hb18⟩
            obtain ⟨Ra, Rb, Rc, Rd, Re, Rf, rfl, rfl⟩ := S18.shape
            obtain ⟨v18, hv⟩ : ∃ z, g18.alloc (.cells #[.slice Ra Rb Rc, .slice Rd Re Rf] 35) = z := ⟨_, rfl⟩
            have VR : Hid (Vr v18 g18.heap.size (.slice Ra Rb Rc) (.slice Rd Re Rf) u3 b3) := vrMade S18 hv
            have hz18 := onMade hb18 hv
            replace hB := below_seq hB hz18
            replace VH := vrOn VH hz18
            replace VI := vrOn VI hz18
            replace VJ := vrOn VJ hz18
            replace VK := vrOn VK hz18
            replace VM := vrOn VM hz18
            replace VN := vrOn VN hz18
            replace VO := vrOn VO hz18
            replace VP := vrOn VP hz18
            replace VQ := vrOn VQ hz18
            clear hb18 S18 hz18 c0 c1 d0 d1
            obtain ⟨⟨c0, d0⟩, _⟩ := VH.out.1
            obtain ⟨⟨c1, d1⟩, _⟩ := VO.out.1
            go_wp2_with fail
            (try clear hv)
            refine (hI4 _ _ _ _ _ _ (Nat.le_refl _) VH.out.2.1 VH.out.2.2 VO.out.2.1 VO.out.2.2).mono ?_
            rintro e g19 ⟨x19, y19, rfl, S19, hb19⟩
            obtain ⟨Sa, Sb, Sc, Sd, Se, Sf, rfl, rfl⟩ := S19.shape
            obtain ⟨v19, hv⟩ : ∃ z, g19.alloc (.cells #[.slice Sa Sb Sc, .slice Sd Se Sf] 35) = z := ⟨_, rfl⟩
            have VS : Hid (Vr v19 g19.heap.size (.slice Sa Sb Sc) (.slice Sd Se Sf) u4 b4) := vrMade S19 hv
            have hz19 := onMade hb19 hv
            replace hB := below_seq hB hz19
            replace VH := vrOn VH hz19
            replace VI := vrOn VI hz19
            replace VJ := vrOn VJ hz19
            replace VK := vrOn VK hz19
            replace VM := vrOn VM hz19
            replace VN := vrOn VN hz19
            replace VO := vrOn VO hz19
            replace VP := vrOn VP hz19
            replace VQ := vrOn VQ hz19
            replace VR := vrOn VR hz19
            clear hb19 S19 hz19 c0 c1 d0 d1
            obtain ⟨⟨c0, d0⟩, _⟩ := VP.out.1
            obtain ⟨⟨c1, d1⟩, _⟩ := VJ.out.1
            go_wp2_with fail
            (try clear hv)
            refine (hP3 _ _ _ _ _ _ (Nat.le_refl _) VP.out.2.1 VP.out.2.2 VJ.out.2.1 VJ.out.2.2).mono ?_
            rintro e g20 ⟨x20, y20, rfl, S20, hb20⟩
            obtain ⟨Ta, Tb, Tc, Td, Te, Tf, rfl, rfl⟩ := S20.shape
            obtain ⟨v20, hv⟩ : ∃ z, g20.alloc (.cells #[.slice Ta Tb Tc, .slice Td Te Tf] 35) = z := ⟨_, rfl⟩
            have VT : Hid (Vr v20 g20.heap.size (.slice Ta Tb Tc) (.slice Td Te Tf) u3 b3) := vrMade S20 hv
            have hz20 := onMade hb20 hv
            replace hB := below_seq hB hz20
            replace VH := vrOn VH hz20
            replace VI := vrOn VI hz20
            replace VJ := vrOn VJ hz20
            replace VK := vrOn VK hz20
            replace VM := vrOn VM hz20
            replace VN := vrOn VN hz20
            replace VO := vrOn VO hz20
            replace VP := vrOn VP hz20
            replace VQ := vrOn VQ hz20
            replace VR := vrOn VR hz20
            replace VS := vrOn VS hz20
            clear hb20 S20 hz20 c0 c1 d0 d1
            obtain ⟨⟨c0, d0⟩, _⟩ := VH.out.1
            obtain ⟨⟨c1, d1⟩, _⟩ := VQ.out.1
            go_wp2_with fail
            (try clear hv)
            refine (hP4 _ _ _ _ _ _ (Nat.le_refl _) VH.out.2.1 VH.out.2.2 VQ.out.2.1 VQ.out.2.2).mono ?_
            rintro e g21 ⟨x21, y21, rfl, S21, hb21⟩
            obtain ⟨Ua, Ub, Uc, Ud, Ue, Uf, rfl, rfl⟩ := S21.shape
            obtain ⟨v21, hv⟩ : ∃ z, g21.alloc (.cells #[.slice Ua Ub Uc, .slice Ud Ue Uf] 35) = z := ⟨_, rfl⟩
            have VU : Hid (Vr v21 g21.heap.size (.slice Ua Ub Uc) (.slice Ud Ue Uf) u4 b4) := vrMade S21 hv
            have hz21 := onMade hb21 hv
            replace hB := below_seq hB hz21
            replace VH := vrOn VH hz21
            replace VI := vrOn VI hz21
            replace VJ := vrOn VJ hz21
            replace VK := vrOn VK hz21
            replace VM := vrOn VM hz21
            replace VN := vrOn VN hz21
            replace VO := vrOn VO hz21
            replace VP := vrOn VP hz21
            replace VQ := vrOn VQ hz21
            replace VR := vrOn VR hz21
            replace VS := vrOn VS hz21
            replace VT := vrOn VT hz21
            clear hb21 S21 hz21 c0 c1 d0 d1
            clear hI3 hI4 hP3 hP4
            by_cases hk3 : k3 = 0
            · by_cases hk4 : k4 = 0
              · obtain ⟨q1, q2⟩ := HTH.out hk1 hk2 hk3 hk4
                subst q1 q2
                have e3 : (k3 == 0) = true := by simpa using hk3
                have e4 : (k4 == 0) = true := by simpa using hk4
                obtain ⟨⟨c0, d0⟩, _⟩ := VR.out.1
                obtain ⟨⟨c1, d1⟩, _⟩ := VS.out.1
                go_wp2_with fail
                (try clear hv)
                refine (sameEntriesV _ _ _ _ _ _ (by omega) VR.out.2.2 VS.out.2.2).mono ?_
                rintro e g90 ⟨rfl, hb90⟩
                replace hB := below_seq hB hb90
                replace VR := vrOn VR hb90
                replace VS := vrOn VS hb90
                clear hb90 c0 c1 d0 d1
                obtain ⟨⟨c0, d0⟩, _⟩ := VR.out.1
                obtain ⟨⟨c1, d1⟩, _⟩ := VS.out.1
                go_wp2_with fail
                refine (sameIntsV _ _ _ _ _ _ (by omega) VR.out.2.1 VS.out.2.1).mono ?_
                rintro e g91 ⟨rfl, hb91⟩
                replace hB := below_seq hB hb91
                go_wp2_with fail
                go_ret
                exact ⟨rfl, hB⟩
              · have e3 : (k3 == 0) = true := by simpa using hk3
                have e4 : (k4 == 0) = false := by simpa using hk4
                go_wp2_with fail
                go_ret
                exact ⟨rfl, hB⟩
            · have e3 : (k3 == 0) = false := by simpa using hk3
              go_wp2_with fail
              go_ret
              exact ⟨rfl, hB⟩
          · have e1 : (k1 == 0) = true := by simpa using hk1
            have e2 : (k2 == 0) = false := by simpa using hk2
            go_wp2_with fail
            go_ret
            exact ⟨rfl, hB⟩
        · have e1 : (k1 == 0) = false := by simpa using hk1
          go_wp2_with fail
          go_ret
          exact ⟨rfl, hB⟩
    · have i0 : ¬ (1048576 : Int) < (cs.length : Int) := by omega
      have i1 : (1048576 : Int) < (ds.length : Int) := by omega
      go_enter Try.func3, Try.ntmps3
      go_wp2_with fail
      go_ret
      exact ⟨rfl, hB⟩
  · have i0 : (1048576 : Int) < (cs.length : Int) := by omega
    go_enter Try.func3, Try.ntmps3
    go_wp2_with fail
    go_ret
    exact ⟨rfl, hB⟩
theorem lawFnValues_walk (a0 : Option Addr) (l0 c0 : Nat) (z0 : List Int) (a1 : Option Addr) (l1 c1 : Nat) (z1 : List Int) (w : World) (h0 : IsRow .u8 w a0 l0 c0 z0) (h1 : IsRow .u8 w a1 l1 c1 z1) :
    Calls Try.prog 3 #[.slice a0 l0 c0, .slice a1 l1 c1] w fun e w' => e = .returned (.bool true) ∧ Below w.heap.size w w' := lawFnValues_core _ _ _ _ w h0.rd.1 h0.bytes h1.rd.1 h1.bytes

end Go.Proofs.Ytfnlnigeaioocaa
