/- What the specification's l13Read and ReadRecords answer. -/
import Derived.Deep.AppendLies
import Derived.Test.YtcjlihfkibpgoaaGreatDoorQRecSpecOp
import Derived.Test.YtcjlihfkibpgoaaGreatDoorQRecList
import Derived.Test.YtcjlihfkibpgoaaGreatDoorQRowKeep
import Derived.Test.YtcjlihfkibpgoaaGreatDoorQGrowOpsToInsert
import Derived.Test.YtcjlihfkibpgoaaGreatDoorQLedgerToLogFind
import Derived.Test.YtcjlihfkibpgoaaGreatDoorQTakeKitToBigKit
namespace Go.Proofs.YtcjlihfkibpgoaaGreatDoor
open Go.RowKit Go.Lib
set_option linter.unusedVariables false

theorem bytes_part {xs : List Int} (hx : Bytes xs) (q n : Nat) : Bytes ((xs.drop q).take n) := fun c hc => hx c (List.mem_of_mem_drop (List.mem_of_mem_take hc))
theorem opRangeS (w : World) (x : Ov) : (w.alloc (.cells #[.int .i64 x.a, .int .i64 x.s, .int .i64 x.t, x.dv, .int .i64 x.k, .int .i64 x.o, .int .i64 x.n, .int .i64 x.u, .int .i64 x.pt, .int .i64 x.pa, .string x.ky, .string x.tx] 41)).rangeAt w.heap.size 0 x.cs := fun j u hj => by
  have := opNew w x j u hj
  rwa [Addr.add_mid] at this
theorem rdPart {C : Nat} {w : World} {va xa : Option Addr} {vc q n : Nat} {xs : List Int} (h : Rd C w (.slice va xs.length vc) (xs.map (Value.int .u8))) (hq : q ≤ xs.length) (hn : n ≤ xs.length - q) (hxa : xa = if vc = q then va else va.map (·.add q)) : Rd C w (.slice xa n (vc - q)) (((xs.drop q).take n).map (Value.int .u8)) := by
  have := Rd.cut h q n (by simpa using hq) (by simpa using hn) hxa
  rwa [← List.map_drop, ← List.map_take] at this
/-- Operations in a row of the call's own, what they count in rows of its own, too. -/
structure Rq (w wr : World) (v : Value) (L : List Ov) : Prop where
  row : wr.ownsRow w.heap.size 41 12 v L.length (rowCs L)
  dv : ∀ x ∈ L, Own 3 wr w.heap.size x.dv (x.ds.map (Value.int .i64))
  below : Below w.heap.size w wr
theorem Rq.grow {w wr w2 : World} {v : Value} {L : List Ov} (h : Rq w wr v L) (hb : Below wr.heap.size wr w2) : Rq w w2 v L :=
  ⟨owns_on h.row hb (Nat.le_refl _), fun x hx => (h.dv x hx).below hb (Nat.le_refl _), below_seq h.below hb⟩
theorem Rq.rd {w wr : World} {v : Value} {L : List Ov} (h : Rq w wr v L) : RdO wr.heap.size wr v L := owns_rdO h.row (fun x hx => (h.dv x hx).rd)
theorem Rq.app {w w4 w5 : World} {v v5 : Value} {L : List Ov} {x : Ov} {n : Nat} (h : Rq w w4 v L) (hn : n = L.length) (hd : Own 3 w4 w.heap.size x.dv (x.ds.map (Value.int .i64))) (ho : w5.ownsRow w.heap.size 41 12 v5 (n + 1) (rowCs L ++ x.cs)) (hg : w4.grownBy w5 v.ownBlock) : Rq w w5 v5 (L ++ [x]) := by
  subst hn
  refine ⟨?_, fun z hz => ?_, h.below.grown hg h.below.size (fun k hk => (World.ownsRow.lt h.row k hk).1)⟩
  · rw [List.length_append, rowCs_app]
    have e1 : rowCs [x] = x.cs := by simp [rowCs]
    rw [e1]; exact ho
  · have hz' : Own 3 w4 w.heap.size z.dv (z.ds.map (Value.int .i64)) := by
      rcases List.mem_append.1 hz with hz | hz
      · exact h.dv z hz
      · simp only [List.mem_singleton] at hz
        subst hz
        exact hd
    exact ownSame' hz' (fun q hq => hg.block q (World.ownsRow.lt hz' q hq).2 (fun e => owns_ne h.row hz' q hq e.symm))

set_option maxHeartbeats 8000000 in
set_option maxRecDepth 100000 in
theorem l13Read_any (C : Nat) (w : World) (v : Value) (xs : List Int) (hx : Bytes xs) (hl : xs.length ≤ 1048576) (hC : C ≤ w.heap.size) (hr : Rd C w v (xs.map (Value.int .u8))) :
    Calls Tryz.prog 12 #[v] w fun e w' => ∃ ra rc L, e = .returned (.tuple #[.slice ra (List.length L) rc, .int .i64 ((recs xs 0).2 : Int)]) ∧ SameL L (recs xs 0).1 ∧ Rq w w' (.slice ra (List.length L) rc) L := by
  obtain ⟨i0, hi, hz0, hz1, hz2⟩ := info_parts infoOp
  have HR : Hid (∀ w', Below w.heap.size w w' → Rd C w' v (xs.map (Value.int .u8))) := fun w' hb => hr.belowW hb hC
  obtain ⟨va, vc, ev, hvc, hvm⟩ : ∃ va vc, v = .slice va xs.length vc ∧ xs.length ≤ vc ∧ vc ≤ maxLen := by obtain ⟨va, vc, e, h1, h2, _⟩ := hr; rw [List.length_map] at e h1; exact ⟨va, vc, e, h1, h2⟩
  subst ev
  clear hr
  have H0 : Rq w (w.alloc (.cells #[] 41)) (.slice (some ⟨w.heap.size, 0, none⟩) 0 0) [] := ⟨World.ownsRow_lit w #[] 0 (Nat.le_refl _) (by decide) (by simp), fun x hx => absurd hx (by simp), below_alloc _ _⟩
  go_enter Tryz.func12, Tryz.ntmps12
  go_wp2_with fail
  go_loopw [4, 5] (fun ts ti wr => ∃ (p : Nat) (L A : List Ov), p ≤ xs.length ∧ ti = .int .i64 (p : Int) ∧ Hid (SameL L A) ∧ L.length ≤ p ∧ Hid (recs xs 0 = (A ++ (recs xs p).1, (recs xs p).2)) ∧ Rq w wr ts L) (fun _ ti _ => xs.length - (intOf ti).toNat)
  case atStart => exact ⟨0, [], [], by omega, rfl, ⟨rfl, fun k hk => absurd hk (by simp)⟩, by simp, rfl, H0⟩
  case round =>
    clear H0
    obtain ⟨p, L, A, hp, rfl, HS, hLp, HRC, HQ⟩ := hrel
    obtain ⟨ta, tc, et⟩ := owns_any HQ.row
    subst et
    have hget := l01Get_any C wr _ xs p hx hl hp (HR.out _ HQ.below)
    unfold getR at hget
    cases hG : getL xs p with
    | none =>
      have hrd : recRd xs p = none := by unfold recRd; rw [hG]
      rw [hG] at hget
      go_wp2_with fail
      refine hget.mono ?_
      rintro e w2 ⟨⟨xa, xb, rfl⟩, rfl⟩
      clear hget hG
      have hend := recs_none hrd
      rw [hend] at HRC
      clear hend
      go_wp2_with fail
      go_ret2
      exact ⟨ta, tc, L, by rw [HRC.out]; rfl, by rw [HRC.out, List.append_nil]; exact HS.out, HQ⟩
    | some z =>
      obtain ⟨a, q⟩ := z
      rw [hG] at hget
      have hok := getL_ok hx hG
      obtain ⟨n, rfl⟩ := Int.eq_ofNat_of_zero_le hok.1
      have hq1 : (q : Int) ≤ (xs.length : Int) := by omega
      have hq0 : (0 : Int) ≤ (q : Int) := by omega
      have HPQ : Hid (p < q ∧ q ≤ xs.length) := ⟨hok.2.2.1, hok.2.2.2⟩
      by_cases h4 : n + 4 ≤ xs.length - q
      · have j0 : ¬ (n : Int) > (xs.length : Int) - (q : Int) - 4 := by omega
        have j1 : (q : Int) + (n : Int) ≤ (xs.length : Int) := by omega
        have j2 : (q : Int) ≤ (q : Int) + (n : Int) := by omega
        have j3 : (q : Int) + (n : Int) ≤ (vc : Int) := by omega
        obtain ⟨xa, HXA⟩ : ∃ xa, Hid ((if vc = q then va else va.map (·.add q)) = xa) := ⟨_, rfl⟩
        have hXA : (if vc = q then va else va.map (·.add q)) = xa := HXA.out
        have hpl : ((xs.drop q).take n).length = n := by rw [List.length_take, List.length_drop]; omega
        have hop := l13Op_any C wr (.slice xa n (vc - q)) ((xs.drop q).take n) (bytes_part hx q n) (by rw [hpl]; omega) (Nat.le_trans hC HQ.below.size) (rdPart (HR.out _ HQ.below) (by omega) (by omega) HXA.out.symm)
        have hnvc : ¬ vc = q := by omega
        have hXB : Option.map (fun x => x.add q) va = xa := by have := HXA.out; rwa [if_neg hnvc] at this
        have hnq : q + n - q = n := by omega
        clear hok hXA
        go_wp2_with fail
        refine hget.mono ?_
        rintro e w2 ⟨rfl, rfl⟩
        clear hget
        go_wp2_with fail
        refine hop.mono ?_
        rintro e w6 ⟨⟨y, c, rfl, ⟨da, dn, dc, hdv⟩, hans, hb6⟩⟩
        obtain ⟨ya, ys, yt, ydv, yk, yo, yn, yu, ypt, ypa, yky, ytx, yds⟩ := y
        obtain rfl : ydv = .slice da dn dc := hdv
        have HQ6 := HQ.grow hb6
        have HQ7 := HQ6.grow (below_alloc w6 (.cells #[.int .i64 ya, .int .i64 ys, .int .i64 yt, .slice da dn dc, .int .i64 yk, .int .i64 yo, .int .i64 yn, .int .i64 yu, .int .i64 ypt, .int .i64 ypa, .string yky, .string ytx] 41))
        have hcl7 := opRangeS w6 (⟨ya, ys, yt, .slice da dn dc, yk, yo, yn, yu, ypt, ypa, yky, ytx, yds⟩ : Ov)
        unfold Ov.cs at hcl7 ⊢
        have HANS : Hid (OpSAns ((xs.drop q).take n) w2.heap.size (⟨ya, ys, yt, .slice da dn dc, yk, yo, yn, yu, ypt, ypa, yky, ytx, yds⟩ : Ov) c w6) := hans
        have hsw : w.heap.size ≤ w2.heap.size := HQ.below.size
        clear hop hans HQ HQ6
        go_upto_region 8 with fail
        have hrb : Rd C (w6.alloc (.cells #[.int .i64 ya, .int .i64 ys, .int .i64 yt, .slice da dn dc, .int .i64 yk, .int .i64 yo, .int .i64 yn, .int .i64 yu, .int .i64 ypt, .int .i64 ypa, .string yky, .string ytx] 41)).drew (.slice va xs.length vc) (xs.map (Value.int .u8)) := HR.out _ HQ7.below.drew
        have HQ8 : Rq w (w6.alloc (.cells #[.int .i64 ya, .int .i64 ys, .int .i64 yt, .slice da dn dc, .int .i64 yk, .int .i64 yo, .int .i64 yn, .int .i64 yu, .int .i64 ypt, .int .i64 ypa, .string yky, .string ytx] 41)).drew (.slice ta L.length tc) L := HQ7.grow (Below.refl _ _).drew
        have hcl8 : (w6.alloc (.cells #[.int .i64 ya, .int .i64 ys, .int .i64 yt, .slice da dn dc, .int .i64 yk, .int .i64 yo, .int .i64 yn, .int .i64 yu, .int .i64 ypt, .int .i64 ypa, .string yky, .string ytx] 41)).drew.rangeAt w6.heap.size 0 [.int .i64 ya, .int .i64 ys, .int .i64 yt, .slice da dn dc, .int .i64 yk, .int .i64 yo, .int .i64 yn, .int .i64 yu, .int .i64 ypt, .int .i64 ypa, .string yky, .string ytx] := hcl7
        have hs8 : (w6.alloc (.cells #[.int .i64 ya, .int .i64 ys, .int .i64 yt, .slice da dn dc, .int .i64 yk, .int .i64 yo, .int .i64 yn, .int .i64 yu, .int .i64 ypt, .int .i64 ypa, .string yky, .string ytx] 41)).drew.heap.size = w6.heap.size + 1 := World.size_alloc _ _
        clear HQ7 hcl7
        refine wp_region_held_drew (S := (fun w' => Rd C w' (.slice va xs.length vc) (xs.map (Value.int .u8)))) (by kernel_rfl) hrb (fun hH => ?_)
        cases c with
        | false =>
          have hnone : recRd xs p = none := by
            have h1 := HANS.out
            unfold OpSAns at h1
            cases h2 : opSp ((xs.drop q).take n) with
            | some x => rw [h2] at h1; exact absurd h1.1 (by simp)
            | none =>
              unfold recRd
              rw [hG]
              simp only [Int.toNat_natCast]
              split
              · rw [opCd_S (bytes_part hx q n), h2]
              · rfl
          clear HANS hG hcl8 hrb
          generalize (w6.alloc (.cells #[.int .i64 ya, .int .i64 ys, .int .i64 yt, .slice da dn dc, .int .i64 yk, .int .i64 yo, .int .i64 yn, .int .i64 yu, .int .i64 ypt, .int .i64 ypa, .string yky, .string ytx] 41)).drew = w8 at *
          refine tkH 0 (.bool false) rfl (Or.inl ⟨by kernel_rfl, by intro w hSw; clear hSw; go_simp⟩) hH ?_
          simp only [tkS, Act.put]
          refine tkH 1 (.bool true) rfl (Or.inl ⟨by kernel_rfl, by intro w hSw; clear hSw; go_simp⟩) hH ?_
          simp only [tkS, Act.put]
          refine tkH 2 (.bool true) rfl (Or.inl ⟨by kernel_rfl, by intro w hSw; clear hSw; go_simp⟩) hH ?_
          simp only [tkS, Act.put]
          refine tkH 3 undef rfl (Or.inr ⟨by kernel_rfl, rfl⟩) hH ?_
          simp only [tkS, Act.put]
          refine tkH 7 undef rfl (Or.inr ⟨by kernel_rfl, rfl⟩) hH ?_
          simp only [tkS, Act.put]
          refine tkH 8 undef rfl (Or.inr ⟨by kernel_rfl, rfl⟩) hH ?_
          simp only [tkS, Act.put]
          refine tkH 9 undef rfl (Or.inr ⟨by kernel_rfl, rfl⟩) hH ?_
          simp only [tkS, Act.put]
          refine tkH 10 undef rfl (Or.inr ⟨by kernel_rfl, rfl⟩) hH ?_
          simp only [tkS, Act.put]
          refine tkH 11 undef rfl (Or.inr ⟨by kernel_rfl, rfl⟩) hH ?_
          simp only [tkS, Act.put]
          refine tkH 12 undef rfl (Or.inr ⟨by kernel_rfl, rfl⟩) hH ?_
          simp only [tkS, Act.put]
          refine tkH 13 undef rfl (Or.inr ⟨by kernel_rfl, rfl⟩) hH ?_
          simp only [tkS, Act.put]
          refine tkH 14 undef rfl (Or.inr ⟨by kernel_rfl, rfl⟩) hH ?_
          simp only [tkS, Act.put]
          refine tkH 15 undef rfl (Or.inr ⟨by kernel_rfl, rfl⟩) hH ?_
          simp only [tkS, Act.put]
          refine tkH 16 undef rfl (Or.inr ⟨by kernel_rfl, rfl⟩) hH ?_
          simp only [tkS, Act.put]
          refine wpAnyH_ready (rs := [4]) (by kernel_rfl) (by simp) ?_
          refine AllReadyH.cons rfl (fun K hK => ?_) AllReadyH.nil
          rw [if_neg (bne_true_of (by kernel_rfl))]
          refine hK.out _ _ hH (fun hH2 => ?_)
          clear hK K hH
          refine wpAnyH_ready (rs := [5]) (by kernel_rfl) (by simp) ?_
          refine AllReadyH.cons rfl (fun K hK => ?_) AllReadyH.nil
          rw [if_neg (bne_true_of (by kernel_rfl))]
          refine hK.out _ _ hH2 (fun hH3 => ?_)
          clear hK K hH2
          refine tkH 6 undef rfl (Or.inr ⟨by kernel_rfl, rfl⟩) hH3 ?_
          simp only [tkS, Act.put]
          refine tkH 17 undef rfl (Or.inr ⟨by kernel_rfl, rfl⟩) hH3 ?_
          simp only [tkS, Act.put]
          refine tkH 18 (.bool true) rfl (Or.inl ⟨by kernel_rfl, by intro w hSw; clear hSw; go_simp⟩) hH3 ?_
          simp only [tkS, Act.put]
          refine wpAnyH_done (by kernel_rfl) ?_ _
          clear hH3
          have hend := recs_none hnone
          rw [hend] at HRC
          clear hend
          go_wp2_with fail
          go_ret2
          exact ⟨ta, tc, L, by rw [HRC.out]; rfl, by rw [HRC.out, List.append_nil]; exact HS.out, HQ8⟩
        | true =>
          have hsome : ∃ x : Ov, opSp ((xs.drop q).take n) = some x ∧ (⟨ya, ys, yt, .slice da dn dc, yk, yo, yn, yu, ypt, ypa, yky, ytx, yds⟩ : Ov) = { x with dv := .slice da dn dc } ∧ Own 3 w6 w2.heap.size (.slice da dn dc) (x.ds.map (Value.int .i64)) := by
            have h1 := HANS.out
            unfold OpSAns at h1
            cases h2 : opSp ((xs.drop q).take n) with
            | none => rw [h2] at h1; cases h1
            | some x => rw [h2] at h1; exact ⟨x, rfl, h1.2.1, h1.2.2⟩
          obtain ⟨x, hsx, hyx, hox⟩ := hsome
          have HPS : Hid (Bytes ((xs.drop q).take n)) := bytes_part hx q n
          have HTL : Hid (Bytes ((xs.drop (q + n)).take 4)) := bytes_part hx (q + n) 4
          have hsl : sumF 2166136261 ((xs.drop q).take n) < 4294967296 := sumF_lt _ (by decide)
          have HREC : Hid (recRd xs p = if ((xs.drop (q + n)).take 4) = four (sumF 2166136261 ((xs.drop q).take n)) then some (x, q + n + 4) else none) := by
            unfold Hid recRd
            rw [hG]
            simp only [Int.toNat_natCast]
            by_cases hs : ((xs.drop (q + n)).take 4) = four (sumF 2166136261 ((xs.drop q).take n))
            · rw [if_pos ⟨by omega, by omega, hs⟩, opCd_S HPS.out, hsx, if_pos hs]
            · rw [if_neg (fun h => hs h.2.2), if_neg hs]
          obtain ⟨SM, HSM⟩ : ∃ k, Hid (sumF 2166136261 ((xs.drop q).take n) = k) := ⟨_, rfl⟩
          obtain ⟨TL, HTLE⟩ : ∃ t, Hid (((xs.drop (q + n)).take 4) = t) := ⟨_, rfl⟩
          rw [HSM.out, HTLE.out] at HREC
          rw [HSM.out] at hsl
          rw [HTLE.out] at HTL
          have hnv4 : ¬ vc = q + n := by omega
          obtain ⟨ya4, HYA⟩ : ∃ z, Hid ((if vc = q + n then va else va.map (·.add (q + n))) = z) := ⟨_, rfl⟩
          have HRT : Hid (∀ w', Rd C w' (.slice va xs.length vc) (xs.map (Value.int .u8)) → Rd C w' (.slice ya4 4 (vc - (q + n))) (TL.map (Value.int .u8))) := fun w' h => by rw [← HTLE.out]; exact rdPart h (by omega) (by omega) HYA.out.symm
          have HRP : Hid (∀ w', Rd C w' (.slice va xs.length vc) (xs.map (Value.int .u8)) → Rd C w' (.slice xa n (vc - q)) (((xs.drop q).take n).map (Value.int .u8))) := fun w' h => rdPart h (by omega) (by omega) HXA.out.symm
          have HS32 : Hid (∀ w', Rd C w' (.slice va xs.length vc) (xs.map (Value.int .u8)) → Calls Tryz.prog 21 #[.slice xa n (vc - q)] w' fun e w'' => e = .returned (.int .i64 ((SM : Nat) : Int)) ∧ w'' = w') := fun w' h => by
            have := sum32_any C w' _ ((xs.drop q).take n) HPS.out (by rw [hpl]; omega) (HRP.out w' h)
            rwa [HSM.out] at this
          have hoy : Own 3 (w6.alloc (.cells #[.int .i64 ya, .int .i64 ys, .int .i64 yt, .slice da dn dc, .int .i64 yk, .int .i64 yo, .int .i64 yn, .int .i64 yu, .int .i64 ypt, .int .i64 ypa, .string yky, .string ytx] 41)).drew w2.heap.size (.slice da dn dc) (x.ds.map (Value.int .i64)) := World.ownsRow.alloc hox _
          have hbz : Below (w6.alloc (.cells #[.int .i64 ya, .int .i64 ys, .int .i64 yt, .slice da dn dc, .int .i64 yk, .int .i64 yo, .int .i64 yn, .int .i64 yu, .int .i64 ypt, .int .i64 ypa, .string yky, .string ytx] 41)).drew.heap.size (w6.alloc (.cells #[.int .i64 ya, .int .i64 ys, .int .i64 yt, .slice da dn dc, .int .i64 yk, .int .i64 yo, .int .i64 yn, .int .i64 yu, .int .i64 ypt, .int .i64 ypa, .string yky, .string ytx] 41)).drew (w6.alloc (.cells #[.int .i64 ya, .int .i64 ys, .int .i64 yt, .slice da dn dc, .int .i64 yk, .int .i64 yo, .int .i64 yn, .int .i64 yu, .int .i64 ypt, .int .i64 ypa, .string yky, .string ytx] 41)).drew := Below.refl _ _
          clear HANS hG hrb hsx hox HPS
          generalize (w6.alloc (.cells #[.int .i64 ya, .int .i64 ys, .int .i64 yt, .slice da dn dc, .int .i64 yk, .int .i64 yo, .int .i64 yn, .int .i64 yu, .int .i64 ypt, .int .i64 ypa, .string yky, .string ytx] 41)).drew = w8 at *
          refine tkH 0 (.bool true) rfl (Or.inl ⟨by kernel_rfl, by intro w hSw; clear hSw; go_simp⟩) hH ?_
          simp only [tkS, Act.put]
          refine tkH 1 (.bool false) rfl (Or.inl ⟨by kernel_rfl, by intro w hSw; clear hSw; go_simp⟩) hH ?_
          simp only [tkS, Act.put]
          refine tkH 2 (.bool false) rfl (Or.inl ⟨by kernel_rfl, by intro w hSw; clear hSw; go_simp⟩) hH ?_
          simp only [tkS, Act.put]
          refine tkH 3 (.slice xa n (vc - q)) rfl (Or.inl ⟨by kernel_rfl, by intro w hSw; clear hSw; go_simp⟩) hH ?_
          simp only [tkS, Act.put]
          refine tkH 7 (.slice va xs.length vc) rfl (Or.inl ⟨by kernel_rfl, by intro w hSw; clear hSw; go_simp⟩) hH ?_
          simp only [tkS, Act.put]
          refine tkH 8 (.int .i64 (q : Int)) rfl (Or.inl ⟨by kernel_rfl, by intro w hSw; clear hSw; go_simp⟩) hH ?_
          simp only [tkS, Act.put]
          refine tkH 9 (.int .i64 (n : Int)) rfl (Or.inl ⟨by kernel_rfl, by intro w hSw; clear hSw; go_simp⟩) hH ?_
          simp only [tkS, Act.put]
          refine tkH 10 (.int .i64 ((q : Int) + (n : Int))) rfl (Or.inl ⟨by kernel_rfl, by intro w hSw; clear hSw; go_simp; rw [IntKind.wrap_i64]; omega⟩) hH ?_
          simp only [tkS, Act.put]
          refine tkH 11 (.int .i64 (q : Int)) rfl (Or.inl ⟨by kernel_rfl, by intro w hSw; clear hSw; go_simp⟩) hH ?_
          simp only [tkS, Act.put]
          refine tkH 12 (.int .i64 (n : Int)) rfl (Or.inl ⟨by kernel_rfl, by intro w hSw; clear hSw; go_simp⟩) hH ?_
          simp only [tkS, Act.put]
          refine tkH 13 (.int .i64 ((q : Int) + (n : Int))) rfl (Or.inl ⟨by kernel_rfl, by intro w hSw; clear hSw; go_simp; rw [IntKind.wrap_i64]; omega⟩) hH ?_
          simp only [tkS, Act.put]
          refine tkH 14 (.int .i64 ((q : Int) + (n : Int) + 4)) rfl (Or.inl ⟨by kernel_rfl, by intro w hSw; clear hSw; go_simp; rw [IntKind.wrap_i64]; omega⟩) hH ?_
          simp only [tkS, Act.put]
          refine tkH 15 (.slice ya4 4 (vc - (q + n))) rfl (Or.inl ⟨by kernel_rfl, by intro w hSw; clear hSw; go_simp; rw [if_pos ⟨by omega, by omega⟩, if_pos ⟨by omega, by omega⟩, show ((q : Int) + (n : Int)).toNat = q + n by omega, show ((q : Int) + (n : Int) + 4).toNat = q + n + 4 by omega, HYA.out, show q + n + 4 - (q + n) = 4 by omega]⟩) hH ?_
          simp only [tkS, Act.put]
          refine tkH 16 (.string (ofInts TL)) rfl (Or.inl ⟨by kernel_rfl, by intro w hSw; have hst := run_string_of (HRT.out w hSw); clear hSw; go_simp⟩) hH ?_
          simp only [tkS, Act.put]
          refine wpAnyH_ready (rs := [4]) (by kernel_rfl) (by simp) ?_
          refine AllReadyH.cons rfl (fun K hK => ?_) AllReadyH.nil
          rw [if_pos (by kernel_rfl)]
          go_simp
          refine (HS32.out _ hH).mono ?_
          rintro e w9 ⟨rfl, rfl⟩
          refine hK.out _ _ hH (fun hH2 => ?_)
          clear hK K hH HS32
          refine wpAnyH_ready (rs := [5]) (by kernel_rfl) (by simp) ?_
          refine AllReadyH.cons rfl (fun K hK => ?_) AllReadyH.nil
          rw [if_pos (by kernel_rfl)]
          go_simp
          refine (l01Four_any SM hsl _).mono ?_
          rintro e w9 ⟨r9, rfl, ho9, hb9⟩
          have hb89 : Below w.heap.size w w9 := below_seq HQ8.below hb9
          have HQ9 := HQ8.grow hb9
          have hcl9 : w9.rangeAt w6.heap.size 0 [.int .i64 ya, .int .i64 ys, .int .i64 yt, .slice da dn dc, .int .i64 yk, .int .i64 yo, .int .i64 yn, .int .i64 yu, .int .i64 ypt, .int .i64 ypa, .string yky, .string ytx] := fun j u hj => cell_on hb9 (hcl8 j u hj)
          have hoy9 := Own.below hoy hb9 (Nat.le_refl _)
          have hst9 := run_string_of ho9.rd
          have HDC := ofInts_dec (fun c hc => four_bytes hsl c hc : Bytes (four SM)) HTL.out
          obtain ⟨r9a, r9k, e9, _⟩ := ho9.slice
          generalize ((four SM).map (Value.int .u8)).length = l9 at e9
          subst e9
          refine hK.out _ _ (HR.out _ hb89) (fun hH3 => ?_)
          clear hK K hH2 HQ8 hcl8 hoy ho9 hb9
          refine wpAnyH_ready (rs := [6]) (by kernel_rfl) (by simp) ?_
          refine AllReadyH.cons rfl (fun K hK => ?_) AllReadyH.nil
          rw [if_pos (by kernel_rfl)]
          go_simp
          refine hK.out _ _ hH3 (fun hH4 => ?_)
          clear hK K hH3 hst9
          by_cases hsum : four SM = TL
          · rw [decide_eq_true hsum] at HDC
            refine tkH 17 (.bool false) rfl (Or.inl ⟨by kernel_rfl, by intro w hSw; clear hSw; go_simp; (try simp [HDC])⟩) hH4 ?_
            simp only [tkS, Act.put]
            refine tkH 18 (.bool false) rfl (Or.inl ⟨by kernel_rfl, by intro w hSw; clear hSw; go_simp⟩) hH4 ?_
            simp only [tkS, Act.put]
            refine wpAnyH_done (by kernel_rfl) ?_ _
            clear hH4 HDC
            have hrd : recRd xs p = some (x, q + n + 4) := by rw [HREC.out, if_pos hsum.symm]
            rw [recs_some hx hp hrd] at HRC
            have hds : yds = x.ds := congrArg Ov.ds hyx
            have hsame : (⟨ya, ys, yt, .slice da dn dc, yk, yo, yn, yu, ypt, ypa, yky, ytx, yds⟩ : Ov).same x := by rw [hyx]; exact ⟨rfl, rfl, rfl, rfl, rfl, rfl, rfl, rfl, rfl, rfl, rfl, rfl⟩
            have HQA := HQ9.grow (below_alloc w9 (.cells #[.int .i64 ya, .int .i64 ys, .int .i64 yt, .slice da dn dc, .int .i64 yk, .int .i64 yo, .int .i64 yn, .int .i64 yu, .int .i64 ypt, .int .i64 ypa, .string yky, .string ytx] 41))
            have hoA : Own 3 (w9.alloc (.cells #[.int .i64 ya, .int .i64 ys, .int .i64 yt, .slice da dn dc, .int .i64 yk, .int .i64 yo, .int .i64 yn, .int .i64 yu, .int .i64 ypt, .int .i64 ypa, .string yky, .string ytx] 41)) w.heap.size (.slice da dn dc) (yds.map (Value.int .i64)) := by rw [hds]; exact Own.mono (World.ownsRow.alloc hoy9 _) hsw
            have hcnA := opNew w9 (⟨ya, ys, yt, .slice da dn dc, yk, yo, yn, yu, ypt, ypa, yky, ytx, yds⟩ : Ov)
            have hone : ∀ u ∈ Ov.cs (⟨ya, ys, yt, .slice da dn dc, yk, yo, yn, yu, ypt, ypa, yky, ytx, yds⟩ : Ov), u.oneCell' = true := cs_one (⟨ya, ys, yt, .slice da dn dc, yk, yo, yn, yu, ypt, ypa, yky, ytx, yds⟩ : Ov) rfl
            have HI := infoOpB (⟨ya, ys, yt, .slice da dn dc, yk, yo, yn, yu, ypt, ypa, yky, ytx, yds⟩ : Ov)
            have hszA : w.heap.size ≤ (w9.alloc (.cells #[.int .i64 ya, .int .i64 ys, .int .i64 yt, .slice da dn dc, .int .i64 yk, .int .i64 yo, .int .i64 yn, .int .i64 yu, .int .i64 ypt, .int .i64 ypa, .string yky, .string ytx] 41)).heap.size := HQA.below.size
            have HLL : Hid (L.length ≤ 1048576) := by unfold Hid; omega
            have HOA : Hid (Own 3 (w9.alloc (.cells #[.int .i64 ya, .int .i64 ys, .int .i64 yt, .slice da dn dc, .int .i64 yk, .int .i64 yo, .int .i64 yn, .int .i64 yu, .int .i64 ypt, .int .i64 ypa, .string yky, .string ytx] 41)) w.heap.size (.slice da dn dc) (yds.map (Value.int .i64))) := hoA
            have HSM2 : Hid ((⟨ya, ys, yt, .slice da dn dc, yk, yo, yn, yu, ypt, ypa, yky, ytx, yds⟩ : Ov).same x) := hsame
            unfold Ov.cs at hone HI hcnA
            clear HQ9 hoy9 hoA hsame hrd HREC hsum hyx hds
            go_wp2_with (first | (refine wpList_load_mid rfl 41 _ rfl w6.heap.size 0 rfl [.int .i64 ya, .int .i64 ys, .int .i64 yt, .slice da dn dc, .int .i64 yk, .int .i64 yo, .int .i64 yn, .int .i64 yu, .int .i64 ypt, .int .i64 ypa, .string yky, .string ytx] _ hcl9 Tryz.underlying41 rfl HI ?_) | (at_builtin; refine wpList_append_lies _ rfl _ _ 23 rfl w.heap.size 41 i0 (.agg #[.int .i64 0, .int .i64 0, .int .i64 0, .slice none 0 0, .int .i64 0, .int .i64 0, .int .i64 0, .int .i64 0, .int .i64 0, .int .i64 0, .string ByteArray.empty, .string ByteArray.empty]) 12 128 Tryz.underlying23 hi hz0 hz1 hz2 rfl (by decide) _ L.length _ rfl HQA.row ⟨w9.heap.size, 0, none⟩ 1 1 [.int .i64 ya, .int .i64 ys, .int .i64 yt, .slice da dn dc, .int .i64 yk, .int .i64 yo, .int .i64 yn, .int .i64 yu, .int .i64 ypt, .int .i64 ypa, .string yky, .string ytx] rfl rfl hcnA hone (by omega) (by have := HLL.out; unfold maxLen; omega) (by have := HLL.out; omega) hszA _ rfl ?_))
            intro g cap w5 ho5 hg5 hw5 hl5
            have HQ5 := Rq.app (x := (⟨ya, ys, yt, .slice da dn dc, yk, yo, yn, yu, ypt, ypa, yky, ytx, yds⟩ : Ov)) HQA rfl HOA.out ho5 hg5
            have HS5 : Hid (SameL (L ++ [(⟨ya, ys, yt, .slice da dn dc, yk, yo, yn, yu, ypt, ypa, yky, ytx, yds⟩ : Ov)]) (A ++ [x])) := sameL_snoc HS.out HSM2.out
            have HR6 : Hid (recs xs 0 = (A ++ [x] ++ (recs xs (q + n + 4)).1, (recs xs (q + n + 4)).2)) := by unfold Hid; rw [HRC.out]; simp
            have hL5 : (L ++ [(⟨ya, ys, yt, .slice da dn dc, yk, yo, yn, yu, ypt, ypa, yky, ytx, yds⟩ : Ov)]).length = L.length + 1 := by simp
            have HL5 : Hid _ := hL5
            clear ho5 hg5 hw5 hl5 HRC HS HQA hone HI hcnA hszA hcl9 hL5 HOA HSM2
            generalize L ++ [(⟨ya, ys, yt, .slice da dn dc, yk, yo, yn, yu, ypt, ypa, yky, ytx, yds⟩ : Ov)] = L5 at *
            generalize A ++ [x] = A5 at *
            go_wp2_with fail
            go_roundw
            case rel => exact ⟨q + n + 4, L5, A5, by omega, by go_num, HS5, by have := HL5.out; have := HPQ.out; omega, HR6, HQ5⟩
            case measure => have := HPQ.out; simp [intOf]; omega
          · rw [decide_eq_false hsum] at HDC
            refine tkH 17 (.bool true) rfl (Or.inl ⟨by kernel_rfl, by intro w hSw; clear hSw; go_simp; (try simp [HDC])⟩) hH4 ?_
            simp only [tkS, Act.put]
            refine tkH 18 (.bool true) rfl (Or.inl ⟨by kernel_rfl, by intro w hSw; clear hSw; go_simp⟩) hH4 ?_
            simp only [tkS, Act.put]
            refine wpAnyH_done (by kernel_rfl) ?_ _
            clear hH4 HDC
            have hrd : recRd xs p = none := by rw [HREC.out, if_neg (fun h => hsum h.symm)]
            clear HREC hsum hyx hcl9 hoy9
            have hend := recs_none hrd
            rw [hend] at HRC
            clear hend
            go_wp2_with fail
            go_ret2
            exact ⟨ta, tc, L, by rw [HRC.out]; rfl, by rw [HRC.out, List.append_nil]; exact HS.out, HQ9⟩
      · have j0 : (n : Int) > (xs.length : Int) - (q : Int) - 4 := by omega
        have hrd : recRd xs p = none := by unfold recRd; rw [hG]; simp only; rw [if_neg (by rintro ⟨h1, h2, _⟩; simp at h1 h2; omega)]
        clear hok
        go_wp2_with fail
        refine hget.mono ?_
        rintro e w2 ⟨rfl, rfl⟩
        clear hget hG
        have hend := recs_none hrd
        rw [hend] at HRC
        clear hend
        go_wp2_with fail
        go_ret2
        exact ⟨ta, tc, L, by rw [HRC.out]; rfl, by rw [HRC.out, List.append_nil]; exact HS.out, HQ⟩

set_option maxHeartbeats 2000000 in
set_option maxRecDepth 100000 in
theorem specReadRecords_any (C : Nat) (w : World) (v : Value) (xs : List Int) (hx : Bytes xs) (hl : xs.length ≤ 1048576) (hC : C ≤ w.heap.size) (hr : Rd C w v (xs.map (Value.int .u8))) :
    Calls Tryz.prog 4 #[v] w fun e w' => ∃ ra rc L, e = .returned (.tuple #[.slice ra (List.length L) rc, .int .i64 ((recs xs 0).2 : Int), .int .i64 0]) ∧ SameL L (recs xs 0).1 ∧ Rq w w' (.slice ra (List.length L) rc) L := by
  have hrc := l13Read_any C w v xs hx hl hC hr
  obtain ⟨va, vc, ev⟩ : ∃ va vc, v = .slice va xs.length vc := by obtain ⟨va, vc, e, _⟩ := hr; rw [List.length_map] at e; exact ⟨va, vc, e⟩
  subst ev
  have q0 : ¬ (1048576 : Int) < (xs.length : Int) := by omega
  generalize recs xs 0 = rr at *
  obtain ⟨A, q⟩ := rr
  clear hr
  go_enter Tryz.func4, Tryz.ntmps4
  go_wp2_with fail
  refine hrc.mono ?_
  rintro e w1 ⟨ra, rc, L, rfl, HS, HR⟩
  clear hrc
  have HS2 : Hid (SameL L A) := HS
  clear HS
  go_wp2_with fail
  go_ret3
  exact ⟨ra, rc, L, rfl, HS2.out, HR⟩
end Go.Proofs.YtcjlihfkibpgoaaGreatDoor
