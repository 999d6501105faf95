/- The code's unknown: those of more that a log has not, each once. -/
import Derived.Test.YtjbjkamlgcnmaaaQOpKey
import Derived.Test.YtjbjkamlgcnmaaaQOpRange
import Derived.Test.YtjbjkamlgcnmaaaQSameOp
import Derived.Test.YtjbjkamlgcnmaaaQLedClosedToLogOKImpl
import Derived.Test.YtjbjkamlgcnmaaaQLedPutFToRowRd
import Derived.Test.YtjbjkamlgcnmaaaQTakeKitToBigKit
namespace Go.Proofs.Ytjbjkamlgcnmaaa
open Go.RowKit
set_option linter.unusedVariables false

theorem OpBlk.lt {W : World} {B : Nat} {x : Ov} (h : OpBlk W B x) : B < W.heap.size := (Array.getElem?_eq_some_iff.1 h).1
theorem apart_take {L : List Ov} (h : Apart L) {k : Nat} (hk : k < L.length) : ∀ y ∈ L.take k, ¬ (y.a = (ovAt L k).a ∧ y.s = (ovAt L k).s) := by
  intro y hy e
  obtain ⟨i, hi, e1⟩ := List.getElem_of_mem hy
  rw [List.length_take] at hi
  have ei : ovAt L i = y := by
    rw [← e1, List.getElem_take]
    have := ovAt_get (L := L) (k := i) (by omega)
    rw [List.getElem?_eq_getElem (by omega)] at this
    exact (Option.some.inj this).symm
  rw [← ei] at e
  have := apart_at h (i := i) (j := k) (by omega) hk e.1 e.2
  omega
theorem causes_len' {x : Ov} (h : x.ok = true) : vecOK x.ds = true := (ok_parts h).2.2
theorem owns_low {w : World} {B B' : Nat} {e : TypeId} {s n : Nat} {v : Value} {xs : List Value} (h : w.ownsRow B e s v n xs) (hb : B' ≤ B) : w.ownsRow B' e s v n xs := by
  obtain ⟨h1, h2⟩ := h
  refine ⟨h1, ?_⟩
  rcases h2 with h2 | ⟨g, cap, cur, hv, hg, hh, r⟩
  · exact .inl h2
  · exact .inr ⟨g, cap, cur, hv, by omega, hh, r⟩
theorem oneCell_dv {C : Nat} {w : World} {v : Value} {L : List Ov} (h : RdO C w v L) : ∀ x ∈ L, x.dv.oneCell' = true := by
  intro x hx
  obtain ⟨a, c, e, _⟩ := h.2 x hx
  rw [e]
  rfl

set_option maxHeartbeats 4000000 in
set_option maxRecDepth 100000 in
theorem unknown_any (C : Nat) (w : World) (v vm : Value) (L M : List Ov) (hC : C ≤ w.heap.size) (hr : RdO C w v L) (hrm : RdO C w vm M) (hl : L.length ≤ 1024) (hm : M.length ≤ 1024) (hLok : ∀ x ∈ L, x.ok = true) (hMok : ∀ x ∈ M, x.ok = true) (hA : Apart L) :
    Calls Try.prog 26 #[v, vm] w fun e w' => ((unk L M = none ∧ e = .returned (.tuple #[.slice none 0 0, .int .i64 16])) ∨ (∃ acc r, unk L M = some acc ∧ e = .returned (.tuple #[r, .int .i64 0]) ∧ w'.ownsRow w.heap.size 44 12 r acc.length (rowCs acc))) ∧ Below w.heap.size w w' := by
  have hmm := @run_makeMap Try.prog
  have hdvL := dv_slice hr
  have hdvM := dv_slice hrm
  obtain ⟨⟨ao, cap, rfl, hcap, hmax, hnil, hrow⟩, hdv1⟩ := hr
  obtain ⟨⟨am, cam, rfl, hcam, hmam, hnim, hrom⟩, hdv2⟩ := hrm
  obtain ⟨i0, hi, hz0, hz1, hz2⟩ := info_parts infoOp
  go_enter Try.func26, Try.ntmps26
  go_wp2_with fail
  go_loopw [17] (fun ti wr => ∃ k : Nat, k ≤ L.length ∧ ti = .int .i64 (k : Int) ∧ Hid (Met wr w.heap.size (L.take k)) ∧ Below w.heap.size w wr) (fun ti _ => L.length - (intOf ti).toNat)
  case atStart => exact ⟨0, Nat.zero_le _, rfl, met_made w, (Below.refl _ w).alloc (Nat.le_refl _) _⟩
  case round =>
    obtain ⟨k, hk, rfl, HM, hbel⟩ := hrel
    have hs := hbel.size
    by_cases hlt : k < L.length
    · have hki : (k : Int) < (L.length : Int) := by omega
      have hk2 : (k : Int) + 1 < 9223372036854775808 := by omega
      obtain ⟨g, off, rfl, hg, hcs⟩ := hrow (by omega)
      have hrg := opAt_range ((hcs k hlt).below (hbel.mono hC) hg)
      obtain ⟨da, dn, dc, hdv⟩ := hdvL k
      have hokx := hLok _ (ovAt_mem hlt)
      obtain ⟨lk, hlk⟩ := valid_name hokx
      have HI : Hid ((Try.prog.info? 44).map (·.size) = some (ovAt L k).cs.length) := infoOpB _
      have HNEW : Hid (∀ y ∈ L.take k, ¬ (y.a = (ovAt L k).a ∧ y.s = (ovAt L k).s)) := apart_take hA hlt
      have HST : Hid (L.take (k + 1) = L.take k ++ [ovAt L k]) := take_snoc hlt
      have HK : Hid _ := hlk
      clear hlk hcs hrow hrom hokx hdv1 hdv2
      generalize ovAt L k = x at hrg hdv HI HNEW HST HK
      obtain ⟨xa, xs, xt, xdv, xk, xo, xn, xu, xpt, xpa, xky, xtx, xds⟩ := x
      obtain rfl : xdv = .slice da dn dc := hdv
      unfold Ov.cs at hrg HI
      have HMET : Hid (Met (wr.alloc (.cells #[.int .i64 xa, .int .i64 xs, .int .i64 xt, .slice da dn dc, .int .i64 xk, .int .i64 xo, .int .i64 xn, .int .i64 xu, .int .i64 xpt, .int .i64 xpa, .string xky, .string xtx] 44)) w.heap.size (L.take k)) := HM.out.on (below_alloc wr _)
      have HP : Hid (OpBlk (wr.alloc (.cells #[.int .i64 xa, .int .i64 xs, .int .i64 xt, .slice da dn dc, .int .i64 xk, .int .i64 xo, .int .i64 xn, .int .i64 xu, .int .i64 xpt, .int .i64 xpa, .string xky, .string xtx] 44)) wr.heap.size (⟨xa, xs, xt, .slice da dn dc, xk, xo, xn, xu, xpt, xpa, xky, xtx, xds⟩ : Ov)) := heap_alloc_new wr _
      have HBW : Hid (w.heap.size < wr.heap.size) := HM.out.lt
      clear HM
      go_upto_region 5 with (first | (refine wpList_load_mid rfl 44 _ rfl g (off + k * 12) rfl [.int .i64 xa, .int .i64 xs, .int .i64 xt, .slice da dn dc, .int .i64 xk, .int .i64 xo, .int .i64 xn, .int .i64 xu, .int .i64 xpt, .int .i64 xpa, .string xky, .string xtx] _ hrg Try.underlying44 rfl HI.out ?_))
      have hsw := HBW.out
      refine wp_region_held_drew (S := fun w' => OpBlk w' wr.heap.size (⟨xa, xs, xt, .slice da dn dc, xk, xo, xn, xu, xpt, xpa, xky, xtx, xds⟩ : Ov)) (by kernel_rfl) HP.out (fun hHeld => ?_)
      refine tkH 0 (.map (some w.heap.size)) rfl (Or.inl ⟨by kernel_rfl, by intro w hSw; go_simp⟩) hHeld ?_
      simp only [tkS, Act.put]
      refine wpAnyH_take (i := 1) (v := .agg #[.int .i64 xa, .int .i64 xs, .int .i64 xt, .slice da dn dc, .int .i64 xk, .int .i64 xo, .int .i64 xn, .int .i64 xu, .int .i64 xpt, .int .i64 xpa, .string xky, .string xtx]) rfl (by kernel_rfl) (by kernel_rfl) (by kernel_rfl) (fun _ _ _ h => h) (yieldsIf_load_mid rfl _ _ rfl wr.heap.size 0 rfl [.int .i64 xa, .int .i64 xs, .int .i64 xt, .slice da dn dc, .int .i64 xk, .int .i64 xo, .int .i64 xn, .int .i64 xu, .int .i64 xpt, .int .i64 xpa, .string xky, .string xtx] _ (fun w h => opBlk_range h) Try.underlying44 rfl (infoOpB (⟨xa, xs, xt, .slice da dn dc, xk, xo, xn, xu, xpt, xpa, xky, xtx, xds⟩ : Ov))) hHeld ?_
      simp only [tkS, Act.put]
      refine wpAnyH_take (i := 3) (v := .agg #[.int .i64 xa, .int .i64 xs, .int .i64 xt, .slice da dn dc, .int .i64 xk, .int .i64 xo, .int .i64 xn, .int .i64 xu, .int .i64 xpt, .int .i64 xpa, .string xky, .string xtx]) rfl (by kernel_rfl) (by kernel_rfl) (by kernel_rfl) (fun _ _ _ h => h) (yieldsIf_load_mid rfl _ _ rfl wr.heap.size 0 rfl [.int .i64 xa, .int .i64 xs, .int .i64 xt, .slice da dn dc, .int .i64 xk, .int .i64 xo, .int .i64 xn, .int .i64 xu, .int .i64 xpt, .int .i64 xpa, .string xky, .string xtx] _ (fun w h => opBlk_range h) Try.underlying44 rfl (infoOpB (⟨xa, xs, xt, .slice da dn dc, xk, xo, xn, xu, xpt, xpa, xky, xtx, xds⟩ : Ov))) hHeld ?_
      simp only [tkS, Act.put]
      refine wpAnyH_ready (rs := [2]) (by kernel_rfl) (by simp) ?_
      refine AllReadyH.cons rfl (fun K hK => ?_) AllReadyH.nil
      go_simp
      refine (opName_any xa xs xt xk xo xn xu xpt xpa (.slice da dn dc) xky xtx _).mono ?_
      rintro e w9 ⟨rfl, hb9d⟩
      have hb9 : Below (wr.alloc (.cells #[.int .i64 xa, .int .i64 xs, .int .i64 xt, .slice da dn dc, .int .i64 xk, .int .i64 xo, .int .i64 xn, .int .i64 xu, .int .i64 xpt, .int .i64 xpa, .string xky, .string xtx] 44)).heap.size (wr.alloc (.cells #[.int .i64 xa, .int .i64 xs, .int .i64 xt, .slice da dn dc, .int .i64 xk, .int .i64 xo, .int .i64 xn, .int .i64 xu, .int .i64 xpt, .int .i64 xpa, .string xky, .string xtx] 44)) w9 := ((Below.refl (wr.alloc (.cells #[.int .i64 xa, .int .i64 xs, .int .i64 xt, .slice da dn dc, .int .i64 xk, .int .i64 xo, .int .i64 xn, .int .i64 xu, .int .i64 xpt, .int .i64 xpa, .string xky, .string xtx] 44)).heap.size (wr.alloc (.cells #[.int .i64 xa, .int .i64 xs, .int .i64 xt, .slice da dn dc, .int .i64 xk, .int .i64 xo, .int .i64 xn, .int .i64 xu, .int .i64 xpt, .int .i64 xpa, .string xky, .string xtx] 44))).drew).trans hb9d
      clear hb9d
      have hs9 := hb9.size
      have HP9 : OpBlk w9 wr.heap.size (⟨xa, xs, xt, .slice da dn dc, xk, xo, xn, xu, xpt, xpa, xky, xtx, xds⟩ : Ov) := (hb9.block _ (OpBlk.lt HP.out)).trans HP.out
      refine hK.out _ _ HP9 (fun hHeld => ?_)
      clear hK K
      obtain ⟨W2, hrun, hmet2, hg2⟩ := met_put (HMET.out.on hb9) (⟨xa, xs, xt, .slice da dn dc, xk, xo, xn, xu, xpt, xpa, xky, xtx, xds⟩ : Ov) HK.out HNEW.out
      replace hrun : (Instr.mapUpdate 83 (.map (some w.heap.size)) (.agg #[.int .i64 xa, .int .i64 xs]) (.agg #[.int .i64 xa, .int .i64 xs, .int .i64 xt, .slice da dn dc, .int .i64 xk, .int .i64 xo, .int .i64 xn, .int .i64 xu, .int .i64 xpt, .int .i64 xpa, .string xky, .string xtx])).run Try.prog w9 = .ok () W2 := hrun
      refine wpAnyH_ready (rs := [4]) (by kernel_rfl) (by simp) ?_
      refine AllReadyH.cons rfl (fun K hK => ?_) AllReadyH.nil
      go_simp
      have HP2 : OpBlk W2 wr.heap.size (⟨xa, xs, xt, .slice da dn dc, xk, xo, xn, xu, xpt, xpa, xky, xtx, xds⟩ : Ov) := (hg2.block _ (OpBlk.lt HP9) (fun e => by have := Option.some.inj e; omega)).trans HP9
      refine hK.out _ _ HP2 (fun hHeld => ?_)
      clear hK K hHeld hrun
      refine wpAnyH_done (by kernel_rfl) ?_ _
      have hg2s := hg2.size
      have hbl2 : Below w.heap.size w W2 := ((hbel.alloc hs _).trans (hb9.mono (by rw [World.size_alloc]; omega))).grown hg2 (by rw [World.size_alloc] at hs9; omega) (fun j e => by cases e; exact Nat.le_refl _)
      go_wp2_with fail
      go_roundw
      case rel => exact ⟨k + 1, by omega, by go_num, by unfold Hid; rw [HST.out]; exact hmet2, hbl2⟩
      case measure => simp [intOf]; omega
    · have hkl : k = L.length := by omega
      have i1 : ¬ (k : Int) < (L.length : Int) := by omega
      have HM2 : Hid (Met wr w.heap.size (L ++ [])) := by unfold Hid; rw [List.append_nil]; have := HM.out; rwa [hkl, List.take_length] at this
      have HU : Hid (unk L (M.take 0) = some []) := rfl
      clear hkl HM
      go_wp2_with fail
      go_loopw [9, 28] (fun tv ti wr => ∃ (k : Nat) (acc : List Ov), k ≤ M.length ∧ ti = .int .i64 (k : Int) ∧ Hid (unk L (M.take k) = some acc) ∧ Hid (Met wr w.heap.size (L ++ acc)) ∧ Hid (wr.ownsRow (w.heap.size + 1) 44 12 tv acc.length (rowCs acc)) ∧ Below w.heap.size w wr) (fun _ ti _ => M.length - (intOf ti).toNat)
      case atStart => exact ⟨0, [], Nat.zero_le _, rfl, HU, HM2, ⟨rfl, .inl ⟨rfl, rfl⟩⟩, hbel⟩
      case round =>
        clear HU HM2 hbel hs
        obtain ⟨k, acc, hk, rfl, HU, HM, HO, hbel⟩ := hrel
        have hs := hbel.size
        by_cases hlt : k < M.length
        · have hki : (k : Int) < (M.length : Int) := by omega
          have hk2 : (k : Int) + 1 < 9223372036854775808 := by omega
          obtain ⟨g, off, rfl, hg, hcs⟩ := hrom (by omega)
          have hrg := opAt_range ((hcs k hlt).below (hbel.mono hC) hg)
          obtain ⟨da, dn, dc, hdv⟩ := hdvM k
          have hokx := hMok _ (ovAt_mem hlt)
          obtain ⟨lk, hlk⟩ := valid_name hokx
          have HI : Hid ((Try.prog.info? 44).map (·.size) = some (ovAt M k).cs.length) := infoOpB _
          obtain ⟨HAP, HAL, HAM⟩ := unk_apart hA (M.take k).reverse (by rw [List.reverse_reverse]; exact HU.out)
          have hxd := vec_16 (causes_len' hokx)
          have hrx : Rd C wr (ovAt M k).dv ((ovAt M k).ds.map (Value.int .i64)) := (hdv2 _ (ovAt_mem hlt)).below (hbel.mono hC)
          have HK : Hid _ := hlk
          have HS : Hid (unk L (M.take (k + 1)) = unkS L (some acc) (ovAt M k)) := by unfold Hid; rw [take_snoc hlt, unk_snoc, HU.out]
          have hacc : acc.length ≤ 1024 := by rw [List.length_reverse, List.length_take] at HAL; omega
          clear hlk hcs hrow hrom
          cases hf : (L ++ acc).find? (nameB (ovAt M k)) with
          | none =>
            have HNEW : Hid (∀ y ∈ L ++ acc, ¬ (y.a = (ovAt M k).a ∧ y.s = (ovAt M k).s)) := fun y hy e => by
              rw [List.find?_eq_none] at hf
              exact hf y hy (decide_eq_true e)
            have HF : Hid (unk L (M.take (k + 1)) = some (acc ++ [ovAt M k])) := by unfold Hid; rw [HS.out]; unfold unkS; rw [Option.bind_some, hf]
            clear hf HS HAP HAL HAM hokx hrx hxd hdv1 hdv2
            generalize ovAt M k = x at hrg hdv HI HNEW HF HK
            obtain ⟨xa, xs, xt, xdv, xk, xo, xn, xu, xpt, xpa, xky, xtx, xds⟩ := x
            obtain rfl : xdv = .slice da dn dc := hdv
            unfold Ov.cs at hrg HI
            have HMET0 : Hid (Met (wr.alloc (.cells #[.int .i64 xa, .int .i64 xs, .int .i64 xt, .slice da dn dc, .int .i64 xk, .int .i64 xo, .int .i64 xn, .int .i64 xu, .int .i64 xpt, .int .i64 xpa, .string xky, .string xtx] 44)) w.heap.size (L ++ acc)) := HM.out.on (below_alloc wr _)
            have HP0 : Hid (OpBlk (wr.alloc (.cells #[.int .i64 xa, .int .i64 xs, .int .i64 xt, .slice da dn dc, .int .i64 xk, .int .i64 xo, .int .i64 xn, .int .i64 xu, .int .i64 xpt, .int .i64 xpa, .string xky, .string xtx] 44)) wr.heap.size (⟨xa, xs, xt, .slice da dn dc, xk, xo, xn, xu, xpt, xpa, xky, xtx, xds⟩ : Ov)) := heap_alloc_new wr _
            have HLK : Hid (∀ w9, Below (wr.alloc (.cells #[.int .i64 xa, .int .i64 xs, .int .i64 xt, .slice da dn dc, .int .i64 xk, .int .i64 xo, .int .i64 xn, .int .i64 xu, .int .i64 xpt, .int .i64 xpa, .string xky, .string xtx] 44)).heap.size (wr.alloc (.cells #[.int .i64 xa, .int .i64 xs, .int .i64 xt, .slice da dn dc, .int .i64 xk, .int .i64 xo, .int .i64 xn, .int .i64 xu, .int .i64 xpt, .int .i64 xpa, .string xky, .string xtx] 44)) w9 → (Instr.lookup 83 (.map (some w.heap.size)) (.agg #[.int .i64 xa, .int .i64 xs]) true).run Try.prog w9 = .ok (.tuple #[.agg #[.int .i64 0, .int .i64 0, .int .i64 0, .slice none 0 0, .int .i64 0, .int .i64 0, .int .i64 0, .int .i64 0, .int .i64 0, .int .i64 0, .string ByteArray.empty, .string ByteArray.empty], .bool false]) w9) := fun w9 hb => met_lacks (HMET0.out.on hb) HK.out HNEW.out
            have HBW : Hid (w.heap.size < wr.heap.size) := HM.out.lt
            have hrgB : (wr.alloc (.cells #[.int .i64 xa, .int .i64 xs, .int .i64 xt, .slice da dn dc, .int .i64 xk, .int .i64 xo, .int .i64 xn, .int .i64 xu, .int .i64 xpt, .int .i64 xpa, .string xky, .string xtx] 44)).rangeAt wr.heap.size 0 [.int .i64 xa, .int .i64 xs, .int .i64 xt, .slice da dn dc, .int .i64 xk, .int .i64 xo, .int .i64 xn, .int .i64 xu, .int .i64 xpt, .int .i64 xpa, .string xky, .string xtx] := opBlk_range HP0.out
            clear HM
            go_upto_region 13 with (first | (go_at_call 53; refine (opName_any xa xs xt xk xo xn xu xpt xpa (.slice da dn dc) xky xtx _).mono ?_; rintro e w5 ⟨rfl, hb5⟩; have hlook := HLK.out w5 hb5) | (refine wpList_load_mid rfl 44 _ rfl g (off + k * 12) rfl [.int .i64 xa, .int .i64 xs, .int .i64 xt, .slice da dn dc, .int .i64 xk, .int .i64 xo, .int .i64 xn, .int .i64 xu, .int .i64 xpt, .int .i64 xpa, .string xky, .string xtx] _ hrg Try.underlying44 rfl HI.out ?_) | (refine wpList_load_mid rfl 44 _ rfl wr.heap.size 0 rfl [.int .i64 xa, .int .i64 xs, .int .i64 xt, .slice da dn dc, .int .i64 xk, .int .i64 xo, .int .i64 xn, .int .i64 xu, .int .i64 xpt, .int .i64 xpa, .string xky, .string xtx] _ hrgB Try.underlying44 rfl HI.out ?_))
            obtain ⟨w6, HW6⟩ : ∃ w6, Hid (w5.alloc (.cells #[.int .i64 0, .int .i64 0, .int .i64 0, .slice none 0 0, .int .i64 0, .int .i64 0, .int .i64 0, .int .i64 0, .int .i64 0, .int .i64 0, .string ByteArray.empty, .string ByteArray.empty] 44) = w6) := ⟨_, rfl⟩
            rw [HW6.out]
            have hb6 : Below (wr.alloc (.cells #[.int .i64 xa, .int .i64 xs, .int .i64 xt, .slice da dn dc, .int .i64 xk, .int .i64 xo, .int .i64 xn, .int .i64 xu, .int .i64 xpt, .int .i64 xpa, .string xky, .string xtx] 44)).heap.size (wr.alloc (.cells #[.int .i64 xa, .int .i64 xs, .int .i64 xt, .slice da dn dc, .int .i64 xk, .int .i64 xo, .int .i64 xn, .int .i64 xu, .int .i64 xpt, .int .i64 xpa, .string xky, .string xtx] 44)) w6 := by rw [← HW6.out]; exact hb5.alloc hb5.size _
            have HMET : Hid (Met w6 w.heap.size (L ++ acc)) := HMET0.out.on hb6
            have HP : Hid (OpBlk w6 wr.heap.size (⟨xa, xs, xt, .slice da dn dc, xk, xo, xn, xu, xpt, xpa, xky, xtx, xds⟩ : Ov)) := (hb6.block _ (OpBlk.lt HP0.out)).trans HP0.out
            have hs6 := hb6.size
            rw [World.size_alloc] at hs6
            clear HMET0 HP0 HLK hlook hb5 hrgB HW6
            have hsw := HBW.out
            refine wp_region_held_drew (S := fun w' => OpBlk w' wr.heap.size (⟨xa, xs, xt, .slice da dn dc, xk, xo, xn, xu, xpt, xpa, xky, xtx, xds⟩ : Ov)) (by kernel_rfl) HP.out (fun hHeld => ?_)
            refine tkH 0 (.map (some w.heap.size)) rfl (Or.inl ⟨by kernel_rfl, by intro w hSw; go_simp⟩) hHeld ?_
            simp only [tkS, Act.put]
            refine wpAnyH_take (i := 1) (v := .agg #[.int .i64 xa, .int .i64 xs, .int .i64 xt, .slice da dn dc, .int .i64 xk, .int .i64 xo, .int .i64 xn, .int .i64 xu, .int .i64 xpt, .int .i64 xpa, .string xky, .string xtx]) rfl (by kernel_rfl) (by kernel_rfl) (by kernel_rfl) (fun _ _ _ h => h) (yieldsIf_load_mid rfl _ _ rfl wr.heap.size 0 rfl [.int .i64 xa, .int .i64 xs, .int .i64 xt, .slice da dn dc, .int .i64 xk, .int .i64 xo, .int .i64 xn, .int .i64 xu, .int .i64 xpt, .int .i64 xpa, .string xky, .string xtx] _ (fun w h => opBlk_range h) Try.underlying44 rfl (infoOpB (⟨xa, xs, xt, .slice da dn dc, xk, xo, xn, xu, xpt, xpa, xky, xtx, xds⟩ : Ov))) hHeld ?_
            simp only [tkS, Act.put]
            refine wpAnyH_take (i := 3) (v := .agg #[.int .i64 xa, .int .i64 xs, .int .i64 xt, .slice da dn dc, .int .i64 xk, .int .i64 xo, .int .i64 xn, .int .i64 xu, .int .i64 xpt, .int .i64 xpa, .string xky, .string xtx]) rfl (by kernel_rfl) (by kernel_rfl) (by kernel_rfl) (fun _ _ _ h => h) (yieldsIf_load_mid rfl _ _ rfl wr.heap.size 0 rfl [.int .i64 xa, .int .i64 xs, .int .i64 xt, .slice da dn dc, .int .i64 xk, .int .i64 xo, .int .i64 xn, .int .i64 xu, .int .i64 xpt, .int .i64 xpa, .string xky, .string xtx] _ (fun w h => opBlk_range h) Try.underlying44 rfl (infoOpB (⟨xa, xs, xt, .slice da dn dc, xk, xo, xn, xu, xpt, xpa, xky, xtx, xds⟩ : Ov))) hHeld ?_
            simp only [tkS, Act.put]
            refine wpAnyH_ready (rs := [2]) (by kernel_rfl) (by simp) ?_
            refine AllReadyH.cons rfl (fun K hK => ?_) AllReadyH.nil
            go_simp
            refine (opName_any xa xs xt xk xo xn xu xpt xpa (.slice da dn dc) xky xtx _).mono ?_
            rintro e w9 ⟨rfl, hb9d⟩
            have hb9 : Below w6.heap.size w6 w9 := ((Below.refl w6.heap.size w6).drew).trans hb9d
            clear hb9d
            have hs9 := hb9.size
            have HP9 : OpBlk w9 wr.heap.size (⟨xa, xs, xt, .slice da dn dc, xk, xo, xn, xu, xpt, xpa, xky, xtx, xds⟩ : Ov) := (hb9.block _ (OpBlk.lt HP.out)).trans HP.out
            refine hK.out _ _ HP9 (fun hHeld => ?_)
            clear hK K
            obtain ⟨W2, hrun, hmet2, hg2⟩ := met_put (HMET.out.on hb9) (⟨xa, xs, xt, .slice da dn dc, xk, xo, xn, xu, xpt, xpa, xky, xtx, xds⟩ : Ov) HK.out HNEW.out
            replace hrun : (Instr.mapUpdate 83 (.map (some w.heap.size)) (.agg #[.int .i64 xa, .int .i64 xs]) (.agg #[.int .i64 xa, .int .i64 xs, .int .i64 xt, .slice da dn dc, .int .i64 xk, .int .i64 xo, .int .i64 xn, .int .i64 xu, .int .i64 xpt, .int .i64 xpa, .string xky, .string xtx])).run Try.prog w9 = .ok () W2 := hrun
            refine wpAnyH_ready (rs := [4]) (by kernel_rfl) (by simp) ?_
            refine AllReadyH.cons rfl (fun K hK => ?_) AllReadyH.nil
            go_simp
            have HP2 : OpBlk W2 wr.heap.size (⟨xa, xs, xt, .slice da dn dc, xk, xo, xn, xu, xpt, xpa, xky, xtx, xds⟩ : Ov) := (hg2.block _ (OpBlk.lt HP9) (fun e => by have := Option.some.inj e; omega)).trans HP9
            refine hK.out _ _ HP2 (fun hHeld => ?_)
            clear hK K hHeld hrun
            refine wpAnyH_done (by kernel_rfl) ?_ _
            have hg2s := hg2.size
            have hbl2 : Below w.heap.size w W2 := (((hbel.alloc hs _).trans (hb6.mono (by rw [World.size_alloc]; omega))).trans (hb9.mono (by omega))).grown hg2 (by omega) (fun j e => by cases e; exact Nat.le_refl _)
            have ho2 : W2.ownsRow (w.heap.size + 1) 44 12 u9 acc.length (rowCs acc) := owns_all (owns_on (owns_on (World.ownsRow.alloc HO.out _) hb6 (Nat.le_refl _)) hb9 (Nat.le_refl _)) (fun j hj => hg2.block j (by have := (World.ownsRow.lt (owns_on (owns_on (World.ownsRow.alloc HO.out _) hb6 (Nat.le_refl _)) hb9 (Nat.le_refl _)) j hj).2; exact this) (fun e => by have := (World.ownsRow.lt HO.out j hj).1; have := Option.some.inj e; omega))
            obtain ⟨va9, vc9, e9⟩ : ∃ ao cap, u9 = .slice ao acc.length cap := by
              obtain ⟨_, h2⟩ := ho2
              rcases h2 with ⟨hv, hn⟩ | ⟨g, cap, cur, hv, _⟩
              · exact ⟨none, 0, by rw [hv, hn]⟩
              · exact ⟨_, cap, hv⟩
            subst e9
            have hone : ∀ u ∈ Ov.cs (⟨xa, xs, xt, .slice da dn dc, xk, xo, xn, xu, xpt, xpa, xky, xtx, xds⟩ : Ov), u.oneCell' = true := cs_one (⟨xa, xs, xt, .slice da dn dc, xk, xo, xn, xu, xpt, xpa, xky, xtx, xds⟩ : Ov) rfl
            have hcn := opNew W2 (⟨xa, xs, xt, .slice da dn dc, xk, xo, xn, xu, xpt, xpa, xky, xtx, xds⟩ : Ov)
            have hlt9 := fun k hk => (World.ownsRow.lt ho2 k hk).1
            have hrgC : W2.rangeAt wr.heap.size 0 [.int .i64 xa, .int .i64 xs, .int .i64 xt, .slice da dn dc, .int .i64 xk, .int .i64 xo, .int .i64 xn, .int .i64 xu, .int .i64 xpt, .int .i64 xpa, .string xky, .string xtx] := opBlk_range HP2
            clear HO HBW hb6 hb9 hg2 HP HP9 HMET
            go_wp2_with (first | (refine wpList_load_mid rfl 44 _ rfl wr.heap.size 0 rfl [.int .i64 xa, .int .i64 xs, .int .i64 xt, .slice da dn dc, .int .i64 xk, .int .i64 xo, .int .i64 xn, .int .i64 xu, .int .i64 xpt, .int .i64 xpa, .string xky, .string xtx] _ hrgC Try.underlying44 rfl HI.out ?_) | (at_builtin; refine wpList_append_own _ rfl _ _ 24 rfl (w.heap.size + 1) 44 i0 (.agg #[.int .i64 0, .int .i64 0, .int .i64 0, .slice none 0 0, .int .i64 0, .int .i64 0, .int .i64 0, .int .i64 0, .int .i64 0, .int .i64 0, .string ByteArray.empty, .string ByteArray.empty]) 12 128 Try.underlying24 hi hz0 hz1 hz2 rfl (by decide) _ acc.length _ rfl (World.ownsRow.alloc ho2 _) ⟨W2.heap.size, 0, none⟩ 1 1 (Ov.cs (⟨xa, xs, xt, .slice da dn dc, xk, xo, xn, xu, xpt, xpa, xky, xtx, xds⟩ : Ov)) rfl rfl hcn hone (by unfold maxLen; omega) (by omega) (by simp; omega) ?_))
            intro v7 w7 ho7 hg7 _
            have HMET7 : Hid (Met w7 w.heap.size (L ++ (acc ++ [(⟨xa, xs, xt, .slice da dn dc, xk, xo, xn, xu, xpt, xpa, xky, xtx, xds⟩ : Ov)]))) := by
              unfold Hid
              rw [← List.append_assoc]
              exact (hmet2.on (below_alloc W2 _)).kept (hg7.block _ (by rw [World.size_alloc]; have := hmet2.lt; omega) (fun e => by have := hlt9 _ e.symm; omega))
            have HO7 : Hid (w7.ownsRow (w.heap.size + 1) 44 12 v7 (acc ++ [(⟨xa, xs, xt, .slice da dn dc, xk, xo, xn, xu, xpt, xpa, xky, xtx, xds⟩ : Ov)]).length (rowCs (acc ++ [(⟨xa, xs, xt, .slice da dn dc, xk, xo, xn, xu, xpt, xpa, xky, xtx, xds⟩ : Ov)]))) := by
              unfold Hid
              rw [rowCs_app, List.length_append]
              have e1 : rowCs [(⟨xa, xs, xt, .slice da dn dc, xk, xo, xn, xu, xpt, xpa, xky, xtx, xds⟩ : Ov)] = Ov.cs (⟨xa, xs, xt, .slice da dn dc, xk, xo, xn, xu, xpt, xpa, xky, xtx, xds⟩ : Ov) := by simp [rowCs]
              rw [e1]
              exact ho7
            have hbl7 : Below w.heap.size w w7 := (hbl2.alloc (by omega) _).grown hg7 (by rw [World.size_alloc]; omega) (fun j e => by have := hlt9 j e; omega)
            clear ho7 hg7 ho2 hcn hrgC hmet2 HP2
            go_wp2_with fail
            go_roundw
            case rel => exact ⟨k + 1, acc ++ [(⟨xa, xs, xt, .slice da dn dc, xk, xo, xn, xu, xpt, xpa, xky, xtx, xds⟩ : Ov)], by omega, by go_num, HF, HMET7, HO7, hbl7⟩
            case measure => simp [intOf]; omega
          | some y =>
            have hym := List.mem_of_find?_eq_some hf
            have hyn : y.a = (ovAt M k).a ∧ y.s = (ovAt M k).s := by have := List.find?_some hf; exact of_decide_eq_true this
            have hyX : Rd C w y.dv (y.ds.map (Value.int .i64)) ∧ y.ok = true := by
              rcases List.mem_append.1 hym with h | h
              · exact ⟨hdv1 y h, hLok y h⟩
              · have h2 := List.mem_of_mem_take (List.mem_reverse.1 (HAM y h))
                exact ⟨hdv2 y h2, hMok y h2⟩
            obtain ⟨i, hiX, hyi⟩ : ∃ i, i < (L ++ acc).length ∧ ovAt (L ++ acc) i = y := by
              obtain ⟨i, hi, e⟩ := List.getElem_of_mem hym
              refine ⟨i, hi, ?_⟩
              have := ovAt_get hi
              rw [List.getElem?_eq_getElem hi] at this
              rw [← e]
              exact (Option.some.inj this).symm
            have hyd := vec_16 (causes_len' hyX.2)
            have hyr := hyX.1.below (hbel.mono hC)
            obtain ⟨ea, ec, hdy, _⟩ := id hyr
            obtain ⟨en, HEY⟩ : ∃ en, Hid (y.dv = .slice ea en ec) := ⟨_, hdy⟩
            clear hdy
            have HMH : Hid (∀ w9, Below wr.heap.size wr w9 → (Instr.lookup 83 (.map (some w.heap.size)) (.agg #[.int .i64 (ovAt M k).a, .int .i64 (ovAt M k).s]) true).run Try.prog w9 = .ok (.tuple #[.agg y.cs.toArray, .bool true]) w9) := fun w9 hb => by
              have h1 := met_has (l := lk) (HM.out.on hb) HAP hiX (by rw [hyi, hyn.1, hyn.2]; exact HK.out)
              rw [hyi, hyn.1, hyn.2] at h1
              exact h1
            have HFS : Hid (unk L (M.take (k + 1)) = if sameB y (ovAt M k) = true then some acc else none) := by unfold Hid; rw [HS.out]; unfold unkS; rw [Option.bind_some, hf]
            have hsame : ∀ w9, Below wr.heap.size wr w9 → Calls Try.prog 54 #[.agg (ovAt M k).cs.toArray, .agg y.cs.toArray] w9 fun e w' => e = .returned (.bool (sameB y (ovAt M k))) ∧ Below w9.heap.size w9 w' := fun w9 hb => by
              rw [sameB_comm]
              exact sameOp_any C (ovAt M k) y w9 (by have := hb.size; omega) (hrx.below (hb.mono (by omega))) (hyr.below (hb.mono (by omega))) hxd hyd hyn.1.symm hyn.2.symm
            clear hf HS HAP HAL HAM hokx hrx hxd hdv1 hdv2 hym hyX hyi hiX hyd hyr hyn HK
            generalize ovAt M k = x at hrg hdv HI HMH HFS hsame
            generalize sameB y x = sb at HFS hsame
            obtain ⟨xa, xs, xt, xdv, xk, xo, xn, xu, xpt, xpa, xky, xtx, xds⟩ := x
            obtain rfl : xdv = .slice da dn dc := hdv
            obtain ⟨ya, ys, yt, ydv, yk, yo, yn, yu, ypt, ypa, yky, ytx, yds⟩ := y
            obtain rfl : ydv = .slice ea en ec := HEY.out
            clear HEY
            unfold Ov.cs at hrg HI HMH hsame
            have HP0 : Hid (OpBlk (wr.alloc (.cells #[.int .i64 xa, .int .i64 xs, .int .i64 xt, .slice da dn dc, .int .i64 xk, .int .i64 xo, .int .i64 xn, .int .i64 xu, .int .i64 xpt, .int .i64 xpa, .string xky, .string xtx] 44)) wr.heap.size (⟨xa, xs, xt, .slice da dn dc, xk, xo, xn, xu, xpt, xpa, xky, xtx, xds⟩ : Ov)) := heap_alloc_new wr _
            have hrgB : (wr.alloc (.cells #[.int .i64 xa, .int .i64 xs, .int .i64 xt, .slice da dn dc, .int .i64 xk, .int .i64 xo, .int .i64 xn, .int .i64 xu, .int .i64 xpt, .int .i64 xpa, .string xky, .string xtx] 44)).rangeAt wr.heap.size 0 [.int .i64 xa, .int .i64 xs, .int .i64 xt, .slice da dn dc, .int .i64 xk, .int .i64 xo, .int .i64 xn, .int .i64 xu, .int .i64 xpt, .int .i64 xpa, .string xky, .string xtx] := opBlk_range HP0.out
            have HLK : Hid (∀ w9, Below (wr.alloc (.cells #[.int .i64 xa, .int .i64 xs, .int .i64 xt, .slice da dn dc, .int .i64 xk, .int .i64 xo, .int .i64 xn, .int .i64 xu, .int .i64 xpt, .int .i64 xpa, .string xky, .string xtx] 44)).heap.size (wr.alloc (.cells #[.int .i64 xa, .int .i64 xs, .int .i64 xt, .slice da dn dc, .int .i64 xk, .int .i64 xo, .int .i64 xn, .int .i64 xu, .int .i64 xpt, .int .i64 xpa, .string xky, .string xtx] 44)) w9 → (Instr.lookup 83 (.map (some w.heap.size)) (.agg #[.int .i64 xa, .int .i64 xs]) true).run Try.prog w9 = .ok (.tuple #[.agg #[.int .i64 ya, .int .i64 ys, .int .i64 yt, .slice ea en ec, .int .i64 yk, .int .i64 yo, .int .i64 yn, .int .i64 yu, .int .i64 ypt, .int .i64 ypa, .string yky, .string ytx], .bool true]) w9) := fun w9 hb => HMH.out w9 ((below_alloc wr _).trans (hb.mono (by rw [World.size_alloc]; omega)))
            clear HMH
            go_upto_region 15 with (first | (go_at_call 53; refine (opName_any xa xs xt xk xo xn xu xpt xpa (.slice da dn dc) xky xtx _).mono ?_; rintro e w5 ⟨rfl, hb5⟩; have hlook := HLK.out w5 hb5) | (refine wpList_load_mid rfl 44 _ rfl g (off + k * 12) rfl [.int .i64 xa, .int .i64 xs, .int .i64 xt, .slice da dn dc, .int .i64 xk, .int .i64 xo, .int .i64 xn, .int .i64 xu, .int .i64 xpt, .int .i64 xpa, .string xky, .string xtx] _ hrg Try.underlying44 rfl HI.out ?_) | (refine wpList_load_mid rfl 44 _ rfl wr.heap.size 0 rfl [.int .i64 xa, .int .i64 xs, .int .i64 xt, .slice da dn dc, .int .i64 xk, .int .i64 xo, .int .i64 xn, .int .i64 xu, .int .i64 xpt, .int .i64 xpa, .string xky, .string xtx] _ hrgB Try.underlying44 rfl HI.out ?_))
            have HPy : Hid (OpBlk (w5.alloc (.cells #[.int .i64 ya, .int .i64 ys, .int .i64 yt, .slice ea en ec, .int .i64 yk, .int .i64 yo, .int .i64 yn, .int .i64 yu, .int .i64 ypt, .int .i64 ypa, .string yky, .string ytx] 44)) w5.heap.size (⟨ya, ys, yt, .slice ea en ec, yk, yo, yn, yu, ypt, ypa, yky, ytx, yds⟩ : Ov)) := heap_alloc_new w5 _
            have hb6 : Below (wr.alloc (.cells #[.int .i64 xa, .int .i64 xs, .int .i64 xt, .slice da dn dc, .int .i64 xk, .int .i64 xo, .int .i64 xn, .int .i64 xu, .int .i64 xpt, .int .i64 xpa, .string xky, .string xtx] 44)).heap.size (wr.alloc (.cells #[.int .i64 xa, .int .i64 xs, .int .i64 xt, .slice da dn dc, .int .i64 xk, .int .i64 xo, .int .i64 xn, .int .i64 xu, .int .i64 xpt, .int .i64 xpa, .string xky, .string xtx] 44)) (w5.alloc (.cells #[.int .i64 ya, .int .i64 ys, .int .i64 yt, .slice ea en ec, .int .i64 yk, .int .i64 yo, .int .i64 yn, .int .i64 yu, .int .i64 ypt, .int .i64 ypa, .string yky, .string ytx] 44)) := hb5.alloc hb5.size _
            generalize w5.alloc (.cells #[.int .i64 ya, .int .i64 ys, .int .i64 yt, .slice ea en ec, .int .i64 yk, .int .i64 yo, .int .i64 yn, .int .i64 yu, .int .i64 ypt, .int .i64 ypa, .string yky, .string ytx] 44) = w6 at HPy hb6 ⊢
            have HP : Hid (OpBlk w6 wr.heap.size (⟨xa, xs, xt, .slice da dn dc, xk, xo, xn, xu, xpt, xpa, xky, xtx, xds⟩ : Ov)) := (hb6.block _ (OpBlk.lt HP0.out)).trans HP0.out
            have hrgX : w6.rangeAt wr.heap.size 0 [.int .i64 xa, .int .i64 xs, .int .i64 xt, .slice da dn dc, .int .i64 xk, .int .i64 xo, .int .i64 xn, .int .i64 xu, .int .i64 xpt, .int .i64 xpa, .string xky, .string xtx] := opBlk_range HP.out
            have hrgY : w6.rangeAt w5.heap.size 0 [.int .i64 ya, .int .i64 ys, .int .i64 yt, .slice ea en ec, .int .i64 yk, .int .i64 yo, .int .i64 yn, .int .i64 yu, .int .i64 ypt, .int .i64 ypa, .string yky, .string ytx] := opBlk_range HPy.out
            have hbw6 : Below wr.heap.size wr w6 := (below_alloc wr _).trans (hb6.mono (by rw [World.size_alloc]; omega))
            have hcall := hsame w6 hbw6
            have hbl6 : Below w.heap.size w w6 := hbel.trans (hbw6.mono hs)
            have HM6 : Hid (Met w6 w.heap.size (L ++ acc)) := HM.out.on hbw6
            have HO6 : Hid (w6.ownsRow (w.heap.size + 1) 44 12 u9 acc.length (rowCs acc)) := owns_on HO.out hbw6 (Nat.le_refl _)
            have hs6 := hbl6.size
            clear HP HPy HP0 HLK hlook hb5 hrgB hrg hsame hb6 HM HO
            cases sb with
            | true =>
              have HF : Hid (unk L (M.take (k + 1)) = some acc) := by unfold Hid; rw [HFS.out, if_pos rfl]
              clear HFS
              go_wp2_with (first | (go_at_call 54; refine hcall.mono ?_; rintro e w8 ⟨rfl, hb8⟩) | (refine wpList_load_mid rfl 44 _ rfl wr.heap.size 0 rfl [.int .i64 xa, .int .i64 xs, .int .i64 xt, .slice da dn dc, .int .i64 xk, .int .i64 xo, .int .i64 xn, .int .i64 xu, .int .i64 xpt, .int .i64 xpa, .string xky, .string xtx] _ hrgX Try.underlying44 rfl HI.out ?_) | (refine wpList_load_mid rfl 44 _ rfl w5.heap.size 0 rfl [.int .i64 ya, .int .i64 ys, .int .i64 yt, .slice ea en ec, .int .i64 yk, .int .i64 yo, .int .i64 yn, .int .i64 yu, .int .i64 ypt, .int .i64 ypa, .string yky, .string ytx] _ hrgY Try.underlying44 rfl HI.out ?_))
              go_roundw
              case rel => exact ⟨k + 1, acc, by omega, by go_num, HF, HM6.out.on hb8, owns_on HO6.out hb8 (Nat.le_refl _), hbl6.trans (hb8.mono hs6)⟩
              case measure => simp [intOf]; omega
            | false =>
              have HF : Hid (unk L M = none) := unk_take (k := k + 1) (by rw [HFS.out]; rfl)
              clear HFS
              go_wp2_with (first | (go_at_call 54; refine hcall.mono ?_; rintro e w8 ⟨rfl, hb8⟩) | (refine wpList_load_mid rfl 44 _ rfl wr.heap.size 0 rfl [.int .i64 xa, .int .i64 xs, .int .i64 xt, .slice da dn dc, .int .i64 xk, .int .i64 xo, .int .i64 xn, .int .i64 xu, .int .i64 xpt, .int .i64 xpa, .string xky, .string xtx] _ hrgX Try.underlying44 rfl HI.out ?_) | (refine wpList_load_mid rfl 44 _ rfl w5.heap.size 0 rfl [.int .i64 ya, .int .i64 ys, .int .i64 yt, .slice ea en ec, .int .i64 yk, .int .i64 yo, .int .i64 yn, .int .i64 yu, .int .i64 ypt, .int .i64 ypa, .string yky, .string ytx] _ hrgY Try.underlying44 rfl HI.out ?_))
              go_ret2
              exact ⟨.inl ⟨HF.out, rfl⟩, hbl6.trans (hb8.mono hs6)⟩
        · have hkl : k = M.length := by omega
          have i1 : ¬ (k : Int) < (M.length : Int) := by omega
          have HF : Hid (unk L M = some acc) := by unfold Hid; rw [← HU.out, hkl, List.take_length]
          go_wp2_with fail
          go_ret2
          exact ⟨.inr ⟨acc, HF.out, _, rfl, owns_low HO.out (by omega)⟩, hbel⟩
end Go.Proofs.Ytjbjkamlgcnmaaa
