/- The ledger's addAll: all that can be added is, each time the first; the rest waits. -/
import Derived.Test.YtjbjkamlgcnmaaaQGrowOpsToFindOps
import Derived.Test.YtjbjkamlgcnmaaaQDeleteOps
import Derived.Test.YtjbjkamlgcnmaaaQLedPutFToRowRd
namespace Go.Proofs.Ytjbjkamlgcnmaaa
open Go.RowKit
set_option linter.unusedVariables false

def lenV : Value → Nat
  | .slice _ n _ => n
  | _ => 0
theorem owns_len {w : World} {B : Nat} {e : TypeId} {s n : Nat} {v : Value} {xs : List Value} (h : w.ownsRow B e s v n xs) : lenV v = n := by
  rcases h.2 with ⟨rfl, rfl⟩ | ⟨g, cap, cur, rfl, _⟩ <;> rfl
theorem led_apart {w w' : World} {B lb g : Nat} {vs : List Value} {P : List Ov} (h : Led w B lb vs P) (hg : w.grownBy w' (some g)) (hc : ClearOf vs lb g) : Led w' B lb vs P :=
  ⟨h.len, (hg.block lb h.lt (fun e => hc.1 (Option.some.inj e).symm)).trans h.blk, h.low, fun a ha => owns_all (h.row a ha) fun k hk => hg.block k (World.ownsRow.lt (h.row a ha) k hk).2 (fun e => hc.2 a ha (by rw [hk, ← Option.some.inj e])), h.far, h.part⟩
/-- Where adding stands: the ledger has P, these wait. -/
structure Adds (w0 : World) (B C BW lb : Nat) (wr : World) (v : Value) (P W : List Ov) : Prop where
  led : ∃ vs, Led wr B lb vs P ∧ ∀ k, v.ownBlock = some k → ClearOf vs lb k
  row : wr.ownsRow BW 44 12 v W.length (rowCs W)
  plen : P.length ≤ 1024
  wlen : W.length ≤ 1024
  ok : ∀ x ∈ W, x.ok = true
  rd : ∀ x ∈ W, Rd C wr x.dv (x.ds.map (Value.int .i64))
  bel : Below B w0 wr

set_option maxHeartbeats 4000000 in
set_option maxRecDepth 100000 in
theorem addAll_any (B C BW lb : Nat) (P W : List Ov) (w : World) (v : Value) (hCB : C ≤ B) (hBW : B ≤ BW) (hA : Adds w B C BW lb w v P W) :
    Calls Try.prog 27 #[.pointer (some ⟨lb, 0, none⟩), v] w fun e w' => (((addW P W).1 = 0 ∧ ∃ r, e = .returned (.tuple #[r, .int .i64 0]) ∧ Adds w B C BW lb w' r (addW P W).2.1 (addW P W).2.2) ∨ ((addW P W).1 ≠ 0 ∧ e = .returned (.tuple #[.slice none 0 0, .int .i64 (addW P W).1]))) ∧ Below B w w' := by
  obtain ⟨R, HR⟩ : ∃ R, Hid (addW P W = R) := ⟨_, rfl⟩
  rw [HR.out]
  have hsh : ∃ ao n c, v = .slice ao n c := by rcases hA.row.2 with ⟨h, _⟩ | ⟨g, cap, cur, h, _⟩ <;> exact ⟨_, _, _, h⟩
  obtain ⟨ao, n0, c0, rfl⟩ := hsh
  go_enter Try.func27, Try.ntmps27
  go_wp2_with fail
  go_loopw [1] (fun tv wr => ∃ (P' W' : List Ov), Hid (addW P' W' = R) ∧ Adds w B C BW lb wr tv P' W') (fun tv _ => lenV tv)
  case atStart => exact ⟨P, W, HR, hA⟩
  case round =>
    clear hA HR
    obtain ⟨P', W', HR, hA⟩ := hrel
    have hlenv := owns_len hA.row
    obtain ⟨vs, hL, hcl⟩ := hA.led
    have hBw : B ≤ wr.heap.size := by have := hL.low; have := hL.lt; omega
    have hrd := owns_rdO hA.row (fun x hx => (hA.rd x hx).mono (by omega))
    have hidx := indexDue_any P' lb wr.heap.size wr _ W' (Nat.le_refl _) hrd hA.wlen (fun k w9 hk hb => isDue_any B C lb vs P' (ovAt W' k) w9 (hL.on hb (Nat.le_refl _)) hA.plen (by have := hb.size; omega) ((hA.rd _ (ovAt_mem hk)).below (hb.mono (by omega))) (hA.ok _ (ovAt_mem hk)))
    cases hfi : W'.findIdx? (dueB P') with
    | none =>
      have HV : Hid (R = (0, P', W')) := HR.out.symm.trans (addW_none hfi)
      have hix : idxI W' (dueB P') = -1 := by unfold idxI; rw [hfi]
      rw [hix] at hidx
      have HFIN : Hid (∀ w1, Below wr.heap.size wr w1 → Adds w B C BW lb w1 u1 P' W') := fun w1 hb => ⟨⟨vs, hL.on hb (Nat.le_refl _), hcl⟩, owns_on hA.row hb (Nat.le_refl _), hA.plen, hA.wlen, hA.ok, fun x hx => (hA.rd x hx).below (hb.mono (by omega)), hA.bel.trans (hb.mono hBw)⟩
      have HBE : Hid (Below B w wr) := hA.bel
      clear hA hL hcl hrd hfi hix
      go_wp2_with (first | (go_at_call 52; refine hidx.mono ?_; rintro e w1 ⟨rfl, hb1⟩))
      go_ret2
      rw [HV.out]
      exact ⟨.inl ⟨rfl, _, rfl, HFIN.out w1 hb1⟩, HBE.out.trans (hb1.mono hBw)⟩
    | some i =>
      obtain ⟨hi, hdue, _⟩ := List.findIdx?_eq_some_iff_getElem.1 hfi
      have hix : idxI W' (dueB P') = (i : Int) := by unfold idxI; rw [hfi]
      rw [hix] at hidx
      have HV : Hid (R = if suitB P' (ovAt W' i) = false then (8, [], []) else if 1024 ≤ P'.length then (11, [], []) else addW (P' ++ [ovAt W' i]) (W'.eraseIdx i)) := HR.out.symm.trans (addW_some hi hfi)
      obtain ⟨g, cap, e1, hgB, hgl⟩ := World.ownsRow.form hA.row (by omega)
      subst e1
      have hix0 : (0 : Int) ≤ (i : Int) := by omega
      have hix1 : (i : Int) < (W'.length : Int) := by omega
      have hxok := hA.ok _ (ovAt_mem hi)
      obtain ⟨⟨xa0, xa1⟩, ⟨xo0, xo1⟩, _⟩ := ok_parts hxok
      obtain ⟨a, ha⟩ : ∃ a : Nat, (ovAt W' i).a = (a : Int) := ⟨(ovAt W' i).a.toNat, by omega⟩
      obtain ⟨jo, hjo⟩ : ∃ j : Nat, (ovAt W' i).o = (j : Int) := ⟨(ovAt W' i).o.toNat, by omega⟩
      have hAr := hA.row
      have hdvs : ∃ da dn dc, (ovAt W' i).dv = .slice da dn dc := by
        obtain ⟨da, dc, h, _⟩ := hA.rd _ (ovAt_mem hi)
        exact ⟨_, _, _, h⟩
      have HRG : Hid (∀ w1, Below wr.heap.size wr w1 → w1.rangeAt g (i * 12) (ovAt W' i).cs) := fun w1 hb => opAt_range ((row_at (owns_on hAr hb (Nat.le_refl _)) hi))
      have HC117 : Hid (∀ w1, Below wr.heap.size wr w1 → w1.cell? ⟨lb, 117, none⟩ = some (.int .i64 (P'.length : Int))) := fun w1 hb => (hL.on hb (Nat.le_refl _)).cell (led_sz hL.len)
      have HSU : Hid (∀ w1, Below wr.heap.size wr w1 → Calls Try.prog 49 #[.pointer (some ⟨lb, 0, none⟩), .agg (ovAt W' i).cs.toArray] w1 fun e w' => e = .returned (.bool (suitB P' (ovAt W' i))) ∧ Below w1.heap.size w1 w') := fun w1 hb => by
        have := suits_any B lb vs P' (ovAt W' i) w1 (hL.on hb (Nat.le_refl _)) jo (by omega) hjo
        have e : suitB P' (ovAt W' i) = decide ((tsOf P').getD jo 0 = 0 ∨ (tsOf P').getD jo 0 = thOf (ovAt W' i).k) := by unfold suitB; rw [hjo, Int.toNat_natCast]
        rw [e]
        exact this
      have hHI : (Try.prog.info? 44).map (·.size) = some (ovAt W' i).cs.length := infoOpB _
      have HI : Hid _ := hHI
      have HBE : Hid (Below B w wr) := hA.bel
      cases hsb : suitB P' (ovAt W' i) with
      | false =>
        have HV2 : Hid (R = (8, [], [])) := by unfold Hid; rw [HV.out, if_pos hsb]
        rw [hsb] at HSU
        clear hA hL hcl hrd hfi hix HV hsb hAr hHI hxok xa0 xa1 xo0 xo1 ha hjo hdue hlenv hgB hgl
        generalize ovAt W' i = x at HRG HSU HI hdvs
        obtain ⟨xa, xs, xt, xdv, xk, xo, xn, xu, xpt, xpa, xky, xtx, xds⟩ := x
        obtain ⟨da, dn, dc, hdd⟩ := hdvs
        obtain rfl : xdv = .slice da dn dc := hdd
        unfold Ov.cs at HRG HSU HI
        go_wp2_with (first | (go_at_call 52; refine hidx.mono ?_; rintro e w1 ⟨rfl, hb1⟩; have c117 := HC117.out w1 hb1; have hrg1 := HRG.out w1 hb1; have hsu := HSU.out w1 hb1) | (go_at_call 49; refine hsu.mono ?_; rintro e w2 ⟨rfl, hb2⟩) | (refine wpList_load_mid rfl 44 _ rfl g (i * 12) rfl [.int .i64 xa, .int .i64 xs, .int .i64 xt, .slice da dn dc, .int .i64 xk, .int .i64 xo, .int .i64 xn, .int .i64 xu, .int .i64 xpt, .int .i64 xpa, .string xky, .string xtx] _ hrg1 Try.underlying44 rfl HI.out ?_))
        go_ret2
        rw [HV2.out]
        exact ⟨.inr ⟨by decide, rfl⟩, HBE.out.trans ((below_seq hb1 hb2).mono hBw)⟩
      | true =>
        rw [hsb] at HSU
        by_cases hfull : 1024 ≤ P'.length
        · have HV2 : Hid (R = (11, [], [])) := by unfold Hid; rw [HV.out, if_neg (by rw [hsb]; decide), if_pos hfull]
          have hpl : (P'.length : Int) = 1024 := by have := hA.plen; omega
          rw [hpl] at HC117
          clear hA hL hcl hrd hfi hix HV hsb hAr hHI hxok hpl xa0 xa1 xo0 xo1 ha hjo hdue hfull hlenv hgB hgl
          generalize ovAt W' i = x at HRG HSU HI hdvs
          obtain ⟨xa, xs, xt, xdv, xk, xo, xn, xu, xpt, xpa, xky, xtx, xds⟩ := x
          obtain ⟨da, dn, dc, hdd⟩ := hdvs
          obtain rfl : xdv = .slice da dn dc := hdd
          unfold Ov.cs at HRG HSU HI
          go_wp2_with (first | (go_at_call 52; refine hidx.mono ?_; rintro e w1 ⟨rfl, hb1⟩; have c117 := HC117.out w1 hb1; have hrg1 := HRG.out w1 hb1; have hsu := HSU.out w1 hb1) | (go_at_call 49; refine hsu.mono ?_; clear c117; rintro e w2 ⟨rfl, hb2⟩; have c117 := HC117.out w2 (below_seq hb1 hb2)) | (refine wpList_load_mid rfl 44 _ rfl g (i * 12) rfl [.int .i64 xa, .int .i64 xs, .int .i64 xt, .slice da dn dc, .int .i64 xk, .int .i64 xo, .int .i64 xn, .int .i64 xu, .int .i64 xpt, .int .i64 xpa, .string xky, .string xtx] _ hrg1 Try.underlying44 rfl HI.out ?_))
          go_ret2
          rw [HV2.out]
          exact ⟨.inr ⟨by decide, rfl⟩, HBE.out.trans ((below_seq hb1 hb2).mono hBw)⟩
        · have HV2 : Hid (addW (P' ++ [ovAt W' i]) (W'.eraseIdx i) = R) := by unfold Hid; rw [HV.out, if_neg (by rw [hsb]; decide), if_neg hfull]
          have hpn : ((P'.length : Int) == 1024) = false := by simp; omega
          have HPUT : Hid (∀ w2, Below wr.heap.size wr w2 → Calls Try.prog 50 #[.pointer (some ⟨lb, 0, none⟩), .agg (ovAt W' i).cs.toArray] w2 fun e w' => e = .returned (.tuple #[]) ∧ (∃ vs', Led w' B lb vs' (P' ++ [ovAt W' i]) ∧ ∀ k, k < w2.heap.size → ClearOf vs lb k → w'.heap[k]? = w2.heap[k]? ∧ ClearOf vs' lb k) ∧ Below B w2 w') := fun w2 hb => by
            have hone : (ovAt W' i).dv.oneCell' = true := by obtain ⟨da, dn, dc, h⟩ := hdvs; rw [h]; rfl
            exact ledPutF_any B lb vs P' (ovAt W' i) w2 (hL.on hb (Nat.le_refl _)) a jo (by omega) (by omega) ha hjo hA.plen hone
          have HDEL : Hid (∀ w3, w3.heap[g]? = wr.heap[g]? → Calls Try.prog 56 #[.slice (some ⟨g, 0, none⟩) W'.length cap, .int .i64 (i : Int), .int .i64 ((i : Int) + 1)] w3 fun e w' => e = .returned (.slice (some ⟨g, 0, none⟩) (W'.length - 1) cap) ∧ w'.ownsRow BW 44 12 (.slice (some ⟨g, 0, none⟩) (W'.length - 1) cap) (W'.length - 1) (rowCs (W'.eraseIdx i)) ∧ w3.grownBy w' (some g)) := fun w3 he => by
            have := delete_any BW g cap i W' w3 (owns_blk hAr he) hi hA.wlen (fun x hx => by obtain ⟨da, dc, h, _⟩ := hA.rd x hx; rw [h]; rfl)
            rwa [show ((i + 1 : Nat) : Int) = (i : Int) + 1 by omega] at this
          have HNEXT : Hid (∀ w2 w3 w4 vs', Below wr.heap.size wr w2 → Led w3 B lb vs' (P' ++ [ovAt W' i]) → ClearOf vs' lb g → Below B w2 w3 → w4.ownsRow BW 44 12 (.slice (some ⟨g, 0, none⟩) (W'.length - 1) cap) (W'.length - 1) (rowCs (W'.eraseIdx i)) → w3.grownBy w4 (some g) → Adds w B C BW lb w4 (.slice (some ⟨g, 0, none⟩) (W'.length - 1) cap) (P' ++ [ovAt W' i]) (W'.eraseIdx i)) := fun w2 w3 w4 vs' hb2 hL3 hc3 hb3 ho4 hg4 => by
            have hlen : (W'.eraseIdx i).length = W'.length - 1 := List.length_eraseIdx_of_lt hi
            have hbl : Below B wr w4 := ((hb2.mono hBw).trans hb3).grown hg4 (by have := hb2.size; have := hb3.size; omega) (fun k e => by cases e; omega)
            refine ⟨⟨vs', led_apart hL3 hg4 hc3, fun k hk => ?_⟩, by rw [hlen]; exact ho4, by rw [List.length_append, List.length_singleton]; omega, by rw [hlen]; have := hA.wlen; omega, fun x hx => hA.ok x (List.mem_of_mem_eraseIdx hx), fun x hx => (hA.rd x (List.mem_of_mem_eraseIdx hx)).below (hbl.mono hCB), hA.bel.trans hbl⟩
            simp only [Value.ownBlock, Option.some.injEq] at hk
            subst hk
            exact hc3
          have HCLG : Hid (ClearOf vs lb g) := hcl g rfl
          have hwrap : IntKind.i64.wrap ((i : Int) + 1) = (i : Int) + 1 := by rw [IntKind.wrap_i64]; have := hA.wlen; omega
          have HGL : Hid (g < wr.heap.size) := hgl
          have HLI : Hid (0 < W'.length) := by unfold Hid; omega
          clear hA hL hcl hrd hfi hix HV hsb hAr hHI hxok xa0 xa1 xo0 xo1 ha hjo hdue hfull hlenv hgB hgl
          generalize ovAt W' i = x at HRG HSU HI hdvs HPUT HNEXT HV2
          obtain ⟨xa, xs, xt, xdv, xk, xo, xn, xu, xpt, xpa, xky, xtx, xds⟩ := x
          obtain ⟨da, dn, dc, hdd⟩ := hdvs
          obtain rfl : xdv = .slice da dn dc := hdd
          unfold Ov.cs at HRG HSU HI HPUT
          go_wp2_with (first | (go_at_call 52; refine hidx.mono ?_; rintro e w1 ⟨rfl, hb1⟩; have c117 := HC117.out w1 hb1; have hrg1 := HRG.out w1 hb1; have hsu := HSU.out w1 hb1) | (go_at_call 49; refine hsu.mono ?_; clear c117; rintro e w2 ⟨rfl, hb2⟩; have hb12 := below_seq hb1 hb2; have c117 := HC117.out w2 hb12; have hrg2 := HRG.out w2 hb12; have hput := HPUT.out w2 hb12) | (go_at_call 50; refine hput.mono ?_; clear c117; rintro e w3 ⟨rfl, ⟨vs3, hL3, hfr⟩, hb3⟩; obtain ⟨he3, hc3⟩ := hfr g (by have := hb12.size; have := HGL.out; omega) HCLG.out; have hdel := HDEL.out w3 (he3.trans (hb12.block g HGL.out))) | (go_at_call 56; refine hdel.mono ?_; rintro e w4 ⟨rfl, ho4, hg4⟩) | (refine wpList_load_mid rfl 44 _ rfl g (i * 12) rfl [.int .i64 xa, .int .i64 xs, .int .i64 xt, .slice da dn dc, .int .i64 xk, .int .i64 xo, .int .i64 xn, .int .i64 xu, .int .i64 xpt, .int .i64 xpa, .string xky, .string xtx] _ hrg1 Try.underlying44 rfl HI.out ?_) | (refine wpList_load_mid rfl 44 _ rfl g (i * 12) rfl [.int .i64 xa, .int .i64 xs, .int .i64 xt, .slice da dn dc, .int .i64 xk, .int .i64 xo, .int .i64 xn, .int .i64 xu, .int .i64 xpt, .int .i64 xpa, .string xky, .string xtx] _ hrg2 Try.underlying44 rfl HI.out ?_))
          have HN := HNEXT.out w2 w3 w4 vs3 hb12 hL3 hc3 hb3 ho4 hg4
          go_roundw
          case rel => exact ⟨_, _, HV2, HN⟩
          case measure => have := HLI.out; simp [lenV]; omega
end Go.Proofs.Ytjbjkamlgcnmaaa
