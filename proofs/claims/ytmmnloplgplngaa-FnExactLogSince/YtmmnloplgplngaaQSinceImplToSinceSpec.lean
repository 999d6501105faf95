/- LogSince: what the code's answers. LogSince: what the specification's answers. -/
import Derived.BigQuiet
import Derived.Test.YtmmnloplgplngaaQCopyOpsToAnsOps
import Derived.Test.YtmmnloplgplngaaQLedClosedToLogOKImpl
import Derived.Test.YtmmnloplgplngaaQVecArr
import Derived.Test.YtmmnloplgplngaaQLogOKSpec
import Derived.Test.YtmmnloplgplngaaQInfoToVecCopy
namespace Go.Proofs.Ytmmnloplgplngaa
open Go.RowKit
set_option linter.unusedVariables false

/-- What a vector does not count. -/
def sinceL (ys : List Int) (L : List Ov) : List Ov := L.filter fun x => decide (ys.getD x.a.toNat 0 < x.s)
theorem sinceL_snoc (ys : List Int) (L : List Ov) (x : Ov) : sinceL ys (L ++ [x]) = if ys.getD x.a.toNat 0 < x.s then sinceL ys L ++ [x] else sinceL ys L := by
  unfold sinceL
  rw [List.filter_append]
  by_cases h : ys.getD x.a.toNat 0 < x.s
  · rw [if_pos h, List.filter_cons, if_pos (decide_eq_true h), List.filter_nil]
  · rw [if_neg h, List.filter_cons, if_neg (by rw [decide_eq_false h]; exact Bool.false_ne_true), List.filter_nil, List.append_nil]
theorem sinceL_len (ys : List Int) (L : List Ov) : (sinceL ys L).length ≤ L.length := List.length_filter_le _ _
theorem sinceL_mem {ys : List Int} {L : List Ov} {x : Ov} (h : x ∈ sinceL ys L) : x ∈ L := (List.mem_filter.1 h).1
theorem owns_rdO {w : World} {B : Nat} {v : Value} {M : List Ov} (h : w.ownsRow B 49 12 v M.length (rowCs M)) (hd : ∀ x ∈ M, Rd w.heap.size w x.dv (x.ds.map (Value.int .i64))) : RdO w.heap.size w v M := by
  have h' := h
  obtain ⟨h1, h2⟩ := h
  rcases h2 with ⟨hv, hn⟩ | ⟨g, cap, cur, hv, hg, hh, hle, hm, hs, ht⟩
  · subst hv
    refine ⟨⟨none, 0, by rw [hn], by omega, by unfold maxLen; omega, fun _ => rfl, fun hp => absurd hp (by omega)⟩, hd⟩
  · subst hv
    exact ⟨⟨_, cap, rfl, hle, hm, fun e => (by cases e), fun hp => ⟨g, 0, rfl, (Array.getElem?_eq_some_iff.1 hh).1, fun k hk => by rw [Nat.zero_add]; exact row_at h' hk⟩⟩, hd⟩
theorem opNew (w : World) (x : Ov) : ∀ j u, x.cs[j]? = some u → (w.alloc (.cells #[.int .i64 x.a, .int .i64 x.s, .int .i64 x.t, x.dv, .int .i64 x.k, .int .i64 x.o, .int .i64 x.n, .int .i64 x.u, .int .i64 x.pt, .int .i64 x.pa, .string x.ky, .string x.tx] 49)).cell? ((⟨w.heap.size, 0, none⟩ : Addr).add j) = some u := by
  intro j u h
  rw [Addr.add_mid, Nat.zero_add]
  refine cell_made (Below.refl _ _) (k := j) ?_
  rw [← h, ← List.getElem?_toArray]
  rfl

set_option maxHeartbeats 4000000 in
set_option maxRecDepth 100000 in
theorem implLogSince_yes (C : Nat) (w : World) (v vv : Value) (L : List Ov) (ys : List Int) (hC : C ≤ w.heap.size) (hr : RdO C w v L) (hv : Rd C w vv (ys.map (Value.int .i64))) (hlog : logI L = true) (hvo : vecOK ys = true) :
    Calls Try.prog 9 #[v, .agg #[vv]] w fun e w' => ∃ g ga, e = .returned (.tuple #[.slice (some ⟨g, 0, none⟩) (sinceL ys L).length (sinceL ys L).length, .int .i64 0]) ∧ Ar w' w.heap.size g ga (cpL ga (sinceL ys L) (sinceL ys L).length) ∧ Below w.heap.size w w' := by
  have hr0 := hr
  obtain ⟨⟨ao, cap, rfl, hcap, hmax, hnil, hrow⟩, hdv⟩ := hr
  obtain ⟨va, vn, vc, rfl⟩ : ∃ va vn vc, vv = .slice va vn vc := by obtain ⟨va, vc, h, _⟩ := hv; exact ⟨_, _, _, h⟩
  obtain ⟨i0, hi, hz0, hz1, hz2⟩ := info_parts infoOp
  have hlen : L.length ≤ 1024 := by unfold logI at hlog; simp only [Bool.and_eq_true, decide_eq_true_eq] at hlog; exact hlog.1
  have HOK : Hid (∀ x ∈ L, x.ok = true) := by
    unfold logI at hlog
    simp only [Bool.and_eq_true] at hlog
    refine step_mem fun q hq => ?_
    have := hlog.2.1
    rw [List.all_eq_true] at this
    exact this q (List.mem_range.2 hq)
  have hy16 := vec_16 hvo
  have hba : Below w.heap.size w (w.alloc (.cells #[.slice va vn vc] 32)) := below_alloc _ _
  have hco := countsOf_yes C (w.alloc (.cells #[.slice va vn vc] 32)) _ ys (by have := hba.size; omega) (hv.below (hba.mono hC)) hvo
  have sx : (arrC ys).toArray.size = 16 := by simp [arrC_len, hy16]
  go_enter Try.func9, Try.ntmps9
  go_wp2_with fail
  refine hco.mono ?_
  rintro e w2 ⟨rfl, hb2⟩
  have hB2 := below_seq hba hb2
  have hth := there_made (n := 16) (Below.refl (w2.alloc (.cells #[.int .i64 0, .int .i64 0, .int .i64 0, .int .i64 0, .int .i64 0, .int .i64 0, .int .i64 0, .int .i64 0, .int .i64 0, .int .i64 0, .int .i64 0, .int .i64 0, .int .i64 0, .int .i64 0, .int .i64 0, .int .i64 0] 54)).heap.size (w2.alloc (.cells #[.int .i64 0, .int .i64 0, .int .i64 0, .int .i64 0, .int .i64 0, .int .i64 0, .int .i64 0, .int .i64 0, .int .i64 0, .int .i64 0, .int .i64 0, .int .i64 0, .int .i64 0, .int .i64 0, .int .i64 0, .int .i64 0] 54))) (by simp)
  have hth' : (w2.alloc (.cells #[.int .i64 0, .int .i64 0, .int .i64 0, .int .i64 0, .int .i64 0, .int .i64 0, .int .i64 0, .int .i64 0, .int .i64 0, .int .i64 0, .int .i64 0, .int .i64 0, .int .i64 0, .int .i64 0, .int .i64 0, .int .i64 0] 54)).there w2.heap.size 0 (arrC ys).toArray.size := by rw [sx]; exact hth
  have HI' : Hid _ := arr_info' hy16
  have hrg : ((w2.alloc (.cells #[.int .i64 0, .int .i64 0, .int .i64 0, .int .i64 0, .int .i64 0, .int .i64 0, .int .i64 0, .int .i64 0, .int .i64 0, .int .i64 0, .int .i64 0, .int .i64 0, .int .i64 0, .int .i64 0, .int .i64 0, .int .i64 0] 54)).setCells w2.heap.size 0 (arrC ys)).rangeAt w2.heap.size 0 (arrC ys) := World.rangeAt_setCells_same _ _ _ _ (by rw [arrC_len, hy16]; exact hth)
  have hb3 : Below w2.heap.size w2 ((w2.alloc (.cells #[.int .i64 0, .int .i64 0, .int .i64 0, .int .i64 0, .int .i64 0, .int .i64 0, .int .i64 0, .int .i64 0, .int .i64 0, .int .i64 0, .int .i64 0, .int .i64 0, .int .i64 0, .int .i64 0, .int .i64 0, .int .i64 0] 54)).setCells w2.heap.size 0 (arrC ys)) := below_setCells (Nat.le_refl _) _ _ _ (below_alloc _ _)
  have hs3 : w2.heap.size < ((w2.alloc (.cells #[.int .i64 0, .int .i64 0, .int .i64 0, .int .i64 0, .int .i64 0, .int .i64 0, .int .i64 0, .int .i64 0, .int .i64 0, .int .i64 0, .int .i64 0, .int .i64 0, .int .i64 0, .int .i64 0, .int .i64 0, .int .i64 0] 54)).setCells w2.heap.size 0 (arrC ys)).heap.size := by rw [size_setCells, World.size_alloc]; omega
  have hB3 := below_seq hB2 hb3
  have hLK := implLogOK_any C ((w2.alloc (.cells #[.int .i64 0, .int .i64 0, .int .i64 0, .int .i64 0, .int .i64 0, .int .i64 0, .int .i64 0, .int .i64 0, .int .i64 0, .int .i64 0, .int .i64 0, .int .i64 0, .int .i64 0, .int .i64 0, .int .i64 0, .int .i64 0] 54)).setCells w2.heap.size 0 (arrC ys)) _ L (by have := hB3.size; omega) (hr0.below (hB3.mono hC))
  rw [hlog] at hLK
  go_wp2_with (first | (refine wpList_store_mid rfl 54 _ _ rfl w2.heap.size 0 (arrC ys).toArray rfl rfl hth' HI'.out (arrC_all ys) ?_) | (go_at_call 23; refine hLK.mono ?_; rintro e w4 ⟨rfl, hb4⟩))
  clear hLK hth hth' HI' hco hb3 hb2 hba
  have hrg4 : w4.rangeAt w2.heap.size 0 (arrC ys) := fun j u hj => (hb4.cell (p := ⟨w2.heap.size, 0 + j, none⟩) hs3).trans (hrg j u hj)
  have hB4 := below_seq hB3 hb4
  have hs4 : w2.heap.size < w4.heap.size := by have := hb4.size; omega
  have hsw4 : w.heap.size ≤ w4.heap.size := hB4.size
  clear hb4 hrg hs3 hB3
  have HI0 : Hid (w4.ownsRow w4.heap.size 49 12 (.slice none 0 0) (sinceL ys (L.take 0)).length (rowCs (sinceL ys (L.take 0))) ∧ Below w4.heap.size w4 w4) := ⟨⟨rfl, .inl ⟨rfl, rfl⟩⟩, Below.refl _ _⟩
  go_loopw [8, 25] (fun tv ti wr => ∃ k : Nat, k ≤ L.length ∧ ti = .int .i64 (k : Int) ∧ Hid (wr.ownsRow w4.heap.size 49 12 tv (sinceL ys (L.take k)).length (rowCs (sinceL ys (L.take k))) ∧ Below w4.heap.size w4 wr)) (fun _ ti _ => L.length - (intOf ti).toNat)
  case atStart => exact ⟨0, Nat.zero_le _, rfl, HI0⟩
  case round =>
    clear HI0
    obtain ⟨k, hk, rfl, HI⟩ := hrel
    by_cases hlt : k < L.length
    · have j1 : (k : Int) < (L.length : Int) := by omega
      obtain ⟨ho, hbel⟩ := HI.out
      have hball : Below w.heap.size w wr := hB4.trans (hbel.mono hsw4)
      have hsw := hbel.size
      obtain ⟨g, off, rfl, hg, hcs⟩ := hrow (by omega)
      have hx := (hcs k hlt).below (hball.mono hC) hg
      have hxd := (hdv _ (ovAt_mem hlt)).below (hball.mono hC)
      have hok := ok_parts (HOK.out _ (ovAt_mem hlt))
      obtain ⟨j, hj⟩ := Int.eq_ofNat_of_zero_le (a := (ovAt L k).a) hok.1.1
      have hj16 : j < 16 := by omega
      have hj16' : (j : Int) < 16 := by omega
      have HSN : Hid (sinceL ys (L.take (k + 1)) = if ys.getD j 0 < (ovAt L k).s then sinceL ys (L.take k) ++ [ovAt L k] else sinceL ys (L.take k)) := by
        unfold Hid
        rw [take_snoc hlt, sinceL_snoc, hj, Int.toNat_natCast]
      have hll : (sinceL ys (L.take k)).length ≤ 1024 := by have := sinceL_len ys (L.take k); rw [List.length_take] at this; omega
      have hyc : (wr.alloc (.cells (ovAt L k).cs.toArray 49)).cell? ⟨w2.heap.size, j, none⟩ = some (.int .i64 (ys.getD j 0)) := by
        rw [((below_alloc wr _).cell (p := ⟨w2.heap.size, j, none⟩) (by show w2.heap.size < wr.heap.size; omega)), hbel.cell (p := ⟨w2.heap.size, j, none⟩) hs4]
        have := hrg4 j (.int .i64 (ys.getD j 0)) (by unfold arrC; rw [List.getElem?_map, List.getD_eq_getElem?_getD, List.getElem?_eq_getElem (by omega)]; rfl)
        rwa [Nat.zero_add] at this
      generalize hyj : ys.getD j 0 = yj at HSN hyc
      clear hyj hcs hok
      obtain ⟨c0, c1, c2, c3, c4, c5, c6, c7, c8, c9, c10, c11⟩ := hx
      generalize ovAt L k = x at *
      obtain ⟨xa, xs, xt, xdv, xk, xo, xn, xu, xpt, xpa, xky, xtx, xds⟩ := x
      simp only at c0 c1 c2 c3 c4 c5 c6 c7 c8 c9 c10 c11 hxd HSN hj
      subst hj
      obtain ⟨da, dn, dc, rfl⟩ : ∃ da dn dc, xdv = .slice da dn dc := by obtain ⟨da, dc, h, _⟩ := hxd; exact ⟨da, _, dc, h⟩
      have hyc' : (wr.alloc (.cells #[.int .i64 (j : Int), .int .i64 xs, .int .i64 xt, .slice da dn dc, .int .i64 xk, .int .i64 xo, .int .i64 xn, .int .i64 xu, .int .i64 xpt, .int .i64 xpa, .string xky, .string xtx] 49)).cell? ⟨w2.heap.size, j, none⟩ = some (.int .i64 yj) := hyc
      clear hyc
      by_cases hlt2 : yj < xs
      · have HE : Hid (sinceL ys (L.take (k + 1)) = sinceL ys (L.take k) ++ [(⟨(j : Int), xs, xt, .slice da dn dc, xk, xo, xn, xu, xpt, xpa, xky, xtx, xds⟩ : Ov)]) := by unfold Hid; rw [HSN.out, if_pos hlt2]
        obtain ⟨va8, vc8, e8⟩ : ∃ ao cap, u8 = .slice ao (sinceL ys (L.take k)).length cap := by
          obtain ⟨_, h2⟩ := ho
          rcases h2 with ⟨hv, hn⟩ | ⟨g, cap, cur, hv, _⟩
          · exact ⟨none, 0, by rw [hv, hn]⟩
          · exact ⟨_, cap, hv⟩
        subst e8
        have hone : ∀ u ∈ Ov.cs (⟨(j : Int), xs, xt, .slice da dn dc, xk, xo, xn, xu, xpt, xpa, xky, xtx, xds⟩ : Ov), u.oneCell' = true := cs_one (⟨(j : Int), xs, xt, .slice da dn dc, xk, xo, xn, xu, xpt, xpa, xky, xtx, xds⟩ : Ov) rfl
        have hlt8 := fun k hk => (World.ownsRow.lt ho k hk).1
        have hbW : Below w4.heap.size w4 (wr.alloc (.cells #[.int .i64 (j : Int), .int .i64 xs, .int .i64 xt, .slice da dn dc, .int .i64 xk, .int .i64 xo, .int .i64 xn, .int .i64 xu, .int .i64 xpt, .int .i64 xpa, .string xky, .string xtx] 49)) := hbel.alloc hsw _
        have hoW := World.ownsRow.alloc ho (.cells #[.int .i64 (j : Int), .int .i64 xs, .int .i64 xt, .slice da dn dc, .int .i64 xk, .int .i64 xo, .int .i64 xn, .int .i64 xu, .int .i64 xpt, .int .i64 xpa, .string xky, .string xtx] 49)
        clear HI hbel hball HSN
        go_wp2_with fail
        go_quiet (fail)
        have hcn : ∀ q u, (Ov.cs (⟨(j : Int), xs, xt, .slice da dn dc, xk, xo, xn, xu, xpt, xpa, xky, xtx, xds⟩ : Ov))[q]? = some u → (((wr.alloc (.cells #[.int .i64 (j : Int), .int .i64 xs, .int .i64 xt, .slice da dn dc, .int .i64 xk, .int .i64 xo, .int .i64 xn, .int .i64 xu, .int .i64 xpt, .int .i64 xpa, .string xky, .string xtx] 49)).drewN nq).alloc (.cells #[.int .i64 (j : Int), .int .i64 xs, .int .i64 xt, .slice da dn dc, .int .i64 xk, .int .i64 xo, .int .i64 xn, .int .i64 xu, .int .i64 xpt, .int .i64 xpa, .string xky, .string xtx] 49)).cell? ((⟨wr.heap.size + 1, 0, none⟩ : Addr).add q) = some u := by
          have := opNew ((wr.alloc (.cells #[.int .i64 (j : Int), .int .i64 xs, .int .i64 xt, .slice da dn dc, .int .i64 xk, .int .i64 xo, .int .i64 xn, .int .i64 xu, .int .i64 xpt, .int .i64 xpa, .string xky, .string xtx] 49)).drewN nq) (⟨(j : Int), xs, xt, .slice da dn dc, xk, xo, xn, xu, xpt, xpa, xky, xtx, xds⟩ : Ov)
          rwa [show ((wr.alloc (.cells #[.int .i64 (j : Int), .int .i64 xs, .int .i64 xt, .slice da dn dc, .int .i64 xk, .int .i64 xo, .int .i64 xn, .int .i64 xu, .int .i64 xpt, .int .i64 xpa, .string xky, .string xtx] 49)).drewN nq).heap.size = wr.heap.size + 1 from World.size_alloc ..] at this
        have hoN : ((wr.alloc (.cells #[.int .i64 (j : Int), .int .i64 xs, .int .i64 xt, .slice da dn dc, .int .i64 xk, .int .i64 xo, .int .i64 xn, .int .i64 xu, .int .i64 xpt, .int .i64 xpa, .string xky, .string xtx] 49)).drewN nq).ownsRow w4.heap.size 49 12 (.slice va8 (sinceL ys (L.take k)).length vc8) (sinceL ys (L.take k)).length (rowCs (sinceL ys (L.take k))) := hoW
        have hbN : Below w4.heap.size w4 (((wr.alloc (.cells #[.int .i64 (j : Int), .int .i64 xs, .int .i64 xt, .slice da dn dc, .int .i64 xk, .int .i64 xo, .int .i64 xn, .int .i64 xu, .int .i64 xpt, .int .i64 xpa, .string xky, .string xtx] 49)).drewN nq).alloc (.cells #[.int .i64 (j : Int), .int .i64 xs, .int .i64 xt, .slice da dn dc, .int .i64 xk, .int .i64 xo, .int .i64 xn, .int .i64 xu, .int .i64 xpt, .int .i64 xpa, .string xky, .string xtx] 49)) := (below_drewN hbW nq).alloc (by show w4.heap.size ≤ (wr.alloc (.cells #[.int .i64 (j : Int), .int .i64 xs, .int .i64 xt, .slice da dn dc, .int .i64 xk, .int .i64 xo, .int .i64 xn, .int .i64 xu, .int .i64 xpt, .int .i64 xpa, .string xky, .string xtx] 49)).heap.size; rw [World.size_alloc]; omega) _
        generalize sinceL ys (L.take k) = sl at *
        go_wp2_with (at_builtin; refine wpList_append_own _ rfl _ _ 28 rfl w4.heap.size 49 i0 (.agg #[.int .i64 0, .int .i64 0, .int .i64 0, .slice none 0 0, .int .i64 0, .int .i64 0, .int .i64 0, .int .i64 0, .int .i64 0, .int .i64 0, .string ByteArray.empty, .string ByteArray.empty]) 12 128 Try.underlying28 hi hz0 hz1 hz2 rfl (by decide) _ sl.length _ rfl (World.ownsRow.alloc hoN _) ⟨wr.heap.size + 1, 0, none⟩ 1 1 (Ov.cs (⟨(j : Int), xs, xt, .slice da dn dc, xk, xo, xn, xu, xpt, xpa, xky, xtx, xds⟩ : Ov)) rfl rfl hcn hone (by unfold maxLen; omega) (by omega) (by simp; omega) ?_)
        intro v6 w6 ho6 hg6 _
        have HI2 : Hid (w6.ownsRow w4.heap.size 49 12 v6 (sinceL ys (L.take (k + 1))).length (rowCs (sinceL ys (L.take (k + 1)))) ∧ Below w4.heap.size w4 w6) := by
          rw [HE.out, rowCs_app, List.length_append]
          refine ⟨?_, hbN.grown hg6 hbN.size hlt8⟩
          have e1 : rowCs [(⟨(j : Int), xs, xt, .slice da dn dc, xk, xo, xn, xu, xpt, xpa, xky, xtx, xds⟩ : Ov)] = Ov.cs (⟨(j : Int), xs, xt, .slice da dn dc, xk, xo, xn, xu, xpt, xpa, xky, xtx, xds⟩ : Ov) := by simp [rowCs]
          rw [e1]
          exact ho6
        clear ho6 hg6 hoN hbN hcn HE ho hoW hbW
        go_wp2_with fail
        go_roundw
        case rel => exact ⟨k + 1, by omega, by go_num, HI2⟩
        case measure => simp [intOf]; omega
      · have HE : Hid (sinceL ys (L.take (k + 1)) = sinceL ys (L.take k)) := by unfold Hid; rw [HSN.out, if_neg hlt2]
        have HI2 : Hid ((wr.alloc (.cells #[.int .i64 (j : Int), .int .i64 xs, .int .i64 xt, .slice da dn dc, .int .i64 xk, .int .i64 xo, .int .i64 xn, .int .i64 xu, .int .i64 xpt, .int .i64 xpa, .string xky, .string xtx] 49)).ownsRow w4.heap.size 49 12 u8 (sinceL ys (L.take (k + 1))).length (rowCs (sinceL ys (L.take (k + 1)))) ∧ Below w4.heap.size w4 (wr.alloc (.cells #[.int .i64 (j : Int), .int .i64 xs, .int .i64 xt, .slice da dn dc, .int .i64 xk, .int .i64 xo, .int .i64 xn, .int .i64 xu, .int .i64 xpt, .int .i64 xpa, .string xky, .string xtx] 49))) := by
          rw [HE.out]
          exact ⟨World.ownsRow.alloc ho _, hbel.alloc hsw _⟩
        clear HI ho hbel hball HSN HE
        go_wp2_with fail
        go_quiet (fail)
        go_wp2_with fail
        go_roundw
        case rel => exact ⟨k + 1, by omega, by go_num, HI2.out.1, below_drewN HI2.out.2 _⟩
        case measure => simp [intOf]; omega
    · obtain rfl : k = L.length := by omega
      obtain ⟨ho, hbel⟩ := HI.out
      rw [List.take_length] at ho
      have hball : Below w.heap.size w wr := hB4.trans (hbel.mono hsw4)
      have hsw := hbel.size
      have hRd := owns_rdO ho (fun x hx => ((hdv x (sinceL_mem hx)).below (hball.mono hC)).mono (by omega))
      have hCP := copyOps_any wr.heap.size wr _ (sinceL ys L) (Nat.le_refl _) hRd (by have := sinceL_len ys L; omega) (fun x hx => vec_16 (ok_parts (HOK.out x (sinceL_mem hx))).2.2)
      clear HI ho hRd hbel
      go_wp2_with fail
      refine hCP.mono ?_
      rintro e w9 ⟨ga, rfl, hA, hb9⟩
      have hA' : Ar w9 w.heap.size wr.heap.size ga (cpL ga (sinceL ys L) (sinceL ys L).length) := ⟨by omega, by have := hA.lo'; omega, hA.ne, hA.hi, hA.hi', hA.row, hA.rth, hA.dvs, hA.len, hA.are, hA.ath⟩
      have hb9' := below_seq hball hb9
      clear hCP hA hb9
      go_wp2_with fail
      go_ret2
      exact ⟨_, ga, rfl, hA', hb9'⟩
end Go.Proofs.Ytmmnloplgplngaa

namespace Go.Proofs.Ytmmnloplgplngaa
open Go.RowKit
set_option linter.unusedVariables false

theorem owns_ne {w : World} {B B' n : Nat} {v dv : Value} {xs ds : List Value} (h : w.ownsRow B 49 12 v n xs) (hd : Own 3 w B' dv ds) : ∀ k, dv.ownBlock = some k → v.ownBlock ≠ some k := by
  intro k hk hv
  obtain ⟨_, h2⟩ := h
  obtain ⟨_, d2⟩ := hd
  rcases h2 with ⟨e, _⟩ | ⟨g, cap, cur, e, _, hh, _⟩
  · rw [e] at hv; cases hv
  · rcases d2 with ⟨e', _⟩ | ⟨g', cap', cur', e', _, hh', _⟩
    · rw [e'] at hk; cases hk
    · rw [e] at hv
      rw [e'] at hk
      cases hv
      cases hk
      rw [hh] at hh'
      simp at hh'
theorem owns_any {w : World} {B n : Nat} {v : Value} {xs : List Value} (h : w.ownsRow B 49 12 v n xs) : ∃ ao cap, v = .slice ao n cap := by
  obtain ⟨_, h2⟩ := h
  rcases h2 with ⟨hv, hn⟩ | ⟨g, cap, cur, hv, _⟩
  · exact ⟨none, 0, by rw [hv, hn]⟩
  · exact ⟨_, cap, hv⟩
theorem ownSame' {e : TypeId} {w w' : World} {B : Nat} {v : Value} {cs : List Value} (h : Own e w B v cs) (hs : ∀ k, v.ownBlock = Option.some k → w'.heap[k]? = w.heap[k]?) : Own e w' B v cs := by
  obtain ⟨h1, h2⟩ := h
  refine ⟨h1, ?_⟩
  rcases h2 with h2 | ⟨g, cap, cur, rfl, hg, hh, r⟩
  · exact .inl h2
  · exact .inr ⟨g, cap, cur, rfl, hg, (hs g rfl).trans hh, r⟩
theorem sameL_snoc {M S : List Ov} {y x : Ov} (h : SameL M S) (hx : y.same x) : SameL (M ++ [y]) (S ++ [x]) := by
  refine ⟨by rw [List.length_append, List.length_append, h.1]; rfl, fun k hk => ?_⟩
  rw [List.length_append, List.length_singleton] at hk
  unfold ovAt
  rw [List.getD_eq_getElem?_getD, List.getD_eq_getElem?_getD]
  by_cases e : k = S.length
  · subst e
    rw [List.getElem?_append_right (by rw [h.1]; omega), List.getElem?_append_right (by omega), h.1, Nat.sub_self]
    exact hx
  · rw [List.getElem?_append_left (by rw [h.1]; omega), List.getElem?_append_left (by omega), ← List.getD_eq_getElem?_getD, ← List.getD_eq_getElem?_getD]
    exact h.2 k (by omega)

set_option maxHeartbeats 2000000 in
set_option maxRecDepth 100000 in
theorem l08CopyOp_any (C : Nat) (x : Ov) (w : World) (hl : x.ds.length ≤ 1048576) (hC : C ≤ w.heap.size) (hr : Rd C w x.dv (x.ds.map (Value.int .i64))) :
    Calls Try.prog 19 #[.agg #[.int .i64 x.a, .int .i64 x.s, .int .i64 x.t, x.dv, .int .i64 x.k, .int .i64 x.o, .int .i64 x.n, .int .i64 x.u, .int .i64 x.pt, .int .i64 x.pa, .string x.ky, .string x.tx]] w fun e w' => ∃ ya yn yc, e = .returned (.agg #[.int .i64 x.a, .int .i64 x.s, .int .i64 x.t, .slice ya yn yc, .int .i64 x.k, .int .i64 x.o, .int .i64 x.n, .int .i64 x.u, .int .i64 x.pt, .int .i64 x.pa, .string x.ky, .string x.tx]) ∧ Own 3 w' w.heap.size (.slice ya yn yc) (x.ds.map (Value.int .i64)) ∧ Below w.heap.size w w' := by
  obtain ⟨xa, xs, xt, xdv, xk, xo, xn, xu, xpt, xpa, xky, xtx, xds⟩ := x
  simp only at hl hr ⊢
  obtain ⟨da, dn, dc, rfl⟩ : ∃ da dn dc, xdv = .slice da dn dc := by obtain ⟨da, dc, h, _⟩ := hr; exact ⟨da, _, dc, h⟩
  have hb0 : Below w.heap.size w ((w.alloc (.cells #[.int .i64 xa, .int .i64 xs, .int .i64 xt, .slice da dn dc, .int .i64 xk, .int .i64 xo, .int .i64 xn, .int .i64 xu, .int .i64 xpt, .int .i64 xpa, .string xky, .string xtx] 49)).alloc (.cells #[.int .i64 0, .int .i64 0, .int .i64 0, .slice none 0 0, .int .i64 0, .int .i64 0, .int .i64 0, .int .i64 0, .int .i64 0, .int .i64 0, .string ByteArray.empty, .string ByteArray.empty] 49)) := below_then (below_alloc _ _) _
  have hcp := l02Copy_any C ((w.alloc (.cells #[.int .i64 xa, .int .i64 xs, .int .i64 xt, .slice da dn dc, .int .i64 xk, .int .i64 xo, .int .i64 xn, .int .i64 xu, .int .i64 xpt, .int .i64 xpa, .string xky, .string xtx] 49)).alloc (.cells #[.int .i64 0, .int .i64 0, .int .i64 0, .slice none 0 0, .int .i64 0, .int .i64 0, .int .i64 0, .int .i64 0, .int .i64 0, .int .i64 0, .string ByteArray.empty, .string ByteArray.empty] 49)) (.slice da dn dc) xds hl (by have := hb0.size; omega) (hr.below (hb0.mono hC))
  go_enter Try.func19, Try.ntmps19
  go_upto_region 2 with (go_at_call 34; refine hcp.mono ?_; rintro e w2 ⟨ya, yc, rfl, hO2, hb2⟩; have o3 := (op_cells (w := w) (below_seq (below_alloc _ _) hb2)).2.2.2.1; have f3 := frozen_made (w := w) (below_seq (below_alloc _ _) hb2) 3)
  obtain ⟨o0, o1, o2, -, o4, o5, o6, o7, o8, o9, o10, o11⟩ := op_cells (w := w) (below_seq (below_alloc _ _) hb2)
  have oo : ∀ j, j ≠ 3 → (w2.setCell ⟨w.heap.size, 3, none⟩ (.slice ya xds.length yc)).cell? ⟨w.heap.size, j, none⟩ = w2.cell? ⟨w.heap.size, j, none⟩ := fun j hj => World.cell?_setCell_other _ _ _ _ (by intro e; simp only [Addr.mk.injEq] at e; omega)
  have hrg : (w2.setCell ⟨w.heap.size, 3, none⟩ (.slice ya xds.length yc)).rangeAt w.heap.size 0 (Ov.cs (⟨xa, xs, xt, .slice ya xds.length yc, xk, xo, xn, xu, xpt, xpa, xky, xtx, xds⟩ : Ov)) := fun j u hj => by
    rw [Nat.zero_add]
    match j, hj with
    | 3, hj => rw [← hj]; exact World.cell?_setCell_same _ _ _ o3
    | 0, hj => rw [← hj, oo 0 (by omega)]; exact o0
    | 1, hj => rw [← hj, oo 1 (by omega)]; exact o1
    | 2, hj => rw [← hj, oo 2 (by omega)]; exact o2
    | 4, hj => rw [← hj, oo 4 (by omega)]; exact o4
    | 5, hj => rw [← hj, oo 5 (by omega)]; exact o5
    | 6, hj => rw [← hj, oo 6 (by omega)]; exact o6
    | 7, hj => rw [← hj, oo 7 (by omega)]; exact o7
    | 8, hj => rw [← hj, oo 8 (by omega)]; exact o8
    | 9, hj => rw [← hj, oo 9 (by omega)]; exact o9
    | 10, hj => rw [← hj, oo 10 (by omega)]; exact o10
    | 11, hj => rw [← hj, oo 11 (by omega)]; exact o11
    | n + 12, hj => exact absurd (List.getElem?_eq_some_iff.1 hj).1 (by show ¬ n + 12 < 12; omega)
  have hth0 := there_made (w := w.alloc (.cells #[.int .i64 xa, .int .i64 xs, .int .i64 xt, .slice da dn dc, .int .i64 xk, .int .i64 xo, .int .i64 xn, .int .i64 xu, .int .i64 xpt, .int .i64 xpa, .string xky, .string xtx] 49)) (n := 12) hb2 (by simp)
  rw [World.size_alloc] at hth0
  have hth : (w2.setCell ⟨w.heap.size, 3, none⟩ (.slice ya xds.length yc)).there (w.heap.size + 1) 0 12 := World.there_setCells hth0 w.heap.size 3 [.slice ya xds.length yc]
  have hsz : w.heap.size + 2 ≤ w2.heap.size := by have := hb2.size; rw [World.size_alloc, World.size_alloc] at this; exact this
  rw [World.size_alloc, World.size_alloc] at hO2
  have hO3 : Own 3 (w2.setCell ⟨w.heap.size, 3, none⟩ (.slice ya xds.length yc)) (w.heap.size + 1 + 1) (.slice ya xds.length yc) (xds.map (Value.int .i64)) := hO2.apart (grownBy_set w2 w.heap.size 3 _) (fun kk hk => by cases hk; omega)
  have hB3 : Below w.heap.size w (w2.setCell ⟨w.heap.size, 3, none⟩ (.slice ya xds.length yc)) := (below_seq hb0 hb2).setCell (p := ⟨w.heap.size, 3, none⟩) (Nat.le_refl _) _
  clear o0 o1 o2 o3 o4 o5 o6 o7 o8 o9 o10 o11 oo hth0 hO2 hcp hb0 hb2 hr f3
  generalize w2.setCell ⟨w.heap.size, 3, none⟩ (.slice ya xds.length yc) = w3 at *
  have hrs : (w3.setCells (w.heap.size + 1) 0 (Ov.cs (⟨xa, xs, xt, .slice ya xds.length yc, xk, xo, xn, xu, xpt, xpa, xky, xtx, xds⟩ : Ov))).rangeAt (w.heap.size + 1) 0 (Ov.cs (⟨xa, xs, xt, .slice ya xds.length yc, xk, xo, xn, xu, xpt, xpa, xky, xtx, xds⟩ : Ov)) := World.rangeAt_setCells_same _ _ _ _ hth
  have hO4 : Own 3 (w3.setCells (w.heap.size + 1) 0 (Ov.cs (⟨xa, xs, xt, .slice ya xds.length yc, xk, xo, xn, xu, xpt, xpa, xky, xtx, xds⟩ : Ov))) w.heap.size (.slice ya xds.length yc) (xds.map (Value.int .i64)) := (hO3.apart (grownBy_setCells w3 (w.heap.size + 1) _ 0) (fun kk hk => by cases hk; omega)).mono (by omega)
  have hB4 : Below w.heap.size w (w3.setCells (w.heap.size + 1) 0 (Ov.cs (⟨xa, xs, xt, .slice ya xds.length yc, xk, xo, xn, xu, xpt, xpa, xky, xtx, xds⟩ : Ov))) := below_setsC (by omega) _ _ _ hB3
  have hth' : w3.there (w.heap.size + 1) 0 (Ov.cs (⟨xa, xs, xt, .slice ya xds.length yc, xk, xo, xn, xu, xpt, xpa, xky, xtx, xds⟩ : Ov)).toArray.size := hth
  have HI1 : Hid ((Try.prog.info? 49).map (·.size) = some (Ov.cs (⟨xa, xs, xt, .slice ya xds.length yc, xk, xo, xn, xu, xpt, xpa, xky, xtx, xds⟩ : Ov)).length) := by show (Try.prog.info? 49).map (·.size) = some 12; kernel_rfl
  have HI2 : Hid ((Try.prog.info? 49).map (·.size) = some (Ov.cs (⟨xa, xs, xt, .slice ya xds.length yc, xk, xo, xn, xu, xpt, xpa, xky, xtx, xds⟩ : Ov)).toArray.size) := by show (Try.prog.info? 49).map (·.size) = some 12; kernel_rfl
  have hone : (Ov.cs (⟨xa, xs, xt, .slice ya xds.length yc, xk, xo, xn, xu, xpt, xpa, xky, xtx, xds⟩ : Ov)).toArray.all (·.oneCell') = true := all_oneCell_toArray (cs_one (⟨xa, xs, xt, .slice ya xds.length yc, xk, xo, xn, xu, xpt, xpa, xky, xtx, xds⟩ : Ov) rfl)
  have HAN : Hid (Value.agg (Ov.cs (⟨xa, xs, xt, .slice ya xds.length yc, xk, xo, xn, xu, xpt, xpa, xky, xtx, xds⟩ : Ov)).toArray = .agg #[.int .i64 xa, .int .i64 xs, .int .i64 xt, .slice ya xds.length yc, .int .i64 xk, .int .i64 xo, .int .i64 xn, .int .i64 xu, .int .i64 xpt, .int .i64 xpa, .string xky, .string xtx]) := rfl
  obtain ⟨cs, HCS⟩ : ∃ cs, Hid (Ov.cs (⟨xa, xs, xt, .slice ya xds.length yc, xk, xo, xn, xu, xpt, xpa, xky, xtx, xds⟩ : Ov) = cs) := ⟨_, rfl⟩
  rw [HCS.out] at hrg hrs hO4 hB4 hth' HI1 HI2 hone HAN
  clear hO3 hB3 HCS hth
  have hld := run_loadVar_mid (P := Try.prog) _ (w.heap.size + 1) 0 49 cs _ hrs Try.underlying49 rfl HI1.out
  have HLD : Hid _ := hld
  clear hld hrs
  go_wp2_with (first | (refine wpList_load_mid rfl 49 _ rfl w.heap.size 0 rfl cs _ hrg Try.underlying49 rfl HI1.out ?_) | (refine wpList_store_mid rfl 49 _ _ rfl (w.heap.size + 1) 0 cs.toArray rfl rfl hth' HI2.out hone ?_))
  have hld := HLD.out
  exact bodyPost_ret (v := .agg cs.toArray) (by simp [results, Try.results19, asAddr, Act.put, hld]) rfl ⟨ya, _, yc, by rw [HAN.out], hO4, hB4⟩

set_option maxHeartbeats 4000000 in
set_option maxRecDepth 100000 in
theorem specLogSince_yes (C : Nat) (w : World) (v vv : Value) (L : List Ov) (ys : List Int) (hC : C ≤ w.heap.size) (hr : RdO C w v L) (hv : Rd C w vv (ys.map (Value.int .i64))) (hlog : logI L = true) (hvo : vecOK ys = true) :
    Calls Try.prog 6 #[v, .agg #[vv]] w fun e w' => ∃ r M, e = .returned (.tuple #[r, .int .i64 0]) ∧ SameL M (sinceL ys L) ∧ RdO w'.heap.size w' r M ∧ Below w.heap.size w w' := by
  have hr0 := hr
  have hv0 := hv
  obtain ⟨⟨ao, cap, rfl, hcap, hmax, hnil, hrow⟩, hdv⟩ := hr
  obtain ⟨i0, hi, hz0, hz1, hz2⟩ := info_parts infoOp
  have hlen : L.length ≤ 1024 := by unfold logI at hlog; simp only [Bool.and_eq_true, decide_eq_true_eq] at hlog; exact hlog.1
  have HOK : Hid (∀ x ∈ L, x.ok = true) := by
    unfold logI at hlog
    simp only [Bool.and_eq_true] at hlog
    refine step_mem fun q hq => ?_
    have := hlog.2.1
    rw [List.all_eq_true] at this
    exact this q (List.mem_range.2 hq)
  have hy16 := vec_16 hvo
  obtain ⟨va, vc, rfl, hvcap, hvmax, hvnil, hvr⟩ := hv
  rw [List.length_map, hy16] at hvr hv0 ⊢
  obtain ⟨gv, ov, rfl, hgv, hvc⟩ := hvr (by omega)
  have hba : Below w.heap.size w (w.alloc (.cells #[.slice (some ⟨gv, ov, none⟩) 16 vc] 32)) := below_alloc _ _
  have hp0 : (w.alloc (.cells #[.slice (some ⟨gv, ov, none⟩) 16 vc] 32)).heap[w.heap.size]? = some (.cells #[.slice (some ⟨gv, ov, none⟩) 16 vc] 32 (0, 0)) := heap_alloc_new _ _
  have hsa : w.heap.size < (w.alloc (.cells #[.slice (some ⟨gv, ov, none⟩) 16 vc] 32)).heap.size := by rw [World.size_alloc]; omega
  have hLK := specLogOK_any C (w.alloc (.cells #[.slice (some ⟨gv, ov, none⟩) 16 vc] 32)) _ L (by have := hba.size; omega) (hr0.below (hba.mono hC))
  have hVK := fun (w9 : World) (hb : Below w.heap.size w w9) => specVecOK_any C w9 _ ys (by have := hb.size; omega) (hv0.below (hb.mono hC))
  rw [hlog] at hLK
  rw [hvo] at hVK
  go_enter Try.func6, Try.ntmps6
  go_upto_region 1 with fail
  generalize w.alloc (.cells #[.slice (some ⟨gv, ov, none⟩) 16 vc] 32) = wa at *
  go_upto_region 3 with (first | (go_at_call 17; refine hLK.mono ?_; rintro e w3 ⟨rfl, hb3⟩; have hp3 := (hb3.block w.heap.size hsa).trans hp0; have c3 := blk_cell hp3 0 rfl; have hB3 := below_seq hba hb3) | (go_at_call 18; refine (hVK _ hB3).mono ?_; rintro e w4 ⟨rfl, hb4⟩))
  have hp4 := (hb4.block w.heap.size (by have := hb3.size; omega)).trans hp3
  have hB4 := below_seq hB3 hb4
  have hs4 : w.heap.size < w4.heap.size := (Array.getElem?_eq_some_iff.1 hp4).1
  have hsw4 : w.heap.size ≤ w4.heap.size := by omega
  clear hp3 c3 hB3 hb3 hb4 hLK hVK hp0 hba hsa
  have HI0 : Hid (∃ M : List Ov, SameL M (sinceL ys (L.take 0)) ∧ (w4.alloc (.cells #[] 49)).ownsRow w4.heap.size 49 12 (.slice (some ⟨w4.heap.size, 0, none⟩) 0 0) M.length (rowCs M) ∧ (∀ x ∈ M, Own 3 (w4.alloc (.cells #[] 49)) w4.heap.size x.dv (x.ds.map (Value.int .i64))) ∧ Below w4.heap.size w4 (w4.alloc (.cells #[] 49))) :=
    ⟨[], ⟨rfl, fun k hk => absurd hk (by simp [sinceL])⟩, ⟨rfl, .inr ⟨w4.heap.size, 0, #[], rfl, Nat.le_refl _, heap_alloc_new _ _, Nat.le_refl _, by unfold maxLen; omega, rfl, rfl⟩⟩, fun x hx => absurd hx (by simp), below_alloc _ _⟩
  go_wp2_with fail
  go_loopw [6, 7] (fun tv ti wr => ∃ k : Nat, k ≤ L.length ∧ ti = .int .i64 (k : Int) ∧ Hid (∃ M : List Ov, SameL M (sinceL ys (L.take k)) ∧ wr.ownsRow w4.heap.size 49 12 tv M.length (rowCs M) ∧ (∀ x ∈ M, Own 3 wr w4.heap.size x.dv (x.ds.map (Value.int .i64))) ∧ Below w4.heap.size w4 wr)) (fun _ ti _ => L.length - (intOf ti).toNat)
  case atStart => exact ⟨0, Nat.zero_le _, rfl, HI0⟩
  case round =>
    clear HI0
    obtain ⟨k, hk, rfl, HI⟩ := hrel
    obtain ⟨M, hSM, ho, hod, hbel⟩ := HI.out
    by_cases hlt : k < L.length
    · have j1 : (k : Int) < (L.length : Int) := by omega
      have hball : Below w.heap.size w wr := hB4.trans (hbel.mono hsw4)
      have hsw := hbel.size
      obtain ⟨g, off, rfl, hg, hcs⟩ := hrow (by omega)
      have hx := (hcs k hlt).below (hball.mono hC) hg
      have hxd := (hdv _ (ovAt_mem hlt)).below (hball.mono hC)
      have hok := ok_parts (HOK.out _ (ovAt_mem hlt))
      have hx16 := vec_16 hok.2.2
      obtain ⟨j, hj⟩ := Int.eq_ofNat_of_zero_le (a := (ovAt L k).a) hok.1.1
      have hj16 : j < 16 := by omega
      have hj16' : (j : Int) < 16 := by omega
      have HSN : Hid (sinceL ys (L.take (k + 1)) = if ys.getD j 0 < (ovAt L k).s then sinceL ys (L.take k) ++ [ovAt L k] else sinceL ys (L.take k)) := by
        unfold Hid
        rw [take_snoc hlt, sinceL_snoc, hj, Int.toNat_natCast]
      have hll : M.length ≤ 1024 := by have := sinceL_len ys (L.take k); rw [List.length_take] at this; rw [hSM.1]; omega
      have hpw := (hbel.block w.heap.size hs4).trans hp4
      have cv := blk_cell hpw 0 rfl
      have hyc : wr.cell? ⟨gv, ov + j, none⟩ = some (.int .i64 (ys.getD j 0)) := by
        rw [hball.cell (p := ⟨gv, ov + j, none⟩) (by show gv < w.heap.size; omega)]
        exact hvc j _ (by rw [List.getElem?_map, List.getD_eq_getElem?_getD, List.getElem?_eq_getElem (by omega)]; rfl)
      generalize hyj : ys.getD j 0 = yj at HSN hyc
      clear hyj hcs hok hpw
      have hCO := fun (w9 : World) (hb : Below wr.heap.size wr w9) => l08CopyOp_any C (ovAt L k) w9 (by omega) (by have := hb.size; omega) (hxd.below (hb.mono (by omega)))
      obtain ⟨c0, c1, c2, c3, c4, c5, c6, c7, c8, c9, c10, c11⟩ := hx
      generalize ovAt L k = x at *
      obtain ⟨xa, xs, xt, xdv, xk, xo, xn, xu, xpt, xpa, xky, xtx, xds⟩ := x
      simp only at c0 c1 c2 c3 c4 c5 c6 c7 c8 c9 c10 c11 hxd HSN hj hCO
      subst hj
      obtain ⟨da, dn, dc, rfl⟩ : ∃ da dn dc, xdv = .slice da dn dc := by obtain ⟨da, dc, h, _⟩ := hxd; exact ⟨da, _, dc, h⟩
      have hgw : g < wr.heap.size := by omega
      by_cases hlt2 : yj < xs
      · have HE : Hid (sinceL ys (L.take (k + 1)) = sinceL ys (L.take k) ++ [(⟨(j : Int), xs, xt, .slice da dn dc, xk, xo, xn, xu, xpt, xpa, xky, xtx, xds⟩ : Ov)]) := by unfold Hid; rw [HSN.out, if_pos hlt2]
        obtain ⟨va6, vc6, e6⟩ := owns_any ho
        subst e6
        have hlt6 := fun k hk => (World.ownsRow.lt ho k hk).1
        clear HI HSN hball
        go_wp2_with fail
        go_quiet (fail)
        have hC1 := hCO (wr.drewN nq) (below_drewN (Below.refl _ _) nq)
        go_wp2_with (first | (go_at_call 19; refine hC1.mono ?_; clear c0 c1 c2 c3 c4 c5 c6 c7 c8 c9 c10 c11 cv hyc; rintro e w5 ⟨ya, yn, yc, rfl, hO5, hb5⟩; have hbx : Below wr.heap.size wr w5 := (below_drewN (Below.refl _ _) nq).trans hb5; have ho5 := owns_on ho hbx (Nat.le_refl _); have hcn := opNew w5 (⟨(j : Int), xs, xt, .slice ya yn yc, xk, xo, xn, xu, xpt, xpa, xky, xtx, xds⟩ : Ov); have hone : ∀ u ∈ Ov.cs (⟨(j : Int), xs, xt, .slice ya yn yc, xk, xo, xn, xu, xpt, xpa, xky, xtx, xds⟩ : Ov), u.oneCell' = true := cs_one (⟨(j : Int), xs, xt, .slice ya yn yc, xk, xo, xn, xu, xpt, xpa, xky, xtx, xds⟩ : Ov) rfl; have hs5 := hbx.size) | (at_builtin; refine wpList_append_own _ rfl _ _ 28 rfl w4.heap.size 49 i0 (.agg #[.int .i64 0, .int .i64 0, .int .i64 0, .slice none 0 0, .int .i64 0, .int .i64 0, .int .i64 0, .int .i64 0, .int .i64 0, .int .i64 0, .string ByteArray.empty, .string ByteArray.empty]) 12 128 Try.underlying28 hi hz0 hz1 hz2 rfl (by decide) _ M.length _ rfl (World.ownsRow.alloc ho5 _) ⟨w5.heap.size, 0, none⟩ 1 1 (Ov.cs (⟨(j : Int), xs, xt, .slice ya yn yc, xk, xo, xn, xu, xpt, xpa, xky, xtx, xds⟩ : Ov)) rfl rfl hcn hone (by unfold maxLen; omega) (by omega) (by rw [World.size_alloc]; omega) ?_))
        intro v6 w6 ho6 hg6 _
        have hbN : Below w4.heap.size w4 (w5.alloc (.cells #[.int .i64 (j : Int), .int .i64 xs, .int .i64 xt, .slice ya yn yc, .int .i64 xk, .int .i64 xo, .int .i64 xn, .int .i64 xu, .int .i64 xpt, .int .i64 xpa, .string xky, .string xtx] 49)) := (hbel.trans (hbx.mono hsw)).alloc (by omega) _
        have hO6 : Own 3 (w5.alloc (.cells #[.int .i64 (j : Int), .int .i64 xs, .int .i64 xt, .slice ya yn yc, .int .i64 xk, .int .i64 xo, .int .i64 xn, .int .i64 xu, .int .i64 xpt, .int .i64 xpa, .string xky, .string xtx] 49)) w4.heap.size (.slice ya yn yc) (xds.map (Value.int .i64)) := Own.mono (World.ownsRow.alloc hO5 _) (by show w4.heap.size ≤ wr.heap.size; omega)
        have hoA := World.ownsRow.alloc ho5 (.cells #[.int .i64 (j : Int), .int .i64 xs, .int .i64 xt, .slice ya yn yc, .int .i64 xk, .int .i64 xo, .int .i64 xn, .int .i64 xu, .int .i64 xpt, .int .i64 xpa, .string xky, .string xtx] 49)
        have HI2 : Hid (∃ M : List Ov, SameL M (sinceL ys (L.take (k + 1))) ∧ w6.ownsRow w4.heap.size 49 12 v6 M.length (rowCs M) ∧ (∀ x ∈ M, Own 3 w6 w4.heap.size x.dv (x.ds.map (Value.int .i64))) ∧ Below w4.heap.size w4 w6) := by
          refine ⟨M ++ [(⟨(j : Int), xs, xt, .slice ya yn yc, xk, xo, xn, xu, xpt, xpa, xky, xtx, xds⟩ : Ov)], ?_, ?_, fun z hz => ?_, hbN.grown hg6 hbN.size hlt6⟩
          · rw [HE.out]
            exact sameL_snoc hSM ⟨rfl, rfl, rfl, rfl, rfl, rfl, rfl, rfl, rfl, rfl, rfl, rfl⟩
          · rw [rowCs_app, List.length_append]
            have e1 : rowCs [(⟨(j : Int), xs, xt, .slice ya yn yc, xk, xo, xn, xu, xpt, xpa, xky, xtx, xds⟩ : Ov)] = Ov.cs (⟨(j : Int), xs, xt, .slice ya yn yc, xk, xo, xn, xu, xpt, xpa, xky, xtx, xds⟩ : Ov) := by simp [rowCs]
            rw [e1]
            exact ho6
          · have hz' : Own 3 (w5.alloc (.cells #[.int .i64 (j : Int), .int .i64 xs, .int .i64 xt, .slice ya yn yc, .int .i64 xk, .int .i64 xo, .int .i64 xn, .int .i64 xu, .int .i64 xpt, .int .i64 xpa, .string xky, .string xtx] 49)) w4.heap.size z.dv (z.ds.map (Value.int .i64)) := by
              rcases List.mem_append.1 hz with hz | hz
              · exact World.ownsRow.alloc ((hod z hz).below hbx (Nat.le_refl _)) _
              · simp only [List.mem_singleton] at hz
                subst hz
                exact hO6
            exact ownSame' hz' (fun q hq => hg6.block q (World.ownsRow.lt hz' q hq).2 (fun e => owns_ne hoA hz' q hq e.symm))
        clear ho6 hg6 hoA hbN hcn HE ho ho5 hO5 hO6 hod
        go_wp2_with fail
        go_roundw
        case rel => exact ⟨k + 1, by omega, by go_num, HI2⟩
        case measure => simp [intOf]; omega
      · have HE : Hid (sinceL ys (L.take (k + 1)) = sinceL ys (L.take k)) := by unfold Hid; rw [HSN.out, if_neg hlt2]
        have HI2 : Hid (∃ M : List Ov, SameL M (sinceL ys (L.take (k + 1))) ∧ wr.ownsRow w4.heap.size 49 12 u6 M.length (rowCs M) ∧ (∀ x ∈ M, Own 3 wr w4.heap.size x.dv (x.ds.map (Value.int .i64))) ∧ Below w4.heap.size w4 wr) := by
          rw [HE.out]
          exact ⟨M, hSM, ho, hod, hbel⟩
        clear HI ho hod hbel hball HSN HE hCO
        go_wp2_with fail
        go_quiet (fail)
        go_wp2_with fail
        go_roundw
        case rel =>
          obtain ⟨M, h1, h2, h3, h4⟩ := HI2.out
          exact ⟨k + 1, by omega, by go_num, M, h1, h2, h3, below_drewN h4 _⟩
        case measure => simp [intOf]; omega
    · obtain rfl : k = L.length := by omega
      rw [List.take_length] at hSM
      have hball : Below w.heap.size w wr := hB4.trans (hbel.mono hsw4)
      have hRd := owns_rdO ho (fun x hx => (hod x hx).rd)
      clear HI ho hod hbel
      go_wp2_with fail
      go_ret2
      exact ⟨_, M, rfl, hSM, hRd, hball⟩

set_option maxHeartbeats 2000000 in
set_option maxRecDepth 100000 in
theorem specLogSince_no (C : Nat) (w : World) (v vv : Value) (L : List Ov) (ys : List Int) (hC : C ≤ w.heap.size) (hr : RdO C w v L) (hv : Rd C w vv (ys.map (Value.int .i64))) (hno : (logI L && vecOK ys) = false) :
    Calls Try.prog 6 #[v, .agg #[vv]] w fun e w' => ∃ r, e = .returned (.tuple #[r, .int .i64 1]) ∧ RdO w'.heap.size w' r [] ∧ Below w.heap.size w w' := by
  obtain ⟨va, vn, vc, rfl⟩ : ∃ va vn vc, vv = .slice va vn vc := by obtain ⟨va, vc, h, _⟩ := hv; exact ⟨_, _, _, h⟩
  obtain ⟨ao, cap, rfl⟩ : ∃ ao cap, v = .slice ao L.length cap := by obtain ⟨⟨ao, cap, h, _⟩, _⟩ := hr; exact ⟨_, _, h⟩
  have hba : Below w.heap.size w (w.alloc (.cells #[.slice va vn vc] 32)) := below_alloc _ _
  have hp0 : (w.alloc (.cells #[.slice va vn vc] 32)).heap[w.heap.size]? = some (.cells #[.slice va vn vc] 32 (0, 0)) := heap_alloc_new _ _
  have hsa : w.heap.size < (w.alloc (.cells #[.slice va vn vc] 32)).heap.size := by rw [World.size_alloc]; omega
  have hLK := specLogOK_any C (w.alloc (.cells #[.slice va vn vc] 32)) _ L (by have := hba.size; omega) (hr.below (hba.mono hC))
  have hVK := fun (w9 : World) (hb : Below w.heap.size w w9) => specVecOK_any C w9 _ ys (by have := hb.size; omega) (hv.below (hb.mono hC))
  have hend : ∀ w9 : World, RdO (w9.alloc (.cells #[] 49)).heap.size (w9.alloc (.cells #[] 49)) (.slice (some ⟨w9.heap.size, 0, none⟩) 0 0) [] := fun w9 => ⟨⟨_, 0, rfl, Nat.le_refl _, by unfold maxLen; omega, fun e => (by cases e), fun hp => absurd hp (by simp)⟩, fun x hx => absurd hx (by simp)⟩
  clear hr hv
  cases hlog : logI L with
  | false =>
    rw [hlog] at hLK
    go_enter Try.func6, Try.ntmps6
    go_wp2_with (first | (go_at_call 17; refine hLK.mono ?_; rintro e w3 ⟨rfl, hb3⟩))
    go_ret2
    exact ⟨_, rfl, hend _, below_then (below_seq hba hb3) _⟩
  | true =>
    have hvo : vecOK ys = false := by rw [hlog, Bool.true_and] at hno; exact hno
    rw [hlog] at hLK
    rw [hvo] at hVK
    go_enter Try.func6, Try.ntmps6
    go_upto_region 1 with fail
    generalize w.alloc (.cells #[.slice va vn vc] 32) = wa at *
    go_wp2_with (first | (go_at_call 17; refine hLK.mono ?_; rintro e w3 ⟨rfl, hb3⟩; have hp3 := (hb3.block w.heap.size hsa).trans hp0; have c3 := blk_cell hp3 0 rfl; have hB3 := below_seq hba hb3) | (go_at_call 18; refine (hVK _ hB3).mono ?_; rintro e w4 ⟨rfl, hb4⟩))
    go_ret2
    exact ⟨_, rfl, hend _, below_then (below_seq hB3 hb4) _⟩

set_option maxHeartbeats 2000000 in
set_option maxRecDepth 100000 in
theorem implLogSince_no (C : Nat) (w : World) (v vv : Value) (L : List Ov) (ys : List Int) (hC : C ≤ w.heap.size) (hr : RdO C w v L) (hv : Rd C w vv (ys.map (Value.int .i64))) (hno : (logI L && vecOK ys) = false) :
    Calls Try.prog 9 #[v, .agg #[vv]] w fun e w' => e = .returned (.tuple #[.slice none 0 0, .int .i64 1]) ∧ Below w.heap.size w w' := by
  obtain ⟨va, vn, vc, rfl⟩ : ∃ va vn vc, vv = .slice va vn vc := by obtain ⟨va, vc, h, _⟩ := hv; exact ⟨_, _, _, h⟩
  have hr0 := hr
  obtain ⟨ao, cap, rfl⟩ : ∃ ao cap, v = .slice ao L.length cap := by obtain ⟨⟨ao, cap, h, _⟩, _⟩ := hr; exact ⟨_, _, h⟩
  have hba : Below w.heap.size w (w.alloc (.cells #[.slice va vn vc] 32)) := below_alloc _ _
  have hco := countsOf_any C (w.alloc (.cells #[.slice va vn vc] 32)) _ ys (by have := hba.size; omega) (hv.below (hba.mono hC))
  have hc16 := cnt_len ys
  have sx : (arrC (cnt ys)).toArray.size = 16 := by simp [arrC_len, hc16]
  have HI' : Hid _ := arr_info' hc16
  generalize cnt ys = zs at *
  clear hr hv
  cases hvo : vecOK ys with
  | false =>
    rw [hvo] at hco
    go_enter Try.func9, Try.ntmps9
    go_wp2_with fail
    refine hco.mono ?_
    rintro e w2 ⟨rfl, hb2⟩
    have hB2 := below_seq hba hb2
    have hth := there_made (n := 16) (Below.refl (w2.alloc (.cells #[.int .i64 0, .int .i64 0, .int .i64 0, .int .i64 0, .int .i64 0, .int .i64 0, .int .i64 0, .int .i64 0, .int .i64 0, .int .i64 0, .int .i64 0, .int .i64 0, .int .i64 0, .int .i64 0, .int .i64 0, .int .i64 0] 54)).heap.size (w2.alloc (.cells #[.int .i64 0, .int .i64 0, .int .i64 0, .int .i64 0, .int .i64 0, .int .i64 0, .int .i64 0, .int .i64 0, .int .i64 0, .int .i64 0, .int .i64 0, .int .i64 0, .int .i64 0, .int .i64 0, .int .i64 0, .int .i64 0] 54))) (by simp)
    have hth' : (w2.alloc (.cells #[.int .i64 0, .int .i64 0, .int .i64 0, .int .i64 0, .int .i64 0, .int .i64 0, .int .i64 0, .int .i64 0, .int .i64 0, .int .i64 0, .int .i64 0, .int .i64 0, .int .i64 0, .int .i64 0, .int .i64 0, .int .i64 0] 54)).there w2.heap.size 0 (arrC zs).toArray.size := by rw [sx]; exact hth
    have hb3 : Below w2.heap.size w2 ((w2.alloc (.cells #[.int .i64 0, .int .i64 0, .int .i64 0, .int .i64 0, .int .i64 0, .int .i64 0, .int .i64 0, .int .i64 0, .int .i64 0, .int .i64 0, .int .i64 0, .int .i64 0, .int .i64 0, .int .i64 0, .int .i64 0, .int .i64 0] 54)).setCells w2.heap.size 0 (arrC zs)) := below_setCells (Nat.le_refl _) _ _ _ (below_alloc _ _)
    have hB3 := below_seq hB2 hb3
    go_wp2_with (first | (refine wpList_store_mid rfl 54 _ _ rfl w2.heap.size 0 (arrC zs).toArray rfl rfl hth' HI'.out (arrC_all zs) ?_))
    go_ret2
    exact ⟨rfl, hB3⟩
  | true =>
    have hlog : logI L = false := by rw [hvo, Bool.and_true] at hno; exact hno
    rw [hvo] at hco
    go_enter Try.func9, Try.ntmps9
    go_wp2_with fail
    refine hco.mono ?_
    rintro e w2 ⟨rfl, hb2⟩
    have hB2 := below_seq hba hb2
    have hth := there_made (n := 16) (Below.refl (w2.alloc (.cells #[.int .i64 0, .int .i64 0, .int .i64 0, .int .i64 0, .int .i64 0, .int .i64 0, .int .i64 0, .int .i64 0, .int .i64 0, .int .i64 0, .int .i64 0, .int .i64 0, .int .i64 0, .int .i64 0, .int .i64 0, .int .i64 0] 54)).heap.size (w2.alloc (.cells #[.int .i64 0, .int .i64 0, .int .i64 0, .int .i64 0, .int .i64 0, .int .i64 0, .int .i64 0, .int .i64 0, .int .i64 0, .int .i64 0, .int .i64 0, .int .i64 0, .int .i64 0, .int .i64 0, .int .i64 0, .int .i64 0] 54))) (by simp)
    have hth' : (w2.alloc (.cells #[.int .i64 0, .int .i64 0, .int .i64 0, .int .i64 0, .int .i64 0, .int .i64 0, .int .i64 0, .int .i64 0, .int .i64 0, .int .i64 0, .int .i64 0, .int .i64 0, .int .i64 0, .int .i64 0, .int .i64 0, .int .i64 0] 54)).there w2.heap.size 0 (arrC zs).toArray.size := by rw [sx]; exact hth
    have hb3 : Below w2.heap.size w2 ((w2.alloc (.cells #[.int .i64 0, .int .i64 0, .int .i64 0, .int .i64 0, .int .i64 0, .int .i64 0, .int .i64 0, .int .i64 0, .int .i64 0, .int .i64 0, .int .i64 0, .int .i64 0, .int .i64 0, .int .i64 0, .int .i64 0, .int .i64 0] 54)).setCells w2.heap.size 0 (arrC zs)) := below_setCells (Nat.le_refl _) _ _ _ (below_alloc _ _)
    have hB3 := below_seq hB2 hb3
    have hLK := implLogOK_any C ((w2.alloc (.cells #[.int .i64 0, .int .i64 0, .int .i64 0, .int .i64 0, .int .i64 0, .int .i64 0, .int .i64 0, .int .i64 0, .int .i64 0, .int .i64 0, .int .i64 0, .int .i64 0, .int .i64 0, .int .i64 0, .int .i64 0, .int .i64 0] 54)).setCells w2.heap.size 0 (arrC zs)) _ L (by have := hB3.size; omega) (hr0.below (hB3.mono hC))
    rw [hlog] at hLK
    go_wp2_with (first | (refine wpList_store_mid rfl 54 _ _ rfl w2.heap.size 0 (arrC zs).toArray rfl rfl hth' HI'.out (arrC_all zs) ?_) | (go_at_call 23; refine hLK.mono ?_; rintro e w4 ⟨rfl, hb4⟩))
    go_ret2
    exact ⟨rfl, below_seq hB3 hb4⟩
end Go.Proofs.Ytmmnloplgplngaa
