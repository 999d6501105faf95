/- The law FnRecords, walked over the draw of an operation. No condition: they are lemmas. -/
import Derived.Lib.MinMax
import Derived.Test.YtmmkmkaannlkhaaGreatDoorQReadRecToAttemptRec
import Derived.Test.YtmmkmkaannlkhaaGreatDoorQOpBytesSpecToRecBoth
import Derived.Test.YtmmkmkaannlkhaaGreatDoorQRecsImpl
import Derived.Test.YtmmkmkaannlkhaaGreatDoorQInfoToLawAt
import Derived.Test.YtmmkmkaannlkhaaGreatDoorQBaseToOwnType
import Derived.Test.YtmmkmkaannlkhaaGreatDoorQFrame
namespace Go.Proofs.YtmmkmkaannlkhaaGreatDoor
open Go.RowKit
set_option linter.unusedVariables false

def endsL (L : List Ov) : List Int := (List.range (L.length + 1)).map fun k => (endOf L k : Int)
theorem endsL_len (L : List Ov) : (endsL L).length = L.length + 1 := by simp [endsL]
theorem endsL_at {L : List Ov} {k : Nat} (h : k ≤ L.length) : (endsL L)[k]? = some (endOf L k : Int) := by
  unfold endsL
  rw [List.getElem?_map, List.getElem?_range (by omega)]
  rfl
theorem endOf_app {L : List Ov} {x : Ov} {k : Nat} (hk : k ≤ L.length) : endOf (L ++ [x]) k = endOf L k := by unfold endOf; rw [List.take_append_of_le_length hk]
theorem endOf_last (L : List Ov) : endOf L L.length = (recsOf L).length := by unfold endOf; rw [List.take_length]
theorem endsL_snoc (L : List Ov) (x : Ov) : endsL (L ++ [x]) = endsL L ++ [((recsOf (L ++ [x])).length : Int)] := by
  unfold endsL
  rw [List.length_append, List.length_singleton, List.range_succ, List.map_append, List.map_singleton]
  congr 1
  · refine List.map_congr_left fun k hk => ?_
    rw [endOf_app (by have := List.mem_range.1 hk; omega)]
  · have := endOf_last (L ++ [x])
    rw [List.length_append, List.length_singleton] at this
    rw [this]
theorem endOf_mono {L : List Ov} {j k : Nat} (h : j ≤ k) : endOf L j ≤ endOf L k := by
  unfold endOf
  have e : L.take k = L.take j ++ (L.drop j).take (k - j) := by
    rw [← List.take_add, Nat.add_sub_cancel' h]
  rw [e]
  unfold recsOf
  rw [List.flatMap_append, List.length_append]
  omega
theorem recsOf_len : ∀ {L : List Ov}, (∀ x ∈ L, x.ok = true) → (recsOf L).length ≤ 1264 * L.length
  | [], _ => Nat.zero_le _
  | x :: r, h => by
    have h1 := recOf_len (opByO_len (h x (List.mem_cons_self ..)))
    have h2 := recsOf_len (L := r) (fun y hy => h y (List.mem_cons_of_mem _ hy))
    unfold recsOf at h2 ⊢
    rw [List.flatMap_cons, List.length_append, List.length_cons]
    omega
/-- The specification's draw of an operation. -/
def DrawsOp : Prop := ∀ (C : Nat) (w : World) (v : Value) (xs : List Int), C ≤ w.heap.size → Rd C w v (xs.map (Value.int .u8)) → (∀ x ∈ xs, 0 ≤ x ∧ x ≤ 255) → xs.length ≤ 1048576 →
  Calls Tryz.prog 4 #[v] w fun e w' => ∃ x : Ov, e = .returned (.agg x.cs.toArray) ∧ Rd w'.heap.size w' x.dv (x.ds.map (Value.int .i64)) ∧ (x.ds.length = 16 ∨ x.ds = []) ∧ Below w.heap.size w w'
theorem rd_head {C : Nat} {w : World} {ao : Option Addr} {n cap m : Nat} {cs : List Value} (h : Rd C w (.slice ao n cap) cs) (hm : m ≤ cs.length) : Rd C w (.slice ao m cap) (cs.take m) := by
  obtain ⟨ao1, cap1, e, hl, hx, hz, h⟩ := h
  simp only [Value.slice.injEq] at e
  obtain ⟨rfl, -, rfl⟩ := e
  have hlen : (cs.take m).length = m := by rw [List.length_take]; omega
  refine ⟨ao, cap, by rw [hlen], by rw [hlen]; omega, hx, hz, fun hp => ?_⟩
  obtain ⟨g, off, rfl, hg, hr⟩ := h (by rw [hlen] at hp; omega)
  refine ⟨g, off, rfl, hg, fun j u hj => hr j u ?_⟩
  rw [List.getElem?_take] at hj
  split at hj
  · exact hj
  · cases hj
/-- What the law holds while it draws: the records so far, and where each ends. -/
structure Fw (w wr : World) (tb te : Value) (L : List Ov) : Prop where
  ok : ∀ x ∈ L, x.ok = true
  b : Own 5 wr w.heap.size tb ((recsOf L).map (Value.int .u8))
  e : Own 3 wr w.heap.size te ((endsL L).map (Value.int .i64))
  bel : Below w.heap.size w wr
theorem Fw.below {w wr w' : World} {tb te : Value} {L : List Ov} (h : Fw w wr tb te L) (hb : Below wr.heap.size wr w') : Fw w w' tb te L :=
  ⟨h.ok, h.b.below hb (Nat.le_refl _), h.e.below hb (Nat.le_refl _), below_seq h.bel hb⟩
theorem Fw.shape {w wr : World} {tb te : Value} {L : List Ov} (h : Fw w wr tb te L) : ∃ ba bc ea ec, tb = .slice ba (recsOf L).length bc ∧ te = .slice ea (L.length + 1) ec := by
  obtain ⟨ba, bc, e1, _⟩ := h.b.slice
  obtain ⟨ea, ec, e2, _⟩ := h.e.slice
  exact ⟨ba, bc, ea, ec, by rw [e1, List.length_map], by rw [e2, List.length_map, endsL_len]⟩
theorem Fw.more {w wr w1 w2 : World} {tb te tb' te' : Value} {L : List Ov} {x : Ov} (h : Fw w wr tb te L) (hx : x.ok = true) (hb1 : Own 5 w1 w.heap.size tb' ((recsOf (L ++ [x])).map (Value.int .u8))) (hg1 : wr.grownBy w1 tb.ownBlock) {w1' : World} (hm : Below w1.heap.size w1 w1') (he2 : Own 3 w2 w.heap.size te' ((endsL (L ++ [x])).map (Value.int .i64))) (hg2 : w1'.grownBy w2 te.ownBlock) : Fw w w2 tb' te' (L ++ [x]) := by
  have hbel := h.bel
  have he1 : Own 3 w1 w.heap.size te ((endsL L).map (Value.int .i64)) := owns_same h.e fun k hk hl => hg1.block k hl fun e => owns_type h.e h.b (by decide) k hk e.symm
  have hb1' := hb1.below hm (Nat.le_refl _)
  have he1' := he1.below hm (Nat.le_refl _)
  refine ⟨fun y hy => ?_, owns_same hb1' fun k hk hl => hg2.block k hl fun e => owns_type hb1' he1' (by decide) k hk e.symm, he2, ?_⟩
  · rcases List.mem_append.1 hy with hy | hy
    · exact h.ok y hy
    · simp at hy; subst hy; exact hx
  · have s0 := hbel.size
    have s1 := hg1.size
    have s2 := hm.size
    exact ((hbel.grown hg1 s0 (fun k hk => (owns_lt h.b k hk).1)).trans (hm.mono (by omega))).grown hg2 (by omega) (fun k hk => (owns_lt he1' k hk).1)
theorem Fw.kept {w wr w1 : World} {tb te tb' : Value} {L : List Ov} {x : Ov} (h : Fw w wr tb te L) (hg1 : wr.grownBy w1 tb.ownBlock) : Own 3 w1 w.heap.size te ((endsL L).map (Value.int .i64)) := owns_same h.e fun k hk hl => hg1.block k hl fun e => owns_type h.e h.b (by decide) k hk e.symm

set_option maxHeartbeats 16000000 in
set_option maxRecDepth 100000 in
theorem lawRecords_walk (hDR : DrawsOp) (a0 : Option Addr) (len0 cap0 : Nat) (z0 : List Int) (a1 : Option Addr) (len1 cap1 : Nat) (z1 : List Int) (w : World) (sa : Addr) (h0 : IsRow .u8 w a0 len0 cap0 z0) (h1 : IsRow .u8 w a1 len1 cap1 z1) (hw0 : 0 < w.heap.size) (hgl : w.cell? ⟨0, 0, none⟩ = some (.iface 151 (.pointer (some sa)))) :
    Calls Tryz.prog 3 #[.slice a0 len0 cap0, .slice a1 len1 cap1] w fun e w' => e = .returned (.bool true) ∧ Below w.heap.size w w' := by
  obtain ⟨i5, hi5, hy0, hy1, hy2⟩ := info_parts info5
  obtain ⟨i3, hi3, hx0, hx1, hx2⟩ := info_parts info3
  obtain ⟨hra, hlen0⟩ := h0.rd
  obtain ⟨hrb, hlen1⟩ := h1.rd
  have hcode := h0.bytes
  have hmore := h1.bytes
  have hmx0 : len0 ≤ maxLen := by rcases h0 with ⟨_, rfl, _⟩ | ⟨_, _, h1, h2, _⟩ <;> omega
  have hmx1 : len1 ≤ maxLen := by rcases h1 with ⟨_, rfl, _⟩ | ⟨_, _, h1, h2, _⟩ <;> omega
  clear h0 h1
  unfold maxLen at hmx0 hmx1
  generalize z0.take len0 = code at hra hlen0 hcode
  generalize z1.take len1 = more at hrb hlen1 hmore
  subst hlen0 hlen1
  by_cases hl0 : (1048576 : Int) < (code.length : Int)
  · go_enter Tryz.func3, Tryz.ntmps3
    go_wp2_with fail
    all_goals go_ret
    all_goals exact ⟨rfl, Below.refl _ _⟩
  by_cases hl1 : (1048576 : Int) < (more.length : Int)
  · go_enter Tryz.func3, Tryz.ntmps3
    go_wp2_with fail
    all_goals go_ret
    all_goals exact ⟨rfl, Below.refl _ _⟩
  have hkl : code.length ≤ 1048576 := by omega
  have hbl : more.length ≤ 1048576 := by omega
  have hcp0 : code.length ≤ cap0 := by obtain ⟨_, _, e, h, _⟩ := hra; simp only [Value.slice.injEq] at e; rw [List.length_map] at h; omega
  have HDR : Hid DrawsOp := hDR
  have HGL : Hid (∀ w9, Below w.heap.size w w9 → 0 < w9.heap.size ∧ w9.cell? ⟨0, 0, none⟩ = some (.iface 151 (.pointer (some sa)))) := fun w9 h => ⟨by have := h.size; omega, (h.cell (p := ⟨0, 0, none⟩) hw0).trans hgl⟩
  have HRA : Hid (∀ w9, Below w.heap.size w w9 → Rd w.heap.size w9 (.slice a0 code.length cap0) (code.map (Value.int .u8))) := fun w9 h => hra.below h
  have HRB : Hid (∀ w9, Below w.heap.size w w9 → Rd w9.heap.size w9 (.slice a1 more.length cap1) (more.map (Value.int .u8))) := fun w9 h => (hrb.below h).mono h.size
  have H0 : Hid (Fw w ((w.alloc (.cells #[] 5)).alloc (.cells #[.int .i64 0] 3)) (.slice (some ⟨w.heap.size, 0, none⟩) 0 0) (.slice (some ⟨w.heap.size + 1, 0, none⟩) 1 1) []) :=
    ⟨fun x hx => absurd hx (by simp), World.ownsRow.alloc (own_lit w 5 [] 0 rfl (by decide)) _, (by
      have := own_lit (w.alloc (.cells #[] 5)) 3 [.int .i64 0] 1 rfl (by decide)
      rw [World.size_alloc] at this
      exact this.mono (by omega)), below_then (below_alloc _ _) _⟩
  clear hDR hra hrb hgl
  go_enter Tryz.func3, Tryz.ntmps3
  go_wp2_with fail
  go_loopw [5, 6, 7] (fun tb te ti wr => ∃ (i : Nat) (L : List Ov), i ≤ 4 ∧ ti = .int .i64 (i : Int) ∧ L.length ≤ i ∧ Hid (Fw w wr tb te L)) (fun _ _ ti _ => 4 - (intOf ti).toNat)
  case atStart => exact ⟨0, [], Nat.zero_le _, rfl, Nat.le_refl _, H0⟩
  case round =>
    clear H0
    obtain ⟨i, L, hi4, rfl, hLi, HF⟩ := hrel
    obtain ⟨ba, bc, ea, ec, rfl, rfl⟩ := HF.out.shape
    have hRL := recsOf_len HF.out.ok
    by_cases hlt : i < 4
    · have ji : (i : Int) < 4 := by omega
      have hB := HF.out.bel
      obtain ⟨m, hm⟩ : ∃ m, min code.length 60 = m := ⟨_, rfl⟩
      have hmc : m ≤ code.length := by omega
      have hmcp : (m : Int) ≤ (cap0 : Int) := by omega
      have hmi : min (code.length : Int) 60 = (m : Int) := by omega
      have hoA : Own 5 (wr.alloc (.cells #[.int .u8 (50 * (i : Int))] 5)) wr.heap.size (.slice (some ⟨wr.heap.size, 0, none⟩) 1 1) [.int .u8 (50 * (i : Int))] := own_lit wr 5 [.int .u8 (50 * (i : Int))] 1 rfl (by decide)
      have hbA := below_alloc wr (.cells #[.int .u8 (50 * (i : Int))] 5)
      have hrc := rd_head (m := m) (HRA.out _ (below_seq hB hbA)) (by rw [List.length_map]; exact hmc)
      rw [← List.map_take] at hrc
      have HLM : Hid ((code.take m).length = m) := by unfold Hid; rw [List.length_take]; omega
      clear hm
      go_wp2_with (first | (at_builtin; refine wpList_append_rd rfl _ _ 22 rfl wr.heap.size 5 i5 (.int .u8 0) 1 Tryz.underlying22 hi5 hy0 hy1 hy2 rfl _ _ rfl hoA _ _ _ rfl hrc (ints_oneCell _ _) (by rw [List.length_map, HLM.out]; unfold maxLen; simp; omega) (by rw [List.length_map, HLM.out]; simp; omega) hbA.size ?_))
      intro v2 w2 ho2 hg2
      have hb2 : Below wr.heap.size wr w2 := hbA.grown hg2 hbA.size hoA.lt
      have hX2 : ∀ c ∈ [50 * (i : Int)] ++ code.take m, 0 ≤ c ∧ c ≤ 255 := fun c hc => by
        rcases List.mem_append.1 hc with hc | hc
        · simp at hc; subst hc; omega
        · exact hcode c (List.mem_of_mem_take hc)
      have hr2 : Rd w2.heap.size w2 v2 (([50 * (i : Int)] ++ code.take m).map (Value.int .u8)) := by
        have := ho2.rd
        rw [List.map_append, List.map_singleton]
        simpa using this
      have hdr := HDR.out w2.heap.size w2 v2 _ (Nat.le_refl _) hr2 hX2 (by rw [List.length_append, HLM.out]; simp; omega)
      obtain ⟨va2, vc2, hv2⟩ : ∃ a c, v2 = .slice a (1 + m) c := by
        obtain ⟨a, c, e, _⟩ := hr2
        exact ⟨a, c, by rw [e, List.length_map, List.length_append, HLM.out]; rfl⟩
      subst hv2
      clear ho2 hg2 hoA hbA hrc hr2 hX2 hmi hmcp hmc HLM
      replace HF : Hid _ := HF.out.below hb2
      replace hB := below_seq hB hb2
      clear hb2
      go_wp2_with fail
      refine hdr.mono ?_
      rintro e w3 ⟨x, rfl, hxd, -, hb3⟩
      replace HF : Hid _ := HF.out.below hb3
      replace hB := below_seq hB hb3
      clear hdr hb3
      obtain ⟨xa, xs, xt, xdv, xk, xo, xn, xu, xpt, xpa, xky, xtx, xds⟩ := x
      simp only at hxd
      have hv3 : (Ov.cs ⟨xa, xs, xt, xdv, xk, xo, xn, xu, xpt, xpa, xky, xtx, xds⟩).toArray = #[.int .i64 xa, .int .i64 xs, .int .i64 xt, xdv, .int .i64 xk, .int .i64 xo, .int .i64 xn, .int .i64 xu, .int .i64 xpt, .int .i64 xpa, .string xky, .string xtx] := rfl
      rw [hv3]
      clear hv3
      have hOK : (Ov.ok ⟨xa, xs, xt, xdv, xk, xo, xn, xu, xpt, xpa, xky, xtx, xds⟩) = opB xa xs xt xk xo xn xu xpt xpa xky xtx xds := rfl
      have hba := below_alloc w3 (.cells #[.int .i64 xa, .int .i64 xs, .int .i64 xt, xdv, .int .i64 xk, .int .i64 xo, .int .i64 xn, .int .i64 xu, .int .i64 xpt, .int .i64 xpa, .string xky, .string xtx] 29)
      obtain ⟨xda, xdc, hxs⟩ : ∃ a c, xdv = .slice a xds.length c := by
        obtain ⟨a, c, e, _⟩ := hxd
        exact ⟨a, c, by rw [e, List.length_map]⟩
      subst hxs
      go_wp2_with fail
      have hi1 := implRecordBytes_any w3.heap.size xa xs xt xk xo xn xu xpt xpa (.slice xda xds.length xdc) xky xtx xds _ (show w3.heap.size ≤ (w3.alloc (.cells #[.int .i64 xa, .int .i64 xs, .int .i64 xt, .slice xda xds.length xdc, .int .i64 xk, .int .i64 xo, .int .i64 xn, .int .i64 xu, .int .i64 xpt, .int .i64 xpa, .string xky, .string xtx] 29)).heap.size from hba.size) (hxd.below hba)
      have hsp := fun (w9 : World) (h : Below w3.heap.size w3 w9) => specRecordBytes_any w3.heap.size xa xs xt xk xo xn xu xpt xpa (.slice xda xds.length xdc) xky xtx xds w9 h.size (hxd.below h)
      refine hi1.mono ?_
      rintro e w4 ⟨r4, rfl, ho4, hb4⟩
      have hrg4 := range_op hb4
      have hb34 := below_seq hba hb4
      clear hi1 hba hb4
      obtain ⟨r4a, r4c, hr4⟩ : ∃ a c, r4 = .slice a (recByB xa xs xt xk xo xn xu xpt xpa xky xtx xds).length c := by
        obtain ⟨a, c, e, _⟩ := ho4.slice
        exact ⟨a, c, by rw [e, List.length_map]⟩
      subst hr4
      go_wp2_with (first | (refine wpList_load_mid rfl 29 _ rfl w3.heap.size 0 rfl _ _ hrg4 Tryz.underlying29 rfl info12 ?_))
      refine (hsp _ hb34).mono ?_
      rintro e w5 ⟨r5, rfl, ho5, hb5⟩
      obtain ⟨r5a, r5c, hr5⟩ : ∃ a c, r5 = .slice a (recByB xa xs xt xk xo xn xu xpt xpa xky xtx xds).length c := by
        obtain ⟨a, c, e, _⟩ := ho5.slice
        exact ⟨a, c, by rw [e, List.length_map]⟩
      subst hr5
      have hb35 := below_seq hb34 hb5
      have ho4' := ho4.below hb5 (Nat.le_refl _)
      have hst0 := run_string_of ho4'.rd
      have hst1 := run_string_of ho5.rd
      replace HF : Hid _ := HF.out.below hb35
      replace hB := below_seq hB hb35
      have hrl := recByB_len xa xs xt xk xo xn xu xpt xpa xky xtx xds
      clear hsp hrg4 hb34 hb5 ho4 hb35 hxd
      cases hok : opB xa xs xt xk xo xn xu xpt xpa xky xtx xds with
      | false =>
        have hcc : opByC xa xs xt xk xo xn xu xpt xpa xky xtx xds = 1 := by unfold opByC; rw [hok]; rfl
        rw [hcc]
        clear ho4' ho5 hok hOK hcc
        generalize recByB xa xs xt xk xo xn xu xpt xpa xky xtx xds = B at *
        go_wp2_with fail
        go_roundw
        case rel => exact ⟨i + 1, L, by omega, by go_num, by omega, HF⟩
        case measure => simp [intOf]; omega
      | true =>
        have hcc : opByC xa xs xt xk xo xn xu xpt xpa xky xtx xds = 0 := by unfold opByC; rw [hok]; rfl
        have hrb : recByB xa xs xt xk xo xn xu xpt xpa xky xtx xds = recOf (opByO ⟨xa, xs, xt, .slice none 0 0, xk, xo, xn, xu, xpt, xpa, xky, xtx, xds⟩) := by unfold recByB; rw [hok]; rfl
        have hxo : (Ov.ok ⟨xa, xs, xt, .slice none 0 0, xk, xo, xn, xu, xpt, xpa, xky, xtx, xds⟩) = true := hok
        rw [hcc]
        clear ho5 hok hOK hcc
        have HSN : Hid ((recsOf (L ++ [⟨xa, xs, xt, .slice none 0 0, xk, xo, xn, xu, xpt, xpa, xky, xtx, xds⟩])) = recsOf L ++ recByB xa xs xt xk xo xn xu xpt xpa xky xtx xds) := by unfold Hid; rw [hrb]; exact recsOf_snoc _ _
        clear hrb
        generalize recByB xa xs xt xk xo xn xu xpt xpa xky xtx xds = B at *
        generalize (⟨xa, xs, xt, .slice none 0 0, xk, xo, xn, xu, xpt, xpa, xky, xtx, xds⟩ : Ov) = x at *
        have hob := HF.out.b
        have hrd4 := ho4'.rd
        have hbs := hB.size
        clear ho4'
        go_wp2_with (first | (at_builtin; refine wpList_append_rd rfl _ _ 22 rfl w.heap.size 5 i5 (.int .u8 0) 1 Tryz.underlying22 hi5 hy0 hy1 hy2 rfl _ _ rfl hob _ _ _ rfl hrd4 (ints_oneCell _ _) (by rw [List.length_map, List.length_map]; unfold maxLen; omega) (by rw [List.length_map, List.length_map]; omega) hbs ?_))
        intro bv w6 hob6 hg6
        have hkp := HF.out.kept (x := x) (tb' := bv) hg6
        rw [← List.map_append, ← HSN.out] at hob6
        obtain ⟨b6a, b6c, hbv⟩ : ∃ a c, bv = .slice a (recsOf (L ++ [x])).length c := by
          obtain ⟨a, c, e, _⟩ := hob6.slice
          exact ⟨a, c, by rw [e, List.length_map]⟩
        subst hbv
        have hg6s := hg6.size
        have HSZ : Hid (w.heap.size ≤ w6.heap.size) := Nat.le_trans hbs hg6s
        clear hob hrd4 hst0 hst1 hrl hg6s hbs HSN
        have hbN := below_alloc w6 (.cells #[.int .i64 ((recsOf (L ++ [x])).length : Int)] 3)
        have hoN : Own 3 (w6.alloc (.cells #[.int .i64 ((recsOf (L ++ [x])).length : Int)] 3)) w6.heap.size (.slice (some ⟨w6.heap.size, 0, none⟩) 1 1) [.int .i64 ((recsOf (L ++ [x])).length : Int)] := own_lit w6 3 [.int .i64 ((recsOf (L ++ [x])).length : Int)] 1 rfl (by decide)
        have hkN := hkp.below hbN (Nat.le_refl _)
        have hrN := hoN.rd
        have hsN := Nat.le_trans HSZ.out hbN.size
        clear hkp hoN
        go_wp2_with (first | (at_builtin; refine wpList_append_rd rfl _ _ 23 rfl w.heap.size 3 i3 (.int .i64 0) 8 Tryz.underlying23 hi3 hx0 hx1 hx2 rfl _ _ rfl hkN _ _ _ rfl hrN (fun u hu => by simp at hu; subst hu; rfl) (by rw [List.length_map, endsL_len]; unfold maxLen; simp; omega) (by rw [List.length_map, endsL_len]; simp; omega) hsN ?_))
        intro ev w7 hoe hge
        obtain ⟨e7a, e7c, hev⟩ : ∃ a c, ev = .slice a ((L ++ [x]).length + 1) c := by
          obtain ⟨a, c, e, _⟩ := hoe.slice
          exact ⟨a, c, by rw [e, List.length_append, List.length_map, endsL_len, List.length_append]; rfl⟩
        subst hev
        have HF' : Hid (Fw w w7 (.slice b6a (recsOf (L ++ [x])).length b6c) (.slice e7a ((L ++ [x]).length + 1) e7c) (L ++ [x])) := HF.out.more hxo hob6 hg6 hbN (by rw [endsL_snoc, List.map_append, List.map_singleton]; exact hoe) hge
        clear hoe hge hob6 hg6 hbN hkN hrN hsN HSZ
        go_wp2_with fail
        go_roundw
        case rel => exact ⟨i + 1, L ++ [x], by omega, by go_num, by rw [List.length_append]; simp; omega, HF'⟩
        case measure => simp [intOf]; omega
    · have j4 : i = 4 := by omega
      subst j4
      clear HDR
      have hbs := HF.out.bel.size
      have hrb := HF.out.b.rd
      have hLb := recsOf_len HF.out.ok
      have hoF : Own 5 (wr.alloc (.cells #[] 5)) wr.heap.size (.slice (some ⟨wr.heap.size, 0, none⟩) 0 0) [] := own_lit wr 5 [] 0 rfl (by decide)
      have hbF := below_alloc wr (.cells #[] 5)
      have hrbF := hrb.below hbF
      have hoFs := hbF.size
      clear hrb hcode hcp0 hmx0 hmx1 HRA
      go_wp2_with (first | (at_builtin; refine wpList_append_rd rfl _ _ 22 rfl wr.heap.size 5 i5 (.int .u8 0) 1 Tryz.underlying22 hi5 hy0 hy1 hy2 rfl _ _ rfl hoF _ _ _ rfl hrbF (ints_oneCell _ _) (by rw [List.length_map]; unfold maxLen; simp; omega) (by rw [List.length_map]; simp; omega) hoFs ?_))
      intro cv w1 hoc hgc
      have hb1 : Below wr.heap.size wr w1 := hbF.grown hgc hbF.size hoF.lt
      obtain ⟨ca, cc, hcv⟩ : ∃ a c, cv = .slice a (recsOf L).length c := by
        obtain ⟨a, c, e, _⟩ := hoc.slice
        exact ⟨a, c, by rw [e, List.length_map]⟩
      subst hcv
      have hrc := hoc.rd
      have e0 : endOf L 0 = 0 := by simp [endOf, recsOf]
      have HRC : Hid (∀ c : Nat, c ≤ (recsOf L).length → ∃ j, j ≤ L.length ∧ endOf L j ≤ c ∧ (j < L.length → c < endOf L (j + 1)) ∧ (recs ((recsOf L).take c) 0).2 = endOf L j ∧ (recs ((recsOf L).take c) 0).1.length = j) := fun c hc => by
        have := recs_back HF.out.ok c L.length 0 (by omega) (by omega) hc
        rw [e0] at this
        obtain ⟨j, _, j2, j3, j4, j5, j6⟩ := this
        exact ⟨j, j2, j3, j4, j5, by omega⟩
      have HB1 : Hid (Below w.heap.size w w1) := below_seq HF.out.bel hb1
      replace HF : Hid _ := HF.out.below hb1
      have hi1 := implReadRecords_any w1.heap.size w1 _ (recsOf L) sa (recsOf_byte L) (by omega) (Nat.le_refl _) hrc (HGL.out w1 HB1.out).1 (HGL.out w1 HB1.out).2
      obtain ⟨hU, hW⟩ : (recs (recsOf L) 0).2 = (recsOf L).length ∧ (recs (recsOf L) 0).1.length = L.length := by
        obtain ⟨j, j2, j3, j4, j5, j6⟩ := HRC.out _ (Nat.le_refl _)
        rw [List.take_length] at j5 j6
        have hj : j = L.length := by
          by_cases h : j < L.length
          · have h1 := j4 h
            have h2 := endOf_mono (L := L) (show j + 1 ≤ L.length by omega)
            rw [endOf_last] at h2
            omega
          · omega
        subst hj
        rw [endOf_last] at j5
        exact ⟨j5, j6⟩
      rw [hU] at hi1
      clear hb1 hoc hgc hoF hbF hrbF hoFs hrc e0 hbs hU
      go_wp2_with fail
      refine hi1.mono ?_
      rintro e w2 ⟨ra, rc, gs, L1, rfl, hs1, hR1⟩
      have hL1 : L1.length = L.length := hs1.1.trans hW
      rw [hL1]
      have hb2 := hR1.below
      have HB2 : Hid (Below w.heap.size w w2) := below_seq HB1.out hb2
      replace HF : Hid _ := HF.out.below hb2
      clear hi1 hW hs1 hR1 hL1 hb2 HB1
      have hat := at_any w2.heap.size w2 _ more 0 ((recsOf L).length + 1) (by decide) (by omega) (by omega) hmore hbl (HRB.out w2 HB2.out)
      go_wp2_with fail
      refine hat.mono ?_
      rintro e w3 ⟨cut, rfl, hct, q, rfl⟩
      have hbq : Below w2.heap.size w2 (w2.drewN q) := below_drewN (Below.refl _ _) q
      have HB3 : Hid (Below w.heap.size w (w2.drewN q)) := below_seq HB2.out hbq
      replace HF : Hid _ := HF.out.below hbq
      have hgl3 := HGL.out _ HB3.out
      generalize w2.drewN q = w3 at *
      have hrb := HF.out.b.rd
      have hrh := rd_head (m := cut) hrb (by rw [List.length_map]; omega)
      rw [← List.map_take] at hrh
      have hcpb : (recsOf L).length ≤ bc := by obtain ⟨_, _, e, h, _⟩ := hrb; simp only [Value.slice.injEq] at e; rw [List.length_map] at h; omega
      obtain ⟨j, j2, j3, j4, j5, j6⟩ := HRC.out cut (by omega)
      have hi2 := implReadRecords_any w3.heap.size w3 _ ((recsOf L).take cut) sa (fun c hc => recsOf_byte L c (List.mem_of_mem_take hc)) (by rw [List.length_take]; omega) (Nat.le_refl _) hrh hgl3.1 hgl3.2
      rw [j5] at hi2
      have jc : (cut : Int) ≤ (bc : Int) := by omega
      clear hat HRC hbq HB2 hgl3 hrb hrh j5
      go_wp2_with fail
      refine hi2.mono ?_
      rintro e w4 ⟨ra2, rc2, gs2, L2, rfl, hs2, hR2⟩
      have hL2 : L2.length = j := hs2.1.trans j6
      rw [hL2]
      have hb4 := hR2.below
      have HB4 : Hid (Below w.heap.size w w4) := below_seq HB3.out hb4
      replace HF : Hid _ := HF.out.below hb4
      have J4 : Hid (j < L.length → cut < endOf L (j + 1)) := j4
      have J3 : Hid (endOf L j ≤ cut) := j3
      clear hi2 j6 hs2 hR2 hL2 hb4 HB3 jc j4 j3
      go_wp2_with fail
      go_loopw [20] (fun tk wq => ∃ k : Nat, k ≤ j ∧ tk = .int .i64 (k : Int) ∧ Hid (Fw w wq (.slice ba (recsOf L).length bc) (.slice ea (L.length + 1) ec) L)) (fun tk _ => j - (intOf tk).toNat)
      case atStart => exact ⟨0, Nat.zero_le _, rfl, HF⟩
      case round =>
        clear HF
        obtain ⟨k, hkj, rfl, HF⟩ := hrel
        obtain ⟨ea0, ec0, eq0, -, -, -, hce⟩ := HF.out.e.rd
        rw [List.length_map, endsL_len] at eq0 hce
        simp only [Value.slice.injEq] at eq0
        obtain ⟨rfl, -, rfl⟩ := eq0
        obtain ⟨g, off, rfl, -, hce⟩ := hce (by omega)
        have hck : ∀ m : Nat, m ≤ L.length → wr.cell? ⟨g, off + m, none⟩ = some (.int .i64 (endOf L m : Int)) := fun m hm => hce m _ (by rw [List.getElem?_map, endsL_at hm]; rfl)
        clear hce
        by_cases hkl : k < j
        · have c1 := hck (k + 1) (by omega)
          have x0 := Nat.le_trans (endOf_mono (L := L) (show k + 1 ≤ j by omega)) J3.out
          have x1 : (endOf L (k + 1) : Int) ≤ (cut : Int) := by omega
          have x2 : (k : Int) + 1 < (L.length : Int) + 1 := by omega
          have x3 : ((k + 1 : Nat) : Int) < (L.length : Int) + 1 := by omega
          clear hck x0
          generalize endOf L (k + 1) = E1 at *
          go_wp2_with fail
          go_roundw
          case rel => exact ⟨k + 1, by omega, by go_num, HF⟩
          case measure => simp [intOf]; omega
        · have hkj2 : k = j := by omega
          subst hkj2
          have c0 := hck k j2
          by_cases hkL : k < L.length
          · have c1 := hck (k + 1) (by omega)
            have x0 := J4.out hkL
            have x1 : ¬ (endOf L (k + 1) : Int) ≤ (cut : Int) := by omega
            have x2 : (k : Int) + 1 < (L.length : Int) + 1 := by omega
            clear hck x0 J3 J4
            generalize endOf L (k + 1) = E1 at *
            have hbF := HF.out.bel
            clear HF
            go_wp2_with fail
            go_ret
            exact ⟨rfl, hbF⟩
          · have x2 : ¬ (k : Int) + 1 < (L.length : Int) + 1 := by omega
            have x3 : (k : Int) < (L.length : Int) + 1 := by omega
            have hbF := HF.out.bel
            clear hck J3 J4 HF
            go_wp2_with fail
            go_ret
            exact ⟨rfl, hbF⟩
end Go.Proofs.YtmmkmkaannlkhaaGreatDoor
