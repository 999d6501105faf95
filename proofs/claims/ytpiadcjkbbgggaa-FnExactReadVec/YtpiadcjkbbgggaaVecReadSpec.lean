/- What the specification's ReadVec does. -/
import Derived.Test.YtpiadcjkbbgggaaVecReadTop
import Derived.Test.YtpiadcjkbbgggaaSpecNum
import Derived.Test.YtpiadcjkbbgggaaVecBytesSpec
import Derived.Test.YtpiadcjkbbgggaaStr
import Derived.Deep.RegionHeld3
import Derived.Deep.RegionHeld2
namespace Go.Proofs.Ytpiadcjkbbgggaa
open Go.RowKit
set_option linter.unusedVariables false

theorem rv_loop (s : ByteArray) : ∀ n i r, s.size - i = n → ByteArray.toList.loop s i r = r.reverse ++ s.data.toList.drop i := by
  have hs : s.data.toList.length = s.size := by rw [Array.length_toList]; rfl
  intro n
  induction n with
  | zero =>
    intro i r h
    rw [ByteArray.toList.loop, if_neg (by omega), List.drop_of_length_le (by omega)]
    simp
  | succ n ih =>
    intro i r h
    have hi : i < s.data.toList.length := by omega
    rw [ByteArray.toList.loop, if_pos (by omega), ih (i + 1) _ (by omega), List.drop_eq_getElem_cons hi]
    have : s.get! i = s.data.toList[i] := by
      show s.data[i]! = _
      rw [getElem!_pos s.data i (by rw [← Array.length_toList]; exact hi)]
      simp
    rw [this]
    simp
theorem rv_same (s : ByteArray) : s.toList = s.data.toList := by
  have := rv_loop s s.size 0 [] (by omega)
  simpa [ByteArray.toList] using this
theorem rv_inj {a b : ByteArray} (h : a.toList = b.toList) : a = b := by
  rw [rv_same, rv_same] at h
  cases a with | mk x => cases b with | mk y =>
    simp only [ByteArray.mk.injEq]
    exact Array.toList_inj.1 h
theorem bytesTo_bytes (X : List Int) : ∀ k, Bytes (bytesTo X k) := by
  intro k
  induction k with
  | zero => intro c hc; simp [bytesTo] at hc
  | succ k ih => rw [bytesTo]; exact ih.app (Bytes.enc _)
theorem rv_beside {e : TypeId} {w : World} {B g n cap m k : Nat} {cs : List Value} (h : Own e w B (.slice (some ⟨g, 0, none⟩) n cap) cs) (hn : g ≠ m) (u : Value) : Own e (w.setCell ⟨m, k, none⟩ u) B (.slice (some ⟨g, 0, none⟩) n cap) cs := by
  obtain ⟨h1, h2⟩ := h
  refine ⟨h1, ?_⟩
  rcases h2 with h2 | ⟨g', cap', cur, hv, hb, hh, r⟩
  · exact .inl h2
  · refine .inr ⟨g', cap', cur, hv, hb, ?_, r⟩
    simp only [Value.slice.injEq, Option.some.injEq, Addr.mk.injEq, and_true] at hv
    obtain ⟨rfl, _⟩ := hv
    rw [heap_setCell_other w ⟨m, k, none⟩ g u hn]
    exact hh
theorem rv_blk {w : World} {g m k : Nat} {o : Obj} (h : w.heap[g]? = some o) (hn : g ≠ m) (u : Value) : (w.setCell ⟨m, k, none⟩ u).heap[g]? = some o := by
  rw [heap_setCell_other w ⟨m, k, none⟩ g u hn]
  exact h
theorem rv_on {w w1 : World} {g b : Nat} {o : Obj} (h : w.heap[g]? = some o) (hg : w.grownBy w1 (some b)) (hn : g ≠ b) : w1.heap[g]? = some o := by
  rw [hg.block g (Array.getElem?_eq_some_iff.1 h).1 (by simp; omega)]
  exact h

set_option maxHeartbeats 1000000 in
set_option maxRecDepth 100000 in
theorem new_any (w : World) : Calls Try.prog 48 #[] w fun e w' => ∃ g, e = .returned (.agg #[.slice (some ⟨g, 0, none⟩) 16 16]) ∧ Own 3 w' (w.heap.size + 1) (.slice (some ⟨g, 0, none⟩) 16 16) ((pad []).map (Value.int .i64)) ∧ Below w.heap.size w w' := by
  obtain ⟨i0, hi, hz0, hz1, hz2⟩ := info_parts info3
  go_enter Try.func48, Try.ntmps48
  go_wp2_with (at_make; refine wpList_make_full _ rfl _ _ 32 rfl (w.heap.size + 1) 3 i0 (.int .i64 0) 1 Try.underlying32 hi hz0 hz1 _ _ _ _ 16 rfl rfl rfl rfl (by rw [hz2]; omega) (by unfold maxLen; omega) (by simp) ?_)
  intro w1 hown hgrow
  have ho1 := own_of hown
  rw [toList_madeCells_one] at ho1
  have hk := (hgrow.block w.heap.size (by simp) (by simp)).trans (heap_alloc_new w _)
  have c0 := rv_cell hk 0 rfl
  have f0 := rv_free hk 0
  have hb1 : Below w.heap.size w w1 := (below_alloc w _).grown hgrow (by simp) (fun k hk => by cases hk)
  have ho2 := rv_beside (m := w.heap.size) (k := 0) ho1 (by omega) (.slice (some ⟨w.heap.size + 1, 0, none⟩) 16 16)
  have hb2 := hb1.setCell (p := ⟨w.heap.size, 0, none⟩) (Nat.le_refl _) (.slice (some ⟨w.heap.size + 1, 0, none⟩) 16 16)
  have q0 : (w1.setCell ⟨w.heap.size, 0, none⟩ (.slice (some ⟨w.heap.size + 1, 0, none⟩) 16 16)).cell? ⟨w.heap.size, 0, none⟩ = some (.slice (some ⟨w.heap.size + 1, 0, none⟩) 16 16) := World.cell?_setCell_same _ _ _ c0
  clear hown hgrow ho1
  go_wp2_with fail
  refine bodyPost_ret (v := .agg #[.slice (some ⟨w.heap.size + 1, 0, none⟩) 16 16]) ?_ rfl ⟨_, rfl, ho2, hb2⟩
  simp [results, Try.results48, go_sem, q0]

/-- A row in g, a variable in nv that holds it, the reader in nr, the place of the answer. -/
structure Rs (w : World) (nr nv g : Nat) (v : Value) (X : List Int) (p : Nat) (bad : Bool) (wr : World) : Prop where
  own : Own 3 wr (w.heap.size + 1) (.slice (some ⟨g, 0, none⟩) 16 16) (X.map (Value.int .i64))
  var : wr.heap[nv]? = some (.cells #[.slice (some ⟨g, 0, none⟩) 16 16] 38 (0, 0))
  res : wr.heap[w.heap.size]? = some (.cells #[.slice none 0 0] 38 (0, 0))
  rdr : RdrS wr nr v p bad
  bel : Below w.heap.size w wr
  lv : w.heap.size < nv
  ln : nv < nr
  lg : g < nv
theorem Rs.drew {w : World} {nr nv g : Nat} {v : Value} {X : List Int} {p : Nat} {bad : Bool} {wr : World} (h : Rs w nr nv g v X p bad wr) : Rs w nr nv g v X p bad wr.drew := ⟨h.own, h.var, h.res, h.rdr, h.bel.drew, h.lv, h.ln, h.lg⟩
theorem Rs.drewN {w : World} {nr nv g : Nat} {v : Value} {X : List Int} {p : Nat} {bad : Bool} {wr : World} (h : Rs w nr nv g v X p bad wr) (n : Nat) : Rs w nr nv g v X p bad (wr.drewN n) := ⟨h.own, h.var, h.res, h.rdr, below_drewN h.bel n, h.lv, h.ln, h.lg⟩
theorem Rs.num {w : World} {nr nv g : Nat} {v : Value} {X : List Int} {p p' : Nat} {bad bad' : Bool} {wr w' : World} (h : Rs w nr nv g v X p bad wr) (hr : RdrS w' nr v p' bad') (hg : wr.grownBy w' (some nr)) : Rs w nr nv g v X p' bad' w' := by
  have h1 := h.lv
  have h2 := h.ln
  have h3 := h.lg
  have h4 := own_lt h.own
  refine ⟨?_, rv_on h.var hg (by omega), rv_on h.res hg (by omega), hr, h.bel.grown hg h.bel.size (fun k hk => by cases hk; omega), h1, h2, h3⟩
  obtain ⟨q1, q2⟩ := h.own
  refine ⟨q1, ?_⟩
  rcases q2 with q2 | ⟨g', cap, cur, hv, hb', hh, r⟩
  · exact .inl q2
  · refine .inr ⟨g', cap, cur, hv, hb', ?_, r⟩
    simp only [Value.slice.injEq, Option.some.injEq, Addr.mk.injEq, and_true] at hv
    obtain ⟨rfl, _⟩ := hv
    exact rv_on hh hg (by omega)
theorem Rs.below {w : World} {nr nv g : Nat} {v : Value} {X : List Int} {p : Nat} {bad : Bool} {wr w' : World} (h : Rs w nr nv g v X p bad wr) (hb : Below wr.heap.size wr w') : Rs w nr nv g v X p bad w' :=
  ⟨h.own.below hb (Nat.le_refl _), (hb.block nv (Array.getElem?_eq_some_iff.1 h.var).1).trans h.var, (hb.block w.heap.size (Array.getElem?_eq_some_iff.1 h.res).1).trans h.res, (hb.block nr (Array.getElem?_eq_some_iff.1 h.rdr).1).trans h.rdr, below_seq h.bel hb, h.lv, h.ln, h.lg⟩
theorem Rs.put {w : World} {nr nv g : Nat} {v : Value} {X : List Int} {p : Nat} {bad : Bool} {wr : World} (h : Rs w nr nv g v X p bad wr) (k : Nat) (a : Int) : Rs w nr nv g v (X.set k a) p bad (wr.setCell ⟨g, k, none⟩ (.int .i64 a)) := by
  have h1 := h.lv
  have h2 := h.ln
  have h3 := h.lg
  have h4 := own_lt h.own
  refine ⟨?_, rv_blk h.var (by omega) _, rv_blk h.res (by omega) _, rv_blk h.rdr (by omega) _, h.bel.setCell (p := ⟨g, k, none⟩) (by show w.heap.size ≤ g; omega) _, h1, h2, h3⟩
  have := own_set h.own k (.int .i64 a)
  rw [← List.map_set] at this
  exact this
/-- What lies ready for the answer. -/
theorem Rs.fin {w : World} {nr nv g : Nat} {v : Value} {X : List Int} {p : Nat} {bad : Bool} {wr : World} (h : Rs w nr nv g v X p bad wr) (u : Value) :
    wr.cell? ⟨nv, 0, none⟩ = some (.slice (some ⟨g, 0, none⟩) 16 16) ∧ wr.cell? ⟨w.heap.size, 0, none⟩ = some (.slice none 0 0) ∧ wr.frozen? ⟨w.heap.size, 0, none⟩ = false ∧
    (wr.setCell ⟨w.heap.size, 0, none⟩ u).cell? ⟨w.heap.size, 0, none⟩ = some u ∧ Below w.heap.size w (wr.setCell ⟨w.heap.size, 0, none⟩ u) ∧
    Own 3 (wr.setCell ⟨w.heap.size, 0, none⟩ u) w.heap.size (.slice (some ⟨g, 0, none⟩) 16 16) (X.map (Value.int .i64)) := by
  have h4 := own_lt h.own
  exact ⟨rv_cell h.var 0 rfl, rv_cell h.res 0 rfl, rv_free h.res 0, World.cell?_setCell_same _ _ _ (rv_cell h.res 0 rfl), h.bel.setCell (p := ⟨w.heap.size, 0, none⟩) (Nat.le_refl _) _, (rv_beside h.own (by omega) _).mono (by omega)⟩

set_option maxHeartbeats 8000000 in
set_option maxRecDepth 100000 in
theorem specReadVec_any (C : Nat) (w : World) (v : Value) (bs : List Int) (hx : Bytes bs) (hl : bs.length ≤ 1048576) (hC : C ≤ w.heap.size) (hr : Rd C w v (bs.map (Value.int .u8))) :
    Calls Try.prog 20 #[v] w (RvAns bs w) := by
  have hr0 := hr
  obtain ⟨ao, cap, rfl, hcap, hmax, hnil, hr⟩ := hr
  rw [List.length_map] at hr hr0 ⊢
  clear hr
  have hlen : ¬ (1048576 : Int) < (bs.length : Int) := by omega
  go_enter Try.func20, Try.ntmps20
  go_wp2_with fail
  refine (new_any _).mono ?_
  rintro e w1 ⟨g, rfl, ho1, hb1⟩
  rw [World.size_alloc] at ho1
  have hg0 := own_lt ho1
  have hg1 := ho1.blk g rfl
  have hB1 := below_seq (below_alloc w _) hb1
  have k0 := block_made hb1
  have s1 := hb1.size
  rw [World.size_alloc] at s1
  go_wp2_with fail
  have RS : Rs w (w1.heap.size + 1) w1.heap.size g (.slice ao bs.length cap) (pad []) 0 false ((w1.alloc (.cells #[.slice (some ⟨g, 0, none⟩) 16 16] 38)).alloc (.cells #[.slice ao bs.length cap, .int .i64 0, .bool false] 57)) := by
    have hbb : Below w1.heap.size w1 ((w1.alloc (.cells #[.slice (some ⟨g, 0, none⟩) 16 16] 38)).alloc (.cells #[.slice ao bs.length cap, .int .i64 0, .bool false] 57)) := below_then (below_alloc _ _) _
    refine ⟨(ho1.below hbb (Nat.le_refl _)).mono (by omega), ?_, (hbb.block w.heap.size (by omega)).trans k0, ?_, below_seq hB1 hbb, by omega, Nat.lt_succ_self _, hg1⟩
    · rw [Below.heap_alloc _ _ _ (by simp)]
      exact heap_alloc_new w1 _
    · have := heap_alloc_new (w1.alloc (.cells #[.slice (some ⟨g, 0, none⟩) 16 16] 38)) (.cells #[.slice ao bs.length cap, .int .i64 0, .bool false] 57)
      rw [World.size_alloc] at this
      exact this
  have HRD : Hid (∀ wr, Below w.heap.size w wr → Rd C wr (.slice ao bs.length cap) (bs.map (Value.int .u8))) := fun wr h => hr0.below (h.mono hC)
  generalize hnr : w1.heap.size + 1 = nr at RS ⊢
  clear ho1 hB1 k0 hb1 hr0 hg1 s1
  generalize w1.heap.size = nv at RS hnr ⊢
  clear hnr
  go_loopw [6] (fun ti wr => ∃ (i p : Nat) (bad : Bool) (X : List Int), ti = .int .i64 (i : Int) ∧ i ≤ 16 ∧ p ≤ bs.length ∧ X.length = 16 ∧ Rs w nr nv g (.slice ao bs.length cap) X p bad wr ∧ Hid (bad = true → rdN bs 16 0 = none) ∧ Hid (bad = false → ∃ acc, acc.length = i ∧ X = pad acc ∧ rdN bs 16 0 = addV acc (rdN bs (16 - i) p))) (fun ti _ => 16 - (intOf ti).toNat)
  case atStart => exact ⟨0, 0, false, pad [], rfl, by omega, Nat.zero_le _, pad_len (by simp), RS, (fun h => by cases h), fun _ => ⟨[], rfl, rfl, (addV_nil _).symm⟩⟩
  case round =>
    clear RS
    obtain ⟨i, p, bad, X, rfl, hi, hp, hX, RS, HB, HG⟩ := hrel
    have r1 := RS.rdr.c1
    have r2 := RS.rdr.c2
    cases bad with
    | true =>
      have HV : Hid (readV bs = none) := by unfold Hid readV; rw [HB.out rfl]
      have HC : Hid (readC bs = 3 ∧ readB bs = []) := by unfold Hid readC readB; rw [HV.out]; exact ⟨rfl, rfl⟩
      have hcs : (¬ (i : Int) < 16) ∨ ((i : Int) < 16 ∧ ¬ (p : Int) < (bs.length : Int)) ∨ ((i : Int) < 16 ∧ (p : Int) < (bs.length : Int)) := by omega
      rcases hcs with h1 | ⟨h1, h2⟩ | ⟨h1, h2⟩
      all_goals
        go_wp2_with fail
        go_quiet (fail)
        replace RS := RS.drewN nq
        obtain ⟨z0, z1, z2, z3, z4, _⟩ := RS.fin (.slice none 0 0)
        generalize wr.drewN nq = wq at *
        go_wp2_with fail
        refine bodyPost_ret (v := .tuple #[.agg #[.slice none 0 0], .int .i64 3]) ?_ rfl ⟨_, _, _, 3, by rw [HC.out.1], by rw [HC.out.2]; exact World.ownsRow_nil _ _ _ _, z4⟩
        simp [results, Try.results20, go_sem, z3]
    | false =>
      obtain ⟨acc, hacc, hXp, hrd⟩ := HG.out rfl
      have HR : Hid _ := hrd
      have HXP : Hid _ := hXp
      have HAC : Hid _ := hacc
      have hv := rv_cell RS.var 0 rfl
      clear HG HB hrd hXp hacc
      by_cases hin : i < 16 ∧ p < bs.length
      · have h1 : (i : Int) < 16 := by omega
        have h2 : (p : Int) < (bs.length : Int) := by omega
        have i0 : (0 : Int) ≤ (i : Int) := by omega
        have hne : nv ≠ g := by have := RS.lg; omega
        have hS : wr.drew.cell? ⟨nv, 0, none⟩ = some (.slice (some ⟨g, 0, none⟩) 16 16) := hv
        have hnr : nv ≠ nr := by have := RS.ln; omega
        replace RS := RS.drew
        have hnum := num_any C nr p false wr.drew _ bs hx hl hp (HRD.out _ RS.bel) RS.rdr
        go_wp2_with fail
        go_region_held3 (fun w' => w'.cell? ⟨nv, 0, none⟩ = some (.slice (some ⟨g, 0, none⟩) 16 16)) (first | exact hS | exact (World.cell?_setCells_out g [_] i _ _ (fun e => absurd e hne)).trans hS) (first | (go_at_call 49; refine Calls.mono hnum ?_; rintro e w2 ⟨a, p', bad', rfl, hR2, hp', ha, hcs, hG2⟩; (replace hS := hG2.cell (a := ⟨nv, 0, none⟩) hS (fun e => hnr (by simpa using e))); (replace RS := RS.num hR2 hG2); (have c1 := own_cell RS.own (k := i) (by rw [List.length_map, hX]; exact hin.1)); (have f1 := own_free RS.own i)))
        replace RS := RS.put i (a : Int)
        go_wp2_with fail
        go_roundw
        case rel =>
          refine ⟨i + 1, p', bad', X.set i (a : Int), by go_num, by omega, hp', by simp [hX], RS, ?_, ?_⟩
          · rintro rfl
            rcases hcs with ⟨_, _, h⟩ | ⟨_, _, h | h⟩
            · cases h
            · cases h
            · rw [HR.out, show 16 - i = (15 - i) + 1 by omega, rdN_none hin.2 h]
              rfl
          · rintro rfl
            rcases hcs with ⟨_, h, _⟩ | ⟨h, _⟩
            · refine ⟨acc ++ [(a : Int)], by simp [HAC.out], ?_, ?_⟩
              · rw [HXP.out, ← pad_set (by rw [HAC.out]; exact hin.1), HAC.out]
              · rw [HR.out, show 16 - i = (16 - (i + 1)) + 1 by omega, rdN_some hin.2 h]
            · cases h
        case measure => simp [intOf]; omega
      · have hcs : (¬ (i : Int) < 16) ∨ ((i : Int) < 16 ∧ ¬ (p : Int) < (bs.length : Int)) := by omega
        by_cases hpe : p = bs.length
        · have hfin : rdN bs 16 0 = some (acc, bs.length) := by rw [HR.out, rdN_end (by omega)]; simp [addV, hpe]
          have hqi : ((p : Int) != (bs.length : Int)) = false := by simp [hpe]
          have hag := again_iff hx hfin
          rw [← HXP.out] at hag
          have hVK := fun w' (h : Rs w nr nv g (.slice ao bs.length cap) X p false w') => specVecOK_any w'.heap.size w' _ X (Nat.le_refl _) h.own.rd
          have HRV : Hid (readV bs = if vecOK X = true ∧ toldN X 16 = acc.length then some X else none) := by
            unfold Hid readV
            rw [hfin, HXP.out]
            simp
          replace RS := RS.drew
          have r3 := RS.rdr.c1
          have r4 := RS.rdr.c2
          have c3 := rv_cell RS.var 0 rfl
          cases hok : vecOK X with
          | false =>
            have HC : Hid (readC bs = 3 ∧ readB bs = []) := by
              have h := HRV.out
              rw [if_neg (by rw [hok]; simp)] at h
              unfold Hid readC readB
              rw [h]
              exact ⟨rfl, rfl⟩
            rw [hok] at hVK
            clear hag hfin hok HRV
            rcases hcs with h1 | ⟨h1, h2⟩
            all_goals
              go_wp2_with fail
              refine wp_region_held_drew (S := (fun w' => w'.cell? ⟨nr, 1, none⟩ = some (.int .i64 (p : Int)) ∧ w'.cell? ⟨nr, 2, none⟩ = some (.bool false) ∧ w'.cell? ⟨nv, 0, none⟩ = some (.slice (some ⟨g, 0, none⟩) 16 16))) (by kernel_rfl) ⟨RS.rdr.c1, RS.rdr.c2, rv_cell RS.var 0 rfl⟩ (fun hHeld => ?_)
              refine wpAnyH_take (i := 0) (v := (.pointer (some ⟨nr, 0, none⟩))) rfl (by kernel_rfl) (by kernel_rfl) (by kernel_rfl) (fun _ _ _ h => h) (Or.inl ⟨by rfl, by intro w hSw; obtain ⟨s0, s1, s2⟩ := hSw; go_simp⟩) hHeld ?_
              simp only [List.getElem_toArray, List.getElem_cons_zero, Act.put, List.setIfInBounds_toArray, List.set_cons_zero, List.set_cons_succ]
              refine wpAnyH_take (i := 1) (v := (.pointer (some ⟨nr, 0, none⟩))) rfl (by kernel_rfl) (by kernel_rfl) (by kernel_rfl) (fun _ _ _ h => h) (Or.inl ⟨by rfl, by intro w hSw; obtain ⟨s0, s1, s2⟩ := hSw; go_simp⟩) hHeld ?_
              simp only [List.getElem_toArray, List.getElem_cons_succ, List.getElem_cons_zero, Act.put, List.setIfInBounds_toArray, List.set_cons_zero, List.set_cons_succ]
              refine wpAnyH_take (i := 2) (v := (.pointer (some ⟨nr, 2, none⟩))) rfl (by kernel_rfl) (by kernel_rfl) (by kernel_rfl) (fun _ _ _ h => h) (Or.inl ⟨by rfl, by intro w hSw; obtain ⟨s0, s1, s2⟩ := hSw; go_simp⟩) hHeld ?_
              simp only [List.getElem_toArray, List.getElem_cons_succ, List.getElem_cons_zero, Act.put, List.setIfInBounds_toArray, List.set_cons_zero, List.set_cons_succ]
              refine wpAnyH_take (i := 3) (v := (.bool false)) rfl (by kernel_rfl) (by kernel_rfl) (by kernel_rfl) (fun _ _ _ h => h) (Or.inl ⟨by rfl, by intro w hSw; obtain ⟨s0, s1, s2⟩ := hSw; go_simp⟩) hHeld ?_
              simp only [List.getElem_toArray, List.getElem_cons_succ, List.getElem_cons_zero, Act.put, List.setIfInBounds_toArray, List.set_cons_zero, List.set_cons_succ]
              refine wpAnyH_take (i := 4) (v := (.bool false)) rfl (by kernel_rfl) (by kernel_rfl) (by kernel_rfl) (fun _ _ _ h => h) (Or.inl ⟨by rfl, by intro w hSw; obtain ⟨s0, s1, s2⟩ := hSw; go_simp⟩) hHeld ?_
              simp only [List.getElem_toArray, List.getElem_cons_succ, List.getElem_cons_zero, Act.put, List.setIfInBounds_toArray, List.set_cons_zero, List.set_cons_succ]
              refine wpAnyH_take (i := 5) (v := (.pointer (some ⟨nr, 0, none⟩))) rfl (by kernel_rfl) (by kernel_rfl) (by kernel_rfl) (fun _ _ _ h => h) (Or.inl ⟨by rfl, by intro w hSw; obtain ⟨s0, s1, s2⟩ := hSw; go_simp⟩) hHeld ?_
              simp only [List.getElem_toArray, List.getElem_cons_succ, List.getElem_cons_zero, Act.put, List.setIfInBounds_toArray, List.set_cons_zero, List.set_cons_succ]
              refine wpAnyH_take (i := 6) (v := (.pointer (some ⟨nr, 0, none⟩))) rfl (by kernel_rfl) (by kernel_rfl) (by kernel_rfl) (fun _ _ _ h => h) (Or.inl ⟨by rfl, by intro w hSw; obtain ⟨s0, s1, s2⟩ := hSw; go_simp⟩) hHeld ?_
              simp only [List.getElem_toArray, List.getElem_cons_succ, List.getElem_cons_zero, Act.put, List.setIfInBounds_toArray, List.set_cons_zero, List.set_cons_succ]
              refine wpAnyH_take (i := 7) (v := (.pointer (some ⟨nr, 1, none⟩))) rfl (by kernel_rfl) (by kernel_rfl) (by kernel_rfl) (fun _ _ _ h => h) (Or.inl ⟨by rfl, by intro w hSw; obtain ⟨s0, s1, s2⟩ := hSw; go_simp⟩) hHeld ?_
              simp only [List.getElem_toArray, List.getElem_cons_succ, List.getElem_cons_zero, Act.put, List.setIfInBounds_toArray, List.set_cons_zero, List.set_cons_succ]
              refine wpAnyH_take (i := 8) (v := (.int .i64 (p : Int))) rfl (by kernel_rfl) (by kernel_rfl) (by kernel_rfl) (fun _ _ _ h => h) (Or.inl ⟨by rfl, by intro w hSw; obtain ⟨s0, s1, s2⟩ := hSw; go_simp⟩) hHeld ?_
              simp only [List.getElem_toArray, List.getElem_cons_succ, List.getElem_cons_zero, Act.put, List.setIfInBounds_toArray, List.set_cons_zero, List.set_cons_succ]
              refine wpAnyH_take (i := 9) (v := (.slice ao bs.length cap)) rfl (by kernel_rfl) (by kernel_rfl) (by kernel_rfl) (fun _ _ _ h => h) (Or.inl ⟨by rfl, by intro w hSw; obtain ⟨s0, s1, s2⟩ := hSw; go_simp⟩) hHeld ?_
              simp only [List.getElem_toArray, List.getElem_cons_succ, List.getElem_cons_zero, Act.put, List.setIfInBounds_toArray, List.set_cons_zero, List.set_cons_succ]
              refine wpAnyH_take (i := 10) (v := (.int .i64 (bs.length : Int))) rfl (by kernel_rfl) (by kernel_rfl) (by kernel_rfl) (fun _ _ _ h => h) (Or.inl ⟨by rfl, by intro w hSw; obtain ⟨s0, s1, s2⟩ := hSw; go_simp⟩) hHeld ?_
              simp only [List.getElem_toArray, List.getElem_cons_succ, List.getElem_cons_zero, Act.put, List.setIfInBounds_toArray, List.set_cons_zero, List.set_cons_succ]
              refine wpAnyH_take (i := 11) (v := (.bool false)) rfl (by kernel_rfl) (by kernel_rfl) (by kernel_rfl) (fun _ _ _ h => h) (Or.inl ⟨by rfl, by intro w hSw; obtain ⟨s0, s1, s2⟩ := hSw; go_simp⟩) hHeld ?_
              simp only [List.getElem_toArray, List.getElem_cons_succ, List.getElem_cons_zero, Act.put, List.setIfInBounds_toArray, List.set_cons_zero, List.set_cons_succ]
              refine wpAnyH_take (i := 12) (v := (.bool false)) rfl (by kernel_rfl) (by kernel_rfl) (by kernel_rfl) (fun _ _ _ h => h) (Or.inl ⟨by rfl, by intro w hSw; obtain ⟨s0, s1, s2⟩ := hSw; go_simp⟩) hHeld ?_
              simp only [List.getElem_toArray, List.getElem_cons_succ, List.getElem_cons_zero, Act.put, List.setIfInBounds_toArray, List.set_cons_zero, List.set_cons_succ]
              refine wpAnyH_take (i := 13) (v := (.bool false)) rfl (by kernel_rfl) (by kernel_rfl) (by kernel_rfl) (fun _ _ _ h => h) (Or.inl ⟨by rfl, by intro w hSw; obtain ⟨s0, s1, s2⟩ := hSw; go_simp⟩) hHeld ?_
              simp only [List.getElem_toArray, List.getElem_cons_succ, List.getElem_cons_zero, Act.put, List.setIfInBounds_toArray, List.set_cons_zero, List.set_cons_succ]
              refine wpAnyH_take (i := 14) (v := (.agg #[.slice (some ⟨g, 0, none⟩) 16 16])) rfl (by kernel_rfl) (by kernel_rfl) (by kernel_rfl) (fun _ _ _ h => h) (Or.inl ⟨by rfl, by intro w hSw; obtain ⟨s0, s1, s2⟩ := hSw; go_simp⟩) hHeld ?_
              simp only [List.getElem_toArray, List.getElem_cons_succ, List.getElem_cons_zero, Act.put, List.setIfInBounds_toArray, List.set_cons_zero, List.set_cons_succ]
              refine wpAnyH_ready (rs := [15]) (by kernel_rfl) (by simp) ?_
              refine AllReadyH.cons rfl (fun K hK => ?_) AllReadyH.nil
              go_simp
              refine (hVK _ RS).mono ?_
              rintro e w2 ⟨rfl, hb2⟩
              replace RS := RS.below hb2
              go_wp2_with fail
              refine hK.out _ _ ⟨RS.rdr.c1, RS.rdr.c2, rv_cell RS.var 0 rfl⟩ (fun hHeld => ?_)
              clear hK K
              refine wpAnyH_take (i := 16) (v := (.bool true)) rfl (by kernel_rfl) (by kernel_rfl) (by kernel_rfl) (fun _ _ _ h => h) (Or.inl ⟨by rfl, by intro w hSw; obtain ⟨s0, s1, s2⟩ := hSw; go_simp⟩) hHeld ?_
              simp only [List.getElem_toArray, List.getElem_cons_succ, List.getElem_cons_zero, Act.put, List.setIfInBounds_toArray, List.set_cons_zero, List.set_cons_succ]
              refine wpAnyH_take (i := 17) (v := (.bool true)) rfl (by kernel_rfl) (by kernel_rfl) (by kernel_rfl) (fun _ _ _ h => h) (Or.inl ⟨by rfl, by intro w hSw; obtain ⟨s0, s1, s2⟩ := hSw; go_simp⟩) hHeld ?_
              simp only [List.getElem_toArray, List.getElem_cons_succ, List.getElem_cons_zero, Act.put, List.setIfInBounds_toArray, List.set_cons_zero, List.set_cons_succ]
              refine wpAnyH_take (i := 18) (v := (.bool true)) rfl (by kernel_rfl) (by kernel_rfl) (by kernel_rfl) (fun _ _ _ h => h) (Or.inl ⟨by rfl, by intro w hSw; obtain ⟨s0, s1, s2⟩ := hSw; go_simp⟩) hHeld ?_
              simp only [List.getElem_toArray, List.getElem_cons_succ, List.getElem_cons_zero, Act.put, List.setIfInBounds_toArray, List.set_cons_zero, List.set_cons_succ]
              refine wpAnyH_take (i := 19) (v := undef) rfl (by kernel_rfl) (by kernel_rfl) (by kernel_rfl) (fun _ _ _ h => h) (Or.inr ⟨by rfl, rfl⟩) hHeld ?_
              simp only [List.getElem_toArray, List.getElem_cons_succ, List.getElem_cons_zero, Act.put, List.setIfInBounds_toArray, List.set_cons_zero, List.set_cons_succ]
              refine wpAnyH_take (i := 22) (v := undef) rfl (by kernel_rfl) (by kernel_rfl) (by kernel_rfl) (fun _ _ _ h => h) (Or.inr ⟨by rfl, rfl⟩) hHeld ?_
              simp only [List.getElem_toArray, List.getElem_cons_succ, List.getElem_cons_zero, Act.put, List.setIfInBounds_toArray, List.set_cons_zero, List.set_cons_succ]
              refine wpAnyH_take (i := 23) (v := undef) rfl (by kernel_rfl) (by kernel_rfl) (by kernel_rfl) (fun _ _ _ h => h) (Or.inr ⟨by rfl, rfl⟩) hHeld ?_
              simp only [List.getElem_toArray, List.getElem_cons_succ, List.getElem_cons_zero, Act.put, List.setIfInBounds_toArray, List.set_cons_zero, List.set_cons_succ]
              refine wpAnyH_ready (rs := [20]) (by kernel_rfl) (by simp) ?_
              refine AllReadyH.cons rfl (fun K hK => ?_) AllReadyH.nil
              go_simp
              refine hK.out _ _ ⟨RS.rdr.c1, RS.rdr.c2, rv_cell RS.var 0 rfl⟩ (fun hHeld => ?_)
              clear hK K
              refine wpAnyH_take (i := 21) (v := undef) rfl (by kernel_rfl) (by kernel_rfl) (by kernel_rfl) (fun _ _ _ h => h) (Or.inr ⟨by rfl, rfl⟩) hHeld ?_
              simp only [List.getElem_toArray, List.getElem_cons_succ, List.getElem_cons_zero, Act.put, List.setIfInBounds_toArray, List.set_cons_zero, List.set_cons_succ]
              refine wpAnyH_take (i := 24) (v := undef) rfl (by kernel_rfl) (by kernel_rfl) (by kernel_rfl) (fun _ _ _ h => h) (Or.inr ⟨by rfl, rfl⟩) hHeld ?_
              simp only [List.getElem_toArray, List.getElem_cons_succ, List.getElem_cons_zero, Act.put, List.setIfInBounds_toArray, List.set_cons_zero, List.set_cons_succ]
              refine wpAnyH_take (i := 25) (v := (.bool true)) rfl (by kernel_rfl) (by kernel_rfl) (by kernel_rfl) (fun _ _ _ h => h) (Or.inl ⟨by rfl, by intro w hSw; obtain ⟨s0, s1, s2⟩ := hSw; go_simp⟩) hHeld ?_
              simp only [List.getElem_toArray, List.getElem_cons_succ, List.getElem_cons_zero, Act.put, List.setIfInBounds_toArray, List.set_cons_zero, List.set_cons_succ]
              refine wpAnyH_done (by kernel_rfl) ?_ _
              obtain ⟨z0, z1, z2, z3, z4, z5⟩ := RS.fin (.slice none 0 0)
              go_wp2_with fail
              refine bodyPost_ret (v := .tuple #[.agg #[.slice none 0 0], .int .i64 3]) ?_ rfl ⟨_, _, _, 3, by rw [HC.out.1], by rw [HC.out.2]; exact World.ownsRow_nil _ _ _ _, z4⟩
              simp [results, Try.results20, go_sem, z3]
          | true =>
            rw [hok] at hVK
            have hLB := fun w' (h : Rs w nr nv g (.slice ao bs.length cap) X p false w') => l02Bytes_any w'.heap.size w' _ X hok (Nat.le_refl _) h.own.rd
            by_cases heq : bytesTo X (toldN X 16) = bs
            · have HC : Hid (readC bs = 0 ∧ readB bs = X) := by
                have h := HRV.out
                rw [if_pos ⟨hok, hag.1 heq⟩] at h
                unfold Hid readC readB
                rw [h]
                exact ⟨rfl, rfl⟩
              have hcmp : ((ofInts (bytesTo X (toldN X 16))).toList == (ofInts bs).toList) = true := by rw [heq]; exact beq_self_eq_true _
              generalize bytesTo X (toldN X 16) = ys at hLB hcmp
              clear hag heq hfin hok HRV
              rcases hcs with h1 | ⟨h1, h2⟩
              all_goals
                go_wp2_with fail
                go_region_held (fun w' => w'.cell? ⟨nr, 1, none⟩ = some (.int .i64 (p : Int)) ∧ w'.cell? ⟨nr, 2, none⟩ = some (.bool false) ∧ w'.cell? ⟨nv, 0, none⟩ = some (.slice (some ⟨g, 0, none⟩) 16 16)) (exact ⟨RS.rdr.c1, RS.rdr.c2, rv_cell RS.var 0 rfl⟩) (first | (go_at_call 38; refine Calls.mono (hVK _ RS) ?_; rintro e w2 ⟨rfl, hb2⟩; (replace RS := RS.below hb2); (have c4 := rv_cell RS.var 0 rfl); (have hst2 := run_string_of (HRD.out _ RS.bel))) | (go_at_call 50; refine Calls.mono (hLB _ RS) ?_; rintro e w3 ⟨r3, rfl, ho3, hb3⟩; (replace RS := RS.below hb3); (have hst := run_string_of ho3.rd); (have hst3 := run_string_of (HRD.out _ RS.bel))))
                all_goals
                  obtain ⟨z0, z1, z2, z3, z4, z5⟩ := RS.fin (.slice (some ⟨g, 0, none⟩) 16 16)
                  clear hst hst2 hst3 ho3
                  go_wp2_with fail
                  refine bodyPost_ret (v := .tuple #[.agg #[.slice (some ⟨g, 0, none⟩) 16 16], .int .i64 0]) ?_ rfl ⟨_, _, _, 3, by rw [HC.out.1], by rw [HC.out.2]; exact z5, z4⟩
                  simp [results, Try.results20, go_sem, z3]
            · have HC : Hid (readC bs = 3 ∧ readB bs = []) := by
                have h := HRV.out
                rw [if_neg (fun h => heq (hag.2 h.2))] at h
                unfold Hid readC readB
                rw [h]
                exact ⟨rfl, rfl⟩
              have hcmp : ((ofInts (bytesTo X (toldN X 16))).toList == (ofInts bs).toList) = false := by
                rw [beq_eq_false_iff_ne]
                exact fun h => heq (ofInts_inj (bytesTo_bytes X _) hx (rv_inj h))
              generalize bytesTo X (toldN X 16) = ys at hLB hcmp
              clear hag heq hfin hok HRV
              rcases hcs with h1 | ⟨h1, h2⟩
              all_goals
                go_wp2_with fail
                go_region_held (fun w' => w'.cell? ⟨nr, 1, none⟩ = some (.int .i64 (p : Int)) ∧ w'.cell? ⟨nr, 2, none⟩ = some (.bool false) ∧ w'.cell? ⟨nv, 0, none⟩ = some (.slice (some ⟨g, 0, none⟩) 16 16)) (exact ⟨RS.rdr.c1, RS.rdr.c2, rv_cell RS.var 0 rfl⟩) (first | (go_at_call 38; refine Calls.mono (hVK _ RS) ?_; rintro e w2 ⟨rfl, hb2⟩; (replace RS := RS.below hb2); (have c4 := rv_cell RS.var 0 rfl); (have hst2 := run_string_of (HRD.out _ RS.bel))) | (go_at_call 50; refine Calls.mono (hLB _ RS) ?_; rintro e w3 ⟨r3, rfl, ho3, hb3⟩; (replace RS := RS.below hb3); (have hst := run_string_of ho3.rd); (have hst3 := run_string_of (HRD.out _ RS.bel))))
                all_goals
                  obtain ⟨z0, z1, z2, z3, z4, z5⟩ := RS.fin (.slice none 0 0)
                  clear hst hst2 hst3 ho3
                  go_wp2_with fail
                  refine bodyPost_ret (v := .tuple #[.agg #[.slice none 0 0], .int .i64 3]) ?_ rfl ⟨_, _, _, 3, by rw [HC.out.1], by rw [HC.out.2]; exact World.ownsRow_nil _ _ _ _, z4⟩
                  simp [results, Try.results20, go_sem, z3]
        · have hi16 : i = 16 := by omega
          have HV : Hid (readV bs = none) := by
            have h := HR.out
            rw [hi16] at h
            exact readV_full h (by omega)
          have HC : Hid (readC bs = 3 ∧ readB bs = []) := by unfold Hid readC readB; rw [HV.out]; exact ⟨rfl, rfl⟩
          have hqi : ((p : Int) != (bs.length : Int)) = true := by simp; omega
          have h1 : ¬ (i : Int) < 16 := by omega
          clear hin hcs hpe
          go_wp2_with fail
          go_quiet (fail)
          replace RS := RS.drewN nq
          obtain ⟨z0, z1, z2, z3, z4, _⟩ := RS.fin (.slice none 0 0)
          generalize wr.drewN nq = wq at *
          go_wp2_with fail
          refine bodyPost_ret (v := .tuple #[.agg #[.slice none 0 0], .int .i64 3]) ?_ rfl ⟨_, _, _, 3, by rw [HC.out.1], by rw [HC.out.2]; exact World.ownsRow_nil _ _ _ _, z4⟩
          simp [results, Try.results20, go_sem, z3]

end Go.Proofs.Ytpiadcjkbbgggaa
