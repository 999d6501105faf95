/- What parts does: a map's counts and its entries by rising stamps, in new memory; over whatever contract slices.SortFunc has. -/
import Derived.Maps.OwnSet
import Derived.OwnWalk
import Derived.Test.YtfnlnigeaioocaaGreatQTakeKit
import Derived.Test.YtfnlnigeaioocaaGreatQSeqAppToSortedKeys
import Derived.Test.YtfnlnigeaioocaaGreatQJoinedBaseToEntRows
import Derived.Test.YtfnlnigeaioocaaGreatQVecArrToVecJoinSpec
import Derived.Test.YtfnlnigeaioocaaGreatQJoinedOf
namespace Go.Proofs.YtfnlnigeaioocaaGreat
open Go.RowKit
set_option linter.unusedVariables false

theorem perm_lift : ∀ (ss : List Sp) (ls : List En), ss.Perm (ls.map stE) → ∃ es : List En, es.Perm ls ∧ es.map stE = ss := by
  intro ss
  induction ss with
  | nil =>
    intro ls h
    have : ls.map stE = [] := h.symm.eq_nil
    rw [List.map_eq_nil_iff] at this
    subst this
    exact ⟨[], List.Perm.refl _, rfl⟩
  | cons x ss ih =>
    intro ls h
    obtain ⟨e, he, hx⟩ := List.mem_map.1 (h.subset (List.mem_cons_self))
    obtain ⟨A, B, rfl⟩ := List.append_of_mem he
    have h2 : (x :: ss).Perm (x :: (A ++ B).map stE) := by
      refine h.trans ?_
      rw [List.map_append, List.map_cons, hx, List.map_append]
      exact List.perm_middle
    obtain ⟨es, hp, hm⟩ := ih (A ++ B) h2.cons_inv
    exact ⟨e :: es, (hp.cons e).trans List.perm_middle.symm, by rw [List.map_cons, hx, hm]⟩
/-- Rows of unlike types lie in unlike blocks. -/
theorem row_ne {w : World} {B1 B2 n1 n2 s1 s2 : Nat} {e1 e2 : TypeId} {v1 v2 : Value} {c1 c2 : List Value} (h1 : w.ownsRow B1 e1 s1 v1 n1 c1) (h2 : w.ownsRow B2 e2 s2 v2 n2 c2) (he : e1 ≠ e2) : v2.ownBlock = none ∨ v2.ownBlock ≠ v1.ownBlock := by
  rcases h1.2 with ⟨rfl, _⟩ | ⟨g1, cap1, cur1, rfl, _, hb1, _⟩
  · rcases h2.2 with ⟨rfl, _⟩ | ⟨g2, cap2, cur2, rfl, _, hb2, _⟩
    · exact .inl rfl
    · exact .inr (by simp [Value.ownBlock])
  · rcases h2.2 with ⟨rfl, _⟩ | ⟨g2, cap2, cur2, rfl, _, hb2, _⟩
    · exact .inl rfl
    · refine .inr fun e => ?_
      have : g2 = g1 := by simpa [Value.ownBlock] using e
      subst this
      rw [hb1] at hb2
      cases hb2
      exact he rfl
theorem OwnE.on {w w' : World} {B : Nat} {v : Value} {ls : List En} (h : OwnE w B v ls) (hb : Below w.heap.size w w') : OwnE w' B v ls := by
  obtain ⟨h1, h2⟩ := h
  refine ⟨h1, ?_⟩
  rcases h2 with h2 | ⟨g, cap, cur, hv, hg, hh, r⟩
  · exact .inl h2
  · exact .inr ⟨g, cap, cur, hv, hg, (hb.block g (Array.getElem?_eq_some_iff.1 hh).1).trans hh, r⟩
theorem OwnE.aside {w : World} {B : Nat} {v : Value} {ls : List En} (h : OwnE w B v ls) (p : Nat) (hp : p < B) (k : Nat) (u : Value) : OwnE (w.setCell ⟨p, k, none⟩ u) B v ls := by
  obtain ⟨h1, h2⟩ := h
  refine ⟨h1, ?_⟩
  rcases h2 with h2 | ⟨g, cap, cur, hv, hg, hh, r⟩
  · exact .inl h2
  · exact .inr ⟨g, cap, cur, hv, hg, (heap_setCell_other w ⟨p, k, none⟩ g u (by show g ≠ p; omega)).trans hh, r⟩
theorem Mp.len {P : Program} {k t e : TypeId} {w : World} {b : Nat} {L : List (Value × Value)} (h : Mp P k w b L) (ht : P.underlying t = some (.map k e)) (ty : TypeId) : (Builtin.len_ #[t] ty #[.map (some b)]).run P w = .ok (.int .i64 (L.length : Int)) w := by
  obtain ⟨es, clock, hb, hs, rfl, hK⟩ := h
  simp [Builtin.len_, run_underlying ht, MapKept.run_getObj_map hb, Result.andThen, goInt]
theorem wpList_len_mp {P : Program} {ops : Array Oper} {rest : List Oper} {o : Oper} {a : Act} {w : World} {Q : Exit → Act → World → Prop} (hg : o.guard = none) (m : Operand) (t : TypeId) (hop : o.op = Op.call { callee := Callee.builtin Builtin.len, args := #[m], argTypes := #[t] })
    (k e : TypeId) (ht : P.underlying t = some (.map k e)) (b : Nat) (L : List (Value × Value)) (hm : a.eval m = .map (some b)) (hM : Mp P k w b L)
    (hK : wpList P ops Q rest (a.put o.dst (.int .i64 (L.length : Int))) w) : wpList P ops Q (o :: rest) a w := by
  refine wpList_plain hg fun K' hK' => ?_
  unfold Oper.wp
  simp [execOp, hop, resolve, invoke, builtin, hm, hM.len ht o.type, Result.andThen]
  exact hK' _ _ hK
theorem step_of_wp {P : Program} {w : World} {ops : Array Oper} {o : Oper} {a : Act} {K : Act → World → Prop} {Q : Exit → Act → World → Prop} {E : Prop} (hgd : o.guard = none) (h : Oper.wp P o a w K Q) : if Region.wanted o (yielded ops a.tmps) = true then Oper.wp P o a w K Q else E := by
  have hw : Region.wanted o (yielded ops a.tmps) = true := by simp [Region.wanted, hgd]
  rw [if_pos hw]
  exact h
/-- Entries by rising stamps. -/
def upE (a b : En) : Prop := lessS a.1 a.2.1 b.1 b.2.1 = true
theorem up_of {es ls : List En} (hp : es.Perm ls) (hA : (ls.map kvE).Pairwise (fun p q => p.1 ≠ q.1)) (hs : (es.map stE).Pairwise leS) : es.Pairwise upE := by
  have h1 : ls.Pairwise (fun a b => stE a ≠ stE b) := by
    refine (List.pairwise_map.1 hA).imp fun h e => h ?_
    simp only [stE, Prod.mk.injEq] at e
    simp [kvE, e.1, e.2]
  have h2 : es.Pairwise (fun a b => stE a ≠ stE b) := (hp.pairwise_iff (fun h e => h e.symm)).2 h1
  have h3 := List.pairwise_map.1 hs
  refine (List.pairwise_and_iff.2 ⟨h2, h3⟩).imp fun {a b} h => ?_
  obtain ⟨hn, hl⟩ := h
  unfold leS stE at hl
  unfold stE at hn
  unfold upE
  rw [lessS_iff]
  have hl' : ¬ lessS b.1 b.2.1 a.1 a.2.1 = true := by simpa using hl
  rw [lessS_iff] at hl'
  have : ¬ (a.1 = b.1 ∧ a.2.1 = b.2.1) := fun e => hn (by rw [e.1, e.2])
  omega
/-- What parts answers. -/
def PaAns (w : World) (X : List Int) (ls : List En) (e : Ending) (w' : World) : Prop :=
  (ls.length ≤ 256 ∧ ∃ a r es, e = .returned (.tuple #[.agg #[.slice a 16 16], r, .int .i64 0]) ∧ es.Perm ls ∧ es.Pairwise upE ∧ Own 45 w' w.heap.size (.slice a 16 16) (X.map (Value.int .i64)) ∧ OwnE w' w.heap.size r es ∧ r ≠ .slice none 0 0 ∧ Below w.heap.size w w') ∨
  (¬ ls.length ≤ 256 ∧ e = .returned (.tuple #[.agg #[.slice none 0 0], .slice none 0 0, .int .i64 11]) ∧ Below w.heap.size w w')

set_option maxHeartbeats 4000000 in
set_option maxRecDepth 100000 in
theorem parts_any (N : Nat) (hSort : SortsTo N) (hN : N ≤ 1048576) (w : World) (n b : Nat) (X : List Int) (ls : List En) (hJ : Jm w n X b) (hX : X.length = 16) (hM : Mp Tryz.prog 56 w b (ls.map kvE)) (hl : ls.length = N ∨ ¬ ls.length ≤ 256) :
    Calls Tryz.prog 35 #[.pointer (some ⟨n, 0, none⟩)] w (PaAns w X ls) := by
  obtain ⟨i0, hi, hz0, hz1, hz2⟩ := info_parts infoEnt
  have hB0 := below_alloc w (.cells #[.slice none 0 0] 25)
  have hM0 := hM.on hB0
  have hJ0 := hJ.on hB0
  have m0 := hJ0.map hX
  by_cases h256 : ls.length ≤ 256
  · have i1 : ¬ (256 : Int) < (ls.length : Int) := by omega
    have hlN : ls.length = N := hl.resolve_right (fun h => h h256)
    subst hlN
    go_enter Tryz.func35, Tryz.ntmps35
    go_wp2_with (first
      | (at_len; refine wpList_len_mp rfl _ 46 rfl 56 60 Tryz.underlying46 b _ rfl hM0 ?_; rw [List.length_map])
      | (at_make; refine wpList_make_own _ rfl _ _ 26 rfl (w.heap.size + 1) 60 i0 (.agg #[.int .i64 0, .int .i64 0, .string ByteArray.empty]) 3 Tryz.underlying26 hi hz0 hz1 _ _ _ ls.length rfl rfl rfl (by rw [hz2]; omega) (by unfold maxLen; omega) (by simp) ?_))
    intro w4 ho4 hg4
    have hB4 : Below w.heap.size w w4 := below_grownE hB0 (Nat.le_refl _) hg4 (fun k hk => by cases hk)
    have hM4 := hM.on hB4
    have hJ4 := hJ.on hB4
    have m4 := hJ4.map hX
    have r4 : w4.cell? ⟨w.heap.size, 0, none⟩ = some (.slice none 0 0) ∧ w4.frozen? ⟨w.heap.size, 0, none⟩ = false := by
      have hb : w4.heap[w.heap.size]? = some (.cells #[.slice none 0 0] 25 (0, 0)) := (hg4.block w.heap.size (by simp) (by simp)).trans (heap_alloc_new w _)
      exact ⟨by simp [World.cell?, hb], by simp [World.frozen?, hb]⟩
    have hE4 : OwnE w4 (w.heap.size + 1) (.slice (some ⟨w.heap.size + 1, 0, none⟩) 0 ls.length) [] := ho4
    have hseq := keys_stops Fence.wide 2 trivial rfl (by omega) w4.heap.size b ls (w4.alloc (.cells #[.map (some b)] 46)) (by simp) (by simp) (hM4.alloc _)
    have hSF := callsIn_wide.1 (sortedFunc_in ls.length hSort 5 (by omega) _ _ (enters_of Tryz.func78 (by kernel_rfl) rfl) _ hN _ hseq)
    unfold ordV at hSF
    clear m0 hM0 hJ0 ho4 hseq
    go_wp2_with (first
      | (go_at_call 52; refine (callsIn_wide.1 (mapsKeys_in Fence.wide 5 trivial rfl _ _)).mono ?_; rintro e w5 ⟨rfl, rfl⟩)
      | (go_at_call 51; refine hSF.mono ?_; rintro e w6 ⟨v, ss, ss0, rfl, hp0, hp1, hsorted, hrow, hb6⟩; obtain ⟨es, hpe, rfl⟩ := perm_lift ss ls (hp1.trans hp0); obtain ⟨so, sc, rfl, hso⟩ := hrow.shape))
    have hB6 : Below w.heap.size w w6 := below_seq (below_then hB4 _) hb6
    have hE6 : OwnE w6 (w.heap.size + 1) (.slice (some ⟨w.heap.size + 1, 0, none⟩) 0 ls.length) [] := hE4.on (below_seq (below_alloc _ _) hb6)
    have r6 : w6.cell? ⟨w.heap.size, 0, none⟩ = some (.slice none 0 0) ∧ w6.frozen? ⟨w.heap.size, 0, none⟩ = false := by
      have hb := below_seq (below_alloc w4 (.cells #[.map (some b)] 46)) hb6
      have hlt : w.heap.size < w4.heap.size := cell_lt r4.1
      exact ⟨(hb.cell (p := ⟨w.heap.size, 0, none⟩) hlt).trans r4.1, (hb.frozen (p := ⟨w.heap.size, 0, none⟩) hlt).trans r4.2⟩
    have hlen : es.length = ls.length := hpe.length_eq
    have hlm : (es.map stE).length = es.length := List.length_map ..
    rw [hlm] at hrow hso
    replace hrow := hrow.mono (B' := w.heap.size) (by have := hB4.size; simp; omega)
    have HSo : Hid _ := hsorted
    clear hSF hsorted hp0 hp1 hb6 hB4 hE4 hM4 hJ4 m4 hSort
    go_loopw [5, 30] (fun tl tk wr => ∃ k : Nat, k ≤ es.length ∧ tk = .int .i64 (k : Int) ∧ OwnE wr (w.heap.size + 1) tl (es.take k) ∧ tl ≠ .slice none 0 0 ∧ OwnS wr w.heap.size (.slice so es.length sc) (es.map stE) ∧ (wr.cell? ⟨w.heap.size, 0, none⟩ = some (.slice none 0 0) ∧ wr.frozen? ⟨w.heap.size, 0, none⟩ = false) ∧ Below w.heap.size w wr) (fun _ tk _ => es.length - (intOf tk).toNat)
    case atStart => exact ⟨0, Nat.zero_le _, rfl, hE6, by simp, hrow, r6, hB6⟩
    case round =>
      clear hE6 hrow r6 hB6
      obtain ⟨k, hk, rfl, ho, hv5, hrow, hr, hB⟩ := hrel
      have HV5 : Hid _ := hv5
      clear hv5
      by_cases hlt : k < es.length
      · obtain ⟨g, rfl⟩ := hso (by omega)
        have hq := hrow.cells (k := k) hlm.symm (by omega)
        obtain ⟨t, a, x, hee⟩ : ∃ t a x, enAt es k = (t, a, x) := ⟨_, _, _, rfl⟩
        have hek : es[k] = (t, a, x) := by rw [← hee]; simp [enAt, hlt]
        have hmem : ((.agg #[.int .i64 t, .int .i64 a], .agg #[.int .i64 t, .int .i64 a, .string x]) : Value × Value) ∈ ls.map kvE := List.mem_map.2 ⟨(t, a, x), hpe.subset (by rw [← hek]; exact List.getElem_mem _), rfl⟩
        have htk : es.take (k + 1) = es.take k ++ [(t, a, x)] := by rw [List.take_succ_eq_append_getElem hlt, hek]
        have HTK : Hid _ := htk
        obtain ⟨q0, q1⟩ := hq
        rw [List.getElem_map, hek] at q0 q1
        replace q0 : wr.cell? ⟨g, k * 2, none⟩ = some (.int .i64 t) := q0
        replace q1 : wr.cell? ⟨g, k * 2 + 1, none⟩ = some (.int .i64 a) := q1
        have j0 : (0 : Int) ≤ (k : Int) := by omega
        have j1 : (k : Int) < (es.length : Int) := by omega
        have j2 : (k : Int) + 1 < 9223372036854775808 := by omega
        have hlt5 := ho.lt
        have htl : (es.take k).length = k := by simp; omega
        have HLN : Hid (es.length ≤ 256) := by unfold Hid; omega
        have HTL : Hid _ := htl
        clear hee hek htk htl hlen hlm
        go_upto_region 7 with fail
        have hln := HLN.out
        have htl := HTL.out
        have hbw := hM.lt
        have hnw := hJ.lt
        have hsz := hB.size
        have hMr := (hM.on hB).alloc (.cells #[.int .i64 t, .int .i64 a] 56)
        have m0 := ((hJ.on hB).on (below_alloc wr (.cells #[.int .i64 t, .int .i64 a] 56))).map hX
        have c0 := cell_made (Below.refl (wr.alloc (.cells #[.int .i64 t, .int .i64 a] 56)).heap.size (wr.alloc (.cells #[.int .i64 t, .int .i64 a] 56))) (k := 0) rfl
        have c1 := cell_made (Below.refl (wr.alloc (.cells #[.int .i64 t, .int .i64 a] 56)).heap.size (wr.alloc (.cells #[.int .i64 t, .int .i64 a] 56))) (k := 1) rfl
        refine wp_region_held_drew (S := fun w' => w'.cell? ⟨n, 16, none⟩ = some (.map (some b)) ∧ w'.cell? ⟨wr.heap.size, 0, none⟩ = some (.int .i64 t) ∧ w'.cell? ⟨wr.heap.size, 1, none⟩ = some (.int .i64 a) ∧ Mp Tryz.prog 56 w' b (ls.map kvE)) (by kernel_rfl) ⟨m0, c0, c1, hMr⟩ (fun hHeld => ?_)
        refine tkH 0 (u5) rfl (Or.inl ⟨by rfl, by intro w hSw; obtain ⟨s0, s1, s2, s3⟩ := hSw; go_simp⟩) hHeld ?_
        simp only [tkS, Act.put]
        refine tkH 1 ((.pointer (some ⟨n, 0, none⟩))) rfl (Or.inl ⟨by rfl, by intro w hSw; obtain ⟨s0, s1, s2, s3⟩ := hSw; go_simp⟩) hHeld ?_
        simp only [tkS, Act.put]
        refine tkH 2 ((.pointer (some ⟨n, 0, none⟩))) rfl (Or.inl ⟨by rfl, by intro w hSw; obtain ⟨s0, s1, s2, s3⟩ := hSw; go_simp⟩) hHeld ?_
        simp only [tkS, Act.put]
        refine tkH 3 ((.pointer (some ⟨n, 16, none⟩))) rfl (Or.inl ⟨by rfl, by intro w hSw; obtain ⟨s0, s1, s2, s3⟩ := hSw; go_simp⟩) hHeld ?_
        simp only [tkS, Act.put]
        refine tkH 4 ((.map (some b))) rfl (Or.inl ⟨by rfl, by intro w hSw; obtain ⟨s0, s1, s2, s3⟩ := hSw; go_simp⟩) hHeld ?_
        simp only [tkS, Act.put]
        refine tkH 5 ((.agg #[.int .i64 t, .int .i64 a])) rfl (Or.inl ⟨by rfl, by intro w hSw; obtain ⟨s0, s1, s2, s3⟩ := hSw; go_simp⟩) hHeld ?_
        simp only [tkS, Act.put]
        refine tkH 6 ((.agg #[.int .i64 t, .int .i64 a, .string x])) rfl (Or.inl ⟨by rfl, by intro w hSw; obtain ⟨s0, s1, s2, s3⟩ := hSw; have hh := (s3.hit stKeyed Tryz.underlying46 hmem).2; go_simp⟩) hHeld ?_
        simp only [tkS, Act.put]
        refine wpAnyH_ready (rs := [7]) (by kernel_rfl) (by simp) ?_
        refine AllReadyH.cons rfl (fun K hK => ?_) AllReadyH.nil
        go_simp
        have hb1 := below_alloc (wr.alloc (.cells #[.int .i64 t, .int .i64 a] 56)).drew (.cells #[.int .i64 t, .int .i64 a, .string x] 60)
        have hS1 := And.intro (cell_on hb1 hHeld.1) (And.intro (cell_on hb1 hHeld.2.1) (And.intro (cell_on hb1 hHeld.2.2.1) (hHeld.2.2.2.on hb1)))
        refine hK.out _ _ hS1 (fun hHeld1 => ?_)
        clear hK K
        have ho1 : ((wr.alloc (.cells #[.int .i64 t, .int .i64 a] 56)).drew.alloc (.cells #[.int .i64 t, .int .i64 a, .string x] 60)).ownsRow (w.heap.size + 1) 60 3 u5 (es.take k).length (enCs (es.take k)) := World.ownsRow.alloc (World.ownsRow.alloc ho _ : (wr.alloc (.cells #[.int .i64 t, .int .i64 a] 56)).drew.ownsRow (w.heap.size + 1) 60 3 u5 (es.take k).length (enCs (es.take k))) _
        have h3n := three_new (wr.alloc (.cells #[.int .i64 t, .int .i64 a] 56)).drew (.int .i64 t) (.int .i64 a) (.string x) 60
        rw [show (wr.alloc (.cells #[.int .i64 t, .int .i64 a] 56)).drew.heap.size = wr.heap.size + 1 by show (wr.alloc _).heap.size = _; simp] at h3n
        refine wpAnyH_ready (rs := [8]) (by kernel_rfl) (by simp) ?_
        refine AllReadyH.cons rfl (fun K hK => ?_) AllReadyH.nil
        refine step_of_wp rfl (wp_append_own _ (.tmp 34) (.tmp 41) 26 rfl (w.heap.size + 1) 60 i0 (.agg #[.int .i64 0, .int .i64 0, .string ByteArray.empty]) 3 32 Tryz.underlying26 hi hz0 hz1 hz2 rfl (by decide) u5 (es.take k).length (enCs (es.take k)) rfl ho1 ⟨wr.heap.size + 1, 0, none⟩ 1 1 [.int .i64 t, .int .i64 a, .string x] rfl rfl h3n (by simp [Value.oneCell']) (by unfold maxLen; omega) (by omega) (by simp; omega) ?_)
        intro v7 w7 ho7 hg7 hv7
        have hrA := (hrow.alloc (.cells #[.int .i64 t, .int .i64 a] 56) : (wr.alloc (.cells #[.int .i64 t, .int .i64 a] 56)).drew.ownsRow w.heap.size 56 2 _ _ _)
        have hrB : ((wr.alloc (.cells #[.int .i64 t, .int .i64 a] 56)).alloc (.cells #[.int .i64 t, .int .i64 a, .string x] 60)).drew.ownsRow w.heap.size 56 2 _ _ _ := World.ownsRow.alloc hrA (.cells #[.int .i64 t, .int .i64 a, .string x] 60)
        have hr7 : OwnS w7 w.heap.size (.slice (some ⟨g, 0, none⟩) es.length sc) (es.map stE) := World.ownsRow.kept hrB hg7 (row_ne (show ((wr.alloc (.cells #[.int .i64 t, .int .i64 a] 56)).alloc (.cells #[.int .i64 t, .int .i64 a, .string x] 60)).drew.ownsRow (w.heap.size + 1) 60 3 u5 _ _ from ho1) hrB (by decide))
        have hB7 : Below w.heap.size w w7 := below_grownE (below_then (below_then hB (.cells #[.int .i64 t, .int .i64 a] 56)).drew (.cells #[.int .i64 t, .int .i64 a, .string x] 60)) (Nat.le_refl _) hg7 (fun i hi => by have := hlt5 i hi; omega)
        have hc7 : ∀ m j v, m < w.heap.size ∨ m = wr.heap.size → ((wr.alloc (.cells #[.int .i64 t, .int .i64 a] 56)).drew.alloc (.cells #[.int .i64 t, .int .i64 a, .string x] 60)).cell? ⟨m, j, none⟩ = some v → w7.cell? ⟨m, j, none⟩ = some v := fun m j v hm h => hg7.cell (a := ⟨m, j, none⟩) h (fun e => by have := hlt5 m e.symm; omega)
        have hS7 := And.intro (hc7 _ _ _ (.inl hnw) hS1.1) (And.intro (hc7 _ _ _ (.inr rfl) hS1.2.1) (And.intro (hc7 _ _ _ (.inr rfl) hS1.2.2.1) (hS1.2.2.2.kept hg7 (fun e => by have := hlt5 b e; omega))))
        have hres7 : w7.cell? ⟨w.heap.size, 0, none⟩ = some (.slice none 0 0) ∧ w7.frozen? ⟨w.heap.size, 0, none⟩ = false := by
          have hlw : w.heap.size < wr.heap.size := cell_lt hr.1
          have hbk : w7.heap[w.heap.size]? = wr.heap[w.heap.size]? := (hg7.block w.heap.size (by show _ < ((wr.alloc _).drew.alloc _).heap.size; simp; omega) (fun e => by have := hlt5 _ e.symm; omega)).trans (((below_alloc _ _).block w.heap.size (by show _ < (wr.alloc _).heap.size; simp; omega)).trans ((below_alloc wr _).block w.heap.size hlw))
          constructor
          · rw [← hr.1]; unfold World.cell?; rw [show w7.heap[(⟨w.heap.size, 0, none⟩ : Addr).block]? = wr.heap[(⟨w.heap.size, 0, none⟩ : Addr).block]? from hbk]
          · rw [← hr.2]; unfold World.frozen?; rw [show w7.heap[(⟨w.heap.size, 0, none⟩ : Addr).block]? = wr.heap[(⟨w.heap.size, 0, none⟩ : Addr).block]? from hbk]
        refine hK.out _ _ hS7 (fun hHeld7 => ?_)
        clear hK K
        simp only [tkS, Act.put]
        refine wpAnyH_take (i := 9) (v := v7) rfl (by kernel_rfl) (by kernel_rfl) (by kernel_rfl) (fun _ _ _ h => h) (Or.inl ⟨by rfl, fun w' hw => by go_simp⟩) hHeld7 ?_
        simp only [tkS, Act.put]
        refine wpAnyH_done (by kernel_rfl) ?_ _
        have ho8 : OwnE w7 (w.heap.size + 1) v7 (es.take (k + 1)) := by
          rw [HTK.out]
          unfold OwnE
          rw [enCs_app, List.length_append]
          exact ho7
        have HV7 : Hid (v7 ≠ .slice none 0 0) := fun e => by have := (hv7.1 e).2; omega
        clear hv7 ho7 hg7 hS7 hS1 hHeld hHeld1 hHeld7 ho1 hrA hrB hc7
        go_wp2_with fail
        go_roundw
        case rel => exact ⟨k + 1, by omega, by go_num, ho8, HV7.out, hr7, hres7, hB7⟩
        case measure => simp [intOf]; omega
      · obtain rfl : k = es.length := by omega
        rw [List.take_length] at ho
        have hn : ¬ (es.length : Int) < (es.length : Int) := by omega
        have hJ9 := hJ.on hB
        have HI : Hid _ := arr_info hX
        have hrA : wr.rangeAt n 0 (arrC X) := fun j v hj => hJ9.1 j v (by rw [List.getElem?_append_left (by have := (List.getElem?_eq_some_iff.1 hj).1; omega)]; exact hj)
        have HES : Hid (es.Perm ls ∧ es.Pairwise upE) := ⟨hpe, up_of hpe hM.apart HSo.out⟩
        clear hlen hlm
        go_upto_region 9 with fail
        go_wp2_with (first | (refine wpList_load_mid rfl 45 _ rfl n 0 rfl (arrC X) _ hrA Tryz.underlying45 rfl HI.out ?_))
        refine (vector_any wr _ hX).mono ?_
        rintro e w8 ⟨a8, rfl, ho8, hb8⟩
        have hlw : w.heap.size < wr.heap.size := cell_lt hr.1
        have hoE := (ho.on hb8)
        have c8 := (hb8.cell (p := ⟨w.heap.size, 0, none⟩) hlw).trans hr.1
        have f8 := (hb8.frozen (p := ⟨w.heap.size, 0, none⟩) hlw).trans hr.2
        have hB8 := (below_seq hB hb8).setCell (p := ⟨w.heap.size, 0, none⟩) (Nat.le_refl _) (.slice a8 16 16)
        have hoV : Own 45 (w8.setCell ⟨w.heap.size, 0, none⟩ (.slice a8 16 16)) w.heap.size (.slice a8 16 16) (X.map (Value.int .i64)) := (ho8.apart (grownBy_set w8 w.heap.size 0 _) (fun k hk => by cases hk; omega)).mono (by omega)
        have hoF := (OwnE.aside hoE w.heap.size (by omega) 0 (.slice a8 16 16)).mono (B' := w.heap.size) (by omega)
        have HU : Hid _ := World.cell?_setCell_same' w8 ⟨w.heap.size, 0, none⟩ (.slice a8 16 16) (by rw [c8]; rfl)
        clear ho8 hb8 hoE hB ho hrow hr hJ9 hrA hlw
        go_wp2_with fail
        refine bodyPost_ret (v := .tuple #[.agg #[.slice a8 16 16], u5, .int .i64 0]) ?_ rfl (.inl ⟨h256, a8, u5, es, rfl, HES.out.1, HES.out.2, hoV, hoF, HV5.out, hB8⟩)
        simp [results, Tryz.results35, go_sem, HU.out]
  · have i1 : (256 : Int) < (ls.length : Int) := by omega
    go_enter Tryz.func35, Tryz.ntmps35
    go_wp2_with (first
      | (at_len; refine wpList_len_mp rfl _ 46 rfl 56 60 Tryz.underlying46 b _ rfl hM0 ?_; rw [List.length_map]))
    refine bodyPost_ret (v := .tuple #[.agg #[.slice none 0 0], .slice none 0 0, .int .i64 11]) ?_ rfl (.inr ⟨h256, rfl, ?_⟩)
    · simp [results, Tryz.results35, go_sem]
    · first | exact hB0 | exact hB0.setCell (p := ⟨w.heap.size, 0, none⟩) (Nat.le_refl _) _

end Go.Proofs.YtfnlnigeaioocaaGreat
