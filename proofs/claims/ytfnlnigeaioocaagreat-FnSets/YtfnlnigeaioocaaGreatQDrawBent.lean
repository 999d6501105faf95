/- A drawn value that is bent: what the specification's l03Bent answers. -/
import Derived.Deep.RegionHeld3
import Derived.Deep.Cut
import Derived.Deep.CutRange
import Derived.OwnWalk
import Derived.ArgAppend
import Derived.Deep.DeepAppendRoom
import Derived.Test.YtfnlnigeaioocaaGreatQDrawRep
import Derived.Test.YtfnlnigeaioocaaGreatQSrcReg
namespace Go.Proofs.YtfnlnigeaioocaaGreat
open Go.RowKit
set_option linter.unusedVariables false

/-- What is not named is as it was. -/
structure Frm (w w' : World) (P : Nat → Prop) : Prop where
  os : w'.os = w.os
  tape : w'.tape = w.tape
  output : w'.output = w.output
  size : w.heap.size ≤ w'.heap.size
  same : ∀ i, i < w.heap.size → ¬ P i → w'.heap[i]? = w.heap[i]?
theorem Frm.gr {w w' : World} {P : Nat → Prop} {row : Option Nat} (h : w.grownBy w' row) (hP : ∀ k, row = some k → k < w.heap.size → P k) : Frm w w' P :=
  ⟨h.os, h.tape, h.output, h.size, fun i hi hn => h.block i hi (fun e => hn (hP i e.symm hi))⟩
theorem Frm.trans {w w' w'' : World} {P : Nat → Prop} (h : Frm w w' P) (k : w'.grownBy w'' none) : Frm w w'' P :=
  ⟨k.os.trans h.os, k.tape.trans h.tape, k.output.trans h.output, Nat.le_trans h.size k.size, fun i hi hn => (k.block i (Nat.lt_of_lt_of_le hi h.size) (by simp)).trans (h.same i hi hn)⟩
theorem Frm.row {w w' w'' : World} {P : Nat → Prop} {row : Option Nat} (h : Frm w w' P) (k : w'.grownBy w'' row) (hP : ∀ j, row = some j → j < w.heap.size → P j) : Frm w w'' P :=
  ⟨k.os.trans h.os, k.tape.trans h.tape, k.output.trans h.output, Nat.le_trans h.size k.size, fun i hi hn => (k.block i (Nat.lt_of_lt_of_le hi h.size) (fun e => hn (hP i e.symm hi))).trans (h.same i hi hn)⟩
theorem Frm.put {w w' : World} {P : Nat → Prop} (h : Frm w w' P) (n k : Nat) (x : Value) (hP : n < w.heap.size → P n) : Frm w (w'.setCell ⟨n, k, none⟩ x) P := h.row (grownBy_set w' n k x) (fun j e hj => by cases e; exact hP hj)
theorem Frm.alloc {w w' : World} {P : Nat → Prop} (h : Frm w w' P) (o : Obj) : Frm w (w'.alloc o) P := h.trans (World.grownBy_alloc w' o none)
theorem Frm.drewN {w w' : World} {P : Nat → Prop} (h : Frm w w' P) (n : Nat) : Frm w (w'.drewN n) P := ⟨h.os, h.tape, h.output, h.size, h.same⟩
theorem Frm.drew {w w' : World} {P : Nat → Prop} (h : Frm w w' P) : Frm w w'.drew P := ⟨h.os, h.tape, h.output, h.size, h.same⟩
/-- Values that can be read, each in its elder block or a new one. -/
structure Bt (C : Nat) (w : World) (b A : Nat) (u v u' v' : Value) (w' : World) : Prop where
  rd : ∃ xs : List Int, xs.length ≤ 17 ∧ Rd w'.heap.size w' u' (xs.map (Value.int .i64))
  rdE : ∃ ls : List En, ls.length ≤ 600 ∧ RdE w'.heap.size w' v' ls
  bu : ∀ a n c, u' = .slice (some a) n c → u.ownBlock = some a.block ∨ w.heap.size ≤ a.block
  bv : ∀ a n c, v' = .slice (some a) n c → v.ownBlock = some a.block ∨ w.heap.size ≤ a.block
  su : ∃ a n c, u' = .slice a n c
  sv : ∃ a n c, v' = .slice a n c
  src : Src C w' b A
  frm : Frm w w' (fun i => i = b ∨ u.ownBlock = some i ∨ v.ownBlock = some i)
theorem rd_put {C : Nat} {w : World} {v : Value} {cs : List Value} (h : Rd C w v cs) {m : Nat} (hn : ∀ a n c, v = .slice (some a) n c → a.block ≠ m) (k : Nat) (x : Value) : Rd C (w.setCell ⟨m, k, none⟩ x) v cs :=
  rd_same h (fun a n c e => heap_setCell_other w ⟨m, k, none⟩ a.block x (hn a n c e))
theorem rdE_put {C : Nat} {w : World} {v : Value} {ls : List En} (h : RdE C w v ls) {m : Nat} (hn : ∀ a n c, v = .slice (some a) n c → a.block ≠ m) (k : Nat) (x : Value) : RdE C (w.setCell ⟨m, k, none⟩ x) v ls :=
  rdE_same h (fun a n c e => heap_setCell_other w ⟨m, k, none⟩ a.block x (hn a n c e))
theorem rd_gr {w w' : World} {v : Value} {cs : List Value} {row : Option Nat} (h : Rd w.heap.size w v cs) (hg : w.grownBy w' row) (hn : ∀ a n c, v = .slice (some a) n c → row ≠ some a.block) : Rd w'.heap.size w' v cs := by
  obtain ⟨ao, cap, rfl, h1, h2, h3, h4⟩ := h
  refine ⟨ao, cap, rfl, h1, h2, h3, fun hp => ?_⟩
  obtain ⟨g, off, rfl, hgl, hc⟩ := h4 hp
  exact ⟨g, off, rfl, Nat.lt_of_lt_of_le hgl hg.size, fun j u hj => (World.cell?_of_block (a := ⟨g, off + j, none⟩) (hg.block g hgl (fun e => hn _ _ _ rfl e.symm))).trans (hc j u hj)⟩
theorem rdE_gr {w w' : World} {v : Value} {ls : List En} {row : Option Nat} (h : RdE w.heap.size w v ls) (hg : w.grownBy w' row) (hn : ∀ a n c, v = .slice (some a) n c → row ≠ some a.block) : RdE w'.heap.size w' v ls := by
  obtain ⟨ao, cap, rfl, h4⟩ := h
  refine ⟨ao, cap, rfl, fun hp => ?_⟩
  obtain ⟨g, off, rfl, hgl, hc⟩ := h4 hp
  refine ⟨g, off, rfl, Nat.lt_of_lt_of_le hgl hg.size, fun k hk => ?_⟩
  obtain ⟨c0, c1, c2⟩ := hc k hk
  have hb := hg.block g hgl (fun e => hn _ _ _ rfl e.symm)
  exact ⟨(World.cell?_of_block (a := ⟨g, off + k * 3, none⟩) hb).trans c0, (World.cell?_of_block (a := ⟨g, off + (k * 3 + 1), none⟩) hb).trans c1, (World.cell?_of_block (a := ⟨g, off + (k * 3 + 2), none⟩) hb).trans c2⟩
theorem own_blk' {e : TypeId} {w : World} {B : Nat} {v : Value} {cs : List Value} (h : Own e w B v cs) : ∀ a n c, v = .slice (some a) n c → v.ownBlock = some a.block := by
  rintro a n c rfl
  rcases h.shape with ⟨e, _⟩ | ⟨g, d, e, _⟩
  · cases e
  · cases e; rfl
theorem ownE_blk' {w : World} {B : Nat} {v : Value} {ls : List En} (h : OwnE w B v ls) : ∀ a n c, v = .slice (some a) n c → v.ownBlock = some a.block := by
  rintro a n c rfl
  rcases ownE_shape h with ⟨e, _⟩ | ⟨g, d, e, _⟩
  · cases e
  · cases e; rfl
theorem ownE_same {w w' : World} {B : Nat} {v : Value} {ls : List En} (h : OwnE w B v ls) (hs : ∀ k, v.ownBlock = Option.some k → w'.heap[k]? = w.heap[k]?) : OwnE w' B v ls := by
  obtain ⟨h1, h2⟩ := h
  refine ⟨h1, ?_⟩
  rcases h2 with h2 | ⟨g, cap, cur, hv, hb, hh, r⟩
  · exact .inl h2
  · exact .inr ⟨g, cap, cur, hv, hb, by rw [hs g (by rw [hv]; rfl)]; exact hh, r⟩
theorem own_same {e : TypeId} {w w' : World} {B : Nat} {v : Value} {cs : List Value} (h : Own e w B v cs) (hs : ∀ k, v.ownBlock = Option.some k → w'.heap[k]? = w.heap[k]?) : Own e w' B v cs := by
  obtain ⟨h1, h2⟩ := h
  refine ⟨h1, ?_⟩
  rcases h2 with h2 | ⟨g, cap, cur, hv, hb, hh, r⟩
  · exact .inl h2
  · exact .inr ⟨g, cap, cur, hv, hb, by rw [hs g (by rw [hv]; rfl)]; exact hh, r⟩
/-- An append of entries onto a row of entries that the call owns, as a step of a region that draws its order: in its place, or in a new block. -/
theorem step_appendE {w : World} {ops : Array Oper} {o : Oper} {a : Act} {K : Act → World → Prop} {Q : Exit → Act → World → Prop} {E : Prop} (hgd : o.guard = none) (s x : Operand)
    (ho : o.op = .call { callee := .builtin .append, args := #[s, x], argTypes := #[26, 26] }) (base g n cp : Nat)
    (ls : List En) (hs : a.eval s = .slice (some ⟨g, 0, none⟩) n cp) (hnl : n = ls.length) (hown : OwnE w base (.slice (some ⟨g, 0, none⟩) n cp) ls) (C : Nat) (xv : Value) (ms : List En) (hx : a.eval x = xv) (hr : RdE C w xv ms) (hN : NilC xv)
    (h63 : ls.length + ms.length ≤ 1048576) (hbase : base ≤ w.heap.size)
    (h : ∀ g' c' w', OwnE w' base (.slice (some ⟨g', 0, none⟩) (n + ms.length) c') (ls ++ ms) → g' = g ∨ w.heap.size ≤ g' → w.grownBy w' (some g) → K (a.put o.dst (.slice (some ⟨g', 0, none⟩) (n + ms.length) c')) w') : if Region.wanted o (yielded ops a.tmps) = true then Oper.wp Tryz.prog o a w K Q else E := by
  subst hnl
  have hw : Region.wanted o (yielded ops a.tmps) = true := by simp [Region.wanted, hgd]
  rw [if_pos hw]
  obtain ⟨i0, hi, hz0, hz1, hz2⟩ := info_parts infoEnt
  obtain ⟨ao, cap, rfl, hr⟩ := hr
  cases ao with
  | none =>
    have hn : ms = [] := by
      by_cases hp : 0 < ms.length
      · obtain ⟨_, _, e, _⟩ := hr hp; cases e
      · exact List.eq_nil_of_length_eq_zero (by omega)
    subst hn
    have h0 := hN _ _ rfl
    subst h0
    have hrun := run_append_owned_none (P := Tryz.prog) (w := w) base 26 o.type 60 i0 3 Tryz.underlying26 hi (.slice (some ⟨g, 0, none⟩) ls.length cp) _ _ hown
    unfold Oper.wp
    simp [execOp, ho, resolve, invoke, builtin, hs, hx, hrun, Result.andThen]
    exact h g cp w (by simpa using hown) (.inl rfl) (World.grownBy.refl _ _)
  | some ad =>
    have hcells : ∀ j u, (enCs ms)[j]? = some u → w.cell? (ad.add j) = some u := fun j u hj => by
      have hj1 := (List.getElem?_eq_some_iff.1 hj).1
      rw [enCs_len] at hj1
      obtain ⟨g, off, he, _, hc⟩ := hr (by omega)
      cases he
      have h3 : j / 3 < ms.length := by omega
      obtain ⟨c0, c1, c2⟩ := hc (j / 3) h3
      obtain ⟨e0, e1, e2⟩ := enCs_at h3
      rw [Addr.add_lit]
      rcases (by omega : j = j / 3 * 3 ∨ j = j / 3 * 3 + 1 ∨ j = j / 3 * 3 + 2) with e | e | e
      · rw [e] at hj ⊢; rw [e0] at hj; cases hj; exact c0
      · rw [e] at hj ⊢; rw [e1] at hj; cases hj; exact c1
      · rw [e] at hj ⊢; rw [e2] at hj; cases hj; exact c2
    by_cases hroom : ls.length + ms.length ≤ cp
    · refine wp_append_own_spare w s x _ ho base 60 i0 3 Tryz.underlying26 hi hz1 g ls.length cp (enCs ls) hs hown ad ms.length cap (enCs ms) hx (enCs_len ms) hcells (enCs_one ms) hroom (fun w' h2 h3 => h g cp w' ?_ (.inl rfl) h3)
      unfold OwnE
      rw [enCs_app, List.length_append]
      exact h2
    · obtain ⟨v', w', hrun, r1, r2⟩ := run_append_arg_grows (P := Tryz.prog) w 26 o.type 60 i0 (.agg #[.int .i64 0, .int .i64 0, .string ByteArray.empty]) 3 32 Tryz.underlying26 hi hz0 hz1 hz2 rfl (by decide) ⟨g, 0, none⟩ ls.length cp (enCs ls) (enCs_len ls) (hown.cells (g := g) rfl) ad ms.length cap (enCs ms) (enCs_len ms) hcells (by omega) (by unfold maxLen; omega) (by omega)
      have ho2 : OwnE w' w.heap.size v' (ls ++ ms) := by
        unfold OwnE
        rw [enCs_app, List.length_append]
        exact r1
      rcases ownE_shape ho2 with ⟨_, e⟩ | ⟨g', c', e, hg', _⟩
      · have h1 := congrArg List.length e
        simp only [List.length_append, List.length_nil] at h1
        omega
      · subst e
        rw [List.length_append] at ho2
        unfold Oper.wp
        simp [execOp, ho, resolve, invoke, builtin, hs, hx, hrun, Result.andThen]
        exact h g' c' w' (ho2.mono hbase) (.inr hg') ⟨r2.os, r2.tape, r2.output, r2.size, fun k hk _ => r2.block k hk (by simp)⟩

/-- A making of bytes whose number is a variable, as a step of a region that draws its order. -/
theorem step_makeB {w : World} {ops : Array Oper} {o : Oper} {a : Act} {K : Act → World → Prop} {Q : Exit → Act → World → Prop} {E : Prop} (hgd : o.guard = none) (l c : Operand) (hop : o.op = Op.makeSlice 22 l c)
    (m : Nat) (hl : a.eval l = .int .i64 (m : Int)) (hc : a.eval c = .int .i64 (m : Int)) (hm : m ≤ 1048576)
    (hK : ∀ w', Rd w'.heap.size w' (.slice (some ⟨w.heap.size, 0, none⟩) m m) ((List.replicate m (0 : Int)).map (Value.int .u8)) → w.grownBy w' none → K (a.put o.dst (.slice (some ⟨w.heap.size, 0, none⟩) m m)) w') : if Region.wanted o (yielded ops a.tmps) = true then Oper.wp Tryz.prog o a w K Q else E := by
  have hw : Region.wanted o (yielded ops a.tmps) = true := by simp [Region.wanted, hgd]
  rw [if_pos hw]
  obtain ⟨i0, hi, hz0, hz1, hz2⟩ := info_parts info5
  obtain ⟨w', hrun, r1, r2⟩ := run_make_full (P := Tryz.prog) w w.heap.size 22 5 i0 (.int .u8 0) 1 Tryz.underlying22 hi hz0 hz1 .i64 .i64 m (by rw [hz2]; omega) (by unfold maxLen; omega) (Nat.le_refl _)
  unfold Oper.wp
  simp [execOp, hop, hl, hc, hrun, Result.andThen]
  have ho4 : Own 5 w' w.heap.size (.slice (some ⟨w.heap.size, 0, none⟩) m m) (madeCells #[Value.int .u8 0] (m * 1)).toList := own_of r1
  rw [toList_madeCells_one, Nat.mul_one] at ho4
  refine hK w' ?_ r2
  rw [List.map_replicate]
  exact ho4.rd

/-- One text of the first entry is exchanged. -/
theorem rdE_first {w : World} {B g n cap : Nat} {ls : List En} (h : OwnE w B (.slice (some ⟨g, 0, none⟩) n cap) ls) (hp : 0 < ls.length) (s : ByteArray) : RdE (w.setCell ⟨g, 2, none⟩ (.string s)).heap.size (w.setCell ⟨g, 2, none⟩ (.string s)) (.slice (some ⟨g, 0, none⟩) n cap) (((enAt ls 0).1, (enAt ls 0).2.1, s) :: ls.drop 1) := by
  obtain ⟨ao, c, e, h4⟩ := ownE_rd h
  cases e
  obtain ⟨g', off, e, hg, hc⟩ := h4 hp
  cases e
  have hlen : (((enAt ls 0).1, (enAt ls 0).2.1, s) :: ls.drop 1).length = ls.length := by simp; omega
  have o : ∀ j, j ≠ 2 → (w.setCell ⟨g, 2, none⟩ (.string s)).cell? ⟨g, j, none⟩ = w.cell? ⟨g, j, none⟩ := fun j hj => World.cell?_setCells_out g [.string s] 2 w _ (fun _ => by simp; omega)
  refine ⟨some ⟨g, 0, none⟩, cap, by rw [hlen], fun _ => ⟨g, 0, rfl, by simpa using hg, fun k hk => ?_⟩⟩
  rw [hlen] at hk
  obtain ⟨c0, c1, c2⟩ := hc k hk
  simp only [Nat.zero_add] at c0 c1 c2 ⊢
  cases k with
  | zero =>
    refine ⟨?_, ?_, ?_⟩
    · rw [o _ (by omega)]; exact c0
    · rw [o _ (by omega)]; exact c1
    · exact World.cell?_setCell_same _ _ _ c2
  | succ m =>
    have he : enAt (((enAt ls 0).1, (enAt ls 0).2.1, s) :: ls.drop 1) (m + 1) = enAt ls (m + 1) := by
      unfold enAt
      simp [List.getD]
    rw [he, o _ (by omega), o _ (by omega), o _ (by omega)]
    exact ⟨c0, c1, c2⟩

theorem ownE_free {w : World} {B g n cap : Nat} {ls : List En} (h : OwnE w B (.slice (some ⟨g, 0, none⟩) n cap) ls) (k : Nat) : w.frozen? ⟨g, k, none⟩ = false := by
  obtain ⟨_, h2⟩ := h
  rcases h2 with ⟨e, _⟩ | ⟨g', cap', cur, e, _, hh, _⟩
  · cases e
  · cases e
    exact free_blk hh k
theorem three_rd (w : World) (t a : Int) (s : ByteArray) : RdE (w.alloc (.cells #[.int .i64 t, .int .i64 a, .string s] 60)).heap.size (w.alloc (.cells #[.int .i64 t, .int .i64 a, .string s] 60)) (.slice (some ⟨w.heap.size, 0, none⟩) 1 1) [(t, a, s)] := by
  refine ⟨_, 1, rfl, fun _ => ⟨w.heap.size, 0, rfl, by simp, fun k hk => ?_⟩⟩
  have hk0 : k = 0 := by simp at hk; omega
  subst hk0
  have h := three_cells (Below.refl (w.alloc (.cells #[.int .i64 t, .int .i64 a, .string s] 60)).heap.size (w.alloc (.cells #[.int .i64 t, .int .i64 a, .string s] 60)))
  exact ⟨h.1, h.2.1, h.2.2⟩

set_option maxHeartbeats 16000000 in
set_option maxRecDepth 100000 in
theorem l03Bent_any (C b A Bu Bv : Nat) (w : World) (u v : Value) (xs : List Int) (ls : List En) (h : Src C w b A) (hA : A ≤ 400000000) (hu : Own 3 w Bu u (xs.map (Value.int .i64))) (hv : OwnE w Bv v ls) (hv0 : v ≠ .slice none 0 0) (hap : Apart u v) (h16 : xs.length = 16) (h256 : ls.length ≤ 256) (hub : b < Bu) (hvb : b < Bv) :
    Calls Tryz.prog 45 #[.pointer (some ⟨b, 0, none⟩), .agg #[u, v]] w fun e w' => ∃ u' v', e = .returned (.agg #[u', v']) ∧ Bt C w b (A + 2000) u v u' v' w' := by
  have hlt := h.lt
  obtain ⟨gu, cu, rfl, hgu, hgul, huc, huf, _⟩ := (hu.shape).resolve_left (fun e => by have := e.2; simp at this; rw [this] at h16; simp at h16)
  obtain ⟨gv, cv, rfl, hgv, hgvl, _⟩ := hv.some hv0
  simp only [List.length_map, h16] at hu ⊢
  have hne : gu ≠ gv := fun e => hap gu gv rfl rfl e
  have hub' : gu ≠ b := by omega
  have hvb' : gv ≠ b := by omega
  have hbu : b < gu := by omega
  have hbv : b < gv := by omega
  have HNE : Hid (gu ≠ gv ∧ gu ≠ b ∧ gv ≠ b) := ⟨hne, hub', hvb'⟩
  have HU : Hid (Own 3 w Bu (.slice (some ⟨gu, 0, none⟩) 16 cu) (xs.map (Value.int .i64))) := hu
  have HV : Hid (OwnE w Bv (.slice (some ⟨gv, 0, none⟩) ls.length cv) ls) := hv
  clear hne hub' hvb' hub hvb hu hv hv0 hap huc huf
  obtain ⟨W, hW⟩ : ∃ W, (w.alloc (.cells #[.slice (some ⟨gu, 0, none⟩) 16 cu, .slice (some ⟨gv, 0, none⟩) ls.length cv] 74)).alloc (.cells #[.slice none 0 0, .slice none 0 0] 74) = W := ⟨_, rfl⟩
  have hB0 : Below w.heap.size w W := by rw [← hW]; exact below_then (below_alloc _ _) _
  have HZ : Hid (W.heap.size = w.heap.size + 1 + 1) := by unfold Hid; rw [← hW]; simp
  have HD : Hid (Dy W w.heap.size (.slice (some ⟨gu, 0, none⟩) 16 cu) (.slice (some ⟨gv, 0, none⟩) ls.length cv)) := by rw [← hW]; exact (Dy.made w _ _ 74).on (below_alloc _ _)
  have HE : Hid (Dy W (w.heap.size + 1) (.slice none 0 0) (.slice none 0 0)) := by
    have := Dy.made (w.alloc (.cells #[.slice (some ⟨gu, 0, none⟩) 16 cu, .slice (some ⟨gv, 0, none⟩) ls.length cv] 74)) (.slice none 0 0) (.slice none 0 0) 74
    rw [World.size_alloc, hW] at this
    exact this
  have hS0 := h.below hB0 hlt
  go_enter Tryz.func45, Tryz.ntmps45
  go_upto_region 1 with fail
  clear hW
  go_wp2_with fail
  refine (srcNext_any C b A 20 _ hS0 (by omega) (by omega) (by omega)).mono ?_
  rintro e w2 ⟨q, rfl, q0, q1, hS2, hG2⟩
  have hZ := HZ.out
  have hz2 := hG2.size
  have HD2 : Hid (Dy w2 w.heap.size _ _) := dy_gr HD.out hG2 (by omega)
  have HE2 : Hid (Dy w2 (w.heap.size + 1) _ _) := dy_gr HE.out hG2 (by omega)
  have HB2 : Hid (∀ i, i < w.heap.size → i ≠ b → w2.heap[i]? = w.heap[i]?) := fun i hi hb => (hG2.block i (by omega) (fun e => hb (by simpa using e))).trans (hB0.block i hi)
  have HF2 : Hid (Frm w w2 (fun i => i = b ∨ (Value.slice (some ⟨gu, 0, none⟩) 16 cu).ownBlock = some i ∨ (Value.slice (some ⟨gv, 0, none⟩) ls.length cv).ownBlock = some i)) := (Frm.gr (grownBy_below hB0 (Nat.le_refl _) none) (fun k e => by cases e)).row hG2 (fun k e _ => by cases e; exact .inl rfl)
  have HU2 : Hid (Own 3 w2 Bu (.slice (some ⟨gu, 0, none⟩) 16 cu) (xs.map (Value.int .i64))) := own_same HU.out (fun k e => by cases e; exact HB2.out gu hgul HNE.out.2.1)
  have HV2 : Hid (OwnE w2 Bv (.slice (some ⟨gv, 0, none⟩) ls.length cv) ls) := ownE_same HV.out (fun k e => by cases e; exact HB2.out gv hgvl HNE.out.2.2)
  clear HD HE HU HV hG2 hS0 hB0
  go_upto_block 0 with fail
  go_cut [7] from 8 (fun t7 wx => ∃ u' v', t7 = .int .i64 q ∧ (∃ a n c, u' = .slice a n c) ∧ (∃ a n c, v' = .slice a n c) ∧ Hid (Dy wx w.heap.size u' v') ∧ Hid (Dy wx (w.heap.size + 1) (.slice none 0 0) (.slice none 0 0)) ∧ Hid (∃ ys : List Int, ys.length ≤ 17 ∧ Rd wx.heap.size wx u' (ys.map (Value.int .i64))) ∧ Hid (∃ ms : List En, ms.length ≤ 600 ∧ RdE wx.heap.size wx v' ms) ∧ Hid (∀ a n c, u' = .slice (some a) n c → a.block = gu ∨ w.heap.size + 1 < a.block) ∧ Hid (∀ a n c, v' = .slice (some a) n c → a.block = gv ∨ w.heap.size + 1 < a.block) ∧ Src C wx b (A + 2000) ∧ Hid (Frm w wx (fun i => i = b ∨ (Value.slice (some ⟨gu, 0, none⟩) 16 cu).ownBlock = some i ∨ (Value.slice (some ⟨gv, 0, none⟩) ls.length cv).ownBlock = some i)))
  case first =>
    have RU : Hid (∃ ys : List Int, ys.length ≤ 17 ∧ Rd w2.heap.size w2 (.slice (some ⟨gu, 0, none⟩) 16 cu) (ys.map (Value.int .i64))) := ⟨xs, by omega, HU2.out.rd⟩
    have RV : Hid (∃ ms : List En, ms.length ≤ 600 ∧ RdE w2.heap.size w2 (.slice (some ⟨gv, 0, none⟩) ls.length cv) ms) := ⟨ls, by omega, ownE_rd HV2.out⟩
    have OU : Hid (∀ a n c, Value.slice (some ⟨gu, 0, none⟩) 16 cu = .slice (some a) n c → a.block = gu ∨ w.heap.size + 1 < a.block) := fun a n c e => by cases e; exact .inl rfl
    have OV : Hid (∀ a n c, Value.slice (some ⟨gv, 0, none⟩) ls.length cv = .slice (some a) n c → a.block = gv ∨ w.heap.size + 1 < a.block) := fun a n c e => by cases e; exact .inl rfl
    refine if h0 : q = 0 then ?pa else ?pb
    case' pb => refine if h1 : q = 1 then ?pc else ?pd
    case' pd => refine if h2 : q = 2 then ?pe else ?pf
    case' pf => refine if h3 : q = 3 then ?pg else ?ph
    case' ph => refine if h4 : q = 4 then ?pi else ?pj
    case pa =>
      subst h0
      go_wp2_with fail
      refine (oddVector_any C b _ _ hS2 (by omega)).mono ?_
      rintro e w3 ⟨g3, n3, c3, ys, rfl, rfl, hy, _, ho3, hS3, hG3⟩
      have hz3 := hG3.size
      have HD3 : Hid (Dy w3 w.heap.size _ _) := dy_gr HD2.out hG3 (by omega)
      have HE3 : Hid (Dy w3 (w.heap.size + 1) _ _) := dy_gr HE2.out hG3 (by omega)
      have hl3 := own_shape' ho3 _ _ _ rfl
      dsimp only at hl3
      obtain ⟨⟨c0, c1⟩, cf⟩ := HD3.out
      have f0 := cf 0
      clear cf
      go_wp2_with fail
      go_meet
      case rel =>
        refine ⟨_, _, rfl, ⟨_, _, _, rfl⟩, ⟨_, _, _, rfl⟩, Dy.set0 HD3.out _, Dy.aside HE3.out (by omega) 0 _, ⟨ys, hy, (rd_put ho3.rd (m := w.heap.size) (fun a n c e => by cases e; show g3 ≠ _; omega) _ _).mono (by simp)⟩, ?_, (fun a n c e => by cases e; exact .inr (by show _ < g3; omega)), OV, (hS3.set (by omega) _).mono (by omega), (HF2.out.row hG3 (fun k e _ => by cases e; exact .inl rfl)).put _ _ _ (fun hh => absurd hh (by omega))⟩
        obtain ⟨ms, hm, hr⟩ := RV.out
        exact ⟨ms, hm, rdE_mono (rdE_put (rdE_gr hr hG3 (fun a n c e => by cases e; intro e; exact HNE.out.2.2 (by simpa using e.symm))) (m := w.heap.size) (fun a n c e => by cases e; show gv ≠ _; omega) _ _) (by simp)⟩
    case pc =>
      subst h1
      obtain ⟨⟨c0, c1⟩, cf⟩ := HD2.out
      have hX2 := gr_drew (World.grownBy.refl w2 (some b))
      clear c0 cf
      go_wp2_with fail
      replace hS2 : Src C w2.drew b _ := hS2
      replace c1 : w2.drew.cell? ⟨w.heap.size, 1, none⟩ = some (.slice (some ⟨gv, 0, none⟩) ls.length cv) := c1
      refine wp_region_held_drew (S := fun _ => True) (by kernel_rfl) trivial (fun hHeld => ?_)
      refine wpAnyH_take (i := 0) (v := (.pointer (some ⟨w.heap.size, 1, none⟩))) rfl (by kernel_rfl) (by kernel_rfl) (by kernel_rfl) (fun _ _ _ h => h) (Or.inl ⟨by rfl, by intro w hSw; go_simp⟩) hHeld ?_
      simp only [List.getElem_toArray, List.getElem_cons_zero, Act.put, List.setIfInBounds_toArray, List.set_cons_zero, List.set_cons_succ]
      refine wpAnyH_take (i := 2) (v := (.pointer (some ⟨b, 0, none⟩))) rfl (by kernel_rfl) (by kernel_rfl) (by kernel_rfl) (fun _ _ _ h => h) (Or.inl ⟨by rfl, by intro w hSw; go_simp⟩) hHeld ?_
      simp only [List.getElem_toArray, List.getElem_cons_succ, List.getElem_cons_zero, Act.put, List.setIfInBounds_toArray, List.set_cons_zero, List.set_cons_succ]
      refine wpAnyH_take (i := 4) (v := (.pointer (some ⟨b, 0, none⟩))) rfl (by kernel_rfl) (by kernel_rfl) (by kernel_rfl) (fun _ _ _ h => h) (Or.inl ⟨by rfl, by intro w hSw; go_simp⟩) hHeld ?_
      simp only [List.getElem_toArray, List.getElem_cons_succ, List.getElem_cons_zero, Act.put, List.setIfInBounds_toArray, List.set_cons_zero, List.set_cons_succ]
      refine wpAnyH_ready (rs := [1, 3]) (by kernel_rfl) (by simp) ?_
      refine AllReadyH.cons rfl (fun K hK => ?_) ?_
      · go_simp
        refine hK.out _ _ trivial (fun hHeld => ?_)
        clear hK K
        (try simp only [List.getElem_toArray, List.getElem_cons_succ, List.getElem_cons_zero, Act.put, List.setIfInBounds_toArray, List.set_cons_zero, List.set_cons_succ])
        refine wpAnyH_ready (rs := [3]) (by kernel_rfl) (by simp) ?_
        refine AllReadyH.cons rfl (fun K hK => ?_) AllReadyH.nil
        go_simp
        (refine (oddStamp_any C b _ _ hS2 (by omega)).mono ?_; rintro e w3 ⟨t3, a3, rfl, hS3, hG3⟩; have hX3 := grownBy_trans hX2 hG3; clear hX2 hS2 hG3 c1; have hX2 := hX3; clear hX3; have c1 := (dy_gr HD2.out hX2 (by omega)).1.2; have f1 := (dy_gr HD2.out hX2 (by omega)).2 1)
        go_wp2_with fail
        refine hK.out _ _ trivial (fun hHeld => ?_)
        clear hK K
        (try simp only [List.getElem_toArray, List.getElem_cons_succ, List.getElem_cons_zero, Act.put, List.setIfInBounds_toArray, List.set_cons_zero, List.set_cons_succ])
        refine wpAnyH_ready (rs := [5]) (by kernel_rfl) (by simp) ?_
        refine AllReadyH.cons rfl (fun K hK => ?_) AllReadyH.nil
        go_simp
        (refine (word_any C b _ _ hS3 (by omega)).mono ?_; rintro e w4 ⟨s4, rfl, hs4, hS4, hG4⟩; have hX4 := grownBy_trans hX2 hG4; clear hX2 hS3 hG4 c1 f1; have hX2 := hX4; clear hX4; have c1 := (dy_gr HD2.out hX2 (by omega)).1.2; have f1 := (dy_gr HD2.out hX2 (by omega)).2 1; have HV4 : Hid (OwnE w4 Bv (.slice (some ⟨gv, 0, none⟩) ls.length cv) ls) := ownE_same HV2.out (fun k e => by cases e; exact hX2.block gv (by omega) (fun e => HNE.out.2.2 (by simpa using e))); have hz4 := hX2.size; have g1 := cell_on (below_alloc w4 (.cells #[.int .i64 t3, .int .i64 a3, .string s4] 60)) c1; have g2 := (Dy.on (dy_gr HD2.out hX2 (by omega)) (below_alloc w4 (.cells #[.int .i64 t3, .int .i64 a3, .string s4] 60))).2 1)
        go_wp2_with fail
        refine hK.out _ _ trivial (fun hHeld => ?_)
        clear hK K
        (try simp only [List.getElem_toArray, List.getElem_cons_succ, List.getElem_cons_zero, Act.put, List.setIfInBounds_toArray, List.set_cons_zero, List.set_cons_succ])
        refine wpAnyH_take (i := 6) (v := (.agg #[.int .i64 t3, .int .i64 a3, .string s4])) rfl (by kernel_rfl) (by kernel_rfl) (by kernel_rfl) (fun _ _ _ h => h) (Or.inl ⟨by rfl, by intro w hSw; go_simp⟩) hHeld ?_
        simp only [List.getElem_toArray, List.getElem_cons_succ, List.getElem_cons_zero, Act.put, List.setIfInBounds_toArray, List.set_cons_zero, List.set_cons_succ]
        refine wpAnyH_ready (rs := [7]) (by kernel_rfl) (by simp) ?_
        refine AllReadyH.cons rfl (fun K hK => ?_) AllReadyH.nil
        go_simp
        refine hK.out _ _ trivial (fun hHeld => ?_)
        clear hK K
        (try simp only [List.getElem_toArray, List.getElem_cons_succ, List.getElem_cons_zero, Act.put, List.setIfInBounds_toArray, List.set_cons_zero, List.set_cons_succ])
        refine wpAnyH_ready (rs := [8]) (by kernel_rfl) (by simp) ?_
        refine AllReadyH.cons rfl (fun K hK => ?_) AllReadyH.nil
        (refine step_appendE rfl (.tmp 16) (.tmp 22) rfl Bv gv ls.length cv ls rfl rfl (OwnE.alloc HV4.out _) _ (.slice (some ⟨w4.heap.size, 0, none⟩) 1 1) [(t3, a3, s4)] rfl (three_rd w4 t3 a3 s4) (fun n c e => by cases e) (by simp; omega) (by first | omega | (simp; omega)) ?_; intro g7 c7 w7 ho7 hgr7 hg7; have HO7 : Hid (OwnE w7 Bv (.slice (some ⟨g7, 0, none⟩) (ls.length + 1) c7) (ls ++ [(t3, a3, s4)])) := ho7; have HGR : Hid (g7 = gv ∨ w4.heap.size ≤ g7) := hgr7.imp id (fun h => (by simp at h; omega)); have hz7 := hg7.size; rw [World.size_alloc] at hz7; have HD7 : Hid (Dy w7 w.heap.size _ _) := (Dy.on (dy_gr HD2.out hX2 (by omega)) (below_alloc _ _)).grown hg7 (by simp; omega); have HE7 : Hid (Dy w7 (w.heap.size + 1) _ _) := (Dy.on (dy_gr HE2.out hX2 (by omega)) (below_alloc _ _)).grown hg7 (by simp; omega); have h71 := HD7.out.1.2; have h7f := HD7.out.2 1; have HG7 : Hid ((w4.alloc (.cells #[.int .i64 t3, .int .i64 a3, .string s4] 60)).grownBy w7 (some gv)) := hg7; clear ho7 hgr7 hg7)
        refine hK.out _ _ trivial (fun hHeld => ?_)
        clear hK K
        (try simp only [List.getElem_toArray, List.getElem_cons_succ, List.getElem_cons_zero, Act.put, List.setIfInBounds_toArray, List.set_cons_zero, List.set_cons_succ])
        refine wpAnyH_take (i := 9) (v := (.pointer (some ⟨w.heap.size, 1, none⟩))) rfl (by kernel_rfl) (by kernel_rfl) (by kernel_rfl) (fun _ _ _ h => h) (Or.inl ⟨by rfl, by intro w hSw; go_simp⟩) hHeld ?_
        simp only [List.getElem_toArray, List.getElem_cons_succ, List.getElem_cons_zero, Act.put, List.setIfInBounds_toArray, List.set_cons_zero, List.set_cons_succ]
        refine wpAnyH_ready (rs := [10]) (by kernel_rfl) (by simp) ?_
        refine AllReadyH.cons rfl (fun K hK => ?_) AllReadyH.nil
        go_simp
        refine hK.out _ _ trivial (fun hHeld => ?_)
        clear hK K
        (try simp only [List.getElem_toArray, List.getElem_cons_succ, List.getElem_cons_zero, Act.put, List.setIfInBounds_toArray, List.set_cons_zero, List.set_cons_succ])
        refine wpAnyH_done (by kernel_rfl) ?_ _
        go_wp2_with fail
        go_meet
        case rel =>
            refine ⟨_, _, rfl, ⟨_, _, _, rfl⟩, ⟨_, _, _, rfl⟩, Dy.set1 HD7.out _, Dy.aside HE7.out (by omega) _ _, ?_, ?_, OU, ?_, ((hS4.alloc _).kept HG7.out (fun k hk => by have e : gv = k := (by simpa using hk); omega) |>.set (by omega) _).mono (by omega), (((HF2.out.row hX2 (fun k e _ => by cases e; exact .inl rfl)).alloc _).row HG7.out (fun k e _ => .inr (.inr e))).put _ _ _ (fun hh => absurd hh (by omega))⟩
            · obtain ⟨ys, hy, hr⟩ := RU.out
              exact ⟨ys, hy, (rd_put (rd_gr (rd_gr (rd_gr hr hX2 (fun a n c e => by cases e; intro e; exact HNE.out.2.1 (by simpa using e.symm))) (World.grownBy_alloc w4 _ none) (fun a n c e => by simp)) HG7.out (fun a n c e => by cases e; intro e; exact HNE.out.1 (by simpa using e.symm))) (m := w.heap.size) (fun a n c e => by cases e; show gu ≠ _; omega) _ _).mono (by simp)⟩
            · exact ⟨ls ++ [(t3, a3, s4)], by simp; omega, rdE_mono (rdE_put (ownE_rd HO7.out) (m := w.heap.size) (fun a n c e => by cases e; show g7 ≠ _; rcases HGR.out with h | h <;> omega) _ _) (by simp)⟩
            · intro a n c e
              cases e
              show g7 = gv ∨ _
              rcases HGR.out with h | h
              · exact .inl h
              · exact .inr (by show _ < g7; omega)
      refine AllReadyH.cons rfl (fun K hK => ?_) AllReadyH.nil
      go_simp
      (refine (oddStamp_any C b _ _ hS2 (by omega)).mono ?_; rintro e w3 ⟨t3, a3, rfl, hS3, hG3⟩; have hX3 := grownBy_trans hX2 hG3; clear hX2 hS2 hG3 c1; have hX2 := hX3; clear hX3; have c1 := (dy_gr HD2.out hX2 (by omega)).1.2; have f1 := (dy_gr HD2.out hX2 (by omega)).2 1)
      go_wp2_with fail
      refine hK.out _ _ trivial (fun hHeld => ?_)
      clear hK K
      (try simp only [List.getElem_toArray, List.getElem_cons_succ, List.getElem_cons_zero, Act.put, List.setIfInBounds_toArray, List.set_cons_zero, List.set_cons_succ])
      refine wpAnyH_ready (rs := [1, 5]) (by kernel_rfl) (by simp) ?_
      refine AllReadyH.cons rfl (fun K hK => ?_) ?_
      · go_simp
        refine hK.out _ _ trivial (fun hHeld => ?_)
        clear hK K
        (try simp only [List.getElem_toArray, List.getElem_cons_succ, List.getElem_cons_zero, Act.put, List.setIfInBounds_toArray, List.set_cons_zero, List.set_cons_succ])
        refine wpAnyH_ready (rs := [5]) (by kernel_rfl) (by simp) ?_
        refine AllReadyH.cons rfl (fun K hK => ?_) AllReadyH.nil
        go_simp
        (refine (word_any C b _ _ hS3 (by omega)).mono ?_; rintro e w4 ⟨s4, rfl, hs4, hS4, hG4⟩; have hX4 := grownBy_trans hX2 hG4; clear hX2 hS3 hG4 c1 f1; have hX2 := hX4; clear hX4; have c1 := (dy_gr HD2.out hX2 (by omega)).1.2; have f1 := (dy_gr HD2.out hX2 (by omega)).2 1; have HV4 : Hid (OwnE w4 Bv (.slice (some ⟨gv, 0, none⟩) ls.length cv) ls) := ownE_same HV2.out (fun k e => by cases e; exact hX2.block gv (by omega) (fun e => HNE.out.2.2 (by simpa using e))); have hz4 := hX2.size; have g1 := cell_on (below_alloc w4 (.cells #[.int .i64 t3, .int .i64 a3, .string s4] 60)) c1; have g2 := (Dy.on (dy_gr HD2.out hX2 (by omega)) (below_alloc w4 (.cells #[.int .i64 t3, .int .i64 a3, .string s4] 60))).2 1)
        go_wp2_with fail
        refine hK.out _ _ trivial (fun hHeld => ?_)
        clear hK K
        (try simp only [List.getElem_toArray, List.getElem_cons_succ, List.getElem_cons_zero, Act.put, List.setIfInBounds_toArray, List.set_cons_zero, List.set_cons_succ])
        refine wpAnyH_take (i := 6) (v := (.agg #[.int .i64 t3, .int .i64 a3, .string s4])) rfl (by kernel_rfl) (by kernel_rfl) (by kernel_rfl) (fun _ _ _ h => h) (Or.inl ⟨by rfl, by intro w hSw; go_simp⟩) hHeld ?_
        simp only [List.getElem_toArray, List.getElem_cons_succ, List.getElem_cons_zero, Act.put, List.setIfInBounds_toArray, List.set_cons_zero, List.set_cons_succ]
        refine wpAnyH_ready (rs := [7]) (by kernel_rfl) (by simp) ?_
        refine AllReadyH.cons rfl (fun K hK => ?_) AllReadyH.nil
        go_simp
        refine hK.out _ _ trivial (fun hHeld => ?_)
        clear hK K
        (try simp only [List.getElem_toArray, List.getElem_cons_succ, List.getElem_cons_zero, Act.put, List.setIfInBounds_toArray, List.set_cons_zero, List.set_cons_succ])
        refine wpAnyH_ready (rs := [8]) (by kernel_rfl) (by simp) ?_
        refine AllReadyH.cons rfl (fun K hK => ?_) AllReadyH.nil
        (refine step_appendE rfl (.tmp 16) (.tmp 22) rfl Bv gv ls.length cv ls rfl rfl (OwnE.alloc HV4.out _) _ (.slice (some ⟨w4.heap.size, 0, none⟩) 1 1) [(t3, a3, s4)] rfl (three_rd w4 t3 a3 s4) (fun n c e => by cases e) (by simp; omega) (by first | omega | (simp; omega)) ?_; intro g7 c7 w7 ho7 hgr7 hg7; have HO7 : Hid (OwnE w7 Bv (.slice (some ⟨g7, 0, none⟩) (ls.length + 1) c7) (ls ++ [(t3, a3, s4)])) := ho7; have HGR : Hid (g7 = gv ∨ w4.heap.size ≤ g7) := hgr7.imp id (fun h => (by simp at h; omega)); have hz7 := hg7.size; rw [World.size_alloc] at hz7; have HD7 : Hid (Dy w7 w.heap.size _ _) := (Dy.on (dy_gr HD2.out hX2 (by omega)) (below_alloc _ _)).grown hg7 (by simp; omega); have HE7 : Hid (Dy w7 (w.heap.size + 1) _ _) := (Dy.on (dy_gr HE2.out hX2 (by omega)) (below_alloc _ _)).grown hg7 (by simp; omega); have h71 := HD7.out.1.2; have h7f := HD7.out.2 1; have HG7 : Hid ((w4.alloc (.cells #[.int .i64 t3, .int .i64 a3, .string s4] 60)).grownBy w7 (some gv)) := hg7; clear ho7 hgr7 hg7)
        refine hK.out _ _ trivial (fun hHeld => ?_)
        clear hK K
        (try simp only [List.getElem_toArray, List.getElem_cons_succ, List.getElem_cons_zero, Act.put, List.setIfInBounds_toArray, List.set_cons_zero, List.set_cons_succ])
        refine wpAnyH_take (i := 9) (v := (.pointer (some ⟨w.heap.size, 1, none⟩))) rfl (by kernel_rfl) (by kernel_rfl) (by kernel_rfl) (fun _ _ _ h => h) (Or.inl ⟨by rfl, by intro w hSw; go_simp⟩) hHeld ?_
        simp only [List.getElem_toArray, List.getElem_cons_succ, List.getElem_cons_zero, Act.put, List.setIfInBounds_toArray, List.set_cons_zero, List.set_cons_succ]
        refine wpAnyH_ready (rs := [10]) (by kernel_rfl) (by simp) ?_
        refine AllReadyH.cons rfl (fun K hK => ?_) AllReadyH.nil
        go_simp
        refine hK.out _ _ trivial (fun hHeld => ?_)
        clear hK K
        (try simp only [List.getElem_toArray, List.getElem_cons_succ, List.getElem_cons_zero, Act.put, List.setIfInBounds_toArray, List.set_cons_zero, List.set_cons_succ])
        refine wpAnyH_done (by kernel_rfl) ?_ _
        go_wp2_with fail
        go_meet
        case rel =>
            refine ⟨_, _, rfl, ⟨_, _, _, rfl⟩, ⟨_, _, _, rfl⟩, Dy.set1 HD7.out _, Dy.aside HE7.out (by omega) _ _, ?_, ?_, OU, ?_, ((hS4.alloc _).kept HG7.out (fun k hk => by have e : gv = k := (by simpa using hk); omega) |>.set (by omega) _).mono (by omega), (((HF2.out.row hX2 (fun k e _ => by cases e; exact .inl rfl)).alloc _).row HG7.out (fun k e _ => .inr (.inr e))).put _ _ _ (fun hh => absurd hh (by omega))⟩
            · obtain ⟨ys, hy, hr⟩ := RU.out
              exact ⟨ys, hy, (rd_put (rd_gr (rd_gr (rd_gr hr hX2 (fun a n c e => by cases e; intro e; exact HNE.out.2.1 (by simpa using e.symm))) (World.grownBy_alloc w4 _ none) (fun a n c e => by simp)) HG7.out (fun a n c e => by cases e; intro e; exact HNE.out.1 (by simpa using e.symm))) (m := w.heap.size) (fun a n c e => by cases e; show gu ≠ _; omega) _ _).mono (by simp)⟩
            · exact ⟨ls ++ [(t3, a3, s4)], by simp; omega, rdE_mono (rdE_put (ownE_rd HO7.out) (m := w.heap.size) (fun a n c e => by cases e; show g7 ≠ _; rcases HGR.out with h | h <;> omega) _ _) (by simp)⟩
            · intro a n c e
              cases e
              show g7 = gv ∨ _
              rcases HGR.out with h | h
              · exact .inl h
              · exact .inr (by show _ < g7; omega)
      refine AllReadyH.cons rfl (fun K hK => ?_) AllReadyH.nil
      go_simp
      (refine (word_any C b _ _ hS3 (by omega)).mono ?_; rintro e w4 ⟨s4, rfl, hs4, hS4, hG4⟩; have hX4 := grownBy_trans hX2 hG4; clear hX2 hS3 hG4 c1 f1; have hX2 := hX4; clear hX4; have c1 := (dy_gr HD2.out hX2 (by omega)).1.2; have f1 := (dy_gr HD2.out hX2 (by omega)).2 1; have HV4 : Hid (OwnE w4 Bv (.slice (some ⟨gv, 0, none⟩) ls.length cv) ls) := ownE_same HV2.out (fun k e => by cases e; exact hX2.block gv (by omega) (fun e => HNE.out.2.2 (by simpa using e))); have hz4 := hX2.size; have g1 := cell_on (below_alloc w4 (.cells #[.int .i64 t3, .int .i64 a3, .string s4] 60)) c1; have g2 := (Dy.on (dy_gr HD2.out hX2 (by omega)) (below_alloc w4 (.cells #[.int .i64 t3, .int .i64 a3, .string s4] 60))).2 1)
      go_wp2_with fail
      refine hK.out _ _ trivial (fun hHeld => ?_)
      clear hK K
      (try simp only [List.getElem_toArray, List.getElem_cons_succ, List.getElem_cons_zero, Act.put, List.setIfInBounds_toArray, List.set_cons_zero, List.set_cons_succ])
      refine wpAnyH_take (i := 6) (v := (.agg #[.int .i64 t3, .int .i64 a3, .string s4])) rfl (by kernel_rfl) (by kernel_rfl) (by kernel_rfl) (fun _ _ _ h => h) (Or.inl ⟨by rfl, by intro w hSw; go_simp⟩) hHeld ?_
      simp only [List.getElem_toArray, List.getElem_cons_succ, List.getElem_cons_zero, Act.put, List.setIfInBounds_toArray, List.set_cons_zero, List.set_cons_succ]
      refine wpAnyH_ready (rs := [1, 7]) (by kernel_rfl) (by simp) ?_
      refine AllReadyH.cons rfl (fun K hK => ?_) ?_
      · go_simp
        refine hK.out _ _ trivial (fun hHeld => ?_)
        clear hK K
        (try simp only [List.getElem_toArray, List.getElem_cons_succ, List.getElem_cons_zero, Act.put, List.setIfInBounds_toArray, List.set_cons_zero, List.set_cons_succ])
        refine wpAnyH_ready (rs := [7]) (by kernel_rfl) (by simp) ?_
        refine AllReadyH.cons rfl (fun K hK => ?_) AllReadyH.nil
        go_simp
        refine hK.out _ _ trivial (fun hHeld => ?_)
        clear hK K
        (try simp only [List.getElem_toArray, List.getElem_cons_succ, List.getElem_cons_zero, Act.put, List.setIfInBounds_toArray, List.set_cons_zero, List.set_cons_succ])
        refine wpAnyH_ready (rs := [8]) (by kernel_rfl) (by simp) ?_
        refine AllReadyH.cons rfl (fun K hK => ?_) AllReadyH.nil
        (refine step_appendE rfl (.tmp 16) (.tmp 22) rfl Bv gv ls.length cv ls rfl rfl (OwnE.alloc HV4.out _) _ (.slice (some ⟨w4.heap.size, 0, none⟩) 1 1) [(t3, a3, s4)] rfl (three_rd w4 t3 a3 s4) (fun n c e => by cases e) (by simp; omega) (by first | omega | (simp; omega)) ?_; intro g7 c7 w7 ho7 hgr7 hg7; have HO7 : Hid (OwnE w7 Bv (.slice (some ⟨g7, 0, none⟩) (ls.length + 1) c7) (ls ++ [(t3, a3, s4)])) := ho7; have HGR : Hid (g7 = gv ∨ w4.heap.size ≤ g7) := hgr7.imp id (fun h => (by simp at h; omega)); have hz7 := hg7.size; rw [World.size_alloc] at hz7; have HD7 : Hid (Dy w7 w.heap.size _ _) := (Dy.on (dy_gr HD2.out hX2 (by omega)) (below_alloc _ _)).grown hg7 (by simp; omega); have HE7 : Hid (Dy w7 (w.heap.size + 1) _ _) := (Dy.on (dy_gr HE2.out hX2 (by omega)) (below_alloc _ _)).grown hg7 (by simp; omega); have h71 := HD7.out.1.2; have h7f := HD7.out.2 1; have HG7 : Hid ((w4.alloc (.cells #[.int .i64 t3, .int .i64 a3, .string s4] 60)).grownBy w7 (some gv)) := hg7; clear ho7 hgr7 hg7)
        refine hK.out _ _ trivial (fun hHeld => ?_)
        clear hK K
        (try simp only [List.getElem_toArray, List.getElem_cons_succ, List.getElem_cons_zero, Act.put, List.setIfInBounds_toArray, List.set_cons_zero, List.set_cons_succ])
        refine wpAnyH_take (i := 9) (v := (.pointer (some ⟨w.heap.size, 1, none⟩))) rfl (by kernel_rfl) (by kernel_rfl) (by kernel_rfl) (fun _ _ _ h => h) (Or.inl ⟨by rfl, by intro w hSw; go_simp⟩) hHeld ?_
        simp only [List.getElem_toArray, List.getElem_cons_succ, List.getElem_cons_zero, Act.put, List.setIfInBounds_toArray, List.set_cons_zero, List.set_cons_succ]
        refine wpAnyH_ready (rs := [10]) (by kernel_rfl) (by simp) ?_
        refine AllReadyH.cons rfl (fun K hK => ?_) AllReadyH.nil
        go_simp
        refine hK.out _ _ trivial (fun hHeld => ?_)
        clear hK K
        (try simp only [List.getElem_toArray, List.getElem_cons_succ, List.getElem_cons_zero, Act.put, List.setIfInBounds_toArray, List.set_cons_zero, List.set_cons_succ])
        refine wpAnyH_done (by kernel_rfl) ?_ _
        go_wp2_with fail
        go_meet
        case rel =>
            refine ⟨_, _, rfl, ⟨_, _, _, rfl⟩, ⟨_, _, _, rfl⟩, Dy.set1 HD7.out _, Dy.aside HE7.out (by omega) _ _, ?_, ?_, OU, ?_, ((hS4.alloc _).kept HG7.out (fun k hk => by have e : gv = k := (by simpa using hk); omega) |>.set (by omega) _).mono (by omega), (((HF2.out.row hX2 (fun k e _ => by cases e; exact .inl rfl)).alloc _).row HG7.out (fun k e _ => .inr (.inr e))).put _ _ _ (fun hh => absurd hh (by omega))⟩
            · obtain ⟨ys, hy, hr⟩ := RU.out
              exact ⟨ys, hy, (rd_put (rd_gr (rd_gr (rd_gr hr hX2 (fun a n c e => by cases e; intro e; exact HNE.out.2.1 (by simpa using e.symm))) (World.grownBy_alloc w4 _ none) (fun a n c e => by simp)) HG7.out (fun a n c e => by cases e; intro e; exact HNE.out.1 (by simpa using e.symm))) (m := w.heap.size) (fun a n c e => by cases e; show gu ≠ _; omega) _ _).mono (by simp)⟩
            · exact ⟨ls ++ [(t3, a3, s4)], by simp; omega, rdE_mono (rdE_put (ownE_rd HO7.out) (m := w.heap.size) (fun a n c e => by cases e; show g7 ≠ _; rcases HGR.out with h | h <;> omega) _ _) (by simp)⟩
            · intro a n c e
              cases e
              show g7 = gv ∨ _
              rcases HGR.out with h | h
              · exact .inl h
              · exact .inr (by show _ < g7; omega)
      refine AllReadyH.cons rfl (fun K hK => ?_) AllReadyH.nil
      go_simp
      refine hK.out _ _ trivial (fun hHeld => ?_)
      clear hK K
      (try simp only [List.getElem_toArray, List.getElem_cons_succ, List.getElem_cons_zero, Act.put, List.setIfInBounds_toArray, List.set_cons_zero, List.set_cons_succ])
      refine wpAnyH_ready (rs := [1]) (by kernel_rfl) (by simp) ?_
      refine AllReadyH.cons rfl (fun K hK => ?_) AllReadyH.nil
      go_simp
      refine hK.out _ _ trivial (fun hHeld => ?_)
      clear hK K
      (try simp only [List.getElem_toArray, List.getElem_cons_succ, List.getElem_cons_zero, Act.put, List.setIfInBounds_toArray, List.set_cons_zero, List.set_cons_succ])
      refine wpAnyH_ready (rs := [8]) (by kernel_rfl) (by simp) ?_
      refine AllReadyH.cons rfl (fun K hK => ?_) AllReadyH.nil
      (refine step_appendE rfl (.tmp 16) (.tmp 22) rfl Bv gv ls.length cv ls rfl rfl (OwnE.alloc HV4.out _) _ (.slice (some ⟨w4.heap.size, 0, none⟩) 1 1) [(t3, a3, s4)] rfl (three_rd w4 t3 a3 s4) (fun n c e => by cases e) (by simp; omega) (by first | omega | (simp; omega)) ?_; intro g7 c7 w7 ho7 hgr7 hg7; have HO7 : Hid (OwnE w7 Bv (.slice (some ⟨g7, 0, none⟩) (ls.length + 1) c7) (ls ++ [(t3, a3, s4)])) := ho7; have HGR : Hid (g7 = gv ∨ w4.heap.size ≤ g7) := hgr7.imp id (fun h => (by simp at h; omega)); have hz7 := hg7.size; rw [World.size_alloc] at hz7; have HD7 : Hid (Dy w7 w.heap.size _ _) := (Dy.on (dy_gr HD2.out hX2 (by omega)) (below_alloc _ _)).grown hg7 (by simp; omega); have HE7 : Hid (Dy w7 (w.heap.size + 1) _ _) := (Dy.on (dy_gr HE2.out hX2 (by omega)) (below_alloc _ _)).grown hg7 (by simp; omega); have h71 := HD7.out.1.2; have h7f := HD7.out.2 1; have HG7 : Hid ((w4.alloc (.cells #[.int .i64 t3, .int .i64 a3, .string s4] 60)).grownBy w7 (some gv)) := hg7; clear ho7 hgr7 hg7)
      refine hK.out _ _ trivial (fun hHeld => ?_)
      clear hK K
      (try simp only [List.getElem_toArray, List.getElem_cons_succ, List.getElem_cons_zero, Act.put, List.setIfInBounds_toArray, List.set_cons_zero, List.set_cons_succ])
      refine wpAnyH_take (i := 9) (v := (.pointer (some ⟨w.heap.size, 1, none⟩))) rfl (by kernel_rfl) (by kernel_rfl) (by kernel_rfl) (fun _ _ _ h => h) (Or.inl ⟨by rfl, by intro w hSw; go_simp⟩) hHeld ?_
      simp only [List.getElem_toArray, List.getElem_cons_succ, List.getElem_cons_zero, Act.put, List.setIfInBounds_toArray, List.set_cons_zero, List.set_cons_succ]
      refine wpAnyH_ready (rs := [10]) (by kernel_rfl) (by simp) ?_
      refine AllReadyH.cons rfl (fun K hK => ?_) AllReadyH.nil
      go_simp
      refine hK.out _ _ trivial (fun hHeld => ?_)
      clear hK K
      (try simp only [List.getElem_toArray, List.getElem_cons_succ, List.getElem_cons_zero, Act.put, List.setIfInBounds_toArray, List.set_cons_zero, List.set_cons_succ])
      refine wpAnyH_done (by kernel_rfl) ?_ _
      go_wp2_with fail
      go_meet
      case rel =>
          refine ⟨_, _, rfl, ⟨_, _, _, rfl⟩, ⟨_, _, _, rfl⟩, Dy.set1 HD7.out _, Dy.aside HE7.out (by omega) _ _, ?_, ?_, OU, ?_, ((hS4.alloc _).kept HG7.out (fun k hk => by have e : gv = k := (by simpa using hk); omega) |>.set (by omega) _).mono (by omega), (((HF2.out.row hX2 (fun k e _ => by cases e; exact .inl rfl)).alloc _).row HG7.out (fun k e _ => .inr (.inr e))).put _ _ _ (fun hh => absurd hh (by omega))⟩
          · obtain ⟨ys, hy, hr⟩ := RU.out
            exact ⟨ys, hy, (rd_put (rd_gr (rd_gr (rd_gr hr hX2 (fun a n c e => by cases e; intro e; exact HNE.out.2.1 (by simpa using e.symm))) (World.grownBy_alloc w4 _ none) (fun a n c e => by simp)) HG7.out (fun a n c e => by cases e; intro e; exact HNE.out.1 (by simpa using e.symm))) (m := w.heap.size) (fun a n c e => by cases e; show gu ≠ _; omega) _ _).mono (by simp)⟩
          · exact ⟨ls ++ [(t3, a3, s4)], by simp; omega, rdE_mono (rdE_put (ownE_rd HO7.out) (m := w.heap.size) (fun a n c e => by cases e; show g7 ≠ _; rcases HGR.out with h | h <;> omega) _ _) (by simp)⟩
          · intro a n c e
            cases e
            show g7 = gv ∨ _
            rcases HGR.out with h | h
            · exact .inl h
            · exact .inr (by show _ < g7; omega)
    case pe =>
      subst h2
      obtain ⟨⟨c0, c1⟩, cf⟩ := HD2.out
      clear c0 cf
      by_cases hp : 0 < ls.length
      · have p0 : (0 : Int) < (ls.length : Int) := by omega
        have hX2 := gr_drew (World.grownBy.refl w2 (some b))
        have HC : Hid (∀ wx, w2.grownBy wx (some b) → wx.cell? ⟨w.heap.size, 1, none⟩ = some (.slice (some ⟨gv, 0, none⟩) ls.length cv)) := fun wx hg => (dy_gr HD2.out hg (by omega)).1.2
        go_wp2_with fail
        replace hS2 : Src C w2.drew b _ := hS2
        refine wp_region_held_drew (S := fun w' => w'.cell? ⟨w.heap.size, 1, none⟩ = some (.slice (some ⟨gv, 0, none⟩) ls.length cv)) (by kernel_rfl) (HC.out _ hX2) (fun hHeld => ?_)
        refine wpAnyH_take (i := 0) (v := (.pointer (some ⟨w.heap.size, 1, none⟩))) rfl (by kernel_rfl) (by kernel_rfl) (by kernel_rfl) (fun _ _ _ h => h) (Or.inl ⟨by rfl, by intro w hSw; have s0 := hSw; go_simp⟩) hHeld ?_
        simp only [List.getElem_toArray, List.getElem_cons_zero, Act.put, List.setIfInBounds_toArray, List.set_cons_zero, List.set_cons_succ]
        refine wpAnyH_take (i := 1) (v := (.slice (some ⟨gv, 0, none⟩) ls.length cv)) rfl (by kernel_rfl) (by kernel_rfl) (by kernel_rfl) (fun _ _ _ h => h) (Or.inl ⟨by rfl, by intro w hSw; have s0 := hSw; go_simp⟩) hHeld ?_
        simp only [List.getElem_toArray, List.getElem_cons_succ, List.getElem_cons_zero, Act.put, List.setIfInBounds_toArray, List.set_cons_zero, List.set_cons_succ]
        refine wpAnyH_take (i := 2) (v := (.pointer (some ⟨b, 0, none⟩))) rfl (by kernel_rfl) (by kernel_rfl) (by kernel_rfl) (fun _ _ _ h => h) (Or.inl ⟨by rfl, by intro w hSw; have s0 := hSw; go_simp⟩) hHeld ?_
        simp only [List.getElem_toArray, List.getElem_cons_succ, List.getElem_cons_zero, Act.put, List.setIfInBounds_toArray, List.set_cons_zero, List.set_cons_succ]
        refine wpAnyH_ready (rs := [3]) (by kernel_rfl) (by simp) ?_
        refine AllReadyH.cons rfl (fun K hK => ?_) AllReadyH.nil
        go_simp
        (refine (srcNext_any C b _ 2 _ hS2 (by omega) (by omega) (by omega)).mono ?_; rintro e w3 ⟨r3, rfl, r30, r31, hS3, hG3⟩; obtain ⟨m, hm, hm2⟩ : ∃ m : Nat, 200 + r3 = (m : Int) ∧ m ≤ 201 := ⟨(200 + r3).toNat, by omega, by omega⟩; obtain rfl : r3 = (m : Int) - 200 := (by omega); have e200 : 200 + ((m : Int) - 200) = (m : Int) := (by omega); have m1 : IntKind.i64.wrap (m : Int) = (m : Int) := wrap_in (by omega) (by omega); have hX3 := grownBy_trans hX2 hG3; clear hX2 hS2 hG3 hm; have hX2 := hX3; clear hX3)
        go_wp2_with fail
        refine hK.out _ _ (HC.out _ hX2) (fun hHeld => ?_)
        clear hK K
        (try simp only [List.getElem_toArray, List.getElem_cons_succ, List.getElem_cons_zero, Act.put, List.setIfInBounds_toArray, List.set_cons_zero, List.set_cons_succ])
        refine wpAnyH_take (i := 4) (v := (.int .i64 (m : Int))) rfl (by kernel_rfl) (by kernel_rfl) (by kernel_rfl) (fun _ _ _ h => h) (Or.inl ⟨by rfl, by intro w hSw; have s0 := hSw; go_simp⟩) hHeld ?_
        simp only [List.getElem_toArray, List.getElem_cons_succ, List.getElem_cons_zero, Act.put, List.setIfInBounds_toArray, List.set_cons_zero, List.set_cons_succ]
        refine wpAnyH_ready (rs := [5]) (by kernel_rfl) (by simp) ?_
        refine AllReadyH.cons rfl (fun K hK => ?_) AllReadyH.nil
        (refine step_makeB rfl (.tmp 35) (.tmp 35) rfl m rfl rfl (by omega) ?_; intro w4 hr4 hg4; have hst := run_string_of hr4; have hsz := ofInts_size (List.replicate m (0 : Int)); generalize ofInts (List.replicate m (0 : Int)) = s4 at hst hsz; have hX4 := grownBy_trans hX2 (gr_none hg4 (row := some b)); have hS4 := hS3.grown hg4; clear hX2 hr4 hg4; have hX2 := hX4; clear hX4)
        refine hK.out _ _ (HC.out _ hX2) (fun hHeld => ?_)
        clear hK K
        (try simp only [List.getElem_toArray, List.getElem_cons_succ, List.getElem_cons_zero, Act.put, List.setIfInBounds_toArray, List.set_cons_zero, List.set_cons_succ])
        refine wpAnyH_ready (rs := [6]) (by kernel_rfl) (by simp) ?_
        refine AllReadyH.cons rfl (fun K hK => ?_) AllReadyH.nil
        go_simp
        refine hK.out _ _ (HC.out _ hX2) (fun hHeld => ?_)
        clear hK K
        (try simp only [List.getElem_toArray, List.getElem_cons_succ, List.getElem_cons_zero, Act.put, List.setIfInBounds_toArray, List.set_cons_zero, List.set_cons_succ])
        have HV4 : Hid (OwnE w4 Bv (.slice (some ⟨gv, 0, none⟩) ls.length cv) ls) := ownE_same HV2.out (fun k e => by cases e; exact hX2.block gv (by omega) (fun e => HNE.out.2.2 (by simpa using e)))
        have hz4 := hX2.size
        have d2 : w4.cell? ⟨gv, 2, none⟩ = some (.string (enAt ls 0).2.2) := by
          obtain ⟨g', c', e, _, _, hcc, _⟩ := HV4.out.some (fun e => by cases e)
          cases e
          exact hcc _ _ (enCs_at hp).2.2
        have f2 : w4.frozen? ⟨gv, 2, none⟩ = false := ownE_free HV4.out 2
        refine wpAnyH_take (i := 7) (v := (.pointer (some ⟨gv, 0, none⟩))) rfl (by kernel_rfl) (by kernel_rfl) (by kernel_rfl) (fun _ _ _ h => h) (Or.inl ⟨by rfl, by intro w hSw; have s0 := hSw; go_simp⟩) hHeld ?_
        simp only [List.getElem_toArray, List.getElem_cons_succ, List.getElem_cons_zero, Act.put, List.setIfInBounds_toArray, List.set_cons_zero, List.set_cons_succ]
        refine wpAnyH_take (i := 8) (v := (.pointer (some ⟨gv, 2, none⟩))) rfl (by kernel_rfl) (by kernel_rfl) (by kernel_rfl) (fun _ _ _ h => h) (Or.inl ⟨by rfl, by intro w hSw; have s0 := hSw; go_simp⟩) hHeld ?_
        simp only [List.getElem_toArray, List.getElem_cons_succ, List.getElem_cons_zero, Act.put, List.setIfInBounds_toArray, List.set_cons_zero, List.set_cons_succ]
        refine wpAnyH_ready (rs := [9]) (by kernel_rfl) (by simp) ?_
        refine AllReadyH.cons rfl (fun K hK => ?_) AllReadyH.nil
        go_simp
        refine hK.out _ _ ((World.cell?_setCells_out gv [_] _ _ _ (fun e => absurd e (by show w.heap.size ≠ gv; omega))).trans (HC.out _ hX2)) (fun hHeld => ?_)
        clear hK K
        (try simp only [List.getElem_toArray, List.getElem_cons_succ, List.getElem_cons_zero, Act.put, List.setIfInBounds_toArray, List.set_cons_zero, List.set_cons_succ])
        refine wpAnyH_done (by kernel_rfl) ?_ _
        go_wp2_with fail
        go_meet
        case rel =>
          refine ⟨_, _, rfl, ⟨_, _, _, rfl⟩, ⟨_, _, _, rfl⟩, Dy.aside (dy_gr HD2.out hX2 (by omega)) (by omega) _ _, Dy.aside (dy_gr HE2.out hX2 (by omega)) (by omega) _ _, ?_, ⟨_, ?_, rdE_first HV4.out hp s4⟩, OU, OV, (hS4.set hbv _).mono (by omega), (HF2.out.row hX2 (fun k e _ => by cases e; exact .inl rfl)).put _ _ _ (fun _ => .inr (.inr rfl))⟩
          · obtain ⟨ys, hy, hr⟩ := RU.out
            exact ⟨ys, hy, (rd_put (rd_gr hr hX2 (fun a n c e => by cases e; intro e; exact HNE.out.2.1 (by simpa using e.symm))) (m := gv) (fun a n c e => by cases e; exact HNE.out.1) _ _).mono (by simp)⟩
          · simp; omega
      · have p0 : ¬ (0 : Int) < (ls.length : Int) := by omega
        go_wp2_with fail
        go_meet
        case rel => exact ⟨_, _, rfl, ⟨_, _, _, rfl⟩, ⟨_, _, _, rfl⟩, HD2, HE2, RU, RV, OU, OV, hS2.mono (by omega), HF2⟩
    case pg =>
      subst h3
      have HC : Hid (∀ wx, w2.grownBy wx (some b) → wx.cell? ⟨w.heap.size, 0, none⟩ = some (.slice (some ⟨gu, 0, none⟩) 16 cu)) := fun wx hg => (dy_gr HD2.out hg (by omega)).1.1
      have hX2 := gr_drew (World.grownBy.refl w2 (some b))
      have hX0 := hX2
      go_wp2_with fail
      replace hS2 : Src C w2.drew b _ := hS2
      go_region_held2 (fun w' => w'.cell? ⟨w.heap.size, 0, none⟩ = some (.slice (some ⟨gu, 0, none⟩) 16 cu)) (first | exact HC.out _ hX2 | exact (World.cell?_setCells_out gu [_] _ _ _ (fun e => absurd e (by show w.heap.size ≠ gu; omega))).trans (HC.out _ hX2)) (first | (go_at_call 30; refine (srcNext_any C b _ 3 _ hS2 (by omega) (by omega) (by omega)).mono ?_; rintro e w3 ⟨r3, rfl, r30, r31, hS3, hG3⟩; obtain ⟨k3, rfl⟩ : ∃ k : Nat, r3 = (k : Int) := ⟨r3.toNat, by omega⟩; have k31 : (k3 : Int) < 16 := (by omega); have hX3 := grownBy_trans hX2 hG3; clear hX2 hS2 hG3; have hX2 := hX3; clear hX3; have HU3 : Hid (Own 3 w3 Bu (.slice (some ⟨gu, 0, none⟩) 16 cu) (xs.map (Value.int .i64))) := own_same HU2.out (fun k e => by cases e; exact hX2.block gu (by omega) (fun e => HNE.out.2.1 (by simpa using e))); have f3 := own_free HU3.out k3; have d3 := own_cell HU3.out (k := k3) (by rw [List.length_map]; omega)))
      have hz3 := hX2.size
      go_wp2_with fail
      go_meet
      case rel =>
        refine ⟨_, _, rfl, ⟨_, _, _, rfl⟩, ⟨_, _, _, rfl⟩, Dy.aside (dy_gr HD2.out hX2 (by omega)) (by omega) _ _, Dy.aside (dy_gr HE2.out hX2 (by omega)) (by omega) _ _, ?_, ?_, OU, OV, (hS3.set hbu _).mono (by omega), (HF2.out.row hX2 (fun k e _ => by cases e; exact .inl rfl)).put _ _ _ (fun _ => .inr (.inl rfl))⟩
        · refine ⟨xs.set k3 1000000000000, by simp; omega, ?_⟩
          have := own_set HU3.out k3 (.int .i64 1000000000000)
          rw [← List.map_set] at this
          exact this.rd
        · obtain ⟨ms, hm, hr⟩ := RV.out
          exact ⟨ms, hm, rdE_mono (rdE_put (rdE_gr hr hX2 (fun a n c e => by cases e; intro e; exact HNE.out.2.2 (by simpa using e.symm))) (m := gu) (fun a n c e => by cases e; exact fun e => HNE.out.1 e.symm) _ _) (by simp)⟩
    case pi =>
      subst h4
      obtain ⟨i0, hi, hz0, hz1, hz2'⟩ := info_parts infoEnt
      obtain ⟨⟨c0, c1⟩, cf⟩ := HD2.out
      have f1 := cf 1
      have f3 := own_free HU2.out 0
      have d3 := own_cell HU2.out (k := 0) (by rw [List.length_map]; omega)
      obtain ⟨W4, hW4⟩ : ∃ W4, ((w2.alloc (.cells #[] 60)).setCell ⟨w.heap.size, 1, none⟩ (.slice (some ⟨w2.heap.size, 0, none⟩) 0 0)).setCell ⟨gu, 0, none⟩ (.int .i64 300) = W4 := ⟨_, rfl⟩
      have hz4 : W4.heap.size = w2.heap.size + 1 := by rw [← hW4]; simp
      have HD4 : Hid (Dy W4 w.heap.size (.slice (some ⟨gu, 0, none⟩) 16 cu) (.slice (some ⟨w2.heap.size, 0, none⟩) 0 0)) := by rw [← hW4]; exact Dy.aside (Dy.set1 (HD2.out.on (below_alloc _ _)) _) (by omega) _ _
      have HE4 : Hid (Dy W4 (w.heap.size + 1) (.slice none 0 0) (.slice none 0 0)) := by rw [← hW4]; exact Dy.aside (Dy.aside (HE2.out.on (below_alloc _ _)) (by omega) _ _) (by omega) _ _
      have HO4 : Hid (OwnE W4 w2.heap.size (.slice (some ⟨w2.heap.size, 0, none⟩) 0 0) []) := by
        rw [← hW4]
        have : OwnE (w2.alloc (.cells #[] 60)) w2.heap.size (.slice (some ⟨w2.heap.size, 0, none⟩) 0 0) [] := World.ownsRow_lit w2 #[] 0 (Nat.le_refl _) (by decide) (by simp)
        exact OwnE.setK (OwnE.setK this 1 _ (show w.heap.size < w2.heap.size by omega)) 0 _ (show gu < w2.heap.size by omega)
      have HRU : Hid (∃ ys : List Int, ys.length ≤ 17 ∧ Rd W4.heap.size W4 (.slice (some ⟨gu, 0, none⟩) 16 cu) (ys.map (Value.int .i64))) := by
        have h1 : Own 3 ((w2.alloc (.cells #[] 60)).setCell ⟨w.heap.size, 1, none⟩ (.slice (some ⟨w2.heap.size, 0, none⟩) 0 0)) Bu (.slice (some ⟨gu, 0, none⟩) 16 cu) (xs.map (Value.int .i64)) := own_same HU2.out (fun k e => by cases e; exact (heap_setCell_other _ ⟨w.heap.size, 1, none⟩ gu _ (by show gu ≠ w.heap.size; omega)).trans (Below.heap_alloc w2 _ gu (by omega)))
        refine ⟨xs.set 0 300, by simp; omega, ?_⟩
        have := own_set h1 0 (.int .i64 300)
        rw [← List.map_set, hW4] at this
        exact this.rd
      have hS4 : Src C W4 b (A + 3) := by rw [← hW4]; exact ((hS2.alloc _).set (by omega) _).set hbu _
      have HF4 : Hid (Frm w W4 (fun i => i = b ∨ (Value.slice (some ⟨gu, 0, none⟩) 16 cu).ownBlock = some i ∨ (Value.slice (some ⟨gv, 0, none⟩) ls.length cv).ownBlock = some i)) := by rw [← hW4]; exact ((HF2.out.alloc _).put _ _ _ (fun hh => absurd hh (by omega))).put _ _ _ (fun _ => .inr (.inl rfl))
      have e0 : (w2.alloc (.cells #[] 60)).setCell ⟨w.heap.size, 1, none⟩ (.slice (some ⟨w2.heap.size, 0, none⟩) 0 0) = (w2.alloc (.cells #[] 60)).setCell ⟨w.heap.size, 1, none⟩ (.slice (some ⟨w2.heap.size, 0, none⟩) 0 0) := rfl
      have k0 : ((w2.alloc (.cells #[] 60)).setCell ⟨w.heap.size, 1, none⟩ (.slice (some ⟨w2.heap.size, 0, none⟩) 0 0)).cell? ⟨w.heap.size, 0, none⟩ = some (.slice (some ⟨gu, 0, none⟩) 16 cu) := (Dy.set1 (HD2.out.on (below_alloc _ _)) _).1.1
      have a1 : (w2.alloc (.cells #[] 60)).cell? ⟨w.heap.size, 1, none⟩ = some (.slice (some ⟨gv, 0, none⟩) ls.length cv) := (HD2.out.on (below_alloc _ _)).1.2
      have a2 : (w2.alloc (.cells #[] 60)).frozen? ⟨w.heap.size, 1, none⟩ = false := (HD2.out.on (below_alloc _ _)).2 1
      have k1 : ((w2.alloc (.cells #[] 60)).setCell ⟨w.heap.size, 1, none⟩ (.slice (some ⟨w2.heap.size, 0, none⟩) 0 0)).frozen? ⟨gu, 0, none⟩ = false := (World.frozen?_of_block (a := ⟨gu, 0, none⟩) ((heap_setCell_other _ ⟨w.heap.size, 1, none⟩ gu _ (by show gu ≠ w.heap.size; omega)).trans (Below.heap_alloc w2 _ gu (by omega)))).trans f3
      have k2 : ((w2.alloc (.cells #[] 60)).setCell ⟨w.heap.size, 1, none⟩ (.slice (some ⟨w2.heap.size, 0, none⟩) 0 0)).cell? ⟨gu, 0, none⟩ = _ := (World.cell?_of_block (a := ⟨gu, 0, none⟩) ((heap_setCell_other _ ⟨w.heap.size, 1, none⟩ gu _ (by show gu ≠ w.heap.size; omega)).trans (Below.heap_alloc w2 _ gu (by omega)))).trans d3
      clear c0 c1 cf f1 f3 d3 e0
      go_upto_region 14 with fail
      clear k0 k1 k2 a1 a2
      go_wp2_with fail
      go_loopw [5] (fun t5 wr => ∃ (i : Nat) (v' : Value) (ms : List En), i ≤ 257 ∧ t5 = .int .i64 (i : Int) ∧ Hid (ms.length = i) ∧ Hid (v' ≠ .slice none 0 0) ∧ Hid (OwnE wr w2.heap.size v' ms) ∧ Hid (Dy wr w.heap.size (.slice (some ⟨gu, 0, none⟩) 16 cu) v') ∧ Hid (Dy wr (w.heap.size + 1) (.slice none 0 0) (.slice none 0 0)) ∧ Hid (∃ ys : List Int, ys.length ≤ 17 ∧ Rd wr.heap.size wr (.slice (some ⟨gu, 0, none⟩) 16 cu) (ys.map (Value.int .i64))) ∧ Hid (w2.heap.size ≤ wr.heap.size) ∧ Src C wr b (A + 3 + 3 * i) ∧ Hid (Frm w wr (fun i => i = b ∨ (Value.slice (some ⟨gu, 0, none⟩) 16 cu).ownBlock = some i ∨ (Value.slice (some ⟨gv, 0, none⟩) ls.length cv).ownBlock = some i))) (fun t5 _ => 257 - (intOf t5).toNat)
      case atStart => exact ⟨0, _, [], by omega, rfl, rfl, (fun e => by cases e), HO4, HD4, HE4, HRU, by unfold Hid; omega, hS4, HF4⟩
      case round =>
        clear HO4 HD4 HE4 HRU hS4 HF4 hW4
        obtain ⟨i, v', ms, hi2, rfl, HL, HV0, HO, HDr, HEr, HRr, HZr, hSr, HFr⟩ := hrel
        obtain ⟨g6, c6, rfl, hg6, hg6l, _⟩ := HO.out.some HV0.out
        have hLb : ms.length ≤ 257 := by have := HL.out; omega
        have hZr := HZr.out
        have a2 : (i : Int) + 1 < 9223372036854775808 := by omega
        have a4 : 1 + (i : Int) < 9223372036854775808 := by omega
        have hg6b : g6 ≠ b := by omega
        have HG6 : Hid (g6 ≠ b) := hg6b
        clear hg6b
        go_wp2_with fail
        refine (srcNext_any C b _ 2 _ hSr (by omega) (by omega) (by omega)).mono ?_
        rintro e w5 ⟨r, rfl, r0, r1, hS5, hG5⟩
        have hz5 := hG5.size
        have HD5 : Hid (Dy w5 w.heap.size _ _) := dy_gr HDr.out hG5 (by omega)
        have HE5 : Hid (Dy w5 (w.heap.size + 1) _ _) := dy_gr HEr.out hG5 (by omega)
        have HO5 : Hid (OwnE w5 w2.heap.size (.slice (some ⟨g6, 0, none⟩) ms.length c6) ms) := ownE_same HO.out (fun k e => by cases e; exact hG5.block g6 hg6l (fun e => HG6.out (by simpa using e)))
        have HR5 : Hid (∃ ys : List Int, ys.length ≤ 17 ∧ Rd w5.heap.size w5 (.slice (some ⟨gu, 0, none⟩) 16 cu) (ys.map (Value.int .i64))) := by
          obtain ⟨ys, hy, hr⟩ := HRr.out
          exact ⟨ys, hy, rd_gr hr hG5 (fun a n c e => by cases e; intro e; exact HNE.out.2.1 (by simpa using e.symm))⟩
        have HF5 : Hid (Frm w w5 (fun i => i = b ∨ (Value.slice (some ⟨gu, 0, none⟩) 16 cu).ownBlock = some i ∨ (Value.slice (some ⟨gv, 0, none⟩) ls.length cv).ownBlock = some i)) := HFr.out.row hG5 (fun k e _ => by cases e; exact .inl rfl)
        clear HO HDr HEr HRr HFr hSr hG5
        have a5 : 256 + r < 9223372036854775808 := by omega
        have a6 : 0 ≤ 256 + r := by omega
        by_cases hlt2 : (i : Int) < 256 + r
        · obtain ⟨⟨c0, c1⟩, cf⟩ := HD5.out
          have f1 := cf 1
          clear cf
          go_wp2_with (at_builtin; (refine wpList_append_own _ rfl _ _ 26 rfl w2.heap.size 60 i0 (.agg #[.int .i64 0, .int .i64 0, .string ByteArray.empty]) 3 32 Tryz.underlying26 hi hz0 hz1 hz2' rfl (by decide) _ _ _ rfl (World.ownsRow.alloc HO5.out _) ⟨w5.heap.size, 0, none⟩ 1 1 [.int .i64 (1 + (i : Int)), .int .i64 0, .string ByteArray.empty] rfl rfl (three_new _ _ _ _ _) (by simp [Value.oneCell']) (by unfold maxLen; omega) (by omega) (by first | omega | (simp; omega)) ?_))
          intro v6 w6 ho6 hg6' hv6
          have hv6' : v6 ≠ .slice none 0 0 := hv6
          have HO6 : Hid (OwnE w6 w2.heap.size v6 (ms ++ [(1 + (i : Int), 0, ByteArray.empty)])) := by
            unfold Hid OwnE
            rw [enCs_app, List.length_append]
            exact ho6
          obtain ⟨g7, c7, rfl, hg7, hg7l, _⟩ := HO6.out.some hv6'
          have e7 : (ms ++ [(1 + (i : Int), (0 : Int), ByteArray.empty)]).length = ms.length + 1 := by simp
          rw [e7] at HO6 ⊢
          clear e7
          have hz6 := hg6'.size
          rw [World.size_alloc] at hz6
          have hal := below_alloc w5 (.cells #[.int .i64 (1 + (i : Int)), .int .i64 0, .string ByteArray.empty] 60)
          have HD6 : Hid (Dy w6 w.heap.size _ _) := (HD5.out.on hal).grown hg6' (by simp [Value.ownBlock]; omega)
          have HE6 : Hid (Dy w6 (w.heap.size + 1) _ _) := (HE5.out.on hal).grown hg6' (by simp [Value.ownBlock]; omega)
          have HR6 : Hid (∃ ys : List Int, ys.length ≤ 17 ∧ Rd w6.heap.size w6 (.slice (some ⟨gu, 0, none⟩) 16 cu) (ys.map (Value.int .i64))) := by
            obtain ⟨ys, hy, hr⟩ := HR5.out
            exact ⟨ys, hy, rd_gr (rd_gr hr (World.grownBy_alloc w5 _ none) (fun a n c e => by simp)) hg6' (fun a n c e => by cases e; simp [Value.ownBlock]; omega)⟩
          have hS6 : Src C w6 b (A + 3 + 3 * i + 3) := (hS5.alloc _).kept hg6' (fun k hk => by have e : g6 = k := (by simpa [Value.ownBlock] using hk); omega)
          have HF6 : Hid (Frm w w6 (fun i => i = b ∨ (Value.slice (some ⟨gu, 0, none⟩) 16 cu).ownBlock = some i ∨ (Value.slice (some ⟨gv, 0, none⟩) ls.length cv).ownBlock = some i)) := (HF5.out.alloc _).row hg6' (fun k e hk => by have e2 : g6 = k := (by simpa [Value.ownBlock] using e); omega)
          clear ho6 hg6' hv6 HD5 HE5 HR5 HF5 HO5 hS5 c0 c1 f1
          obtain ⟨⟨c0, c1⟩, cf⟩ := HD6.out
          have f1 := cf 1
          clear cf
          go_wp2_with fail
          go_roundw
          case rel =>
            refine ⟨i + 1, _, _, by omega, by go_num, ?_, ?_, OwnE.setK HO6.out _ _ (by omega), Dy.set1 HD6.out _, Dy.aside HE6.out (by omega) _ _, ?_, ?_, (hS6.set (by omega) _).mono (by omega), HF6.out.put _ _ _ (fun hh => absurd hh (by omega))⟩
            · have := HL.out; unfold Hid; simp; omega
            · exact fun e => by cases e
            · obtain ⟨ys, hy, hr⟩ := HR6.out
              exact ⟨ys, hy, (rd_put hr (m := w.heap.size) (fun a n c e => by cases e; show gu ≠ _; omega) _ _).mono (by simp)⟩
            · unfold Hid; simp; omega
          case measure => simp [intOf]; omega
        · have hd : decide ((i : Int) < 256 + r) = false := by simpa using hlt2
          go_wp2_with fail
          go_meet
          case rel =>
            refine ⟨_, _, rfl, ⟨_, _, _, rfl⟩, ⟨_, _, _, rfl⟩, HD5, HE5, HR5, ⟨ms, by omega, ownE_rd HO5.out⟩, OU, (fun a n c e => by cases e; exact .inr (by show _ < g6; omega)), hS5.mono (by omega), HF5⟩
    case pj =>
      have t0 : (q == 0) = false := by simpa using h0
      have t1 : (q == 1) = false := by simpa using h1
      have t2 : (q == 2) = false := by simpa using h2
      have t3 : (q == 3) = false := by simpa using h3
      have t4 : (q == 4) = false := by simpa using h4
      clear h0 h1 h2 h3 h4
      go_wp2_with fail
      go_meet
      case rel => exact ⟨_, _, rfl, ⟨_, _, _, rfl⟩, ⟨_, _, _, rfl⟩, HD2, HE2, RU, RV, OU, OV, hS2.mono (by omega), HF2⟩
  case rest =>
    obtain ⟨u', v', rfl, ⟨ua, un, uc, rfl⟩, ⟨va, vn, vc, rfl⟩, HDx, HEx, RUx, RVx, OUx, OVx, hSx, HFx⟩ := hcut
    obtain ⟨⟨c0, c1⟩, _⟩ := HDx.out
    obtain ⟨⟨e0, e1⟩, ef⟩ := HEx.out
    have f0 := ef 0
    have f1 := ef 1
    have hp := (Dy.set1 (Dy.set0 HEx.out (.slice ua un uc)) (.slice va vn vc)).1
    have HP : Hid _ := hp
    clear hp ef
    go_wp2_with fail
    refine bodyPost_ret (v := .agg #[.slice ua un uc, .slice va vn vc]) ?_ rfl ⟨_, _, rfl, ?_, ?_, ?_, ?_, ⟨_, _, _, rfl⟩, ⟨_, _, _, rfl⟩, (hSx.set (by omega) _).set (by omega) _, (HFx.out.put _ _ _ (fun hh => absurd hh (by omega))).put _ _ _ (fun hh => absurd hh (by omega))⟩
    · simp [results, Tryz.results45, go_sem, HP.out.1, HP.out.2]
    · obtain ⟨ys, hy, hr⟩ := RUx.out
      have hnb : ∀ a n c, Value.slice ua un uc = .slice (some a) n c → a.block ≠ w.heap.size + 1 := fun a n c e => by rcases OUx.out a n c e with h | h <;> omega
      exact ⟨ys, hy, (rd_put (rd_put hr hnb _ _) hnb _ _).mono (by simp)⟩
    · obtain ⟨ms, hy, hr⟩ := RVx.out
      have hnb : ∀ a n c, Value.slice va vn vc = .slice (some a) n c → a.block ≠ w.heap.size + 1 := fun a n c e => by rcases OVx.out a n c e with h | h <;> omega
      exact ⟨ms, hy, rdE_mono (rdE_put (rdE_put hr hnb _ _) hnb _ _) (by simp)⟩
    · intro a n c e
      rcases OUx.out a n c e with h | h
      · exact .inl (by rw [h]; rfl)
      · exact .inr (by omega)
    · intro a n c e
      rcases OVx.out a n c e with h | h
      · exact .inl (by rw [h]; rfl)
      · exact .inr (by omega)

end Go.Proofs.YtfnlnigeaioocaaGreat
