/- Two drawn values: what the specification's l03Draw answers. -/
import Derived.Test.YtfnlnigeaioocaaGreatQDrawBent
namespace Go.Proofs.YtfnlnigeaioocaaGreat
open Go.RowKit
set_option linter.unusedVariables false

theorem frm_below {w w' : World} (h : Below w.heap.size w w') (P : Nat → Prop) : Frm w w' P := Frm.gr (grownBy_below h (Nat.le_refl _) none) (fun k e => by cases e)
theorem frmE {w w' : World} {P : Nat → Prop} {B : Nat} {v : Value} {ls : List En} (hc : Frm w w' P) (h : OwnE w B v ls) (hn : ∀ k, v.ownBlock = some k → ¬ P k) : OwnE w' B v ls := ownE_same h (fun k e => hc.same k (h.lt k e).2 (hn k e))
theorem frmO {w w' : World} {P : Nat → Prop} {T : TypeId} {B : Nat} {v : Value} {cs : List Value} (hc : Frm w w' P) (h : Own T w B v cs) (hn : ∀ k, v.ownBlock = some k → ¬ P k) : Own T w' B v cs := own_same h (fun k e => hc.same k (h.blk k e) (hn k e))
theorem frmR {w w' : World} {P : Nat → Prop} {C : Nat} {v : Value} {cs : List Value} (hc : Frm w w' P) (h : Rd C w v cs) (hC : C ≤ w.heap.size) (hn : ∀ a n c, v = .slice (some a) n c → a.block < C → ¬ P a.block) : Rd C w' v cs := by
  obtain ⟨ao, cap, rfl, h1, h2, h3, h4⟩ := h
  refine ⟨ao, cap, rfl, h1, h2, h3, fun hp => ?_⟩
  obtain ⟨g, off, rfl, hgl, hcc⟩ := h4 hp
  exact ⟨g, off, rfl, hgl, fun j u hj => (World.cell?_of_block (a := ⟨g, off + j, none⟩) (hc.same g (by omega) (hn _ _ _ rfl hgl))).trans (hcc j u hj)⟩
theorem frmP {w w' : World} {P : Nat → Prop} {C : Nat} {v : Value} {ls : List En} (hc : Frm w w' P) (h : RdE C w v ls) (hC : C ≤ w.heap.size) (hn : ∀ a n c, v = .slice (some a) n c → a.block < C → ¬ P a.block) : RdE C w' v ls := by
  obtain ⟨ao, cap, rfl, h4⟩ := h
  refine ⟨ao, cap, rfl, fun hp => ?_⟩
  obtain ⟨g, off, rfl, hgl, hcc⟩ := h4 hp
  have hb := hc.same g (by omega) (hn _ _ _ rfl hgl)
  refine ⟨g, off, rfl, hgl, fun k hk => ?_⟩
  obtain ⟨c0, c1, c2⟩ := hcc k hk
  exact ⟨(World.cell?_of_block (a := ⟨g, off + k * 3, none⟩) hb).trans c0, (World.cell?_of_block (a := ⟨g, off + (k * 3 + 1), none⟩) hb).trans c1, (World.cell?_of_block (a := ⟨g, off + (k * 3 + 2), none⟩) hb).trans c2⟩
theorem chg_frm {w w' : World} {b : Nat} (h : Frm w w' (fun i => i = b)) (g : Nat) : Chg w w' b g := ⟨h.size, fun i hi hb _ => h.same i hi hb⟩
theorem Dy.frm {w w' : World} {b n : Nat} {x y : Value} (h : Dy w n x y) (hc : Frm w w' (fun i => i = b)) (hn : n ≠ b) : Dy w' n x y := by
  have hb := hc.same n h.lt hn
  exact ⟨⟨(World.cell?_of_block (a := ⟨n, 0, none⟩) hb).trans h.1.1, (World.cell?_of_block (a := ⟨n, 1, none⟩) hb).trans h.1.2⟩, fun k => (World.frozen?_of_block (a := ⟨n, k, none⟩) hb).trans (h.2 k)⟩
theorem copyShape {w : World} {B n c : Nat} {a : Option Addr} {xs : List Int} (h : Own 3 w B (.slice a n c) (xs.map (Value.int .i64))) (h16 : xs.length = 16) : ∃ y, a = some ⟨y, 0, none⟩ ∧ B ≤ y ∧ y < w.heap.size := by
  rcases h.shape with ⟨_, e⟩ | ⟨g, d, e, hg, hl, _⟩
  · have := congrArg List.length e
    simp [h16] at this
  · cases e; exact ⟨g, rfl, hg, hl⟩
theorem ownUp {w : World} {B n c y : Nat} {cs : List Value} (h : Own 3 w B (.slice (some ⟨y, 0, none⟩) n c) cs) : Own 3 w y (.slice (some ⟨y, 0, none⟩) n c) cs := by
  obtain ⟨h1, h2⟩ := h
  refine ⟨h1, ?_⟩
  rcases h2 with h2 | ⟨g, cap, cur, hv, hb, r⟩
  · exact .inl h2
  · cases hv; exact .inr ⟨y, _, cur, rfl, Nat.le_refl _, r⟩
theorem ownEUp {w : World} {B n c y : Nat} {ls : List En} (h : OwnE w B (.slice (some ⟨y, 0, none⟩) n c) ls) : OwnE w y (.slice (some ⟨y, 0, none⟩) n c) ls := by
  obtain ⟨h1, h2⟩ := h
  refine ⟨h1, ?_⟩
  rcases h2 with h2 | ⟨g, cap, cur, hv, hb, r⟩
  · exact .inl h2
  · cases hv; exact .inr ⟨y, _, cur, rfl, Nat.le_refl _, r⟩
/-- A thing in memory, the blocks that it lies in, and that it stays where these stay. -/
structure It where
  H : World → Prop
  B : Nat → Prop
  keep : ∀ {d d' : World} {P : Nat → Prop}, Frm d d' P → (∀ i, B i → ¬ P i) → H d → H d'
def nilI : It := ⟨fun _ => True, fun _ => False, fun _ _ h => h⟩
def rowI (x : Nat) : It := ⟨fun d => OwnE d x (.slice (some ⟨x, 0, none⟩) 0 0) [], fun i => i = x, fun hc hn h => frmE hc h (fun k e => by simp only [Value.ownBlock, Option.some.injEq] at e; exact hn k e.symm)⟩
def copI (y c : Nat) (xs : List Int) : It := ⟨fun d => Own 3 d y (.slice (some ⟨y, 0, none⟩) xs.length c) (xs.map (Value.int .i64)), fun i => i = y, fun hc hn h => frmO hc h (fun k e => by simp only [Value.ownBlock, Option.some.injEq] at e; exact hn k e.symm)⟩
def bothI (y c : Nat) (xs : List Int) (q e : Nat) (ls : List En) : It := ⟨fun d => Own 3 d y (.slice (some ⟨y, 0, none⟩) xs.length c) (xs.map (Value.int .i64)) ∧ OwnE d q (.slice (some ⟨q, 0, none⟩) ls.length e) ls ∧ y ≠ q, fun i => i = y ∨ i = q,
  fun hc hn h => ⟨frmO hc h.1 (fun k e => by simp only [Value.ownBlock, Option.some.injEq] at e; exact hn k (.inl e.symm)), frmE hc h.2.1 (fun k e => by simp only [Value.ownBlock, Option.some.injEq] at e; exact hn k (.inr e.symm)), h.2.2⟩⟩
def resI (u v : Value) (S : Nat → Prop) (Z : Nat) : It := ⟨fun d => (∃ ys : List Int, ys.length ≤ 17 ∧ Rd Z d u (ys.map (Value.int .i64))) ∧ (∃ ms : List En, ms.length ≤ 600 ∧ RdE Z d v ms) ∧ Z ≤ d.heap.size ∧ (∀ a n c, u = .slice (some a) n c → a.block < Z → S a.block) ∧ (∀ a n c, v = .slice (some a) n c → a.block < Z → S a.block), fun i => S i ∧ i < Z,
  fun hc hn h => by
    obtain ⟨⟨ys, h1, h2⟩, ⟨ms, h3, h4⟩, h5, h6, h7⟩ := h
    exact ⟨⟨ys, h1, frmR hc h2 h5 (fun a n c e hl => hn _ ⟨h6 a n c e hl, hl⟩)⟩, ⟨ms, h3, frmP hc h4 h5 (fun a n c e hl => hn _ ⟨h7 a n c e hl, hl⟩)⟩, Nat.le_trans h5 hc.size, h6, h7⟩⟩
/-- The state within the region: the source, what is made of the first value (e, m) and of the second one (e', m'). -/
structure Sta (W : World) (C b A : Nat) (e m e' m' : It) (d : World) : Prop where
  src : Src C d b A
  frm : Frm W d (fun i => i = b)
  bW : b < W.heap.size
  he : e.H d
  hm : m.H d
  he' : e'.H d
  hm' : m'.H d
  bnd : ∀ i, e.B i ∨ m.B i ∨ e'.B i ∨ m'.B i → W.heap.size ≤ i ∧ i < d.heap.size
  in1 : ∀ i, e.B i → ¬ m.B i
  in2 : ∀ i, e'.B i → ¬ m'.B i
  dis : ∀ i, e.B i ∨ m.B i → ¬ (e'.B i ∨ m'.B i)
theorem Sta.swap {W : World} {C b A : Nat} {e m e' m' : It} {d : World} (h : Sta W C b A e m e' m' d) : Sta W C b A e' m' e m d :=
  ⟨h.src, h.frm, h.bW, h.he', h.hm', h.he, h.hm, fun i hi => h.bnd i (by rcases hi with h | h | h | h <;> simp [h]), h.in2, h.in1, fun i h1 h2 => h.dis i h2 h1⟩
theorem Sta.step {W : World} {C b A A' : Nat} {e m e' m' f n : It} {d d' : World} (h : Sta W C b A e m e' m' d) (hs : Src C d' b A') (hc : Frm d d' (fun i => i = b ∨ e.B i ∨ m.B i)) (hf : f.H d') (hn : n.H d')
    (hB : ∀ i, f.B i ∨ n.B i → (e.B i ∨ m.B i) ∨ (d.heap.size ≤ i ∧ i < d'.heap.size)) (hd : ∀ i, f.B i → ¬ n.B i) : Sta W C b A' f n e' m' d' := by
  have hz := hc.size
  have hW := h.frm.size
  have hnot : ∀ i, e'.B i ∨ m'.B i → ¬ (i = b ∨ e.B i ∨ m.B i) := fun i hi hx => by
    rcases hx with rfl | hx
    · have := h.bnd i (.inr (.inr hi)); have := h.bW; omega
    · exact h.dis i hx hi
  refine ⟨hs, ⟨hc.os.trans h.frm.os, hc.tape.trans h.frm.tape, hc.output.trans h.frm.output, by omega, fun i hi hb => (hc.same i (by omega) (fun hx => ?_)).trans (h.frm.same i hi hb)⟩, h.bW, hf, hn, e'.keep hc (fun i hi => hnot i (.inl hi)) h.he', m'.keep hc (fun i hi => hnot i (.inr hi)) h.hm', fun i hi => ?_, hd, h.in2, fun i h1 h2 => ?_⟩
  · rcases hx with hx | hx
    · exact hb hx
    · have := h.bnd i (by rcases hx with h | h <;> simp [h]); omega
  · rcases hi with hi | hi | hi
    · rcases hB i (.inl hi) with h1 | h1
      · have := h.bnd i (by rcases h1 with h | h <;> simp [h]); omega
      · omega
    · rcases hB i (.inr hi) with h1 | h1
      · have := h.bnd i (by rcases h1 with h | h <;> simp [h]); omega
      · omega
    · have := h.bnd i (.inr (.inr hi)); omega
  · rcases hB i h1 with h3 | h3
    · exact h.dis i h3 h2
    · have := h.bnd i (.inr (.inr h2)); omega
theorem sta_row {W : World} {C b A : Nat} {m e' m' : It} {d : World} (h : Sta W C b A nilI m e' m' d) : ∃ d' x, d.alloc (.cells #[] 60) = d' ∧ d.heap.size = x ∧ Sta W C b A (rowI x) m e' m' d' := by
  refine ⟨_, _, rfl, rfl, ?_⟩
  have hb := below_alloc d (.cells #[] 60)
  refine h.step (h.src.alloc _) (frm_below hb _) ?_ (m.keep (frm_below hb (fun _ => False)) (fun _ _ h => h) h.hm) (fun i hi => ?_) (fun i h1 h2 => ?_)
  · exact World.ownsRow_lit d #[] 0 (Nat.le_refl _) (by decide) (by simp)
  · rcases hi with hi | hi
    · have hi' : i = d.heap.size := hi; exact .inr (by rw [World.size_alloc]; omega)
    · exact .inl (.inr hi)
  · have h1' : i = d.heap.size := h1; have := h.bnd i (by simp [h2]); omega
theorem sta_copy {W : World} {C b A g : Nat} {e e' m' : It} {d : World} {u v : Value} {xs : List Int} {ls : List En} (hv : VgX W b g u v xs ls) (h : Sta W C b A e nilI e' m' d) :
    Calls Tryz.prog 39 #[.agg #[u]] d fun r d' => ∃ y c, r = .returned (.agg #[.slice (some ⟨y, 0, none⟩) xs.length c]) ∧ Sta W C b A e (copI y c xs) e' m' d' := by
  have h16 := hv.1
  refine (l02Copy_any _ _ u xs (by omega) (Nat.le_refl _) (hv.chg (chg_frm h.frm g)).2.2.1).mono ?_
  rintro r d' ⟨ao, c, rfl, ho, hb⟩
  obtain ⟨y, rfl, hy, hyl⟩ := copyShape ho h16
  refine ⟨y, c, rfl, h.step (h.src.below hb h.src.lt) (frm_below hb _) (e.keep (frm_below hb (fun _ => False)) (fun _ _ h => h) h.he) (ownUp ho) (fun i hi => ?_) (fun i h1 h2 => ?_)⟩
  · rcases hi with hi | hi
    · exact .inl (.inl hi)
    · have hi' : i = y := hi; exact .inr (by omega)
  · have h2' : i = y := h2; have := h.bnd i (by simp [h1]); omega
theorem sta_app {W : World} {C b A g x y c : Nat} {e' m' : It} {d : World} {u v : Value} {xs : List Int} {ls : List En} {ops : Array Oper} {o : Oper} {a : Act} {K : Act → World → Prop} {Q : Exit → Act → World → Prop} {E : Prop} (hgd : o.guard = none) (s t : Operand)
    (ho : o.op = .call { callee := .builtin .append, args := #[s, t], argTypes := #[26, 26] }) (hs : a.eval s = .slice (some ⟨x, 0, none⟩) 0 0) (ht : a.eval t = v) (hv : VgX W b g u v xs ls) (h : Sta W C b A (rowI x) (copI y c xs) e' m' d)
    (hK : ∀ q e d', Sta W C b A nilI (bothI y c xs q e ls) e' m' d' → K (a.put o.dst (.slice (some ⟨q, 0, none⟩) ls.length e)) d') : if Region.wanted o (yielded ops a.tmps) = true then Oper.wp Tryz.prog o a d K Q else E := by
  have hx := h.bnd x (.inl rfl)
  have hxy : x ≠ y := fun e => h.in1 x rfl e
  have hy := h.bnd y (.inr (.inl rfl))
  have hbW := h.bW
  have hl := hv.2.1
  refine step_appendE hgd s t ho x x 0 0 [] hs rfl h.he _ v ls ht (hv.chg (chg_frm h.frm g)).2.2.2.1 hv.2.2.2.2.2.2 (by simp; omega) (by omega) ?_
  intro q e d' how hgr hg
  have hz := hg.size
  have how2 : OwnE d' q (.slice (some ⟨q, 0, none⟩) (0 + ls.length) e) ls := ownEUp how
  have hql := (ownE_shape' how2 _ _ _ rfl).2
  dsimp only at hql
  rw [Nat.zero_add] at how2 ⊢
  have hyq : y ≠ q := by omega
  have hcy : Own 3 d' y (.slice (some ⟨y, 0, none⟩) xs.length c) (xs.map (Value.int .i64)) := own_same h.hm (fun k e => by simp only [Value.ownBlock, Option.some.injEq] at e; subst e; exact hg.block y hy.2 (fun e => hxy (by simpa using e.symm)))
  refine hK q e d' (h.step (h.src.kept hg (fun k hk => by cases hk; omega)) (Frm.gr hg (fun k e _ => by cases e; exact .inr (.inl rfl))) trivial ⟨hcy, how2, hyq⟩ (fun i hi => ?_) (fun i h1 => by cases h1))
  rcases hi with hi | hi
  · cases hi
  · rcases hi with hi | hi
    · exact .inl (.inr hi)
    · rcases hgr with h1 | h1
      · exact .inl (.inl (by show i = x; omega))
      · exact .inr (by omega)
theorem sta_bent {W : World} {C b A g y c q e : Nat} {f e' m' : It} {d : World} {u v : Value} {xs : List Int} {ls : List En} (hv : VgX W b g u v xs ls) (hA : A ≤ 400000000) (h : Sta W C b A f (bothI y c xs q e ls) e' m' d) :
    Calls Tryz.prog 45 #[.pointer (some ⟨b, 0, none⟩), .agg #[.slice (some ⟨y, 0, none⟩) xs.length c, .slice (some ⟨q, 0, none⟩) ls.length e]] d fun r d' => ∃ ua ub uc va vb vc S Z, r = .returned (.agg #[.slice ua ub uc, .slice va vb vc]) ∧ Sta W C b (A + 2000) f (resI (.slice ua ub uc) (.slice va vb vc) S Z) e' m' d' := by
  obtain ⟨o1, o2, hyq⟩ := h.hm
  have hy := h.bnd y (.inr (.inl (.inl rfl)))
  have hq := h.bnd q (.inr (.inl (.inr rfl)))
  have hbW := h.bW
  refine (l03Bent_any C b A y q d _ _ xs ls h.src hA o1 o2 (fun e => by cases e) (fun i j hi hj e => hyq (by simp only [Value.ownBlock, Option.some.injEq] at hi hj; omega)) hv.1 hv.2.1 (by omega) (by omega)).mono ?_
  rintro r d' ⟨u', v', rfl, HB⟩
  obtain ⟨ua, ub, uc, rfl⟩ := HB.su
  obtain ⟨va, vb, vc, rfl⟩ := HB.sv
  have hz := HB.frm.size
  have hfr : Frm d d' (fun i => i = b ∨ f.B i ∨ (bothI y c xs q e ls).B i) := ⟨HB.frm.os, HB.frm.tape, HB.frm.output, hz, fun i hi hn => HB.frm.same i hi (fun e => hn (by simp only [Value.ownBlock, Option.some.injEq] at e; rcases e with e | e | e; exact .inl e; exact .inr (.inr (.inl e.symm)); exact .inr (.inr (.inr e.symm))))⟩
  have hff : f.H d' := f.keep HB.frm (fun i hi hx => by
    have := h.in1 i hi
    simp only [Value.ownBlock, Option.some.injEq] at hx
    rcases hx with hx | hx | hx
    · have := h.bnd i (.inl hi); omega
    · exact this (.inl hx.symm)
    · exact this (.inr hx.symm)) h.he
  refine ⟨ua, ub, uc, va, vb, vc, (fun i => i = y ∨ i = q ∨ d.heap.size ≤ i), d'.heap.size, rfl, h.step HB.src hfr hff ⟨HB.rd, HB.rdE, Nat.le_refl _, fun a n c e _ => ?_, fun a n c e _ => ?_⟩ (fun i hi => ?_) (fun i h1 h2 => ?_)⟩
  · rcases HB.bu a n c e with h1 | h1
    · simp only [Value.ownBlock, Option.some.injEq] at h1; exact .inl h1.symm
    · exact .inr (.inr h1)
  · rcases HB.bv a n c e with h1 | h1
    · simp only [Value.ownBlock, Option.some.injEq] at h1; exact .inr (.inl h1.symm)
    · exact .inr (.inr h1)
  · rcases hi with hi | ⟨hi, hi2⟩
    · exact .inl (.inl hi)
    · rcases hi with hi | hi | hi
      · exact .inl (.inr (.inl hi))
      · exact .inl (.inr (.inr hi))
      · exact .inr ⟨hi, hi2⟩
  · obtain ⟨h2, h3⟩ := h2
    have hb := h.bnd i (.inl h1)
    rcases h2 with h2 | h2 | h2
    · exact h.in1 i h1 (.inl h2)
    · exact h.in1 i h1 (.inr h2)
    · omega
/-- A slice that can be read, in a block from lo on. -/
def RdHi (lo : Nat) (w : World) (u : Value) (xs : List Int) : Prop := ∃ Z, Z ≤ w.heap.size ∧ Rd Z w u (xs.map (Value.int .i64)) ∧ ∀ a n c, u = .slice (some a) n c → a.block < Z → lo ≤ a.block
def RdEHi (lo : Nat) (w : World) (v : Value) (ls : List En) : Prop := ∃ Z, Z ≤ w.heap.size ∧ RdE Z w v ls ∧ ∀ a n c, v = .slice (some a) n c → a.block < Z → lo ≤ a.block
theorem RdHi.frm {lo : Nat} {w w' : World} {P : Nat → Prop} {u : Value} {xs : List Int} (h : RdHi lo w u xs) (hc : Frm w w' P) (hn : ∀ i, lo ≤ i → ¬ P i) : RdHi lo w' u xs := by
  obtain ⟨Z, h1, h2, h3⟩ := h
  exact ⟨Z, Nat.le_trans h1 hc.size, frmR hc h2 h1 (fun a n c e hl => hn _ (h3 a n c e hl)), h3⟩
theorem RdEHi.frm {lo : Nat} {w w' : World} {P : Nat → Prop} {v : Value} {ls : List En} (h : RdEHi lo w v ls) (hc : Frm w w' P) (hn : ∀ i, lo ≤ i → ¬ P i) : RdEHi lo w' v ls := by
  obtain ⟨Z, h1, h2, h3⟩ := h
  exact ⟨Z, Nat.le_trans h1 hc.size, frmP hc h2 h1 (fun a n c e hl => hn _ (h3 a n c e hl)), h3⟩
theorem RdHi.rd {lo : Nat} {w : World} {u : Value} {xs : List Int} (h : RdHi lo w u xs) : Rd w.heap.size w u (xs.map (Value.int .i64)) := by
  obtain ⟨Z, h1, h2, h3⟩ := h
  exact h2.mono h1
theorem RdEHi.rd {lo : Nat} {w : World} {v : Value} {ls : List En} (h : RdEHi lo w v ls) : RdE w.heap.size w v ls := by
  obtain ⟨Z, h1, h2, h3⟩ := h
  exact rdE_mono h2 h1
/-- Two drawn values that can be read. -/
structure Two (lo : Nat) (u v u' v' : Value) (w' : World) : Prop where
  rd : ∃ ys : List Int, ys.length ≤ 17 ∧ RdHi lo w' u ys
  rdE : ∃ ms : List En, ms.length ≤ 600 ∧ RdEHi lo w' v ms
  rd' : ∃ ys : List Int, ys.length ≤ 17 ∧ RdHi lo w' u' ys
  rdE' : ∃ ms : List En, ms.length ≤ 600 ∧ RdEHi lo w' v' ms
  s1 : ∃ a n c, u = .slice a n c
  s2 : ∃ a n c, v = .slice a n c
  s3 : ∃ a n c, u' = .slice a n c
  s4 : ∃ a n c, v' = .slice a n c
theorem Two.frm {lo : Nat} {w w' : World} {P : Nat → Prop} {u v u' v' : Value} (h : Two lo u v u' v' w) (hc : Frm w w' P) (hn : ∀ i, lo ≤ i → ¬ P i) : Two lo u v u' v' w' := by
  obtain ⟨⟨ys, a1, a2⟩, ⟨ms, b1, b2⟩, ⟨ys', c1, c2⟩, ⟨ms', d1, d2⟩, s1, s2, s3, s4⟩ := h
  exact ⟨⟨ys, a1, a2.frm hc hn⟩, ⟨ms, b1, b2.frm hc hn⟩, ⟨ys', c1, c2.frm hc hn⟩, ⟨ms', d1, d2.frm hc hn⟩, s1, s2, s3, s4⟩

theorem res_hi {W d : World} {C b A lo Z : Nat} {e e' m' : It} {u v : Value} {S : Nat → Prop} (h : Sta W C b A e (resI u v S Z) e' m' d) (hl : lo ≤ W.heap.size) : (∃ ys : List Int, ys.length ≤ 17 ∧ RdHi lo d u ys) ∧ (∃ ms : List En, ms.length ≤ 600 ∧ RdEHi lo d v ms) := by
  obtain ⟨⟨ys, y1, y2⟩, ⟨ms, m1, m2⟩, z1, h6, h7⟩ := h.hm
  exact ⟨⟨ys, y1, Z, z1, y2, fun a n c e hz => by have := h.bnd a.block (.inr (.inl ⟨h6 a n c e hz, hz⟩)); omega⟩, ⟨ms, m1, Z, z1, m2, fun a n c e hz => by have := h.bnd a.block (.inr (.inl ⟨h7 a n c e hz, hz⟩)); omega⟩⟩
theorem sta_end {w W d : World} {C b A A' q4 q5 Z Z' : Nat} {ua va ua' va' : Option Addr} {ub uc vb vc ub' uc' vb' vc' : Nat} {p1 p2 p3 p4 : Value} {S S' : Nat → Prop} (h : Sta W C b A nilI (resI (.slice ua ub uc) (.slice va vb vc) S Z) nilI (resI (.slice ua' ub' uc') (.slice va' vb' vc') S' Z') d) (h4 : q4 < W.heap.size) (h5 : q5 < W.heap.size) (b4 : b < q4) (b5 : b < q5) (hg : w.grownBy W (some b)) (w4 : w.heap.size ≤ q4) (w5 : w.heap.size ≤ q5) (hA : A ≤ A') :
    Two (w.heap.size) (.slice ua ub uc) (.slice va vb vc) (.slice ua' ub' uc') (.slice va' vb' vc') ((((d.setCell ⟨q4, 0, none⟩ p1).setCell ⟨q4, 1, none⟩ p2).setCell ⟨q5, 0, none⟩ p3).setCell ⟨q5, 1, none⟩ p4) ∧ Src C ((((d.setCell ⟨q4, 0, none⟩ p1).setCell ⟨q4, 1, none⟩ p2).setCell ⟨q5, 0, none⟩ p3).setCell ⟨q5, 1, none⟩ p4) b A' ∧ w.grownBy ((((d.setCell ⟨q4, 0, none⟩ p1).setCell ⟨q4, 1, none⟩ p2).setCell ⟨q5, 0, none⟩ p3).setCell ⟨q5, 1, none⟩ p4) (some b) := by
  have hgd : w.grownBy d (some b) := ⟨h.frm.os.trans hg.os, h.frm.tape.trans hg.tape, h.frm.output.trans hg.output, Nat.le_trans hg.size h.frm.size, fun i hi hb => (h.frm.same i (Nat.lt_of_lt_of_le hi hg.size) (fun e => hb (by rw [e]))).trans (hg.block i hi hb)⟩
  refine ⟨?_, ((((h.src.set b4 _).set b4 _).set b5 _).set b5 _).mono hA, gr_put (gr_put (gr_put (gr_put hgd w4 _ _) w4 _ _) w5 _ _) w5 _ _⟩
  have hc : Frm d ((((d.setCell ⟨q4, 0, none⟩ p1).setCell ⟨q4, 1, none⟩ p2).setCell ⟨q5, 0, none⟩ p3).setCell ⟨q5, 1, none⟩ p4) (fun i => i = q4 ∨ i = q5) := ((((Frm.gr (World.grownBy.refl d none) (fun k e => by cases e)).put q4 0 p1 (fun _ => .inl rfl)).put q4 1 p2 (fun _ => .inl rfl)).put q5 0 p3 (fun _ => .inr rfl)).put q5 1 p4 (fun _ => .inr rfl)
  obtain ⟨r1, r2⟩ := res_hi (lo := W.heap.size) h (Nat.le_refl _)
  obtain ⟨r3, r4⟩ := res_hi (lo := W.heap.size) h.swap (Nat.le_refl _)
  have ht : Two W.heap.size (.slice ua ub uc) (.slice va vb vc) (.slice ua' ub' uc') (.slice va' vb' vc') d := ⟨r1, r2, r3, r4, ⟨_, _, _, rfl⟩, ⟨_, _, _, rfl⟩, ⟨_, _, _, rfl⟩, ⟨_, _, _, rfl⟩⟩
  obtain ⟨⟨ys, a1, Z1, z1, a2, a3⟩, ⟨ms, b1, Z2, z2, b2, b3⟩, ⟨ys', c1, Z3, z3, c2, c3⟩, ⟨ms', d1, Z4, z4, d2, d3⟩, s1, s2, s3, s4⟩ := ht.frm hc (fun i hi hx => by omega)
  have hwW := hg.size
  exact ⟨⟨ys, a1, Z1, z1, a2, fun a n c e hz => Nat.le_trans hwW (a3 a n c e hz)⟩, ⟨ms, b1, Z2, z2, b2, fun a n c e hz => Nat.le_trans hwW (b3 a n c e hz)⟩, ⟨ys', c1, Z3, z3, c2, fun a n c e hz => Nat.le_trans hwW (c3 a n c e hz)⟩, ⟨ms', d1, Z4, z4, d2, fun a n c e hz => Nat.le_trans hwW (d3 a n c e hz)⟩, s1, s2, s3, s4⟩

set_option maxHeartbeats 40000000 in
set_option maxRecDepth 100000 in
theorem l03Draw_any (C b A : Nat) (w : World) (set : Bool) (h : Src C w b A) (hA : A ≤ 300000000) :
    Calls Tryz.prog 28 #[.pointer (some ⟨b, 0, none⟩), .bool set] w fun e w' => ∃ u v u' v', e = .returned (.tuple #[.agg #[u, v], .agg #[u', v']]) ∧ Two w.heap.size u v u' v' w' ∧ Src C w' b (A + 5000) ∧ w.grownBy w' (some b) := by
  have hlt := h.lt
  obtain ⟨W0, hW⟩ : ∃ W, (w.alloc (.cells #[.slice none 0 0, .slice none 0 0] 74)).alloc (.cells #[.slice none 0 0, .slice none 0 0] 74) = W := ⟨_, rfl⟩
  have hB0 : Below w.heap.size w W0 := by rw [← hW]; exact below_then (below_alloc _ _) _
  have hZ : W0.heap.size = w.heap.size + 1 + 1 := by rw [← hW]; simp
  have HQ4 : Hid (Dy W0 w.heap.size (.slice none 0 0) (.slice none 0 0)) := by rw [← hW]; exact (Dy.made w _ _ 74).on (below_alloc _ _)
  have HQ5 : Hid (Dy W0 (w.heap.size + 1) (.slice none 0 0) (.slice none 0 0)) := by
    have := Dy.made (w.alloc (.cells #[.slice none 0 0, .slice none 0 0] 74)) (.slice none 0 0) (.slice none 0 0) 74
    rw [World.size_alloc, hW] at this
    exact this
  have hS0 := h.below hB0 hlt
  go_enter Tryz.func28, Tryz.ntmps28
  go_upto_region 1 with fail
  clear hW
  go_wp2_with fail
  refine (l03Replicas_any C b A W0 set hS0 (by omega)).mono ?_
  rintro e w1 ⟨g, rfl, hg, u, v, HR1⟩
  have hgb : g ≠ b := by omega
  have HGB : Hid (g ≠ b) := hgb
  have HR1' : Hid (Rst C W0 b g (A + 300) u v w1) := HR1
  clear hgb
  go_wp2_with fail
  refine (srcNext_any C b _ 3 _ HR1'.out.src (by omega) (by omega) (by omega)).mono ?_
  rintro e w2 ⟨r, rfl, r0, r1, hS2, hG2⟩
  obtain ⟨k1, rfl⟩ : ∃ k : Nat, r = (k : Int) := ⟨r.toNat, by omega⟩
  have hk1 : k1 < 3 := by omega
  have HR2 : Hid (Rst C W0 b g (A + 300 + 3) u v w2) := HR1'.out.on HGB.out hS2 hG2
  obtain ⟨xs1, ls1, hv1⟩ := HR2.out.good k1 hk1
  obtain ⟨ia, ja, ka, la, ma, na, hu1, hw1⟩ := hv1.slices
  obtain ⟨c0, c1⟩ := HR2.out.cls.at' k1 hk1
  have HV1 : Hid (VgX w2 b g (u k1) (v k1) xs1 ls1) := hv1
  rw [hu1] at c0 HV1
  rw [hw1] at c1 HV1
  clear hu1 hw1 hv1 HR1 HR1' hS2 hG2
  have hal := World.grownBy_alloc w2 (.cells #[.slice ia ja ka, .slice la ma na] 28) (some b)
  have HR3 : Hid (Rst C W0 b g (A + 300 + 3) u v (w2.alloc (.cells #[.slice ia ja ka, .slice la ma na] 28))) := HR2.out.on HGB.out (HR2.out.src.alloc _) hal
  have HD7 : Hid (Dy (w2.alloc (.cells #[.slice ia ja ka, .slice la ma na] 28)) w2.heap.size (.slice ia ja ka) (.slice la ma na)) := Dy.made w2 _ _ 28
  have HVa : Hid (VgX (w2.alloc (.cells #[.slice ia ja ka, .slice la ma na] 28)) b g (.slice ia ja ka) (.slice la ma na) xs1 ls1) := HV1.out.chg (chg_gr hal g)
  have hz2 := HR2.out.gr.size
  have hb2 := HR2.out.src.lt
  clear hal
  go_wp2_with fail
  refine (srcNext_any C b _ 3 _ HR3.out.src (by omega) (by omega) (by omega)).mono ?_
  rintro e w3 ⟨r, rfl, r0, r1, hS3, hG3⟩
  obtain ⟨k2, rfl⟩ : ∃ k : Nat, r = (k : Int) := ⟨r.toNat, by omega⟩
  have hk2 : k2 < 3 := by omega
  have hz3 := hG3.size
  rw [World.size_alloc] at hz3
  have HR4 : Hid (Rst C W0 b g (A + 300 + 3 + 3) u v w3) := HR3.out.on HGB.out hS3 hG3
  have HD7b : Hid (Dy w3 w2.heap.size (.slice ia ja ka) (.slice la ma na)) := dy_gr HD7.out hG3 (by omega)
  have HVb : Hid (VgX w3 b g (.slice ia ja ka) (.slice la ma na) xs1 ls1) := HVa.out.chg (chg_gr hG3 g)
  obtain ⟨xs2, ls2, hv2⟩ := HR4.out.good k2 hk2
  obtain ⟨ib, jb, kb, lb, mb, nb, hu2, hw2⟩ := hv2.slices
  clear c0 c1
  obtain ⟨c0, c1⟩ := HR4.out.cls.at' k2 hk2
  have HV2 : Hid (VgX w3 b g (u k2) (v k2) xs2 ls2) := hv2
  rw [hu2] at c0 HV2
  rw [hw2] at c1 HV2
  clear hu2 hw2 hv2 hS3 hG3 HR2 HR3 HD7 HVa HV1
  obtain ⟨W, hWW⟩ : ∃ W, w3.alloc (.cells #[.slice ib jb kb, .slice lb mb nb] 28) = W := ⟨_, rfl⟩
  have hal := below_alloc w3 (.cells #[.slice ib jb kb, .slice lb mb nb] 28)
  rw [hWW] at hal
  have hzW : W.heap.size = w3.heap.size + 1 := by rw [← hWW]; simp
  have HP8 : Hid (Dy W w3.heap.size (.slice ib jb kb) (.slice lb mb nb)) := by rw [← hWW]; exact Dy.made w3 _ _ 28
  have HP7 : Hid (Dy W w2.heap.size (.slice ia ja ka) (.slice la ma na)) := HD7b.out.on hal
  have hgal := grownBy_below hal (Nat.le_refl _) (some b)
  have HVx : Hid (VgX W b g (.slice ia ja ka) (.slice la ma na) xs1 ls1) := HVb.out.chg (chg_gr hgal g)
  have HVy : Hid (VgX W b g (.slice ib jb kb) (.slice lb mb nb) xs2 ls2) := HV2.out.chg (chg_gr hgal g)
  have hGW := grownBy_trans HR4.out.gr hgal
  have HQ4' : Hid (Dy W w.heap.size (.slice none 0 0) (.slice none 0 0)) := dy_gr HQ4.out hGW (by omega)
  have HQ5' : Hid (Dy W (w.heap.size + 1) (.slice none 0 0) (.slice none 0 0)) := dy_gr HQ5.out hGW (by omega)
  have hSW := HR4.out.src.below hal HR4.out.src.lt
  have HGW : Hid (w.grownBy W (some b)) := grownBy_trans (grownBy_below hB0 (Nat.le_refl _) _) hGW
  clear HR4 HD7b HVb HV2 hgal hGW HQ4 HQ5 hal
  go_upto_region 4 with fail
  clear hWW c0 c1
  obtain ⟨p7, hp7⟩ : ∃ p, w2.heap.size = p := ⟨_, rfl⟩
  obtain ⟨p8, hp8⟩ : ∃ p, w3.heap.size = p := ⟨_, rfl⟩
  obtain ⟨q4, hq4'⟩ : ∃ p, w.heap.size = p := ⟨_, rfl⟩
  obtain ⟨q5, hq5'⟩ : ∃ p, w.heap.size + 1 = p := ⟨_, rfl⟩
  rw [hp7] at HP7 ⊢
  rw [hp8] at HP8 ⊢
  rw [hq5'] at HQ5' ⊢
  rw [hq4'] at HQ4' ⊢
  have hq4 : q4 ≠ b := by omega
  have hq5 : q5 ≠ b := by omega
  have hq45 : q4 ≠ q5 := by omega
  have hq54 : q5 ≠ q4 := by omega
  have hq47 : q4 ≠ p7 := by omega
  have hq48 : q4 ≠ p8 := by omega
  have hq57 : q5 ≠ p7 := by omega
  have hq58 : q5 ≠ p8 := by omega
  have hp7b : p7 ≠ b := by omega
  have hp8b : p8 ≠ b := by omega
  have hq4W : q4 < W.heap.size := by omega
  have hq5W : q5 < W.heap.size := by omega
  have hbq4 : b < q4 := by omega
  have hbq5 : b < q5 := by omega
  have hw4 : w.heap.size ≤ q4 := by omega
  have hw5 : w.heap.size ≤ q5 := by omega
  have HN : Hid (q4 ≠ b ∧ q5 ≠ b ∧ q4 ≠ q5 ∧ q5 ≠ q4 ∧ p7 ≠ b ∧ p8 ≠ b) := ⟨hq4, hq5, hq45, hq54, hp7b, hp8b⟩
  have HN2 : Hid (q4 ≠ p7 ∧ q4 ≠ p8 ∧ q5 ≠ p7 ∧ q5 ≠ p8) := ⟨hq47, hq48, hq57, hq58⟩
  have HS : Hid (∀ wx : World, Frm W wx (fun i => i = b) → wx.cell? ⟨p7, 0, none⟩ = some (.slice ia ja ka) ∧ wx.cell? ⟨p7, 1, none⟩ = some (.slice la ma na) ∧ wx.cell? ⟨p8, 0, none⟩ = some (.slice ib jb kb) ∧ wx.cell? ⟨p8, 1, none⟩ = some (.slice lb mb nb)) := fun wx hx => ⟨(Dy.frm HP7.out hx hp7b).1.1, (Dy.frm HP7.out hx hp7b).1.2, (Dy.frm HP8.out hx hp8b).1.1, (Dy.frm HP8.out hx hp8b).1.2⟩
  have HSP : Hid (∀ wx : World, (wx.cell? ⟨p7, 0, none⟩ = some (.slice ia ja ka) ∧ wx.cell? ⟨p7, 1, none⟩ = some (.slice la ma na) ∧ wx.cell? ⟨p8, 0, none⟩ = some (.slice ib jb kb) ∧ wx.cell? ⟨p8, 1, none⟩ = some (.slice lb mb nb)) → ∀ n, n ≠ p7 → n ≠ p8 → ∀ x y, ((wx.setCell ⟨n, 0, none⟩ x).setCell ⟨n, 1, none⟩ y).cell? ⟨p7, 0, none⟩ = some (.slice ia ja ka) ∧ ((wx.setCell ⟨n, 0, none⟩ x).setCell ⟨n, 1, none⟩ y).cell? ⟨p7, 1, none⟩ = some (.slice la ma na) ∧ ((wx.setCell ⟨n, 0, none⟩ x).setCell ⟨n, 1, none⟩ y).cell? ⟨p8, 0, none⟩ = some (.slice ib jb kb) ∧ ((wx.setCell ⟨n, 0, none⟩ x).setCell ⟨n, 1, none⟩ y).cell? ⟨p8, 1, none⟩ = some (.slice lb mb nb)) := fun wx hx n h7 h8 x y => by
    have o : ∀ (p k : Nat), n ≠ p → ((wx.setCell ⟨n, 0, none⟩ x).setCell ⟨n, 1, none⟩ y).cell? ⟨p, k, none⟩ = wx.cell? ⟨p, k, none⟩ := fun p k hp => (World.cell?_setCells_out n [y] 1 _ _ (fun e => absurd e (fun e => hp e.symm))).trans (World.cell?_setCells_out n [x] 0 _ _ (fun e => absurd e (fun e => hp e.symm)))
    rw [o p7 0 h7, o p7 1 h7, o p8 0 h8, o p8 1 h8]
    exact hx
  have hT : Sta W C b (A + 306) nilI nilI nilI nilI W.drew := ⟨hSW.mono (by omega), ⟨rfl, rfl, rfl, Nat.le_refl _, fun _ _ _ => rfl⟩, by omega, trivial, trivial, trivial, trivial, (fun i hi => by rcases hi with h | h | h | h <;> cases h), (fun i hi => by cases hi), (fun i hi => by cases hi), (fun i hi => by rcases hi with h | h <;> cases h)⟩
  clear hq4 hq5 hq45 hq54 hq47 hq48 hq57 hq58 hp7b hp8b hSW HP7 HP8 hp7 hp8
  refine wp_region_held_drew (S := (fun w' => w'.cell? ⟨p7, 0, none⟩ = some (.slice ia ja ka) ∧ w'.cell? ⟨p7, 1, none⟩ = some (.slice la ma na) ∧ w'.cell? ⟨p8, 0, none⟩ = some (.slice ib jb kb) ∧ w'.cell? ⟨p8, 1, none⟩ = some (.slice lb mb nb))) (by kernel_rfl) (HS.out _ hT.frm) (fun hHeld => ?_)
  generalize W.drew = d0 at hT hHeld ⊢
  refine wpAnyH_take (i := 0) (v := (.pointer (some ⟨b, 0, none⟩))) rfl (by kernel_rfl) (by kernel_rfl) (by kernel_rfl) (fun _ _ _ h => h) (Or.inl ⟨by rfl, by intro w hSw; obtain ⟨s0, s1, s2, s3⟩ := hSw; go_simp⟩) hHeld ?_
  simp only [List.getElem_toArray, List.getElem_cons_zero, Act.put, List.setIfInBounds_toArray, List.set_cons_zero, List.set_cons_succ]
  refine wpAnyH_take (i := 1) (v := (.pointer (some ⟨p7, 0, none⟩))) rfl (by kernel_rfl) (by kernel_rfl) (by kernel_rfl) (fun _ _ _ h => h) (Or.inl ⟨by rfl, by intro w hSw; obtain ⟨s0, s1, s2, s3⟩ := hSw; go_simp⟩) hHeld ?_
  simp only [List.getElem_toArray, List.getElem_cons_succ, List.getElem_cons_zero, Act.put, List.setIfInBounds_toArray, List.set_cons_zero, List.set_cons_succ]
  refine wpAnyH_take (i := 2) (v := (.agg #[.slice ia ja ka])) rfl (by kernel_rfl) (by kernel_rfl) (by kernel_rfl) (fun _ _ _ h => h) (Or.inl ⟨by rfl, by intro w hSw; obtain ⟨s0, s1, s2, s3⟩ := hSw; go_simp⟩) hHeld ?_
  simp only [List.getElem_toArray, List.getElem_cons_succ, List.getElem_cons_zero, Act.put, List.setIfInBounds_toArray, List.set_cons_zero, List.set_cons_succ]
  refine wpAnyH_take (i := 5) (v := (.pointer (some ⟨p7, 1, none⟩))) rfl (by kernel_rfl) (by kernel_rfl) (by kernel_rfl) (fun _ _ _ h => h) (Or.inl ⟨by rfl, by intro w hSw; obtain ⟨s0, s1, s2, s3⟩ := hSw; go_simp⟩) hHeld ?_
  simp only [List.getElem_toArray, List.getElem_cons_succ, List.getElem_cons_zero, Act.put, List.setIfInBounds_toArray, List.set_cons_zero, List.set_cons_succ]
  refine wpAnyH_take (i := 6) (v := (.slice la ma na)) rfl (by kernel_rfl) (by kernel_rfl) (by kernel_rfl) (fun _ _ _ h => h) (Or.inl ⟨by rfl, by intro w hSw; obtain ⟨s0, s1, s2, s3⟩ := hSw; go_simp⟩) hHeld ?_
  simp only [List.getElem_toArray, List.getElem_cons_succ, List.getElem_cons_zero, Act.put, List.setIfInBounds_toArray, List.set_cons_zero, List.set_cons_succ]
  refine wpAnyH_take (i := 10) (v := (.pointer (some ⟨b, 0, none⟩))) rfl (by kernel_rfl) (by kernel_rfl) (by kernel_rfl) (fun _ _ _ h => h) (Or.inl ⟨by rfl, by intro w hSw; obtain ⟨s0, s1, s2, s3⟩ := hSw; go_simp⟩) hHeld ?_
  simp only [List.getElem_toArray, List.getElem_cons_succ, List.getElem_cons_zero, Act.put, List.setIfInBounds_toArray, List.set_cons_zero, List.set_cons_succ]
  refine wpAnyH_take (i := 11) (v := (.pointer (some ⟨p8, 0, none⟩))) rfl (by kernel_rfl) (by kernel_rfl) (by kernel_rfl) (fun _ _ _ h => h) (Or.inl ⟨by rfl, by intro w hSw; obtain ⟨s0, s1, s2, s3⟩ := hSw; go_simp⟩) hHeld ?_
  simp only [List.getElem_toArray, List.getElem_cons_succ, List.getElem_cons_zero, Act.put, List.setIfInBounds_toArray, List.set_cons_zero, List.set_cons_succ]
  refine wpAnyH_take (i := 12) (v := (.agg #[.slice ib jb kb])) rfl (by kernel_rfl) (by kernel_rfl) (by kernel_rfl) (fun _ _ _ h => h) (Or.inl ⟨by rfl, by intro w hSw; obtain ⟨s0, s1, s2, s3⟩ := hSw; go_simp⟩) hHeld ?_
  simp only [List.getElem_toArray, List.getElem_cons_succ, List.getElem_cons_zero, Act.put, List.setIfInBounds_toArray, List.set_cons_zero, List.set_cons_succ]
  refine wpAnyH_take (i := 15) (v := (.pointer (some ⟨p8, 1, none⟩))) rfl (by kernel_rfl) (by kernel_rfl) (by kernel_rfl) (fun _ _ _ h => h) (Or.inl ⟨by rfl, by intro w hSw; obtain ⟨s0, s1, s2, s3⟩ := hSw; go_simp⟩) hHeld ?_
  simp only [List.getElem_toArray, List.getElem_cons_succ, List.getElem_cons_zero, Act.put, List.setIfInBounds_toArray, List.set_cons_zero, List.set_cons_succ]
  refine wpAnyH_take (i := 16) (v := (.slice lb mb nb)) rfl (by kernel_rfl) (by kernel_rfl) (by kernel_rfl) (fun _ _ _ h => h) (Or.inl ⟨by rfl, by intro w hSw; obtain ⟨s0, s1, s2, s3⟩ := hSw; go_simp⟩) hHeld ?_
  simp only [List.getElem_toArray, List.getElem_cons_succ, List.getElem_cons_zero, Act.put, List.setIfInBounds_toArray, List.set_cons_zero, List.set_cons_succ]
  refine wpAnyH_ready (rs := [3, 4, 14]) (by kernel_rfl) (by simp) ?_
  refine AllReadyH.cons rfl (fun K hK => ?_) ?_
  · go_simp
    refine (sta_copy HVx.out hT).mono ?_
    rintro e d1 ⟨y1, c1, rfl, hT1⟩
    replace hT := hT1
    clear hT1
    go_wp2_with fail
    refine hK.out _ _ (HS.out _ hT.frm) (fun hHeld => ?_)
    clear hK K
    (try simp only [List.getElem_toArray, List.getElem_cons_succ, List.getElem_cons_zero, Act.put, List.setIfInBounds_toArray, List.set_cons_zero, List.set_cons_succ])
    refine wpAnyH_ready (rs := [4, 14]) (by kernel_rfl) (by simp) ?_
    refine AllReadyH.cons rfl (fun K hK => ?_) ?_
    · go_simp
      obtain ⟨d2, x1, e0, e1, hT1⟩ := sta_row hT
      replace hT := hT1
      rw [e0, e1]
      clear e0 e1 hT1
      refine hK.out _ _ (HS.out _ hT.frm) (fun hHeld => ?_)
      clear hK K
      (try simp only [List.getElem_toArray, List.getElem_cons_succ, List.getElem_cons_zero, Act.put, List.setIfInBounds_toArray, List.set_cons_zero, List.set_cons_succ])
      refine wpAnyH_ready (rs := [7, 14]) (by kernel_rfl) (by simp) ?_
      refine AllReadyH.cons rfl (fun K hK => ?_) ?_
      · refine sta_app rfl (.tmp 26) (.tmp 28) rfl rfl rfl HVx.out hT ?_
        intro q1 cq1 d3 hT1
        replace hT := hT1
        clear hT1
        refine hK.out _ _ (HS.out _ hT.frm) (fun hHeld => ?_)
        clear hK K
        (try simp only [List.getElem_toArray, List.getElem_cons_succ, List.getElem_cons_zero, Act.put, List.setIfInBounds_toArray, List.set_cons_zero, List.set_cons_succ])
        refine wpAnyH_take (i := 8) (v := (.agg #[.slice (some ⟨y1, 0, none⟩) xs1.length c1, .slice (some ⟨q1, 0, none⟩) ls1.length cq1])) rfl (by kernel_rfl) (by kernel_rfl) (by kernel_rfl) (fun _ _ _ h => h) (Or.inl ⟨by rfl, by intro w hSw; obtain ⟨s0, s1, s2, s3⟩ := hSw; go_simp⟩) hHeld ?_
        simp only [List.getElem_toArray, List.getElem_cons_succ, List.getElem_cons_zero, Act.put, List.setIfInBounds_toArray, List.set_cons_zero, List.set_cons_succ]
        refine wpAnyH_ready (rs := [9, 14]) (by kernel_rfl) (by simp) ?_
        refine AllReadyH.cons rfl (fun K hK => ?_) ?_
        · go_simp
          refine (sta_bent HVx.out (by omega) hT).mono ?_
          rintro e d4 ⟨ua1, ub1, uc1, va1, vb1, vc1, S1, T1, rfl, hT1⟩
          replace hT := hT1
          clear hT1
          go_wp2_with fail
          refine hK.out _ _ (HS.out _ hT.frm) (fun hHeld => ?_)
          clear hK K
          (try simp only [List.getElem_toArray, List.getElem_cons_succ, List.getElem_cons_zero, Act.put, List.setIfInBounds_toArray, List.set_cons_zero, List.set_cons_succ])
          refine wpAnyH_ready (rs := [13, 14]) (by kernel_rfl) (by simp) ?_
          refine AllReadyH.cons rfl (fun K hK => ?_) ?_
          · go_simp
            refine (sta_copy HVy.out hT.swap).mono ?_
            rintro e d5 ⟨y2, c2, rfl, hT1⟩
            replace hT := hT1.swap
            clear hT1
            go_wp2_with fail
            refine hK.out _ _ (HS.out _ hT.frm) (fun hHeld => ?_)
            clear hK K
            (try simp only [List.getElem_toArray, List.getElem_cons_succ, List.getElem_cons_zero, Act.put, List.setIfInBounds_toArray, List.set_cons_zero, List.set_cons_succ])
            refine wpAnyH_ready (rs := [14]) (by kernel_rfl) (by simp) ?_
            refine AllReadyH.cons rfl (fun K hK => ?_) AllReadyH.nil
            go_simp
            obtain ⟨d6, x2, e0, e1, hT1⟩ := sta_row hT.swap
            replace hT := hT1.swap
            rw [e0, e1]
            clear e0 e1 hT1
            refine hK.out _ _ (HS.out _ hT.frm) (fun hHeld => ?_)
            clear hK K
            (try simp only [List.getElem_toArray, List.getElem_cons_succ, List.getElem_cons_zero, Act.put, List.setIfInBounds_toArray, List.set_cons_zero, List.set_cons_succ])
            refine wpAnyH_ready (rs := [17]) (by kernel_rfl) (by simp) ?_
            refine AllReadyH.cons rfl (fun K hK => ?_) AllReadyH.nil
            refine sta_app rfl (.tmp 36) (.tmp 38) rfl rfl rfl HVy.out hT.swap ?_
            intro q2 cq2 d7 hT1
            replace hT := hT1.swap
            clear hT1
            refine hK.out _ _ (HS.out _ hT.frm) (fun hHeld => ?_)
            clear hK K
            (try simp only [List.getElem_toArray, List.getElem_cons_succ, List.getElem_cons_zero, Act.put, List.setIfInBounds_toArray, List.set_cons_zero, List.set_cons_succ])
            refine wpAnyH_take (i := 18) (v := (.agg #[.slice (some ⟨y2, 0, none⟩) xs2.length c2, .slice (some ⟨q2, 0, none⟩) ls2.length cq2])) rfl (by kernel_rfl) (by kernel_rfl) (by kernel_rfl) (fun _ _ _ h => h) (Or.inl ⟨by rfl, by intro w hSw; obtain ⟨s0, s1, s2, s3⟩ := hSw; go_simp⟩) hHeld ?_
            simp only [List.getElem_toArray, List.getElem_cons_succ, List.getElem_cons_zero, Act.put, List.setIfInBounds_toArray, List.set_cons_zero, List.set_cons_succ]
            refine wpAnyH_ready (rs := [19]) (by kernel_rfl) (by simp) ?_
            refine AllReadyH.cons rfl (fun K hK => ?_) AllReadyH.nil
            go_simp
            refine (sta_bent HVy.out (by omega) hT.swap).mono ?_
            rintro e d8 ⟨ua2, ub2, uc2, va2, vb2, vc2, S2, T2, rfl, hT1⟩
            replace hT := hT1.swap
            clear hT1
            go_wp2_with fail
            refine hK.out _ _ (HS.out _ hT.frm) (fun hHeld => ?_)
            clear hK K
            (try simp only [List.getElem_toArray, List.getElem_cons_succ, List.getElem_cons_zero, Act.put, List.setIfInBounds_toArray, List.set_cons_zero, List.set_cons_succ])
            obtain ⟨⟨b0, b1⟩, bf⟩ := Dy.frm HQ4'.out hT.frm HN.out.1
            have f0 := bf 0
            have f1 := bf 1
            clear bf
            refine wpAnyH_ready (rs := [20]) (by kernel_rfl) (by simp) ?_
            refine AllReadyH.cons rfl (fun K hK => ?_) AllReadyH.nil
            go_simp
            refine hK.out _ _ (HSP.out _ (HS.out _ hT.frm) q4 HN2.out.1 HN2.out.2.1 _ _) (fun hHeld => ?_)
            clear hK K b0 b1 f0 f1
            (try simp only [List.getElem_toArray, List.getElem_cons_succ, List.getElem_cons_zero, Act.put, List.setIfInBounds_toArray, List.set_cons_zero, List.set_cons_succ])
            have hD5 := Dy.aside (Dy.aside (Dy.frm HQ5'.out hT.frm HN.out.2.1) HN.out.2.2.2.1 0 (.slice ua1 ub1 uc1)) HN.out.2.2.2.1 1 (.slice va1 vb1 vc1)
            have hD4 := Dy.set1 (Dy.set0 (Dy.frm HQ4'.out hT.frm HN.out.1) (.slice ua1 ub1 uc1)) (.slice va1 vb1 vc1)
            obtain ⟨⟨b0, b1⟩, bf⟩ := hD5
            have f0 := bf 0
            have f1 := bf 1
            clear bf
            refine wpAnyH_ready (rs := [21]) (by kernel_rfl) (by simp) ?_
            refine AllReadyH.cons rfl (fun K hK => ?_) AllReadyH.nil
            go_simp
            refine hK.out _ _ (HSP.out _ (HSP.out _ (HS.out _ hT.frm) q4 HN2.out.1 HN2.out.2.1 _ _) q5 HN2.out.2.2.1 HN2.out.2.2.2 _ _) (fun hHeld => ?_)
            clear hK K b0 b1 f0 f1
            refine wpAnyH_done (by kernel_rfl) ?_ _
            have hE4 := (Dy.aside (Dy.aside hD4 HN.out.2.2.1 0 (.slice ua2 ub2 uc2)) HN.out.2.2.1 1 (.slice va2 vb2 vc2)).1
            have hE5 := (Dy.set1 (Dy.set0 (Dy.aside (Dy.aside (Dy.frm HQ5'.out hT.frm HN.out.2.1) HN.out.2.2.2.1 0 (.slice ua1 ub1 uc1)) HN.out.2.2.2.1 1 (.slice va1 vb1 vc1)) (.slice ua2 ub2 uc2)) (.slice va2 vb2 vc2)).1
            have HE : Hid _ := And.intro hE4 hE5
            clear hE4 hE5 hD4
            go_wp2_with fail
            refine bodyPost_ret (v := .tuple #[.agg #[.slice ua1 ub1 uc1, .slice va1 vb1 vc1], .agg #[.slice ua2 ub2 uc2, .slice va2 vb2 vc2]]) ?_ rfl ⟨_, _, _, _, rfl, sta_end hT hq4W hq5W hbq4 hbq5 HGW.out hw4 hw5 (by omega)⟩
            simp [results, Tryz.results28, go_sem, HE.out.1.1, HE.out.1.2, HE.out.2.1, HE.out.2.2]
          refine AllReadyH.cons rfl (fun K hK => ?_) AllReadyH.nil
          go_simp
          obtain ⟨d5, x2, e0, e1, hT1⟩ := sta_row hT.swap
          replace hT := hT1.swap
          rw [e0, e1]
          clear e0 e1 hT1
          refine hK.out _ _ (HS.out _ hT.frm) (fun hHeld => ?_)
          clear hK K
          (try simp only [List.getElem_toArray, List.getElem_cons_succ, List.getElem_cons_zero, Act.put, List.setIfInBounds_toArray, List.set_cons_zero, List.set_cons_succ])
          refine wpAnyH_ready (rs := [13]) (by kernel_rfl) (by simp) ?_
          refine AllReadyH.cons rfl (fun K hK => ?_) AllReadyH.nil
          go_simp
          refine (sta_copy HVy.out hT.swap).mono ?_
          rintro e d6 ⟨y2, c2, rfl, hT1⟩
          replace hT := hT1.swap
          clear hT1
          go_wp2_with fail
          refine hK.out _ _ (HS.out _ hT.frm) (fun hHeld => ?_)
          clear hK K
          (try simp only [List.getElem_toArray, List.getElem_cons_succ, List.getElem_cons_zero, Act.put, List.setIfInBounds_toArray, List.set_cons_zero, List.set_cons_succ])
          refine wpAnyH_ready (rs := [17]) (by kernel_rfl) (by simp) ?_
          refine AllReadyH.cons rfl (fun K hK => ?_) AllReadyH.nil
          refine sta_app rfl (.tmp 36) (.tmp 38) rfl rfl rfl HVy.out hT.swap ?_
          intro q2 cq2 d7 hT1
          replace hT := hT1.swap
          clear hT1
          refine hK.out _ _ (HS.out _ hT.frm) (fun hHeld => ?_)
          clear hK K
          (try simp only [List.getElem_toArray, List.getElem_cons_succ, List.getElem_cons_zero, Act.put, List.setIfInBounds_toArray, List.set_cons_zero, List.set_cons_succ])
          refine wpAnyH_take (i := 18) (v := (.agg #[.slice (some ⟨y2, 0, none⟩) xs2.length c2, .slice (some ⟨q2, 0, none⟩) ls2.length cq2])) rfl (by kernel_rfl) (by kernel_rfl) (by kernel_rfl) (fun _ _ _ h => h) (Or.inl ⟨by rfl, by intro w hSw; obtain ⟨s0, s1, s2, s3⟩ := hSw; go_simp⟩) hHeld ?_
          simp only [List.getElem_toArray, List.getElem_cons_succ, List.getElem_cons_zero, Act.put, List.setIfInBounds_toArray, List.set_cons_zero, List.set_cons_succ]
          refine wpAnyH_ready (rs := [19]) (by kernel_rfl) (by simp) ?_
          refine AllReadyH.cons rfl (fun K hK => ?_) AllReadyH.nil
          go_simp
          refine (sta_bent HVy.out (by omega) hT.swap).mono ?_
          rintro e d8 ⟨ua2, ub2, uc2, va2, vb2, vc2, S2, T2, rfl, hT1⟩
          replace hT := hT1.swap
          clear hT1
          go_wp2_with fail
          refine hK.out _ _ (HS.out _ hT.frm) (fun hHeld => ?_)
          clear hK K
          (try simp only [List.getElem_toArray, List.getElem_cons_succ, List.getElem_cons_zero, Act.put, List.setIfInBounds_toArray, List.set_cons_zero, List.set_cons_succ])
          obtain ⟨⟨b0, b1⟩, bf⟩ := Dy.frm HQ4'.out hT.frm HN.out.1
          have f0 := bf 0
          have f1 := bf 1
          clear bf
          refine wpAnyH_ready (rs := [20]) (by kernel_rfl) (by simp) ?_
          refine AllReadyH.cons rfl (fun K hK => ?_) AllReadyH.nil
          go_simp
          refine hK.out _ _ (HSP.out _ (HS.out _ hT.frm) q4 HN2.out.1 HN2.out.2.1 _ _) (fun hHeld => ?_)
          clear hK K b0 b1 f0 f1
          (try simp only [List.getElem_toArray, List.getElem_cons_succ, List.getElem_cons_zero, Act.put, List.setIfInBounds_toArray, List.set_cons_zero, List.set_cons_succ])
          have hD5 := Dy.aside (Dy.aside (Dy.frm HQ5'.out hT.frm HN.out.2.1) HN.out.2.2.2.1 0 (.slice ua1 ub1 uc1)) HN.out.2.2.2.1 1 (.slice va1 vb1 vc1)
          have hD4 := Dy.set1 (Dy.set0 (Dy.frm HQ4'.out hT.frm HN.out.1) (.slice ua1 ub1 uc1)) (.slice va1 vb1 vc1)
          obtain ⟨⟨b0, b1⟩, bf⟩ := hD5
          have f0 := bf 0
          have f1 := bf 1
          clear bf
          refine wpAnyH_ready (rs := [21]) (by kernel_rfl) (by simp) ?_
          refine AllReadyH.cons rfl (fun K hK => ?_) AllReadyH.nil
          go_simp
          refine hK.out _ _ (HSP.out _ (HSP.out _ (HS.out _ hT.frm) q4 HN2.out.1 HN2.out.2.1 _ _) q5 HN2.out.2.2.1 HN2.out.2.2.2 _ _) (fun hHeld => ?_)
          clear hK K b0 b1 f0 f1
          refine wpAnyH_done (by kernel_rfl) ?_ _
          have hE4 := (Dy.aside (Dy.aside hD4 HN.out.2.2.1 0 (.slice ua2 ub2 uc2)) HN.out.2.2.1 1 (.slice va2 vb2 vc2)).1
          have hE5 := (Dy.set1 (Dy.set0 (Dy.aside (Dy.aside (Dy.frm HQ5'.out hT.frm HN.out.2.1) HN.out.2.2.2.1 0 (.slice ua1 ub1 uc1)) HN.out.2.2.2.1 1 (.slice va1 vb1 vc1)) (.slice ua2 ub2 uc2)) (.slice va2 vb2 vc2)).1
          have HE : Hid _ := And.intro hE4 hE5
          clear hE4 hE5 hD4
          go_wp2_with fail
          refine bodyPost_ret (v := .tuple #[.agg #[.slice ua1 ub1 uc1, .slice va1 vb1 vc1], .agg #[.slice ua2 ub2 uc2, .slice va2 vb2 vc2]]) ?_ rfl ⟨_, _, _, _, rfl, sta_end hT hq4W hq5W hbq4 hbq5 HGW.out hw4 hw5 (by omega)⟩
          simp [results, Tryz.results28, go_sem, HE.out.1.1, HE.out.1.2, HE.out.2.1, HE.out.2.2]
        refine AllReadyH.cons rfl (fun K hK => ?_) AllReadyH.nil
        go_simp
        obtain ⟨d4, x2, e0, e1, hT1⟩ := sta_row hT.swap
        replace hT := hT1.swap
        rw [e0, e1]
        clear e0 e1 hT1
        refine hK.out _ _ (HS.out _ hT.frm) (fun hHeld => ?_)
        clear hK K
        (try simp only [List.getElem_toArray, List.getElem_cons_succ, List.getElem_cons_zero, Act.put, List.setIfInBounds_toArray, List.set_cons_zero, List.set_cons_succ])
        refine wpAnyH_ready (rs := [9]) (by kernel_rfl) (by simp) ?_
        refine AllReadyH.cons rfl (fun K hK => ?_) AllReadyH.nil
        go_simp
        refine (sta_bent HVx.out (by omega) hT).mono ?_
        rintro e d5 ⟨ua1, ub1, uc1, va1, vb1, vc1, S1, T1, rfl, hT1⟩
        replace hT := hT1
        clear hT1
        go_wp2_with fail
        refine hK.out _ _ (HS.out _ hT.frm) (fun hHeld => ?_)
        clear hK K
        (try simp only [List.getElem_toArray, List.getElem_cons_succ, List.getElem_cons_zero, Act.put, List.setIfInBounds_toArray, List.set_cons_zero, List.set_cons_succ])
        refine wpAnyH_ready (rs := [13]) (by kernel_rfl) (by simp) ?_
        refine AllReadyH.cons rfl (fun K hK => ?_) AllReadyH.nil
        go_simp
        refine (sta_copy HVy.out hT.swap).mono ?_
        rintro e d6 ⟨y2, c2, rfl, hT1⟩
        replace hT := hT1.swap
        clear hT1
        go_wp2_with fail
        refine hK.out _ _ (HS.out _ hT.frm) (fun hHeld => ?_)
        clear hK K
        (try simp only [List.getElem_toArray, List.getElem_cons_succ, List.getElem_cons_zero, Act.put, List.setIfInBounds_toArray, List.set_cons_zero, List.set_cons_succ])
        refine wpAnyH_ready (rs := [17]) (by kernel_rfl) (by simp) ?_
        refine AllReadyH.cons rfl (fun K hK => ?_) AllReadyH.nil
        refine sta_app rfl (.tmp 36) (.tmp 38) rfl rfl rfl HVy.out hT.swap ?_
        intro q2 cq2 d7 hT1
        replace hT := hT1.swap
        clear hT1
        refine hK.out _ _ (HS.out _ hT.frm) (fun hHeld => ?_)
        clear hK K
        (try simp only [List.getElem_toArray, List.getElem_cons_succ, List.getElem_cons_zero, Act.put, List.setIfInBounds_toArray, List.set_cons_zero, List.set_cons_succ])
        refine wpAnyH_take (i := 18) (v := (.agg #[.slice (some ⟨y2, 0, none⟩) xs2.length c2, .slice (some ⟨q2, 0, none⟩) ls2.length cq2])) rfl (by kernel_rfl) (by kernel_rfl) (by kernel_rfl) (fun _ _ _ h => h) (Or.inl ⟨by rfl, by intro w hSw; obtain ⟨s0, s1, s2, s3⟩ := hSw; go_simp⟩) hHeld ?_
        simp only [List.getElem_toArray, List.getElem_cons_succ, List.getElem_cons_zero, Act.put, List.setIfInBounds_toArray, List.set_cons_zero, List.set_cons_succ]
        refine wpAnyH_ready (rs := [19]) (by kernel_rfl) (by simp) ?_
        refine AllReadyH.cons rfl (fun K hK => ?_) AllReadyH.nil
        go_simp
        refine (sta_bent HVy.out (by omega) hT.swap).mono ?_
        rintro e d8 ⟨ua2, ub2, uc2, va2, vb2, vc2, S2, T2, rfl, hT1⟩
        replace hT := hT1.swap
        clear hT1
        go_wp2_with fail
        refine hK.out _ _ (HS.out _ hT.frm) (fun hHeld => ?_)
        clear hK K
        (try simp only [List.getElem_toArray, List.getElem_cons_succ, List.getElem_cons_zero, Act.put, List.setIfInBounds_toArray, List.set_cons_zero, List.set_cons_succ])
        obtain ⟨⟨b0, b1⟩, bf⟩ := Dy.frm HQ4'.out hT.frm HN.out.1
        have f0 := bf 0
        have f1 := bf 1
        clear bf
        refine wpAnyH_ready (rs := [20]) (by kernel_rfl) (by simp) ?_
        refine AllReadyH.cons rfl (fun K hK => ?_) AllReadyH.nil
        go_simp
        refine hK.out _ _ (HSP.out _ (HS.out _ hT.frm) q4 HN2.out.1 HN2.out.2.1 _ _) (fun hHeld => ?_)
        clear hK K b0 b1 f0 f1
        (try simp only [List.getElem_toArray, List.getElem_cons_succ, List.getElem_cons_zero, Act.put, List.setIfInBounds_toArray, List.set_cons_zero, List.set_cons_succ])
        have hD5 := Dy.aside (Dy.aside (Dy.frm HQ5'.out hT.frm HN.out.2.1) HN.out.2.2.2.1 0 (.slice ua1 ub1 uc1)) HN.out.2.2.2.1 1 (.slice va1 vb1 vc1)
        have hD4 := Dy.set1 (Dy.set0 (Dy.frm HQ4'.out hT.frm HN.out.1) (.slice ua1 ub1 uc1)) (.slice va1 vb1 vc1)
        obtain ⟨⟨b0, b1⟩, bf⟩ := hD5
        have f0 := bf 0
        have f1 := bf 1
        clear bf
        refine wpAnyH_ready (rs := [21]) (by kernel_rfl) (by simp) ?_
        refine AllReadyH.cons rfl (fun K hK => ?_) AllReadyH.nil
        go_simp
        refine hK.out _ _ (HSP.out _ (HSP.out _ (HS.out _ hT.frm) q4 HN2.out.1 HN2.out.2.1 _ _) q5 HN2.out.2.2.1 HN2.out.2.2.2 _ _) (fun hHeld => ?_)
        clear hK K b0 b1 f0 f1
        refine wpAnyH_done (by kernel_rfl) ?_ _
        have hE4 := (Dy.aside (Dy.aside hD4 HN.out.2.2.1 0 (.slice ua2 ub2 uc2)) HN.out.2.2.1 1 (.slice va2 vb2 vc2)).1
        have hE5 := (Dy.set1 (Dy.set0 (Dy.aside (Dy.aside (Dy.frm HQ5'.out hT.frm HN.out.2.1) HN.out.2.2.2.1 0 (.slice ua1 ub1 uc1)) HN.out.2.2.2.1 1 (.slice va1 vb1 vc1)) (.slice ua2 ub2 uc2)) (.slice va2 vb2 vc2)).1
        have HE : Hid _ := And.intro hE4 hE5
        clear hE4 hE5 hD4
        go_wp2_with fail
        refine bodyPost_ret (v := .tuple #[.agg #[.slice ua1 ub1 uc1, .slice va1 vb1 vc1], .agg #[.slice ua2 ub2 uc2, .slice va2 vb2 vc2]]) ?_ rfl ⟨_, _, _, _, rfl, sta_end hT hq4W hq5W hbq4 hbq5 HGW.out hw4 hw5 (by omega)⟩
        simp [results, Tryz.results28, go_sem, HE.out.1.1, HE.out.1.2, HE.out.2.1, HE.out.2.2]
      refine AllReadyH.cons rfl (fun K hK => ?_) AllReadyH.nil
      go_simp
      obtain ⟨d3, x2, e0, e1, hT1⟩ := sta_row hT.swap
      replace hT := hT1.swap
      rw [e0, e1]
      clear e0 e1 hT1
      refine hK.out _ _ (HS.out _ hT.frm) (fun hHeld => ?_)
      clear hK K
      (try simp only [List.getElem_toArray, List.getElem_cons_succ, List.getElem_cons_zero, Act.put, List.setIfInBounds_toArray, List.set_cons_zero, List.set_cons_succ])
      refine wpAnyH_ready (rs := [7]) (by kernel_rfl) (by simp) ?_
      refine AllReadyH.cons rfl (fun K hK => ?_) AllReadyH.nil
      refine sta_app rfl (.tmp 26) (.tmp 28) rfl rfl rfl HVx.out hT ?_
      intro q1 cq1 d4 hT1
      replace hT := hT1
      clear hT1
      refine hK.out _ _ (HS.out _ hT.frm) (fun hHeld => ?_)
      clear hK K
      (try simp only [List.getElem_toArray, List.getElem_cons_succ, List.getElem_cons_zero, Act.put, List.setIfInBounds_toArray, List.set_cons_zero, List.set_cons_succ])
      refine wpAnyH_take (i := 8) (v := (.agg #[.slice (some ⟨y1, 0, none⟩) xs1.length c1, .slice (some ⟨q1, 0, none⟩) ls1.length cq1])) rfl (by kernel_rfl) (by kernel_rfl) (by kernel_rfl) (fun _ _ _ h => h) (Or.inl ⟨by rfl, by intro w hSw; obtain ⟨s0, s1, s2, s3⟩ := hSw; go_simp⟩) hHeld ?_
      simp only [List.getElem_toArray, List.getElem_cons_succ, List.getElem_cons_zero, Act.put, List.setIfInBounds_toArray, List.set_cons_zero, List.set_cons_succ]
      refine wpAnyH_ready (rs := [9]) (by kernel_rfl) (by simp) ?_
      refine AllReadyH.cons rfl (fun K hK => ?_) AllReadyH.nil
      go_simp
      refine (sta_bent HVx.out (by omega) hT).mono ?_
      rintro e d5 ⟨ua1, ub1, uc1, va1, vb1, vc1, S1, T1, rfl, hT1⟩
      replace hT := hT1
      clear hT1
      go_wp2_with fail
      refine hK.out _ _ (HS.out _ hT.frm) (fun hHeld => ?_)
      clear hK K
      (try simp only [List.getElem_toArray, List.getElem_cons_succ, List.getElem_cons_zero, Act.put, List.setIfInBounds_toArray, List.set_cons_zero, List.set_cons_succ])
      refine wpAnyH_ready (rs := [13]) (by kernel_rfl) (by simp) ?_
      refine AllReadyH.cons rfl (fun K hK => ?_) AllReadyH.nil
      go_simp
      refine (sta_copy HVy.out hT.swap).mono ?_
      rintro e d6 ⟨y2, c2, rfl, hT1⟩
      replace hT := hT1.swap
      clear hT1
      go_wp2_with fail
      refine hK.out _ _ (HS.out _ hT.frm) (fun hHeld => ?_)
      clear hK K
      (try simp only [List.getElem_toArray, List.getElem_cons_succ, List.getElem_cons_zero, Act.put, List.setIfInBounds_toArray, List.set_cons_zero, List.set_cons_succ])
      refine wpAnyH_ready (rs := [17]) (by kernel_rfl) (by simp) ?_
      refine AllReadyH.cons rfl (fun K hK => ?_) AllReadyH.nil
      refine sta_app rfl (.tmp 36) (.tmp 38) rfl rfl rfl HVy.out hT.swap ?_
      intro q2 cq2 d7 hT1
      replace hT := hT1.swap
      clear hT1
      refine hK.out _ _ (HS.out _ hT.frm) (fun hHeld => ?_)
      clear hK K
      (try simp only [List.getElem_toArray, List.getElem_cons_succ, List.getElem_cons_zero, Act.put, List.setIfInBounds_toArray, List.set_cons_zero, List.set_cons_succ])
      refine wpAnyH_take (i := 18) (v := (.agg #[.slice (some ⟨y2, 0, none⟩) xs2.length c2, .slice (some ⟨q2, 0, none⟩) ls2.length cq2])) rfl (by kernel_rfl) (by kernel_rfl) (by kernel_rfl) (fun _ _ _ h => h) (Or.inl ⟨by rfl, by intro w hSw; obtain ⟨s0, s1, s2, s3⟩ := hSw; go_simp⟩) hHeld ?_
      simp only [List.getElem_toArray, List.getElem_cons_succ, List.getElem_cons_zero, Act.put, List.setIfInBounds_toArray, List.set_cons_zero, List.set_cons_succ]
      refine wpAnyH_ready (rs := [19]) (by kernel_rfl) (by simp) ?_
      refine AllReadyH.cons rfl (fun K hK => ?_) AllReadyH.nil
      go_simp
      refine (sta_bent HVy.out (by omega) hT.swap).mono ?_
      rintro e d8 ⟨ua2, ub2, uc2, va2, vb2, vc2, S2, T2, rfl, hT1⟩
      replace hT := hT1.swap
      clear hT1
      go_wp2_with fail
      refine hK.out _ _ (HS.out _ hT.frm) (fun hHeld => ?_)
      clear hK K
      (try simp only [List.getElem_toArray, List.getElem_cons_succ, List.getElem_cons_zero, Act.put, List.setIfInBounds_toArray, List.set_cons_zero, List.set_cons_succ])
      obtain ⟨⟨b0, b1⟩, bf⟩ := Dy.frm HQ4'.out hT.frm HN.out.1
      have f0 := bf 0
      have f1 := bf 1
      clear bf
      refine wpAnyH_ready (rs := [20]) (by kernel_rfl) (by simp) ?_
      refine AllReadyH.cons rfl (fun K hK => ?_) AllReadyH.nil
      go_simp
      refine hK.out _ _ (HSP.out _ (HS.out _ hT.frm) q4 HN2.out.1 HN2.out.2.1 _ _) (fun hHeld => ?_)
      clear hK K b0 b1 f0 f1
      (try simp only [List.getElem_toArray, List.getElem_cons_succ, List.getElem_cons_zero, Act.put, List.setIfInBounds_toArray, List.set_cons_zero, List.set_cons_succ])
      have hD5 := Dy.aside (Dy.aside (Dy.frm HQ5'.out hT.frm HN.out.2.1) HN.out.2.2.2.1 0 (.slice ua1 ub1 uc1)) HN.out.2.2.2.1 1 (.slice va1 vb1 vc1)
      have hD4 := Dy.set1 (Dy.set0 (Dy.frm HQ4'.out hT.frm HN.out.1) (.slice ua1 ub1 uc1)) (.slice va1 vb1 vc1)
      obtain ⟨⟨b0, b1⟩, bf⟩ := hD5
      have f0 := bf 0
      have f1 := bf 1
      clear bf
      refine wpAnyH_ready (rs := [21]) (by kernel_rfl) (by simp) ?_
      refine AllReadyH.cons rfl (fun K hK => ?_) AllReadyH.nil
      go_simp
      refine hK.out _ _ (HSP.out _ (HSP.out _ (HS.out _ hT.frm) q4 HN2.out.1 HN2.out.2.1 _ _) q5 HN2.out.2.2.1 HN2.out.2.2.2 _ _) (fun hHeld => ?_)
      clear hK K b0 b1 f0 f1
      refine wpAnyH_done (by kernel_rfl) ?_ _
      have hE4 := (Dy.aside (Dy.aside hD4 HN.out.2.2.1 0 (.slice ua2 ub2 uc2)) HN.out.2.2.1 1 (.slice va2 vb2 vc2)).1
      have hE5 := (Dy.set1 (Dy.set0 (Dy.aside (Dy.aside (Dy.frm HQ5'.out hT.frm HN.out.2.1) HN.out.2.2.2.1 0 (.slice ua1 ub1 uc1)) HN.out.2.2.2.1 1 (.slice va1 vb1 vc1)) (.slice ua2 ub2 uc2)) (.slice va2 vb2 vc2)).1
      have HE : Hid _ := And.intro hE4 hE5
      clear hE4 hE5 hD4
      go_wp2_with fail
      refine bodyPost_ret (v := .tuple #[.agg #[.slice ua1 ub1 uc1, .slice va1 vb1 vc1], .agg #[.slice ua2 ub2 uc2, .slice va2 vb2 vc2]]) ?_ rfl ⟨_, _, _, _, rfl, sta_end hT hq4W hq5W hbq4 hbq5 HGW.out hw4 hw5 (by omega)⟩
      simp [results, Tryz.results28, go_sem, HE.out.1.1, HE.out.1.2, HE.out.2.1, HE.out.2.2]
    refine AllReadyH.cons rfl (fun K hK => ?_) AllReadyH.nil
    go_simp
    obtain ⟨d2, x2, e0, e1, hT1⟩ := sta_row hT.swap
    replace hT := hT1.swap
    rw [e0, e1]
    clear e0 e1 hT1
    refine hK.out _ _ (HS.out _ hT.frm) (fun hHeld => ?_)
    clear hK K
    (try simp only [List.getElem_toArray, List.getElem_cons_succ, List.getElem_cons_zero, Act.put, List.setIfInBounds_toArray, List.set_cons_zero, List.set_cons_succ])
    refine wpAnyH_ready (rs := [4]) (by kernel_rfl) (by simp) ?_
    refine AllReadyH.cons rfl (fun K hK => ?_) AllReadyH.nil
    go_simp
    obtain ⟨d3, x1, e0, e1, hT1⟩ := sta_row hT
    replace hT := hT1
    rw [e0, e1]
    clear e0 e1 hT1
    refine hK.out _ _ (HS.out _ hT.frm) (fun hHeld => ?_)
    clear hK K
    (try simp only [List.getElem_toArray, List.getElem_cons_succ, List.getElem_cons_zero, Act.put, List.setIfInBounds_toArray, List.set_cons_zero, List.set_cons_succ])
    refine wpAnyH_ready (rs := [7]) (by kernel_rfl) (by simp) ?_
    refine AllReadyH.cons rfl (fun K hK => ?_) AllReadyH.nil
    refine sta_app rfl (.tmp 26) (.tmp 28) rfl rfl rfl HVx.out hT ?_
    intro q1 cq1 d4 hT1
    replace hT := hT1
    clear hT1
    refine hK.out _ _ (HS.out _ hT.frm) (fun hHeld => ?_)
    clear hK K
    (try simp only [List.getElem_toArray, List.getElem_cons_succ, List.getElem_cons_zero, Act.put, List.setIfInBounds_toArray, List.set_cons_zero, List.set_cons_succ])
    refine wpAnyH_take (i := 8) (v := (.agg #[.slice (some ⟨y1, 0, none⟩) xs1.length c1, .slice (some ⟨q1, 0, none⟩) ls1.length cq1])) rfl (by kernel_rfl) (by kernel_rfl) (by kernel_rfl) (fun _ _ _ h => h) (Or.inl ⟨by rfl, by intro w hSw; obtain ⟨s0, s1, s2, s3⟩ := hSw; go_simp⟩) hHeld ?_
    simp only [List.getElem_toArray, List.getElem_cons_succ, List.getElem_cons_zero, Act.put, List.setIfInBounds_toArray, List.set_cons_zero, List.set_cons_succ]
    refine wpAnyH_ready (rs := [9]) (by kernel_rfl) (by simp) ?_
    refine AllReadyH.cons rfl (fun K hK => ?_) AllReadyH.nil
    go_simp
    refine (sta_bent HVx.out (by omega) hT).mono ?_
    rintro e d5 ⟨ua1, ub1, uc1, va1, vb1, vc1, S1, T1, rfl, hT1⟩
    replace hT := hT1
    clear hT1
    go_wp2_with fail
    refine hK.out _ _ (HS.out _ hT.frm) (fun hHeld => ?_)
    clear hK K
    (try simp only [List.getElem_toArray, List.getElem_cons_succ, List.getElem_cons_zero, Act.put, List.setIfInBounds_toArray, List.set_cons_zero, List.set_cons_succ])
    refine wpAnyH_ready (rs := [13]) (by kernel_rfl) (by simp) ?_
    refine AllReadyH.cons rfl (fun K hK => ?_) AllReadyH.nil
    go_simp
    refine (sta_copy HVy.out hT.swap).mono ?_
    rintro e d6 ⟨y2, c2, rfl, hT1⟩
    replace hT := hT1.swap
    clear hT1
    go_wp2_with fail
    refine hK.out _ _ (HS.out _ hT.frm) (fun hHeld => ?_)
    clear hK K
    (try simp only [List.getElem_toArray, List.getElem_cons_succ, List.getElem_cons_zero, Act.put, List.setIfInBounds_toArray, List.set_cons_zero, List.set_cons_succ])
    refine wpAnyH_ready (rs := [17]) (by kernel_rfl) (by simp) ?_
    refine AllReadyH.cons rfl (fun K hK => ?_) AllReadyH.nil
    refine sta_app rfl (.tmp 36) (.tmp 38) rfl rfl rfl HVy.out hT.swap ?_
    intro q2 cq2 d7 hT1
    replace hT := hT1.swap
    clear hT1
    refine hK.out _ _ (HS.out _ hT.frm) (fun hHeld => ?_)
    clear hK K
    (try simp only [List.getElem_toArray, List.getElem_cons_succ, List.getElem_cons_zero, Act.put, List.setIfInBounds_toArray, List.set_cons_zero, List.set_cons_succ])
    refine wpAnyH_take (i := 18) (v := (.agg #[.slice (some ⟨y2, 0, none⟩) xs2.length c2, .slice (some ⟨q2, 0, none⟩) ls2.length cq2])) rfl (by kernel_rfl) (by kernel_rfl) (by kernel_rfl) (fun _ _ _ h => h) (Or.inl ⟨by rfl, by intro w hSw; obtain ⟨s0, s1, s2, s3⟩ := hSw; go_simp⟩) hHeld ?_
    simp only [List.getElem_toArray, List.getElem_cons_succ, List.getElem_cons_zero, Act.put, List.setIfInBounds_toArray, List.set_cons_zero, List.set_cons_succ]
    refine wpAnyH_ready (rs := [19]) (by kernel_rfl) (by simp) ?_
    refine AllReadyH.cons rfl (fun K hK => ?_) AllReadyH.nil
    go_simp
    refine (sta_bent HVy.out (by omega) hT.swap).mono ?_
    rintro e d8 ⟨ua2, ub2, uc2, va2, vb2, vc2, S2, T2, rfl, hT1⟩
    replace hT := hT1.swap
    clear hT1
    go_wp2_with fail
    refine hK.out _ _ (HS.out _ hT.frm) (fun hHeld => ?_)
    clear hK K
    (try simp only [List.getElem_toArray, List.getElem_cons_succ, List.getElem_cons_zero, Act.put, List.setIfInBounds_toArray, List.set_cons_zero, List.set_cons_succ])
    obtain ⟨⟨b0, b1⟩, bf⟩ := Dy.frm HQ4'.out hT.frm HN.out.1
    have f0 := bf 0
    have f1 := bf 1
    clear bf
    refine wpAnyH_ready (rs := [20]) (by kernel_rfl) (by simp) ?_
    refine AllReadyH.cons rfl (fun K hK => ?_) AllReadyH.nil
    go_simp
    refine hK.out _ _ (HSP.out _ (HS.out _ hT.frm) q4 HN2.out.1 HN2.out.2.1 _ _) (fun hHeld => ?_)
    clear hK K b0 b1 f0 f1
    (try simp only [List.getElem_toArray, List.getElem_cons_succ, List.getElem_cons_zero, Act.put, List.setIfInBounds_toArray, List.set_cons_zero, List.set_cons_succ])
    have hD5 := Dy.aside (Dy.aside (Dy.frm HQ5'.out hT.frm HN.out.2.1) HN.out.2.2.2.1 0 (.slice ua1 ub1 uc1)) HN.out.2.2.2.1 1 (.slice va1 vb1 vc1)
    have hD4 := Dy.set1 (Dy.set0 (Dy.frm HQ4'.out hT.frm HN.out.1) (.slice ua1 ub1 uc1)) (.slice va1 vb1 vc1)
    obtain ⟨⟨b0, b1⟩, bf⟩ := hD5
    have f0 := bf 0
    have f1 := bf 1
    clear bf
    refine wpAnyH_ready (rs := [21]) (by kernel_rfl) (by simp) ?_
    refine AllReadyH.cons rfl (fun K hK => ?_) AllReadyH.nil
    go_simp
    refine hK.out _ _ (HSP.out _ (HSP.out _ (HS.out _ hT.frm) q4 HN2.out.1 HN2.out.2.1 _ _) q5 HN2.out.2.2.1 HN2.out.2.2.2 _ _) (fun hHeld => ?_)
    clear hK K b0 b1 f0 f1
    refine wpAnyH_done (by kernel_rfl) ?_ _
    have hE4 := (Dy.aside (Dy.aside hD4 HN.out.2.2.1 0 (.slice ua2 ub2 uc2)) HN.out.2.2.1 1 (.slice va2 vb2 vc2)).1
    have hE5 := (Dy.set1 (Dy.set0 (Dy.aside (Dy.aside (Dy.frm HQ5'.out hT.frm HN.out.2.1) HN.out.2.2.2.1 0 (.slice ua1 ub1 uc1)) HN.out.2.2.2.1 1 (.slice va1 vb1 vc1)) (.slice ua2 ub2 uc2)) (.slice va2 vb2 vc2)).1
    have HE : Hid _ := And.intro hE4 hE5
    clear hE4 hE5 hD4
    go_wp2_with fail
    refine bodyPost_ret (v := .tuple #[.agg #[.slice ua1 ub1 uc1, .slice va1 vb1 vc1], .agg #[.slice ua2 ub2 uc2, .slice va2 vb2 vc2]]) ?_ rfl ⟨_, _, _, _, rfl, sta_end hT hq4W hq5W hbq4 hbq5 HGW.out hw4 hw5 (by omega)⟩
    simp [results, Tryz.results28, go_sem, HE.out.1.1, HE.out.1.2, HE.out.2.1, HE.out.2.2]
  refine AllReadyH.cons rfl (fun K hK => ?_) ?_
  · go_simp
    obtain ⟨d1, x1, e0, e1, hT1⟩ := sta_row hT
    replace hT := hT1
    rw [e0, e1]
    clear e0 e1 hT1
    refine hK.out _ _ (HS.out _ hT.frm) (fun hHeld => ?_)
    clear hK K
    (try simp only [List.getElem_toArray, List.getElem_cons_succ, List.getElem_cons_zero, Act.put, List.setIfInBounds_toArray, List.set_cons_zero, List.set_cons_succ])
    refine wpAnyH_ready (rs := [3, 14]) (by kernel_rfl) (by simp) ?_
    refine AllReadyH.cons rfl (fun K hK => ?_) ?_
    · go_simp
      refine (sta_copy HVx.out hT).mono ?_
      rintro e d2 ⟨y1, c1, rfl, hT1⟩
      replace hT := hT1
      clear hT1
      go_wp2_with fail
      refine hK.out _ _ (HS.out _ hT.frm) (fun hHeld => ?_)
      clear hK K
      (try simp only [List.getElem_toArray, List.getElem_cons_succ, List.getElem_cons_zero, Act.put, List.setIfInBounds_toArray, List.set_cons_zero, List.set_cons_succ])
      refine wpAnyH_ready (rs := [7, 14]) (by kernel_rfl) (by simp) ?_
      refine AllReadyH.cons rfl (fun K hK => ?_) ?_
      · refine sta_app rfl (.tmp 26) (.tmp 28) rfl rfl rfl HVx.out hT ?_
        intro q1 cq1 d3 hT1
        replace hT := hT1
        clear hT1
        refine hK.out _ _ (HS.out _ hT.frm) (fun hHeld => ?_)
        clear hK K
        (try simp only [List.getElem_toArray, List.getElem_cons_succ, List.getElem_cons_zero, Act.put, List.setIfInBounds_toArray, List.set_cons_zero, List.set_cons_succ])
        refine wpAnyH_take (i := 8) (v := (.agg #[.slice (some ⟨y1, 0, none⟩) xs1.length c1, .slice (some ⟨q1, 0, none⟩) ls1.length cq1])) rfl (by kernel_rfl) (by kernel_rfl) (by kernel_rfl) (fun _ _ _ h => h) (Or.inl ⟨by rfl, by intro w hSw; obtain ⟨s0, s1, s2, s3⟩ := hSw; go_simp⟩) hHeld ?_
        simp only [List.getElem_toArray, List.getElem_cons_succ, List.getElem_cons_zero, Act.put, List.setIfInBounds_toArray, List.set_cons_zero, List.set_cons_succ]
        refine wpAnyH_ready (rs := [9, 14]) (by kernel_rfl) (by simp) ?_
        refine AllReadyH.cons rfl (fun K hK => ?_) ?_
        · go_simp
          refine (sta_bent HVx.out (by omega) hT).mono ?_
          rintro e d4 ⟨ua1, ub1, uc1, va1, vb1, vc1, S1, T1, rfl, hT1⟩
          replace hT := hT1
          clear hT1
          go_wp2_with fail
          refine hK.out _ _ (HS.out _ hT.frm) (fun hHeld => ?_)
          clear hK K
          (try simp only [List.getElem_toArray, List.getElem_cons_succ, List.getElem_cons_zero, Act.put, List.setIfInBounds_toArray, List.set_cons_zero, List.set_cons_succ])
          refine wpAnyH_ready (rs := [13, 14]) (by kernel_rfl) (by simp) ?_
          refine AllReadyH.cons rfl (fun K hK => ?_) ?_
          · go_simp
            refine (sta_copy HVy.out hT.swap).mono ?_
            rintro e d5 ⟨y2, c2, rfl, hT1⟩
            replace hT := hT1.swap
            clear hT1
            go_wp2_with fail
            refine hK.out _ _ (HS.out _ hT.frm) (fun hHeld => ?_)
            clear hK K
            (try simp only [List.getElem_toArray, List.getElem_cons_succ, List.getElem_cons_zero, Act.put, List.setIfInBounds_toArray, List.set_cons_zero, List.set_cons_succ])
            refine wpAnyH_ready (rs := [14]) (by kernel_rfl) (by simp) ?_
            refine AllReadyH.cons rfl (fun K hK => ?_) AllReadyH.nil
            go_simp
            obtain ⟨d6, x2, e0, e1, hT1⟩ := sta_row hT.swap
            replace hT := hT1.swap
            rw [e0, e1]
            clear e0 e1 hT1
            refine hK.out _ _ (HS.out _ hT.frm) (fun hHeld => ?_)
            clear hK K
            (try simp only [List.getElem_toArray, List.getElem_cons_succ, List.getElem_cons_zero, Act.put, List.setIfInBounds_toArray, List.set_cons_zero, List.set_cons_succ])
            refine wpAnyH_ready (rs := [17]) (by kernel_rfl) (by simp) ?_
            refine AllReadyH.cons rfl (fun K hK => ?_) AllReadyH.nil
            refine sta_app rfl (.tmp 36) (.tmp 38) rfl rfl rfl HVy.out hT.swap ?_
            intro q2 cq2 d7 hT1
            replace hT := hT1.swap
            clear hT1
            refine hK.out _ _ (HS.out _ hT.frm) (fun hHeld => ?_)
            clear hK K
            (try simp only [List.getElem_toArray, List.getElem_cons_succ, List.getElem_cons_zero, Act.put, List.setIfInBounds_toArray, List.set_cons_zero, List.set_cons_succ])
            refine wpAnyH_take (i := 18) (v := (.agg #[.slice (some ⟨y2, 0, none⟩) xs2.length c2, .slice (some ⟨q2, 0, none⟩) ls2.length cq2])) rfl (by kernel_rfl) (by kernel_rfl) (by kernel_rfl) (fun _ _ _ h => h) (Or.inl ⟨by rfl, by intro w hSw; obtain ⟨s0, s1, s2, s3⟩ := hSw; go_simp⟩) hHeld ?_
            simp only [List.getElem_toArray, List.getElem_cons_succ, List.getElem_cons_zero, Act.put, List.setIfInBounds_toArray, List.set_cons_zero, List.set_cons_succ]
            refine wpAnyH_ready (rs := [19]) (by kernel_rfl) (by simp) ?_
            refine AllReadyH.cons rfl (fun K hK => ?_) AllReadyH.nil
            go_simp
            refine (sta_bent HVy.out (by omega) hT.swap).mono ?_
            rintro e d8 ⟨ua2, ub2, uc2, va2, vb2, vc2, S2, T2, rfl, hT1⟩
            replace hT := hT1.swap
            clear hT1
            go_wp2_with fail
            refine hK.out _ _ (HS.out _ hT.frm) (fun hHeld => ?_)
            clear hK K
            (try simp only [List.getElem_toArray, List.getElem_cons_succ, List.getElem_cons_zero, Act.put, List.setIfInBounds_toArray, List.set_cons_zero, List.set_cons_succ])
            obtain ⟨⟨b0, b1⟩, bf⟩ := Dy.frm HQ4'.out hT.frm HN.out.1
            have f0 := bf 0
            have f1 := bf 1
            clear bf
            refine wpAnyH_ready (rs := [20]) (by kernel_rfl) (by simp) ?_
            refine AllReadyH.cons rfl (fun K hK => ?_) AllReadyH.nil
            go_simp
            refine hK.out _ _ (HSP.out _ (HS.out _ hT.frm) q4 HN2.out.1 HN2.out.2.1 _ _) (fun hHeld => ?_)
            clear hK K b0 b1 f0 f1
            (try simp only [List.getElem_toArray, List.getElem_cons_succ, List.getElem_cons_zero, Act.put, List.setIfInBounds_toArray, List.set_cons_zero, List.set_cons_succ])
            have hD5 := Dy.aside (Dy.aside (Dy.frm HQ5'.out hT.frm HN.out.2.1) HN.out.2.2.2.1 0 (.slice ua1 ub1 uc1)) HN.out.2.2.2.1 1 (.slice va1 vb1 vc1)
            have hD4 := Dy.set1 (Dy.set0 (Dy.frm HQ4'.out hT.frm HN.out.1) (.slice ua1 ub1 uc1)) (.slice va1 vb1 vc1)
            obtain ⟨⟨b0, b1⟩, bf⟩ := hD5
            have f0 := bf 0
            have f1 := bf 1
            clear bf
            refine wpAnyH_ready (rs := [21]) (by kernel_rfl) (by simp) ?_
            refine AllReadyH.cons rfl (fun K hK => ?_) AllReadyH.nil
            go_simp
            refine hK.out _ _ (HSP.out _ (HSP.out _ (HS.out _ hT.frm) q4 HN2.out.1 HN2.out.2.1 _ _) q5 HN2.out.2.2.1 HN2.out.2.2.2 _ _) (fun hHeld => ?_)
            clear hK K b0 b1 f0 f1
            refine wpAnyH_done (by kernel_rfl) ?_ _
            have hE4 := (Dy.aside (Dy.aside hD4 HN.out.2.2.1 0 (.slice ua2 ub2 uc2)) HN.out.2.2.1 1 (.slice va2 vb2 vc2)).1
            have hE5 := (Dy.set1 (Dy.set0 (Dy.aside (Dy.aside (Dy.frm HQ5'.out hT.frm HN.out.2.1) HN.out.2.2.2.1 0 (.slice ua1 ub1 uc1)) HN.out.2.2.2.1 1 (.slice va1 vb1 vc1)) (.slice ua2 ub2 uc2)) (.slice va2 vb2 vc2)).1
            have HE : Hid _ := And.intro hE4 hE5
            clear hE4 hE5 hD4
            go_wp2_with fail
            refine bodyPost_ret (v := .tuple #[.agg #[.slice ua1 ub1 uc1, .slice va1 vb1 vc1], .agg #[.slice ua2 ub2 uc2, .slice va2 vb2 vc2]]) ?_ rfl ⟨_, _, _, _, rfl, sta_end hT hq4W hq5W hbq4 hbq5 HGW.out hw4 hw5 (by omega)⟩
            simp [results, Tryz.results28, go_sem, HE.out.1.1, HE.out.1.2, HE.out.2.1, HE.out.2.2]
          refine AllReadyH.cons rfl (fun K hK => ?_) AllReadyH.nil
          go_simp
          obtain ⟨d5, x2, e0, e1, hT1⟩ := sta_row hT.swap
          replace hT := hT1.swap
          rw [e0, e1]
          clear e0 e1 hT1
          refine hK.out _ _ (HS.out _ hT.frm) (fun hHeld => ?_)
          clear hK K
          (try simp only [List.getElem_toArray, List.getElem_cons_succ, List.getElem_cons_zero, Act.put, List.setIfInBounds_toArray, List.set_cons_zero, List.set_cons_succ])
          refine wpAnyH_ready (rs := [13]) (by kernel_rfl) (by simp) ?_
          refine AllReadyH.cons rfl (fun K hK => ?_) AllReadyH.nil
          go_simp
          refine (sta_copy HVy.out hT.swap).mono ?_
          rintro e d6 ⟨y2, c2, rfl, hT1⟩
          replace hT := hT1.swap
          clear hT1
          go_wp2_with fail
          refine hK.out _ _ (HS.out _ hT.frm) (fun hHeld => ?_)
          clear hK K
          (try simp only [List.getElem_toArray, List.getElem_cons_succ, List.getElem_cons_zero, Act.put, List.setIfInBounds_toArray, List.set_cons_zero, List.set_cons_succ])
          refine wpAnyH_ready (rs := [17]) (by kernel_rfl) (by simp) ?_
          refine AllReadyH.cons rfl (fun K hK => ?_) AllReadyH.nil
          refine sta_app rfl (.tmp 36) (.tmp 38) rfl rfl rfl HVy.out hT.swap ?_
          intro q2 cq2 d7 hT1
          replace hT := hT1.swap
          clear hT1
          refine hK.out _ _ (HS.out _ hT.frm) (fun hHeld => ?_)
          clear hK K
          (try simp only [List.getElem_toArray, List.getElem_cons_succ, List.getElem_cons_zero, Act.put, List.setIfInBounds_toArray, List.set_cons_zero, List.set_cons_succ])
          refine wpAnyH_take (i := 18) (v := (.agg #[.slice (some ⟨y2, 0, none⟩) xs2.length c2, .slice (some ⟨q2, 0, none⟩) ls2.length cq2])) rfl (by kernel_rfl) (by kernel_rfl) (by kernel_rfl) (fun _ _ _ h => h) (Or.inl ⟨by rfl, by intro w hSw; obtain ⟨s0, s1, s2, s3⟩ := hSw; go_simp⟩) hHeld ?_
          simp only [List.getElem_toArray, List.getElem_cons_succ, List.getElem_cons_zero, Act.put, List.setIfInBounds_toArray, List.set_cons_zero, List.set_cons_succ]
          refine wpAnyH_ready (rs := [19]) (by kernel_rfl) (by simp) ?_
          refine AllReadyH.cons rfl (fun K hK => ?_) AllReadyH.nil
          go_simp
          refine (sta_bent HVy.out (by omega) hT.swap).mono ?_
          rintro e d8 ⟨ua2, ub2, uc2, va2, vb2, vc2, S2, T2, rfl, hT1⟩
          replace hT := hT1.swap
          clear hT1
          go_wp2_with fail
          refine hK.out _ _ (HS.out _ hT.frm) (fun hHeld => ?_)
          clear hK K
          (try simp only [List.getElem_toArray, List.getElem_cons_succ, List.getElem_cons_zero, Act.put, List.setIfInBounds_toArray, List.set_cons_zero, List.set_cons_succ])
          obtain ⟨⟨b0, b1⟩, bf⟩ := Dy.frm HQ4'.out hT.frm HN.out.1
          have f0 := bf 0
          have f1 := bf 1
          clear bf
          refine wpAnyH_ready (rs := [20]) (by kernel_rfl) (by simp) ?_
          refine AllReadyH.cons rfl (fun K hK => ?_) AllReadyH.nil
          go_simp
          refine hK.out _ _ (HSP.out _ (HS.out _ hT.frm) q4 HN2.out.1 HN2.out.2.1 _ _) (fun hHeld => ?_)
          clear hK K b0 b1 f0 f1
          (try simp only [List.getElem_toArray, List.getElem_cons_succ, List.getElem_cons_zero, Act.put, List.setIfInBounds_toArray, List.set_cons_zero, List.set_cons_succ])
          have hD5 := Dy.aside (Dy.aside (Dy.frm HQ5'.out hT.frm HN.out.2.1) HN.out.2.2.2.1 0 (.slice ua1 ub1 uc1)) HN.out.2.2.2.1 1 (.slice va1 vb1 vc1)
          have hD4 := Dy.set1 (Dy.set0 (Dy.frm HQ4'.out hT.frm HN.out.1) (.slice ua1 ub1 uc1)) (.slice va1 vb1 vc1)
          obtain ⟨⟨b0, b1⟩, bf⟩ := hD5
          have f0 := bf 0
          have f1 := bf 1
          clear bf
          refine wpAnyH_ready (rs := [21]) (by kernel_rfl) (by simp) ?_
          refine AllReadyH.cons rfl (fun K hK => ?_) AllReadyH.nil
          go_simp
          refine hK.out _ _ (HSP.out _ (HSP.out _ (HS.out _ hT.frm) q4 HN2.out.1 HN2.out.2.1 _ _) q5 HN2.out.2.2.1 HN2.out.2.2.2 _ _) (fun hHeld => ?_)
          clear hK K b0 b1 f0 f1
          refine wpAnyH_done (by kernel_rfl) ?_ _
          have hE4 := (Dy.aside (Dy.aside hD4 HN.out.2.2.1 0 (.slice ua2 ub2 uc2)) HN.out.2.2.1 1 (.slice va2 vb2 vc2)).1
          have hE5 := (Dy.set1 (Dy.set0 (Dy.aside (Dy.aside (Dy.frm HQ5'.out hT.frm HN.out.2.1) HN.out.2.2.2.1 0 (.slice ua1 ub1 uc1)) HN.out.2.2.2.1 1 (.slice va1 vb1 vc1)) (.slice ua2 ub2 uc2)) (.slice va2 vb2 vc2)).1
          have HE : Hid _ := And.intro hE4 hE5
          clear hE4 hE5 hD4
          go_wp2_with fail
          refine bodyPost_ret (v := .tuple #[.agg #[.slice ua1 ub1 uc1, .slice va1 vb1 vc1], .agg #[.slice ua2 ub2 uc2, .slice va2 vb2 vc2]]) ?_ rfl ⟨_, _, _, _, rfl, sta_end hT hq4W hq5W hbq4 hbq5 HGW.out hw4 hw5 (by omega)⟩
          simp [results, Tryz.results28, go_sem, HE.out.1.1, HE.out.1.2, HE.out.2.1, HE.out.2.2]
        refine AllReadyH.cons rfl (fun K hK => ?_) AllReadyH.nil
        go_simp
        obtain ⟨d4, x2, e0, e1, hT1⟩ := sta_row hT.swap
        replace hT := hT1.swap
        rw [e0, e1]
        clear e0 e1 hT1
        refine hK.out _ _ (HS.out _ hT.frm) (fun hHeld => ?_)
        clear hK K
        (try simp only [List.getElem_toArray, List.getElem_cons_succ, List.getElem_cons_zero, Act.put, List.setIfInBounds_toArray, List.set_cons_zero, List.set_cons_succ])
        refine wpAnyH_ready (rs := [9]) (by kernel_rfl) (by simp) ?_
        refine AllReadyH.cons rfl (fun K hK => ?_) AllReadyH.nil
        go_simp
        refine (sta_bent HVx.out (by omega) hT).mono ?_
        rintro e d5 ⟨ua1, ub1, uc1, va1, vb1, vc1, S1, T1, rfl, hT1⟩
        replace hT := hT1
        clear hT1
        go_wp2_with fail
        refine hK.out _ _ (HS.out _ hT.frm) (fun hHeld => ?_)
        clear hK K
        (try simp only [List.getElem_toArray, List.getElem_cons_succ, List.getElem_cons_zero, Act.put, List.setIfInBounds_toArray, List.set_cons_zero, List.set_cons_succ])
        refine wpAnyH_ready (rs := [13]) (by kernel_rfl) (by simp) ?_
        refine AllReadyH.cons rfl (fun K hK => ?_) AllReadyH.nil
        go_simp
        refine (sta_copy HVy.out hT.swap).mono ?_
        rintro e d6 ⟨y2, c2, rfl, hT1⟩
        replace hT := hT1.swap
        clear hT1
        go_wp2_with fail
        refine hK.out _ _ (HS.out _ hT.frm) (fun hHeld => ?_)
        clear hK K
        (try simp only [List.getElem_toArray, List.getElem_cons_succ, List.getElem_cons_zero, Act.put, List.setIfInBounds_toArray, List.set_cons_zero, List.set_cons_succ])
        refine wpAnyH_ready (rs := [17]) (by kernel_rfl) (by simp) ?_
        refine AllReadyH.cons rfl (fun K hK => ?_) AllReadyH.nil
        refine sta_app rfl (.tmp 36) (.tmp 38) rfl rfl rfl HVy.out hT.swap ?_
        intro q2 cq2 d7 hT1
        replace hT := hT1.swap
        clear hT1
        refine hK.out _ _ (HS.out _ hT.frm) (fun hHeld => ?_)
        clear hK K
        (try simp only [List.getElem_toArray, List.getElem_cons_succ, List.getElem_cons_zero, Act.put, List.setIfInBounds_toArray, List.set_cons_zero, List.set_cons_succ])
        refine wpAnyH_take (i := 18) (v := (.agg #[.slice (some ⟨y2, 0, none⟩) xs2.length c2, .slice (some ⟨q2, 0, none⟩) ls2.length cq2])) rfl (by kernel_rfl) (by kernel_rfl) (by kernel_rfl) (fun _ _ _ h => h) (Or.inl ⟨by rfl, by intro w hSw; obtain ⟨s0, s1, s2, s3⟩ := hSw; go_simp⟩) hHeld ?_
        simp only [List.getElem_toArray, List.getElem_cons_succ, List.getElem_cons_zero, Act.put, List.setIfInBounds_toArray, List.set_cons_zero, List.set_cons_succ]
        refine wpAnyH_ready (rs := [19]) (by kernel_rfl) (by simp) ?_
        refine AllReadyH.cons rfl (fun K hK => ?_) AllReadyH.nil
        go_simp
        refine (sta_bent HVy.out (by omega) hT.swap).mono ?_
        rintro e d8 ⟨ua2, ub2, uc2, va2, vb2, vc2, S2, T2, rfl, hT1⟩
        replace hT := hT1.swap
        clear hT1
        go_wp2_with fail
        refine hK.out _ _ (HS.out _ hT.frm) (fun hHeld => ?_)
        clear hK K
        (try simp only [List.getElem_toArray, List.getElem_cons_succ, List.getElem_cons_zero, Act.put, List.setIfInBounds_toArray, List.set_cons_zero, List.set_cons_succ])
        obtain ⟨⟨b0, b1⟩, bf⟩ := Dy.frm HQ4'.out hT.frm HN.out.1
        have f0 := bf 0
        have f1 := bf 1
        clear bf
        refine wpAnyH_ready (rs := [20]) (by kernel_rfl) (by simp) ?_
        refine AllReadyH.cons rfl (fun K hK => ?_) AllReadyH.nil
        go_simp
        refine hK.out _ _ (HSP.out _ (HS.out _ hT.frm) q4 HN2.out.1 HN2.out.2.1 _ _) (fun hHeld => ?_)
        clear hK K b0 b1 f0 f1
        (try simp only [List.getElem_toArray, List.getElem_cons_succ, List.getElem_cons_zero, Act.put, List.setIfInBounds_toArray, List.set_cons_zero, List.set_cons_succ])
        have hD5 := Dy.aside (Dy.aside (Dy.frm HQ5'.out hT.frm HN.out.2.1) HN.out.2.2.2.1 0 (.slice ua1 ub1 uc1)) HN.out.2.2.2.1 1 (.slice va1 vb1 vc1)
        have hD4 := Dy.set1 (Dy.set0 (Dy.frm HQ4'.out hT.frm HN.out.1) (.slice ua1 ub1 uc1)) (.slice va1 vb1 vc1)
        obtain ⟨⟨b0, b1⟩, bf⟩ := hD5
        have f0 := bf 0
        have f1 := bf 1
        clear bf
        refine wpAnyH_ready (rs := [21]) (by kernel_rfl) (by simp) ?_
        refine AllReadyH.cons rfl (fun K hK => ?_) AllReadyH.nil
        go_simp
        refine hK.out _ _ (HSP.out _ (HSP.out _ (HS.out _ hT.frm) q4 HN2.out.1 HN2.out.2.1 _ _) q5 HN2.out.2.2.1 HN2.out.2.2.2 _ _) (fun hHeld => ?_)
        clear hK K b0 b1 f0 f1
        refine wpAnyH_done (by kernel_rfl) ?_ _
        have hE4 := (Dy.aside (Dy.aside hD4 HN.out.2.2.1 0 (.slice ua2 ub2 uc2)) HN.out.2.2.1 1 (.slice va2 vb2 vc2)).1
        have hE5 := (Dy.set1 (Dy.set0 (Dy.aside (Dy.aside (Dy.frm HQ5'.out hT.frm HN.out.2.1) HN.out.2.2.2.1 0 (.slice ua1 ub1 uc1)) HN.out.2.2.2.1 1 (.slice va1 vb1 vc1)) (.slice ua2 ub2 uc2)) (.slice va2 vb2 vc2)).1
        have HE : Hid _ := And.intro hE4 hE5
        clear hE4 hE5 hD4
        go_wp2_with fail
        refine bodyPost_ret (v := .tuple #[.agg #[.slice ua1 ub1 uc1, .slice va1 vb1 vc1], .agg #[.slice ua2 ub2 uc2, .slice va2 vb2 vc2]]) ?_ rfl ⟨_, _, _, _, rfl, sta_end hT hq4W hq5W hbq4 hbq5 HGW.out hw4 hw5 (by omega)⟩
        simp [results, Tryz.results28, go_sem, HE.out.1.1, HE.out.1.2, HE.out.2.1, HE.out.2.2]
      refine AllReadyH.cons rfl (fun K hK => ?_) AllReadyH.nil
      go_simp
      obtain ⟨d3, x2, e0, e1, hT1⟩ := sta_row hT.swap
      replace hT := hT1.swap
      rw [e0, e1]
      clear e0 e1 hT1
      refine hK.out _ _ (HS.out _ hT.frm) (fun hHeld => ?_)
      clear hK K
      (try simp only [List.getElem_toArray, List.getElem_cons_succ, List.getElem_cons_zero, Act.put, List.setIfInBounds_toArray, List.set_cons_zero, List.set_cons_succ])
      refine wpAnyH_ready (rs := [7]) (by kernel_rfl) (by simp) ?_
      refine AllReadyH.cons rfl (fun K hK => ?_) AllReadyH.nil
      refine sta_app rfl (.tmp 26) (.tmp 28) rfl rfl rfl HVx.out hT ?_
      intro q1 cq1 d4 hT1
      replace hT := hT1
      clear hT1
      refine hK.out _ _ (HS.out _ hT.frm) (fun hHeld => ?_)
      clear hK K
      (try simp only [List.getElem_toArray, List.getElem_cons_succ, List.getElem_cons_zero, Act.put, List.setIfInBounds_toArray, List.set_cons_zero, List.set_cons_succ])
      refine wpAnyH_take (i := 8) (v := (.agg #[.slice (some ⟨y1, 0, none⟩) xs1.length c1, .slice (some ⟨q1, 0, none⟩) ls1.length cq1])) rfl (by kernel_rfl) (by kernel_rfl) (by kernel_rfl) (fun _ _ _ h => h) (Or.inl ⟨by rfl, by intro w hSw; obtain ⟨s0, s1, s2, s3⟩ := hSw; go_simp⟩) hHeld ?_
      simp only [List.getElem_toArray, List.getElem_cons_succ, List.getElem_cons_zero, Act.put, List.setIfInBounds_toArray, List.set_cons_zero, List.set_cons_succ]
      refine wpAnyH_ready (rs := [9]) (by kernel_rfl) (by simp) ?_
      refine AllReadyH.cons rfl (fun K hK => ?_) AllReadyH.nil
      go_simp
      refine (sta_bent HVx.out (by omega) hT).mono ?_
      rintro e d5 ⟨ua1, ub1, uc1, va1, vb1, vc1, S1, T1, rfl, hT1⟩
      replace hT := hT1
      clear hT1
      go_wp2_with fail
      refine hK.out _ _ (HS.out _ hT.frm) (fun hHeld => ?_)
      clear hK K
      (try simp only [List.getElem_toArray, List.getElem_cons_succ, List.getElem_cons_zero, Act.put, List.setIfInBounds_toArray, List.set_cons_zero, List.set_cons_succ])
      refine wpAnyH_ready (rs := [13]) (by kernel_rfl) (by simp) ?_
      refine AllReadyH.cons rfl (fun K hK => ?_) AllReadyH.nil
      go_simp
      refine (sta_copy HVy.out hT.swap).mono ?_
      rintro e d6 ⟨y2, c2, rfl, hT1⟩
      replace hT := hT1.swap
      clear hT1
      go_wp2_with fail
      refine hK.out _ _ (HS.out _ hT.frm) (fun hHeld => ?_)
      clear hK K
      (try simp only [List.getElem_toArray, List.getElem_cons_succ, List.getElem_cons_zero, Act.put, List.setIfInBounds_toArray, List.set_cons_zero, List.set_cons_succ])
      refine wpAnyH_ready (rs := [17]) (by kernel_rfl) (by simp) ?_
      refine AllReadyH.cons rfl (fun K hK => ?_) AllReadyH.nil
      refine sta_app rfl (.tmp 36) (.tmp 38) rfl rfl rfl HVy.out hT.swap ?_
      intro q2 cq2 d7 hT1
      replace hT := hT1.swap
      clear hT1
      refine hK.out _ _ (HS.out _ hT.frm) (fun hHeld => ?_)
      clear hK K
      (try simp only [List.getElem_toArray, List.getElem_cons_succ, List.getElem_cons_zero, Act.put, List.setIfInBounds_toArray, List.set_cons_zero, List.set_cons_succ])
      refine wpAnyH_take (i := 18) (v := (.agg #[.slice (some ⟨y2, 0, none⟩) xs2.length c2, .slice (some ⟨q2, 0, none⟩) ls2.length cq2])) rfl (by kernel_rfl) (by kernel_rfl) (by kernel_rfl) (fun _ _ _ h => h) (Or.inl ⟨by rfl, by intro w hSw; obtain ⟨s0, s1, s2, s3⟩ := hSw; go_simp⟩) hHeld ?_
      simp only [List.getElem_toArray, List.getElem_cons_succ, List.getElem_cons_zero, Act.put, List.setIfInBounds_toArray, List.set_cons_zero, List.set_cons_succ]
      refine wpAnyH_ready (rs := [19]) (by kernel_rfl) (by simp) ?_
      refine AllReadyH.cons rfl (fun K hK => ?_) AllReadyH.nil
      go_simp
      refine (sta_bent HVy.out (by omega) hT.swap).mono ?_
      rintro e d8 ⟨ua2, ub2, uc2, va2, vb2, vc2, S2, T2, rfl, hT1⟩
      replace hT := hT1.swap
      clear hT1
      go_wp2_with fail
      refine hK.out _ _ (HS.out _ hT.frm) (fun hHeld => ?_)
      clear hK K
      (try simp only [List.getElem_toArray, List.getElem_cons_succ, List.getElem_cons_zero, Act.put, List.setIfInBounds_toArray, List.set_cons_zero, List.set_cons_succ])
      obtain ⟨⟨b0, b1⟩, bf⟩ := Dy.frm HQ4'.out hT.frm HN.out.1
      have f0 := bf 0
      have f1 := bf 1
      clear bf
      refine wpAnyH_ready (rs := [20]) (by kernel_rfl) (by simp) ?_
      refine AllReadyH.cons rfl (fun K hK => ?_) AllReadyH.nil
      go_simp
      refine hK.out _ _ (HSP.out _ (HS.out _ hT.frm) q4 HN2.out.1 HN2.out.2.1 _ _) (fun hHeld => ?_)
      clear hK K b0 b1 f0 f1
      (try simp only [List.getElem_toArray, List.getElem_cons_succ, List.getElem_cons_zero, Act.put, List.setIfInBounds_toArray, List.set_cons_zero, List.set_cons_succ])
      have hD5 := Dy.aside (Dy.aside (Dy.frm HQ5'.out hT.frm HN.out.2.1) HN.out.2.2.2.1 0 (.slice ua1 ub1 uc1)) HN.out.2.2.2.1 1 (.slice va1 vb1 vc1)
      have hD4 := Dy.set1 (Dy.set0 (Dy.frm HQ4'.out hT.frm HN.out.1) (.slice ua1 ub1 uc1)) (.slice va1 vb1 vc1)
      obtain ⟨⟨b0, b1⟩, bf⟩ := hD5
      have f0 := bf 0
      have f1 := bf 1
      clear bf
      refine wpAnyH_ready (rs := [21]) (by kernel_rfl) (by simp) ?_
      refine AllReadyH.cons rfl (fun K hK => ?_) AllReadyH.nil
      go_simp
      refine hK.out _ _ (HSP.out _ (HSP.out _ (HS.out _ hT.frm) q4 HN2.out.1 HN2.out.2.1 _ _) q5 HN2.out.2.2.1 HN2.out.2.2.2 _ _) (fun hHeld => ?_)
      clear hK K b0 b1 f0 f1
      refine wpAnyH_done (by kernel_rfl) ?_ _
      have hE4 := (Dy.aside (Dy.aside hD4 HN.out.2.2.1 0 (.slice ua2 ub2 uc2)) HN.out.2.2.1 1 (.slice va2 vb2 vc2)).1
      have hE5 := (Dy.set1 (Dy.set0 (Dy.aside (Dy.aside (Dy.frm HQ5'.out hT.frm HN.out.2.1) HN.out.2.2.2.1 0 (.slice ua1 ub1 uc1)) HN.out.2.2.2.1 1 (.slice va1 vb1 vc1)) (.slice ua2 ub2 uc2)) (.slice va2 vb2 vc2)).1
      have HE : Hid _ := And.intro hE4 hE5
      clear hE4 hE5 hD4
      go_wp2_with fail
      refine bodyPost_ret (v := .tuple #[.agg #[.slice ua1 ub1 uc1, .slice va1 vb1 vc1], .agg #[.slice ua2 ub2 uc2, .slice va2 vb2 vc2]]) ?_ rfl ⟨_, _, _, _, rfl, sta_end hT hq4W hq5W hbq4 hbq5 HGW.out hw4 hw5 (by omega)⟩
      simp [results, Tryz.results28, go_sem, HE.out.1.1, HE.out.1.2, HE.out.2.1, HE.out.2.2]
    refine AllReadyH.cons rfl (fun K hK => ?_) AllReadyH.nil
    go_simp
    obtain ⟨d2, x2, e0, e1, hT1⟩ := sta_row hT.swap
    replace hT := hT1.swap
    rw [e0, e1]
    clear e0 e1 hT1
    refine hK.out _ _ (HS.out _ hT.frm) (fun hHeld => ?_)
    clear hK K
    (try simp only [List.getElem_toArray, List.getElem_cons_succ, List.getElem_cons_zero, Act.put, List.setIfInBounds_toArray, List.set_cons_zero, List.set_cons_succ])
    refine wpAnyH_ready (rs := [3]) (by kernel_rfl) (by simp) ?_
    refine AllReadyH.cons rfl (fun K hK => ?_) AllReadyH.nil
    go_simp
    refine (sta_copy HVx.out hT).mono ?_
    rintro e d3 ⟨y1, c1, rfl, hT1⟩
    replace hT := hT1
    clear hT1
    go_wp2_with fail
    refine hK.out _ _ (HS.out _ hT.frm) (fun hHeld => ?_)
    clear hK K
    (try simp only [List.getElem_toArray, List.getElem_cons_succ, List.getElem_cons_zero, Act.put, List.setIfInBounds_toArray, List.set_cons_zero, List.set_cons_succ])
    refine wpAnyH_ready (rs := [7]) (by kernel_rfl) (by simp) ?_
    refine AllReadyH.cons rfl (fun K hK => ?_) AllReadyH.nil
    refine sta_app rfl (.tmp 26) (.tmp 28) rfl rfl rfl HVx.out hT ?_
    intro q1 cq1 d4 hT1
    replace hT := hT1
    clear hT1
    refine hK.out _ _ (HS.out _ hT.frm) (fun hHeld => ?_)
    clear hK K
    (try simp only [List.getElem_toArray, List.getElem_cons_succ, List.getElem_cons_zero, Act.put, List.setIfInBounds_toArray, List.set_cons_zero, List.set_cons_succ])
    refine wpAnyH_take (i := 8) (v := (.agg #[.slice (some ⟨y1, 0, none⟩) xs1.length c1, .slice (some ⟨q1, 0, none⟩) ls1.length cq1])) rfl (by kernel_rfl) (by kernel_rfl) (by kernel_rfl) (fun _ _ _ h => h) (Or.inl ⟨by rfl, by intro w hSw; obtain ⟨s0, s1, s2, s3⟩ := hSw; go_simp⟩) hHeld ?_
    simp only [List.getElem_toArray, List.getElem_cons_succ, List.getElem_cons_zero, Act.put, List.setIfInBounds_toArray, List.set_cons_zero, List.set_cons_succ]
    refine wpAnyH_ready (rs := [9]) (by kernel_rfl) (by simp) ?_
    refine AllReadyH.cons rfl (fun K hK => ?_) AllReadyH.nil
    go_simp
    refine (sta_bent HVx.out (by omega) hT).mono ?_
    rintro e d5 ⟨ua1, ub1, uc1, va1, vb1, vc1, S1, T1, rfl, hT1⟩
    replace hT := hT1
    clear hT1
    go_wp2_with fail
    refine hK.out _ _ (HS.out _ hT.frm) (fun hHeld => ?_)
    clear hK K
    (try simp only [List.getElem_toArray, List.getElem_cons_succ, List.getElem_cons_zero, Act.put, List.setIfInBounds_toArray, List.set_cons_zero, List.set_cons_succ])
    refine wpAnyH_ready (rs := [13]) (by kernel_rfl) (by simp) ?_
    refine AllReadyH.cons rfl (fun K hK => ?_) AllReadyH.nil
    go_simp
    refine (sta_copy HVy.out hT.swap).mono ?_
    rintro e d6 ⟨y2, c2, rfl, hT1⟩
    replace hT := hT1.swap
    clear hT1
    go_wp2_with fail
    refine hK.out _ _ (HS.out _ hT.frm) (fun hHeld => ?_)
    clear hK K
    (try simp only [List.getElem_toArray, List.getElem_cons_succ, List.getElem_cons_zero, Act.put, List.setIfInBounds_toArray, List.set_cons_zero, List.set_cons_succ])
    refine wpAnyH_ready (rs := [17]) (by kernel_rfl) (by simp) ?_
    refine AllReadyH.cons rfl (fun K hK => ?_) AllReadyH.nil
    refine sta_app rfl (.tmp 36) (.tmp 38) rfl rfl rfl HVy.out hT.swap ?_
    intro q2 cq2 d7 hT1
    replace hT := hT1.swap
    clear hT1
    refine hK.out _ _ (HS.out _ hT.frm) (fun hHeld => ?_)
    clear hK K
    (try simp only [List.getElem_toArray, List.getElem_cons_succ, List.getElem_cons_zero, Act.put, List.setIfInBounds_toArray, List.set_cons_zero, List.set_cons_succ])
    refine wpAnyH_take (i := 18) (v := (.agg #[.slice (some ⟨y2, 0, none⟩) xs2.length c2, .slice (some ⟨q2, 0, none⟩) ls2.length cq2])) rfl (by kernel_rfl) (by kernel_rfl) (by kernel_rfl) (fun _ _ _ h => h) (Or.inl ⟨by rfl, by intro w hSw; obtain ⟨s0, s1, s2, s3⟩ := hSw; go_simp⟩) hHeld ?_
    simp only [List.getElem_toArray, List.getElem_cons_succ, List.getElem_cons_zero, Act.put, List.setIfInBounds_toArray, List.set_cons_zero, List.set_cons_succ]
    refine wpAnyH_ready (rs := [19]) (by kernel_rfl) (by simp) ?_
    refine AllReadyH.cons rfl (fun K hK => ?_) AllReadyH.nil
    go_simp
    refine (sta_bent HVy.out (by omega) hT.swap).mono ?_
    rintro e d8 ⟨ua2, ub2, uc2, va2, vb2, vc2, S2, T2, rfl, hT1⟩
    replace hT := hT1.swap
    clear hT1
    go_wp2_with fail
    refine hK.out _ _ (HS.out _ hT.frm) (fun hHeld => ?_)
    clear hK K
    (try simp only [List.getElem_toArray, List.getElem_cons_succ, List.getElem_cons_zero, Act.put, List.setIfInBounds_toArray, List.set_cons_zero, List.set_cons_succ])
    obtain ⟨⟨b0, b1⟩, bf⟩ := Dy.frm HQ4'.out hT.frm HN.out.1
    have f0 := bf 0
    have f1 := bf 1
    clear bf
    refine wpAnyH_ready (rs := [20]) (by kernel_rfl) (by simp) ?_
    refine AllReadyH.cons rfl (fun K hK => ?_) AllReadyH.nil
    go_simp
    refine hK.out _ _ (HSP.out _ (HS.out _ hT.frm) q4 HN2.out.1 HN2.out.2.1 _ _) (fun hHeld => ?_)
    clear hK K b0 b1 f0 f1
    (try simp only [List.getElem_toArray, List.getElem_cons_succ, List.getElem_cons_zero, Act.put, List.setIfInBounds_toArray, List.set_cons_zero, List.set_cons_succ])
    have hD5 := Dy.aside (Dy.aside (Dy.frm HQ5'.out hT.frm HN.out.2.1) HN.out.2.2.2.1 0 (.slice ua1 ub1 uc1)) HN.out.2.2.2.1 1 (.slice va1 vb1 vc1)
    have hD4 := Dy.set1 (Dy.set0 (Dy.frm HQ4'.out hT.frm HN.out.1) (.slice ua1 ub1 uc1)) (.slice va1 vb1 vc1)
    obtain ⟨⟨b0, b1⟩, bf⟩ := hD5
    have f0 := bf 0
    have f1 := bf 1
    clear bf
    refine wpAnyH_ready (rs := [21]) (by kernel_rfl) (by simp) ?_
    refine AllReadyH.cons rfl (fun K hK => ?_) AllReadyH.nil
    go_simp
    refine hK.out _ _ (HSP.out _ (HSP.out _ (HS.out _ hT.frm) q4 HN2.out.1 HN2.out.2.1 _ _) q5 HN2.out.2.2.1 HN2.out.2.2.2 _ _) (fun hHeld => ?_)
    clear hK K b0 b1 f0 f1
    refine wpAnyH_done (by kernel_rfl) ?_ _
    have hE4 := (Dy.aside (Dy.aside hD4 HN.out.2.2.1 0 (.slice ua2 ub2 uc2)) HN.out.2.2.1 1 (.slice va2 vb2 vc2)).1
    have hE5 := (Dy.set1 (Dy.set0 (Dy.aside (Dy.aside (Dy.frm HQ5'.out hT.frm HN.out.2.1) HN.out.2.2.2.1 0 (.slice ua1 ub1 uc1)) HN.out.2.2.2.1 1 (.slice va1 vb1 vc1)) (.slice ua2 ub2 uc2)) (.slice va2 vb2 vc2)).1
    have HE : Hid _ := And.intro hE4 hE5
    clear hE4 hE5 hD4
    go_wp2_with fail
    refine bodyPost_ret (v := .tuple #[.agg #[.slice ua1 ub1 uc1, .slice va1 vb1 vc1], .agg #[.slice ua2 ub2 uc2, .slice va2 vb2 vc2]]) ?_ rfl ⟨_, _, _, _, rfl, sta_end hT hq4W hq5W hbq4 hbq5 HGW.out hw4 hw5 (by omega)⟩
    simp [results, Tryz.results28, go_sem, HE.out.1.1, HE.out.1.2, HE.out.2.1, HE.out.2.2]
  refine AllReadyH.cons rfl (fun K hK => ?_) AllReadyH.nil
  go_simp
  obtain ⟨d1, x2, e0, e1, hT1⟩ := sta_row hT.swap
  replace hT := hT1.swap
  rw [e0, e1]
  clear e0 e1 hT1
  refine hK.out _ _ (HS.out _ hT.frm) (fun hHeld => ?_)
  clear hK K
  (try simp only [List.getElem_toArray, List.getElem_cons_succ, List.getElem_cons_zero, Act.put, List.setIfInBounds_toArray, List.set_cons_zero, List.set_cons_succ])
  refine wpAnyH_ready (rs := [3, 4]) (by kernel_rfl) (by simp) ?_
  refine AllReadyH.cons rfl (fun K hK => ?_) ?_
  · go_simp
    refine (sta_copy HVx.out hT).mono ?_
    rintro e d2 ⟨y1, c1, rfl, hT1⟩
    replace hT := hT1
    clear hT1
    go_wp2_with fail
    refine hK.out _ _ (HS.out _ hT.frm) (fun hHeld => ?_)
    clear hK K
    (try simp only [List.getElem_toArray, List.getElem_cons_succ, List.getElem_cons_zero, Act.put, List.setIfInBounds_toArray, List.set_cons_zero, List.set_cons_succ])
    refine wpAnyH_ready (rs := [4]) (by kernel_rfl) (by simp) ?_
    refine AllReadyH.cons rfl (fun K hK => ?_) AllReadyH.nil
    go_simp
    obtain ⟨d3, x1, e0, e1, hT1⟩ := sta_row hT
    replace hT := hT1
    rw [e0, e1]
    clear e0 e1 hT1
    refine hK.out _ _ (HS.out _ hT.frm) (fun hHeld => ?_)
    clear hK K
    (try simp only [List.getElem_toArray, List.getElem_cons_succ, List.getElem_cons_zero, Act.put, List.setIfInBounds_toArray, List.set_cons_zero, List.set_cons_succ])
    refine wpAnyH_ready (rs := [7]) (by kernel_rfl) (by simp) ?_
    refine AllReadyH.cons rfl (fun K hK => ?_) AllReadyH.nil
    refine sta_app rfl (.tmp 26) (.tmp 28) rfl rfl rfl HVx.out hT ?_
    intro q1 cq1 d4 hT1
    replace hT := hT1
    clear hT1
    refine hK.out _ _ (HS.out _ hT.frm) (fun hHeld => ?_)
    clear hK K
    (try simp only [List.getElem_toArray, List.getElem_cons_succ, List.getElem_cons_zero, Act.put, List.setIfInBounds_toArray, List.set_cons_zero, List.set_cons_succ])
    refine wpAnyH_take (i := 8) (v := (.agg #[.slice (some ⟨y1, 0, none⟩) xs1.length c1, .slice (some ⟨q1, 0, none⟩) ls1.length cq1])) rfl (by kernel_rfl) (by kernel_rfl) (by kernel_rfl) (fun _ _ _ h => h) (Or.inl ⟨by rfl, by intro w hSw; obtain ⟨s0, s1, s2, s3⟩ := hSw; go_simp⟩) hHeld ?_
    simp only [List.getElem_toArray, List.getElem_cons_succ, List.getElem_cons_zero, Act.put, List.setIfInBounds_toArray, List.set_cons_zero, List.set_cons_succ]
    refine wpAnyH_ready (rs := [9]) (by kernel_rfl) (by simp) ?_
    refine AllReadyH.cons rfl (fun K hK => ?_) AllReadyH.nil
    go_simp
    refine (sta_bent HVx.out (by omega) hT).mono ?_
    rintro e d5 ⟨ua1, ub1, uc1, va1, vb1, vc1, S1, T1, rfl, hT1⟩
    replace hT := hT1
    clear hT1
    go_wp2_with fail
    refine hK.out _ _ (HS.out _ hT.frm) (fun hHeld => ?_)
    clear hK K
    (try simp only [List.getElem_toArray, List.getElem_cons_succ, List.getElem_cons_zero, Act.put, List.setIfInBounds_toArray, List.set_cons_zero, List.set_cons_succ])
    refine wpAnyH_ready (rs := [13]) (by kernel_rfl) (by simp) ?_
    refine AllReadyH.cons rfl (fun K hK => ?_) AllReadyH.nil
    go_simp
    refine (sta_copy HVy.out hT.swap).mono ?_
    rintro e d6 ⟨y2, c2, rfl, hT1⟩
    replace hT := hT1.swap
    clear hT1
    go_wp2_with fail
    refine hK.out _ _ (HS.out _ hT.frm) (fun hHeld => ?_)
    clear hK K
    (try simp only [List.getElem_toArray, List.getElem_cons_succ, List.getElem_cons_zero, Act.put, List.setIfInBounds_toArray, List.set_cons_zero, List.set_cons_succ])
    refine wpAnyH_ready (rs := [17]) (by kernel_rfl) (by simp) ?_
    refine AllReadyH.cons rfl (fun K hK => ?_) AllReadyH.nil
    refine sta_app rfl (.tmp 36) (.tmp 38) rfl rfl rfl HVy.out hT.swap ?_
    intro q2 cq2 d7 hT1
    replace hT := hT1.swap
    clear hT1
    refine hK.out _ _ (HS.out _ hT.frm) (fun hHeld => ?_)
    clear hK K
    (try simp only [List.getElem_toArray, List.getElem_cons_succ, List.getElem_cons_zero, Act.put, List.setIfInBounds_toArray, List.set_cons_zero, List.set_cons_succ])
    refine wpAnyH_take (i := 18) (v := (.agg #[.slice (some ⟨y2, 0, none⟩) xs2.length c2, .slice (some ⟨q2, 0, none⟩) ls2.length cq2])) rfl (by kernel_rfl) (by kernel_rfl) (by kernel_rfl) (fun _ _ _ h => h) (Or.inl ⟨by rfl, by intro w hSw; obtain ⟨s0, s1, s2, s3⟩ := hSw; go_simp⟩) hHeld ?_
    simp only [List.getElem_toArray, List.getElem_cons_succ, List.getElem_cons_zero, Act.put, List.setIfInBounds_toArray, List.set_cons_zero, List.set_cons_succ]
    refine wpAnyH_ready (rs := [19]) (by kernel_rfl) (by simp) ?_
    refine AllReadyH.cons rfl (fun K hK => ?_) AllReadyH.nil
    go_simp
    refine (sta_bent HVy.out (by omega) hT.swap).mono ?_
    rintro e d8 ⟨ua2, ub2, uc2, va2, vb2, vc2, S2, T2, rfl, hT1⟩
    replace hT := hT1.swap
    clear hT1
    go_wp2_with fail
    refine hK.out _ _ (HS.out _ hT.frm) (fun hHeld => ?_)
    clear hK K
    (try simp only [List.getElem_toArray, List.getElem_cons_succ, List.getElem_cons_zero, Act.put, List.setIfInBounds_toArray, List.set_cons_zero, List.set_cons_succ])
    obtain ⟨⟨b0, b1⟩, bf⟩ := Dy.frm HQ4'.out hT.frm HN.out.1
    have f0 := bf 0
    have f1 := bf 1
    clear bf
    refine wpAnyH_ready (rs := [20]) (by kernel_rfl) (by simp) ?_
    refine AllReadyH.cons rfl (fun K hK => ?_) AllReadyH.nil
    go_simp
    refine hK.out _ _ (HSP.out _ (HS.out _ hT.frm) q4 HN2.out.1 HN2.out.2.1 _ _) (fun hHeld => ?_)
    clear hK K b0 b1 f0 f1
    (try simp only [List.getElem_toArray, List.getElem_cons_succ, List.getElem_cons_zero, Act.put, List.setIfInBounds_toArray, List.set_cons_zero, List.set_cons_succ])
    have hD5 := Dy.aside (Dy.aside (Dy.frm HQ5'.out hT.frm HN.out.2.1) HN.out.2.2.2.1 0 (.slice ua1 ub1 uc1)) HN.out.2.2.2.1 1 (.slice va1 vb1 vc1)
    have hD4 := Dy.set1 (Dy.set0 (Dy.frm HQ4'.out hT.frm HN.out.1) (.slice ua1 ub1 uc1)) (.slice va1 vb1 vc1)
    obtain ⟨⟨b0, b1⟩, bf⟩ := hD5
    have f0 := bf 0
    have f1 := bf 1
    clear bf
    refine wpAnyH_ready (rs := [21]) (by kernel_rfl) (by simp) ?_
    refine AllReadyH.cons rfl (fun K hK => ?_) AllReadyH.nil
    go_simp
    refine hK.out _ _ (HSP.out _ (HSP.out _ (HS.out _ hT.frm) q4 HN2.out.1 HN2.out.2.1 _ _) q5 HN2.out.2.2.1 HN2.out.2.2.2 _ _) (fun hHeld => ?_)
    clear hK K b0 b1 f0 f1
    refine wpAnyH_done (by kernel_rfl) ?_ _
    have hE4 := (Dy.aside (Dy.aside hD4 HN.out.2.2.1 0 (.slice ua2 ub2 uc2)) HN.out.2.2.1 1 (.slice va2 vb2 vc2)).1
    have hE5 := (Dy.set1 (Dy.set0 (Dy.aside (Dy.aside (Dy.frm HQ5'.out hT.frm HN.out.2.1) HN.out.2.2.2.1 0 (.slice ua1 ub1 uc1)) HN.out.2.2.2.1 1 (.slice va1 vb1 vc1)) (.slice ua2 ub2 uc2)) (.slice va2 vb2 vc2)).1
    have HE : Hid _ := And.intro hE4 hE5
    clear hE4 hE5 hD4
    go_wp2_with fail
    refine bodyPost_ret (v := .tuple #[.agg #[.slice ua1 ub1 uc1, .slice va1 vb1 vc1], .agg #[.slice ua2 ub2 uc2, .slice va2 vb2 vc2]]) ?_ rfl ⟨_, _, _, _, rfl, sta_end hT hq4W hq5W hbq4 hbq5 HGW.out hw4 hw5 (by omega)⟩
    simp [results, Tryz.results28, go_sem, HE.out.1.1, HE.out.1.2, HE.out.2.1, HE.out.2.2]
  refine AllReadyH.cons rfl (fun K hK => ?_) AllReadyH.nil
  go_simp
  obtain ⟨d2, x1, e0, e1, hT1⟩ := sta_row hT
  replace hT := hT1
  rw [e0, e1]
  clear e0 e1 hT1
  refine hK.out _ _ (HS.out _ hT.frm) (fun hHeld => ?_)
  clear hK K
  (try simp only [List.getElem_toArray, List.getElem_cons_succ, List.getElem_cons_zero, Act.put, List.setIfInBounds_toArray, List.set_cons_zero, List.set_cons_succ])
  refine wpAnyH_ready (rs := [3]) (by kernel_rfl) (by simp) ?_
  refine AllReadyH.cons rfl (fun K hK => ?_) AllReadyH.nil
  go_simp
  refine (sta_copy HVx.out hT).mono ?_
  rintro e d3 ⟨y1, c1, rfl, hT1⟩
  replace hT := hT1
  clear hT1
  go_wp2_with fail
  refine hK.out _ _ (HS.out _ hT.frm) (fun hHeld => ?_)
  clear hK K
  (try simp only [List.getElem_toArray, List.getElem_cons_succ, List.getElem_cons_zero, Act.put, List.setIfInBounds_toArray, List.set_cons_zero, List.set_cons_succ])
  refine wpAnyH_ready (rs := [7]) (by kernel_rfl) (by simp) ?_
  refine AllReadyH.cons rfl (fun K hK => ?_) AllReadyH.nil
  refine sta_app rfl (.tmp 26) (.tmp 28) rfl rfl rfl HVx.out hT ?_
  intro q1 cq1 d4 hT1
  replace hT := hT1
  clear hT1
  refine hK.out _ _ (HS.out _ hT.frm) (fun hHeld => ?_)
  clear hK K
  (try simp only [List.getElem_toArray, List.getElem_cons_succ, List.getElem_cons_zero, Act.put, List.setIfInBounds_toArray, List.set_cons_zero, List.set_cons_succ])
  refine wpAnyH_take (i := 8) (v := (.agg #[.slice (some ⟨y1, 0, none⟩) xs1.length c1, .slice (some ⟨q1, 0, none⟩) ls1.length cq1])) rfl (by kernel_rfl) (by kernel_rfl) (by kernel_rfl) (fun _ _ _ h => h) (Or.inl ⟨by rfl, by intro w hSw; obtain ⟨s0, s1, s2, s3⟩ := hSw; go_simp⟩) hHeld ?_
  simp only [List.getElem_toArray, List.getElem_cons_succ, List.getElem_cons_zero, Act.put, List.setIfInBounds_toArray, List.set_cons_zero, List.set_cons_succ]
  refine wpAnyH_ready (rs := [9]) (by kernel_rfl) (by simp) ?_
  refine AllReadyH.cons rfl (fun K hK => ?_) AllReadyH.nil
  go_simp
  refine (sta_bent HVx.out (by omega) hT).mono ?_
  rintro e d5 ⟨ua1, ub1, uc1, va1, vb1, vc1, S1, T1, rfl, hT1⟩
  replace hT := hT1
  clear hT1
  go_wp2_with fail
  refine hK.out _ _ (HS.out _ hT.frm) (fun hHeld => ?_)
  clear hK K
  (try simp only [List.getElem_toArray, List.getElem_cons_succ, List.getElem_cons_zero, Act.put, List.setIfInBounds_toArray, List.set_cons_zero, List.set_cons_succ])
  refine wpAnyH_ready (rs := [13]) (by kernel_rfl) (by simp) ?_
  refine AllReadyH.cons rfl (fun K hK => ?_) AllReadyH.nil
  go_simp
  refine (sta_copy HVy.out hT.swap).mono ?_
  rintro e d6 ⟨y2, c2, rfl, hT1⟩
  replace hT := hT1.swap
  clear hT1
  go_wp2_with fail
  refine hK.out _ _ (HS.out _ hT.frm) (fun hHeld => ?_)
  clear hK K
  (try simp only [List.getElem_toArray, List.getElem_cons_succ, List.getElem_cons_zero, Act.put, List.setIfInBounds_toArray, List.set_cons_zero, List.set_cons_succ])
  refine wpAnyH_ready (rs := [17]) (by kernel_rfl) (by simp) ?_
  refine AllReadyH.cons rfl (fun K hK => ?_) AllReadyH.nil
  refine sta_app rfl (.tmp 36) (.tmp 38) rfl rfl rfl HVy.out hT.swap ?_
  intro q2 cq2 d7 hT1
  replace hT := hT1.swap
  clear hT1
  refine hK.out _ _ (HS.out _ hT.frm) (fun hHeld => ?_)
  clear hK K
  (try simp only [List.getElem_toArray, List.getElem_cons_succ, List.getElem_cons_zero, Act.put, List.setIfInBounds_toArray, List.set_cons_zero, List.set_cons_succ])
  refine wpAnyH_take (i := 18) (v := (.agg #[.slice (some ⟨y2, 0, none⟩) xs2.length c2, .slice (some ⟨q2, 0, none⟩) ls2.length cq2])) rfl (by kernel_rfl) (by kernel_rfl) (by kernel_rfl) (fun _ _ _ h => h) (Or.inl ⟨by rfl, by intro w hSw; obtain ⟨s0, s1, s2, s3⟩ := hSw; go_simp⟩) hHeld ?_
  simp only [List.getElem_toArray, List.getElem_cons_succ, List.getElem_cons_zero, Act.put, List.setIfInBounds_toArray, List.set_cons_zero, List.set_cons_succ]
  refine wpAnyH_ready (rs := [19]) (by kernel_rfl) (by simp) ?_
  refine AllReadyH.cons rfl (fun K hK => ?_) AllReadyH.nil
  go_simp
  refine (sta_bent HVy.out (by omega) hT.swap).mono ?_
  rintro e d8 ⟨ua2, ub2, uc2, va2, vb2, vc2, S2, T2, rfl, hT1⟩
  replace hT := hT1.swap
  clear hT1
  go_wp2_with fail
  refine hK.out _ _ (HS.out _ hT.frm) (fun hHeld => ?_)
  clear hK K
  (try simp only [List.getElem_toArray, List.getElem_cons_succ, List.getElem_cons_zero, Act.put, List.setIfInBounds_toArray, List.set_cons_zero, List.set_cons_succ])
  obtain ⟨⟨b0, b1⟩, bf⟩ := Dy.frm HQ4'.out hT.frm HN.out.1
  have f0 := bf 0
  have f1 := bf 1
  clear bf
  refine wpAnyH_ready (rs := [20]) (by kernel_rfl) (by simp) ?_
  refine AllReadyH.cons rfl (fun K hK => ?_) AllReadyH.nil
  go_simp
  refine hK.out _ _ (HSP.out _ (HS.out _ hT.frm) q4 HN2.out.1 HN2.out.2.1 _ _) (fun hHeld => ?_)
  clear hK K b0 b1 f0 f1
  (try simp only [List.getElem_toArray, List.getElem_cons_succ, List.getElem_cons_zero, Act.put, List.setIfInBounds_toArray, List.set_cons_zero, List.set_cons_succ])
  have hD5 := Dy.aside (Dy.aside (Dy.frm HQ5'.out hT.frm HN.out.2.1) HN.out.2.2.2.1 0 (.slice ua1 ub1 uc1)) HN.out.2.2.2.1 1 (.slice va1 vb1 vc1)
  have hD4 := Dy.set1 (Dy.set0 (Dy.frm HQ4'.out hT.frm HN.out.1) (.slice ua1 ub1 uc1)) (.slice va1 vb1 vc1)
  obtain ⟨⟨b0, b1⟩, bf⟩ := hD5
  have f0 := bf 0
  have f1 := bf 1
  clear bf
  refine wpAnyH_ready (rs := [21]) (by kernel_rfl) (by simp) ?_
  refine AllReadyH.cons rfl (fun K hK => ?_) AllReadyH.nil
  go_simp
  refine hK.out _ _ (HSP.out _ (HSP.out _ (HS.out _ hT.frm) q4 HN2.out.1 HN2.out.2.1 _ _) q5 HN2.out.2.2.1 HN2.out.2.2.2 _ _) (fun hHeld => ?_)
  clear hK K b0 b1 f0 f1
  refine wpAnyH_done (by kernel_rfl) ?_ _
  have hE4 := (Dy.aside (Dy.aside hD4 HN.out.2.2.1 0 (.slice ua2 ub2 uc2)) HN.out.2.2.1 1 (.slice va2 vb2 vc2)).1
  have hE5 := (Dy.set1 (Dy.set0 (Dy.aside (Dy.aside (Dy.frm HQ5'.out hT.frm HN.out.2.1) HN.out.2.2.2.1 0 (.slice ua1 ub1 uc1)) HN.out.2.2.2.1 1 (.slice va1 vb1 vc1)) (.slice ua2 ub2 uc2)) (.slice va2 vb2 vc2)).1
  have HE : Hid _ := And.intro hE4 hE5
  clear hE4 hE5 hD4
  go_wp2_with fail
  refine bodyPost_ret (v := .tuple #[.agg #[.slice ua1 ub1 uc1, .slice va1 vb1 vc1], .agg #[.slice ua2 ub2 uc2, .slice va2 vb2 vc2]]) ?_ rfl ⟨_, _, _, _, rfl, sta_end hT hq4W hq5W hbq4 hbq5 HGW.out hw4 hw5 (by omega)⟩
  simp [results, Tryz.results28, go_sem, HE.out.1.1, HE.out.1.2, HE.out.2.1, HE.out.2.2]

end Go.Proofs.YtfnlnigeaioocaaGreat
