/- What the proofs of this seat share: the bytes of a number, a row that the call owns, a slice that can be read; plain facts on them. No condition: they are lemmas. -/
import Derived.WalkKit
import Derived.WalkSmall
import Derived.Deep.Draws
import Derived.Laws.AppendOwnNone
namespace Go.Proofs.Ytlncfeakcgjioaa
open Go.RowKit
set_option linter.unusedVariables false

/-- The bytes of a number, seven bits each, the lowest first; so many of them at the most. -/
def encF : Nat → Nat → List Int
  | 0, n => [(n : Int)]
  | k + 1, n => if n < 128 then [(n : Int)] else ((n % 128 + 128 : Nat) : Int) :: encF k (n / 128)
/-- The bytes of a number. -/
def enc (n : Nat) : List Int := encF n n

theorem encF_enough (k : Nat) : ∀ j n, n ≤ k → n ≤ j → encF k n = encF j n := by
  induction k with
  | zero =>
    intro j n h _
    have : n = 0 := by omega
    subst this
    cases j <;> rfl
  | succ k ih =>
    intro j n h hj
    by_cases hn : n < 128
    · cases j <;> simp [encF, hn]
    · cases j with
      | zero => omega
      | succ j =>
        simp only [encF, hn, if_false]
        rw [ih j (n / 128) (by omega) (by omega)]
theorem enc_small {n : Nat} (h : n < 128) : enc n = [(n : Int)] := by
  unfold enc
  cases n with
  | zero => rfl
  | succ n => rw [encF, if_pos h]
theorem enc_big {n : Nat} (h : 128 ≤ n) : enc n = ((n % 128 + 128 : Nat) : Int) :: enc (n / 128) := by
  unfold enc
  cases n with
  | zero => omega
  | succ n =>
    rw [encF, if_neg (by omega)]
    congr 1
    exact encF_enough n ((n + 1) / 128) ((n + 1) / 128) (by omega) (Nat.le_refl _)
theorem enc_len_le (k : Nat) : ∀ n, n < 128 ^ k → (enc n).length ≤ k + 1 := by
  induction k with
  | zero => intro n hn; simp at hn; subst hn; rw [enc_small (by omega)]; simp
  | succ k ih =>
    intro n hn
    by_cases h : n < 128
    · rw [enc_small h]; simp
    · rw [enc_big (by omega)]
      have := ih (n / 128) (by rw [Nat.div_lt_iff_lt_mul (by omega)]; rw [Nat.pow_succ] at hn; exact hn)
      simp only [List.length_cons]; omega
theorem enc_len {n : Nat} (h : n < 9223372036854775808) : (enc n).length ≤ 10 := enc_len_le 9 n (by omega)
theorem enc_pos (n : Nat) : 0 < (enc n).length := by
  by_cases h : n < 128
  · rw [enc_small h]; simp
  · rw [enc_big (by omega)]; simp

/-- The slice v, all its cells one place each, is a row of the call's own, from block B on. -/
def Own (e : TypeId) (w : World) (B : Nat) (v : Value) (cs : List Value) : Prop := w.ownsRow B e 1 v cs.length cs

/-- The slice v reads as cs, in a block below C. -/
def Rd (C : Nat) (w : World) (v : Value) (cs : List Value) : Prop :=
  ∃ ao cap, v = .slice ao cs.length cap ∧ cs.length ≤ cap ∧ cap ≤ maxLen ∧ (ao = none → cap = 0) ∧ (0 < cs.length → ∃ g off, ao = some ⟨g, off, none⟩ ∧ g < C ∧ ∀ j u, cs[j]? = some u → w.cell? ⟨g, off + j, none⟩ = some u)

theorem Own.shape {e : TypeId} {w : World} {B : Nat} {v : Value} {cs : List Value} (h : Own e w B v cs) :
    (v = .slice none 0 0 ∧ cs = []) ∨ ∃ g cap, v = .slice (some ⟨g, 0, none⟩) cs.length cap ∧ B ≤ g ∧ g < w.heap.size ∧ (∀ j u, cs[j]? = some u → w.cell? ⟨g, j, none⟩ = some u) ∧ (∀ j, w.frozen? ⟨g, j, none⟩ = false) ∧ cs.length ≤ cap ∧ cap ≤ maxLen := by
  have h0 := h
  obtain ⟨h1, h2⟩ := h
  rcases h2 with ⟨hv, hn⟩ | ⟨g, cap, cur, hv, hb, hg, hn, hm, _⟩
  · exact .inl ⟨hv, List.eq_nil_of_length_eq_zero hn⟩
  · refine .inr ⟨g, cap, hv, hb, ?_, ?_, ?_, hn, hm⟩
    · exact (Array.getElem?_eq_some_iff.1 hg).1
    · intro j u hj
      subst hv
      rw [World.ownsRow.cellAt h0 j (by have := (List.getElem?_eq_some_iff.1 hj).1; omega), hj]
    · intro j
      subst hv
      exact World.ownsRow.frozenAt h0 j

theorem Own.rd {e : TypeId} {w : World} {B : Nat} {v : Value} {cs : List Value} (h : Own e w B v cs) : Rd w.heap.size w v cs := by
  rcases h.shape with ⟨rfl, rfl⟩ | ⟨g, cap, rfl, hb, hlt, hc, _, hn, hm⟩
  · exact ⟨none, 0, rfl, Nat.le_refl _, Nat.zero_le _, fun _ => rfl, fun h => absurd h (by simp)⟩
  · exact ⟨_, cap, rfl, hn, hm, (fun h => by cases h), fun _ => ⟨g, 0, rfl, hlt, fun j u hj => by rw [Nat.zero_add]; exact hc j u hj⟩⟩

theorem Rd.mono {C C' : Nat} {w : World} {v : Value} {cs : List Value} (h : Rd C w v cs) (hc : C ≤ C') : Rd C' w v cs := by
  obtain ⟨ao, cap, rfl, hn, hm, hz, h⟩ := h
  refine ⟨ao, cap, rfl, hn, hm, hz, fun hp => ?_⟩
  obtain ⟨g, off, rfl, hg, hr⟩ := h hp
  exact ⟨g, off, rfl, by omega, hr⟩

theorem Rd.below {C : Nat} {w w' : World} {v : Value} {cs : List Value} (h : Rd C w v cs) (hb : Below C w w') : Rd C w' v cs := by
  obtain ⟨ao, cap, rfl, hn, hm, hz, h⟩ := h
  refine ⟨ao, cap, rfl, hn, hm, hz, fun hp => ?_⟩
  obtain ⟨g, off, rfl, hg, hr⟩ := h hp
  exact ⟨g, off, rfl, hg, fun j u hj => (hb.cell (p := ⟨g, off + j, none⟩) hg).trans (hr j u hj)⟩

theorem Rd.grown {C : Nat} {w w' : World} {v : Value} {cs : List Value} {row : Option Nat} (h : Rd C w v cs) (hg : w.grownBy w' row) (hc : ∀ k, row = some k → C ≤ k) : Rd C w' v cs := by
  obtain ⟨ao, cap, rfl, hn, hm, hz, h⟩ := h
  refine ⟨ao, cap, rfl, hn, hm, hz, fun hp => ?_⟩
  obtain ⟨g, off, rfl, hlt, hr⟩ := h hp
  exact ⟨g, off, rfl, hlt, fun j u hj => hg.cell (a := ⟨g, off + j, none⟩) (hr j u hj) (fun e => by have := hc g e.symm; omega)⟩

theorem Rd.cut {C : Nat} {w : World} {ao : Option Addr} {cap m : Nat} {cs : List Value} (h : Rd C w (.slice ao m cap) cs) (p n : Nat) (hp : p ≤ cs.length) (hn : n ≤ cs.length - p) {ao' : Option Addr}
    (ha : ao' = if cap = p then ao else ao.map (·.add p)) : Rd C w (.slice ao' n (cap - p)) ((cs.drop p).take n) := by
  obtain ⟨ao1, cap1, e, hl, hm, hz, h⟩ := h
  simp only [Value.slice.injEq] at e
  obtain ⟨rfl, rfl, rfl⟩ := e
  have hlen : ((cs.drop p).take n).length = n := by simp; omega
  refine ⟨ao', cap - p, by rw [hlen], by rw [hlen]; omega, by omega, fun hno => ?_, fun hpos => ?_⟩
  · subst ha
    split at hno
    · omega
    · cases ao with
      | none => have := hz rfl; omega
      | some a => simp at hno
  · rw [hlen] at hpos
    obtain ⟨g, off, rfl, hlt, hr⟩ := h (by omega)
    rw [if_neg (by omega)] at ha
    refine ⟨g, off + p, by rw [ha]; rw [Option.map_some, Addr.add_lit], hlt, fun j u hj => ?_⟩
    rw [List.getElem?_take] at hj
    split at hj
    · rw [List.getElem?_drop] at hj
      have := hr (p + j) u hj
      rwa [← Nat.add_assoc] at this
    · simp at hj

theorem Rd.drewN {C : Nat} {w : World} {v : Value} {cs : List Value} (h : Rd C w v cs) (n : Nat) : Rd C (w.drewN n) v cs := h
theorem grownBy_trans {w w1 w2 : World} {row : Option Nat} (h : w.grownBy w1 row) (k : w1.grownBy w2 row) : w.grownBy w2 row :=
  ⟨k.os.trans h.os, k.tape.trans h.tape, k.output.trans h.output, Nat.le_trans h.size k.size, fun i hi hr => (k.block i (Nat.lt_of_lt_of_le hi h.size) hr).trans (h.block i hi hr)⟩
theorem grownBy_drewN (w : World) (n : Nat) (row : Option Nat) : w.grownBy (w.drewN n) row := ⟨rfl, rfl, rfl, Nat.le_refl _, fun _ _ _ => rfl⟩

/-- A result in a new cell, and what a reader in block b does meanwhile. -/
theorem code_cell {w w1 : World} {b : Nat} (hb : b < w.heap.size) (hg : (w.alloc (.cells #[.int .i64 0] 3)).grownBy w1 (some b)) :
    w1.cell? ⟨w.heap.size, 0, none⟩ = some (.int .i64 0) ∧ w1.frozen? ⟨w.heap.size, 0, none⟩ = false ∧ w.grownBy w1 (some b) ∧ ∀ u, w.grownBy (w1.setCell ⟨w.heap.size, 0, none⟩ u) (some b) := by
  have hblk : w1.heap[w.heap.size]? = some (.cells #[.int .i64 0] 3 (0, 0)) := by
    rw [hg.block w.heap.size (by simp) (by simp; omega)]
    exact heap_alloc_new w _
  have h0 : w.grownBy w1 (some b) := grownBy_trans (World.grownBy_alloc w _ _) hg
  refine ⟨by simp [World.cell?, hblk], by simp [World.frozen?, hblk], h0, fun u => ?_⟩
  exact ⟨h0.os, h0.tape, h0.output, by simpa using h0.size, fun k hk hr => (heap_setCell_other w1 ⟨w.heap.size, 0, none⟩ k u (by show k ≠ w.heap.size; omega)).trans (h0.block k hk hr)⟩

theorem Own.below {e : TypeId} {C : Nat} {w w' : World} {B : Nat} {v : Value} {cs : List Value} (h : Own e w B v cs) (hb : Below C w w') (hc : w.heap.size ≤ C) : Own e w' B v cs := by
  obtain ⟨h1, h2⟩ := h
  refine ⟨h1, ?_⟩
  rcases h2 with h2 | ⟨g, cap, cur, hv, hg, hh, r⟩
  · exact .inl h2
  · have : g < w.heap.size := (Array.getElem?_eq_some_iff.1 hh).1
    exact .inr ⟨g, cap, cur, hv, hg, by rw [hb.block g (by omega)]; exact hh, r⟩

theorem Own.apart {e : TypeId} {w w' : World} {B : Nat} {v : Value} {cs : List Value} {row : Option Nat} (h : Own e w B v cs) (hg : w.grownBy w' row) (hr : ∀ k, row = some k → k < B) : Own e w' B v cs := by
  obtain ⟨h1, h2⟩ := h
  refine ⟨h1, ?_⟩
  rcases h2 with h2 | ⟨g, cap, cur, hv, hb, hh, r⟩
  · exact .inl h2
  · exact .inr ⟨g, cap, cur, hv, hb, by rw [hg.block g (Array.getElem?_eq_some_iff.1 hh).1 (fun e => by have := hr g e.symm; omega)]; exact hh, r⟩
theorem Own.blk {e : TypeId} {w : World} {B : Nat} {v : Value} {cs : List Value} (h : Own e w B v cs) : ∀ k, v.ownBlock = some k → k < w.heap.size := fun k hk => (World.ownsRow.lt h k hk).2
theorem grownBy_set (w : World) (g k : Nat) (u : Value) : w.grownBy (w.setCell ⟨g, k, none⟩ u) (some g) := ⟨rfl, rfl, rfl, by simp, fun j _ hj => heap_setCell_other w ⟨g, k, none⟩ j u (fun e => hj (by simp [e]))⟩
theorem grownBy_below {w w' : World} {C : Nat} (h : Below C w w') (hc : w.heap.size ≤ C) (row : Option Nat) : w.grownBy w' row := ⟨h.os, h.tape, h.output, h.size, fun k hk _ => h.block k (by omega)⟩

theorem Own.mono {e : TypeId} {w : World} {B B' : Nat} {v : Value} {cs : List Value} (h : Own e w B v cs) (hb : B' ≤ B) : Own e w B' v cs := by
  obtain ⟨h1, h2⟩ := h
  refine ⟨h1, ?_⟩
  rcases h2 with h2 | ⟨g, cap, cur, hv, hg, hh, r⟩
  · exact .inl h2
  · exact .inr ⟨g, cap, cur, hv, by omega, hh, r⟩

theorem Own.lt {e : TypeId} {w : World} {B : Nat} {v : Value} {cs : List Value} (h : Own e w B v cs) : ∀ k, v.ownBlock = some k → B ≤ k := fun k hk => (World.ownsRow.lt h k hk).1

theorem Own.slice {e : TypeId} {w : World} {B : Nat} {v : Value} {cs : List Value} (h : Own e w B v cs) : ∃ ao cap, v = .slice ao cs.length cap ∧ (0 < cs.length → ∃ g, ao = some ⟨g, 0, none⟩) := by
  rcases h.shape with ⟨rfl, rfl⟩ | ⟨g, cap, rfl, _⟩
  · exact ⟨none, 0, rfl, fun h => absurd h (by simp)⟩
  · exact ⟨_, cap, rfl, fun _ => ⟨g, rfl⟩⟩

theorem Own.some {e : TypeId} {w : World} {B : Nat} {v : Value} {cs : List Value} (h : Own e w B v cs) (hp : 0 < cs.length) : ∃ g cap, v = .slice (some ⟨g, 0, none⟩) cs.length cap ∧ B ≤ g ∧ g < w.heap.size ∧ ∀ j u, cs[j]? = Option.some u → w.cell? ((⟨g, 0, none⟩ : Addr).add j) = Option.some u := by
  rcases h.shape with ⟨rfl, rfl⟩ | ⟨g, cap, rfl, hb, hlt, hc, _⟩
  · simp at hp
  · exact ⟨g, cap, rfl, hb, hlt, fun j u hj => by rw [Addr.add_lit, Nat.zero_add]; exact hc j u hj⟩

theorem own_lit (w : World) (e : TypeId) (cs : List Value) (n : Nat) (hn : n = cs.length) (hm : n ≤ maxLen) : Own e (w.alloc (.cells cs.toArray e)) w.heap.size (.slice (some ⟨w.heap.size, 0, none⟩) n n) cs := by
  subst hn
  exact World.ownsRow_lit w cs.toArray cs.length (Nat.le_refl _) hm (by simp)

theorem own_of {e : TypeId} {w : World} {B : Nat} {v : Value} {n : Nat} {cs : List Value} (h : w.ownsRow B e 1 v n cs) : Own e w B v cs := by
  have := h.1
  unfold Own
  rw [this, Nat.mul_one]
  exact h

/-- An append of a slice that can be read onto a row that the call owns. -/
theorem wpList_append_rd {P : Program} {w : World} {ops : Array Oper} {rest : List Oper} {o : Oper} {a : Act} {Q : Exit → Act → World → Prop} (hgd : o.guard = none) (s x : Operand) (t : TypeId)
    (ho : o.op = .call { callee := .builtin .append, args := #[s, x], argTypes := #[t, t] })
    (base : Nat) (e : TypeId) (i : TypeInfo) (z : Value) (bytes : Nat) (ht : P.underlying t = some (.slice e)) (hi : P.info? e = some i) (hz : i.zero = some z)
    (hsize : i.size = 1) (hby : i.bytes = bytes) (hzs : z.cells.size = 1)
    (v : Value) (cs : List Value) (hs : a.eval s = v) (hown : Own e w base v cs) (C : Nat) (xv : Value) (news : List Value) (hx : a.eval x = xv) (hr : Rd C w xv news) (h1 : ∀ u ∈ news, u.oneCell' = true)
    (h63 : cs.length + news.length ≤ maxLen) (hbytes : (cs.length + news.length) * bytes ≤ 140737488355328) (hbase : base ≤ w.heap.size)
    (h : ∀ v' w', Own e w' base v' (cs ++ news) → w.grownBy w' v.ownBlock → wpList P ops Q rest (a.put o.dst v') w') : wpList P ops Q (o :: rest) a w := by
  obtain ⟨ao, cap, rfl, hcap, hmax, hnil, hr⟩ := hr
  cases ao with
  | none =>
    have h0 := hnil rfl
    subst h0
    have hn : news = [] := List.eq_nil_of_length_eq_zero (by omega)
    subst hn
    refine wpList_append_own_none hgd s x t ho base e i 1 ht hi v _ cs hs hown hx ?_
    exact h v w (by simpa using hown) (World.grownBy.refl _ _)
  | some ad =>
    refine wpList_append_own w hgd s x t ho base e i z 1 bytes ht hi hz hsize hby hzs (by decide) v _ cs hs hown ad news.length cap news hx (by simp) (fun j u hj => ?_) h1 h63 hbytes hbase (fun v' w' h2 h3 _ => h v' w' (own_of h2) h3)
    have hj1 := (List.getElem?_eq_some_iff.1 hj).1
    obtain ⟨g, off, he, _, hc⟩ := hr (by omega)
    cases he
    rw [Addr.add_lit]
    exact hc j u hj

/-- The same, as a step of a region that draws its order. -/
theorem step_append_rd {P : Program} {w : World} {ops : Array Oper} {o : Oper} {a : Act} {K : Act → World → Prop} {Q : Exit → Act → World → Prop} {E : Prop} (hgd : o.guard = none) (s x : Operand) (t : TypeId)
    (ho : o.op = .call { callee := .builtin .append, args := #[s, x], argTypes := #[t, t] })
    (base : Nat) (e : TypeId) (i : TypeInfo) (z : Value) (bytes : Nat) (ht : P.underlying t = some (.slice e)) (hi : P.info? e = some i) (hz : i.zero = some z)
    (hsize : i.size = 1) (hby : i.bytes = bytes) (hzs : z.cells.size = 1)
    (v : Value) (cs : List Value) (hs : a.eval s = v) (hown : Own e w base v cs) (C : Nat) (xv : Value) (news : List Value) (hx : a.eval x = xv) (hr : Rd C w xv news) (hpos : 0 < news.length) (h1 : ∀ u ∈ news, u.oneCell' = true)
    (h63 : cs.length + news.length ≤ maxLen) (hbytes : (cs.length + news.length) * bytes ≤ 140737488355328) (hbase : base ≤ w.heap.size)
    (h : ∀ v' w', Own e w' base v' (cs ++ news) → w.grownBy w' v.ownBlock → K (a.put o.dst v') w') : if Region.wanted o (yielded ops a.tmps) = true then Oper.wp P o a w K Q else E := by
  have hw : Region.wanted o (yielded ops a.tmps) = true := by simp [Region.wanted, hgd]
  rw [if_pos hw]
  obtain ⟨ao, cap, rfl, hcap, hmax, hnil, hr⟩ := hr
  obtain ⟨g, off, rfl, _, hc⟩ := hr hpos
  exact wp_append_own w s x t ho base e i z 1 bytes ht hi hz hsize hby hzs (by decide) v _ cs hs hown ⟨g, off, none⟩ news.length cap news hx (by simp) (fun j u hj => by rw [Addr.add_lit]; exact hc j u hj) h1 h63 hbytes hbase (fun v' w' h2 h3 _ => h v' w' (own_of h2) h3)

/-- What is written over m places, from q on. -/
def marks (q m : Nat) : List Int := (List.range m).map fun i => (((q + i) % 256 : Nat) : Int)
theorem marks_len (q m : Nat) : (marks q m).length = m := by simp [marks]
theorem marks_get {q m k : Nat} (h : k < m) : (marks q m)[k]? = some (((q + k) % 256 : Nat) : Int) := by simp [marks, h]
theorem marks_succ (q k : Nat) : marks q (k + 1) = marks q k ++ [(((q + k) % 256 : Nat) : Int)] := by simp [marks, List.range_succ]

theorem own_cell {e : TypeId} {w : World} {B g n cap : Nat} {cs : List Value} (h : Own e w B (.slice (some ⟨g, 0, none⟩) n cap) cs) {k : Nat} (hk : k < cs.length) : w.cell? ⟨g, k, none⟩ = some cs[k] := by
  rcases h.shape with ⟨h', _⟩ | ⟨g', cap', h', _, _, hc, _⟩
  · simp at h'
  · simp only [Value.slice.injEq, Option.some.injEq, Addr.mk.injEq, and_true] at h'
    obtain ⟨rfl, rfl, rfl⟩ := h'
    exact hc k _ (by simp [hk])
theorem own_free {e : TypeId} {w : World} {B g n cap : Nat} {cs : List Value} (h : Own e w B (.slice (some ⟨g, 0, none⟩) n cap) cs) (k : Nat) : w.frozen? ⟨g, k, none⟩ = false := by
  rcases h.shape with ⟨h', _⟩ | ⟨g', cap', h', _, _, _, hf, _⟩
  · simp at h'
  · simp only [Value.slice.injEq, Option.some.injEq, Addr.mk.injEq, and_true] at h'
    obtain ⟨rfl, rfl, rfl⟩ := h'
    exact hf k
theorem own_set {e : TypeId} {w : World} {B g n cap : Nat} {cs : List Value} (h : Own e w B (.slice (some ⟨g, 0, none⟩) n cap) cs) (k : Nat) (u : Value) : Own e (w.setCell ⟨g, k, none⟩ u) B (.slice (some ⟨g, 0, none⟩) n cap) (cs.set k u) := by
  have hs : n = cs.length := by
    rcases h.shape with ⟨h', _⟩ | ⟨g', cap', h', _⟩
    · simp at h'
    · simp only [Value.slice.injEq] at h'; exact h'.2.1
  subst hs
  have := (World.ownsRow.stored h k u).1
  unfold Own
  rw [List.length_set]
  exact this
theorem mark_step (q k : Nat) (cs : List Value) (h : k < cs.length) : ((marks q k).map (Value.int .u8) ++ cs.drop k).set k (Value.int .u8 (((q + k) % 256 : Nat) : Int)) = (marks q (k + 1)).map (Value.int .u8) ++ cs.drop (k + 1) := by
  rw [marks_succ, List.map_append, List.append_assoc, List.set_append_right _ _ (by simp [marks_len])]
  congr 1
  rw [List.length_map, marks_len, Nat.sub_self, List.drop_eq_getElem_cons h, List.set_cons_zero]
  rfl
theorem copy_step {α : Type} (f : α → Value) (xs : List α) (k : Nat) (h : k < xs.length) {z : Value} : ((xs.take k).map f ++ List.replicate (xs.length - k) z).set k (f xs[k]) = (xs.take (k + 1)).map f ++ List.replicate (xs.length - (k + 1)) z := by
  rw [List.take_succ_eq_append_getElem h, List.map_append, List.append_assoc, List.set_append_right _ _ (by simp; omega)]
  congr 1
  rw [List.length_map, List.length_take, Nat.min_eq_left (by omega), Nat.sub_self, show xs.length - k = (xs.length - (k + 1)) + 1 by omega, List.replicate_succ, List.set_cons_zero]
  rfl
theorem range_step (f : Nat → Value) (k : Nat) (cs : List Value) (h : k < cs.length) : ((List.range k).map f ++ cs.drop k).set k (f k) = (List.range (k + 1)).map f ++ cs.drop (k + 1) := by
  rw [List.range_succ, List.map_append, List.append_assoc, List.set_append_right _ _ (by simp)]
  congr 1
  rw [List.length_map, List.length_range, Nat.sub_self, List.drop_eq_getElem_cons h, List.set_cons_zero]
  rfl
theorem own_lt {e : TypeId} {w : World} {B g n cap : Nat} {cs : List Value} (h : Own e w B (.slice (some ⟨g, 0, none⟩) n cap) cs) : B ≤ g := h.lt g rfl

end Go.Proofs.Ytlncfeakcgjioaa
