/- What the proofs of this seat share: the bytes of a number, a row that the call owns, a slice that can be read; plain facts on them. No condition: they are lemmas. Numbers read from bytes: plain facts. Runs of numbers and their bytes: plain facts. Rows that the call owns: what holds a row of one kind holds none of another. No condition: they are lemmas. -/
import Derived.WalkKit
import Derived.WalkSmall
import Derived.Deep.Draws
import Derived.Laws.AppendOwnNone
namespace Go.Proofs.YtmmkmkaannlkhaaGreatDoor
open Go.RowKit
set_option linter.unusedVariables false

/-- The bytes of a number, seven bits each, the lowest first; so many of them at the most. -/
def encF : Nat → Nat → List Int
  | 0, n => [(n : Int)]
  | k + 1, n => if n < 128 then [(n : Int)] else ((n % 128 + 128 : Nat) : Int) :: encF k (n / 128)
/-- The bytes of a number. -/
def enc (n : Nat) : List Int := encF n n

theorem encF_enough (k : Nat) : ∀ j n, n ≤ k → n ≤ j → encF k n = encF j n := by
  induction k with
  | zero =>
    intro j n h _
    have : n = 0 := by omega
    subst this
    cases j <;> rfl
  | succ k ih =>
    intro j n h hj
    by_cases hn : n < 128
    · cases j <;> simp [encF, hn]
    · cases j with
      | zero => omega
      | succ j =>
        simp only [encF, hn, if_false]
        rw [ih j (n / 128) (by omega) (by omega)]
theorem enc_small {n : Nat} (h : n < 128) : enc n = [(n : Int)] := by
  unfold enc
  cases n with
  | zero => rfl
  | succ n => rw [encF, if_pos h]
theorem enc_big {n : Nat} (h : 128 ≤ n) : enc n = ((n % 128 + 128 : Nat) : Int) :: enc (n / 128) := by
  unfold enc
  cases n with
  | zero => omega
  | succ n =>
    rw [encF, if_neg (by omega)]
    congr 1
    exact encF_enough n ((n + 1) / 128) ((n + 1) / 128) (by omega) (Nat.le_refl _)
theorem enc_len_le (k : Nat) : ∀ n, n < 128 ^ k → (enc n).length ≤ k + 1 := by
  induction k with
  | zero => intro n hn; simp at hn; subst hn; rw [enc_small (by omega)]; simp
  | succ k ih =>
    intro n hn
    by_cases h : n < 128
    · rw [enc_small h]; simp
    · rw [enc_big (by omega)]
      have := ih (n / 128) (by rw [Nat.div_lt_iff_lt_mul (by omega)]; rw [Nat.pow_succ] at hn; exact hn)
      simp only [List.length_cons]; omega
theorem enc_len {n : Nat} (h : n < 9223372036854775808) : (enc n).length ≤ 10 := enc_len_le 9 n (by omega)
theorem enc_pos (n : Nat) : 0 < (enc n).length := by
  by_cases h : n < 128
  · rw [enc_small h]; simp
  · rw [enc_big (by omega)]; simp

/-- The slice v, all its cells one place each, is a row of the call's own, from block B on. -/
def Own (e : TypeId) (w : World) (B : Nat) (v : Value) (cs : List Value) : Prop := w.ownsRow B e 1 v cs.length cs

/-- The slice v reads as cs, in a block below C. -/
def Rd (C : Nat) (w : World) (v : Value) (cs : List Value) : Prop :=
  ∃ ao cap, v = .slice ao cs.length cap ∧ cs.length ≤ cap ∧ cap ≤ maxLen ∧ (ao = none → cap = 0) ∧ (0 < cs.length → ∃ g off, ao = some ⟨g, off, none⟩ ∧ g < C ∧ ∀ j u, cs[j]? = some u → w.cell? ⟨g, off + j, none⟩ = some u)

theorem Own.shape {e : TypeId} {w : World} {B : Nat} {v : Value} {cs : List Value} (h : Own e w B v cs) :
    (v = .slice none 0 0 ∧ cs = []) ∨ ∃ g cap, v = .slice (some ⟨g, 0, none⟩) cs.length cap ∧ B ≤ g ∧ g < w.heap.size ∧ (∀ j u, cs[j]? = some u → w.cell? ⟨g, j, none⟩ = some u) ∧ (∀ j, w.frozen? ⟨g, j, none⟩ = false) ∧ cs.length ≤ cap ∧ cap ≤ maxLen := by
  have h0 := h
  obtain ⟨h1, h2⟩ := h
  rcases h2 with ⟨hv, hn⟩ | ⟨g, cap, cur, hv, hb, hg, hn, hm, _⟩
  · exact .inl ⟨hv, List.eq_nil_of_length_eq_zero hn⟩
  · refine .inr ⟨g, cap, hv, hb, ?_, ?_, ?_, hn, hm⟩
    · exact (Array.getElem?_eq_some_iff.1 hg).1
    · intro j u hj
      subst hv
      rw [World.ownsRow.cellAt h0 j (by have := (List.getElem?_eq_some_iff.1 hj).1; omega), hj]
    · intro j
      subst hv
      exact World.ownsRow.frozenAt h0 j

theorem Own.rd {e : TypeId} {w : World} {B : Nat} {v : Value} {cs : List Value} (h : Own e w B v cs) : Rd w.heap.size w v cs := by
  rcases h.shape with ⟨rfl, rfl⟩ | ⟨g, cap, rfl, hb, hlt, hc, _, hn, hm⟩
  · exact ⟨none, 0, rfl, Nat.le_refl _, Nat.zero_le _, fun _ => rfl, fun h => absurd h (by simp)⟩
  · exact ⟨_, cap, rfl, hn, hm, (fun h => by cases h), fun _ => ⟨g, 0, rfl, hlt, fun j u hj => by rw [Nat.zero_add]; exact hc j u hj⟩⟩

theorem Rd.mono {C C' : Nat} {w : World} {v : Value} {cs : List Value} (h : Rd C w v cs) (hc : C ≤ C') : Rd C' w v cs := by
  obtain ⟨ao, cap, rfl, hn, hm, hz, h⟩ := h
  refine ⟨ao, cap, rfl, hn, hm, hz, fun hp => ?_⟩
  obtain ⟨g, off, rfl, hg, hr⟩ := h hp
  exact ⟨g, off, rfl, by omega, hr⟩

theorem Rd.below {C : Nat} {w w' : World} {v : Value} {cs : List Value} (h : Rd C w v cs) (hb : Below C w w') : Rd C w' v cs := by
  obtain ⟨ao, cap, rfl, hn, hm, hz, h⟩ := h
  refine ⟨ao, cap, rfl, hn, hm, hz, fun hp => ?_⟩
  obtain ⟨g, off, rfl, hg, hr⟩ := h hp
  exact ⟨g, off, rfl, hg, fun j u hj => (hb.cell (p := ⟨g, off + j, none⟩) hg).trans (hr j u hj)⟩

theorem Rd.grown {C : Nat} {w w' : World} {v : Value} {cs : List Value} {row : Option Nat} (h : Rd C w v cs) (hg : w.grownBy w' row) (hc : ∀ k, row = some k → C ≤ k) : Rd C w' v cs := by
  obtain ⟨ao, cap, rfl, hn, hm, hz, h⟩ := h
  refine ⟨ao, cap, rfl, hn, hm, hz, fun hp => ?_⟩
  obtain ⟨g, off, rfl, hlt, hr⟩ := h hp
  exact ⟨g, off, rfl, hlt, fun j u hj => hg.cell (a := ⟨g, off + j, none⟩) (hr j u hj) (fun e => by have := hc g e.symm; omega)⟩

theorem Rd.cut {C : Nat} {w : World} {ao : Option Addr} {cap m : Nat} {cs : List Value} (h : Rd C w (.slice ao m cap) cs) (p n : Nat) (hp : p ≤ cs.length) (hn : n ≤ cs.length - p) {ao' : Option Addr}
    (ha : ao' = if cap = p then ao else ao.map (·.add p)) : Rd C w (.slice ao' n (cap - p)) ((cs.drop p).take n) := by
  obtain ⟨ao1, cap1, e, hl, hm, hz, h⟩ := h
  simp only [Value.slice.injEq] at e
  obtain ⟨rfl, rfl, rfl⟩ := e
  have hlen : ((cs.drop p).take n).length = n := by simp; omega
  refine ⟨ao', cap - p, by rw [hlen], by rw [hlen]; omega, by omega, fun hno => ?_, fun hpos => ?_⟩
  · subst ha
    split at hno
    · omega
    · cases ao with
      | none => have := hz rfl; omega
      | some a => simp at hno
  · rw [hlen] at hpos
    obtain ⟨g, off, rfl, hlt, hr⟩ := h (by omega)
    rw [if_neg (by omega)] at ha
    refine ⟨g, off + p, by rw [ha]; rw [Option.map_some, Addr.add_lit], hlt, fun j u hj => ?_⟩
    rw [List.getElem?_take] at hj
    split at hj
    · rw [List.getElem?_drop] at hj
      have := hr (p + j) u hj
      rwa [← Nat.add_assoc] at this
    · simp at hj

theorem Rd.drewN {C : Nat} {w : World} {v : Value} {cs : List Value} (h : Rd C w v cs) (n : Nat) : Rd C (w.drewN n) v cs := h
theorem grownBy_trans {w w1 w2 : World} {row : Option Nat} (h : w.grownBy w1 row) (k : w1.grownBy w2 row) : w.grownBy w2 row :=
  ⟨k.os.trans h.os, k.tape.trans h.tape, k.output.trans h.output, Nat.le_trans h.size k.size, fun i hi hr => (k.block i (Nat.lt_of_lt_of_le hi h.size) hr).trans (h.block i hi hr)⟩
theorem grownBy_drewN (w : World) (n : Nat) (row : Option Nat) : w.grownBy (w.drewN n) row := ⟨rfl, rfl, rfl, Nat.le_refl _, fun _ _ _ => rfl⟩

/-- A result in a new cell, and what a reader in block b does meanwhile. -/
theorem code_cell {w w1 : World} {b : Nat} (hb : b < w.heap.size) (hg : (w.alloc (.cells #[.int .i64 0] 3)).grownBy w1 (some b)) :
    w1.cell? ⟨w.heap.size, 0, none⟩ = some (.int .i64 0) ∧ w1.frozen? ⟨w.heap.size, 0, none⟩ = false ∧ w.grownBy w1 (some b) ∧ ∀ u, w.grownBy (w1.setCell ⟨w.heap.size, 0, none⟩ u) (some b) := by
  have hblk : w1.heap[w.heap.size]? = some (.cells #[.int .i64 0] 3 (0, 0)) := by
    rw [hg.block w.heap.size (by simp) (by simp; omega)]
    exact heap_alloc_new w _
  have h0 : w.grownBy w1 (some b) := grownBy_trans (World.grownBy_alloc w _ _) hg
  refine ⟨by simp [World.cell?, hblk], by simp [World.frozen?, hblk], h0, fun u => ?_⟩
  exact ⟨h0.os, h0.tape, h0.output, by simpa using h0.size, fun k hk hr => (heap_setCell_other w1 ⟨w.heap.size, 0, none⟩ k u (by show k ≠ w.heap.size; omega)).trans (h0.block k hk hr)⟩

theorem Own.below {e : TypeId} {C : Nat} {w w' : World} {B : Nat} {v : Value} {cs : List Value} (h : Own e w B v cs) (hb : Below C w w') (hc : w.heap.size ≤ C) : Own e w' B v cs := by
  obtain ⟨h1, h2⟩ := h
  refine ⟨h1, ?_⟩
  rcases h2 with h2 | ⟨g, cap, cur, hv, hg, hh, r⟩
  · exact .inl h2
  · have : g < w.heap.size := (Array.getElem?_eq_some_iff.1 hh).1
    exact .inr ⟨g, cap, cur, hv, hg, by rw [hb.block g (by omega)]; exact hh, r⟩

theorem Own.apart {e : TypeId} {w w' : World} {B : Nat} {v : Value} {cs : List Value} {row : Option Nat} (h : Own e w B v cs) (hg : w.grownBy w' row) (hr : ∀ k, row = some k → k < B) : Own e w' B v cs := by
  obtain ⟨h1, h2⟩ := h
  refine ⟨h1, ?_⟩
  rcases h2 with h2 | ⟨g, cap, cur, hv, hb, hh, r⟩
  · exact .inl h2
  · exact .inr ⟨g, cap, cur, hv, hb, by rw [hg.block g (Array.getElem?_eq_some_iff.1 hh).1 (fun e => by have := hr g e.symm; omega)]; exact hh, r⟩
theorem Own.blk {e : TypeId} {w : World} {B : Nat} {v : Value} {cs : List Value} (h : Own e w B v cs) : ∀ k, v.ownBlock = some k → k < w.heap.size := fun k hk => (World.ownsRow.lt h k hk).2
theorem grownBy_set (w : World) (g k : Nat) (u : Value) : w.grownBy (w.setCell ⟨g, k, none⟩ u) (some g) := ⟨rfl, rfl, rfl, by simp, fun j _ hj => heap_setCell_other w ⟨g, k, none⟩ j u (fun e => hj (by simp [e]))⟩
theorem grownBy_below {w w' : World} {C : Nat} (h : Below C w w') (hc : w.heap.size ≤ C) (row : Option Nat) : w.grownBy w' row := ⟨h.os, h.tape, h.output, h.size, fun k hk _ => h.block k (by omega)⟩

theorem Own.mono {e : TypeId} {w : World} {B B' : Nat} {v : Value} {cs : List Value} (h : Own e w B v cs) (hb : B' ≤ B) : Own e w B' v cs := by
  obtain ⟨h1, h2⟩ := h
  refine ⟨h1, ?_⟩
  rcases h2 with h2 | ⟨g, cap, cur, hv, hg, hh, r⟩
  · exact .inl h2
  · exact .inr ⟨g, cap, cur, hv, by omega, hh, r⟩

theorem Own.lt {e : TypeId} {w : World} {B : Nat} {v : Value} {cs : List Value} (h : Own e w B v cs) : ∀ k, v.ownBlock = some k → B ≤ k := fun k hk => (World.ownsRow.lt h k hk).1

theorem Own.slice {e : TypeId} {w : World} {B : Nat} {v : Value} {cs : List Value} (h : Own e w B v cs) : ∃ ao cap, v = .slice ao cs.length cap ∧ (0 < cs.length → ∃ g, ao = some ⟨g, 0, none⟩) := by
  rcases h.shape with ⟨rfl, rfl⟩ | ⟨g, cap, rfl, _⟩
  · exact ⟨none, 0, rfl, fun h => absurd h (by simp)⟩
  · exact ⟨_, cap, rfl, fun _ => ⟨g, rfl⟩⟩

theorem Own.some {e : TypeId} {w : World} {B : Nat} {v : Value} {cs : List Value} (h : Own e w B v cs) (hp : 0 < cs.length) : ∃ g cap, v = .slice (some ⟨g, 0, none⟩) cs.length cap ∧ B ≤ g ∧ g < w.heap.size ∧ ∀ j u, cs[j]? = Option.some u → w.cell? ((⟨g, 0, none⟩ : Addr).add j) = Option.some u := by
  rcases h.shape with ⟨rfl, rfl⟩ | ⟨g, cap, rfl, hb, hlt, hc, _⟩
  · simp at hp
  · exact ⟨g, cap, rfl, hb, hlt, fun j u hj => by rw [Addr.add_lit, Nat.zero_add]; exact hc j u hj⟩

theorem own_lit (w : World) (e : TypeId) (cs : List Value) (n : Nat) (hn : n = cs.length) (hm : n ≤ maxLen) : Own e (w.alloc (.cells cs.toArray e)) w.heap.size (.slice (some ⟨w.heap.size, 0, none⟩) n n) cs := by
  subst hn
  exact World.ownsRow_lit w cs.toArray cs.length (Nat.le_refl _) hm (by simp)

theorem own_of {e : TypeId} {w : World} {B : Nat} {v : Value} {n : Nat} {cs : List Value} (h : w.ownsRow B e 1 v n cs) : Own e w B v cs := by
  have := h.1
  unfold Own
  rw [this, Nat.mul_one]
  exact h

/-- An append of a slice that can be read onto a row that the call owns. -/
theorem wpList_append_rd {P : Program} {w : World} {ops : Array Oper} {rest : List Oper} {o : Oper} {a : Act} {Q : Exit → Act → World → Prop} (hgd : o.guard = none) (s x : Operand) (t : TypeId)
    (ho : o.op = .call { callee := .builtin .append, args := #[s, x], argTypes := #[t, t] })
    (base : Nat) (e : TypeId) (i : TypeInfo) (z : Value) (bytes : Nat) (ht : P.underlying t = some (.slice e)) (hi : P.info? e = some i) (hz : i.zero = some z)
    (hsize : i.size = 1) (hby : i.bytes = bytes) (hzs : z.cells.size = 1)
    (v : Value) (cs : List Value) (hs : a.eval s = v) (hown : Own e w base v cs) (C : Nat) (xv : Value) (news : List Value) (hx : a.eval x = xv) (hr : Rd C w xv news) (h1 : ∀ u ∈ news, u.oneCell' = true)
    (h63 : cs.length + news.length ≤ maxLen) (hbytes : (cs.length + news.length) * bytes ≤ 140737488355328) (hbase : base ≤ w.heap.size)
    (h : ∀ v' w', Own e w' base v' (cs ++ news) → w.grownBy w' v.ownBlock → wpList P ops Q rest (a.put o.dst v') w') : wpList P ops Q (o :: rest) a w := by
  obtain ⟨ao, cap, rfl, hcap, hmax, hnil, hr⟩ := hr
  cases ao with
  | none =>
    have h0 := hnil rfl
    subst h0
    have hn : news = [] := List.eq_nil_of_length_eq_zero (by omega)
    subst hn
    refine wpList_append_own_none hgd s x t ho base e i 1 ht hi v _ cs hs hown hx ?_
    exact h v w (by simpa using hown) (World.grownBy.refl _ _)
  | some ad =>
    refine wpList_append_own w hgd s x t ho base e i z 1 bytes ht hi hz hsize hby hzs (by decide) v _ cs hs hown ad news.length cap news hx (by simp) (fun j u hj => ?_) h1 h63 hbytes hbase (fun v' w' h2 h3 _ => h v' w' (own_of h2) h3)
    have hj1 := (List.getElem?_eq_some_iff.1 hj).1
    obtain ⟨g, off, he, _, hc⟩ := hr (by omega)
    cases he
    rw [Addr.add_lit]
    exact hc j u hj

/-- The same, as a step of a region that draws its order. -/
theorem step_append_rd {P : Program} {w : World} {ops : Array Oper} {o : Oper} {a : Act} {K : Act → World → Prop} {Q : Exit → Act → World → Prop} {E : Prop} (hgd : o.guard = none) (s x : Operand) (t : TypeId)
    (ho : o.op = .call { callee := .builtin .append, args := #[s, x], argTypes := #[t, t] })
    (base : Nat) (e : TypeId) (i : TypeInfo) (z : Value) (bytes : Nat) (ht : P.underlying t = some (.slice e)) (hi : P.info? e = some i) (hz : i.zero = some z)
    (hsize : i.size = 1) (hby : i.bytes = bytes) (hzs : z.cells.size = 1)
    (v : Value) (cs : List Value) (hs : a.eval s = v) (hown : Own e w base v cs) (C : Nat) (xv : Value) (news : List Value) (hx : a.eval x = xv) (hr : Rd C w xv news) (hpos : 0 < news.length) (h1 : ∀ u ∈ news, u.oneCell' = true)
    (h63 : cs.length + news.length ≤ maxLen) (hbytes : (cs.length + news.length) * bytes ≤ 140737488355328) (hbase : base ≤ w.heap.size)
    (h : ∀ v' w', Own e w' base v' (cs ++ news) → w.grownBy w' v.ownBlock → K (a.put o.dst v') w') : if Region.wanted o (yielded ops a.tmps) = true then Oper.wp P o a w K Q else E := by
  have hw : Region.wanted o (yielded ops a.tmps) = true := by simp [Region.wanted, hgd]
  rw [if_pos hw]
  obtain ⟨ao, cap, rfl, hcap, hmax, hnil, hr⟩ := hr
  obtain ⟨g, off, rfl, _, hc⟩ := hr hpos
  exact wp_append_own w s x t ho base e i z 1 bytes ht hi hz hsize hby hzs (by decide) v _ cs hs hown ⟨g, off, none⟩ news.length cap news hx (by simp) (fun j u hj => by rw [Addr.add_lit]; exact hc j u hj) h1 h63 hbytes hbase (fun v' w' h2 h3 _ => h v' w' (own_of h2) h3)

/-- What is written over m places, from q on. -/
def marks (q m : Nat) : List Int := (List.range m).map fun i => (((q + i) % 256 : Nat) : Int)
theorem marks_len (q m : Nat) : (marks q m).length = m := by simp [marks]
theorem marks_get {q m k : Nat} (h : k < m) : (marks q m)[k]? = some (((q + k) % 256 : Nat) : Int) := by simp [marks, h]
theorem marks_succ (q k : Nat) : marks q (k + 1) = marks q k ++ [(((q + k) % 256 : Nat) : Int)] := by simp [marks, List.range_succ]

theorem own_cell {e : TypeId} {w : World} {B g n cap : Nat} {cs : List Value} (h : Own e w B (.slice (some ⟨g, 0, none⟩) n cap) cs) {k : Nat} (hk : k < cs.length) : w.cell? ⟨g, k, none⟩ = some cs[k] := by
  rcases h.shape with ⟨h', _⟩ | ⟨g', cap', h', _, _, hc, _⟩
  · simp at h'
  · simp only [Value.slice.injEq, Option.some.injEq, Addr.mk.injEq, and_true] at h'
    obtain ⟨rfl, rfl, rfl⟩ := h'
    exact hc k _ (by simp [hk])
theorem own_free {e : TypeId} {w : World} {B g n cap : Nat} {cs : List Value} (h : Own e w B (.slice (some ⟨g, 0, none⟩) n cap) cs) (k : Nat) : w.frozen? ⟨g, k, none⟩ = false := by
  rcases h.shape with ⟨h', _⟩ | ⟨g', cap', h', _, _, _, hf, _⟩
  · simp at h'
  · simp only [Value.slice.injEq, Option.some.injEq, Addr.mk.injEq, and_true] at h'
    obtain ⟨rfl, rfl, rfl⟩ := h'
    exact hf k
theorem own_set {e : TypeId} {w : World} {B g n cap : Nat} {cs : List Value} (h : Own e w B (.slice (some ⟨g, 0, none⟩) n cap) cs) (k : Nat) (u : Value) : Own e (w.setCell ⟨g, k, none⟩ u) B (.slice (some ⟨g, 0, none⟩) n cap) (cs.set k u) := by
  have hs : n = cs.length := by
    rcases h.shape with ⟨h', _⟩ | ⟨g', cap', h', _⟩
    · simp at h'
    · simp only [Value.slice.injEq] at h'; exact h'.2.1
  subst hs
  have := (World.ownsRow.stored h k u).1
  unfold Own
  rw [List.length_set]
  exact this
theorem mark_step (q k : Nat) (cs : List Value) (h : k < cs.length) : ((marks q k).map (Value.int .u8) ++ cs.drop k).set k (Value.int .u8 (((q + k) % 256 : Nat) : Int)) = (marks q (k + 1)).map (Value.int .u8) ++ cs.drop (k + 1) := by
  rw [marks_succ, List.map_append, List.append_assoc, List.set_append_right _ _ (by simp [marks_len])]
  congr 1
  rw [List.length_map, marks_len, Nat.sub_self, List.drop_eq_getElem_cons h, List.set_cons_zero]
  rfl
theorem copy_step {α : Type} (f : α → Value) (xs : List α) (k : Nat) (h : k < xs.length) {z : Value} : ((xs.take k).map f ++ List.replicate (xs.length - k) z).set k (f xs[k]) = (xs.take (k + 1)).map f ++ List.replicate (xs.length - (k + 1)) z := by
  rw [List.take_succ_eq_append_getElem h, List.map_append, List.append_assoc, List.set_append_right _ _ (by simp; omega)]
  congr 1
  rw [List.length_map, List.length_take, Nat.min_eq_left (by omega), Nat.sub_self, show xs.length - k = (xs.length - (k + 1)) + 1 by omega, List.replicate_succ, List.set_cons_zero]
  rfl
theorem range_step (f : Nat → Value) (k : Nat) (cs : List Value) (h : k < cs.length) : ((List.range k).map f ++ cs.drop k).set k (f k) = (List.range (k + 1)).map f ++ cs.drop (k + 1) := by
  rw [List.range_succ, List.map_append, List.append_assoc, List.set_append_right _ _ (by simp)]
  congr 1
  rw [List.length_map, List.length_range, Nat.sub_self, List.drop_eq_getElem_cons h, List.set_cons_zero]
  rfl
theorem own_lt {e : TypeId} {w : World} {B g n cap : Nat} {cs : List Value} (h : Own e w B (.slice (some ⟨g, 0, none⟩) n cap) cs) : B ≤ g := h.lt g rfl

end Go.Proofs.YtmmkmkaannlkhaaGreatDoor

namespace Go.Proofs.YtmmkmkaannlkhaaGreatDoor
open Go.RowKit
set_option linter.unusedVariables false

/-- All bytes. -/
def Bytes (xs : List Int) : Prop := ∀ c ∈ xs, 0 ≤ c ∧ c ≤ 255

/-- The number that stands at place p, of which i bytes were read and made v: at most f bytes more. -/
def getF (xs : List Int) : Nat → Nat → Nat → Int → Option (Int × Nat)
  | 0, _, _, _ => none
  | f + 1, i, p, v => match xs[p]? with
    | none => none
    | some c => if c < 128 then (if (i = 8 ∧ 63 < c) ∨ (i ≠ 0 ∧ c = 0) then none else some (v + c * 128 ^ i, p + 1)) else getF xs f (i + 1) (p + 1) (v + (c % 128) * 128 ^ i)
/-- The number at a place, and the place behind it. -/
def getL (xs : List Int) (p : Nat) : Option (Int × Nat) := getF xs 9 0 p 0

theorem getF_end {xs : List Int} {f i p : Nat} {v : Int} (h : xs.length ≤ p) : getF xs f i p v = none := by
  cases f with
  | zero => rfl
  | succ f => simp only [getF]; rw [List.getElem?_eq_none h]
theorem getF_last {xs : List Int} {f i p : Nat} {v : Int} (h : p < xs.length) (hc : xs[p] < 128) : getF xs (f + 1) i p v = if (i = 8 ∧ 63 < xs[p]) ∨ (i ≠ 0 ∧ xs[p] = 0) then none else some (v + xs[p] * 128 ^ i, p + 1) := by
  simp only [getF]; rw [List.getElem?_eq_getElem h]; simp only [hc, if_true]
theorem getF_more {xs : List Int} {f i p : Nat} {v : Int} (h : p < xs.length) (hc : ¬ xs[p] < 128) : getF xs (f + 1) i p v = getF xs f (i + 1) (p + 1) (v + (xs[p] % 128) * 128 ^ i) := by
  rw [getF]; rw [List.getElem?_eq_getElem h]; simp only [hc, if_false]

theorem pow_step (i : Nat) : (128 : Int) ^ (i + 1) = 128 ^ i * 128 := by rw [Int.pow_succ]
theorem pow_pos (i : Nat) : (0 : Int) < 128 ^ i := by
  induction i with
  | zero => decide
  | succ i ih => rw [pow_step]; omega
theorem pow_le {i j : Nat} (h : i ≤ j) : (128 : Int) ^ i ≤ 128 ^ j := by
  induction j with
  | zero => have : i = 0 := by omega
            subst this; omega
  | succ j ih =>
    by_cases e : i = j + 1
    · subst e; omega
    · have := ih (by omega); have := pow_pos j; rw [pow_step]; omega
theorem pow_8 {i : Nat} (h : i ≤ 8) : (128 : Int) ^ i ≤ 72057594037927936 := pow_le (j := 8) h
theorem mul_bd {c u : Int} {k : Int} (h0 : 0 ≤ c) (h1 : c ≤ k) (hu : 0 ≤ u) : 0 ≤ c * u ∧ c * u ≤ k * u := ⟨Int.mul_nonneg h0 hu, Int.mul_le_mul_of_nonneg_right h1 hu⟩

theorem getF_ok (xs : List Int) (hx : Bytes xs) : ∀ f i p v, f + i ≤ 9 → 0 ≤ v → v < 128 ^ i → ∀ a q, getF xs f i p v = some (a, q) → 0 ≤ a ∧ a ≤ 4611686018427387903 ∧ p < q ∧ q ≤ xs.length := by
  intro f
  induction f with
  | zero => intro i p v _ _ _ a q h; simp [getF] at h
  | succ f ih =>
    intro i p v hf h0 h1 a q h
    by_cases hp : p < xs.length
    · have hb := hx xs[p] (List.getElem_mem hp)
      have hpw := pow_pos i
      have hp8 := pow_8 (i := i) (by omega)
      by_cases hc : xs[p] < 128
      · rw [getF_last hp hc] at h
        split at h
        · simp at h
        · simp only [Option.some.injEq, Prod.mk.injEq] at h
          obtain ⟨rfl, rfl⟩ := h
          rename_i hn
          by_cases hi : i = 8
          · subst hi
            have e8 : (128 : Int) ^ 8 = 72057594037927936 := by decide
            rw [e8] at h1 ⊢
            omega
          · have hp7 := pow_le (i := i) (j := 7) (by omega)
            have e7 : (128 : Int) ^ 7 = 562949953421312 := by decide
            have := mul_bd (k := 127) hb.1 (by omega) (Int.le_of_lt hpw)
            omega
      · rw [getF_more hp hc] at h
        have hm := mul_bd (c := xs[p] % 128) (k := 127) (by omega) (by omega) (Int.le_of_lt hpw)
        have hs := pow_step i
        have := ih (i + 1) (p + 1) _ (by omega) (by omega) (by omega) a q h
        omega
    · rw [getF_end (by omega)] at h; simp at h
theorem getL_ok {xs : List Int} (hx : Bytes xs) {p q : Nat} {a : Int} (h : getL xs p = some (a, q)) : 0 ≤ a ∧ a ≤ 4611686018427387903 ∧ p < q ∧ q ≤ xs.length :=
  getF_ok xs hx 9 0 p 0 (by omega) (by omega) (by decide) a q h

/-- One byte more: the five ways. -/
theorem get_cases {xs : List Int} {p i : Nat} {v u c : Int} (hi : i ≤ 8) (hu : u = 128 ^ i) (hv0 : 0 ≤ v) (hv1 : v < u) (hG : getL xs p = getF xs (9 - i) i (p + i) v) (hlt : p + i < xs.length) (hc : xs[p + i] = c) (h0 : 0 ≤ c) (h1 : c ≤ 255) :
    (i = 8 ∧ 63 < c ∧ getL xs p = none) ∨ (i = 0 ∧ c < 128 ∧ getL xs p = some (v + c % 128 * u, p + i + 1)) ∨ (0 < i ∧ c = 0 ∧ getL xs p = none) ∨
    (0 < i ∧ 0 < c ∧ c < 128 ∧ (i = 8 → c ≤ 63) ∧ getL xs p = some (v + c % 128 * u, p + i + 1)) ∨
    (i < 8 ∧ 128 ≤ c ∧ getL xs p = getF xs (9 - (i + 1)) (i + 1) (p + (i + 1)) (v + c % 128 * u) ∧ u * 128 = 128 ^ (i + 1) ∧ 0 ≤ v + c % 128 * u ∧ v + c % 128 * u < u * 128) := by
  subst hc
  have hf : 9 - i = (8 - i) + 1 := by omega
  rw [hf] at hG
  by_cases h128 : xs[p + i] < 128
  · rw [getF_last hlt h128, ← hu] at hG
    have e : xs[p + i] % 128 = xs[p + i] := by omega
    rw [e]
    by_cases h8 : i = 8 ∧ 63 < xs[p + i]
    · rw [if_pos (.inl h8)] at hG
      exact .inl ⟨h8.1, h8.2, hG⟩
    · by_cases hz : i ≠ 0 ∧ xs[p + i] = 0
      · rw [if_pos (.inr hz)] at hG
        exact .inr (.inr (.inl ⟨by omega, hz.2, hG⟩))
      · rw [if_neg (by omega)] at hG
        by_cases hi0 : i = 0
        · exact .inr (.inl ⟨hi0, h128, hG⟩)
        · exact .inr (.inr (.inr (.inl ⟨by omega, by omega, h128, by omega, hG⟩)))
  · rw [getF_more hlt h128, ← hu] at hG
    by_cases h8 : i = 8
    · subst h8
      exact .inl ⟨rfl, by omega, by rw [hG]; rfl⟩
    · have hm := mul_bd (c := xs[p + i] % 128) (u := u) (k := 127) (by omega) (by omega) (by omega)
      refine .inr (.inr (.inr (.inr ⟨by omega, by omega, ?_, by rw [pow_step, hu], by omega, by omega⟩)))
      rw [hG, show 9 - (i + 1) = 8 - i by omega]
      rfl
theorem get_stop {xs : List Int} {p i : Nat} {v : Int} (hG : getL xs p = getF xs (9 - i) i (p + i) v) (h : xs.length ≤ p + i) : getL xs p = none := by rw [hG, getF_end h]
end Go.Proofs.YtmmkmkaannlkhaaGreatDoor

namespace Go.Proofs.YtmmkmkaannlkhaaGreatDoor
open Go.RowKit
set_option linter.unusedVariables false

def nth (ls : List Int) (k : Nat) : Int := ls.getD k 0
theorem nth_get {ls : List Int} {k : Nat} (h : k < ls.length) : nth ls k = ls[k] := by simp [nth, h]
/-- All numbers within their bounds. -/
def runsOK (ls : List Int) : Bool := ls.all fun v => decide (0 ≤ v ∧ v ≤ 1152921504606846975)
theorem runsOK_nth {ls : List Int} (h : runsOK ls = true) (k : Nat) : 0 ≤ nth ls k ∧ nth ls k ≤ 1152921504606846975 := by
  by_cases hk : k < ls.length
  · rw [nth_get hk]
    have := List.all_eq_true.1 h ls[k] (List.getElem_mem hk)
    simpa using this
  · have : nth ls k = 0 := by simp [nth, hk]
    rw [this]; omega
theorem runsOK_of {ls : List Int} (h : ∀ k, k < ls.length → 0 ≤ nth ls k ∧ nth ls k ≤ 1152921504606846975) : runsOK ls = true := by
  unfold runsOK
  rw [List.all_eq_true]
  intro v hv
  obtain ⟨k, hk, rfl⟩ := List.getElem_of_mem hv
  have := h k hk
  rw [nth_get hk] at this
  simpa using this
theorem runsOK_not {ls : List Int} {k : Nat} (hk : k < ls.length) (h : ¬ (0 ≤ nth ls k ∧ nth ls k ≤ 1152921504606846975)) : runsOK ls = false := by
  cases e : runsOK ls with
  | false => rfl
  | true => exact absurd (runsOK_nth e k) h

/-- Whether the run that begins at i goes on at k. -/
def goesOn (ls : List Int) (i k : Nat) : Bool := decide (k < ls.length) && (decide (k = i + 1) || decide (nth ls k - nth ls (k - 1) = nth ls (i + 1) - nth ls i))
def extF (ls : List Int) (i : Nat) : Nat → Nat → Nat
  | 0, _ => 0
  | f + 1, k => if goesOn ls i k then extF ls i f (k + 1) + 1 else 0
/-- Where the run that begins at i ends. -/
def runEnd (ls : List Int) (i : Nat) : Nat := (i + 1) + extF ls i ls.length (i + 1)
theorem goesOn_lt {ls : List Int} {i k : Nat} (h : goesOn ls i k = true) : k < ls.length := by
  simp [goesOn] at h; exact h.1
theorem ext_step {ls : List Int} {i k f E : Nat} (h : goesOn ls i k = true) (hf : ls.length - k ≤ f) (hE : E = k + extF ls i f k) : ∃ f', ls.length - (k + 1) ≤ f' ∧ E = (k + 1) + extF ls i f' (k + 1) := by
  have := goesOn_lt h
  obtain ⟨f, rfl⟩ : ∃ f', f = f' + 1 := ⟨f - 1, by omega⟩
  refine ⟨f, by omega, ?_⟩
  rw [hE, extF, if_pos h]
  omega
theorem ext_stop {ls : List Int} {i k f E : Nat} (h : goesOn ls i k = false) (hE : E = k + extF ls i f k) : E = k := by
  rw [hE]
  cases f with
  | zero => rfl
  | succ f => rw [extF, if_neg (by rw [h]; decide)]; omega
theorem ext_le (ls : List Int) (i : Nat) : ∀ f k, k ≤ ls.length → k + extF ls i f k ≤ ls.length := by
  intro f
  induction f with
  | zero => intro k hk; simpa [extF] using hk
  | succ f ih =>
    intro k hk
    simp only [extF]
    split
    · rename_i h
      have := ih (k + 1) (goesOn_lt h)
      omega
    · omega
theorem runEnd_bd {ls : List Int} {i : Nat} (h : i < ls.length) : i + 1 ≤ runEnd ls i ∧ runEnd ls i ≤ ls.length := by
  unfold runEnd
  exact ⟨by omega, ext_le ls i ls.length (i + 1) h⟩

theorem ext_enough (ls : List Int) (i : Nat) : ∀ f f' k, ls.length - k ≤ f → ls.length - k ≤ f' → extF ls i f k = extF ls i f' k := by
  intro f
  induction f with
  | zero =>
    intro f' k h h'
    have hg : goesOn ls i k = false := by simp [goesOn]; omega
    cases f' with
    | zero => rfl
    | succ f' => rw [extF, extF, if_neg (by rw [hg]; decide)]
  | succ f ih =>
    intro f' k h h'
    cases f' with
    | zero =>
      have hg : goesOn ls i k = false := by simp [goesOn]; omega
      rw [extF, extF, if_neg (by rw [hg]; decide)]
    | succ f' => rw [extF, extF, ih f' (k + 1) (by omega) (by omega)]
theorem nth_drop (ls : List Int) (i k : Nat) : nth (ls.drop i) k = nth ls (i + k) := by simp [nth]
theorem goesOn_drop (ls : List Int) (i k : Nat) (hk : 1 ≤ k) : goesOn (ls.drop i) 0 k = goesOn ls i (i + k) := by
  unfold goesOn
  rw [nth_drop, nth_drop, nth_drop, nth_drop, List.length_drop, show i + (k - 1) = i + k - 1 by omega]
  rw [show decide (k < ls.length - i) = decide (i + k < ls.length) from decide_eq_decide.2 (by omega), show decide (k = 0 + 1) = decide (i + k = i + 1) from decide_eq_decide.2 (by omega), Nat.zero_add, Nat.add_zero i]
theorem ext_drop (ls : List Int) (i : Nat) : ∀ f k, 1 ≤ k → extF (ls.drop i) 0 f k = extF ls i f (i + k) := by
  intro f
  induction f with
  | zero => intro k _; rfl
  | succ f ih =>
    intro k hk
    rw [extF, extF, goesOn_drop ls i k hk, ih (k + 1) (by omega)]
    rfl
theorem runEnd_drop (ls : List Int) (i : Nat) (h : i < ls.length) : runEnd (ls.drop i) 0 = runEnd ls i - i := by
  unfold runEnd
  rw [ext_drop ls i _ (0 + 1) (by omega), List.length_drop, ext_enough ls i (ls.length - i) ls.length (i + (0 + 1)) (by omega) (by omega), Nat.zero_add]
  omega
theorem runsOK_drop {ls : List Int} (h : runsOK ls = true) (i : Nat) : runsOK (ls.drop i) = true :=
  runsOK_of (fun k _ => by rw [nth_drop]; exact runsOK_nth h (i + k))
theorem runsOK_take {ls : List Int} (h : runsOK ls = true) (n : Nat) : runsOK (ls.take n) = true := by
  unfold runsOK at h ⊢
  rw [List.all_eq_true] at h ⊢
  intro v hv
  exact h v (List.mem_of_mem_take hv)

/-- A number for an amount. -/
def foldS (d : Int) : Nat := if d < 0 then (-2 * d - 1).toNat else (2 * d).toNat
theorem foldS_le {d : Int} (h0 : -1152921504606846975 ≤ d) (h1 : d ≤ 1152921504606846975) : foldS d ≤ 4611686018427387903 := by
  unfold foldS; split <;> omega
/-- The bytes of the run from i to e. -/
def runPiece (ls : List Int) (i e : Nat) : List Int := enc (nth ls i).toNat ++ enc (e - i) ++ (if 1 < e - i then enc (foldS (nth ls (i + 1) - nth ls i)) else [])
theorem nth_take {ls : List Int} {n k : Nat} (h : k < n) : nth (ls.take n) k = nth ls k := by simp [nth, h]
theorem piece_cut {ls : List Int} {i e : Nat} (hi : i < e) (he : e ≤ ls.length) :
    enc (nth ((ls.drop i).take (e - i)) 0).toNat ++ enc ((ls.drop i).take (e - i)).length ++ (if 1 < ((ls.drop i).take (e - i)).length then enc (foldS (nth ((ls.drop i).take (e - i)) 1 - nth ((ls.drop i).take (e - i)) 0)) else []) = runPiece ls i e := by
  have hl : ((ls.drop i).take (e - i)).length = e - i := by simp; omega
  rw [hl, nth_take (by omega), nth_drop, Nat.add_zero]
  unfold runPiece
  split
  · rw [nth_take (by omega), nth_drop]
  · rfl
def putRF (ls : List Int) : Nat → Nat → List Int
  | 0, _ => []
  | f + 1, i => if i < ls.length then runPiece ls i (runEnd ls i) ++ putRF ls f (runEnd ls i) else []
/-- What PutRuns writes. -/
def putR (ls : List Int) : List Int := enc ls.length ++ putRF ls ls.length 0
theorem runPiece_len {ls : List Int} (h : runsOK ls = true) (hl : ls.length ≤ 4096) (i : Nat) (hi : i < ls.length) : (runPiece ls i (runEnd ls i)).length ≤ 30 := by
  have h1 := runsOK_nth h i
  have h2 := runsOK_nth h (i + 1)
  have h3 := runEnd_bd hi
  have e1 := enc_len (n := (nth ls i).toNat) (by omega)
  have e2 := enc_len (n := runEnd ls i - i) (by omega)
  have e3 := enc_len (n := foldS (nth ls (i + 1) - nth ls i)) (by have := foldS_le (d := nth ls (i + 1) - nth ls i) (by omega) (by omega); omega)
  unfold runPiece
  simp only [List.length_append]
  split
  · omega
  · simp; omega
theorem putRF_len {ls : List Int} (h : runsOK ls = true) (hl : ls.length ≤ 4096) : ∀ f i, (putRF ls f i).length ≤ 30 * f := by
  intro f
  induction f with
  | zero => intro i; simp [putRF]
  | succ f ih =>
    intro i
    simp only [putRF]
    split
    · rename_i hi
      have := ih (runEnd ls i)
      have := runPiece_len h hl i hi
      simp only [List.length_append]
      omega
    · simp
theorem putR_len {ls : List Int} (h : runsOK ls = true) (hl : ls.length ≤ 4096) : (putR ls).length ≤ 122890 := by
  have := putRF_len h hl ls.length 0
  have := enc_len (n := ls.length) (by omega)
  unfold putR
  simp only [List.length_append]
  omega
theorem putR_step {ls : List Int} {i f : Nat} {X : List Int} (hi : i < ls.length) (hf : ls.length - i ≤ f) (hE : X ++ putRF ls f i = putR ls) : ∃ f', ls.length - runEnd ls i ≤ f' ∧ (X ++ runPiece ls i (runEnd ls i)) ++ putRF ls f' (runEnd ls i) = putR ls := by
  obtain ⟨f, rfl⟩ : ∃ f', f = f' + 1 := ⟨f - 1, by omega⟩
  have := runEnd_bd hi
  refine ⟨f, by omega, ?_⟩
  rw [← hE, putRF, if_pos hi, List.append_assoc]
theorem putR_stop {ls : List Int} {i f : Nat} {X : List Int} (hi : ls.length ≤ i) (hE : X ++ putRF ls f i = putR ls) : X = putR ls := by
  rw [← hE]
  cases f with
  | zero => simp [putRF]
  | succ f => rw [putRF, if_neg (by omega), List.append_nil]

/-- What PutRuns answers: bytes and a code. -/
def putRunsB (ls : List Int) : List Int := if ls.length ≤ 4096 ∧ runsOK ls = true then putR ls else []
def putRunsC (ls : List Int) : Int := if ls.length ≤ 4096 then (if runsOK ls = true then 0 else 4) else 2
theorem putRuns_long {ls : List Int} (h : ¬ ls.length ≤ 4096) : putRunsB ls = [] ∧ putRunsC ls = 2 := by simp [putRunsB, putRunsC, h]
theorem putRuns_bad {ls : List Int} (h : ls.length ≤ 4096) (h2 : runsOK ls = false) : putRunsB ls = [] ∧ putRunsC ls = 4 := by simp [putRunsB, putRunsC, h, h2]
theorem putRuns_ok {ls : List Int} (h : ls.length ≤ 4096) (h2 : runsOK ls = true) : putRunsB ls = putR ls ∧ putRunsC ls = 0 := by simp [putRunsB, putRunsC, h, h2]
theorem putRunsB_len (ls : List Int) : (putRunsB ls).length ≤ 122890 := by
  unfold putRunsB
  split
  · rename_i h; exact putR_len h.2 h.1
  · simp
end Go.Proofs.YtmmkmkaannlkhaaGreatDoor

namespace Go.Proofs.YtmmkmkaannlkhaaGreatDoor
open Go.RowKit
set_option linter.unusedVariables false

theorem owns_same {w w' : World} {B : Nat} {e : TypeId} {s n : Nat} {v : Value} {xs : List Value} (h : w.ownsRow B e s v n xs) (hb : ∀ k, v.ownBlock = some k → k < w.heap.size → w'.heap[k]? = w.heap[k]?) : w'.ownsRow B e s v n xs := by
  obtain ⟨h1, h2⟩ := h
  refine ⟨h1, ?_⟩
  rcases h2 with h2 | ⟨g, cap, cur, rfl, hg, hh, r⟩
  · exact .inl h2
  · exact .inr ⟨g, cap, cur, rfl, hg, (hb g rfl (Array.getElem?_eq_some_iff.1 hh).1).trans hh, r⟩
theorem owns_lt {w : World} {B : Nat} {e : TypeId} {s n : Nat} {v : Value} {xs : List Value} (h : w.ownsRow B e s v n xs) : ∀ k, v.ownBlock = some k → B ≤ k ∧ k < w.heap.size := fun k hk => World.ownsRow.lt h k hk
theorem owns_type {w : World} {B B' : Nat} {e e' : TypeId} {s s' n n' : Nat} {v v' : Value} {xs xs' : List Value} (h : w.ownsRow B e s v n xs) (h' : w.ownsRow B' e' s' v' n' xs') (hne : e ≠ e') : ∀ k, v.ownBlock = some k → v'.ownBlock ≠ some k := by
  intro k hk hk'
  obtain ⟨_, h2⟩ := h
  obtain ⟨_, h2'⟩ := h'
  rcases h2 with ⟨rfl, _⟩ | ⟨g, cap, cur, rfl, _, hh, _⟩
  · cases hk
  · rcases h2' with ⟨rfl, _⟩ | ⟨g', cap', cur', rfl, _, hh', _⟩
    · cases hk'
    · have e1 : g = k := by simpa [Value.ownBlock] using hk
      have e2 : g' = k := by simpa [Value.ownBlock] using hk'
      subst e1
      subst e2
      rw [hh] at hh'
      injection hh' with e3
      injection e3 with _ e4 _
      exact hne e4

end Go.Proofs.YtmmkmkaannlkhaaGreatDoor
