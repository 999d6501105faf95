/- Rows of structs whose fields are numbers and texts: a slice that can be read, a row that the call owns, told cell by cell. No condition: they are lemmas. -/
import Derived.Test.YtlncfeakcgjioaaStampNextImpl
import Derived.Test.YtlncfeakcgjioaaTextsCells
import Derived.Deep.RegionHeld2
import Derived.Laws.AppendOwnNone
namespace Go.Proofs.Ytlncfeakcgjioaa
open Go.RowKit
set_option linter.unusedVariables false

/-- The slice v, of n places of m cells each, reads as cs, in a block below C. -/
def RdM (m C : Nat) (w : World) (v : Value) (n : Nat) (cs : List Value) : Prop :=
  cs.length = n * m ∧ ∃ ao cap, v = .slice ao n cap ∧ n ≤ cap ∧ cap ≤ maxLen ∧ (ao = none → cap = 0) ∧ (0 < n → ∃ g off, ao = some ⟨g, off, none⟩ ∧ g < C ∧ ∀ j u, cs[j]? = some u → w.cell? ⟨g, off + j, none⟩ = some u)
theorem RdM.mono {m C C' : Nat} {w : World} {v : Value} {n : Nat} {cs : List Value} (h : RdM m C w v n cs) (hc : C ≤ C') : RdM m C' w v n cs := by
  obtain ⟨hl, ao, cap, rfl, h1, h2, h3, h⟩ := h
  refine ⟨hl, ao, cap, rfl, h1, h2, h3, fun hp => ?_⟩
  obtain ⟨g, off, rfl, hg, hr⟩ := h hp
  exact ⟨g, off, rfl, by omega, hr⟩
theorem RdM.below {m C : Nat} {w w' : World} {v : Value} {n : Nat} {cs : List Value} (h : RdM m C w v n cs) (hb : Below C w w') : RdM m C w' v n cs := by
  obtain ⟨hl, ao, cap, rfl, h1, h2, h3, h⟩ := h
  refine ⟨hl, ao, cap, rfl, h1, h2, h3, fun hp => ?_⟩
  obtain ⟨g, off, rfl, hg, hr⟩ := h hp
  exact ⟨g, off, rfl, hg, fun j u hj => (hb.cell (p := ⟨g, off + j, none⟩) hg).trans (hr j u hj)⟩
theorem RdM.on {m C : Nat} {w w' : World} {v : Value} {n : Nat} {cs : List Value} (h : RdM m C w v n cs) (hC : C ≤ w.heap.size) (hb : Below w.heap.size w w') : RdM m C w' v n cs := h.below (hb.mono hC)

/-- A row of n places of m cells that the call owns, whose first k cells are those of cs. -/
def RowM (T : TypeId) (m : Nat) (w : World) (B g n c : Nat) (cs : List Value) (k : Nat) : Prop :=
  ∃ xs, w.ownsRow B T m (.slice (some ⟨g, 0, none⟩) n c) n xs ∧ ∀ j, j < k → xs[j]? = cs[j]?
theorem RowM.cell {T : TypeId} {m : Nat} {w : World} {B g n c : Nat} {cs : List Value} {k : Nat} (h : RowM T m w B g n c cs k) (j : Nat) (hj : j < n * m) : ∃ u, w.cell? ⟨g, j, none⟩ = some u ∧ w.frozen? ⟨g, j, none⟩ = false := by
  obtain ⟨xs, ho, _⟩ := h
  have hl := ho.1
  have h0 : j < xs.length := by omega
  exact ⟨xs[j], by rw [World.ownsRow.cellAt ho _ (by omega), List.getElem?_eq_getElem h0], World.ownsRow.frozenAt ho _⟩
theorem RowM.put {T : TypeId} {m : Nat} {w : World} {B g n c : Nat} {cs : List Value} {k : Nat} {u : Value} (h : RowM T m w B g n c cs k) (hk : k < n * m) (hu : cs[k]? = some u) : RowM T m (w.setCell ⟨g, k, none⟩ u) B g n c cs (k + 1) := by
  obtain ⟨xs, ho, hx⟩ := h
  have hl := ho.1
  refine ⟨_, (World.ownsRow.stored ho k u).1, fun j hj => ?_⟩
  by_cases e : j = k
  · subst e
    rw [List.getElem?_set_self (by omega), hu]
  · rw [List.getElem?_set_ne (by omega)]
    exact hx j (by omega)
theorem RowM.lt {T : TypeId} {m : Nat} {w : World} {B g n c : Nat} {cs : List Value} {k : Nat} (h : RowM T m w B g n c cs k) : B ≤ g ∧ g < w.heap.size := by
  obtain ⟨xs, ho, _⟩ := h
  exact World.ownsRow.lt ho g rfl
theorem RowM.kept {T : TypeId} {m : Nat} {w w' : World} {B g n c : Nat} {cs : List Value} {k : Nat} {row : Option Nat} (h : RowM T m w B g n c cs k) (hg : w.grownBy w' row) (hn : row ≠ some g) : RowM T m w' B g n c cs k := by
  obtain ⟨xs, ho, hx⟩ := h
  exact ⟨xs, ho.kept hg (.inr (fun e => hn (by simpa [Value.ownBlock] using e.symm))), hx⟩
theorem RowM.on {T : TypeId} {m : Nat} {w w' : World} {B g n c : Nat} {cs : List Value} {k : Nat} (h : RowM T m w B g n c cs k) (hb : Below w.heap.size w w') : RowM T m w' B g n c cs k := h.kept (grownBy_below hb (Nat.le_refl _) none) (by simp)
theorem RowM.fresh {T : TypeId} {m : Nat} {w : World} {B g n c : Nat} {cs cs' : List Value} {k : Nat} (h : RowM T m w B g n c cs k) : RowM T m w B g n c cs' 0 := by
  obtain ⟨xs, ho, _⟩ := h
  exact ⟨xs, ho, fun j hj => absurd hj (Nat.not_lt_zero _)⟩
theorem RowM.own {T : TypeId} {m : Nat} {w : World} {B g n c : Nat} {cs : List Value} {k : Nat} (h : RowM T m w B g n c cs k) (hk : k = n * m) (hl : cs.length = n * m) : w.ownsRow B T m (.slice (some ⟨g, 0, none⟩) n c) n cs := by
  obtain ⟨xs, ho, hx⟩ := h
  have : xs = cs := by
    refine List.ext_getElem? fun i => ?_
    by_cases hi : i < n * m
    · exact hx i (by omega)
    · rw [List.getElem?_eq_none (by have := ho.1; omega), List.getElem?_eq_none (by omega)]
  subst this
  exact ho
theorem rowM_of {T : TypeId} {m : Nat} {w : World} {B g n c : Nat} {cs : List Value} (h : w.ownsRow B T m (.slice (some ⟨g, 0, none⟩) n c) n cs) (k : Nat) : RowM T m w B g n c cs k := ⟨cs, h, fun _ _ => rfl⟩
theorem ownM_shape {T : TypeId} {m : Nat} {w : World} {B : Nat} {v : Value} {n : Nat} {cs : List Value} (h : w.ownsRow B T m v n cs) : (v = .slice none 0 0 ∧ n = 0 ∧ cs = []) ∨ ∃ g c, v = .slice (some ⟨g, 0, none⟩) n c ∧ B ≤ g ∧ g < w.heap.size ∧ n ≤ c ∧ c ≤ maxLen := by
  obtain ⟨h1, h2⟩ := h
  rcases h2 with ⟨hv, hn⟩ | ⟨g, cap, cur, hv, hb, hg, hc, hm, _⟩
  · exact .inl ⟨hv, hn, List.eq_nil_of_length_eq_zero (by rw [h1, hn]; simp)⟩
  · exact .inr ⟨g, cap, hv, hb, (Array.getElem?_eq_some_iff.1 hg).1, hc, hm⟩
theorem ownM_rd {T : TypeId} {m : Nat} {w : World} {B : Nat} {v : Value} {n : Nat} {cs : List Value} (h : w.ownsRow B T m v n cs) : RdM m w.heap.size w v n cs := by
  rcases ownM_shape h with ⟨rfl, rfl, rfl⟩ | ⟨g, c, rfl, _, hlt, hc, hm⟩
  · exact ⟨by simp, none, 0, rfl, Nat.le_refl _, Nat.zero_le _, fun _ => rfl, fun h => absurd h (by simp)⟩
  · refine ⟨h.1, _, c, rfl, hc, hm, (fun h => by cases h), fun _ => ⟨g, 0, rfl, hlt, fun j u hj => ?_⟩⟩
    have hl := h.1
    have hj1 := (List.getElem?_eq_some_iff.1 hj).1
    rw [Nat.zero_add, World.ownsRow.cellAt h _ (by omega)]
    exact hj
theorem ownM_kept {T : TypeId} {m : Nat} {w w' : World} {B : Nat} {v : Value} {n : Nat} {cs : List Value} {row : Option Nat} (h : w.ownsRow B T m v n cs) (hg : w.grownBy w' row) (hn : ∀ k, v.ownBlock = some k → row ≠ some k) : w'.ownsRow B T m v n cs := h.kept hg (by
  cases hv : v.ownBlock with
  | none => exact .inl rfl
  | some j => exact .inr (fun e => hn j hv e.symm))
theorem ownM_on {T : TypeId} {m : Nat} {w w' : World} {B : Nat} {v : Value} {n : Nat} {cs : List Value} (h : w.ownsRow B T m v n cs) (hb : Below w.heap.size w w') : w'.ownsRow B T m v n cs := ownM_kept h (grownBy_below hb (Nat.le_refl _) none) (fun k _ => by simp)
theorem ownM_nil (T : TypeId) (m : Nat) (w : World) (B : Nat) : w.ownsRow B T m (.slice none 0 0) 0 [] := ⟨by simp, .inl ⟨rfl, rfl⟩⟩

/-- An append of a slice that can be read onto a row that the call owns. -/
theorem wpList_append_rdM {P : Program} {w : World} {ops : Array Oper} {rest : List Oper} {o : Oper} {a : Act} {Q : Exit → Act → World → Prop} (hgd : o.guard = none) (s x : Operand) (t : TypeId)
    (ho : o.op = .call { callee := .builtin .append, args := #[s, x], argTypes := #[t, t] })
    (base : Nat) (e : TypeId) (i : TypeInfo) (z : Value) (m bytes : Nat) (ht : P.underlying t = some (.slice e)) (hi : P.info? e = some i) (hz : i.zero = some z)
    (hsize : i.size = m) (hby : i.bytes = bytes) (hzs : z.cells.size = m) (hm : 0 < m)
    (v : Value) (n : Nat) (cs : List Value) (hs : a.eval s = v) (hown : w.ownsRow base e m v n cs) (C : Nat) (xv : Value) (k : Nat) (news : List Value) (hx : a.eval x = xv) (hr : RdM m C w xv k news) (h1 : ∀ u ∈ news, u.oneCell' = true)
    (h63 : n + k ≤ maxLen) (hbytes : (n + k) * bytes ≤ 140737488355328) (hbase : base ≤ w.heap.size)
    (h : ∀ v' w', w'.ownsRow base e m v' (n + k) (cs ++ news) → w.grownBy w' v.ownBlock → wpList P ops Q rest (a.put o.dst v') w') : wpList P ops Q (o :: rest) a w := by
  obtain ⟨hl, ao, cap, rfl, hcap, hmax, hnil, hr⟩ := hr
  have hg0 : w.grownBy w v.ownBlock := World.grownBy.refl _ _
  cases ao with
  | none =>
    have hk : k = 0 := by
      cases k with
      | zero => rfl
      | succ k =>
        obtain ⟨g, off, e, _⟩ := hr (by omega)
        cases e
    subst hk
    have h00 := hnil rfl
    subst h00
    have : news = [] := List.eq_nil_of_length_eq_zero (by rw [hl]; simp)
    subst this
    refine wpList_append_own_none hgd s x t ho base e i m ht hi v n cs hs hown hx ?_
    exact h v w (by rw [List.append_nil]; exact hown) hg0
  | some a0 =>
    by_cases hk : 0 < k
    · obtain ⟨g, off, e0, hg, hc⟩ := hr hk
      cases e0
      refine wpList_append_own w hgd s x t ho base e i z m bytes ht hi hz hsize hby hzs hm v n cs hs hown ⟨g, off, none⟩ k cap news hx hl (fun j u hj => by rw [Addr.add_lit]; exact hc j u hj) h1 h63 hbytes hbase ?_
      intro v' w' ho' hg' _
      exact h v' w' ho' hg'
    · obtain rfl : k = 0 := by omega
      have : news = [] := List.eq_nil_of_length_eq_zero (by rw [hl]; simp)
      subst this
      refine wpList_append_own w hgd s x t ho base e i z m bytes ht hi hz hsize hby hzs hm v n cs hs hown a0 0 cap [] hx (by simp) (fun j u hj => by simp at hj) h1 h63 hbytes hbase ?_
      intro v' w' ho' hg' _
      exact h v' w' ho' hg'

end Go.Proofs.Ytlncfeakcgjioaa
