/- A map that is looked up, or given a new key: whatever its elements are. -/
import Derived.Maps.Keyed
import Derived.Test.YtfjekbfejbgneaaQOpComesToOpBase
namespace Go.Proofs.Ytfjekbfejbgneaa
open Go.WideMaps Go.ChangeMaps Go.MapKept
set_option linter.unusedVariables false

/-- Every key of the map is one that can be read. -/
def KeysRead (P : Program) (k : TypeId) (es : Array MapEntry) : Prop := ∀ x ∈ es.toList, ∃ l, keyOf P k x.key = some l
theorem KeysRead.push {P : Program} {k : TypeId} {es : Array MapEntry} (h : KeysRead P k es) {x : MapEntry} {l : Lit} (hx : keyOf P k x.key = some l) : KeysRead P k (es.push x) := by
  intro y hy
  rw [Array.toList_push] at hy
  rcases List.mem_append.1 hy with hy | hy
  · exact h y hy
  · rw [List.mem_singleton] at hy
    rw [hy]
    exact ⟨l, hx⟩
theorem look_row {P : Program} {k e t : TypeId} {w : World} {b clock : Nat} {es : Array MapEntry} (c : Bool) (K : Maps.Keyed P k) (ht : P.underlying t = some (.map k e)) {z : Value} (hz : (zeroValue e).run P w = .ok z w) (hb : w.heap[b]? = some (.map es clock)) (F : KeysRead P k es) {key : Value} {kl : Lit} (hkey : keyOf P k key = some kl) :
    ((Instr.lookup t (.map (some b)) key c).run P w = .ok (if c then .tuple #[z, .bool false] else z) w ∧ ∀ x ∈ es.toList, x.key ≠ key) ∨
    ∃ e0, e0 ∈ es.toList ∧ e0.key = key ∧ (Instr.lookup t (.map (some b)) key c).run P w = .ok (if c then .tuple #[e0.val, .bool true] else e0.val) w := by
  rcases K.find w hkey es.toList F with ⟨h1, h2⟩ | ⟨j, e0, h1, h2, h3⟩
  · exact .inl ⟨by simp [Instr.lookup, run_underlying ht, MapKept.run_getObj_map hb, K.check w _ hkey, h1, hz, Result.andThen], h2⟩
  · exact .inr ⟨e0, List.mem_of_getElem? h2, h3, by simp [Instr.lookup, run_underlying ht, MapKept.run_getObj_map hb, K.check w _ hkey, h1, Result.andThen]⟩
theorem put_row {P : Program} {k e t : TypeId} {w : World} {b clock : Nat} {es : Array MapEntry} (K : Maps.Keyed P k) (ht : P.underlying t = some (.map k e)) (hb : w.heap[b]? = some (.map es clock)) (F : KeysRead P k es) {key val : Value} {kl : Lit} (hkey : keyOf P k key = some kl) (hnew : ∀ x ∈ es.toList, x.key ≠ key) :
    (Instr.mapUpdate t (.map (some b)) key val).run P w = .ok () (setBlock w b (.map (es.push ⟨key, val, clock⟩) (clock + 1))) := by
  rcases K.find w hkey es.toList F with ⟨h1, h2⟩ | ⟨j, e0, h1, h2, h3⟩
  · simp [Instr.mapUpdate, run_underlying ht, MapKept.run_getObj_map hb, K.check w false hkey, h1, MapKept.run_setObj_map _ hb, Result.andThen, setBlock]
  · exact absurd h3 (hnew e0 (List.mem_of_getElem? h2))
/-- A map from names to operations: which names it has, and what stands there. -/
structure Names (P : Program) (k : TypeId) (es : Array MapEntry) (X : List Ov) : Prop where
  read : KeysRead P k es
  size : es.size = X.length
  at_ : ∀ i, i < X.length → ∃ b, es[i]? = some ⟨.agg #[.int .i64 (ovAt X i).a, .int .i64 (ovAt X i).s], .agg (ovAt X i).cs.toArray, b⟩
theorem Names.lacks {P : Program} {k : TypeId} {es : Array MapEntry} {X : List Ov} (h : Names P k es X) {a s : Int} (hn : ∀ x ∈ es.toList, x.key ≠ .agg #[.int .i64 a, .int .i64 s]) : ∀ x ∈ X, ¬ (x.a = a ∧ x.s = s) := by
  intro x hx he
  obtain ⟨i, hi, rfl⟩ := List.mem_iff_getElem.1 hx
  have ex : ovAt X i = X[i] := by have := ovAt_get hi; rw [List.getElem?_eq_getElem hi] at this; exact (Option.some.inj this).symm
  obtain ⟨b, hb⟩ := h.at_ i hi
  have hm := List.mem_of_getElem? (l := es.toList) (i := i) (by rw [← hb]; simp)
  exact hn _ hm (by show Value.agg _ = _; rw [ex, he.1, he.2])
theorem Names.finds {P : Program} {k : TypeId} {es : Array MapEntry} {X : List Ov} (h : Names P k es X) {a s : Int} {e0 : MapEntry} (hm : e0 ∈ es.toList) (hk : e0.key = .agg #[.int .i64 a, .int .i64 s]) : ∃ i, i < X.length ∧ (ovAt X i).a = a ∧ (ovAt X i).s = s ∧ e0.val = .agg (ovAt X i).cs.toArray := by
  obtain ⟨i, hi, e⟩ := List.mem_iff_getElem.1 hm
  have hi' : i < X.length := by rw [← h.size]; simpa using hi
  obtain ⟨b, hb⟩ := h.at_ i hi'
  have e1 : es[i]? = some e0 := by rw [← e]; simp
  rw [e1] at hb
  cases hb
  simp only [Value.agg.injEq] at hk
  have hk' : [Value.int .i64 (ovAt X i).a, Value.int .i64 (ovAt X i).s] = [Value.int .i64 a, Value.int .i64 s] := by simpa using hk
  simp only [List.cons.injEq, Value.int.injEq, true_and, and_true] at hk'
  exact ⟨i, hi', hk'.1, hk'.2, rfl⟩
theorem Names.push {P : Program} {k : TypeId} {es : Array MapEntry} {X : List Ov} (h : Names P k es X) (x : Ov) (b : Nat) {l : Lit} (hl : keyOf P k (.agg #[.int .i64 x.a, .int .i64 x.s]) = some l) : Names P k (es.push ⟨.agg #[.int .i64 x.a, .int .i64 x.s], .agg x.cs.toArray, b⟩) (X ++ [x]) := by
  refine ⟨h.read.push hl, by rw [Array.size_push, h.size, List.length_append]; rfl, fun i hi => ?_⟩
  rw [List.length_append, List.length_singleton] at hi
  by_cases e : i = X.length
  · subst e
    have ex : ovAt (X ++ [x]) X.length = x := by unfold ovAt; rw [List.getD_eq_getElem?_getD, List.getElem?_append_right (Nat.le_refl _), Nat.sub_self]; rfl
    refine ⟨b, ?_⟩
    rw [ex, ← h.size, Array.getElem?_push_size]
  · have hi' : i < X.length := by omega
    have ex : ovAt (X ++ [x]) i = ovAt X i := by unfold ovAt; rw [List.getD_eq_getElem?_getD, List.getElem?_append_left hi', ← List.getD_eq_getElem?_getD]
    obtain ⟨b', hb'⟩ := h.at_ i hi'
    refine ⟨b', ?_⟩
    rw [ex, ← hb', Array.getElem?_push_lt (by rw [h.size]; exact hi'), Array.getElem?_eq_getElem]
end Go.Proofs.Ytfjekbfejbgneaa
