/- A change appended to changes that the call owns; the rows behind the first one. No condition: they are lemmas. -/
import Derived.Test.YtlncfeakcgjioaaRowMath
import Derived.Test.YtlncfeakcgjioaaEqTexts
namespace Go.Proofs.Ytlncfeakcgjioaa
open Go.RowKit
set_option linter.unusedVariables false

theorem RdRw.from {C : Nat} {w : World} {ao ao' : Option Addr} {cap n k c : Nat} {x : Rw} {P : List Rw} (h : RdRw C w (.slice ao n cap) (x :: P)) (hk : k = P.length) (hc' : c = cap - 1) (ha : ao' = if cap = 1 then ao else ao.map (·.add 2)) : RdRw C w (.slice ao' k c) P := by
  obtain ⟨ao1, cap1, e, h1, h2, h3, hr⟩ := h
  simp only [Value.slice.injEq] at e
  obtain ⟨rfl, rfl, rfl⟩ := e
  subst hk hc'
  rw [List.length_cons] at h1 hr
  refine ⟨_, _, rfl, by omega, by omega, fun hno => ?_, fun hpos => ?_⟩
  · subst ha
    split at hno
    · omega
    · cases ao with
      | none => have := h3 rfl; omega
      | some a => simp at hno
  · obtain ⟨g, off, rfl, hg, hc⟩ := hr (by omega)
    rw [if_neg (by omega)] at ha
    refine ⟨g, off + 2, by rw [ha]; rw [Option.map_some, Addr.add_lit], hg, fun j u hj => ?_⟩
    have := hc (j + 1) u (by simpa using hj)
    rwa [show off + (j + 1) * 2 = off + 2 + j * 2 by omega] at this
theorem RdRw.head {C : Nat} {w : World} {v : Value} {x : Rw} {P : List Rw} (h : RdRw C w v (x :: P)) : ∃ g off cap u, v = .slice (some ⟨g, off, none⟩) (P.length + 1) cap ∧ g < C ∧ w.cell? ⟨g, off, none⟩ = some (.string x.1) ∧ w.cell? ⟨g, off + 1, none⟩ = some u ∧ Rd C w u (x.2.map Value.string) := by
  obtain ⟨ao, cap, rfl, h1, h2, h3, hr⟩ := h
  obtain ⟨g, off, rfl, hg, hc⟩ := hr (by simp)
  obtain ⟨d0, u, d1, r⟩ := hc 0 x rfl
  rw [Nat.zero_mul, Nat.add_zero] at d0 d1
  exact ⟨g, off, cap, u, by rw [List.length_cons], hg, d0, d1, r⟩
theorem own_none (w : World) (B : Nat) : Own 9 w B (.slice none 0 0) (([] : List ByteArray).map Value.string) := ⟨rfl, .inl ⟨rfl, rfl⟩⟩
theorem apt_none (u : Value) : Apt u (.slice none 0 0) := fun k _ h => by cases h
theorem none_apt (u : Value) : Apt (.slice none 0 0) u := fun k h => by cases h
theorem own_up {w : World} {B B' : Nat} {u : Value} {cs : List Value} (h : Own 9 w B u cs) (hb : B' ≤ B) : Own 9 w B' u cs := h.mono hb
/-- A row that came behind another one is another one. -/
theorem apt_later {w w' : World} {B B' : Nat} {u v : Value} {xs ys : List Value} (h : Own 9 w B u xs) (h' : Own 9 w' B' v ys) (hb : w.heap.size ≤ B') : Apt u v := fun k hk hk' => by
  have h1 := (owns_lt h k hk).2
  have h2 := (owns_lt h' k hk').1
  omega
theorem Apt.symm {u v : Value} (h : Apt u v) : Apt v u := fun k hk hk' => h k hk' hk

theorem OwCg.slice {w : World} {B E : Nat} {v : Value} {L : List Cg} (h : OwCg w B E v L) : ∃ a c, v = .slice a L.length c := by
  obtain ⟨ao, cap, e⟩ := h.rd.slice
  exact ⟨ao, cap, e⟩
theorem OwCg.nil (w : World) (B E : Nat) : OwCg w B E (.slice none 0 0) [] := ⟨[], rfl, Nest.nil 3 w B E (by decide)⟩
theorem OwCg.now {w : World} {B E : Nat} {v : Value} {L : List Cg} (h : OwCg w B E v L) : OwCg w B w.heap.size v L := by
  obtain ⟨M, hM, h⟩ := h
  exact ⟨M, hM, h.now⟩
/-- An append of one change, as a step of a region that draws its order. -/
theorem step_appendCg {w1 : World} {ops : Array Oper} {o : Oper} {a : Act} {K : Act → World → Prop} {Q : Exit → Act → World → Prop} {EE : Prop} (hgd : o.guard = none) (s x : Operand)
    (ho : o.op = .call { callee := .builtin .append, args := #[s, x], argTypes := #[26, 26] }) (w0 : World) (B E : Nat) (v : Value) (L : List Cg) (hs : a.eval s = v) (hO : OwCg w0 B E v L) (hE : E ≤ w0.heap.size) (hB : B ≤ w0.heap.size) (hb : Below w0.heap.size w0 w1)
    (g : Nat) (y : Cg) (u u' : Value) (hx : a.eval x = .slice (some ⟨g, 0, none⟩) 1 1) (h0 : w1.cell? ⟨g, 0, none⟩ = some (.string y.1)) (h1 : w1.cell? ⟨g, 1, none⟩ = some u) (h2 : w1.cell? ⟨g, 2, none⟩ = some u')
    (hu : Own 9 w1 w0.heap.size u (y.2.1.map Value.string)) (hu' : Own 9 w1 w0.heap.size u' (y.2.2.map Value.string)) (hd : Apt u u') (hlen : L.length < 1048576)
    (h : ∀ v' w', OwCg w' B w'.heap.size v' (L ++ [y]) → Below B w1 w' → (∃ a c, v' = .slice a (L.length + 1) c) → K (a.put o.dst v') w') : if Region.wanted o (yielded ops a.tmps) = true then Oper.wp Try.prog o a w1 K Q else EE := by
  obtain ⟨i0, hi, hz0, hz1, hz2⟩ := info_parts infoChange
  obtain ⟨M, hM, hN⟩ := hO
  have hMl : M.length = L.length := by rw [← hM]; simp [cgFx]
  have hw : Region.wanted o (yielded ops a.tmps) = true := by simp [Region.wanted, hgd]
  rw [if_pos hw]
  have hN1 := hN.below hb
  have hs0 := hb.size
  obtain ⟨ua, uc, rfl⟩ := rd_slice hu.rd
  obtain ⟨ub, ud, rfl⟩ := rd_slice hu'.rd
  refine wp_append_own w1 s x 26 ho B 51 i0 _ 3 64 Try.underlying26 hi hz0 hz1 hz2 rfl (by decide) v M.length (cgFcs M) hs hN1.row ⟨g, 0, none⟩ 1 1 [.string y.1, .slice ua y.2.1.length uc, .slice ub y.2.2.length ud] hx rfl (fun j c hj => ?_) (fun c hc => ?_) (by unfold maxLen; omega) (by omega) (by omega) (fun v' w' hr hg _ => ?_)
  · rw [Addr.add_lit, Nat.zero_add]
    match j, hj with
    | 0, hj => cases hj; exact h0
    | 1, hj => cases hj; exact h1
    | 2, hj => cases hj; exact h2
  · simp only [List.mem_cons, List.not_mem_nil, or_false] at hc
    rcases hc with rfl | rfl | rfl <;> rfl
  · have hN2 := hN.grow (news := [(.slice ua y.2.1.length uc, y.2.1), (.slice ub y.2.2.length ud, y.2.2)]) hE hb (fun p hp => by
      simp only [List.mem_cons, List.not_mem_nil, or_false] at hp
      rcases hp with rfl | rfl
      · exact hu
      · exact hu') (Apts.two hd) hB hr hg rfl
    have hO2 : OwCg w' B w'.heap.size v' (L ++ [y]) := by
      refine ⟨M ++ [⟨y, .slice ua y.2.1.length uc, .slice ub y.2.2.length ud⟩], by rw [cgFx_app, hM]; rfl, ?_⟩
      have e1 : cgFcs (M ++ [⟨y, .slice ua y.2.1.length uc, .slice ub y.2.2.length ud⟩]) = cgFcs M ++ [.string y.1, .slice ua y.2.1.length uc, .slice ub y.2.2.length ud] := by rw [cgFcs_app]; rfl
      have e2 : cgFsb (M ++ [⟨y, .slice ua y.2.1.length uc, .slice ub y.2.2.length ud⟩]) = cgFsb M ++ [(.slice ua y.2.1.length uc, y.2.1), (.slice ub y.2.2.length ud, y.2.2)] := by rw [cgFsb_app]; rfl
      rw [e1, e2, List.length_append, List.length_singleton]
      exact hN2
    refine h v' w' hO2 ((Below.refl B w1).grown hg (by omega) (fun k hk => (owns_lt hN1.row k hk).1)) ?_
    obtain ⟨a, c, e⟩ := hO2.slice
    exact ⟨a, c, by rw [e, List.length_append, List.length_singleton]⟩
end Go.Proofs.Ytlncfeakcgjioaa
