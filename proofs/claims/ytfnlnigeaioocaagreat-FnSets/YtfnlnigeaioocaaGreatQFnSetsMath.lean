/- The law FnSets' plain facts: a text added beside its being taken out elsewhere stays; taken out after it was seen it goes. -/
import Derived.Test.YtfnlnigeaioocaaGreatQJoinLatToSetJoinImpl
import Derived.Test.YtfnlnigeaioocaaGreatQEntInsertToSetRemSpec
import Derived.Test.YtfnlnigeaioocaaGreatQElemMath
namespace Go.Proofs.YtfnlnigeaioocaaGreat
open Go.RowKit
set_option linter.unusedVariables false

theorem ad_zero {xs : List Int} {ls : List En} {c : Int} {s : ByteArray} (h : adC xs ls c s = 0) : okJ xs ls = true ∧ (0 ≤ c ∧ c < 16) ∧ s.size ≤ 200 ∧ ¬ xs.getD c.toNat 0 = 1000000000000 ∧ (without ls s).length + 1 ≤ 256 ∧ adV xs ls c s = xs.set c.toNat (xs.getD c.toNat 0 + 1) ∧ adE xs ls c s = insE (without ls s) (xs.getD c.toNat 0 + 1, c, s) := by
  unfold adC at h
  split at h
  · rename_i h1
    split at h
    · rename_i h2
      split at h
      · cases h
      · rename_i h3
        split at h
        · rename_i h4
          obtain ⟨_, e1, e2⟩ := ad_done h1 h2 h3 h4
          exact ⟨h1, h2.1, h2.2, h3, h4, e1, e2⟩
        · cases h
    · cases h
  · cases h
theorem rem_done {xs : List Int} {ls : List En} {s : ByteArray} (h : okJ xs ls = true) (hs : s.size ≤ 200) : remC xs ls s = 0 ∧ remV xs ls s = xs ∧ remE xs ls s = without ls s := by
  unfold remC remV remE
  rw [if_pos h, if_pos h, if_pos h, if_pos hs, if_pos hs, if_pos hs]
  exact ⟨rfl, rfl, rfl⟩
theorem without_mem {ls : List En} {s : ByteArray} {e : En} (h : e ∈ without ls s) : e ∈ ls ∧ e.2.2 ≠ s := by
  unfold without at h
  obtain ⟨h1, h2⟩ := List.mem_filter.1 h
  refine ⟨h1, fun e0 => ?_⟩
  rw [e0] at h2
  simp at h2
theorem okJ_without {xs : List Int} {ls : List En} (s : ByteArray) (h : okJ xs ls = true) : okJ xs (without ls s) = true :=
  okJ_of (vecOK_ofS h).1 (Nat.le_trans (without_len ls s) (vecOK_ofS h).2) (without_up s (okJ_up h)) fun e he => okJ_all' h e (without_mem he).1
theorem look_ins {L : List En} {e : En} (h : L.Pairwise upE) (hn : ∀ y ∈ L, ¬ (y.1 = e.1 ∧ y.2.1 = e.2.1)) (t a : Int) : look (insE L e) t a = if t = e.1 ∧ a = e.2.1 then some e.2.2 else look L t a := by
  have hu := insE_up h hn
  refine Option.ext fun s => ?_
  rw [← look_mem hu, (insE_perm L e).mem_iff, List.mem_append, List.mem_singleton]
  obtain ⟨e1, e2, e3⟩ := e
  simp only [Prod.mk.injEq]
  split
  · rename_i hs
    obtain ⟨rfl, rfl⟩ := hs
    constructor
    · rintro (hm | ⟨_, _, rfl⟩)
      · exact absurd ⟨rfl, rfl⟩ (hn _ hm)
      · rfl
    · intro hm
      exact .inr ⟨rfl, rfl, (Option.some.inj hm).symm⟩
  · rename_i hs
    rw [← look_mem h]
    exact ⟨fun hm => hm.resolve_right fun q => hs ⟨q.1, q.2.1⟩, .inl⟩
theorem look_free {xs : List Int} {L : List En} (h : okJ xs L = true) {t a : Int} (ht : xs.getD a.toNat 0 < t) : look L t a = none := by
  cases hl : look L t a with
  | none => rfl
  | some s => have := okJ_seen h hl; omega
theorem jnO_same (p : Option ByteArray) (x y : Prop) [Decidable x] [Decidable y] : jnO p p x y = p := by
  cases p with
  | none => rfl
  | some s => show some (mxT s s) = some s; rw [mxT_same]
theorem getD_set_I {xs : List Int} {k : Nat} (hk : k < xs.length) (v : Int) (j : Nat) : (xs.set k v).getD j 0 = if j = k then v else xs.getD j 0 := by
  simp only [List.getD_eq_getElem?_getD, List.getElem?_set]
  by_cases e : j = k
  · subst e
    simp [hk]
  · rw [if_neg (fun q => e q.symm), if_neg e]
/-- Behind an adding: the answer is valid, and so is what is left of it without the text. -/
theorem ad_valid {xs : List Int} {ls : List En} {c : Int} {s : ByteArray} (h : adC xs ls c s = 0) : okJ (adV xs ls c s) (adE xs ls c s) = true ∧ okJ (adV xs ls c s) (without ls s) = true := by
  obtain ⟨h1, hc, hs, hx, hl, e1, e2⟩ := ad_zero h
  have hv := (vecOK_ofS h1).1
  obtain ⟨h16, hr⟩ := vecOK_get hv
  have hk : c.toNat < xs.length := by omega
  have hg : xs.getD c.toNat 0 = xs[c.toNat] := by simp [List.getD_eq_getElem?_getD, hk]
  have hr1 := hr _ hk
  rw [← hg] at hr1
  have hv2 : vecOK (xs.set c.toNat (xs.getD c.toNat 0 + 1)) = true := by
    refine vecOK_all (by rw [List.length_set]; exact h16) fun k hk2 => ?_
    unfold cOK
    refine decide_eq_true ?_
    rw [List.length_set] at hk2
    rw [List.getElem_set]
    split
    · omega
    · exact hr _ hk2
  have hw := okJ_all' (okJ_without s h1)
  have hall : ∀ e ∈ without ls s, stOK e.1 e.2.1 = true ∧ e.2.2.size ≤ 200 ∧ e.1 ≤ (xs.set c.toNat (xs.getD c.toNat 0 + 1)).getD e.2.1.toNat 0 := by
    intro e he
    obtain ⟨q1, q2, q3⟩ := hw e he
    refine ⟨q1, q2, ?_⟩
    rw [getD_set_I hk]
    split
    · rename_i ee
      rw [ee] at q3
      omega
    · exact q3
  have hup := without_up s (okJ_up h1)
  have hn : ∀ y ∈ without ls s, ¬ (y.1 = xs.getD c.toNat 0 + 1 ∧ y.2.1 = c) := by
    rintro y hy ⟨y1, y2⟩
    have := (hw y hy).2.2
    rw [y1, y2] at this
    omega
  rw [e1, e2]
  constructor
  · refine okJ_of hv2 (by rw [insE_len]; exact hl) (insE_up hup hn) fun e he => ?_
    rcases List.mem_append.1 ((insE_perm _ _).mem_iff.1 he) with he | he
    · exact hall e he
    · rw [List.mem_singleton.1 he]
      refine ⟨stOK_yes (by omega) (by omega) hc.1 hc.2, hs, ?_⟩
      show xs.getD c.toNat 0 + 1 ≤ _
      rw [getD_set_I hk, if_pos rfl]
      exact Int.le_refl _
  · exact okJ_of hv2 (by omega) hup hall
/-- Joined with the one that took the text out and has not seen the adding: as it was added. Joined with the one that took it out behind the adding: without it. -/
theorem ad_join {xs : List Int} {ls : List En} {c : Int} {s : ByteArray} (h : adC xs ls c s = 0) : jnL (adV xs ls c s) xs (adE xs ls c s) (without ls s) = adE xs ls c s ∧ jnL (adV xs ls c s) (adV xs ls c s) (adE xs ls c s) (without ls s) = without ls s := by
  obtain ⟨hv1, hv2⟩ := ad_valid h
  obtain ⟨h1, hc, hs, hx, hl, e1, e2⟩ := ad_zero h
  have h16 := (vecOK_get (vecOK_ofS h1).1).1
  have hk : c.toNat < xs.length := by omega
  have hw := okJ_without s h1
  have hup := without_up s (okJ_up h1)
  have hn : ∀ y ∈ without ls s, ¬ (y.1 = xs.getD c.toNat 0 + 1 ∧ y.2.1 = c) := by
    rintro y hy ⟨y1, y2⟩
    have := (okJ_all' hw y hy).2.2
    rw [y1, y2] at this
    omega
  have hf : look (without ls s) (xs.getD c.toNat 0 + 1) c = none := look_free hw (by omega)
  have hin := fun t a => look_ins (e := (xs.getD c.toNat 0 + 1, c, s)) hup hn t a
  have hua := okJ_up hv1
  have hA : (adV xs ls c s).getD c.toNat 0 = xs.getD c.toNat 0 + 1 := by rw [e1, getD_set_I hk, if_pos rfl]
  rw [← e2] at hin
  constructor
  · refine look_ext (jnL_pw hua hup) hua fun t a => ?_
    rw [jn_look hua hup, hin]
    split
    · rename_i ht
      obtain ⟨rfl, rfl⟩ := ht
      rw [hf]
      show (if _ then none else some s) = some s
      rw [if_neg (by omega)]
    · exact jnO_same _ _ _
  · refine look_ext (jnL_pw hua hup) hup fun t a => ?_
    rw [jn_look hua hup, hin]
    split
    · rename_i ht
      obtain ⟨rfl, rfl⟩ := ht
      rw [hf]
      show (if _ then none else some s) = none
      rw [if_pos (by rw [hA]; exact Int.le_refl _)]
    · exact jnO_same _ _ _
theorem without_ins {ls : List En} {s : ByteArray} (h : ls.Pairwise upE) (e : En) (he : e.2.2 = s) (hn : ∀ y ∈ without ls s, ¬ (y.1 = e.1 ∧ y.2.1 = e.2.1)) : without (insE (without ls s) e) s = without ls s := by
  refine up_ext (without_up s (insE_up (without_up s h) hn)) (without_up s h) fun x => ?_
  constructor
  · intro hx
    obtain ⟨q1, q2⟩ := without_mem hx
    rcases List.mem_append.1 ((insE_perm _ _).mem_iff.1 q1) with q | q
    · exact q
    · exact absurd (by rw [List.mem_singleton.1 q]; exact he) q2
  · intro hx
    unfold without
    refine List.mem_filter.2 ⟨(insE_perm _ _).mem_iff.2 (List.mem_append_left _ hx), ?_⟩
    unfold without at hx
    exact (List.mem_filter.1 hx).2
/-- All that the law's calls come to behind an adding that is done. -/
theorem fnSets_facts {xs : List Int} {ls : List En} {c : Int} {s : ByteArray} (h : adC xs ls c s = 0) :
    (remC xs ls s = 0 ∧ remV xs ls s = xs ∧ remE xs ls s = without ls s)
    ∧ (jnC (adV xs ls c s) (adE xs ls c s) xs (without ls s) = 0 ∧ okJ (jnV (adV xs ls c s) (adE xs ls c s) xs (without ls s)) (jnE (adV xs ls c s) (adE xs ls c s) xs (without ls s)) = true ∧ jnE (adV xs ls c s) (adE xs ls c s) xs (without ls s) = adE xs ls c s)
    ∧ (remC (adV xs ls c s) (adE xs ls c s) s = 0 ∧ remV (adV xs ls c s) (adE xs ls c s) s = adV xs ls c s ∧ remE (adV xs ls c s) (adE xs ls c s) s = without ls s)
    ∧ (jnC (adV xs ls c s) (adE xs ls c s) (adV xs ls c s) (without ls s) = 0 ∧ okJ (jnV (adV xs ls c s) (adE xs ls c s) (adV xs ls c s) (without ls s)) (jnE (adV xs ls c s) (adE xs ls c s) (adV xs ls c s) (without ls s)) = true ∧ jnE (adV xs ls c s) (adE xs ls c s) (adV xs ls c s) (without ls s) = without ls s) := by
  obtain ⟨hv1, hv2⟩ := ad_valid h
  obtain ⟨j1, j2⟩ := ad_join h
  obtain ⟨h1, hc, hs, hx, hl, e1, e2⟩ := ad_zero h
  have hw := okJ_without s h1
  have hlen := (vecOK_ofS hv1).2
  have hlen2 := (vecOK_ofS hw).2
  have hn : ∀ y ∈ without ls s, ¬ (y.1 = xs.getD c.toNat 0 + 1 ∧ y.2.1 = c) := by
    rintro y hy ⟨y1, y2⟩
    have := (okJ_all' hw y hy).2.2
    rw [y1, y2] at this
    omega
  have hwi : without (adE xs ls c s) s = without ls s := by
    rw [e2]
    exact without_ins (okJ_up h1) _ rfl hn
  obtain ⟨r0, r1, r2⟩ := rem_done hv1 hs
  rw [hwi] at r2
  have hl1 : (jnL (adV xs ls c s) xs (adE xs ls c s) (without ls s)).length ≤ 256 := by rw [j1]; exact hlen
  have hl2 : (jnL (adV xs ls c s) (adV xs ls c s) (adE xs ls c s) (without ls s)).length ≤ 256 := by rw [j2]; exact hlen2
  obtain ⟨a0, a1, a2⟩ := jn_done ⟨hv1, hw⟩ hl1
  obtain ⟨b0, b1, b2⟩ := jn_done ⟨hv1, hv2⟩ hl2
  refine ⟨rem_done h1 hs, ⟨a0, ?_, by rw [a2, j1]⟩, ⟨r0, r1, r2⟩, ⟨b0, ?_, by rw [b2, j2]⟩⟩
  · rw [a1, a2]
    exact jn_valid hv1 hw hl1
  · rw [b1, b2]
    exact jn_valid hv1 hv2 hl2
/-- The text is among the texts of the one, and not among those of the other. -/
theorem fnSets_texts {xs : List Int} {ls : List En} {c : Int} {s : ByteArray} (h : adC xs ls c s = 0) : s.data.toList ∈ (adE xs ls c s).map (fun e => e.2.2.data.toList) ∧ s.data.toList ∉ (without ls s).map (fun e => e.2.2.data.toList) := by
  obtain ⟨h1, hc, hs, hx, hl, e1, e2⟩ := ad_zero h
  constructor
  · rw [e2]
    exact List.mem_map.2 ⟨_, (insE_perm _ _).mem_iff.2 (List.mem_append_right _ (List.mem_singleton.2 rfl)), rfl⟩
  · intro hm
    obtain ⟨e, he, q⟩ := List.mem_map.1 hm
    exact (without_mem he).2 (by
      have hq : e.2.2.data = s.data := Array.toList_inj.1 q
      cases e with | mk e1 e23 => cases e23 with | mk e2 e3 => cases e3; cases s; cases hq; rfl)

end Go.Proofs.YtfnlnigeaioocaaGreat
