/- The laws' own functions over lists of changes: the writing over. No condition: they are lemmas. -/
import Derived.Test.YtlncfeakcgjioaaChangeNestA
namespace Go.Proofs.Ytlncfeakcgjioaa
open Go.RowKit
set_option linter.unusedVariables false

/-- What is written over these changes, from q on; where it ends. -/
def mkCg : Nat → List Cg → List Cg
  | _, [] => []
  | q, x :: r => (mt q, marksT (q + 1) x.2.1.length, marksT (q + 1 + x.2.1.length) x.2.2.length) :: mkCg (q + 1 + x.2.1.length + x.2.2.length) r
def endCg : Nat → List Cg → Nat
  | q, [] => q
  | q, x :: r => endCg (q + 1 + x.2.1.length + x.2.2.length) r
theorem endCg_ge : ∀ (q : Nat) (P : List Cg), q ≤ endCg q P
  | q, [] => Nat.le_refl _
  | q, x :: r => by
    have := endCg_ge (q + 1 + x.2.1.length + x.2.2.length) r
    rw [endCg]
    omega
theorem mkCg_len : ∀ (q : Nat) (P : List Cg), (mkCg q P).length = P.length
  | q, [] => rfl
  | q, x :: r => by rw [mkCg, List.length_cons, mkCg_len _ r, List.length_cons]

set_option maxHeartbeats 4000000 in
set_option maxRecDepth 100000 in
theorem markChangeS_any (B E : Nat) (w : World) (v : Value) (P : List Cg) (q : Nat) (hq : endCg q P ≤ 4398046511104) (hd : ∀ x ∈ P, x.2.1.length ≤ 1048576 ∧ x.2.2.length ≤ 1048576) (hB : B ≤ w.heap.size) (ho : OwCg w B E v P) :
    Calls Try.prog 15 #[v, .int .i64 (q : Int)] w fun e w' => e = .returned (.int .i64 ((endCg q P : Nat) : Int)) ∧ OwCg w' B E v (mkCg q P) ∧ Fr B E w w' := by
  obtain ⟨M, rfl, hN⟩ := ho
  obtain ⟨n, hn⟩ : ∃ n, M.length = n := ⟨_, rfl⟩
  obtain ⟨ao, c, rfl⟩ : ∃ ao c, v = .slice ao M.length c := by
    rcases ownM_shape hN.row with ⟨rfl, h0, _⟩ | ⟨g, c, rfl, _⟩
    · exact ⟨none, 0, by rw [h0]⟩
    · exact ⟨_, c, rfl⟩
  rw [hn] at hN ⊢
  have hnm : n ≤ maxLen := by
    rcases ownM_shape hN.row with ⟨_, h0, _⟩ | ⟨_, _, _, _, _, h1, h2⟩
    · omega
    · omega
  have HEND : Hid (endCg q (cgFx M) ≤ 4398046511104) := hq
  have H0 : Hid (Nest 51 3 w B E (.slice ao n c) n (cgFcs ([] ++ M)) (cgFsb ([] ++ M))) := hN
  have HD0 : Hid (∀ f ∈ M, f.x.2.1.length ≤ 1048576 ∧ f.x.2.2.length ≤ 1048576) := fun f hf => hd f.x (List.mem_map_of_mem hf)
  obtain ⟨FIN, HFIN⟩ : ∃ FIN, Hid (mkCg q (cgFx M) = FIN) := ⟨_, rfl⟩
  obtain ⟨en, HEN⟩ : ∃ en, Hid (endCg q (cgFx M) = en) := ⟨_, rfl⟩
  rw [HFIN.out, HEN.out]
  rw [HEN.out] at HEND
  clear hN hd hq
  go_enter Try.func15, Try.ntmps15
  go_wp2_with fail
  go_loopw [1, 5] (fun tq ti wr => ∃ (k cur : Nat) (A R : List CgF), ti = .int .i64 (k : Int) ∧ tq = .int .i64 (cur : Int) ∧ A.length = k ∧ k + R.length = n ∧ Hid (FIN = cgFx A ++ mkCg cur (cgFx R)) ∧ Hid (en = endCg cur (cgFx R)) ∧ Hid (∀ f ∈ R, f.x.2.1.length ≤ 1048576 ∧ f.x.2.2.length ≤ 1048576) ∧ Hid (Nest 51 3 wr B E (.slice ao n c) n (cgFcs (A ++ R)) (cgFsb (A ++ R))) ∧ Fr B E w wr) (fun _ ti _ => n - (intOf ti).toNat)
  case atStart => exact ⟨0, q, [], M, rfl, rfl, rfl, by omega, HFIN.out.symm, HEN.out.symm, HD0, H0, Fr.refl _ _ _⟩
  case round =>
    clear H0 HD0 HFIN HEN hn
    obtain ⟨k, cur, A, R, rfl, rfl, hA, hR, HF, HE, HD, HN, hFr⟩ := hrel
    by_cases hlt : k < n
    · obtain ⟨f, R, rfl⟩ : ∃ f R', R = f :: R' := by
        cases R with
        | nil => simp at hR; omega
        | cons f R' => exact ⟨f, R', rfl⟩
      obtain ⟨g, rfl⟩ : ∃ g, ao = some ⟨g, 0, none⟩ := by
        rcases ownM_shape HN.out.row with ⟨_, h0, _⟩ | ⟨g, c', e, _⟩
        · omega
        · simp only [Value.slice.injEq] at e
          exact ⟨g, e.1⟩
      obtain ⟨⟨xk, a, b⟩, u, v⟩ := f
      have hxl := HD.out _ (List.mem_cons_self ..)
      simp only at hxl
      have HD2 : Hid (∀ f ∈ R, f.x.2.1.length ≤ 1048576 ∧ f.x.2.2.length ≤ 1048576) := fun f hf => HD.out f (List.mem_cons_of_mem _ hf)
      have HF2 : Hid (FIN = cgFx (A ++ [⟨(mt cur, marksT (cur + 1) a.length, marksT (cur + 1 + a.length) b.length), u, v⟩]) ++ mkCg (cur + 1 + a.length + b.length) (cgFx R)) := by
        unfold Hid
        rw [HF.out, cgFx_app, List.append_assoc]
        rfl
      have HE2 : Hid (en = endCg (cur + 1 + a.length + b.length) (cgFx R)) := HE.out
      have hge := endCg_ge (cur + 1 + a.length + b.length) (cgFx R)
      rw [← HE2.out] at hge
      have hen := HEND.out
      have hcm : cur + 1 + a.length + b.length ≤ 4398046511104 := by omega
      have hsz := hFr.size
      have hsb : cgFsb (⟨(xk, a, b), u, v⟩ :: R) = (u, a) :: (v, b) :: cgFsb R := rfl
      have j0 : (0 : Int) ≤ (k : Int) := by omega
      have j1 : (k : Int) < (n : Int) := by omega
      have j2 : (k : Int) + 1 < 9223372036854775808 := by unfold maxLen at hnm; omega
      have jm : (cur : Int) + 1 < 9223372036854775808 := by omega
      rw [List.length_cons] at hR
      have HR : Hid (k + (R.length + 1) = n) := hR
      have hT := fun w => markText_any cur (by omega) w
      generalize mt cur = tx at hT HF2
      clear HF HE HD hge hen hR HEND
      go_wp2_with fail
      refine (hT _).mono ?_
      rintro e w1 ⟨rfl, hb1⟩
      clear hT
      replace HN : Hid (Nest 51 3 w1 B E (.slice (some ⟨g, 0, none⟩) n c) n (cgFcs (A ++ ⟨(xk, a, b), u, v⟩ :: R)) (cgFsb (A ++ ⟨(xk, a, b), u, v⟩ :: R))) := HN.out.below hb1
      replace hFr := hFr.trans (Fr.of_below hb1)
      have c0 := HN.out.cell (show (cgFcs (A ++ ⟨(xk, a, b), u, v⟩ :: R))[k * 3]? = some (.string xk) by rw [← hA]; exact cgFcs_get A ⟨(xk, a, b), u, v⟩ R 0 (by omega))
      have f0 := HN.out.free (k * 3)
      replace hFr := hFr.trans (HN.out.putFr (k * 3) (.string tx))
      replace HN : Hid (Nest 51 3 (w1.setCell ⟨g, k * 3, none⟩ (.string tx)) B E (.slice (some ⟨g, 0, none⟩) n c) n (cgFcs (A ++ ⟨(tx, a, b), u, v⟩ :: R)) (cgFsb A ++ (u, a) :: (v, b) :: cgFsb R)) := by
        have := HN.out.put (k * 3) (.string tx)
        rw [← hA, cgFcs_set, hA, cgFsb_app, hsb] at this
        exact this
      clear hb1 hsb
      have c1 := HN.out.cell (show (cgFcs (A ++ ⟨(tx, a, b), u, v⟩ :: R))[k * 3 + 1]? = some u by rw [← hA]; exact cgFcs_get A ⟨(tx, a, b), u, v⟩ R 1 (by omega))
      have ho1 := HN.out.sub (u, a) (List.mem_append_right _ (List.mem_cons_self ..))
      have hM1 := markStringS_any B _ u (a.map Value.string) (cur + 1) (by rw [List.length_map]; omega) (by omega) (by have := hFr.size; omega) ho1
      rw [List.length_map, show ((cur + 1 : Nat) : Int) = (cur : Int) + 1 by omega] at hM1
      obtain ⟨ua, uc, hue1⟩ := rd_slice (show Rd _ _ u (a.map Value.string) from ho1.rd)
      rw [hue1] at c1 hM1
      clear ho1
      go_wp2_with fail
      refine hM1.mono ?_
      rintro e v0 ⟨rfl, ho1, -, hg1⟩
      rw [← hue1] at ho1 hg1
      replace hFr := hFr.trans (HN.out.overFr (p := (u, a)) (List.mem_append_right _ (List.mem_cons_self ..)) hg1)
      replace HN : Hid (Nest 51 3 v0 B E (.slice (some ⟨g, 0, none⟩) n c) n (cgFcs (A ++ ⟨(tx, a, b), u, v⟩ :: R)) (cgFsb A ++ (u, marksT (cur + 1) a.length) :: (v, b) :: cgFsb R)) := HN.out.over ho1 hg1
      clear c1 hM1 ho1 hg1 hue1 c0 f0
      replace HN : Hid (Nest 51 3 v0 B E (.slice (some ⟨g, 0, none⟩) n c) n (cgFcs (A ++ ⟨(tx, a, b), u, v⟩ :: R)) ((cgFsb A ++ [(u, marksT (cur + 1) a.length)]) ++ (v, b) :: cgFsb R)) := by
        have := HN.out
        rw [List.append_assoc]
        exact this
      rw [show (((cur + 1 + a.length : Nat)) : Int) = (cur : Int) + 1 + (a.length : Int) by omega]
      have c2 := HN.out.cell (show (cgFcs (A ++ ⟨(tx, a, b), u, v⟩ :: R))[k * 3 + 2]? = some v by rw [← hA]; exact cgFcs_get A ⟨(tx, a, b), u, v⟩ R 2 (by omega))
      have ho2 := HN.out.sub (v, b) (List.mem_append_right _ (List.mem_cons_self ..))
      have hM2 := markStringS_any B _ v (b.map Value.string) (cur + 1 + a.length) (by rw [List.length_map]; omega) (by omega) (by have := hFr.size; omega) ho2
      rw [List.length_map, show ((cur + 1 + a.length : Nat) : Int) = (cur : Int) + 1 + (a.length : Int) by omega] at hM2
      obtain ⟨va, vc, hue2⟩ := rd_slice (show Rd _ _ v (b.map Value.string) from ho2.rd)
      rw [hue2] at c2 hM2
      clear ho2
      go_wp2_with fail
      refine hM2.mono ?_
      rintro e v1 ⟨rfl, ho2, -, hg2⟩
      rw [← hue2] at ho2 hg2
      replace hFr := hFr.trans (HN.out.overFr (p := (v, b)) (List.mem_append_right _ (List.mem_cons_self ..)) hg2)
      replace HN : Hid (Nest 51 3 v1 B E (.slice (some ⟨g, 0, none⟩) n c) n (cgFcs (A ++ ⟨(tx, a, b), u, v⟩ :: R)) ((cgFsb A ++ [(u, marksT (cur + 1) a.length)]) ++ (v, marksT (cur + 1 + a.length) b.length) :: cgFsb R)) := HN.out.over ho2 hg2
      clear c2 hM2 ho2 hg2 hue2 
      replace HN : Hid (Nest 51 3 v1 B E (.slice (some ⟨g, 0, none⟩) n c) n (cgFcs ((A ++ [⟨(tx, marksT (cur + 1) a.length, marksT (cur + 1 + a.length) b.length), u, v⟩]) ++ R)) (cgFsb ((A ++ [⟨(tx, marksT (cur + 1) a.length, marksT (cur + 1 + a.length) b.length), u, v⟩]) ++ R))) := by
        have := HN.out
        rw [List.append_assoc] at this
        have e1 : cgFcs (A ++ ⟨(tx, a, b), u, v⟩ :: R) = cgFcs ((A ++ [⟨(tx, marksT (cur + 1) a.length, marksT (cur + 1 + a.length) b.length), u, v⟩]) ++ R) := by rw [List.append_assoc, cgFcs_app, cgFcs_app]; rfl
        have e2 : cgFsb ((A ++ [⟨(tx, marksT (cur + 1) a.length, marksT (cur + 1 + a.length) b.length), u, v⟩]) ++ R) = cgFsb A ++ ((u, marksT (cur + 1) a.length) :: (v, marksT (cur + 1 + a.length) b.length) :: cgFsb R) := by rw [List.append_assoc, cgFsb_app]; rfl
        rw [e1] at this
        show Nest 51 3 v1 B E (.slice (some ⟨g, 0, none⟩) n c) n (cgFcs ((A ++ [⟨(tx, marksT (cur + 1) a.length, marksT (cur + 1 + a.length) b.length), u, v⟩]) ++ R)) (cgFsb ((A ++ [⟨(tx, marksT (cur + 1) a.length, marksT (cur + 1 + a.length) b.length), u, v⟩]) ++ R))
        rw [e2]
        exact this
      go_wp2_with fail
      go_roundw
      case rel => exact ⟨k + 1, cur + 1 + a.length + b.length, A ++ [⟨(tx, marksT (cur + 1) a.length, marksT (cur + 1 + a.length) b.length), u, v⟩], R, by go_num, by go_num, by rw [List.length_append, hA]; rfl, by have := HR.out; omega, HF2, HE2, HD2, HN, hFr⟩
      case measure => simp [intOf]; omega
    · have hR0 : R = [] := List.eq_nil_of_length_eq_zero (by omega)
      subst hR0
      obtain rfl : k = n := by simp at hR; omega
      have HO : Hid (OwCg wr B E (.slice ao k c) FIN) := ⟨A, by rw [HF.out]; simp [cgFx, mkCg], by have := HN.out; rw [List.append_nil] at this; rw [hA]; exact this⟩
      have HE2 : Hid (en = cur) := HE.out
      go_wp2_with fail
      go_ret
      exact ⟨by rw [HE2.out]; rfl, HO.out, hFr⟩
end Go.Proofs.Ytlncfeakcgjioaa
