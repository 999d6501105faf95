/- The walk of the law FnSets: it answers true at all bytes. -/
import Derived.Test.YtfnlnigeaioocaaGreatQDrawSetAdd
import Derived.Test.YtfnlnigeaioocaaGreatQFnSetsMath
import Derived.Test.YtfnlnigeaioocaaGreatQSetRemImplToFindMath
import Derived.Test.YtfnlnigeaioocaaGreatQJoinLatToSetJoinImpl
import Derived.Test.YtfnlnigeaioocaaGreatQSetElemImpl
import Derived.Test.YtfnlnigeaioocaaGreatQFrame
namespace Go.Proofs.YtfnlnigeaioocaaGreat
open Go.RowKit
set_option linter.unusedVariables false

/-- A variable that holds a value which can be read. -/
def Vr (w : World) (n : Nat) (x y : Value) (xs : List Int) (ls : List En) : Prop := Dy w n x y ∧ Rd w.heap.size w x (xs.map (Value.int .i64)) ∧ RdE w.heap.size w y ls
theorem vrOn {w w' : World} {n : Nat} {x y : Value} {xs : List Int} {ls : List En} (h : Hid (Vr w n x y xs ls)) (hb : Below w.heap.size w w') : Hid (Vr w' n x y xs ls) := ⟨h.out.1.on hb, rd_gr h.out.2.1 (grownBy_below hb (Nat.le_refl _) none) (fun _ _ _ _ => by simp), rdE_gr h.out.2.2 (grownBy_below hb (Nat.le_refl _) none) (fun _ _ _ _ => by simp)⟩
theorem vrMade {g z : World} {B E : Nat} {x y : Value} {T : TypeId} {xs : List Int} {ls : List En} (S : Sv g B E x y xs ls) (h : g.alloc (.cells #[x, y] T) = z) : Hid (Vr z g.heap.size x y xs ls) := by
  rw [← h]
  exact ⟨Dy.made g x y T, (S.alloc _).rd, (S.alloc _).rdE⟩
theorem vrMadeR {g z : World} {x y : Value} {T : TypeId} {xs : List Int} {ls : List En} (h1 : Rd g.heap.size g x (xs.map (Value.int .i64))) (h2 : RdE g.heap.size g y ls) (h : g.alloc (.cells #[x, y] T) = z) : Hid (Vr z g.heap.size x y xs ls) := by
  have hb : Below g.heap.size g z := by rw [← h]; exact below_alloc _ _
  refine ⟨?_, rd_gr h1 (grownBy_below hb (Nat.le_refl _) none) (fun _ _ _ _ => by simp), rdE_gr h2 (grownBy_below hb (Nat.le_refl _) none) (fun _ _ _ _ => by simp)⟩
  rw [← h]
  exact Dy.made g x y T
theorem onMade {w g z : World} {o : Obj} (hb : Below w.heap.size w g) (h : g.alloc o = z) : Below w.heap.size w z := by
  rw [← h]
  exact below_then hb _
theorem strs_back (T : List TxB) : T.map encStr = (T.map fun l => (⟨l.toArray⟩ : ByteArray)).map Value.string := by
  simp [encStr]
theorem elems_of {xs : List Int} {ls : List En} (h : okJ xs ls = true) : elemsC xs ls = 0 ∧ (elemsB xs ls).Pairwise (· < ·) ∧ (∀ y, y ∈ elemsB xs ls ↔ y ∈ ls.map fun e => e.2.2.data.toList) ∧ (elemsB xs ls).length ≤ 256 := by
  have h1 : elemsB xs ls = insAll (textsE ls) := by unfold elemsB; rw [if_pos h, compact_sort]
  refine ⟨by unfold elemsC; rw [if_pos h], ?_, ?_, ?_⟩
  · rw [h1]; exact (insAll_facts _).1
  · rw [h1]; exact (insAll_facts _).2
  · rw [h1]
    refine Nat.le_trans (insAll_len _) ?_
    unfold textsE
    rw [List.length_map]
    exact (vecOK_ofS h).2
/-- What a call that tells the texts answers: the code 0 and these texts, in a row of its own. -/
def ElAns (T : List ByteArray) (w : World) (e : Ending) (w' : World) : Prop := ∃ r, e = .returned (.tuple #[r, .int .i64 0]) ∧ Own 9 w' w.heap.size r (T.map Value.string) ∧ Below w.heap.size w w'
/-- Neighbours of these texts rise; in the walk's words. -/
def Ups (T : List ByteArray) : Prop := ∀ p (h : p + 1 < T.length), Op.bytesLess (T[p]).toList (T[p + 1]).toList = true ∧ Op.bytesLess (T[p + 1]).toList (T[p]).toList = false ∧ ((T[p + 1]).toList == (T[p]).toList) = false
theorem back_data (l : TxB) : (⟨l.toArray⟩ : ByteArray).toList = l := by rw [Lib.toList_data]
theorem ups_of {T : List TxB} (h : T.Pairwise (· < ·)) : Ups (T.map fun l => (⟨l.toArray⟩ : ByteArray)) := by
  intro p hp
  have hp' : p + 1 < T.length := by simpa using hp
  have hlt : T[p] < T[p + 1] := List.pairwise_iff_getElem.1 h p (p + 1) (by omega) hp' (by omega)
  simp only [List.getElem_map, back_data]
  refine ⟨?_, ?_, ?_⟩
  · rw [bytesLess_eq]; simpa using hlt
  · rw [bytesLess_eq]
    have : ¬ T[p + 1] < T[p] := fun q => b_irr _ (b_trans hlt q)
    simpa using this
  · have : T[p + 1] ≠ T[p] := fun q => b_irr _ (q ▸ hlt)
    simpa using this
/-- The text is among these; in the walk's words. -/
def has (T : List ByteArray) (s : ByteArray) : Bool := T.any fun y => y.toList == s.toList
theorem has_of (T : List TxB) (s : ByteArray) : has (T.map fun l => (⟨l.toArray⟩ : ByteArray)) s = decide (s.data.toList ∈ T) := by
  unfold has
  rw [Bool.eq_iff_iff, List.any_eq_true, decide_eq_true_eq]
  constructor
  · rintro ⟨y, hy, he⟩
    obtain ⟨l, hl, rfl⟩ := List.mem_map.1 hy
    rw [back_data, beq_iff_eq, Lib.toList_data] at he
    rw [← he]
    exact hl
  · intro hm
    exact ⟨_, List.mem_map.2 ⟨_, hm, rfl⟩, by rw [back_data, beq_iff_eq]⟩
theorem has_step {T : List ByteArray} {s : ByteArray} {q : Nat} (hq : q < T.length) : has (T.take (q + 1)) s = (has (T.take q) s || (T[q].toList == s.toList)) := by
  unfold has
  rw [List.take_succ_eq_append_getElem hq, List.any_append]
  simp
theorem has_not {T : List ByteArray} {s : ByteArray} (h : has T s = false) {q : Nat} (hq : q < T.length) : (T[q].toList == s.toList) = false := by
  unfold has at h
  rw [List.any_eq_false] at h
  simpa using h _ (List.getElem_mem hq)

/-- All calls behind an adding that is done, in plain letters. -/
theorem fnSets_all {xs : List Int} {ls : List En} {c : Int} {s : ByteArray} (hs : s.size ≤ 9223372036854775807) (h : adC xs ls c s = 0) : ∃ (L : List En) (J K : List Int) (T1 T2 : List ByteArray),
    (∀ C w v ve, C ≤ w.heap.size → Rd C w v (xs.map (Value.int .i64)) → RdE C w ve ls → Calls Tryz.prog 7 #[.agg #[v, ve], .string s] w (SvAns xs L 0 w))
    ∧ (∀ C w v ve v' ve', C ≤ w.heap.size → Rd C w v ((adV xs ls c s).map (Value.int .i64)) → RdE C w ve (adE xs ls c s) → Rd C w v' (xs.map (Value.int .i64)) → RdE C w ve' L → Calls Tryz.prog 8 #[.agg #[v, ve], .agg #[v', ve']] w (SvAns J (adE xs ls c s) 0 w))
    ∧ (∀ C w v ve, C ≤ w.heap.size → Rd C w v ((adV xs ls c s).map (Value.int .i64)) → RdE C w ve (adE xs ls c s) → Calls Tryz.prog 7 #[.agg #[v, ve], .string s] w (SvAns (adV xs ls c s) L 0 w))
    ∧ (∀ C w v ve v' ve', C ≤ w.heap.size → Rd C w v ((adV xs ls c s).map (Value.int .i64)) → RdE C w ve (adE xs ls c s) → Rd C w v' ((adV xs ls c s).map (Value.int .i64)) → RdE C w ve' L → Calls Tryz.prog 8 #[.agg #[v, ve], .agg #[v', ve']] w (SvAns K L 0 w))
    ∧ (∀ C w v ve, C ≤ w.heap.size → Rd C w v (J.map (Value.int .i64)) → RdE C w ve (adE xs ls c s) → Calls Tryz.prog 9 #[.agg #[v, ve]] w (ElAns T1 w))
    ∧ (∀ C w v ve, C ≤ w.heap.size → Rd C w v (K.map (Value.int .i64)) → RdE C w ve L → Calls Tryz.prog 9 #[.agg #[v, ve]] w (ElAns T2 w))
    ∧ Ups T1 ∧ has T1 s = true ∧ has T2 s = false ∧ T1.length ≤ 256 ∧ T2.length ≤ 256 := by
  obtain ⟨⟨a0, a1, a2⟩, ⟨b0, b1, b2⟩, ⟨d0, d1, d2⟩, ⟨f0, f1, f2⟩⟩ := fnSets_facts h
  obtain ⟨t1, t2⟩ := fnSets_texts h
  rw [b2] at b1
  rw [f2] at f1
  obtain ⟨m0, m1, m2, m3⟩ := elems_of b1
  obtain ⟨n0, n1, n2, n3⟩ := elems_of f1
  refine ⟨without ls s, jnV (adV xs ls c s) (adE xs ls c s) xs (without ls s), jnV (adV xs ls c s) (adE xs ls c s) (adV xs ls c s) (without ls s), (elemsB (jnV (adV xs ls c s) (adE xs ls c s) xs (without ls s)) (adE xs ls c s)).map (fun l => (⟨l.toArray⟩ : ByteArray)), (elemsB (jnV (adV xs ls c s) (adE xs ls c s) (adV xs ls c s) (without ls s)) (without ls s)).map (fun l => (⟨l.toArray⟩ : ByteArray)), ?_, ?_, ?_, ?_, ?_, ?_, ups_of m1, ?_, ?_, ?_, ?_⟩
  · intro C w v ve hC hv he
    have := implSetRemove_any C w v ve xs ls s hs hC hv he
    rw [a0, a1, a2] at this
    exact this
  · intro C w v ve v' ve' hC hv he hv' he'
    have := implSetJoin_any C w v ve v' ve' _ _ _ _ hC hv he hv' he'
    rw [b0, b2] at this
    exact this
  · intro C w v ve hC hv he
    have := implSetRemove_any C w v ve _ _ s hs hC hv he
    rw [d0, d1, d2] at this
    exact this
  · intro C w v ve v' ve' hC hv he hv' he'
    have := implSetJoin_any C w v ve v' ve' _ _ _ _ hC hv he hv' he'
    rw [f0, f2] at this
    exact this
  · intro C w v ve hC hv he
    have := implSetElements_any C w v ve _ _ hC hv he
    rw [m0, strs_back] at this
    exact this
  · intro C w v ve hC hv he
    have := implSetElements_any C w v ve _ _ hC hv he
    rw [n0, strs_back] at this
    exact this
  · rw [has_of]
    exact decide_eq_true ((m2 _).2 t1)
  · rw [has_of]
    exact decide_eq_false fun q => t2 ((n2 _).1 q)
  · rw [List.length_map]; exact m3
  · rw [List.length_map]; exact n3

set_option maxHeartbeats 40000000 in
set_option maxRecDepth 100000 in
theorem lawFnSets_core (va : Value) (cs : List Int) (w : World) (ha : Rd w.heap.size w va (cs.map (Value.int .u8))) (hX : ∀ x ∈ cs, 0 ≤ x ∧ x ≤ 255) :
    Calls Tryz.prog 3 #[va] w fun e w' => e = .returned (.bool true) ∧ Below w.heap.size w w' := by
  obtain ⟨ao, ac, hva, _⟩ := id ha
  rw [List.length_map] at hva
  subst hva
  have hB := Below.refl w.heap.size w
  by_cases hca : cs.length ≤ 1048576
  · have i0 : ¬ (1048576 : Int) < (cs.length : Int) := by omega
    have HA : Hid (Rd w.heap.size w (.slice ao cs.length ac) (cs.map (Value.int .u8))) := ha
    have HX : Hid (∀ x ∈ cs, 0 ≤ x ∧ x ≤ 255) := hX
    have HL : Hid (cs.length ≤ 1048576) := hca
    clear ha hX hca
    go_enter Tryz.func3, Tryz.ntmps3
    go_wp2_with fail
    (try clear hv)
    refine (drawSetAdd_any w.heap.size _ _ cs hB.size (HA.out.belowW hB (Nat.le_refl _)) HX.out HL.out).mono ?_
    rintro e g1 ⟨Aa, Ab, Ac, Ad, Ae, Af, _, _, _, _, _, _, c, s, rfl, hs, T1, hb1⟩
    obtain ⟨⟨xs, lxs, r1a⟩, ⟨ls, lls, r1b⟩, _, _, _, _, _, _⟩ := T1
    obtain ⟨v1, hv⟩ : ∃ z, g1.alloc (.cells #[.slice Aa Ab Ac, .slice Ad Ae Af] 28) = z := ⟨_, rfl⟩
    have VS : Hid (Vr v1 g1.heap.size (.slice Aa Ab Ac) (.slice Ad Ae Af) xs ls) := vrMadeR r1a.rd r1b.rd hv
    have hz1 := onMade hb1 hv
    replace hB := below_seq hB hz1
    clear hb1 hz1 r1a r1b lxs lls
    have HS9 : Hid (s.size ≤ 9223372036854775807) := Nat.le_trans hs (by decide)
    clear hs
    have hI := fun C w v ve hC hv he => implSetAdd_any C w v ve xs ls c s HS9.out hC hv he
    have hP := fun C w v ve hC hv he => specSetAdd_any C w v ve xs ls c s HS9.out hC hv he
    unfold SvAns at hI hP
    have HALL : Hid (adC xs ls c s = 0 → _) := fnSets_all HS9.out
    generalize adV xs ls c s = A at *
    generalize adE xs ls c s = E at *
    generalize adC xs ls c s = k at *
    obtain ⟨⟨c0, d0⟩, _⟩ := VS.out.1
    go_wp2_with fail
    (try clear hv)
    refine (hI _ _ _ _ (Nat.le_refl _) VS.out.2.1 VS.out.2.2).mono ?_
    rintro e g2 ⟨x2, y2, rfl, S2, hb2⟩
    obtain ⟨Da, Db, Dc, Dd, De, Df, rfl, rfl⟩ := S2.shape
    obtain ⟨v2, hv⟩ : ∃ z, g2.alloc (.cells #[.slice Da Db Dc, .slice Dd De Df] 28) = z := ⟨_, rfl⟩
    have VA : Hid (Vr v2 g2.heap.size (.slice Da Db Dc) (.slice Dd De Df) A E) := vrMade S2 hv
    have hz2 := onMade hb2 hv
    replace hB := below_seq hB hz2
    replace VS := vrOn VS hz2
    clear hb2 S2 hz2 c0 d0
    obtain ⟨⟨c0, d0⟩, _⟩ := VS.out.1
    go_wp2_with fail
    (try clear hv)
    refine (hP _ _ _ _ (Nat.le_refl _) VS.out.2.1 VS.out.2.2).mono ?_
    rintro e g3 ⟨x3, y3, rfl, S3, hb3⟩
    obtain ⟨Ea, Eb, Ec, Ed, Ee, Ef, rfl, rfl⟩ := S3.shape
    obtain ⟨v3, hv⟩ : ∃ z, g3.alloc (.cells #[.slice Ea Eb Ec, .slice Ed Ee Ef] 28) = z := ⟨_, rfl⟩
    have hz3 := onMade hb3 hv
    replace hB := below_seq hB hz3
    replace VS := vrOn VS hz3
    replace VA := vrOn VA hz3
    clear hb3 S3 hz3 c0 d0
    clear hI hP
    by_cases hk : k = 0
    · subst hk
      obtain ⟨L, J, K, T1, T2, hr1, hj1, hr2, hj2, he1, he2, hup, hin, hout, hl1, hl2⟩ := HALL.out rfl
      clear HALL
      unfold SvAns at hr1 hj1 hr2 hj2
      unfold ElAns at he1 he2
      have HUP : Hid (Ups T1) := hup
      have HIN : Hid (has T1 s = true) := hin
      have HOUT : Hid (has T2 s = false) := hout
      clear hup hin hout
      obtain ⟨⟨c0, d0⟩, _⟩ := VS.out.1
      go_wp2_with fail
      (try clear hv)
      refine (hr1 _ _ _ _ (Nat.le_refl _) VS.out.2.1 VS.out.2.2).mono ?_
      rintro e g4 ⟨x4, y4, rfl, S4, hb4⟩
      obtain ⟨Fa, Fb, Fc, Fd, Fe, Ff, rfl, rfl⟩ := S4.shape
      obtain ⟨v4, hv⟩ : ∃ z, g4.alloc (.cells #[.slice Fa Fb Fc, .slice Fd Fe Ff] 28) = z := ⟨_, rfl⟩
      have VB : Hid (Vr v4 g4.heap.size (.slice Fa Fb Fc) (.slice Fd Fe Ff) xs L) := vrMade S4 hv
      have hz4 := onMade hb4 hv
      replace hB := below_seq hB hz4
      replace VS := vrOn VS hz4
      replace VA := vrOn VA hz4
      clear hb4 S4 hz4 c0 d0
      obtain ⟨⟨c0, d0⟩, _⟩ := VA.out.1
      obtain ⟨⟨c1, d1⟩, _⟩ := VB.out.1
      go_wp2_with fail
      (try clear hv)
      refine (hj1 _ _ _ _ _ _ (Nat.le_refl _) VA.out.2.1 VA.out.2.2 VB.out.2.1 VB.out.2.2).mono ?_
      rintro e g5 ⟨x5, y5, rfl, S5, hb5⟩
      obtain ⟨Ga, Gb, Gc, Gd, Ge, Gf, rfl, rfl⟩ := S5.shape
      obtain ⟨v5, hv⟩ : ∃ z, g5.alloc (.cells #[.slice Ga Gb Gc, .slice Gd Ge Gf] 28) = z := ⟨_, rfl⟩
      have VJ : Hid (Vr v5 g5.heap.size (.slice Ga Gb Gc) (.slice Gd Ge Gf) J E) := vrMade S5 hv
      have hz5 := onMade hb5 hv
      replace hB := below_seq hB hz5
      replace VS := vrOn VS hz5
      replace VA := vrOn VA hz5
      replace VB := vrOn VB hz5
      clear hb5 S5 hz5 c0 d0 c1 d1
      obtain ⟨⟨c0, d0⟩, _⟩ := VA.out.1
      go_wp2_with fail
      (try clear hv)
      refine (hr2 _ _ _ _ (Nat.le_refl _) VA.out.2.1 VA.out.2.2).mono ?_
      rintro e g6 ⟨x6, y6, rfl, S6, hb6⟩
      obtain ⟨Ha, Hb, Hc, Hd, He, Hf, rfl, rfl⟩ := S6.shape
      obtain ⟨v6, hv⟩ : ∃ z, g6.alloc (.cells #[.slice Ha Hb Hc, .slice Hd He Hf] 28) = z := ⟨_, rfl⟩
      have VC : Hid (Vr v6 g6.heap.size (.slice Ha Hb Hc) (.slice Hd He Hf) A L) := vrMade S6 hv
      have hz6 := onMade hb6 hv
      replace hB := below_seq hB hz6
      replace VS := vrOn VS hz6
      replace VA := vrOn VA hz6
      replace VB := vrOn VB hz6
      replace VJ := vrOn VJ hz6
      clear hb6 S6 hz6 c0 d0
      obtain ⟨⟨c0, d0⟩, _⟩ := VA.out.1
      obtain ⟨⟨c1, d1⟩, _⟩ := VC.out.1
      go_wp2_with fail
      (try clear hv)
      refine (hj2 _ _ _ _ _ _ (Nat.le_refl _) VA.out.2.1 VA.out.2.2 VC.out.2.1 VC.out.2.2).mono ?_
      rintro e g7 ⟨x7, y7, rfl, S7, hb7⟩
      obtain ⟨Ia, Ib, Ic, Id, Ie, If, rfl, rfl⟩ := S7.shape
      obtain ⟨v7, hv⟩ : ∃ z, g7.alloc (.cells #[.slice Ia Ib Ic, .slice Id Ie If] 28) = z := ⟨_, rfl⟩
      have VK : Hid (Vr v7 g7.heap.size (.slice Ia Ib Ic) (.slice Id Ie If) K L) := vrMade S7 hv
      have hz7 := onMade hb7 hv
      replace hB := below_seq hB hz7
      replace VS := vrOn VS hz7
      replace VA := vrOn VA hz7
      replace VB := vrOn VB hz7
      replace VJ := vrOn VJ hz7
      replace VC := vrOn VC hz7
      clear hb7 S7 hz7 c0 d0 c1 d1
      clear hr1 hj1 hr2 hj2
      obtain ⟨⟨c0, d0⟩, _⟩ := VJ.out.1
      go_wp2_with fail
      (try clear hv)
      refine (he1 _ _ _ _ (Nat.le_refl _) VJ.out.2.1 VJ.out.2.2).mono ?_
      rintro e g8 ⟨p1, rfl, O1, hb8⟩
      replace hB := below_seq hB hb8
      replace VK := vrOn VK hb8
      have R1 := O1.rd
      clear hb8 O1 c0 d0 he1 VJ VA VB VC VS
      obtain ⟨⟨c0, d0⟩, _⟩ := VK.out.1
      go_wp2_with fail
      refine (he2 _ _ _ _ (Nat.le_refl _) VK.out.2.1 VK.out.2.2).mono ?_
      rintro e g9 ⟨p2, rfl, O2, hb9⟩
      replace hB := below_seq hB hb9
      replace R1 := R1.belowW hb9 (Nat.le_refl _)
      have R2 := O2.rd
      clear hb9 O2 c0 d0 he2 VK HS9 HA HX HL
      obtain ⟨o1, k1, rfl, _, _, _, R1⟩ := R1
      obtain ⟨o2, k2, rfl, _, _, _, R2⟩ := R2
      rw [List.length_map] at R1 R2 ⊢
      rw [List.length_map]
      have HR1 : Hid _ := R1
      have HR2 : Hid _ := R2
      clear R1 R2
      go_wp2_with fail
      go_loopw [22, 23] (fun tf ti wr => ∃ q : Nat, q ≤ T1.length ∧ tf = .bool (has (T1.take q) s) ∧ ti = .int .i64 (q : Int) ∧ ∃ n, wr = g9.drewN n) (fun _ ti _ => T1.length - (intOf ti).toNat)
      case atStart => exact ⟨0, Nat.zero_le _, rfl, rfl, 0, rfl⟩
      case round =>
        obtain ⟨q, hq, rfl, rfl, n, rfl⟩ := hrel
        by_cases hlt : q < T1.length
        · obtain ⟨g, off, ho, _, hc⟩ := HR1.out (by omega)
          subst ho
          have x0 := hc q (.string T1[q]) (by simp [hlt])
          have HST : Hid (has (T1.take (q + 1)) s = _) := has_step hlt
          have j0 : (0 : Int) ≤ (q : Int) := by omega
          have j1 : (q : Int) < (T1.length : Int) := by omega
          have j2 : (q : Int) + 1 < 9223372036854775808 := by omega
          generalize has (T1.take q) s = fq at HST ⊢
          by_cases hq0 : q = 0
          · have z0 : ¬ (0 : Int) < (q : Int) := by omega
            have z1 : ¬ 0 < q := by omega
            have z2 : decide (0 < q) = false := decide_eq_false z1
            generalize T1[q] = y at x0 HST
            clear hc hq0
            cases fq with
            | true =>
              go_wp2_with fail
              go_quiet (fail)
              go_wp2_with fail
              go_roundw
              case rel => exact ⟨q + 1, by omega, by rw [HST.out]; rfl, by go_num, _, rfl⟩
              case measure => simp [intOf]; omega
            | false =>
              go_wp2_with fail
              go_quiet (fail)
              go_wp2_with fail
              go_roundw
              case rel => exact ⟨q + 1, by omega, by rw [HST.out]; rfl, by go_num, _, rfl⟩
              case measure => simp [intOf]; omega
          · obtain ⟨p, hp⟩ : ∃ p, q = p + 1 := ⟨q - 1, by omega⟩
            have z0 : (0 : Int) < (q : Int) := by omega
            have z1 : 0 < q := by omega
            have hqp : (q : Int) - 1 = (p : Int) := by omega
            have x1 := hc p (.string T1[p]) (by simp [show p < T1.length by omega])
            have j4 : (0 : Int) ≤ (p : Int) := by omega
            have j5 : (p : Int) < (T1.length : Int) := by omega
            have j6 : (p : Int) < 9223372036854775808 := by omega
            obtain ⟨u1, u2, u3⟩ := HUP.out p (by omega)
            simp only [← hp] at u1 u2 u3
            generalize T1[q] = y at x0 u1 u2 u3 HST
            generalize T1[p] = z at x1 u1 u2 u3
            have HP1 : Hid (q = p + 1) := hp
            clear hc hq0 hp
            cases fq with
            | true =>
              go_wp2_with fail
              go_quiet (fail)
              go_wp2_with fail
              go_roundw
              case rel => exact ⟨q + 1, by omega, by rw [HST.out]; rfl, by go_num, _, rfl⟩
              case measure => simp [intOf]; omega
            | false =>
              go_wp2_with fail
              go_quiet (fail)
              go_wp2_with fail
              go_roundw
              case rel => exact ⟨q + 1, by omega, by rw [HST.out]; rfl, by go_num, _, rfl⟩
              case measure => simp [intOf]; omega
        · have j1 : ¬ (q : Int) < (T1.length : Int) := by omega
          have hfq : has (T1.take q) s = true := by
            rw [List.take_of_length_le (by omega)]
            exact HIN.out
          rw [hfq]
          clear hfq HIN HUP HR1
          go_wp2_with fail
          go_loopw [24] (fun ti wr => ∃ q : Nat, q ≤ T2.length ∧ ti = .int .i64 (q : Int) ∧ ∃ n', wr = g9.drewN n') (fun ti _ => T2.length - (intOf ti).toNat)
          case atStart => exact ⟨0, Nat.zero_le _, rfl, n, rfl⟩
          case round =>
            obtain ⟨m, hm, rfl, n2, rfl⟩ := hrel
            by_cases hlt2 : m < T2.length
            · obtain ⟨g, off, ho, _, hc⟩ := HR2.out (by omega)
              subst ho
              have x0 := hc m (.string T2[m]) (by simp [hlt2])
              have y0 := has_not HOUT.out hlt2
              generalize T2[m] = y at x0 y0
              have j0 : (0 : Int) ≤ (m : Int) := by omega
              have j1 : (m : Int) < (T2.length : Int) := by omega
              have j2 : (m : Int) + 1 < 9223372036854775808 := by omega
              clear hc
              go_wp2_with fail
              go_roundw
              case rel => exact ⟨m + 1, by omega, by go_num, _, rfl⟩
              case measure => simp [intOf]; omega
            · have j1 : ¬ (m : Int) < (T2.length : Int) := by omega
              go_wp2_with fail
              go_ret
              exact ⟨rfl, below_drewN hB _⟩
    · have e1 : (k == 0) = false := by simpa using hk
      go_wp2_with fail
      (try clear hv)
      go_ret
      exact ⟨rfl, hB⟩
  · have i0 : (1048576 : Int) < (cs.length : Int) := by omega
    go_enter Tryz.func3, Tryz.ntmps3
    go_wp2_with fail
    go_ret
    exact ⟨rfl, hB⟩
theorem lawFnSets_walk (a0 : Option Addr) (l0 c0 : Nat) (z0 : List Int) (w : World) (h0 : IsRow .u8 w a0 l0 c0 z0) :
    Calls Tryz.prog 3 #[.slice a0 l0 c0] w fun e w' => e = .returned (.bool true) ∧ Below w.heap.size w w' := lawFnSets_core _ _ w h0.rd.1 h0.bytes

end Go.Proofs.YtfnlnigeaioocaaGreat
