/- What the code's told and VecBytes do. -/
import Derived.Test.YtpiadcjkbbgggaaVecArr
import Derived.Test.YtpiadcjkbbgggaaVecMeets
import Derived.Test.YtpiadcjkbbgggaaNums
namespace Go.Proofs.Ytpiadcjkbbgggaa
open Go.RowKit
set_option linter.unusedVariables false

/-- How many counts are told; the bytes of the first ones. -/
def toldN (X : List Int) : Nat → Nat
  | 0 => 0
  | k + 1 => if X.getD k 0 = 0 then toldN X k else k + 1
def bytesTo (X : List Int) : Nat → List Int
  | 0 => []
  | k + 1 => bytesTo X k ++ enc (X.getD k 0).toNat
theorem toldN_le (X : List Int) : ∀ k, toldN X k ≤ k := by
  intro k
  induction k with
  | zero => exact Nat.le_refl _
  | succ k ih =>
    simp only [toldN]
    split <;> omega
theorem bytesTo_len (X : List Int) (h : ∀ k, (X.getD k 0).toNat < 9223372036854775808) : ∀ k, (bytesTo X k).length ≤ 10 * k := by
  intro k
  induction k with
  | zero => simp [bytesTo]
  | succ k ih =>
    have := enc_len (h k)
    simp only [bytesTo, List.length_append]
    omega
def vecB (xs : List Int) : List Int := if vecOK xs = true then bytesTo xs (toldN xs 16) else []
def vecC (xs : List Int) : Int := if vecOK xs = true then 0 else 1
theorem vec_get {xs : List Int} (h : vecOK xs = true) (k : Nat) : 0 ≤ xs.getD k 0 ∧ xs.getD k 0 ≤ 1000000000000 := by
  by_cases hk : k < xs.length
  · have := (vecOK_get h).2 k hk
    simpa [hk] using this
  · simp [hk]

set_option maxHeartbeats 1000000 in
theorem told_any (w : World) (X : List Int) (hx : X.length = 16) :
    Calls Try.prog 72 #[.agg (arrC X).toArray] w fun e w' => e = .returned (.int .i64 ((toldN X 16 : Nat) : Int)) ∧ Below w.heap.size w w' := by
  have HB := below_alloc w (.cells (arrC X).toArray 71)
  have hox := own_arr (block_made (Below.refl (w.alloc (.cells (arrC X).toArray 71)).heap.size _)) hx (Nat.le_refl _)
  have HC : Hid (∀ k, k < 16 → (w.alloc (.cells (arrC X).toArray 71)).cell? ⟨w.heap.size, k, none⟩ = some (.int .i64 (X.getD k 0))) := fun k hk => by
    rw [own_cell hox (k := k) (by rw [arrC_len, hx]; exact hk)]
    simp [arrC, show k < X.length by omega]
  clear hox
  go_enter Try.func72, Try.ntmps72
  go_wp2_with fail
  go_loop [3] (fun ti => ∃ s : Nat, s ≤ 16 ∧ ti = .int .i64 (s : Int) ∧ Hid (toldN X 16 = toldN X s)) (fun ti => (intOf ti).toNat)
  case atStart => exact ⟨16, Nat.le_refl _, rfl, rfl⟩
  case round =>
    obtain ⟨s, hs, rfl, HT⟩ := hrel
    cases s with
    | zero =>
      go_wp2_with fail
      go_ret
      exact ⟨by rw [HT.out]; rfl, HB⟩
    | succ s =>
      have c1 := HC.out s (by omega)
      have i0 : (0 : Int) ≤ (s : Int) := by omega
      have i1 : (s : Int) < 16 := by omega
      by_cases h0 : X.getD s 0 = 0
      · have HN : Hid (toldN X 16 = toldN X s) := by unfold Hid; rw [HT.out, toldN, if_pos h0]
        rw [h0] at c1
        clear HT h0
        go_wp2_with fail
        go_round
        case rel => exact ⟨s, by omega, by go_num, HN⟩
        case measure => simp [intOf]
      · have HN : Hid (toldN X 16 = s + 1) := by unfold Hid; rw [HT.out, toldN, if_neg h0]
        generalize X.getD s 0 = x at c1 h0
        have hb : (x == 0) = false := by simpa using h0
        clear HT h0
        go_wp2_with fail
        go_ret
        exact ⟨by rw [HN.out]; rfl, HB⟩
set_option maxHeartbeats 1000000 in
set_option maxRecDepth 100000 in
theorem implVecBytes_any (C : Nat) (w : World) (va : Value) (xs : List Int) (hC : C ≤ w.heap.size) (ha : Rd C w va (xs.map (Value.int .i64))) :
    Calls Try.prog 37 #[.agg #[va]] w fun e w' => ∃ r, e = .returned (.tuple #[r, .int .i64 (vecC xs)]) ∧ Own 5 w' w.heap.size r ((vecB xs).map (Value.int .u8)) ∧ Below w.heap.size w w' := by
  have hlx := cnt_len xs
  have h1 := fun w' (h : Rd C w' va (xs.map (Value.int .i64))) (h' : C ≤ w'.heap.size) => countsOf_any C w' va xs h' h
  obtain ⟨ao, la, ca, rfl⟩ : ∃ ao len cap, va = .slice ao len cap := by
    obtain ⟨ao, cap, rfl, _⟩ := ha
    exact ⟨_, _, _, rfl⟩
  have ha3 := ha.alloc (.cells #[.slice ao la ca] 38) hC
  obtain ⟨ok, hok⟩ : ∃ ok, vecOK xs = ok := ⟨_, rfl⟩
  rw [hok] at h1
  have HP : Hid ((ok = true → vecB xs = bytesTo (cnt xs) (toldN (cnt xs) 16) ∧ vecC xs = 0 ∧ ∀ k, 0 ≤ (cnt xs).getD k 0 ∧ (cnt xs).getD k 0 ≤ 1000000000000) ∧ (ok = false → vecB xs = [] ∧ vecC xs = 1)) := by
    refine ⟨fun h => ?_, fun h => ?_⟩
    · have h2 := hok.trans h
      unfold vecB vecC cnt
      rw [if_pos h2, if_pos h2, if_pos h2]
      exact ⟨rfl, rfl, vec_get h2⟩
    · have h2 := hok.trans h
      unfold vecB vecC
      rw [if_neg (by rw [h2]; decide), if_neg (by rw [h2]; decide)]
      exact ⟨rfl, rfl⟩
  clear hok
  generalize cnt xs = X at hlx h1 HP
  have HI : Hid _ := arr_info hlx
  have HI' : Hid _ := arr_info' hlx
  go_enter Try.func37, Try.ntmps37
  go_wp2_with fail
  refine (h1 _ ha3 (by simp; omega)).mono ?_
  rintro e w1 ⟨rfl, hB⟩
  obtain ⟨hB1, r1, t1, hs1, hK1⟩ := arr_put hB hB.size #[.int .i64 0, .int .i64 0, .int .i64 0, .int .i64 0, .int .i64 0, .int .i64 0, .int .i64 0, .int .i64 0, .int .i64 0, .int .i64 0, .int .i64 0, .int .i64 0, .int .i64 0, .int .i64 0, .int .i64 0, .int .i64 0] rfl 71 X hlx
  have hbw := below_seq (below_alloc _ _) hB1
  have hsw := (below_seq (below_alloc _ _) hB).size
  clear h1 ha3 ha
  cases ok with
  | true =>
    obtain ⟨e1, e2, hbd⟩ := HP.out.1 rfl
    have E1 : Hid _ := e1
    have E2 : Hid _ := e2
    have HD : Hid _ := hbd
    clear e1 e2 HP hbd
    go_wp2_with (first | (refine wpList_store_mid rfl 71 _ _ rfl w1.heap.size 0 (arrC X).toArray rfl rfl t1 HI'.out (arrC_all X) ?_) | (refine wpList_load_mid rfl 71 _ rfl w1.heap.size 0 rfl (arrC X) _ r1 Try.underlying71 rfl HI.out ?_))
    refine (told_any _ X hlx).mono ?_
    rintro e w4 ⟨rfl, hb4⟩
    have hbf := below_seq hbw hb4
    have r4 := range_below hb4 hs1 r1
    have hs4 := hb4.size
    have htl := toldN_le X 16
    clear hB1 hb4 t1 r1 hbw hB hK1
    generalize toldN X 16 = n at htl E1
    have j0 : (0 : Int) ≤ (n : Int) := by omega
    have j1 : (n : Int) ≤ 16 := by omega
    go_wp2_with fail
    go_loopw [6, 20] (fun to ti wr => ∃ k : Nat, k ≤ n ∧ ti = .int .i64 (k : Int) ∧ Own 5 wr w4.heap.size to ((bytesTo X k).map (Value.int .u8)) ∧ Below w4.heap.size w4 wr) (fun _ ti _ => n - (intOf ti).toNat)
    case atStart => exact ⟨0, Nat.zero_le _, rfl, World.ownsRow_nil _ _ _ _, Below.refl _ _⟩
    case round =>
      obtain ⟨k, hk, rfl, ho, hBr⟩ := hrel
      by_cases hlt : k < n
      · have c1 : wr.cell? ⟨w1.heap.size, k, none⟩ = some (.int .i64 (X.getD k 0)) := by
          have := (hBr.cell (p := ⟨w1.heap.size, 0 + k, none⟩) (show w1.heap.size < w4.heap.size by omega)).trans (r4 k (.int .i64 (X.getD k 0)) (by simp [arrC, show k < X.length by omega]))
          rwa [Nat.zero_add] at this
        have hd := HD.out k
        have hbl := bytesTo_len X (fun k => by have := HD.out k; omega) k
        have HN : Hid (bytesTo X (k + 1) = bytesTo X k ++ enc (X.getD k 0).toNat) := rfl
        obtain ⟨x, hx⟩ := Int.eq_ofNat_of_zero_le hd.1
        rw [hx] at c1 hd HN
        rw [Int.toNat_natCast] at HN
        have i0 : (0 : Int) ≤ (k : Int) := by omega
        have i1 : (k : Int) < (n : Int) := by omega
        go_wp2_with fail
        refine (appendInt_any w4.heap.size wr _ (bytesTo X k) x (by omega) (by omega) hBr.size ho).mono ?_
        rintro e w6 ⟨r6, rfl, ho6, hb6⟩
        rw [← HN.out] at ho6
        have hB6 := hBr.trans hb6
        clear ho hBr hb6 c1
        go_wp2_with fail
        go_roundw
        case rel => exact ⟨k + 1, by omega, by go_num, ho6, hB6⟩
        case measure => simp [intOf]; omega
      · obtain rfl : k = n := by omega
        go_wp2_with fail
        go_ret2
        exact ⟨_, by rw [E2.out]; rfl, by rw [E1.out]; exact ho.mono hbf.size, below_seq hbf hBr⟩
  | false =>
    obtain ⟨e1, e2⟩ := HP.out.2 rfl
    have E1 : Hid _ := e1
    have E2 : Hid _ := e2
    clear e1 e2 HP r1
    go_wp2_with (first | (refine wpList_store_mid rfl 71 _ _ rfl w1.heap.size 0 (arrC X).toArray rfl rfl t1 HI'.out (arrC_all X) ?_))
    go_ret2
    exact ⟨_, by rw [E2.out]; rfl, by rw [E1.out]; exact World.ownsRow_nil _ _ _ _, hbw⟩
end Go.Proofs.Ytpiadcjkbbgggaa
