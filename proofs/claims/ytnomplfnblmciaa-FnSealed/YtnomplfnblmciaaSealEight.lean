/- Arrays of eight bytes: eightOf, the method sum; numbers appended in eight bytes; what can be sealed. -/
import Derived.Test.YtnomplfnblmciaaSealMath
import Derived.Test.YtnomplfnblmciaaStampBase
import Derived.Test.YtnomplfnblmciaaThereKit
import Derived.Test.YtnomplfnblmciaaTakeKit
import Derived.Deep.RegionHeld
import Derived.Deep.MidRow
namespace Go.Proofs.Ytnomplfnblmciaa
open Go.RowKit
set_option linter.unusedVariables false

/-- The cells of an array of eight. -/
def arr8 (xs : List Int) : List Value := xs.map (Value.int .u8)
theorem arr8_len (xs : List Int) : (arr8 xs).length = xs.length := by simp [arr8]
theorem arr8_one (xs : List Int) : ∀ v ∈ arr8 xs, v.oneCell' = true := by
  intro v hv
  obtain ⟨x, _, rfl⟩ := List.mem_map.1 hv
  rfl
theorem arr8_all (xs : List Int) : (arr8 xs).toArray.all (·.oneCell') = true := all_oneCell_toArray (arr8_one xs)
theorem arr8_info {xs : List Int} (h : xs.length = 8) : (Try.prog.info? 41).map (·.size) = some (arr8 xs).length := by
  rw [arr8_len, h]
  kernel_rfl
theorem arr8_info' {xs : List Int} (h : xs.length = 8) : (Try.prog.info? 41).map (·.size) = some (arr8 xs).toArray.size := by
  rw [List.size_toArray]
  exact arr8_info h
theorem range8_rd {C g off len cap : Nat} {w : World} {xs : List Int} (h : Rd C w (.slice (some ⟨g, off, none⟩) len cap) (xs.map (Value.int .u8))) : w.rangeAt g off (arr8 xs) := by
  intro j v hj
  obtain ⟨ao, cap', e, _, _, _, hr⟩ := h
  simp only [Value.slice.injEq] at e
  obtain ⟨rfl, _, _⟩ := e
  have hj1 := (List.getElem?_eq_some_iff.1 hj).1
  obtain ⟨g', off', e, _, hc⟩ := hr (by unfold arr8 at hj1; omega)
  simp only [Option.some.injEq, Addr.mk.injEq, and_true] at e
  obtain ⟨rfl, rfl⟩ := e
  exact hc j v hj
theorem rd_range8 {C g off cap : Nat} {w : World} {xs : List Int} (h : w.rangeAt g off (arr8 xs)) (hx : xs.length = 8) (hg : g < C) (hc : 8 ≤ cap) (hm : cap ≤ maxLen) : Rd C w (.slice (some ⟨g, off, none⟩) 8 cap) (xs.map (Value.int .u8)) :=
  ⟨_, cap, by rw [List.length_map, hx], by rw [List.length_map, hx]; exact hc, hm, (fun h => by cases h), fun _ => ⟨g, off, rfl, hg, fun j u hj => h j u hj⟩⟩
theorem below_setCells8 {B : Nat} {a : World} {b : Nat} (hb : B ≤ b) : ∀ (vs : List Value) (o : Nat) (w : World), Below B a w → Below B a (w.setCells b o vs) := by
  intro vs
  induction vs with
  | nil => intro o w h; exact h
  | cons v vs ih =>
    intro o w h
    exact ih (o + 1) _ (h.setCell (p := ⟨b, o, none⟩) hb v)
theorem range8_below {B : Nat} {w w' : World} (h : Below B w w') {X o : Nat} {cs : List Value} (hx : X < B) (hr : w.rangeAt X o cs) : w'.rangeAt X o cs := fun j v hj => (h.cell (p := ⟨X, o + j, none⟩) hx).trans (hr j v hj)
theorem run_arrayAt8 (w : World) (a : Option Addr) (cap : Nat) : (Instr.arrayAt 41 (.slice a 8 cap)).run Try.prog w = .ok (.pointer a) w := by
  unfold Instr.arrayAt
  rw [Sem.run_bind, run_underlying Try.underlying41 w]
  simp

set_option maxHeartbeats 1000000 in
set_option maxRecDepth 100000 in
theorem appendWide_any (B : Nat) (w : World) (v : Value) (xs : List Int) (n : Nat) (hn : n ≤ 1000000000000) (hx : xs.length ≤ 4096) (hB : B ≤ w.heap.size) (ho : Own 5 w B v (xs.map (Value.int .u8))) :
    Calls Try.prog 33 #[v, .int .i64 (n : Int)] w fun e w' => ∃ r, e = .returned r ∧ Own 5 w' B r ((xs ++ wide n).map (Value.int .u8)) ∧ Below B w w' := by
  have h1 := fun (w : World) (v : Value) hB ho => appendSum_any B w v xs (n / 4294967296) (by omega) (by omega) hB ho
  have h2 := fun (w : World) (v : Value) hB ho => appendSum_any B w v (xs ++ four (n / 4294967296)) (n % 4294967296) (by omega) (by rw [List.length_append]; show xs.length + 4 ≤ _; omega) hB ho
  rw [show ((n / 4294967296 : Nat) : Int) = (n : Int) / 4294967296 by omega] at h1
  rw [show ((n % 4294967296 : Nat) : Int) = (n : Int) % 4294967296 by omega] at h2
  rw [show wide n = four (n / 4294967296) ++ four (n % 4294967296) from rfl, ← List.append_assoc]
  generalize xs ++ four (n / 4294967296) = ys at *
  have c1 : IntKind.u32.wrap ((n : Int) / 4294967296) = (n : Int) / 4294967296 := by rw [IntKind.wrap_u32]; omega
  have c2 : IntKind.u32.wrap (n : Int) = (n : Int) % 4294967296 := by rw [IntKind.wrap_u32]
  go_enter Try.func33, Try.ntmps33
  go_wp2_with fail
  refine (h1 w v hB ho).mono ?_
  rintro e w1 ⟨r1, rfl, ho1, hb1⟩
  go_wp2_with fail
  refine (h2 w1 r1 (Nat.le_trans hB hb1.size) ho1).mono ?_
  rintro e w2 ⟨r2, rfl, ho2, hb2⟩
  go_wp2_with fail
  go_ret
  exact ⟨_, rfl, ho2, hb1.trans hb2⟩

set_option maxHeartbeats 1000000 in
set_option maxRecDepth 100000 in
theorem eightOf_any (C : Nat) (w : World) (va vb : Value) (ks bs : List Int) (hC : C ≤ w.heap.size) (hk : ∀ c ∈ ks, 0 ≤ c ∧ c ≤ 255) (hb : ∀ c ∈ bs, 0 ≤ c ∧ c ≤ 255) (hkl : 1 ≤ ks.length ∧ ks.length ≤ 64) (hbl : bs.length ≤ 4096)
    (hra : Rd C w va (ks.map (Value.int .u8))) (hrb : Rd C w vb (bs.map (Value.int .u8))) :
    Calls Try.prog 38 #[va, vb] w fun e w' => e = .returned (.agg (arr8 (ksum ks bs)).toArray) ∧ Below w.heap.size w w' := by
  have hK := fun (wz : World) (hz : Below w.heap.size w wz) => implKeySum_any C wz va vb ks bs (Nat.le_trans hC hz.size) hk hb (by omega) (by omega) (hra.below (hz.mono hC)) (hrb.below (hz.mono hC))
  rw [(keyB_ksum hkl hbl).1, (keyB_ksum hkl hbl).2] at hK
  have h8 : (ksum ks bs).length = 8 := rfl
  generalize ksum ks bs = X at hK h8 ⊢
  have HI : Hid _ := arr8_info h8
  have HI' : Hid _ := arr8_info' h8
  go_enter Try.func38, Try.ntmps38
  go_wp2_with fail
  refine (hK _ (below_alloc _ _)).mono ?_
  rintro e w1 ⟨r, rfl, ho, hB⟩
  obtain ⟨g, cap, rfl, hbg, hlt, hc⟩ := ho.some (by rw [List.length_map]; omega)
  have hrg : w1.rangeAt g 0 (arr8 X) := range8_rd ho.rd
  rw [List.length_map, h8]
  have ht := there_made hB (n := 8) (by simp)
  have hbw := below_seq (below_alloc _ _) hB
  rw [← h8, ← arr8_len, ← List.size_toArray] at ht
  have hat := run_arrayAt8 w1 (some ⟨g, 0, none⟩) cap
  clear hK hB ho hc h8
  go_wp2_with (first | (refine wpList_load_mid rfl 41 _ rfl g 0 rfl (arr8 X) _ hrg Try.underlying41 rfl HI.out ?_) | (refine wpList_store_mid rfl 41 _ _ rfl w.heap.size 0 (arr8 X).toArray rfl rfl ht HI'.out (arr8_all X) ?_))
  have hrs : (w1.setCells w.heap.size 0 (arr8 X)).rangeAt w.heap.size 0 (arr8 X) := World.rangeAt_setCells_same _ _ _ _ (by rw [List.size_toArray] at ht; exact ht)
  have hld := run_loadVar_mid (P := Try.prog) _ w.heap.size 0 41 (arr8 X) _ hrs Try.underlying41 rfl HI.out
  exact bodyPost_ret (v := .agg (arr8 X).toArray) (by simp [results, Try.results38, asAddr, Act.put, hld]) rfl ⟨rfl, below_setCells8 (Nat.le_refl _) _ _ _ hbw⟩

theorem range8_made {w w1 : World} {xs : List Int} {T : TypeId} (h : Below (w.alloc (.cells (arr8 xs).toArray T)).heap.size (w.alloc (.cells (arr8 xs).toArray T)) w1) : w1.rangeAt w.heap.size 0 (arr8 xs) := fun j v hj => by
  rw [Nat.zero_add]
  exact cell_made h (k := j) (by simpa using hj)
theorem there8_made {w w1 : World} {xs : List Int} {T : TypeId} (h : Below (w.alloc (.cells (arr8 xs).toArray T)).heap.size (w.alloc (.cells (arr8 xs).toArray T)) w1) (h8 : xs.length = 8) : w1.there w.heap.size 0 8 := there_made h (by rw [List.size_toArray, arr8_len, h8]; exact Nat.le_refl _)

set_option maxHeartbeats 1000000 in
set_option maxRecDepth 100000 in
theorem eightSum_any (C : Nat) (w : World) (vb : Value) (key bs : List Int) (hC : C ≤ w.heap.size) (hk : ∀ c ∈ key, 0 ≤ c ∧ c ≤ 255) (hk8 : key.length = 8) (hb : ∀ c ∈ bs, 0 ≤ c ∧ c ≤ 255) (hbl : bs.length ≤ 4096) (hrb : Rd C w vb (bs.map (Value.int .u8))) :
    Calls Try.prog 32 #[.agg (arr8 key).toArray, vb] w fun e w' => e = .returned (.agg (arr8 (ksum key bs)).toArray) ∧ Below w.heap.size w w' := by
  have h8 : (ksum key bs).length = 8 := rfl
  have hE := fun (wz : World) (hz : Below (w.heap.size + 1) (w.alloc (.cells (arr8 key).toArray 41)) wz) => by
    have h1 : Below w.heap.size w wz := (below_alloc w (.cells (arr8 key).toArray 41)).trans (hz.mono (by omega))
    have hr : wz.rangeAt w.heap.size 0 (arr8 key) := range8_made (by rw [World.size_alloc]; exact hz)
    have hs := hz.size
    rw [World.size_alloc] at hs
    exact eightOf_any wz.heap.size wz (.slice (some ⟨w.heap.size, 0, none⟩) 8 8) vb key bs (Nat.le_refl _) hk hb ⟨by omega, by omega⟩ hbl (rd_range8 hr hk8 (by omega) (Nat.le_refl _) (by decide)) ((hrb.below (h1.mono hC)).mono (by omega))
  generalize ksum key bs = X at hE h8 ⊢
  have HI : Hid _ := arr8_info h8
  have HI' : Hid _ := arr8_info' h8
  go_enter Try.func32, Try.ntmps32
  go_wp2_with fail
  refine (hE _ ((Below.refl _ _).alloc (by simp) _)).mono ?_
  rintro e w1 ⟨rfl, hB⟩
  have ht := there_made hB (n := 8) (by simp)
  have hbw : Below w.heap.size w w1 := below_seq (below_alloc _ _) (below_seq (below_alloc _ _) hB)
  simp only [World.size_alloc] at ht
  rw [← h8, ← arr8_len, ← List.size_toArray] at ht
  clear hE hB h8
  go_wp2_with (refine wpList_store_mid rfl 41 _ _ rfl (w.heap.size + 1) 0 (arr8 X).toArray rfl rfl ht HI'.out (arr8_all X) ?_)
  have hrs : (w1.setCells (w.heap.size + 1) 0 (arr8 X)).rangeAt (w.heap.size + 1) 0 (arr8 X) := World.rangeAt_setCells_same _ _ _ _ (by rw [List.size_toArray] at ht; exact ht)
  have hld := run_loadVar_mid (P := Try.prog) _ (w.heap.size + 1) 0 41 (arr8 X) _ hrs Try.underlying41 rfl HI.out
  exact bodyPost_ret (v := .agg (arr8 X).toArray) (by simp [results, Try.results32, asAddr, Act.put, hld]) rfl ⟨rfl, below_setCells8 (by omega) _ _ _ hbw⟩

set_option maxHeartbeats 2000000 in
set_option maxRecDepth 100000 in
theorem seal_any (C : Nat) (w : World) (ao : Addr) (cb : Nat) (key bs : List Int) (n : Nat) (hC : C ≤ w.heap.size) (hk : ∀ c ∈ key, 0 ≤ c ∧ c ≤ 255) (hk8 : key.length = 8) (hn : n ≤ 1000000000000) (hb : ∀ c ∈ bs, 0 ≤ c ∧ c ≤ 255) (hbl : bs.length ≤ 4000) (hrb : Rd C w (.slice (some ao) bs.length cb) (bs.map (Value.int .u8))) :
    Calls Try.prog 23 #[.agg (arr8 key).toArray, .int .i64 (n : Int), .slice (some ao) bs.length cb] w fun e w' => e = .returned (.agg (arr8 (sealL key n bs)).toArray) ∧ Below w.heap.size w w' := by
  obtain ⟨i0, hi, hz0', hz1, hz2⟩ := info_parts info5
  have h8 : (sealL key n bs).length = 8 := rfl
  have hS2 := fun (wz : World) (v : Value) (h : Rd wz.heap.size wz v ((wide n ++ bs).map (Value.int .u8))) => eightSum_any wz.heap.size wz v key (wide n ++ bs) (Nat.le_refl _) hk hk8 (fun c hc => (List.mem_append.1 hc).elim (wide_bytes hn c) (hb c)) (by rw [List.length_append, wide_len]; omega) h
  rw [show ksum key (wide n ++ bs) = sealL key n bs from rfl] at hS2
  generalize sealL key n bs = X at hS2 h8 ⊢
  have HI : Hid _ := arr8_info h8
  have HI' : Hid _ := arr8_info' h8
  have HK : Hid _ := arr8_info hk8
  go_enter Try.func23, Try.ntmps23
  go_wp2_with fail
  have HS : Hid (∀ wz, Below (w.heap.size + 1) (w.alloc (.cells (arr8 key).toArray 41)) wz → wz.rangeAt w.heap.size 0 (arr8 key)) := fun wz hz => range8_made (by rw [World.size_alloc]; exact hz)
  have hB0 : Below (w.heap.size + 2) ((w.alloc (.cells (arr8 key).toArray 41)).alloc (.cells #[.int .u8 0, .int .u8 0, .int .u8 0, .int .u8 0, .int .u8 0, .int .u8 0, .int .u8 0, .int .u8 0] 41)) ((w.alloc (.cells (arr8 key).toArray 41)).alloc (.cells #[.int .u8 0, .int .u8 0, .int .u8 0, .int .u8 0, .int .u8 0, .int .u8 0, .int .u8 0, .int .u8 0] 41)).drew := (Below.refl _ _).drew
  have HB1 : Hid (∀ wz, Below (w.heap.size + 2) ((w.alloc (.cells (arr8 key).toArray 41)).alloc (.cells #[.int .u8 0, .int .u8 0, .int .u8 0, .int .u8 0, .int .u8 0, .int .u8 0, .int .u8 0, .int .u8 0] 41)) wz → Below (w.heap.size + 1) (w.alloc (.cells (arr8 key).toArray 41)) wz) := fun wz hz => (((Below.refl (w.heap.size + 1) _).alloc (by simp) _)).trans (hz.mono (by omega))
  have HBW : Hid (∀ wz, Below (w.heap.size + 1) (w.alloc (.cells (arr8 key).toArray 41)) wz → Below w.heap.size w wz) := fun wz hz => (below_alloc _ _).trans (hz.mono (by omega))
  have HT : Hid (∀ wz, Below (w.heap.size + 2) ((w.alloc (.cells (arr8 key).toArray 41)).alloc (.cells #[.int .u8 0, .int .u8 0, .int .u8 0, .int .u8 0, .int .u8 0, .int .u8 0, .int .u8 0, .int .u8 0] 41)) wz → wz.there (w.heap.size + 1) 0 8) := fun wz hz => by
    have h := there_made (w := (w.alloc (.cells (arr8 key).toArray 41))) (cs := #[.int .u8 0, .int .u8 0, .int .u8 0, .int .u8 0, .int .u8 0, .int .u8 0, .int .u8 0, .int .u8 0]) (T := 41) (w1 := wz) (by simpa using hz) (n := 8) (by simp)
    rwa [World.size_alloc] at h
  have HL : Hid ((bs.map (Value.int .u8)).length = bs.length) := by unfold Hid; rw [List.length_map]
  have HM1 : Hid ((([] ++ wide n).map (Value.int .u8)).length + bs.length ≤ maxLen) := by unfold Hid maxLen; rw [List.length_map, List.nil_append, wide_len]; omega
  have HM2 : Hid (((([] ++ wide n).map (Value.int .u8)).length + bs.length) * 1 ≤ 140737488355328) := by unfold Hid; rw [List.length_map, List.nil_append, wide_len]; omega
  have hz0 : w.heap.size + 2 ≤ ((w.alloc (.cells (arr8 key).toArray 41)).alloc (.cells #[.int .u8 0, .int .u8 0, .int .u8 0, .int .u8 0, .int .u8 0, .int .u8 0, .int .u8 0, .int .u8 0] 41)).heap.size := by simp
  generalize ((w.alloc (.cells (arr8 key).toArray 41)).alloc (.cells #[.int .u8 0, .int .u8 0, .int .u8 0, .int .u8 0, .int .u8 0, .int .u8 0, .int .u8 0, .int .u8 0] 41)) = w0 at *
  refine wp_region_held_drew (S := fun w' => w'.rangeAt w.heap.size 0 (arr8 key)) (by kernel_rfl) (HS.out _ (HB1.out _ hB0)) (fun hS => ?_)
  refine tkH 0 (.agg (arr8 key).toArray) rfl (yieldsIf_load_mid rfl _ _ rfl w.heap.size 0 rfl (arr8 key) _ (fun w h => h) Try.underlying41 rfl HK.out) hS ?_
  simp only [tkS, Act.put]
  refine tkH 1 (.int .i64 (n : Int)) rfl (Or.inl ⟨by rfl, by intro w' hSw; clear hSw; go_simp⟩) hS ?_
  simp only [tkS, Act.put]
  refine tkH 3 (.slice (some ao) bs.length cb) rfl (Or.inl ⟨by rfl, by intro w' hSw; clear hSw; go_simp⟩) hS ?_
  simp only [tkS, Act.put]
  refine wpAnyH_ready (rs := [2]) (by kernel_rfl) (by simp) ?_
  refine AllReadyH.cons rfl (fun K hK => ?_) AllReadyH.nil
  go_simp
  refine (appendWide_any w0.heap.size w0.drew (.slice none 0 0) [] n hn (by simp) (Nat.le_refl _) (World.ownsRow_nil _ _ _ _)).mono ?_
  rintro e w3 ⟨r3, rfl, ho3, hb3⟩
  have hB3 : Below (w.heap.size + 2) w0 w3 := hB0.trans (hb3.mono hz0)
  have z3 : w0.heap.size ≤ w3.heap.size := hb3.size
  go_wp2_with fail
  refine hK.out _ _ (HS.out _ (HB1.out _ hB3)) (fun hS => ?_)
  clear hK K
  refine wpAnyH_ready (rs := [4]) (by kernel_rfl) (by simp) ?_
  refine AllReadyH.cons rfl (fun K hK => ?_) AllReadyH.nil
  have hrb3 := (hrb.below ((HBW.out _ (HB1.out _ hB3)).mono hC)).mono (show C ≤ w3.heap.size by omega)
  refine step_append_at rfl (.tmp 9) (.tmp 10) 22 rfl w0.heap.size 5 i0 (.int .u8 0) 1 Try.underlying22 hi hz0' hz1 hz2 rfl r3 _ rfl ho3 ao bs.length cb (bs.map (Value.int .u8)) rfl HL.out (rd_add hrb3) (ints_oneCell _ _) HM1.out HM2.out z3 ?_
  intro v4 w4 ho4 hg4
  have hb4 : Below w0.heap.size w0.drew w4 := hb3.grown hg4 z3 ho3.lt
  have hB4 : Below (w.heap.size + 2) w0 w4 := hB0.trans (hb4.mono hz0)
  have z4 : w0.heap.size ≤ w4.heap.size := hb4.size
  rw [← List.map_append, List.nil_append] at ho4
  clear hg4 ho3 hb3 hrb3
  refine hK.out _ _ (HS.out _ (HB1.out _ hB4)) (fun hS => ?_)
  clear hK K
  simp only [tkS, Act.put]
  refine wpAnyH_ready (rs := [5]) (by kernel_rfl) (by simp) ?_
  refine AllReadyH.cons rfl (fun K hK => ?_) AllReadyH.nil
  go_simp
  refine (hS2 w4 v4 ho4.rd).mono ?_
  rintro e w5 ⟨rfl, hb5⟩
  have hB5 : Below (w.heap.size + 2) w0 w5 := hB4.trans (hb5.mono (by omega))
  have ht5 := HT.out _ hB5
  rw [← h8, ← arr8_len, ← List.size_toArray] at ht5
  clear ho4 hb5 hS2 h8
  go_wp2_with fail
  refine hK.out _ _ (HS.out _ (HB1.out _ hB5)) (fun hS => ?_)
  clear hK K
  refine wpAnyH_ready (rs := [6]) (by kernel_rfl) (by simp) ?_
  refine AllReadyH.cons rfl (fun K hK => ?_) AllReadyH.nil
  rw [if_pos (by rfl)]
  refine wp_store_mid _ _ _ rfl _ _ (arr8 X).toArray rfl rfl ht5 HI'.out (arr8_all X) ?_
  have hB6 : Below (w.heap.size + 1) _ (w5.setCells (w.heap.size + 1) 0 (arr8 X)) := below_setCells8 (by omega) (arr8 X) 0 w5 (HB1.out _ hB5)
  refine hK.out _ _ (HS.out _ hB6) (fun hS => ?_)
  clear hK K
  refine wpAnyH_done (by kernel_rfl) ?_ _
  have hrs : (w5.setCells (w.heap.size + 1) 0 (arr8 X)).rangeAt (w.heap.size + 1) 0 (arr8 X) := World.rangeAt_setCells_same _ _ _ _ (by rw [List.size_toArray] at ht5; exact ht5)
  have hld := run_loadVar_mid (P := Try.prog) _ (w.heap.size + 1) 0 41 (arr8 X) _ hrs Try.underlying41 rfl HI.out
  simp only [tkS, Act.put]
  go_wp2_with fail
  exact bodyPost_ret (v := .agg (arr8 X).toArray) (by simp [results, Try.results23, asAddr, hld]) rfl ⟨rfl, HBW.out _ hB6⟩
end Go.Proofs.Ytnomplfnblmciaa
