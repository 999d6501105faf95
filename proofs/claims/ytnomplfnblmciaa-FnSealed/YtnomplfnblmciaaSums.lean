/- What sumOn, Sum32, l01Join, l01Four and appendSum do. -/
import Derived.Test.YtnomplfnblmciaaInfo
namespace Go.Proofs.Ytnomplfnblmciaa
open Go.RowKit
set_option linter.unusedVariables false

/-- One byte more in a sum. -/
def sumStep (h : Nat) (c : Int) : Nat := (h ^^^ c.toNat) * 16777619 % 4294967296
/-- A sum, gone on with over more bytes. -/
def sumF (h : Nat) (xs : List Int) : Nat := xs.foldl sumStep h

theorem sumStep_lt (h : Nat) (c : Int) : sumStep h c < 4294967296 := by
  unfold sumStep
  omega
theorem sumF_cons (h : Nat) (c : Int) (xs : List Int) : sumF h (c :: xs) = sumF (sumStep h c) xs := List.foldl_cons ..
theorem sumF_nil (h : Nat) : sumF h [] = h := List.foldl_nil ..
theorem sumF_lt (xs : List Int) : ∀ {h : Nat}, h < 4294967296 → sumF h xs < 4294967296 := by
  induction xs with
  | nil => intro h hh; rw [sumF_nil]; exact hh
  | cons c xs ih =>
    intro h hh
    rw [sumF_cons]
    exact ih (sumStep_lt h c)
theorem sumF_append (h : Nat) (xs ys : List Int) : sumF h (xs ++ ys) = sumF (sumF h xs) ys := by simp [sumF, List.foldl_append]
theorem sumF_take (h : Nat) (xs : List Int) (k : Nat) (hk : k < xs.length) : sumF h (xs.take (k + 1)) = sumStep (sumF h (xs.take k)) xs[k] := by
  rw [List.take_succ_eq_append_getElem hk, sumF_append, sumF_cons, sumF_nil]
theorem xor_lt {a : Nat} {c : Int} (ha : a < 4294967296) (h0 : 0 ≤ c) (h1 : c ≤ 255) : a ^^^ c.toNat < 4294967296 := Nat.xor_lt_two_pow (n := 32) (by omega) (by omega)
theorem xor_u32 {a : Nat} {c : Int} (ha : a < 4294967296) (h0 : 0 ≤ c) (h1 : c ≤ 255) : bits .xor .u32 (a : Int) c = ((a ^^^ c.toNat : Nat) : Int) := by
  have := u32_xor (a : Int) c (by omega) (by omega) h0 (by omega)
  simpa using this
theorem xor_i64 {a : Nat} {c : Int} (ha : a < 4294967296) (h0 : 0 ≤ c) (h1 : c ≤ 255) : bits .xor .i64 (a : Int) c = ((a ^^^ c.toNat : Nat) : Int) := by
  obtain ⟨n, rfl⟩ := Int.eq_ofNat_of_zero_le h0
  have hx := xor_lt (a := a) (c := (n : Int)) ha h0 h1
  rw [Int.toNat_natCast] at hx ⊢
  show IntKind.i64.wrap ((BitVec.ofInt 64 (a : Int) ^^^ BitVec.ofInt 64 (n : Int)).toNat : Int) = _
  rw [BitVec.toNat_xor, ofInt_u64 a (by omega), ofInt_u64 n (by omega), IntKind.wrap_i64]
  omega

set_option maxHeartbeats 400000 in
theorem sumOn_any (C : Nat) (w : World) (v : Value) (xs : List Int) (h : Nat) (hh : h < 4294967296) (hx : ∀ c ∈ xs, 0 ≤ c ∧ c ≤ 255) (hl : xs.length ≤ 2097152) (hr : Rd C w v (xs.map (Value.int .u8))) :
    Calls Try.prog 41 #[.int .u32 (h : Int), v] w fun e w' => e = .returned (.int .u32 ((sumF h xs : Nat) : Int)) ∧ w' = w := by
  obtain ⟨ao, cap, rfl, _, _, _, hr⟩ := hr
  rw [List.length_map] at hr ⊢
  go_enter Try.func41, Try.ntmps41
  go_wp2
  go_loop [0, 9] (fun t i => ∃ k : Nat, k ≤ xs.length ∧ i = .int .i64 k ∧ t = .int .u32 ((sumF h (xs.take k) : Nat) : Int)) (fun _ i => xs.length - (intOf i).toNat)
  case atStart => exact ⟨0, Nat.zero_le _, rfl, rfl⟩
  case round =>
    obtain ⟨k, hk, rfl, rfl⟩ := hrel
    by_cases hlt : k < xs.length
    · obtain ⟨g, off, rfl, _, hc⟩ := hr (by omega)
      have c1 := hc k (.int .u8 xs[k]) (by simp [hlt])
      obtain ⟨hb0, hb1⟩ := hx xs[k] (List.getElem_mem hlt)
      have hS := sumF_lt (xs.take k) (h := h) hh
      have hxr := xor_u32 hS hb0 hb1
      have hxl := xor_lt hS hb0 hb1
      have HT : Hid _ := sumF_take h xs k hlt
      generalize sumF h (xs.take k) = T at hS hxr hxl HT ⊢
      clear hc hr
      go_wp2
      go_round
      case rel => exact ⟨k + 1, by omega, by go_num, by rw [HT.out]; simp [sumStep]⟩
      case measure => simp [intOf]; omega
    · go_wp2
      go_ret
      exact ⟨by rw [show k = xs.length by omega, List.take_length]; rfl, rfl⟩

theorem sumOn_start (C : Nat) (w : World) (v : Value) (xs : List Int) (hx : ∀ c ∈ xs, 0 ≤ c ∧ c ≤ 255) (hl : xs.length ≤ 2097152) (hr : Rd C w v (xs.map (Value.int .u8))) :
    Calls Try.prog 41 #[.int .u32 2166136261, v] w fun e w' => e = .returned (.int .u32 ((sumF 2166136261 xs : Nat) : Int)) ∧ w' = w := by
  have h := sumOn_any C w v xs 2166136261 (by decide) hx hl hr
  rwa [show ((2166136261 : Nat) : Int) = 2166136261 from rfl] at h

set_option maxHeartbeats 400000 in
theorem sum32_any (C : Nat) (w : World) (v : Value) (xs : List Int) (hx : ∀ c ∈ xs, 0 ≤ c ∧ c ≤ 255) (hl : xs.length ≤ 1048576) (hr : Rd C w v (xs.map (Value.int .u8))) :
    Calls Try.prog 35 #[v] w fun e w' => e = .returned (.int .i64 ((sumF 2166136261 xs : Nat) : Int)) ∧ w' = w := by
  obtain ⟨ao, cap, rfl, _, _, _, hr⟩ := hr
  rw [List.length_map] at hr ⊢
  go_enter Try.func35, Try.ntmps35
  go_wp2
  go_loop [3, 4] (fun t i => ∃ k : Nat, k ≤ xs.length ∧ i = .int .i64 k ∧ t = .int .i64 ((sumF 2166136261 (xs.take k) : Nat) : Int)) (fun _ i => xs.length - (intOf i).toNat)
  case atStart => exact ⟨0, Nat.zero_le _, rfl, rfl⟩
  case round =>
    obtain ⟨k, hk, rfl, rfl⟩ := hrel
    by_cases hlt : k < xs.length
    · obtain ⟨g, off, rfl, _, hc⟩ := hr (by omega)
      have c1 := hc k (.int .u8 xs[k]) (by simp [hlt])
      obtain ⟨hb0, hb1⟩ := hx xs[k] (List.getElem_mem hlt)
      have hS := sumF_lt (xs.take k) (h := 2166136261) (by decide)
      have hxr := xor_i64 hS hb0 hb1
      have hxl := xor_lt hS hb0 hb1
      have HT : Hid _ := sumF_take 2166136261 xs k hlt
      generalize sumF 2166136261 (xs.take k) = T at hS hxr hxl HT ⊢
      clear hc hr
      go_wp2
      go_round
      case rel => exact ⟨k + 1, by omega, by go_num, by rw [HT.out]; simp [sumStep]⟩
      case measure => simp [intOf]; omega
    · go_wp2
      go_ret
      exact ⟨by rw [show k = xs.length by omega, List.take_length]; rfl, rfl⟩

/-- The four bytes of a number below 2 to the 32, the highest first. -/
def four (n : Nat) : List Int := [((n / 16777216 : Nat) : Int), ((n / 65536 % 256 : Nat) : Int), ((n / 256 % 256 : Nat) : Int), ((n % 256 : Nat) : Int)]
theorem four_bytes {n : Nat} (h : n < 4294967296) : ∀ c ∈ four n, 0 ≤ c ∧ c ≤ 255 := by
  intro c hc
  simp only [four, List.mem_cons, List.not_mem_nil, or_false] at hc
  rcases hc with rfl | rfl | rfl | rfl <;> omega

set_option maxHeartbeats 400000 in
theorem l01Four_any (n : Nat) (hn : n < 4294967296) (w : World) :
    Calls Try.prog 29 #[.int .i64 (n : Int)] w fun e w' => ∃ r, e = .returned r ∧ Own 5 w' w.heap.size r ((four n).map (Value.int .u8)) ∧ Below w.heap.size w w' := by
  go_enter Try.func29, Try.ntmps29
  go_wp2
  go_ret
  refine ⟨_, rfl, ?_, (Below.refl _ _).alloc (Nat.le_refl _) _⟩
  exact own_lit w 5 _ 4 rfl (by decide)

set_option maxHeartbeats 400000 in
theorem l01Join_any (C : Nat) (w : World) (va vb vc : Value) (xs ys zs : List Int) (hC : C ≤ w.heap.size) (hl : xs.length + ys.length + zs.length ≤ 4194304) (ha : Rd C w va (xs.map (Value.int .u8))) (hb : Rd C w vb (ys.map (Value.int .u8))) (hc : Rd C w vc (zs.map (Value.int .u8))) :
    Calls Try.prog 36 #[va, vb, vc] w fun e w' => ∃ r, e = .returned r ∧ Own 5 w' w.heap.size r ((xs ++ ys ++ zs).map (Value.int .u8)) ∧ Below w.heap.size w w' := by
  obtain ⟨i0, hi, hz0, hz1, hz2⟩ := info_parts info5
  have ho0 : Own 5 (w.alloc (.cells #[] 5)) w.heap.size (.slice (some ⟨w.heap.size, 0, none⟩) 0 0) [] := own_lit w 5 [] 0 rfl (by decide)
  have hb0 : Below w.heap.size w (w.alloc (.cells #[] 5)) := (Below.refl _ _).alloc (Nat.le_refl _) _
  go_enter Try.func36, Try.ntmps36
  go_wp2_with (at_builtin; refine wpList_append_rd rfl (.tmp 7) (.tmp 8) 22 rfl w.heap.size 5 i0 (.int .u8 0) 1 Try.underlying22 hi hz0 hz1 hz2 rfl _ [] rfl ho0 C va (xs.map (Value.int .u8)) rfl (ha.below (hb0.mono hC)) (ints_oneCell _ _) (by simp [maxLen]; omega) (by simp; omega) (by simp) ?_)
  intro v1 w1 ho1 hg1
  have hb1 : Below w.heap.size w w1 := hb0.grown hg1 (by simp) ho0.lt
  have hz1' := hb1.size
  clear hg1 ho0
  go_wp2_with (at_builtin; refine wpList_append_rd rfl (.tmp 9) (.tmp 10) 22 rfl w.heap.size 5 i0 (.int .u8 0) 1 Try.underlying22 hi hz0 hz1 hz2 rfl _ _ rfl ho1 C vb (ys.map (Value.int .u8)) rfl (hb.below (hb1.mono hC)) (ints_oneCell _ _) (by simp [maxLen]; omega) (by simp; omega) hz1' ?_)
  intro v2 w2 ho2 hg2
  have hb2 : Below w.heap.size w w2 := hb1.grown hg2 hz1' ho1.lt
  have hz2' := hb2.size
  clear hg2 ho1
  go_wp2_with (at_builtin; refine wpList_append_rd rfl (.tmp 11) (.tmp 12) 22 rfl w.heap.size 5 i0 (.int .u8 0) 1 Try.underlying22 hi hz0 hz1 hz2 rfl _ _ rfl ho2 C vc (zs.map (Value.int .u8)) rfl (hc.below (hb2.mono hC)) (ints_oneCell _ _) (by simp [maxLen]; omega) (by simp; omega) hz2' ?_)
  intro v3 w3 ho3 hg3
  have hb3 : Below w.heap.size w w3 := hb2.grown hg3 hz2' ho2.lt
  clear hg3 ho2
  go_wp2_with fail
  go_ret
  exact ⟨_, rfl, by simpa using ho3, hb3⟩

set_option maxHeartbeats 400000 in
theorem appendSum_any (B : Nat) (w : World) (v : Value) (xs : List Int) (n : Nat) (hn : n < 4294967296) (hx : xs.length ≤ 1048576) (hB : B ≤ w.heap.size) (ho : Own 5 w B v (xs.map (Value.int .u8))) :
    Calls Try.prog 39 #[v, .int .u32 (n : Int)] w fun e w' => ∃ r, e = .returned r ∧ Own 5 w' B r ((xs ++ four n).map (Value.int .u8)) ∧ Below B w w' := by
  obtain ⟨i0, hi, hz0, hz1, hz2⟩ := info_parts info5
  have hol : Rd (w.alloc (.cells #[.int .u8 ((n : Int) / 16777216), .int .u8 ((n : Int) / 65536 % 256), .int .u8 ((n : Int) / 256 % 256), .int .u8 ((n : Int) % 256)] 5)).heap.size (w.alloc (.cells #[.int .u8 ((n : Int) / 16777216), .int .u8 ((n : Int) / 65536 % 256), .int .u8 ((n : Int) / 256 % 256), .int .u8 ((n : Int) % 256)] 5)) (.slice (some ⟨w.heap.size, 0, none⟩) 4 4) ((four n).map (Value.int .u8)) := (own_lit w 5 ((four n).map (Value.int .u8)) 4 rfl (by decide)).rd
  have hbl : Below B w (w.alloc (.cells #[.int .u8 ((n : Int) / 16777216), .int .u8 ((n : Int) / 65536 % 256), .int .u8 ((n : Int) / 256 % 256), .int .u8 ((n : Int) % 256)] 5)) := (Below.refl _ _).alloc hB _
  have hln : (four n).length = 4 := rfl
  go_enter Try.func39, Try.ntmps39
  go_wp2_with (at_builtin; refine wpList_append_rd rfl (.tmp 5) (.tmp 17) 22 rfl B 5 i0 (.int .u8 0) 1 Try.underlying22 hi hz0 hz1 hz2 rfl _ _ rfl (World.ownsRow.alloc ho _) _ _ ((four n).map (Value.int .u8)) rfl hol (ints_oneCell _ _) (by simp [maxLen]; omega) (by simp; omega) (by simp; omega) ?_)
  intro v1 w1 ho1 hg1
  have hb1 : Below B w w1 := hbl.grown hg1 (by simp; omega) ho.lt
  clear hg1 hol hbl
  go_wp2_with fail
  go_ret
  exact ⟨_, rfl, by simpa using ho1, hb1⟩
end Go.Proofs.Ytnomplfnblmciaa
