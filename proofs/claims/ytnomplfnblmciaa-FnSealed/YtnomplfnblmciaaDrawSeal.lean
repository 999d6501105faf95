/- The draw of a key, a number and a text. -/
import Derived.Test.YtnomplfnblmciaaSrcBytes
import Derived.Test.YtnomplfnblmciaaSrcStamp
import Derived.Test.YtnomplfnblmciaaCells
namespace Go.Proofs.Ytnomplfnblmciaa
open Go.RowKit
set_option linter.unusedVariables false

/-- What is there while a key is drawn: the source in the first new block, the key behind it. -/
structure Ds (C : Nat) (w w' : World) (A : Nat) (vk : Value) (xs : List Int) : Prop where
  src : Src C w' w.heap.size A
  key : Own 5 w' (w.heap.size + 1) vk (xs.map (Value.int .u8))
  bel : Below w.heap.size w w'
  lt : w.heap.size < w'.heap.size
theorem Ds.grow {C : Nat} {w w1 w2 : World} {A A' : Nat} {vk : Value} {xs : List Int} (h : Ds C w w1 A vk xs) (hs : Src C w2 w.heap.size A') (hg : w1.grownBy w2 (some w.heap.size)) : Ds C w w2 A' vk xs :=
  ⟨hs, own_grown h.key hg (by omega), gr_below h.bel hg (Nat.le_refl _) h.bel.size, Nat.lt_of_lt_of_le h.lt hg.size⟩
theorem Ds.alloc {C : Nat} {w w1 : World} {A : Nat} {vk : Value} {xs : List Int} (h : Ds C w w1 A vk xs) (o : Obj) : Ds C w (w1.alloc o) A vk xs :=
  ⟨h.src.alloc o, World.ownsRow.alloc h.key _, h.bel.alloc h.bel.size o, by rw [World.size_alloc]; have := h.lt; omega⟩
/-- What a draw answers. -/
def SealDrawn (w w' : World) (e : Ending) : Prop := ∃ (vk : Value) (xs : List Int) (n : Int) (s : ByteArray), e = .returned (.tuple #[vk, .int .i64 n, .string s]) ∧ (∀ c ∈ xs, 0 ≤ c ∧ c ≤ 255) ∧ xs.length ≤ 16 ∧ s.size ≤ 1000 ∧ Rd w'.heap.size w' vk (xs.map (Value.int .u8)) ∧ Below w.heap.size w w'

set_option maxHeartbeats 4000000 in
set_option maxRecDepth 100000 in
theorem l16Draw_any (C : Nat) (w : World) (v : Value) (code : List Int) (hC : C ≤ w.heap.size) (hr : Rd C w v (code.map (Value.int .u8))) (hX : ∀ x ∈ code, 0 ≤ x ∧ x ≤ 255) (hl : code.length ≤ 1048576) :
    Calls Try.prog 16 #[v] w fun e w' => SealDrawn w w' e := by
  obtain ⟨i0, hi, hz0, hz1, hz2⟩ := info_parts info5
  have hso := source_any C w v code hC hr hX hl
  obtain ⟨ao, la, ca, rfl⟩ : ∃ ao len cap, v = .slice ao len cap := by
    obtain ⟨ao, cap, rfl, _⟩ := hr
    exact ⟨_, _, _, rfl⟩
  clear hr
  go_enter Try.func16, Try.ntmps16
  go_wp2_with fail
  refine hso.mono ?_
  rintro e w1 ⟨rfl, hS1, hB1⟩
  have hlt1 := hS1.lt
  have hBY := bytes_any C w.heap.size 0 8 w1 hS1 (by omega) (by omega)
  rw [show ((8 : Nat) : Int) = 8 from rfl] at hBY
  go_wp2_with fail
  refine hBY.mono ?_
  rintro e w2 ⟨vk, xs, rfl, hxl, hxb, ho2, hS2, hG2⟩
  have D2 : Ds C w w2 8 vk xs := ⟨hS2.mono (by omega), ho2.mono (by omega), gr_below hB1 hG2 (Nat.le_refl _) hB1.size, Nat.lt_of_lt_of_le hlt1 hG2.size⟩
  clear hso hBY ho2 hS2 hG2 hS1 hB1
  go_wp2_with fail
  refine (srcNext_any C w.heap.size 8 1000 w2 D2.src (by omega) (by omega) (by omega)).mono ?_
  rintro e w3 ⟨n, rfl, hn0, hn1, hS3, hG3⟩
  have D3 := D2.grow hS3 hG3
  clear D2 hS3 hG3
  go_wp2_with fail
  refine (word_any C w.heap.size _ w3 D3.src (by omega)).mono ?_
  rintro e w4 ⟨s1, rfl, hs1, hS4, hG4⟩
  have D4 := D3.grow hS4 hG4
  clear D3 hS4 hG4
  go_wp2_with fail
  refine (word_any C w.heap.size _ w4 D4.src (by omega)).mono ?_
  rintro e w5 ⟨s2, rfl, hs2, hS5, hG5⟩
  have D5 := D4.grow hS5 hG5
  clear D4 hS5 hG5
  go_wp2_with fail
  refine (word_any C w.heap.size _ w5 D5.src (by omega)).mono ?_
  rintro e w6 ⟨s3, rfl, hs3, hS6, hG6⟩
  have D6 := D5.grow hS6 hG6
  clear D5 hS6 hG6
  go_wp2_with fail
  refine (srcNext_any C w.heap.size _ 12 w6 D6.src (by omega) (by omega) (by omega)).mono ?_
  rintro e w7 ⟨r, rfl, hr0, hr1, hS7, hG7⟩
  have D7 := D6.grow hS7 hG7
  clear D6 hS7 hG7
  have ht : (s1 ++ s2 ++ s3).size ≤ 15 := by rw [ByteArray.size_append, ByteArray.size_append]; omega
  generalize s1 ++ s2 ++ s3 = t at *
  have hcs : r = 0 ∨ r = 1 ∨ r = 2 ∨ 3 ≤ r := by omega
  rcases hcs with rfl | rfl | rfl | hr3
  · clear hr0 hr1
    go_wp2_with fail
    refine (srcNext_any C w.heap.size _ 10 w7 D7.src (by omega) (by omega) (by omega)).mono ?_
    rintro e w8 ⟨q, rfl, hq0, hq1, hS8, hG8⟩
    have D8 := D7.grow hS8 hG8
    clear D7 hS8 hG8
    obtain ⟨m, rfl⟩ := Int.eq_ofNat_of_zero_le hq0
    go_wp2_with fail
    refine (bytes_any C w.heap.size _ m w8 D8.src (by omega) (by omega)).mono ?_
    rintro e w9 ⟨vk9, xs9, rfl, hxl9, hxb9, ho9, hS9, hG9⟩
    have D9 := D8.grow hS9 hG9
    have hHL : Hid (xs9.length = m) := hxl9
    clear D8 hS9 hG9 hxl9
    go_wp2_with fail
    go_ret3
    exact ⟨_, xs9, _, _, rfl, hxb9, by rw [hHL.out]; omega, by omega, ho9.rd, D9.bel⟩
  · clear hr0 hr1
    go_wp2_with fail
    refine (srcNext_any C w.heap.size _ 3 _ (D7.alloc _).src (by omega) (by omega) (by omega)).mono ?_
    rintro e w8 ⟨q, rfl, hq0, hq1, hS8, hG8⟩
    have hk := blk_kept D7.lt hG8
    have D8 := (D7.alloc _).grow hS8 hG8
    have c0 := cell_blk hk 0 rfl
    have c1 := cell_blk hk 1 rfl
    have c2 := cell_blk hk 2 rfl
    have hHL : Hid (xs.length = 8) := hxl
    clear hk hS8 hG8 D7 hxl
    have hcq : q = 0 ∨ q = 1 ∨ q = 2 := by omega
    clear hq0 hq1
    rcases hcq with rfl | rfl | rfl
    all_goals
      go_wp2_with fail
      go_ret3
      exact ⟨_, xs, _, _, rfl, hxb, by rw [hHL.out]; omega, by omega, D8.key.rd, D8.bel⟩
  · clear hr0 hr1
    go_wp2_with fail
    refine (srcNext_any C w.heap.size _ 2 w7 D7.src (by omega) (by omega) (by omega)).mono ?_
    rintro e w8 ⟨q, rfl, hq0, hq1, hS8, hG8⟩
    have D8 := D7.grow hS8 hG8
    clear D7 hS8 hG8
    have hHL : Hid (xs.length = 8) := hxl
    obtain ⟨m, hm, hm2⟩ : ∃ m : Nat, 200 + q = (m : Int) ∧ m ≤ 201 := ⟨(200 + q).toNat, by omega, by omega⟩
    have hr2' : q = (m : Int) - 200 := by omega
    subst hr2'
    have e200 : 200 + ((m : Int) - 200) = (m : Int) := by omega
    clear hxl
    go_wp2_with (at_make; refine wpList_make_full _ rfl _ _ 22 rfl w8.heap.size 5 i0 (.int .u8 0) 1 Try.underlying22 hi hz0 hz1 _ _ _ _ m rfl rfl rfl rfl (by rw [hz2]; omega) (by unfold maxLen; omega) (Nat.le_refl _) ?_)
    intro w9 hown hgrow
    have ho9 := own_of hown
    rw [toList_madeCells_one] at ho9
    have hz9 : Rd w9.heap.size w9 (.slice (some ⟨w8.heap.size, 0, none⟩) m m) ((List.replicate m (0 : Int)).map (Value.int .u8)) := by
      rw [List.map_replicate]
      exact ho9.rd
    have hst := run_string_of hz9
    have hs : (ofInts (List.replicate m (0 : Int))).size = m := by
      unfold ofInts
      show ((((List.replicate m (0 : Int)).map fun n => UInt8.ofNat n.toNat)).toArray).size = _
      simp
    generalize ofInts (List.replicate m (0 : Int)) = u at hst hs
    have hb9 : Below w8.heap.size w8 w9 := (Below.refl _ _).grown hgrow (Nat.le_refl _) (fun k hk => by cases hk)
    have hk9 : Rd w9.heap.size w9 vk (xs.map (Value.int .u8)) := (D8.key.below hb9 (Nat.le_refl _)).rd
    have hB9 : Below w.heap.size w w9 := below_seq D8.bel hb9
    have HUS : Hid (u.size ≤ 1000) := by unfold Hid; omega
    clear hown hgrow ho9 hz9 e200 hs D8 hb9
    go_wp2_with fail
    go_ret3
    exact ⟨_, xs, _, _, rfl, hxb, by rw [hHL.out]; omega, HUS.out, hk9, hB9⟩
  · have hn0' : (r == 0) = false := by simp; omega
    have hn1' : (r == 1) = false := by simp; omega
    have hn2' : (r == 2) = false := by simp; omega
    have hHL : Hid (xs.length = 8) := hxl
    clear hxl
    go_wp2_with fail
    go_ret3
    exact ⟨_, xs, _, _, rfl, hxb, by rw [hHL.out]; omega, by omega, D7.key.rd, D7.bel⟩

set_option maxHeartbeats 1000000 in
set_option maxRecDepth 100000 in
theorem drawSealText_any (C : Nat) (w : World) (v : Value) (code : List Int) (hC : C ≤ w.heap.size) (hr : Rd C w v (code.map (Value.int .u8))) (hX : ∀ x ∈ code, 0 ≤ x ∧ x ≤ 255) (hl : code.length ≤ 1048576) :
    Calls Try.prog 6 #[v] w fun e w' => SealDrawn w w' e := by
  have h := l16Draw_any C w v code hC hr hX hl
  go_enter Try.func6, Try.ntmps6
  go_wp2_with fail
  refine h.mono ?_
  rintro e w1 ⟨vk, xs, n, s, rfl, h1, h2, h3, h4, h5⟩
  go_wp2_with fail
  go_ret3
  exact ⟨_, xs, _, _, rfl, h1, h2, h3, h4, h5⟩
end Go.Proofs.Ytnomplfnblmciaa
