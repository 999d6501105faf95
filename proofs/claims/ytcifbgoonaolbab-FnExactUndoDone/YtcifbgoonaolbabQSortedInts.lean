/- slices.Sorted(maps.Keys(s)) of a set of numbers: a row of the call's own, the numbers rising. -/
import Derived.Shelf.SlGeneric
import Derived.Shelf.SlIterI.Nil
import Derived.Shelf.SortM.Plain
import Derived.Shelf.SortM.SortNone
import Derived.Ground.GgzProg
import Derived.Ground.SlgmProg
import Derived.Test.YtcifbgoonaolbabQUndoneOf
namespace Go.Proofs
open Go.RowKit Go.Maps Go.Sort Go.Shelf

shelf_lay_g SlLaysZI.n7 Ggz 7 at Try 20 as Ytcifbgoonaolbab.laysKeysI
shelf_lay_g SlLaysZI.n6 Ggz 6 at Try 19 as Ytcifbgoonaolbab.laysSortedI
shelf_lay_g SlLaysM.n5 Slgm 5 at Try 37 as Ytcifbgoonaolbab.laysSortI

namespace Ytcifbgoonaolbab
theorem sortsI (m : Nat) : AnyZI.SortsIn Try.prog laysSortedI_ren Fence.wide m :=
  ⟨fun blk off cap ss W hH hblk hsz => callsIn_wide.2 (AnyM.slices_Sort_int laysSortI blk off cap ss W hH hblk hsz),
   fun p cap W => callsIn_wide.2 (AnyM.slices_Sort_int_none laysSortI p cap W)⟩
theorem keysI_any (mb : Option Nat) (w : World) : Calls Try.prog 20 #[.map mb] w fun e w' => e = .returned (.func (.func 38) #[] #[.pointer (some ⟨w.heap.size, 0, none⟩)]) ∧ w' = w.alloc (.cells #[.map mb] 58) :=
  (callsIn_wide (n := 5)).1 (AnyZI.keys_in laysKeysI Fence.wide 5 trivial rfl mb w)
theorem rising_sorted {T ss : List Int} (hT : T.Pairwise (· < ·)) (hp : ss.Perm T) : ss.mergeSort (fun x y => decide (x ≤ y)) = T := by
  have h1 := mergeSort_of_perm_i hp
  rw [show ss.mergeSort (fun x y => decide (x ≤ y)) = ss.mergeSort leI from rfl, h1]
  exact List.mergeSort_of_pairwise (hT.imp fun h => by simp only [leI, decide_eq_true_eq]; omega)
theorem sortedI_any (w : World) (Bm b n : Nat) (U T : List Int) (hBm : Bm < w.heap.size) (hm : w.cell? ⟨Bm, 0, none⟩ = some (.map (some b))) (h : SetI w b n U) (hn : n ≤ 1048576) (hT : T.Pairwise (· < ·)) (hTU : ∀ s, s ∈ T ↔ s ∈ U) :
    Calls Try.prog 19 #[.func (.func 38) #[] #[.pointer (some ⟨Bm, 0, none⟩)]] w fun e w' => ∃ v, e = .returned v ∧ Own 3 w' w.heap.size v (T.map (Value.int .i64)) ∧ Below w.heap.size w w' := by
  obtain ⟨D, hown, hD⟩ := h
  have hbl := hown.lt
  have hsz := hown.size_le
  have hperm : T.Perm (intKeys D) := by
    refine CollectedI.perm (left := fun _ => false) ⟨?_, fun x => ?_⟩ hown keyedInt Try.underlying3 (fun _ => rfl)
    · exact hT.imp fun h => by omega
    · rw [hTU, ← hD]; simp
  have hseq : SeqGives Fence.wide 2 Try.prog 38 #[.pointer (some ⟨Bm, 0, none⟩)] encZ (fun ss => ss.Perm (intKeys D)) (Maps.size D) w :=
    AnyZI.keys_gives (ρ := laysKeysI_ren) { laysKeysI with } Fence.wide _ trivial rfl (by omega) Bm b n D _ hBm hm hown
  have cS := AnyZI.sorted_in laysSortedI Fence.wide 5 trivial trivial trivial trivial rfl (by omega) (sortsI _) (enters_of Try.func37 (by kernel_rfl) rfl) 38 #[.pointer (some ⟨Bm, 0, none⟩)] trivial (enters_of Try.func38 (by kernel_rfl) rfl) _ _ (by unfold maxLen; omega) (by omega) _ hseq
  change CallsIn _ _ Try.prog 19 _ _ _ at cS
  refine (callsIn_wide (n := 5)).1 (cS.mono ?_)
  rintro e w' ⟨v, ss, rfl, hS, hrow, hnil, hb⟩
  refine ⟨v, rfl, ?_, hb⟩
  have e1 := rising_sorted hT (hS.trans hperm.symm)
  rw [e1, (hS.trans hperm.symm).length_eq] at hrow
  unfold Own
  rw [List.length_map]
  exact hrow
end Ytcifbgoonaolbab
end Go.Proofs
