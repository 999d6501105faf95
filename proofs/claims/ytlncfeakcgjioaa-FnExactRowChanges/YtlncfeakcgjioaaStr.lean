/- Bytes made a text. -/
import Derived.Test.YtlncfeakcgjioaaNums
namespace Go.Proofs.Ytlncfeakcgjioaa
open Go.RowKit
set_option linter.unusedVariables false

/-- The text of these bytes. -/
def ofInts (xs : List Int) : ByteArray := ⟨(xs.map fun n => UInt8.ofNat n.toNat).toArray⟩

theorem push_all (xs : List Int) : ∀ s : ByteArray, xs.foldl (fun r n => r.push (UInt8.ofNat n.toNat)) s = ⟨(s.data.toList ++ xs.map fun n => UInt8.ofNat n.toNat).toArray⟩ := by
  induction xs with
  | nil => intro s; simp
  | cons x xs ih =>
    intro s
    rw [List.foldl_cons, ih]
    simp [ByteArray.push]

theorem run_string_of {C : Nat} {w : World} {v : Value} {xs : List Int} (hr : Rd C w v (xs.map (Value.int .u8))) : (convert 64 9 v).run Try.prog w = .ok (.string (ofInts xs)) w := by
  obtain ⟨ao, cap, rfl, hcap, hmax, hnil, hr⟩ := hr
  rw [run_convert_bytes_string w 64 9 5 ao _ cap Try.underlying64 Try.underlying5 Try.underlying9]
  cases ao with
  | none =>
    have hx : xs = [] := by
      cases xs with
      | nil => rfl
      | cons x xs => have := hnil rfl; simp at hcap; omega
    subst hx
    rfl
  | some a =>
    rw [run_bytesToString (P := Try.prog) w a _ cap xs, push_all]
    · rfl
    · refine run_loadCells_list (P := Try.prog) w a _ (fun j u hj => ?_)
      have hj1 := (List.getElem?_eq_some_iff.1 hj).1
      obtain ⟨g, off, e, _, hc⟩ := hr (by omega)
      cases e
      rw [Addr.add_lit]
      exact hc j u hj
end Go.Proofs.Ytlncfeakcgjioaa
