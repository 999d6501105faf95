/- What toIntS, eqIntS, markIntS and heldIntS do. -/
import Derived.Test.YtonpeiknoifdbabInfo
namespace Go.Proofs.Ytonpeiknoifdbab
open Go.RowKit
set_option linter.unusedVariables false

theorem info3 : (Try.prog.info? 3).map (fun i => (i.zero, i.size, i.bytes)) = some (some (.int .i64 0), 1, 8) := by kernel_rfl
/-- What is written over m numbers, from q on. -/
def marksI (q m : Nat) : List Int := (List.range m).map fun i => ((q + i : Nat) : Int)
theorem marksI_len (q m : Nat) : (marksI q m).length = m := by simp [marksI]
theorem marksI_get {q m k : Nat} (h : k < m) : (marksI q m)[k]? = some ((q + k : Nat) : Int) := by simp [marksI, h]
theorem markI_step (q k : Nat) (cs : List Value) (h : k < cs.length) : ((marksI q k).map (Value.int .i64) ++ cs.drop k).set k (Value.int .i64 ((q + k : Nat) : Int)) = (marksI q (k + 1)).map (Value.int .i64) ++ cs.drop (k + 1) := by
  have e : ∀ m, (marksI q m).map (Value.int .i64) = (List.range m).map (fun i => Value.int .i64 ((q + i : Nat) : Int)) := fun m => by simp [marksI]
  rw [e, e]
  exact range_step (fun i => Value.int .i64 ((q + i : Nat) : Int)) k cs h

end Go.Proofs.Ytonpeiknoifdbab
