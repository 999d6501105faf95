/-
  No cell of these rows narrows 'for every input' (looked for: loops, veiled, ifaces, maps, wideKeys, modest, calm, conditions, laid).
  DERIVED. THE GIVEN ROWS OF THIS SEAT. 5 by the template 'for every input the law returns true; each argument reads behind the call as it read before'; 0 by the template 'total and deterministic' (their statements: YtdkfeabpnikedaaTotals.lean).
  GIVEN WITH THE SEED: the statements are not yours to turn. If you find one false, say at which input.
  Laid BY PROGRAM, IN A SANDBOX (cutbox-rows.mjs): the forced cells as the released guide's own fill.sh prints them over the translation 961e9d6a4f6a48b9… (all of the seat's roots in one cut). By AI agents, Wed Nov 11 2026. No macro, syntax, notation, axiom, sorry.
-/
import Derived.Test.YtdkfeabpnikedaaChecked
import GoSem.Claim
import GoSem.ClaimJoined
import GoSem.ClaimMapViews
import Derived.JoinedTies
import Derived.KernelRfl
namespace Go.Proofs.Ytdkfeabpnikedaa
/- THE CELL 'sum', in the pinned program and in every row, IS THE sha256 OF THE DUMP (.gsa) THAT YtdkfeabpnikedaaProg.lean LOADS. Nothing in Lean hashes anything: it is a label: what it is worth is what the hold of that sum in a sandbox is worth. -/
noncomputable def Try.pinned : Pinned := { name := "ytdkfeabpnikedaa", sum := "961e9d6a4f6a48b9ab0beb5002be4dcb6aefa755229f20498c0a179db13ddb27", checked := Try.checked }
namespace Rows
def none {H : Type} : Left H := { results := [], args := [] }

/-- 'laws.FnExactMultiWrite': WHATEVER THE INPUT: true; the input reads as it did. -/
def fnExactMultiWriteSpec : ChangeSpec := { name := "fnExactMultiWrite", fn := fun _ => fun
  | [d1, d2, d3] => { results := [.lit (.bool true)], args := [d1, d2, d3] }
  | _ => none }
def fnExactMultiWriteRow : OpenClaim := { program := "ytdkfeabpnikedaa", sum := "961e9d6a4f6a48b9ab0beb5002be4dcb6aefa755229f20498c0a179db13ddb27", func := "loop.example/g00028/laws.FnExactMultiWrite", spec := "fnExactMultiWrite", unfollowed := true, recurses := true, plainKeys := false, apart := false }
def FnExactMultiWriteSaid : Prop := fnExactMultiWriteRow.holds Try.pinned (OpenSpec.ofChange fnExactMultiWriteSpec)

/-- ITS FALSE NEIGHBOUR: 'it returns false'. Refute it at one input. -/
def fnExactMultiWriteWrong : ChangeSpec := { name := "fnExactMultiWrite", fn := fun _ => fun
  | [d1, d2, d3] => { results := [.lit (.bool false)], args := [d1, d2, d3] }
  | _ => none }
def FnExactMultiWriteWrongFalsely : Prop := fnExactMultiWriteRow.holds Try.pinned (OpenSpec.ofChange fnExactMultiWriteWrong)

/-- 'laws.FnExactMultiJoin': WHATEVER THE INPUT: true; the input reads as it did. -/
def fnExactMultiJoinSpec : ChangeSpec := { name := "fnExactMultiJoin", fn := fun _ => fun
  | [d1, d2] => { results := [.lit (.bool true)], args := [d1, d2] }
  | _ => none }
def fnExactMultiJoinRow : OpenClaim := { program := "ytdkfeabpnikedaa", sum := "961e9d6a4f6a48b9ab0beb5002be4dcb6aefa755229f20498c0a179db13ddb27", func := "loop.example/g00028/laws.FnExactMultiJoin", spec := "fnExactMultiJoin", unfollowed := true, recurses := true, plainKeys := false, apart := false }
def FnExactMultiJoinSaid : Prop := fnExactMultiJoinRow.holds Try.pinned (OpenSpec.ofChange fnExactMultiJoinSpec)

/-- ITS FALSE NEIGHBOUR: 'it returns false'. Refute it at one input. -/
def fnExactMultiJoinWrong : ChangeSpec := { name := "fnExactMultiJoin", fn := fun _ => fun
  | [d1, d2] => { results := [.lit (.bool false)], args := [d1, d2] }
  | _ => none }
def FnExactMultiJoinWrongFalsely : Prop := fnExactMultiJoinRow.holds Try.pinned (OpenSpec.ofChange fnExactMultiJoinWrong)

/-- 'laws.FnExactSetAdd': WHATEVER THE INPUT: true; the input reads as it did. -/
def fnExactSetAddSpec : ChangeSpec := { name := "fnExactSetAdd", fn := fun _ => fun
  | [d1, d2, d3] => { results := [.lit (.bool true)], args := [d1, d2, d3] }
  | _ => none }
def fnExactSetAddRow : OpenClaim := { program := "ytdkfeabpnikedaa", sum := "961e9d6a4f6a48b9ab0beb5002be4dcb6aefa755229f20498c0a179db13ddb27", func := "loop.example/g00028/laws.FnExactSetAdd", spec := "fnExactSetAdd", unfollowed := true, recurses := true, plainKeys := false, apart := false }
def FnExactSetAddSaid : Prop := fnExactSetAddRow.holds Try.pinned (OpenSpec.ofChange fnExactSetAddSpec)

/-- ITS FALSE NEIGHBOUR: 'it returns false'. Refute it at one input. -/
def fnExactSetAddWrong : ChangeSpec := { name := "fnExactSetAdd", fn := fun _ => fun
  | [d1, d2, d3] => { results := [.lit (.bool false)], args := [d1, d2, d3] }
  | _ => none }
def FnExactSetAddWrongFalsely : Prop := fnExactSetAddRow.holds Try.pinned (OpenSpec.ofChange fnExactSetAddWrong)

/-- 'laws.FnExactSetRemove': WHATEVER THE INPUT: true; the input reads as it did. -/
def fnExactSetRemoveSpec : ChangeSpec := { name := "fnExactSetRemove", fn := fun _ => fun
  | [d1, d2] => { results := [.lit (.bool true)], args := [d1, d2] }
  | _ => none }
def fnExactSetRemoveRow : OpenClaim := { program := "ytdkfeabpnikedaa", sum := "961e9d6a4f6a48b9ab0beb5002be4dcb6aefa755229f20498c0a179db13ddb27", func := "loop.example/g00028/laws.FnExactSetRemove", spec := "fnExactSetRemove", unfollowed := true, recurses := true, plainKeys := false, apart := false }
def FnExactSetRemoveSaid : Prop := fnExactSetRemoveRow.holds Try.pinned (OpenSpec.ofChange fnExactSetRemoveSpec)

/-- ITS FALSE NEIGHBOUR: 'it returns false'. Refute it at one input. -/
def fnExactSetRemoveWrong : ChangeSpec := { name := "fnExactSetRemove", fn := fun _ => fun
  | [d1, d2] => { results := [.lit (.bool false)], args := [d1, d2] }
  | _ => none }
def FnExactSetRemoveWrongFalsely : Prop := fnExactSetRemoveRow.holds Try.pinned (OpenSpec.ofChange fnExactSetRemoveWrong)

/-- 'laws.FnExactSetJoin': WHATEVER THE INPUT: true; the input reads as it did. -/
def fnExactSetJoinSpec : ChangeSpec := { name := "fnExactSetJoin", fn := fun _ => fun
  | [d1, d2] => { results := [.lit (.bool true)], args := [d1, d2] }
  | _ => none }
def fnExactSetJoinRow : OpenClaim := { program := "ytdkfeabpnikedaa", sum := "961e9d6a4f6a48b9ab0beb5002be4dcb6aefa755229f20498c0a179db13ddb27", func := "loop.example/g00028/laws.FnExactSetJoin", spec := "fnExactSetJoin", unfollowed := true, recurses := true, plainKeys := false, apart := false }
def FnExactSetJoinSaid : Prop := fnExactSetJoinRow.holds Try.pinned (OpenSpec.ofChange fnExactSetJoinSpec)

/-- ITS FALSE NEIGHBOUR: 'it returns false'. Refute it at one input. -/
def fnExactSetJoinWrong : ChangeSpec := { name := "fnExactSetJoin", fn := fun _ => fun
  | [d1, d2] => { results := [.lit (.bool false)], args := [d1, d2] }
  | _ => none }
def FnExactSetJoinWrongFalsely : Prop := fnExactSetJoinRow.holds Try.pinned (OpenSpec.ofChange fnExactSetJoinWrong)

/- THE SECOND FORM. 'bulk': how many values and letters a reading holds, each counted each time it is reached (what is shared counts as often as it is met; a slice's spare places count too). A statement '..UptoSaid' is the law's where the arguments, and the package variables that the reading takes, are together of bulk at most 1048576: NARROWER than '..Said'. Prove '..Said' where nothing that the law and all that it calls make is longer than what came in: it says more and counts as full. Else prove '..UptoSaid'. A law counts once. -/
mutual
def uptoBulk {H : Type} : DataW H → Nat
  | .lit (.string bytes) => bytes.length + 1
  | .lit _ => 1
  | .nil => 1
  | .ptr d => uptoBulk d + 1
  | .slice elems spare => uptoBulkAll elems + uptoBulkAll spare + 1
  | .agg parts => uptoBulkAll parts + 1
  | .iface _ d => uptoBulk d + 1
  | .map entries => uptoBulkEntries entries + 1
  | .held _ => 1
def uptoBulkAll {H : Type} : List (DataW H) → Nat
  | [] => 0
  | d :: r => uptoBulk d + uptoBulkAll r
def uptoBulkEntries {H : Type} : List (Lit × DataW H) → Nat
  | [] => 0
  | x :: r => uptoBulkEntry x + uptoBulkEntries r
def uptoBulkEntry {H : Type} : Lit × DataW H → Nat
  | (.string bytes, d) => bytes.length + uptoBulk d + 1
  | (_, d) => uptoBulk d + 1
 end
def uptoSmall : (H : Type) → List (DataW H) → Bool := fun _ ds => decide (uptoBulkAll ds ≤ 1048576)
def OpenSpec.upto (s : _root_.Go.ChangeSpec) : _root_.Go.OpenSpec := { _root_.Go.OpenSpec.ofChange s with cond := some uptoSmall }

/-- 'laws.FnExactMultiWrite', WHERE WHAT IT READS IS OF BULK AT MOST 1048576: true; the input reads as it did. -/
def fnExactMultiWriteUptoRow : OpenClaim := { program := "ytdkfeabpnikedaa", sum := "961e9d6a4f6a48b9ab0beb5002be4dcb6aefa755229f20498c0a179db13ddb27", func := "loop.example/g00028/laws.FnExactMultiWrite", spec := "fnExactMultiWrite", unfollowed := true, recurses := true, plainKeys := false, apart := false, narrowed := true }
def FnExactMultiWriteUptoSaid : Prop := fnExactMultiWriteUptoRow.holds Try.pinned (OpenSpec.upto fnExactMultiWriteSpec)

/-- 'laws.FnExactMultiJoin', WHERE WHAT IT READS IS OF BULK AT MOST 1048576: true; the input reads as it did. -/
def fnExactMultiJoinUptoRow : OpenClaim := { program := "ytdkfeabpnikedaa", sum := "961e9d6a4f6a48b9ab0beb5002be4dcb6aefa755229f20498c0a179db13ddb27", func := "loop.example/g00028/laws.FnExactMultiJoin", spec := "fnExactMultiJoin", unfollowed := true, recurses := true, plainKeys := false, apart := false, narrowed := true }
def FnExactMultiJoinUptoSaid : Prop := fnExactMultiJoinUptoRow.holds Try.pinned (OpenSpec.upto fnExactMultiJoinSpec)

/-- 'laws.FnExactSetAdd', WHERE WHAT IT READS IS OF BULK AT MOST 1048576: true; the input reads as it did. -/
def fnExactSetAddUptoRow : OpenClaim := { program := "ytdkfeabpnikedaa", sum := "961e9d6a4f6a48b9ab0beb5002be4dcb6aefa755229f20498c0a179db13ddb27", func := "loop.example/g00028/laws.FnExactSetAdd", spec := "fnExactSetAdd", unfollowed := true, recurses := true, plainKeys := false, apart := false, narrowed := true }
def FnExactSetAddUptoSaid : Prop := fnExactSetAddUptoRow.holds Try.pinned (OpenSpec.upto fnExactSetAddSpec)

/-- 'laws.FnExactSetRemove', WHERE WHAT IT READS IS OF BULK AT MOST 1048576: true; the input reads as it did. -/
def fnExactSetRemoveUptoRow : OpenClaim := { program := "ytdkfeabpnikedaa", sum := "961e9d6a4f6a48b9ab0beb5002be4dcb6aefa755229f20498c0a179db13ddb27", func := "loop.example/g00028/laws.FnExactSetRemove", spec := "fnExactSetRemove", unfollowed := true, recurses := true, plainKeys := false, apart := false, narrowed := true }
def FnExactSetRemoveUptoSaid : Prop := fnExactSetRemoveUptoRow.holds Try.pinned (OpenSpec.upto fnExactSetRemoveSpec)

/-- 'laws.FnExactSetJoin', WHERE WHAT IT READS IS OF BULK AT MOST 1048576: true; the input reads as it did. -/
def fnExactSetJoinUptoRow : OpenClaim := { program := "ytdkfeabpnikedaa", sum := "961e9d6a4f6a48b9ab0beb5002be4dcb6aefa755229f20498c0a179db13ddb27", func := "loop.example/g00028/laws.FnExactSetJoin", spec := "fnExactSetJoin", unfollowed := true, recurses := true, plainKeys := false, apart := false, narrowed := true }
def FnExactSetJoinUptoSaid : Prop := fnExactSetJoinUptoRow.holds Try.pinned (OpenSpec.upto fnExactSetJoinSpec)

end Rows
end Go.Proofs.Ytdkfeabpnikedaa
