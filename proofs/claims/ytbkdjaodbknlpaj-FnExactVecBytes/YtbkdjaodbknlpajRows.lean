/-
  No cell of these rows narrows 'for every input' (looked for: loops, veiled, ifaces, maps, wideKeys, modest, calm, conditions, laid).
  DERIVED. THE GIVEN ROWS OF THIS SEAT. 6 by the template 'for every input the law returns true; each argument reads behind the call as it read before'; 0 by the template 'total and deterministic' (their statements: YtbkdjaodbknlpajTotals.lean).
  GIVEN WITH THE SEED: the statements are not yours to turn. If you find one false, say at which input.
  Laid BY PROGRAM, IN A SANDBOX (cutbox-rows.mjs): the forced cells as the released guide's own fill.sh prints them over the translation 237f4bb81c915e68… (all of the seat's roots in one cut). By AI agents, Wed Nov 11 2026. No macro, syntax, notation, axiom, sorry.
-/
import Derived.Test.YtbkdjaodbknlpajChecked
import GoSem.Claim
import GoSem.ClaimJoined
import GoSem.ClaimMapViews
import Derived.JoinedTies
import Derived.KernelRfl
namespace Go.Proofs.Ytbkdjaodbknlpaj
/- THE CELL 'sum', in the pinned program and in every row, IS THE sha256 OF THE DUMP (.gsa) THAT YtbkdjaodbknlpajProg.lean LOADS. Nothing in Lean hashes anything: it is a label: what it is worth is what the hold of that sum in a sandbox is worth. -/
noncomputable def Try.pinned : Pinned := { name := "ytbkdjaodbknlpaj", sum := "237f4bb81c915e680e9d918928c53956d2e06f7443efbc86bd26e60196bf69b6", checked := Try.checked }
namespace Rows
def none {H : Type} : Left H := { results := [], args := [] }

/-- 'laws.FnExactVecMeet': WHATEVER THE INPUT: true; the input reads as it did. -/
def fnExactVecMeetSpec : ChangeSpec := { name := "fnExactVecMeet", fn := fun _ => fun
  | [d1, d2] => { results := [.lit (.bool true)], args := [d1, d2] }
  | _ => none }
def fnExactVecMeetRow : OpenClaim := { program := "ytbkdjaodbknlpaj", sum := "237f4bb81c915e680e9d918928c53956d2e06f7443efbc86bd26e60196bf69b6", func := "loop.example/g00028/laws.FnExactVecMeet", spec := "fnExactVecMeet", plainKeys := false, apart := false }
def FnExactVecMeetSaid : Prop := fnExactVecMeetRow.holds Try.pinned (OpenSpec.ofChange fnExactVecMeetSpec)

/-- ITS FALSE NEIGHBOUR: 'it returns false'. Refute it at one input. -/
def fnExactVecMeetWrong : ChangeSpec := { name := "fnExactVecMeet", fn := fun _ => fun
  | [d1, d2] => { results := [.lit (.bool false)], args := [d1, d2] }
  | _ => none }
def FnExactVecMeetWrongFalsely : Prop := fnExactVecMeetRow.holds Try.pinned (OpenSpec.ofChange fnExactVecMeetWrong)

/-- 'laws.FnExactVecOrder': WHATEVER THE INPUT: true; the input reads as it did. -/
def fnExactVecOrderSpec : ChangeSpec := { name := "fnExactVecOrder", fn := fun _ => fun
  | [d1, d2] => { results := [.lit (.bool true)], args := [d1, d2] }
  | _ => none }
def fnExactVecOrderRow : OpenClaim := { program := "ytbkdjaodbknlpaj", sum := "237f4bb81c915e680e9d918928c53956d2e06f7443efbc86bd26e60196bf69b6", func := "loop.example/g00028/laws.FnExactVecOrder", spec := "fnExactVecOrder", plainKeys := false, apart := false }
def FnExactVecOrderSaid : Prop := fnExactVecOrderRow.holds Try.pinned (OpenSpec.ofChange fnExactVecOrderSpec)

/-- ITS FALSE NEIGHBOUR: 'it returns false'. Refute it at one input. -/
def fnExactVecOrderWrong : ChangeSpec := { name := "fnExactVecOrder", fn := fun _ => fun
  | [d1, d2] => { results := [.lit (.bool false)], args := [d1, d2] }
  | _ => none }
def FnExactVecOrderWrongFalsely : Prop := fnExactVecOrderRow.holds Try.pinned (OpenSpec.ofChange fnExactVecOrderWrong)

/-- 'laws.FnExactVecBytes': WHATEVER THE INPUT: true; the input reads as it did. -/
def fnExactVecBytesSpec : ChangeSpec := { name := "fnExactVecBytes", fn := fun _ => fun
  | [d] => { results := [.lit (.bool true)], args := [d] }
  | _ => none }
def fnExactVecBytesRow : OpenClaim := { program := "ytbkdjaodbknlpaj", sum := "237f4bb81c915e680e9d918928c53956d2e06f7443efbc86bd26e60196bf69b6", func := "loop.example/g00028/laws.FnExactVecBytes", spec := "fnExactVecBytes", recurses := true, plainKeys := false, apart := false }
def FnExactVecBytesSaid : Prop := fnExactVecBytesRow.holds Try.pinned (OpenSpec.ofChange fnExactVecBytesSpec)

/-- ITS FALSE NEIGHBOUR: 'it returns false'. Refute it at one input. -/
def fnExactVecBytesWrong : ChangeSpec := { name := "fnExactVecBytes", fn := fun _ => fun
  | [d] => { results := [.lit (.bool false)], args := [d] }
  | _ => none }
def FnExactVecBytesWrongFalsely : Prop := fnExactVecBytesRow.holds Try.pinned (OpenSpec.ofChange fnExactVecBytesWrong)

/-- 'laws.FnExactReadVec': WHATEVER THE INPUT: true; the input reads as it did. -/
def fnExactReadVecSpec : ChangeSpec := { name := "fnExactReadVec", fn := fun _ => fun
  | [d] => { results := [.lit (.bool true)], args := [d] }
  | _ => none }
def fnExactReadVecRow : OpenClaim := { program := "ytbkdjaodbknlpaj", sum := "237f4bb81c915e680e9d918928c53956d2e06f7443efbc86bd26e60196bf69b6", func := "loop.example/g00028/laws.FnExactReadVec", spec := "fnExactReadVec", unfollowed := true, recurses := true, plainKeys := false, apart := false }
def FnExactReadVecSaid : Prop := fnExactReadVecRow.holds Try.pinned (OpenSpec.ofChange fnExactReadVecSpec)

/-- ITS FALSE NEIGHBOUR: 'it returns false'. Refute it at one input. -/
def fnExactReadVecWrong : ChangeSpec := { name := "fnExactReadVec", fn := fun _ => fun
  | [d] => { results := [.lit (.bool false)], args := [d] }
  | _ => none }
def FnExactReadVecWrongFalsely : Prop := fnExactReadVecRow.holds Try.pinned (OpenSpec.ofChange fnExactReadVecWrong)

/-- 'laws.FnExactRegJoin': WHATEVER THE INPUT: true; the input reads as it did. -/
def fnExactRegJoinSpec : ChangeSpec := { name := "fnExactRegJoin", fn := fun _ => fun
  | [d1, d2] => { results := [.lit (.bool true)], args := [d1, d2] }
  | _ => none }
def fnExactRegJoinRow : OpenClaim := { program := "ytbkdjaodbknlpaj", sum := "237f4bb81c915e680e9d918928c53956d2e06f7443efbc86bd26e60196bf69b6", func := "loop.example/g00028/laws.FnExactRegJoin", spec := "fnExactRegJoin", unfollowed := true, recurses := true, plainKeys := false, apart := false }
def FnExactRegJoinSaid : Prop := fnExactRegJoinRow.holds Try.pinned (OpenSpec.ofChange fnExactRegJoinSpec)

/-- ITS FALSE NEIGHBOUR: 'it returns false'. Refute it at one input. -/
def fnExactRegJoinWrong : ChangeSpec := { name := "fnExactRegJoin", fn := fun _ => fun
  | [d1, d2] => { results := [.lit (.bool false)], args := [d1, d2] }
  | _ => none }
def FnExactRegJoinWrongFalsely : Prop := fnExactRegJoinRow.holds Try.pinned (OpenSpec.ofChange fnExactRegJoinWrong)

/-- 'laws.FnExactMultiWrite': WHATEVER THE INPUT: true; the input reads as it did. -/
def fnExactMultiWriteSpec : ChangeSpec := { name := "fnExactMultiWrite", fn := fun _ => fun
  | [d1, d2, d3] => { results := [.lit (.bool true)], args := [d1, d2, d3] }
  | _ => none }
def fnExactMultiWriteRow : OpenClaim := { program := "ytbkdjaodbknlpaj", sum := "237f4bb81c915e680e9d918928c53956d2e06f7443efbc86bd26e60196bf69b6", func := "loop.example/g00028/laws.FnExactMultiWrite", spec := "fnExactMultiWrite", unfollowed := true, recurses := true, plainKeys := false, apart := false }
def FnExactMultiWriteSaid : Prop := fnExactMultiWriteRow.holds Try.pinned (OpenSpec.ofChange fnExactMultiWriteSpec)

/-- ITS FALSE NEIGHBOUR: 'it returns false'. Refute it at one input. -/
def fnExactMultiWriteWrong : ChangeSpec := { name := "fnExactMultiWrite", fn := fun _ => fun
  | [d1, d2, d3] => { results := [.lit (.bool false)], args := [d1, d2, d3] }
  | _ => none }
def FnExactMultiWriteWrongFalsely : Prop := fnExactMultiWriteRow.holds Try.pinned (OpenSpec.ofChange fnExactMultiWriteWrong)

/- THE SECOND FORM. 'bulk': how many values and letters a reading holds, each counted each time it is reached (what is shared counts as often as it is met; a slice's spare places count too). A statement '..UptoSaid' is the law's where the arguments, and the package variables that the reading takes, are together of bulk at most 1048576: NARROWER than '..Said'. Prove '..Said' where nothing that the law and all that it calls make is longer than what came in: it says more and counts as full. Else prove '..UptoSaid'. A law counts once. -/
mutual
def uptoBulk {H : Type} : DataW H → Nat
  | .lit (.string bytes) => bytes.length + 1
  | .lit _ => 1
  | .nil => 1
  | .ptr d => uptoBulk d + 1
  | .slice elems spare => uptoBulkAll elems + uptoBulkAll spare + 1
  | .agg parts => uptoBulkAll parts + 1
  | .iface _ d => uptoBulk d + 1
  | .map entries => uptoBulkEntries entries + 1
  | .held _ => 1
def uptoBulkAll {H : Type} : List (DataW H) → Nat
  | [] => 0
  | d :: r => uptoBulk d + uptoBulkAll r
def uptoBulkEntries {H : Type} : List (Lit × DataW H) → Nat
  | [] => 0
  | x :: r => uptoBulkEntry x + uptoBulkEntries r
def uptoBulkEntry {H : Type} : Lit × DataW H → Nat
  | (.string bytes, d) => bytes.length + uptoBulk d + 1
  | (_, d) => uptoBulk d + 1
 end
def uptoSmall : (H : Type) → List (DataW H) → Bool := fun _ ds => decide (uptoBulkAll ds ≤ 1048576)
def OpenSpec.upto (s : _root_.Go.ChangeSpec) : _root_.Go.OpenSpec := { _root_.Go.OpenSpec.ofChange s with cond := some uptoSmall }

/-- 'laws.FnExactVecMeet', WHERE WHAT IT READS IS OF BULK AT MOST 1048576: true; the input reads as it did. -/
def fnExactVecMeetUptoRow : OpenClaim := { program := "ytbkdjaodbknlpaj", sum := "237f4bb81c915e680e9d918928c53956d2e06f7443efbc86bd26e60196bf69b6", func := "loop.example/g00028/laws.FnExactVecMeet", spec := "fnExactVecMeet", plainKeys := false, apart := false, narrowed := true }
def FnExactVecMeetUptoSaid : Prop := fnExactVecMeetUptoRow.holds Try.pinned (OpenSpec.upto fnExactVecMeetSpec)

/-- 'laws.FnExactVecOrder', WHERE WHAT IT READS IS OF BULK AT MOST 1048576: true; the input reads as it did. -/
def fnExactVecOrderUptoRow : OpenClaim := { program := "ytbkdjaodbknlpaj", sum := "237f4bb81c915e680e9d918928c53956d2e06f7443efbc86bd26e60196bf69b6", func := "loop.example/g00028/laws.FnExactVecOrder", spec := "fnExactVecOrder", plainKeys := false, apart := false, narrowed := true }
def FnExactVecOrderUptoSaid : Prop := fnExactVecOrderUptoRow.holds Try.pinned (OpenSpec.upto fnExactVecOrderSpec)

/-- 'laws.FnExactVecBytes', WHERE WHAT IT READS IS OF BULK AT MOST 1048576: true; the input reads as it did. -/
def fnExactVecBytesUptoRow : OpenClaim := { program := "ytbkdjaodbknlpaj", sum := "237f4bb81c915e680e9d918928c53956d2e06f7443efbc86bd26e60196bf69b6", func := "loop.example/g00028/laws.FnExactVecBytes", spec := "fnExactVecBytes", recurses := true, plainKeys := false, apart := false, narrowed := true }
def FnExactVecBytesUptoSaid : Prop := fnExactVecBytesUptoRow.holds Try.pinned (OpenSpec.upto fnExactVecBytesSpec)

/-- 'laws.FnExactReadVec', WHERE WHAT IT READS IS OF BULK AT MOST 1048576: true; the input reads as it did. -/
def fnExactReadVecUptoRow : OpenClaim := { program := "ytbkdjaodbknlpaj", sum := "237f4bb81c915e680e9d918928c53956d2e06f7443efbc86bd26e60196bf69b6", func := "loop.example/g00028/laws.FnExactReadVec", spec := "fnExactReadVec", unfollowed := true, recurses := true, plainKeys := false, apart := false, narrowed := true }
def FnExactReadVecUptoSaid : Prop := fnExactReadVecUptoRow.holds Try.pinned (OpenSpec.upto fnExactReadVecSpec)

/-- 'laws.FnExactRegJoin', WHERE WHAT IT READS IS OF BULK AT MOST 1048576: true; the input reads as it did. -/
def fnExactRegJoinUptoRow : OpenClaim := { program := "ytbkdjaodbknlpaj", sum := "237f4bb81c915e680e9d918928c53956d2e06f7443efbc86bd26e60196bf69b6", func := "loop.example/g00028/laws.FnExactRegJoin", spec := "fnExactRegJoin", unfollowed := true, recurses := true, plainKeys := false, apart := false, narrowed := true }
def FnExactRegJoinUptoSaid : Prop := fnExactRegJoinUptoRow.holds Try.pinned (OpenSpec.upto fnExactRegJoinSpec)

/-- 'laws.FnExactMultiWrite', WHERE WHAT IT READS IS OF BULK AT MOST 1048576: true; the input reads as it did. -/
def fnExactMultiWriteUptoRow : OpenClaim := { program := "ytbkdjaodbknlpaj", sum := "237f4bb81c915e680e9d918928c53956d2e06f7443efbc86bd26e60196bf69b6", func := "loop.example/g00028/laws.FnExactMultiWrite", spec := "fnExactMultiWrite", unfollowed := true, recurses := true, plainKeys := false, apart := false, narrowed := true }
def FnExactMultiWriteUptoSaid : Prop := fnExactMultiWriteUptoRow.holds Try.pinned (OpenSpec.upto fnExactMultiWriteSpec)

end Rows
end Go.Proofs.Ytbkdjaodbknlpaj
