/-
  No cell of these rows narrows 'for every input' (looked for: loops, veiled, ifaces, maps, wideKeys, modest, calm, conditions, laid).
  DERIVED. THE GIVEN ROWS OF THIS SEAT. 6 by the template 'for every input the law returns true; each argument reads behind the call as it read before'; 0 by the template 'total and deterministic' (their statements: YtonpeiknoifdbaaTotals.lean).
  GIVEN WITH THE SEED: the statements are not yours to turn. If you find one false, say at which input.
  Laid BY PROGRAM, IN A SANDBOX (cutbox-rows.mjs): the forced cells as the released guide's own fill.sh prints them over the translation 4deba1943035eee7… (all of the seat's roots in one cut). By AI agents, Wed Nov 11 2026. No macro, syntax, notation, axiom, sorry.
-/
import Derived.Test.YtonpeiknoifdbaaChecked
import GoSem.Claim
import GoSem.ClaimJoined
import GoSem.ClaimMapViews
import Derived.JoinedTies
import Derived.KernelRfl
namespace Go.Proofs.Ytonpeiknoifdbaa
/- THE CELL 'sum', in the pinned program and in every row, IS THE sha256 OF THE DUMP (.gsa) THAT YtonpeiknoifdbaaProg.lean LOADS. Nothing in Lean hashes anything: it is a label: what it is worth is what the hold of that sum in a sandbox is worth. -/
noncomputable def Try.pinned : Pinned := { name := "ytonpeiknoifdbaa", sum := "4deba1943035eee719a69ff83f7042670302c2b6395caebec9fc880f492cc6ad", checked := Try.checked }
namespace Rows
def none {H : Type} : Left H := { results := [], args := [] }

/-- 'laws.FnExactVecBytes': WHATEVER THE INPUT: true; the input reads as it did. -/
def fnExactVecBytesSpec : ChangeSpec := { name := "fnExactVecBytes", fn := fun _ => fun
  | [d] => { results := [.lit (.bool true)], args := [d] }
  | _ => none }
def fnExactVecBytesRow : OpenClaim := { program := "ytonpeiknoifdbaa", sum := "4deba1943035eee719a69ff83f7042670302c2b6395caebec9fc880f492cc6ad", func := "loop.example/g00028/laws.FnExactVecBytes", spec := "fnExactVecBytes", recurses := true, plainKeys := false, apart := false }
def FnExactVecBytesSaid : Prop := fnExactVecBytesRow.holds Try.pinned (OpenSpec.ofChange fnExactVecBytesSpec)

/-- ITS FALSE NEIGHBOUR: 'it returns false'. Refute it at one input. -/
def fnExactVecBytesWrong : ChangeSpec := { name := "fnExactVecBytes", fn := fun _ => fun
  | [d] => { results := [.lit (.bool false)], args := [d] }
  | _ => none }
def FnExactVecBytesWrongFalsely : Prop := fnExactVecBytesRow.holds Try.pinned (OpenSpec.ofChange fnExactVecBytesWrong)

/-- 'laws.FnExactRegJoin': WHATEVER THE INPUT: true; the input reads as it did. -/
def fnExactRegJoinSpec : ChangeSpec := { name := "fnExactRegJoin", fn := fun _ => fun
  | [d1, d2] => { results := [.lit (.bool true)], args := [d1, d2] }
  | _ => none }
def fnExactRegJoinRow : OpenClaim := { program := "ytonpeiknoifdbaa", sum := "4deba1943035eee719a69ff83f7042670302c2b6395caebec9fc880f492cc6ad", func := "loop.example/g00028/laws.FnExactRegJoin", spec := "fnExactRegJoin", unfollowed := true, recurses := true, plainKeys := false, apart := false }
def FnExactRegJoinSaid : Prop := fnExactRegJoinRow.holds Try.pinned (OpenSpec.ofChange fnExactRegJoinSpec)

/-- ITS FALSE NEIGHBOUR: 'it returns false'. Refute it at one input. -/
def fnExactRegJoinWrong : ChangeSpec := { name := "fnExactRegJoin", fn := fun _ => fun
  | [d1, d2] => { results := [.lit (.bool false)], args := [d1, d2] }
  | _ => none }
def FnExactRegJoinWrongFalsely : Prop := fnExactRegJoinRow.holds Try.pinned (OpenSpec.ofChange fnExactRegJoinWrong)

/-- 'laws.FnExactCounterValue': WHATEVER THE INPUT: true; the input reads as it did. -/
def fnExactCounterValueSpec : ChangeSpec := { name := "fnExactCounterValue", fn := fun _ => fun
  | [d] => { results := [.lit (.bool true)], args := [d] }
  | _ => none }
def fnExactCounterValueRow : OpenClaim := { program := "ytonpeiknoifdbaa", sum := "4deba1943035eee719a69ff83f7042670302c2b6395caebec9fc880f492cc6ad", func := "loop.example/g00028/laws.FnExactCounterValue", spec := "fnExactCounterValue", plainKeys := false, apart := false }
def FnExactCounterValueSaid : Prop := fnExactCounterValueRow.holds Try.pinned (OpenSpec.ofChange fnExactCounterValueSpec)

/-- ITS FALSE NEIGHBOUR: 'it returns false'. Refute it at one input. -/
def fnExactCounterValueWrong : ChangeSpec := { name := "fnExactCounterValue", fn := fun _ => fun
  | [d] => { results := [.lit (.bool false)], args := [d] }
  | _ => none }
def FnExactCounterValueWrongFalsely : Prop := fnExactCounterValueRow.holds Try.pinned (OpenSpec.ofChange fnExactCounterValueWrong)

/-- 'laws.FnExactCounterAdd': WHATEVER THE INPUT: true; the input reads as it did. -/
def fnExactCounterAddSpec : ChangeSpec := { name := "fnExactCounterAdd", fn := fun _ => fun
  | [d1, d2, d3] => { results := [.lit (.bool true)], args := [d1, d2, d3] }
  | _ => none }
def fnExactCounterAddRow : OpenClaim := { program := "ytonpeiknoifdbaa", sum := "4deba1943035eee719a69ff83f7042670302c2b6395caebec9fc880f492cc6ad", func := "loop.example/g00028/laws.FnExactCounterAdd", spec := "fnExactCounterAdd", plainKeys := false, apart := false }
def FnExactCounterAddSaid : Prop := fnExactCounterAddRow.holds Try.pinned (OpenSpec.ofChange fnExactCounterAddSpec)

/-- ITS FALSE NEIGHBOUR: 'it returns false'. Refute it at one input. -/
def fnExactCounterAddWrong : ChangeSpec := { name := "fnExactCounterAdd", fn := fun _ => fun
  | [d1, d2, d3] => { results := [.lit (.bool false)], args := [d1, d2, d3] }
  | _ => none }
def FnExactCounterAddWrongFalsely : Prop := fnExactCounterAddRow.holds Try.pinned (OpenSpec.ofChange fnExactCounterAddWrong)

/-- 'laws.FnExactCounterJoin': WHATEVER THE INPUT: true; the input reads as it did. -/
def fnExactCounterJoinSpec : ChangeSpec := { name := "fnExactCounterJoin", fn := fun _ => fun
  | [d1, d2] => { results := [.lit (.bool true)], args := [d1, d2] }
  | _ => none }
def fnExactCounterJoinRow : OpenClaim := { program := "ytonpeiknoifdbaa", sum := "4deba1943035eee719a69ff83f7042670302c2b6395caebec9fc880f492cc6ad", func := "loop.example/g00028/laws.FnExactCounterJoin", spec := "fnExactCounterJoin", plainKeys := false, apart := false }
def FnExactCounterJoinSaid : Prop := fnExactCounterJoinRow.holds Try.pinned (OpenSpec.ofChange fnExactCounterJoinSpec)

/-- ITS FALSE NEIGHBOUR: 'it returns false'. Refute it at one input. -/
def fnExactCounterJoinWrong : ChangeSpec := { name := "fnExactCounterJoin", fn := fun _ => fun
  | [d1, d2] => { results := [.lit (.bool false)], args := [d1, d2] }
  | _ => none }
def FnExactCounterJoinWrongFalsely : Prop := fnExactCounterJoinRow.holds Try.pinned (OpenSpec.ofChange fnExactCounterJoinWrong)

/-- 'laws.FnExactSetElements': WHATEVER THE INPUT: true; the input reads as it did. -/
def fnExactSetElementsSpec : ChangeSpec := { name := "fnExactSetElements", fn := fun _ => fun
  | [d] => { results := [.lit (.bool true)], args := [d] }
  | _ => none }
def fnExactSetElementsRow : OpenClaim := { program := "ytonpeiknoifdbaa", sum := "4deba1943035eee719a69ff83f7042670302c2b6395caebec9fc880f492cc6ad", func := "loop.example/g00028/laws.FnExactSetElements", spec := "fnExactSetElements", unfollowed := true, recurses := true, plainKeys := false, apart := false }
def FnExactSetElementsSaid : Prop := fnExactSetElementsRow.holds Try.pinned (OpenSpec.ofChange fnExactSetElementsSpec)

/-- ITS FALSE NEIGHBOUR: 'it returns false'. Refute it at one input. -/
def fnExactSetElementsWrong : ChangeSpec := { name := "fnExactSetElements", fn := fun _ => fun
  | [d] => { results := [.lit (.bool false)], args := [d] }
  | _ => none }
def FnExactSetElementsWrongFalsely : Prop := fnExactSetElementsRow.holds Try.pinned (OpenSpec.ofChange fnExactSetElementsWrong)

/- THE SECOND FORM. 'bulk': how many values and letters a reading holds, each counted each time it is reached (what is shared counts as often as it is met; a slice's spare places count too). A statement '..UptoSaid' is the law's where the arguments, and the package variables that the reading takes, are together of bulk at most 1048576: NARROWER than '..Said'. Prove '..Said' where nothing that the law and all that it calls make is longer than what came in: it says more and counts as full. Else prove '..UptoSaid'. A law counts once. -/
mutual
def uptoBulk {H : Type} : DataW H → Nat
  | .lit (.string bytes) => bytes.length + 1
  | .lit _ => 1
  | .nil => 1
  | .ptr d => uptoBulk d + 1
  | .slice elems spare => uptoBulkAll elems + uptoBulkAll spare + 1
  | .agg parts => uptoBulkAll parts + 1
  | .iface _ d => uptoBulk d + 1
  | .map entries => uptoBulkEntries entries + 1
  | .held _ => 1
def uptoBulkAll {H : Type} : List (DataW H) → Nat
  | [] => 0
  | d :: r => uptoBulk d + uptoBulkAll r
def uptoBulkEntries {H : Type} : List (Lit × DataW H) → Nat
  | [] => 0
  | x :: r => uptoBulkEntry x + uptoBulkEntries r
def uptoBulkEntry {H : Type} : Lit × DataW H → Nat
  | (.string bytes, d) => bytes.length + uptoBulk d + 1
  | (_, d) => uptoBulk d + 1
 end
def uptoSmall : (H : Type) → List (DataW H) → Bool := fun _ ds => decide (uptoBulkAll ds ≤ 1048576)
def OpenSpec.upto (s : _root_.Go.ChangeSpec) : _root_.Go.OpenSpec := { _root_.Go.OpenSpec.ofChange s with cond := some uptoSmall }

/-- 'laws.FnExactVecBytes', WHERE WHAT IT READS IS OF BULK AT MOST 1048576: true; the input reads as it did. -/
def fnExactVecBytesUptoRow : OpenClaim := { program := "ytonpeiknoifdbaa", sum := "4deba1943035eee719a69ff83f7042670302c2b6395caebec9fc880f492cc6ad", func := "loop.example/g00028/laws.FnExactVecBytes", spec := "fnExactVecBytes", recurses := true, plainKeys := false, apart := false, narrowed := true }
def FnExactVecBytesUptoSaid : Prop := fnExactVecBytesUptoRow.holds Try.pinned (OpenSpec.upto fnExactVecBytesSpec)

/-- 'laws.FnExactRegJoin', WHERE WHAT IT READS IS OF BULK AT MOST 1048576: true; the input reads as it did. -/
def fnExactRegJoinUptoRow : OpenClaim := { program := "ytonpeiknoifdbaa", sum := "4deba1943035eee719a69ff83f7042670302c2b6395caebec9fc880f492cc6ad", func := "loop.example/g00028/laws.FnExactRegJoin", spec := "fnExactRegJoin", unfollowed := true, recurses := true, plainKeys := false, apart := false, narrowed := true }
def FnExactRegJoinUptoSaid : Prop := fnExactRegJoinUptoRow.holds Try.pinned (OpenSpec.upto fnExactRegJoinSpec)

/-- 'laws.FnExactCounterValue', WHERE WHAT IT READS IS OF BULK AT MOST 1048576: true; the input reads as it did. -/
def fnExactCounterValueUptoRow : OpenClaim := { program := "ytonpeiknoifdbaa", sum := "4deba1943035eee719a69ff83f7042670302c2b6395caebec9fc880f492cc6ad", func := "loop.example/g00028/laws.FnExactCounterValue", spec := "fnExactCounterValue", plainKeys := false, apart := false, narrowed := true }
def FnExactCounterValueUptoSaid : Prop := fnExactCounterValueUptoRow.holds Try.pinned (OpenSpec.upto fnExactCounterValueSpec)

/-- 'laws.FnExactCounterAdd', WHERE WHAT IT READS IS OF BULK AT MOST 1048576: true; the input reads as it did. -/
def fnExactCounterAddUptoRow : OpenClaim := { program := "ytonpeiknoifdbaa", sum := "4deba1943035eee719a69ff83f7042670302c2b6395caebec9fc880f492cc6ad", func := "loop.example/g00028/laws.FnExactCounterAdd", spec := "fnExactCounterAdd", plainKeys := false, apart := false, narrowed := true }
def FnExactCounterAddUptoSaid : Prop := fnExactCounterAddUptoRow.holds Try.pinned (OpenSpec.upto fnExactCounterAddSpec)

/-- 'laws.FnExactCounterJoin', WHERE WHAT IT READS IS OF BULK AT MOST 1048576: true; the input reads as it did. -/
def fnExactCounterJoinUptoRow : OpenClaim := { program := "ytonpeiknoifdbaa", sum := "4deba1943035eee719a69ff83f7042670302c2b6395caebec9fc880f492cc6ad", func := "loop.example/g00028/laws.FnExactCounterJoin", spec := "fnExactCounterJoin", plainKeys := false, apart := false, narrowed := true }
def FnExactCounterJoinUptoSaid : Prop := fnExactCounterJoinUptoRow.holds Try.pinned (OpenSpec.upto fnExactCounterJoinSpec)

/-- 'laws.FnExactSetElements', WHERE WHAT IT READS IS OF BULK AT MOST 1048576: true; the input reads as it did. -/
def fnExactSetElementsUptoRow : OpenClaim := { program := "ytonpeiknoifdbaa", sum := "4deba1943035eee719a69ff83f7042670302c2b6395caebec9fc880f492cc6ad", func := "loop.example/g00028/laws.FnExactSetElements", spec := "fnExactSetElements", unfollowed := true, recurses := true, plainKeys := false, apart := false, narrowed := true }
def FnExactSetElementsUptoSaid : Prop := fnExactSetElementsUptoRow.holds Try.pinned (OpenSpec.upto fnExactSetElementsSpec)

end Rows
end Go.Proofs.Ytonpeiknoifdbaa
