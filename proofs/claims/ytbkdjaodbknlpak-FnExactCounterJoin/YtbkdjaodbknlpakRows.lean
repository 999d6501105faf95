/-
  No cell of these rows narrows 'for every input' (looked for: loops, veiled, ifaces, maps, wideKeys, modest, calm, conditions, laid).
  DERIVED. THE GIVEN ROWS OF THIS SEAT. 6 by the template 'for every input the law returns true; each argument reads behind the call as it read before'; 0 by the template 'total and deterministic' (their statements: YtbkdjaodbknlpakTotals.lean).
  GIVEN WITH THE SEED: the statements are not yours to turn. If you find one false, say at which input.
  Laid BY PROGRAM, IN A SANDBOX (cutbox-rows.mjs): the forced cells as the released guide's own fill.sh prints them over the translation 9bee0cff9814e9a0… (all of the seat's roots in one cut). By AI agents, Wed Nov 11 2026. No macro, syntax, notation, axiom, sorry.
-/
import Derived.Test.YtbkdjaodbknlpakChecked
import GoSem.Claim
import GoSem.ClaimJoined
import GoSem.ClaimMapViews
import Derived.JoinedTies
import Derived.KernelRfl
namespace Go.Proofs.Ytbkdjaodbknlpak
/- THE CELL 'sum', in the pinned program and in every row, IS THE sha256 OF THE DUMP (.gsa) THAT YtbkdjaodbknlpakProg.lean LOADS. Nothing in Lean hashes anything: it is a label: what it is worth is what the hold of that sum in a sandbox is worth. -/
noncomputable def Try.pinned : Pinned := { name := "ytbkdjaodbknlpak", sum := "9bee0cff9814e9a08d8e60428e353f06f914cfc61d79ad73e09be55e455efe18", checked := Try.checked }
namespace Rows
def none {H : Type} : Left H := { results := [], args := [] }

/-- 'laws.FnExactMultiJoin': WHATEVER THE INPUT: true; the input reads as it did. -/
def fnExactMultiJoinSpec : ChangeSpec := { name := "fnExactMultiJoin", fn := fun _ => fun
  | [d1, d2] => { results := [.lit (.bool true)], args := [d1, d2] }
  | _ => none }
def fnExactMultiJoinRow : OpenClaim := { program := "ytbkdjaodbknlpak", sum := "9bee0cff9814e9a08d8e60428e353f06f914cfc61d79ad73e09be55e455efe18", func := "loop.example/g00028/laws.FnExactMultiJoin", spec := "fnExactMultiJoin", unfollowed := true, recurses := true, plainKeys := false, apart := false }
def FnExactMultiJoinSaid : Prop := fnExactMultiJoinRow.holds Try.pinned (OpenSpec.ofChange fnExactMultiJoinSpec)

/-- ITS FALSE NEIGHBOUR: 'it returns false'. Refute it at one input. -/
def fnExactMultiJoinWrong : ChangeSpec := { name := "fnExactMultiJoin", fn := fun _ => fun
  | [d1, d2] => { results := [.lit (.bool false)], args := [d1, d2] }
  | _ => none }
def FnExactMultiJoinWrongFalsely : Prop := fnExactMultiJoinRow.holds Try.pinned (OpenSpec.ofChange fnExactMultiJoinWrong)

/-- 'laws.FnExactCounterAdd': WHATEVER THE INPUT: true; the input reads as it did. -/
def fnExactCounterAddSpec : ChangeSpec := { name := "fnExactCounterAdd", fn := fun _ => fun
  | [d1, d2, d3] => { results := [.lit (.bool true)], args := [d1, d2, d3] }
  | _ => none }
def fnExactCounterAddRow : OpenClaim := { program := "ytbkdjaodbknlpak", sum := "9bee0cff9814e9a08d8e60428e353f06f914cfc61d79ad73e09be55e455efe18", func := "loop.example/g00028/laws.FnExactCounterAdd", spec := "fnExactCounterAdd", plainKeys := false, apart := false }
def FnExactCounterAddSaid : Prop := fnExactCounterAddRow.holds Try.pinned (OpenSpec.ofChange fnExactCounterAddSpec)

/-- ITS FALSE NEIGHBOUR: 'it returns false'. Refute it at one input. -/
def fnExactCounterAddWrong : ChangeSpec := { name := "fnExactCounterAdd", fn := fun _ => fun
  | [d1, d2, d3] => { results := [.lit (.bool false)], args := [d1, d2, d3] }
  | _ => none }
def FnExactCounterAddWrongFalsely : Prop := fnExactCounterAddRow.holds Try.pinned (OpenSpec.ofChange fnExactCounterAddWrong)

/-- 'laws.FnExactCounterJoin': WHATEVER THE INPUT: true; the input reads as it did. -/
def fnExactCounterJoinSpec : ChangeSpec := { name := "fnExactCounterJoin", fn := fun _ => fun
  | [d1, d2] => { results := [.lit (.bool true)], args := [d1, d2] }
  | _ => none }
def fnExactCounterJoinRow : OpenClaim := { program := "ytbkdjaodbknlpak", sum := "9bee0cff9814e9a08d8e60428e353f06f914cfc61d79ad73e09be55e455efe18", func := "loop.example/g00028/laws.FnExactCounterJoin", spec := "fnExactCounterJoin", plainKeys := false, apart := false }
def FnExactCounterJoinSaid : Prop := fnExactCounterJoinRow.holds Try.pinned (OpenSpec.ofChange fnExactCounterJoinSpec)

/-- ITS FALSE NEIGHBOUR: 'it returns false'. Refute it at one input. -/
def fnExactCounterJoinWrong : ChangeSpec := { name := "fnExactCounterJoin", fn := fun _ => fun
  | [d1, d2] => { results := [.lit (.bool false)], args := [d1, d2] }
  | _ => none }
def FnExactCounterJoinWrongFalsely : Prop := fnExactCounterJoinRow.holds Try.pinned (OpenSpec.ofChange fnExactCounterJoinWrong)

/-- 'laws.FnExactCounterValue': WHATEVER THE INPUT: true; the input reads as it did. -/
def fnExactCounterValueSpec : ChangeSpec := { name := "fnExactCounterValue", fn := fun _ => fun
  | [d] => { results := [.lit (.bool true)], args := [d] }
  | _ => none }
def fnExactCounterValueRow : OpenClaim := { program := "ytbkdjaodbknlpak", sum := "9bee0cff9814e9a08d8e60428e353f06f914cfc61d79ad73e09be55e455efe18", func := "loop.example/g00028/laws.FnExactCounterValue", spec := "fnExactCounterValue", plainKeys := false, apart := false }
def FnExactCounterValueSaid : Prop := fnExactCounterValueRow.holds Try.pinned (OpenSpec.ofChange fnExactCounterValueSpec)

/-- ITS FALSE NEIGHBOUR: 'it returns false'. Refute it at one input. -/
def fnExactCounterValueWrong : ChangeSpec := { name := "fnExactCounterValue", fn := fun _ => fun
  | [d] => { results := [.lit (.bool false)], args := [d] }
  | _ => none }
def FnExactCounterValueWrongFalsely : Prop := fnExactCounterValueRow.holds Try.pinned (OpenSpec.ofChange fnExactCounterValueWrong)

/-- 'laws.FnExactSetAdd': WHATEVER THE INPUT: true; the input reads as it did. -/
def fnExactSetAddSpec : ChangeSpec := { name := "fnExactSetAdd", fn := fun _ => fun
  | [d1, d2, d3] => { results := [.lit (.bool true)], args := [d1, d2, d3] }
  | _ => none }
def fnExactSetAddRow : OpenClaim := { program := "ytbkdjaodbknlpak", sum := "9bee0cff9814e9a08d8e60428e353f06f914cfc61d79ad73e09be55e455efe18", func := "loop.example/g00028/laws.FnExactSetAdd", spec := "fnExactSetAdd", unfollowed := true, recurses := true, plainKeys := false, apart := false }
def FnExactSetAddSaid : Prop := fnExactSetAddRow.holds Try.pinned (OpenSpec.ofChange fnExactSetAddSpec)

/-- ITS FALSE NEIGHBOUR: 'it returns false'. Refute it at one input. -/
def fnExactSetAddWrong : ChangeSpec := { name := "fnExactSetAdd", fn := fun _ => fun
  | [d1, d2, d3] => { results := [.lit (.bool false)], args := [d1, d2, d3] }
  | _ => none }
def FnExactSetAddWrongFalsely : Prop := fnExactSetAddRow.holds Try.pinned (OpenSpec.ofChange fnExactSetAddWrong)

/-- 'laws.FnExactSetRemove': WHATEVER THE INPUT: true; the input reads as it did. -/
def fnExactSetRemoveSpec : ChangeSpec := { name := "fnExactSetRemove", fn := fun _ => fun
  | [d1, d2] => { results := [.lit (.bool true)], args := [d1, d2] }
  | _ => none }
def fnExactSetRemoveRow : OpenClaim := { program := "ytbkdjaodbknlpak", sum := "9bee0cff9814e9a08d8e60428e353f06f914cfc61d79ad73e09be55e455efe18", func := "loop.example/g00028/laws.FnExactSetRemove", spec := "fnExactSetRemove", unfollowed := true, recurses := true, plainKeys := false, apart := false }
def FnExactSetRemoveSaid : Prop := fnExactSetRemoveRow.holds Try.pinned (OpenSpec.ofChange fnExactSetRemoveSpec)

/-- ITS FALSE NEIGHBOUR: 'it returns false'. Refute it at one input. -/
def fnExactSetRemoveWrong : ChangeSpec := { name := "fnExactSetRemove", fn := fun _ => fun
  | [d1, d2] => { results := [.lit (.bool false)], args := [d1, d2] }
  | _ => none }
def FnExactSetRemoveWrongFalsely : Prop := fnExactSetRemoveRow.holds Try.pinned (OpenSpec.ofChange fnExactSetRemoveWrong)

/- THE SECOND FORM. 'bulk': how many values and letters a reading holds, each counted each time it is reached (what is shared counts as often as it is met; a slice's spare places count too). A statement '..UptoSaid' is the law's where the arguments, and the package variables that the reading takes, are together of bulk at most 1048576: NARROWER than '..Said'. Prove '..Said' where nothing that the law and all that it calls make is longer than what came in: it says more and counts as full. Else prove '..UptoSaid'. A law counts once. -/
mutual
def uptoBulk {H : Type} : DataW H → Nat
  | .lit (.string bytes) => bytes.length + 1
  | .lit _ => 1
  | .nil => 1
  | .ptr d => uptoBulk d + 1
  | .slice elems spare => uptoBulkAll elems + uptoBulkAll spare + 1
  | .agg parts => uptoBulkAll parts + 1
  | .iface _ d => uptoBulk d + 1
  | .map entries => uptoBulkEntries entries + 1
  | .held _ => 1
def uptoBulkAll {H : Type} : List (DataW H) → Nat
  | [] => 0
  | d :: r => uptoBulk d + uptoBulkAll r
def uptoBulkEntries {H : Type} : List (Lit × DataW H) → Nat
  | [] => 0
  | x :: r => uptoBulkEntry x + uptoBulkEntries r
def uptoBulkEntry {H : Type} : Lit × DataW H → Nat
  | (.string bytes, d) => bytes.length + uptoBulk d + 1
  | (_, d) => uptoBulk d + 1
 end
def uptoSmall : (H : Type) → List (DataW H) → Bool := fun _ ds => decide (uptoBulkAll ds ≤ 1048576)
def OpenSpec.upto (s : _root_.Go.ChangeSpec) : _root_.Go.OpenSpec := { _root_.Go.OpenSpec.ofChange s with cond := some uptoSmall }

/-- 'laws.FnExactMultiJoin', WHERE WHAT IT READS IS OF BULK AT MOST 1048576: true; the input reads as it did. -/
def fnExactMultiJoinUptoRow : OpenClaim := { program := "ytbkdjaodbknlpak", sum := "9bee0cff9814e9a08d8e60428e353f06f914cfc61d79ad73e09be55e455efe18", func := "loop.example/g00028/laws.FnExactMultiJoin", spec := "fnExactMultiJoin", unfollowed := true, recurses := true, plainKeys := false, apart := false, narrowed := true }
def FnExactMultiJoinUptoSaid : Prop := fnExactMultiJoinUptoRow.holds Try.pinned (OpenSpec.upto fnExactMultiJoinSpec)

/-- 'laws.FnExactCounterAdd', WHERE WHAT IT READS IS OF BULK AT MOST 1048576: true; the input reads as it did. -/
def fnExactCounterAddUptoRow : OpenClaim := { program := "ytbkdjaodbknlpak", sum := "9bee0cff9814e9a08d8e60428e353f06f914cfc61d79ad73e09be55e455efe18", func := "loop.example/g00028/laws.FnExactCounterAdd", spec := "fnExactCounterAdd", plainKeys := false, apart := false, narrowed := true }
def FnExactCounterAddUptoSaid : Prop := fnExactCounterAddUptoRow.holds Try.pinned (OpenSpec.upto fnExactCounterAddSpec)

/-- 'laws.FnExactCounterJoin', WHERE WHAT IT READS IS OF BULK AT MOST 1048576: true; the input reads as it did. -/
def fnExactCounterJoinUptoRow : OpenClaim := { program := "ytbkdjaodbknlpak", sum := "9bee0cff9814e9a08d8e60428e353f06f914cfc61d79ad73e09be55e455efe18", func := "loop.example/g00028/laws.FnExactCounterJoin", spec := "fnExactCounterJoin", plainKeys := false, apart := false, narrowed := true }
def FnExactCounterJoinUptoSaid : Prop := fnExactCounterJoinUptoRow.holds Try.pinned (OpenSpec.upto fnExactCounterJoinSpec)

/-- 'laws.FnExactCounterValue', WHERE WHAT IT READS IS OF BULK AT MOST 1048576: true; the input reads as it did. -/
def fnExactCounterValueUptoRow : OpenClaim := { program := "ytbkdjaodbknlpak", sum := "9bee0cff9814e9a08d8e60428e353f06f914cfc61d79ad73e09be55e455efe18", func := "loop.example/g00028/laws.FnExactCounterValue", spec := "fnExactCounterValue", plainKeys := false, apart := false, narrowed := true }
def FnExactCounterValueUptoSaid : Prop := fnExactCounterValueUptoRow.holds Try.pinned (OpenSpec.upto fnExactCounterValueSpec)

/-- 'laws.FnExactSetAdd', WHERE WHAT IT READS IS OF BULK AT MOST 1048576: true; the input reads as it did. -/
def fnExactSetAddUptoRow : OpenClaim := { program := "ytbkdjaodbknlpak", sum := "9bee0cff9814e9a08d8e60428e353f06f914cfc61d79ad73e09be55e455efe18", func := "loop.example/g00028/laws.FnExactSetAdd", spec := "fnExactSetAdd", unfollowed := true, recurses := true, plainKeys := false, apart := false, narrowed := true }
def FnExactSetAddUptoSaid : Prop := fnExactSetAddUptoRow.holds Try.pinned (OpenSpec.upto fnExactSetAddSpec)

/-- 'laws.FnExactSetRemove', WHERE WHAT IT READS IS OF BULK AT MOST 1048576: true; the input reads as it did. -/
def fnExactSetRemoveUptoRow : OpenClaim := { program := "ytbkdjaodbknlpak", sum := "9bee0cff9814e9a08d8e60428e353f06f914cfc61d79ad73e09be55e455efe18", func := "loop.example/g00028/laws.FnExactSetRemove", spec := "fnExactSetRemove", unfollowed := true, recurses := true, plainKeys := false, apart := false, narrowed := true }
def FnExactSetRemoveUptoSaid : Prop := fnExactSetRemoveUptoRow.holds Try.pinned (OpenSpec.upto fnExactSetRemoveSpec)

end Rows
end Go.Proofs.Ytbkdjaodbknlpak
