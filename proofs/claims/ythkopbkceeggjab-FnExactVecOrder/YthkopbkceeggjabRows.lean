/-
  No cell of these rows narrows 'for every input' (looked for: loops, veiled, ifaces, maps, wideKeys, modest, calm, conditions, laid).
  DERIVED. THE GIVEN ROWS OF THIS SEAT. 6 by the template 'for every input the law returns true; each argument reads behind the call as it read before'; 0 by the template 'total and deterministic' (their statements: YthkopbkceeggjabTotals.lean).
  GIVEN WITH THE SEED: the statements are not yours to turn. If you find one false, say at which input.
  Laid BY PROGRAM, IN A SANDBOX (cutbox-rows.mjs): the forced cells as the released guide's own fill.sh prints them over the translation 83fd651fc7b3aa11… (all of the seat's roots in one cut). By AI agents, Wed Nov 11 2026. No macro, syntax, notation, axiom, sorry.
-/
import Derived.Test.YthkopbkceeggjabChecked
import GoSem.Claim
import GoSem.ClaimJoined
import GoSem.ClaimMapViews
import Derived.JoinedTies
import Derived.KernelRfl
namespace Go.Proofs.Ythkopbkceeggjab
/- THE CELL 'sum', in the pinned program and in every row, IS THE sha256 OF THE DUMP (.gsa) THAT YthkopbkceeggjabProg.lean LOADS. Nothing in Lean hashes anything: it is a label: what it is worth is what the hold of that sum in a sandbox is worth. -/
noncomputable def Try.pinned : Pinned := { name := "ythkopbkceeggjab", sum := "83fd651fc7b3aa11b6eff82c3bfc257b3dc2d55c3021c6787952d16550587687", checked := Try.checked }
namespace Rows
def none {H : Type} : Left H := { results := [], args := [] }

/-- 'laws.FnExactStampLess': WHATEVER THE INPUT: true; the input reads as it did. -/
def fnExactStampLessSpec : ChangeSpec := { name := "fnExactStampLess", fn := fun _ => fun
  | [d1, d2] => { results := [.lit (.bool true)], args := [d1, d2] }
  | _ => none }
def fnExactStampLessRow : OpenClaim := { program := "ythkopbkceeggjab", sum := "83fd651fc7b3aa11b6eff82c3bfc257b3dc2d55c3021c6787952d16550587687", func := "loop.example/g00028/laws.FnExactStampLess", spec := "fnExactStampLess", apart := false }
def FnExactStampLessSaid : Prop := fnExactStampLessRow.holds Try.pinned (OpenSpec.ofChange fnExactStampLessSpec)

/-- ITS FALSE NEIGHBOUR: 'it returns false'. Refute it at one input. -/
def fnExactStampLessWrong : ChangeSpec := { name := "fnExactStampLess", fn := fun _ => fun
  | [d1, d2] => { results := [.lit (.bool false)], args := [d1, d2] }
  | _ => none }
def FnExactStampLessWrongFalsely : Prop := fnExactStampLessRow.holds Try.pinned (OpenSpec.ofChange fnExactStampLessWrong)

/-- 'laws.FnExactStampNext': WHATEVER THE INPUT: true; the input reads as it did. -/
def fnExactStampNextSpec : ChangeSpec := { name := "fnExactStampNext", fn := fun _ => fun
  | [d1, d2] => { results := [.lit (.bool true)], args := [d1, d2] }
  | _ => none }
def fnExactStampNextRow : OpenClaim := { program := "ythkopbkceeggjab", sum := "83fd651fc7b3aa11b6eff82c3bfc257b3dc2d55c3021c6787952d16550587687", func := "loop.example/g00028/laws.FnExactStampNext", spec := "fnExactStampNext", unfollowed := true, recurses := true, apart := false }
def FnExactStampNextSaid : Prop := fnExactStampNextRow.holds Try.pinned (OpenSpec.ofChange fnExactStampNextSpec)

/-- ITS FALSE NEIGHBOUR: 'it returns false'. Refute it at one input. -/
def fnExactStampNextWrong : ChangeSpec := { name := "fnExactStampNext", fn := fun _ => fun
  | [d1, d2] => { results := [.lit (.bool false)], args := [d1, d2] }
  | _ => none }
def FnExactStampNextWrongFalsely : Prop := fnExactStampNextRow.holds Try.pinned (OpenSpec.ofChange fnExactStampNextWrong)

/-- 'laws.FnExactVecOK': WHATEVER THE INPUT: true; the input reads as it did. -/
def fnExactVecOKSpec : ChangeSpec := { name := "fnExactVecOK", fn := fun _ => fun
  | [d] => { results := [.lit (.bool true)], args := [d] }
  | _ => none }
def fnExactVecOKRow : OpenClaim := { program := "ythkopbkceeggjab", sum := "83fd651fc7b3aa11b6eff82c3bfc257b3dc2d55c3021c6787952d16550587687", func := "loop.example/g00028/laws.FnExactVecOK", spec := "fnExactVecOK", apart := false }
def FnExactVecOKSaid : Prop := fnExactVecOKRow.holds Try.pinned (OpenSpec.ofChange fnExactVecOKSpec)

/-- ITS FALSE NEIGHBOUR: 'it returns false'. Refute it at one input. -/
def fnExactVecOKWrong : ChangeSpec := { name := "fnExactVecOK", fn := fun _ => fun
  | [d] => { results := [.lit (.bool false)], args := [d] }
  | _ => none }
def FnExactVecOKWrongFalsely : Prop := fnExactVecOKRow.holds Try.pinned (OpenSpec.ofChange fnExactVecOKWrong)

/-- 'laws.FnExactVecJoin': WHATEVER THE INPUT: true; the input reads as it did. -/
def fnExactVecJoinSpec : ChangeSpec := { name := "fnExactVecJoin", fn := fun _ => fun
  | [d1, d2] => { results := [.lit (.bool true)], args := [d1, d2] }
  | _ => none }
def fnExactVecJoinRow : OpenClaim := { program := "ythkopbkceeggjab", sum := "83fd651fc7b3aa11b6eff82c3bfc257b3dc2d55c3021c6787952d16550587687", func := "loop.example/g00028/laws.FnExactVecJoin", spec := "fnExactVecJoin", apart := false }
def FnExactVecJoinSaid : Prop := fnExactVecJoinRow.holds Try.pinned (OpenSpec.ofChange fnExactVecJoinSpec)

/-- ITS FALSE NEIGHBOUR: 'it returns false'. Refute it at one input. -/
def fnExactVecJoinWrong : ChangeSpec := { name := "fnExactVecJoin", fn := fun _ => fun
  | [d1, d2] => { results := [.lit (.bool false)], args := [d1, d2] }
  | _ => none }
def FnExactVecJoinWrongFalsely : Prop := fnExactVecJoinRow.holds Try.pinned (OpenSpec.ofChange fnExactVecJoinWrong)

/-- 'laws.FnExactVecMeet': WHATEVER THE INPUT: true; the input reads as it did. -/
def fnExactVecMeetSpec : ChangeSpec := { name := "fnExactVecMeet", fn := fun _ => fun
  | [d1, d2] => { results := [.lit (.bool true)], args := [d1, d2] }
  | _ => none }
def fnExactVecMeetRow : OpenClaim := { program := "ythkopbkceeggjab", sum := "83fd651fc7b3aa11b6eff82c3bfc257b3dc2d55c3021c6787952d16550587687", func := "loop.example/g00028/laws.FnExactVecMeet", spec := "fnExactVecMeet", apart := false }
def FnExactVecMeetSaid : Prop := fnExactVecMeetRow.holds Try.pinned (OpenSpec.ofChange fnExactVecMeetSpec)

/-- ITS FALSE NEIGHBOUR: 'it returns false'. Refute it at one input. -/
def fnExactVecMeetWrong : ChangeSpec := { name := "fnExactVecMeet", fn := fun _ => fun
  | [d1, d2] => { results := [.lit (.bool false)], args := [d1, d2] }
  | _ => none }
def FnExactVecMeetWrongFalsely : Prop := fnExactVecMeetRow.holds Try.pinned (OpenSpec.ofChange fnExactVecMeetWrong)

/-- 'laws.FnExactVecOrder': WHATEVER THE INPUT: true; the input reads as it did. -/
def fnExactVecOrderSpec : ChangeSpec := { name := "fnExactVecOrder", fn := fun _ => fun
  | [d1, d2] => { results := [.lit (.bool true)], args := [d1, d2] }
  | _ => none }
def fnExactVecOrderRow : OpenClaim := { program := "ythkopbkceeggjab", sum := "83fd651fc7b3aa11b6eff82c3bfc257b3dc2d55c3021c6787952d16550587687", func := "loop.example/g00028/laws.FnExactVecOrder", spec := "fnExactVecOrder", apart := false }
def FnExactVecOrderSaid : Prop := fnExactVecOrderRow.holds Try.pinned (OpenSpec.ofChange fnExactVecOrderSpec)

/-- ITS FALSE NEIGHBOUR: 'it returns false'. Refute it at one input. -/
def fnExactVecOrderWrong : ChangeSpec := { name := "fnExactVecOrder", fn := fun _ => fun
  | [d1, d2] => { results := [.lit (.bool false)], args := [d1, d2] }
  | _ => none }
def FnExactVecOrderWrongFalsely : Prop := fnExactVecOrderRow.holds Try.pinned (OpenSpec.ofChange fnExactVecOrderWrong)

/- THE SECOND FORM. 'bulk': how many values and letters a reading holds, each counted each time it is reached (what is shared counts as often as it is met; a slice's spare places count too). A statement '..UptoSaid' is the law's where the arguments, and the package variables that the reading takes, are together of bulk at most 1048576: NARROWER than '..Said'. Prove '..Said' where nothing that the law and all that it calls make is longer than what came in: it says more and counts as full. Else prove '..UptoSaid'. A law counts once. -/
mutual
def uptoBulk {H : Type} : DataW H → Nat
  | .lit (.string bytes) => bytes.length + 1
  | .lit _ => 1
  | .nil => 1
  | .ptr d => uptoBulk d + 1
  | .slice elems spare => uptoBulkAll elems + uptoBulkAll spare + 1
  | .agg parts => uptoBulkAll parts + 1
  | .iface _ d => uptoBulk d + 1
  | .map entries => uptoBulkEntries entries + 1
  | .held _ => 1
def uptoBulkAll {H : Type} : List (DataW H) → Nat
  | [] => 0
  | d :: r => uptoBulk d + uptoBulkAll r
def uptoBulkEntries {H : Type} : List (Lit × DataW H) → Nat
  | [] => 0
  | x :: r => uptoBulkEntry x + uptoBulkEntries r
def uptoBulkEntry {H : Type} : Lit × DataW H → Nat
  | (.string bytes, d) => bytes.length + uptoBulk d + 1
  | (_, d) => uptoBulk d + 1
 end
def uptoSmall : (H : Type) → List (DataW H) → Bool := fun _ ds => decide (uptoBulkAll ds ≤ 1048576)
def OpenSpec.upto (s : _root_.Go.ChangeSpec) : _root_.Go.OpenSpec := { _root_.Go.OpenSpec.ofChange s with cond := some uptoSmall }

/-- 'laws.FnExactStampLess', WHERE WHAT IT READS IS OF BULK AT MOST 1048576: true; the input reads as it did. -/
def fnExactStampLessUptoRow : OpenClaim := { program := "ythkopbkceeggjab", sum := "83fd651fc7b3aa11b6eff82c3bfc257b3dc2d55c3021c6787952d16550587687", func := "loop.example/g00028/laws.FnExactStampLess", spec := "fnExactStampLess", apart := false, narrowed := true }
def FnExactStampLessUptoSaid : Prop := fnExactStampLessUptoRow.holds Try.pinned (OpenSpec.upto fnExactStampLessSpec)

/-- 'laws.FnExactStampNext', WHERE WHAT IT READS IS OF BULK AT MOST 1048576: true; the input reads as it did. -/
def fnExactStampNextUptoRow : OpenClaim := { program := "ythkopbkceeggjab", sum := "83fd651fc7b3aa11b6eff82c3bfc257b3dc2d55c3021c6787952d16550587687", func := "loop.example/g00028/laws.FnExactStampNext", spec := "fnExactStampNext", unfollowed := true, recurses := true, apart := false, narrowed := true }
def FnExactStampNextUptoSaid : Prop := fnExactStampNextUptoRow.holds Try.pinned (OpenSpec.upto fnExactStampNextSpec)

/-- 'laws.FnExactVecOK', WHERE WHAT IT READS IS OF BULK AT MOST 1048576: true; the input reads as it did. -/
def fnExactVecOKUptoRow : OpenClaim := { program := "ythkopbkceeggjab", sum := "83fd651fc7b3aa11b6eff82c3bfc257b3dc2d55c3021c6787952d16550587687", func := "loop.example/g00028/laws.FnExactVecOK", spec := "fnExactVecOK", apart := false, narrowed := true }
def FnExactVecOKUptoSaid : Prop := fnExactVecOKUptoRow.holds Try.pinned (OpenSpec.upto fnExactVecOKSpec)

/-- 'laws.FnExactVecJoin', WHERE WHAT IT READS IS OF BULK AT MOST 1048576: true; the input reads as it did. -/
def fnExactVecJoinUptoRow : OpenClaim := { program := "ythkopbkceeggjab", sum := "83fd651fc7b3aa11b6eff82c3bfc257b3dc2d55c3021c6787952d16550587687", func := "loop.example/g00028/laws.FnExactVecJoin", spec := "fnExactVecJoin", apart := false, narrowed := true }
def FnExactVecJoinUptoSaid : Prop := fnExactVecJoinUptoRow.holds Try.pinned (OpenSpec.upto fnExactVecJoinSpec)

/-- 'laws.FnExactVecMeet', WHERE WHAT IT READS IS OF BULK AT MOST 1048576: true; the input reads as it did. -/
def fnExactVecMeetUptoRow : OpenClaim := { program := "ythkopbkceeggjab", sum := "83fd651fc7b3aa11b6eff82c3bfc257b3dc2d55c3021c6787952d16550587687", func := "loop.example/g00028/laws.FnExactVecMeet", spec := "fnExactVecMeet", apart := false, narrowed := true }
def FnExactVecMeetUptoSaid : Prop := fnExactVecMeetUptoRow.holds Try.pinned (OpenSpec.upto fnExactVecMeetSpec)

/-- 'laws.FnExactVecOrder', WHERE WHAT IT READS IS OF BULK AT MOST 1048576: true; the input reads as it did. -/
def fnExactVecOrderUptoRow : OpenClaim := { program := "ythkopbkceeggjab", sum := "83fd651fc7b3aa11b6eff82c3bfc257b3dc2d55c3021c6787952d16550587687", func := "loop.example/g00028/laws.FnExactVecOrder", spec := "fnExactVecOrder", apart := false, narrowed := true }
def FnExactVecOrderUptoSaid : Prop := fnExactVecOrderUptoRow.holds Try.pinned (OpenSpec.upto fnExactVecOrderSpec)

end Rows
end Go.Proofs.Ythkopbkceeggjab
