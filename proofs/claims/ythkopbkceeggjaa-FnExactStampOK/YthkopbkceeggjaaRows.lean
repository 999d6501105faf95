/-
  No cell of these rows narrows 'for every input' (looked for: loops, veiled, ifaces, maps, wideKeys, modest, calm, conditions, laid).
  DERIVED. THE GIVEN ROWS OF THIS SEAT. 6 by the template 'for every input the law returns true; each argument reads behind the call as it read before'; 0 by the template 'total and deterministic' (their statements: YthkopbkceeggjaaTotals.lean).
  GIVEN WITH THE SEED: the statements are not yours to turn. If you find one false, say at which input.
  Laid BY PROGRAM, IN A SANDBOX (cutbox-rows.mjs): the forced cells as the released guide's own fill.sh prints them over the translation f10f59b9b352b3cb… (all of the seat's roots in one cut). By AI agents, Wed Nov 11 2026. No macro, syntax, notation, axiom, sorry.
-/
import Derived.Test.YthkopbkceeggjaaChecked
import GoSem.Claim
import GoSem.ClaimJoined
import GoSem.ClaimMapViews
import Derived.JoinedTies
import Derived.KernelRfl
namespace Go.Proofs.Ythkopbkceeggjaa
/- THE CELL 'sum', in the pinned program and in every row, IS THE sha256 OF THE DUMP (.gsa) THAT YthkopbkceeggjaaProg.lean LOADS. Nothing in Lean hashes anything: it is a label: what it is worth is what the hold of that sum in a sandbox is worth. -/
noncomputable def Try.pinned : Pinned := { name := "ythkopbkceeggjaa", sum := "f10f59b9b352b3cb23199773a38c65fe0a9fca17246a071a73d5ef4d7fedea17", checked := Try.checked }
namespace Rows
def none {H : Type} : Left H := { results := [], args := [] }

/-- 'laws.FnExactPutInt': WHATEVER THE INPUT: true; the input reads as it did. -/
def fnExactPutIntSpec : ChangeSpec := { name := "fnExactPutInt", fn := fun _ => fun
  | [d] => { results := [.lit (.bool true)], args := [d] }
  | _ => none }
def fnExactPutIntRow : OpenClaim := { program := "ythkopbkceeggjaa", sum := "f10f59b9b352b3cb23199773a38c65fe0a9fca17246a071a73d5ef4d7fedea17", func := "loop.example/g00028/laws.FnExactPutInt", spec := "fnExactPutInt", recurses := true, apart := false }
def FnExactPutIntSaid : Prop := fnExactPutIntRow.holds Try.pinned (OpenSpec.ofChange fnExactPutIntSpec)

/-- ITS FALSE NEIGHBOUR: 'it returns false'. Refute it at one input. -/
def fnExactPutIntWrong : ChangeSpec := { name := "fnExactPutInt", fn := fun _ => fun
  | [d] => { results := [.lit (.bool false)], args := [d] }
  | _ => none }
def FnExactPutIntWrongFalsely : Prop := fnExactPutIntRow.holds Try.pinned (OpenSpec.ofChange fnExactPutIntWrong)

/-- 'laws.FnExactGetInt': WHATEVER THE INPUT: true; the input reads as it did. -/
def fnExactGetIntSpec : ChangeSpec := { name := "fnExactGetInt", fn := fun _ => fun
  | [d1, d2] => { results := [.lit (.bool true)], args := [d1, d2] }
  | _ => none }
def fnExactGetIntRow : OpenClaim := { program := "ythkopbkceeggjaa", sum := "f10f59b9b352b3cb23199773a38c65fe0a9fca17246a071a73d5ef4d7fedea17", func := "loop.example/g00028/laws.FnExactGetInt", spec := "fnExactGetInt", unfollowed := true, recurses := true, apart := false }
def FnExactGetIntSaid : Prop := fnExactGetIntRow.holds Try.pinned (OpenSpec.ofChange fnExactGetIntSpec)

/-- ITS FALSE NEIGHBOUR: 'it returns false'. Refute it at one input. -/
def fnExactGetIntWrong : ChangeSpec := { name := "fnExactGetInt", fn := fun _ => fun
  | [d1, d2] => { results := [.lit (.bool false)], args := [d1, d2] }
  | _ => none }
def FnExactGetIntWrongFalsely : Prop := fnExactGetIntRow.holds Try.pinned (OpenSpec.ofChange fnExactGetIntWrong)

/-- 'laws.FnExactPutTexts': WHATEVER THE INPUT: true; the input reads as it did. -/
def fnExactPutTextsSpec : ChangeSpec := { name := "fnExactPutTexts", fn := fun _ => fun
  | [d] => { results := [.lit (.bool true)], args := [d] }
  | _ => none }
def fnExactPutTextsRow : OpenClaim := { program := "ythkopbkceeggjaa", sum := "f10f59b9b352b3cb23199773a38c65fe0a9fca17246a071a73d5ef4d7fedea17", func := "loop.example/g00028/laws.FnExactPutTexts", spec := "fnExactPutTexts", recurses := true, apart := false }
def FnExactPutTextsSaid : Prop := fnExactPutTextsRow.holds Try.pinned (OpenSpec.ofChange fnExactPutTextsSpec)

/-- ITS FALSE NEIGHBOUR: 'it returns false'. Refute it at one input. -/
def fnExactPutTextsWrong : ChangeSpec := { name := "fnExactPutTexts", fn := fun _ => fun
  | [d] => { results := [.lit (.bool false)], args := [d] }
  | _ => none }
def FnExactPutTextsWrongFalsely : Prop := fnExactPutTextsRow.holds Try.pinned (OpenSpec.ofChange fnExactPutTextsWrong)

/-- 'laws.FnExactPutRuns': WHATEVER THE INPUT: true; the input reads as it did. -/
def fnExactPutRunsSpec : ChangeSpec := { name := "fnExactPutRuns", fn := fun _ => fun
  | [d] => { results := [.lit (.bool true)], args := [d] }
  | _ => none }
def fnExactPutRunsRow : OpenClaim := { program := "ythkopbkceeggjaa", sum := "f10f59b9b352b3cb23199773a38c65fe0a9fca17246a071a73d5ef4d7fedea17", func := "loop.example/g00028/laws.FnExactPutRuns", spec := "fnExactPutRuns", recurses := true, apart := false }
def FnExactPutRunsSaid : Prop := fnExactPutRunsRow.holds Try.pinned (OpenSpec.ofChange fnExactPutRunsSpec)

/-- ITS FALSE NEIGHBOUR: 'it returns false'. Refute it at one input. -/
def fnExactPutRunsWrong : ChangeSpec := { name := "fnExactPutRuns", fn := fun _ => fun
  | [d] => { results := [.lit (.bool false)], args := [d] }
  | _ => none }
def FnExactPutRunsWrongFalsely : Prop := fnExactPutRunsRow.holds Try.pinned (OpenSpec.ofChange fnExactPutRunsWrong)

/-- 'laws.FnExactKeySum': WHATEVER THE INPUT: true; the input reads as it did. -/
def fnExactKeySumSpec : ChangeSpec := { name := "fnExactKeySum", fn := fun _ => fun
  | [d1, d2] => { results := [.lit (.bool true)], args := [d1, d2] }
  | _ => none }
def fnExactKeySumRow : OpenClaim := { program := "ythkopbkceeggjaa", sum := "f10f59b9b352b3cb23199773a38c65fe0a9fca17246a071a73d5ef4d7fedea17", func := "loop.example/g00028/laws.FnExactKeySum", spec := "fnExactKeySum", apart := false }
def FnExactKeySumSaid : Prop := fnExactKeySumRow.holds Try.pinned (OpenSpec.ofChange fnExactKeySumSpec)

/-- ITS FALSE NEIGHBOUR: 'it returns false'. Refute it at one input. -/
def fnExactKeySumWrong : ChangeSpec := { name := "fnExactKeySum", fn := fun _ => fun
  | [d1, d2] => { results := [.lit (.bool false)], args := [d1, d2] }
  | _ => none }
def FnExactKeySumWrongFalsely : Prop := fnExactKeySumRow.holds Try.pinned (OpenSpec.ofChange fnExactKeySumWrong)

/-- 'laws.FnExactStampOK': WHATEVER THE INPUT: true; the input reads as it did. -/
def fnExactStampOKSpec : ChangeSpec := { name := "fnExactStampOK", fn := fun _ => fun
  | [d] => { results := [.lit (.bool true)], args := [d] }
  | _ => none }
def fnExactStampOKRow : OpenClaim := { program := "ythkopbkceeggjaa", sum := "f10f59b9b352b3cb23199773a38c65fe0a9fca17246a071a73d5ef4d7fedea17", func := "loop.example/g00028/laws.FnExactStampOK", spec := "fnExactStampOK", apart := false }
def FnExactStampOKSaid : Prop := fnExactStampOKRow.holds Try.pinned (OpenSpec.ofChange fnExactStampOKSpec)

/-- ITS FALSE NEIGHBOUR: 'it returns false'. Refute it at one input. -/
def fnExactStampOKWrong : ChangeSpec := { name := "fnExactStampOK", fn := fun _ => fun
  | [d] => { results := [.lit (.bool false)], args := [d] }
  | _ => none }
def FnExactStampOKWrongFalsely : Prop := fnExactStampOKRow.holds Try.pinned (OpenSpec.ofChange fnExactStampOKWrong)

/- THE SECOND FORM. 'bulk': how many values and letters a reading holds, each counted each time it is reached (what is shared counts as often as it is met; a slice's spare places count too). A statement '..UptoSaid' is the law's where the arguments, and the package variables that the reading takes, are together of bulk at most 1048576: NARROWER than '..Said'. Prove '..Said' where nothing that the law and all that it calls make is longer than what came in: it says more and counts as full. Else prove '..UptoSaid'. A law counts once. -/
mutual
def uptoBulk {H : Type} : DataW H → Nat
  | .lit (.string bytes) => bytes.length + 1
  | .lit _ => 1
  | .nil => 1
  | .ptr d => uptoBulk d + 1
  | .slice elems spare => uptoBulkAll elems + uptoBulkAll spare + 1
  | .agg parts => uptoBulkAll parts + 1
  | .iface _ d => uptoBulk d + 1
  | .map entries => uptoBulkEntries entries + 1
  | .held _ => 1
def uptoBulkAll {H : Type} : List (DataW H) → Nat
  | [] => 0
  | d :: r => uptoBulk d + uptoBulkAll r
def uptoBulkEntries {H : Type} : List (Lit × DataW H) → Nat
  | [] => 0
  | x :: r => uptoBulkEntry x + uptoBulkEntries r
def uptoBulkEntry {H : Type} : Lit × DataW H → Nat
  | (.string bytes, d) => bytes.length + uptoBulk d + 1
  | (_, d) => uptoBulk d + 1
 end
def uptoSmall : (H : Type) → List (DataW H) → Bool := fun _ ds => decide (uptoBulkAll ds ≤ 1048576)
def OpenSpec.upto (s : _root_.Go.ChangeSpec) : _root_.Go.OpenSpec := { _root_.Go.OpenSpec.ofChange s with cond := some uptoSmall }

/-- 'laws.FnExactPutInt', WHERE WHAT IT READS IS OF BULK AT MOST 1048576: true; the input reads as it did. -/
def fnExactPutIntUptoRow : OpenClaim := { program := "ythkopbkceeggjaa", sum := "f10f59b9b352b3cb23199773a38c65fe0a9fca17246a071a73d5ef4d7fedea17", func := "loop.example/g00028/laws.FnExactPutInt", spec := "fnExactPutInt", recurses := true, apart := false, narrowed := true }
def FnExactPutIntUptoSaid : Prop := fnExactPutIntUptoRow.holds Try.pinned (OpenSpec.upto fnExactPutIntSpec)

/-- 'laws.FnExactGetInt', WHERE WHAT IT READS IS OF BULK AT MOST 1048576: true; the input reads as it did. -/
def fnExactGetIntUptoRow : OpenClaim := { program := "ythkopbkceeggjaa", sum := "f10f59b9b352b3cb23199773a38c65fe0a9fca17246a071a73d5ef4d7fedea17", func := "loop.example/g00028/laws.FnExactGetInt", spec := "fnExactGetInt", unfollowed := true, recurses := true, apart := false, narrowed := true }
def FnExactGetIntUptoSaid : Prop := fnExactGetIntUptoRow.holds Try.pinned (OpenSpec.upto fnExactGetIntSpec)

/-- 'laws.FnExactPutTexts', WHERE WHAT IT READS IS OF BULK AT MOST 1048576: true; the input reads as it did. -/
def fnExactPutTextsUptoRow : OpenClaim := { program := "ythkopbkceeggjaa", sum := "f10f59b9b352b3cb23199773a38c65fe0a9fca17246a071a73d5ef4d7fedea17", func := "loop.example/g00028/laws.FnExactPutTexts", spec := "fnExactPutTexts", recurses := true, apart := false, narrowed := true }
def FnExactPutTextsUptoSaid : Prop := fnExactPutTextsUptoRow.holds Try.pinned (OpenSpec.upto fnExactPutTextsSpec)

/-- 'laws.FnExactPutRuns', WHERE WHAT IT READS IS OF BULK AT MOST 1048576: true; the input reads as it did. -/
def fnExactPutRunsUptoRow : OpenClaim := { program := "ythkopbkceeggjaa", sum := "f10f59b9b352b3cb23199773a38c65fe0a9fca17246a071a73d5ef4d7fedea17", func := "loop.example/g00028/laws.FnExactPutRuns", spec := "fnExactPutRuns", recurses := true, apart := false, narrowed := true }
def FnExactPutRunsUptoSaid : Prop := fnExactPutRunsUptoRow.holds Try.pinned (OpenSpec.upto fnExactPutRunsSpec)

/-- 'laws.FnExactKeySum', WHERE WHAT IT READS IS OF BULK AT MOST 1048576: true; the input reads as it did. -/
def fnExactKeySumUptoRow : OpenClaim := { program := "ythkopbkceeggjaa", sum := "f10f59b9b352b3cb23199773a38c65fe0a9fca17246a071a73d5ef4d7fedea17", func := "loop.example/g00028/laws.FnExactKeySum", spec := "fnExactKeySum", apart := false, narrowed := true }
def FnExactKeySumUptoSaid : Prop := fnExactKeySumUptoRow.holds Try.pinned (OpenSpec.upto fnExactKeySumSpec)

/-- 'laws.FnExactStampOK', WHERE WHAT IT READS IS OF BULK AT MOST 1048576: true; the input reads as it did. -/
def fnExactStampOKUptoRow : OpenClaim := { program := "ythkopbkceeggjaa", sum := "f10f59b9b352b3cb23199773a38c65fe0a9fca17246a071a73d5ef4d7fedea17", func := "loop.example/g00028/laws.FnExactStampOK", spec := "fnExactStampOK", apart := false, narrowed := true }
def FnExactStampOKUptoSaid : Prop := fnExactStampOKUptoRow.holds Try.pinned (OpenSpec.upto fnExactStampOKSpec)

end Rows
end Go.Proofs.Ythkopbkceeggjaa
