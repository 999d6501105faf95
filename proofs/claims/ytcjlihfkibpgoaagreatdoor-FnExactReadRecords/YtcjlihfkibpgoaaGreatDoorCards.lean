/-
  DERIVED. GIVEN WITH THE SEED: THE CARDS: each row of YtcjlihfkibpgoaaGreatDoorRows.lean that lists a variable, with what it lists TIED to the program's text (the seventh form; the later family's looks); each row that meets fmt, with fmt's text TOLD by the authors' own Lean function (tested against real Go, not proved from fmt's source: count such statements apart). THE CARD IS WHAT COUNTS. Prove the row's statement (the work); the ties are given (YtcjlihfkibpgoaaGreatDoorTie.lean); close each card by the builder's one call (the guide's Derived/Test/ToyasCard.lean, 'card_holds'). Laid BY PROGRAM, IN A SANDBOX (cutbox-door.mjs). By AI agents, Wed Nov 11 2026. No macro, syntax, notation, axiom, sorry.
-/
import Derived.Test.YtcjlihfkibpgoaaGreatDoorRows
import GoSem.ClaimSeven
namespace Go.Proofs.YtcjlihfkibpgoaaGreatDoor
namespace Rows

/-- THE TIED CARD OF 'laws.FnExactReadRecords'. -/
def fnExactReadRecordsCard : Claim7 := { stood := { row := fnExactReadRecordsRow, standIns := [], harness := (true, "182260b3763b8d8fa853329bb0d75d8e603160284d95f444e56d6be2fe248e21"), looks := true }, kinds := [], alts := [], laidByText := true, laidKinds := [.sentinel], laidTests := true, laidLooks := .later }
def FnExactReadRecordsCardSaid : Prop := Claim7.holds Tryz.pinned (.plain (OpenSpec.ofChange fnExactReadRecordsSpec)) fnExactReadRecordsCard

/-- THE SECOND FORM's CARD OF 'laws.FnExactReadRecords'. -/
def fnExactReadRecordsUptoCard : Claim7 := { stood := { row := fnExactReadRecordsUptoRow, standIns := [], harness := (true, "182260b3763b8d8fa853329bb0d75d8e603160284d95f444e56d6be2fe248e21"), looks := true }, kinds := [], alts := [], laidByText := true, laidKinds := [.sentinel], laidTests := true, laidLooks := .later }
def FnExactReadRecordsUptoCardSaid : Prop := Claim7.holds Tryz.pinned (.plain (OpenSpec.upto fnExactReadRecordsSpec)) fnExactReadRecordsUptoCard
end Rows
end Go.Proofs.YtcjlihfkibpgoaaGreatDoor
