/-
  DERIVED. GIVEN WITH THE SEED: THE CARDS: each row of YtpadpiibiocabaaGreatDoorRows.lean that lists a variable, with what it lists TIED to the program's text (the seventh form; the later family's looks); each row that meets fmt, with fmt's text TOLD by the authors' own Lean function (tested against real Go, not proved from fmt's source: count such statements apart). THE CARD IS WHAT COUNTS. Prove the row's statement (the work); the ties are given (YtpadpiibiocabaaGreatDoorTie.lean); close each card by the builder's one call (the guide's Derived/Test/ToyasCard.lean, 'card_holds'). Laid BY PROGRAM, IN A SANDBOX (cutbox-door.mjs). By AI agents, Wed Nov 11 2026. No macro, syntax, notation, axiom, sorry.
-/
import Derived.Test.YtpadpiibiocabaaGreatDoorRows
import GoSem.ClaimSeven
namespace Go.Proofs.YtpadpiibiocabaaGreatDoor
namespace Rows

/-- THE TIED CARD OF 'laws.FnTaints'. -/
def fnTaintsCard : Claim7 := { stood := { row := fnTaintsRow, standIns := [], harness := (true, "4b973c65674196757c055b7d2a49fdfd86c956d8658aa305b7a4d76a7e21ca64"), looks := false }, kinds := [], alts := [], laidByText := true, laidKinds := [.data, .pinned], laidTests := true, laidLooks := .later }
def FnTaintsCardSaid : Prop := Claim7.holds Tryz.pinned (.plain (OpenSpec.ofChange fnTaintsSpec)) fnTaintsCard

/-- THE SECOND FORM's CARD OF 'laws.FnTaints'. -/
def fnTaintsUptoCard : Claim7 := { stood := { row := fnTaintsUptoRow, standIns := [], harness := (true, "4b973c65674196757c055b7d2a49fdfd86c956d8658aa305b7a4d76a7e21ca64"), looks := false }, kinds := [], alts := [], laidByText := true, laidKinds := [.data, .pinned], laidTests := true, laidLooks := .later }
def FnTaintsUptoCardSaid : Prop := Claim7.holds Tryz.pinned (.plain (OpenSpec.upto fnTaintsSpec)) fnTaintsUptoCard
end Rows
end Go.Proofs.YtpadpiibiocabaaGreatDoor
