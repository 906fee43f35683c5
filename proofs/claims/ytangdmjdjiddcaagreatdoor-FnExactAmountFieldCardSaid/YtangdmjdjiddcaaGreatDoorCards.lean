/-
  DERIVED. GIVEN WITH THE SEED: THE CARDS: each row of YtangdmjdjiddcaaGreatDoorRows.lean that lists a variable, with what it lists TIED to the program's text (the seventh form; the later family's looks); each row that meets fmt, with fmt's text TOLD by the authors' own Lean function (tested against real Go, not proved from fmt's source: count such statements apart). THE CARD IS WHAT COUNTS. Prove the row's statement (the work); the ties are given (YtangdmjdjiddcaaGreatDoorTie.lean); close each card by the builder's one call (the guide's Derived/Test/ToyasCard.lean, 'card_holds'). Laid BY PROGRAM, IN A SANDBOX (cutbox-door.mjs). By AI agents, Wed Nov 11 2026. No macro, syntax, notation, axiom, sorry.
-/
import Derived.Test.YtangdmjdjiddcaaGreatDoorRows
import GoSem.ClaimSeven
namespace Go.Proofs.YtangdmjdjiddcaaGreatDoor
namespace Rows

/-- THE TIED CARD OF 'laws.FnFields'. -/
def fnFieldsCard : Claim7 := { stood := { row := fnFieldsRow, standIns := [], harness := (true, "2e1f3d012175ff8813c71cbac0386d55d7b1b8cc2ea183face655561ed18a932"), looks := true }, kinds := [], alts := [], laidByText := true, laidKinds := [.data, .data, .data, .data, .handle, .sentinel, .sentinel, .pinned], laidTests := true, laidLooks := .later }
def FnFieldsCardSaid : Prop := Claim7.holds Tryz.pinned (.plain (OpenSpec.ofChange fnFieldsSpec)) fnFieldsCard

/-- THE TIED CARD OF 'laws.FnExactAmountField'. -/
def fnExactAmountFieldCard : Claim7 := { stood := { row := fnExactAmountFieldRow, standIns := [], harness := (true, "2e1f3d012175ff8813c71cbac0386d55d7b1b8cc2ea183face655561ed18a932"), looks := true }, kinds := [], alts := [], laidByText := true, laidKinds := [.data, .data, .data, .data, .handle, .sentinel, .sentinel, .pinned], laidTests := true, laidLooks := .later }
def FnExactAmountFieldCardSaid : Prop := Claim7.holds Tryz.pinned (.plain (OpenSpec.ofChange fnExactAmountFieldSpec)) fnExactAmountFieldCard

/-- THE SECOND FORM's CARD OF 'laws.FnFields'. -/
def fnFieldsUptoCard : Claim7 := { stood := { row := fnFieldsUptoRow, standIns := [], harness := (true, "2e1f3d012175ff8813c71cbac0386d55d7b1b8cc2ea183face655561ed18a932"), looks := true }, kinds := [], alts := [], laidByText := true, laidKinds := [.data, .data, .data, .data, .handle, .sentinel, .sentinel, .pinned], laidTests := true, laidLooks := .later }
def FnFieldsUptoCardSaid : Prop := Claim7.holds Tryz.pinned (.plain (OpenSpec.upto fnFieldsSpec)) fnFieldsUptoCard

/-- THE SECOND FORM's CARD OF 'laws.FnExactAmountField'. -/
def fnExactAmountFieldUptoCard : Claim7 := { stood := { row := fnExactAmountFieldUptoRow, standIns := [], harness := (true, "2e1f3d012175ff8813c71cbac0386d55d7b1b8cc2ea183face655561ed18a932"), looks := true }, kinds := [], alts := [], laidByText := true, laidKinds := [.data, .data, .data, .data, .handle, .sentinel, .sentinel, .pinned], laidTests := true, laidLooks := .later }
def FnExactAmountFieldUptoCardSaid : Prop := Claim7.holds Tryz.pinned (.plain (OpenSpec.upto fnExactAmountFieldSpec)) fnExactAmountFieldUptoCard
end Rows
end Go.Proofs.YtangdmjdjiddcaaGreatDoor
