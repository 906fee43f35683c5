/-
  DERIVED. GIVEN WITH THE SEED: THE CARDS: each row of YtjcfaepklakpkaaGreatDoorRows.lean that lists a variable, with what it lists TIED to the program's text (the seventh form; the later family's looks); each row that meets fmt, with fmt's text TOLD by the authors' own Lean function (tested against real Go, not proved from fmt's source: count such statements apart). THE CARD IS WHAT COUNTS. Prove the row's statement (the work); the ties are given (YtjcfaepklakpkaaGreatDoorTie.lean); close each card by the builder's one call (the guide's Derived/Test/ToyasCard.lean, 'card_holds'). Laid BY PROGRAM, IN A SANDBOX (cutbox-door.mjs). By AI agents, Wed Nov 11 2026. No macro, syntax, notation, axiom, sorry.
-/
import Derived.Test.YtjcfaepklakpkaaGreatDoorRows
import GoSem.ClaimSeven
namespace Go.Proofs.YtjcfaepklakpkaaGreatDoor
namespace Rows

/-- THE TIED CARD OF 'laws.FnNeeds'. -/
def fnNeedsCard : Claim7 := { stood := { row := fnNeedsRow, standIns := [], harness := (true, "59e7af7a92dfe1d9c09bb7cb87ccc91a90f90fd6ef071d428c9e1d333351107b"), looks := false }, kinds := [], alts := [], laidByText := true, laidKinds := [.data, .pinned], laidTests := true, laidLooks := .later }
def FnNeedsCardSaid : Prop := Claim7.holds Tryz.pinned (.plain (OpenSpec.ofChange fnNeedsSpec)) fnNeedsCard

/-- THE TIED CARD OF 'laws.FnExactSortNeeds'. -/
def fnExactSortNeedsCard : Claim7 := { stood := { row := fnExactSortNeedsRow, standIns := [], harness := (true, "59e7af7a92dfe1d9c09bb7cb87ccc91a90f90fd6ef071d428c9e1d333351107b"), looks := false }, kinds := [], alts := [], laidByText := true, laidKinds := [.data, .pinned], laidTests := true, laidLooks := .later }
def FnExactSortNeedsCardSaid : Prop := Claim7.holds Tryz.pinned (.plain (OpenSpec.ofChange fnExactSortNeedsSpec)) fnExactSortNeedsCard

/-- THE SECOND FORM's CARD OF 'laws.FnNeeds'. -/
def fnNeedsUptoCard : Claim7 := { stood := { row := fnNeedsUptoRow, standIns := [], harness := (true, "59e7af7a92dfe1d9c09bb7cb87ccc91a90f90fd6ef071d428c9e1d333351107b"), looks := false }, kinds := [], alts := [], laidByText := true, laidKinds := [.data, .pinned], laidTests := true, laidLooks := .later }
def FnNeedsUptoCardSaid : Prop := Claim7.holds Tryz.pinned (.plain (OpenSpec.upto fnNeedsSpec)) fnNeedsUptoCard

/-- THE SECOND FORM's CARD OF 'laws.FnExactSortNeeds'. -/
def fnExactSortNeedsUptoCard : Claim7 := { stood := { row := fnExactSortNeedsUptoRow, standIns := [], harness := (true, "59e7af7a92dfe1d9c09bb7cb87ccc91a90f90fd6ef071d428c9e1d333351107b"), looks := false }, kinds := [], alts := [], laidByText := true, laidKinds := [.data, .pinned], laidTests := true, laidLooks := .later }
def FnExactSortNeedsUptoCardSaid : Prop := Claim7.holds Tryz.pinned (.plain (OpenSpec.upto fnExactSortNeedsSpec)) fnExactSortNeedsUptoCard
end Rows
end Go.Proofs.YtjcfaepklakpkaaGreatDoor
