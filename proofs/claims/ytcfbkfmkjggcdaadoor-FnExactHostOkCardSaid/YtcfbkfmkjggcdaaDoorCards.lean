/-
  DERIVED. GIVEN WITH THE SEED: THE CARDS: each row of YtcfbkfmkjggcdaaDoorRows.lean that lists a variable, with what it lists TIED to the program's text (the seventh form; the later family's looks); each row that meets fmt, with fmt's text TOLD by the authors' own Lean function (tested against real Go, not proved from fmt's source: count such statements apart). THE CARD IS WHAT COUNTS. Prove the row's statement (the work); the ties are given (YtcfbkfmkjggcdaaDoorTie.lean); close each card by the builder's one call (the guide's Derived/Test/ToyasCard.lean, 'card_holds'). Laid BY PROGRAM, IN A SANDBOX (cutbox-door.mjs). By AI agents, Wed Nov 11 2026. No macro, syntax, notation, axiom, sorry.
-/
import Derived.Test.YtcfbkfmkjggcdaaDoorRows
import GoSem.ClaimSeven
namespace Go.Proofs.YtcfbkfmkjggcdaaDoor
namespace Rows

/-- THE TIED CARD OF 'laws.FnExactPodOk'. -/
def fnExactPodOkCard : Claim7 := { stood := { row := fnExactPodOkRow, standIns := [], harness := (true, "f5ae1b2c029e8412c7ac3aa94b67f9cf7520b83d891ffe8f4e306fff36b9338e"), looks := false }, kinds := [], alts := [], laidByText := true, laidKinds := [.data, .pinned], laidTests := true, laidLooks := .later }
def FnExactPodOkCardSaid : Prop := Claim7.holds Tryd.pinned (.plain (OpenSpec.ofChange fnExactPodOkSpec)) fnExactPodOkCard

/-- THE TIED CARD OF 'laws.FnExactHostOk'. -/
def fnExactHostOkCard : Claim7 := { stood := { row := fnExactHostOkRow, standIns := [], harness := (true, "f5ae1b2c029e8412c7ac3aa94b67f9cf7520b83d891ffe8f4e306fff36b9338e"), looks := false }, kinds := [], alts := [], laidByText := true, laidKinds := [.data, .pinned], laidTests := true, laidLooks := .later }
def FnExactHostOkCardSaid : Prop := Claim7.holds Tryd.pinned (.plain (OpenSpec.ofChange fnExactHostOkSpec)) fnExactHostOkCard

/-- THE SECOND FORM's CARD OF 'laws.FnExactPodOk'. -/
def fnExactPodOkUptoCard : Claim7 := { stood := { row := fnExactPodOkUptoRow, standIns := [], harness := (true, "f5ae1b2c029e8412c7ac3aa94b67f9cf7520b83d891ffe8f4e306fff36b9338e"), looks := false }, kinds := [], alts := [], laidByText := true, laidKinds := [.data, .pinned], laidTests := true, laidLooks := .later }
def FnExactPodOkUptoCardSaid : Prop := Claim7.holds Tryd.pinned (.plain (OpenSpec.upto fnExactPodOkSpec)) fnExactPodOkUptoCard

/-- THE SECOND FORM's CARD OF 'laws.FnExactHostOk'. -/
def fnExactHostOkUptoCard : Claim7 := { stood := { row := fnExactHostOkUptoRow, standIns := [], harness := (true, "f5ae1b2c029e8412c7ac3aa94b67f9cf7520b83d891ffe8f4e306fff36b9338e"), looks := false }, kinds := [], alts := [], laidByText := true, laidKinds := [.data, .pinned], laidTests := true, laidLooks := .later }
def FnExactHostOkUptoCardSaid : Prop := Claim7.holds Tryd.pinned (.plain (OpenSpec.upto fnExactHostOkSpec)) fnExactHostOkUptoCard
end Rows
end Go.Proofs.YtcfbkfmkjggcdaaDoor
