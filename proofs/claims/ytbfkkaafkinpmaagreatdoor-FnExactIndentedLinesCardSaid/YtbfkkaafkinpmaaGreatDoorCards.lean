/-
  DERIVED. GIVEN WITH THE SEED: THE CARDS: each row of YtbfkkaafkinpmaaGreatDoorRows.lean that lists a variable, with what it lists TIED to the program's text (the seventh form; the later family's looks); each row that meets fmt, with fmt's text TOLD by the authors' own Lean function (tested against real Go, not proved from fmt's source: count such statements apart). THE CARD IS WHAT COUNTS. Prove the row's statement (the work); the ties are given (YtbfkkaafkinpmaaGreatDoorTie.lean); close each card by the builder's one call (the guide's Derived/Test/ToyasCard.lean, 'card_holds'). Laid BY PROGRAM, IN A SANDBOX (cutbox-door.mjs). By AI agents, Wed Nov 11 2026. No macro, syntax, notation, axiom, sorry.
-/
import Derived.Test.YtbfkkaafkinpmaaGreatDoorRows
import GoSem.ClaimSeven
namespace Go.Proofs.YtbfkkaafkinpmaaGreatDoor
namespace Rows

/-- THE TIED CARD OF 'laws.FnExactIndentedLines'. -/
def fnExactIndentedLinesCard : Claim7 := { stood := { row := fnExactIndentedLinesRow, standIns := [], harness := (true, "7b6d36943da7850d12c2247244c82913e2fcdfedc368ca12f6b274a301fe6ce5"), looks := true }, kinds := [], alts := [], laidByText := true, laidKinds := [.data, .data, .data, .data, .pinned], laidTests := true, laidLooks := .later }
def FnExactIndentedLinesCardSaid : Prop := Claim7.holds Tryz.pinned (.plain (OpenSpec.ofChange fnExactIndentedLinesSpec)) fnExactIndentedLinesCard

/-- THE TIED CARD OF 'laws.FnExactIndentedText'. -/
def fnExactIndentedTextCard : Claim7 := { stood := { row := fnExactIndentedTextRow, standIns := [], harness := (true, "7b6d36943da7850d12c2247244c82913e2fcdfedc368ca12f6b274a301fe6ce5"), looks := true }, kinds := [], alts := [], laidByText := true, laidKinds := [.data, .data, .data, .data, .pinned], laidTests := true, laidLooks := .later }
def FnExactIndentedTextCardSaid : Prop := Claim7.holds Tryz.pinned (.plain (OpenSpec.ofChange fnExactIndentedTextSpec)) fnExactIndentedTextCard

/-- THE SECOND FORM's CARD OF 'laws.FnExactIndentedLines'. -/
def fnExactIndentedLinesUptoCard : Claim7 := { stood := { row := fnExactIndentedLinesUptoRow, standIns := [], harness := (true, "7b6d36943da7850d12c2247244c82913e2fcdfedc368ca12f6b274a301fe6ce5"), looks := true }, kinds := [], alts := [], laidByText := true, laidKinds := [.data, .data, .data, .data, .pinned], laidTests := true, laidLooks := .later }
def FnExactIndentedLinesUptoCardSaid : Prop := Claim7.holds Tryz.pinned (.plain (OpenSpec.upto fnExactIndentedLinesSpec)) fnExactIndentedLinesUptoCard

/-- THE SECOND FORM's CARD OF 'laws.FnExactIndentedText'. -/
def fnExactIndentedTextUptoCard : Claim7 := { stood := { row := fnExactIndentedTextUptoRow, standIns := [], harness := (true, "7b6d36943da7850d12c2247244c82913e2fcdfedc368ca12f6b274a301fe6ce5"), looks := true }, kinds := [], alts := [], laidByText := true, laidKinds := [.data, .data, .data, .data, .pinned], laidTests := true, laidLooks := .later }
def FnExactIndentedTextUptoCardSaid : Prop := Claim7.holds Tryz.pinned (.plain (OpenSpec.upto fnExactIndentedTextSpec)) fnExactIndentedTextUptoCard
end Rows
end Go.Proofs.YtbfkkaafkinpmaaGreatDoor
