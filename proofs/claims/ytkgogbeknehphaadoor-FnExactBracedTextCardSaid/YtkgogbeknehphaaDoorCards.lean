/-
  DERIVED. GIVEN WITH THE SEED: THE CARDS: each row of YtkgogbeknehphaaDoorRows.lean that lists a variable, with what it lists TIED to the program's text (the seventh form; the later family's looks); each row that meets fmt, with fmt's text TOLD by the authors' own Lean function (tested against real Go, not proved from fmt's source: count such statements apart). THE CARD IS WHAT COUNTS. Prove the row's statement (the work); the ties are given (YtkgogbeknehphaaDoorTie.lean); close each card by the builder's one call (the guide's Derived/Test/ToyasCard.lean, 'card_holds'). Laid BY PROGRAM, IN A SANDBOX (cutbox-door.mjs). By AI agents, Wed Nov 11 2026. No macro, syntax, notation, axiom, sorry.
-/
import Derived.Test.YtkgogbeknehphaaDoorRows
import GoSem.ClaimSeven
namespace Go.Proofs.YtkgogbeknehphaaDoor
namespace Rows

/-- THE TIED CARD OF 'laws.FnExactBracedText'. -/
def fnExactBracedTextCard : Claim7 := { stood := { row := fnExactBracedTextRow, standIns := [], harness := (true, "313ca30fd6523343ec020b320b0f306b518d9422afb89c19827ab4ce98c8667e"), looks := true }, kinds := [], alts := [], laidByText := true, laidKinds := [.data, .data, .data, .data, .pinned], laidTests := true, laidLooks := .later }
def FnExactBracedTextCardSaid : Prop := Claim7.holds Tryd.pinned (.plain (OpenSpec.ofChange fnExactBracedTextSpec)) fnExactBracedTextCard

/-- THE SECOND FORM's CARD OF 'laws.FnExactBracedText'. -/
def fnExactBracedTextUptoCard : Claim7 := { stood := { row := fnExactBracedTextUptoRow, standIns := [], harness := (true, "313ca30fd6523343ec020b320b0f306b518d9422afb89c19827ab4ce98c8667e"), looks := true }, kinds := [], alts := [], laidByText := true, laidKinds := [.data, .data, .data, .data, .pinned], laidTests := true, laidLooks := .later }
def FnExactBracedTextUptoCardSaid : Prop := Claim7.holds Tryd.pinned (.plain (OpenSpec.upto fnExactBracedTextSpec)) fnExactBracedTextUptoCard
end Rows
end Go.Proofs.YtkgogbeknehphaaDoor
