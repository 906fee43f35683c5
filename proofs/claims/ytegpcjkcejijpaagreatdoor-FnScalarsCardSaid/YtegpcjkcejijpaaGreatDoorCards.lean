/-
  DERIVED. GIVEN WITH THE SEED: THE CARDS: each row of YtegpcjkcejijpaaGreatDoorRows.lean that lists a variable, with what it lists TIED to the program's text (the seventh form; the later family's looks); each row that meets fmt, with fmt's text TOLD by the authors' own Lean function (tested against real Go, not proved from fmt's source: count such statements apart). THE CARD IS WHAT COUNTS. Prove the row's statement (the work); the ties are given (YtegpcjkcejijpaaGreatDoorTie.lean); close each card by the builder's one call (the guide's Derived/Test/ToyasCard.lean, 'card_holds'). Laid BY PROGRAM, IN A SANDBOX (cutbox-door.mjs). By AI agents, Wed Nov 11 2026. No macro, syntax, notation, axiom, sorry.
-/
import Derived.Test.YtegpcjkcejijpaaGreatDoorRows
import GoSem.ClaimSeven
namespace Go.Proofs.YtegpcjkcejijpaaGreatDoor
namespace Rows

/-- THE TIED CARD OF 'laws.FnKeys'. -/
def fnKeysCard : Claim7 := { stood := { row := fnKeysRow, standIns := [], harness := (true, "0d984f34451998418575f8e3ad1f137ef534e63bf4265c7d063654a005b6adfb"), looks := true }, kinds := [], alts := [], laidByText := true, laidKinds := [.data, .data, .data, .data, .sentinel, .sentinel, .pinned], laidTests := true, laidLooks := .later }
def FnKeysCardSaid : Prop := Claim7.holds Tryz.pinned (.plain (OpenSpec.ofChange fnKeysSpec)) fnKeysCard

/-- THE TIED CARD OF 'laws.FnScalars'. -/
def fnScalarsCard : Claim7 := { stood := { row := fnScalarsRow, standIns := [], harness := (true, "0d984f34451998418575f8e3ad1f137ef534e63bf4265c7d063654a005b6adfb"), looks := true }, kinds := [], alts := [], laidByText := true, laidKinds := [.data, .data, .data, .data, .sentinel, .sentinel, .pinned], laidTests := true, laidLooks := .later }
def FnScalarsCardSaid : Prop := Claim7.holds Tryz.pinned (.plain (OpenSpec.ofChange fnScalarsSpec)) fnScalarsCard

/-- THE TIED CARD OF 'laws.FnExactScalarText'. -/
def fnExactScalarTextCard : Claim7 := { stood := { row := fnExactScalarTextRow, standIns := [], harness := (true, "0d984f34451998418575f8e3ad1f137ef534e63bf4265c7d063654a005b6adfb"), looks := true }, kinds := [], alts := [], laidByText := true, laidKinds := [.data, .data, .data, .data, .pinned], laidTests := true, laidLooks := .later }
def FnExactScalarTextCardSaid : Prop := Claim7.holds Tryz.pinned (.plain (OpenSpec.ofChange fnExactScalarTextSpec)) fnExactScalarTextCard

/-- THE TIED CARD OF 'laws.FnExactReadScalar'. -/
def fnExactReadScalarCard : Claim7 := { stood := { row := fnExactReadScalarRow, standIns := [], harness := (true, "0d984f34451998418575f8e3ad1f137ef534e63bf4265c7d063654a005b6adfb"), looks := true }, kinds := [], alts := [], laidByText := true, laidKinds := [.data, .data, .data, .data, .sentinel, .sentinel, .pinned], laidTests := true, laidLooks := .later }
def FnExactReadScalarCardSaid : Prop := Claim7.holds Tryz.pinned (.plain (OpenSpec.ofChange fnExactReadScalarSpec)) fnExactReadScalarCard

/-- THE TIED CARD OF 'laws.FnExactInline'. -/
def fnExactInlineCard : Claim7 := { stood := { row := fnExactInlineRow, standIns := [], harness := (true, "0d984f34451998418575f8e3ad1f137ef534e63bf4265c7d063654a005b6adfb"), looks := true }, kinds := [], alts := [], laidByText := true, laidKinds := [.data, .data, .data, .data, .sentinel, .sentinel, .pinned], laidTests := true, laidLooks := .later }
def FnExactInlineCardSaid : Prop := Claim7.holds Tryz.pinned (.plain (OpenSpec.ofChange fnExactInlineSpec)) fnExactInlineCard

/-- THE TIED CARD OF 'laws.FnExactScalarSame'. -/
def fnExactScalarSameCard : Claim7 := { stood := { row := fnExactScalarSameRow, standIns := [], harness := (true, "0d984f34451998418575f8e3ad1f137ef534e63bf4265c7d063654a005b6adfb"), looks := true }, kinds := [], alts := [], laidByText := true, laidKinds := [.data, .data, .data, .data, .sentinel, .sentinel, .pinned], laidTests := true, laidLooks := .later }
def FnExactScalarSameCardSaid : Prop := Claim7.holds Tryz.pinned (.plain (OpenSpec.ofChange fnExactScalarSameSpec)) fnExactScalarSameCard

/-- THE SECOND FORM's CARD OF 'laws.FnKeys'. -/
def fnKeysUptoCard : Claim7 := { stood := { row := fnKeysUptoRow, standIns := [], harness := (true, "0d984f34451998418575f8e3ad1f137ef534e63bf4265c7d063654a005b6adfb"), looks := true }, kinds := [], alts := [], laidByText := true, laidKinds := [.data, .data, .data, .data, .sentinel, .sentinel, .pinned], laidTests := true, laidLooks := .later }
def FnKeysUptoCardSaid : Prop := Claim7.holds Tryz.pinned (.plain (OpenSpec.upto fnKeysSpec)) fnKeysUptoCard

/-- THE SECOND FORM's CARD OF 'laws.FnScalars'. -/
def fnScalarsUptoCard : Claim7 := { stood := { row := fnScalarsUptoRow, standIns := [], harness := (true, "0d984f34451998418575f8e3ad1f137ef534e63bf4265c7d063654a005b6adfb"), looks := true }, kinds := [], alts := [], laidByText := true, laidKinds := [.data, .data, .data, .data, .sentinel, .sentinel, .pinned], laidTests := true, laidLooks := .later }
def FnScalarsUptoCardSaid : Prop := Claim7.holds Tryz.pinned (.plain (OpenSpec.upto fnScalarsSpec)) fnScalarsUptoCard

/-- THE SECOND FORM's CARD OF 'laws.FnExactScalarText'. -/
def fnExactScalarTextUptoCard : Claim7 := { stood := { row := fnExactScalarTextUptoRow, standIns := [], harness := (true, "0d984f34451998418575f8e3ad1f137ef534e63bf4265c7d063654a005b6adfb"), looks := true }, kinds := [], alts := [], laidByText := true, laidKinds := [.data, .data, .data, .data, .pinned], laidTests := true, laidLooks := .later }
def FnExactScalarTextUptoCardSaid : Prop := Claim7.holds Tryz.pinned (.plain (OpenSpec.upto fnExactScalarTextSpec)) fnExactScalarTextUptoCard

/-- THE SECOND FORM's CARD OF 'laws.FnExactReadScalar'. -/
def fnExactReadScalarUptoCard : Claim7 := { stood := { row := fnExactReadScalarUptoRow, standIns := [], harness := (true, "0d984f34451998418575f8e3ad1f137ef534e63bf4265c7d063654a005b6adfb"), looks := true }, kinds := [], alts := [], laidByText := true, laidKinds := [.data, .data, .data, .data, .sentinel, .sentinel, .pinned], laidTests := true, laidLooks := .later }
def FnExactReadScalarUptoCardSaid : Prop := Claim7.holds Tryz.pinned (.plain (OpenSpec.upto fnExactReadScalarSpec)) fnExactReadScalarUptoCard

/-- THE SECOND FORM's CARD OF 'laws.FnExactInline'. -/
def fnExactInlineUptoCard : Claim7 := { stood := { row := fnExactInlineUptoRow, standIns := [], harness := (true, "0d984f34451998418575f8e3ad1f137ef534e63bf4265c7d063654a005b6adfb"), looks := true }, kinds := [], alts := [], laidByText := true, laidKinds := [.data, .data, .data, .data, .sentinel, .sentinel, .pinned], laidTests := true, laidLooks := .later }
def FnExactInlineUptoCardSaid : Prop := Claim7.holds Tryz.pinned (.plain (OpenSpec.upto fnExactInlineSpec)) fnExactInlineUptoCard

/-- THE SECOND FORM's CARD OF 'laws.FnExactScalarSame'. -/
def fnExactScalarSameUptoCard : Claim7 := { stood := { row := fnExactScalarSameUptoRow, standIns := [], harness := (true, "0d984f34451998418575f8e3ad1f137ef534e63bf4265c7d063654a005b6adfb"), looks := true }, kinds := [], alts := [], laidByText := true, laidKinds := [.data, .data, .data, .data, .sentinel, .sentinel, .pinned], laidTests := true, laidLooks := .later }
def FnExactScalarSameUptoCardSaid : Prop := Claim7.holds Tryz.pinned (.plain (OpenSpec.upto fnExactScalarSameSpec)) fnExactScalarSameUptoCard
end Rows
end Go.Proofs.YtegpcjkcejijpaaGreatDoor
