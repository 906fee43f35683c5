/-
  DERIVED. GIVEN WITH THE SEED: THE CARDS: each row of YtamlkieeiflgkaaDoorRows.lean that lists a variable, with what it lists TIED to the program's text (the seventh form; the later family's looks); each row that meets fmt, with fmt's text TOLD by the authors' own Lean function (tested against real Go, not proved from fmt's source: count such statements apart). THE CARD IS WHAT COUNTS. Prove the row's statement (the work); the ties are given (YtamlkieeiflgkaaDoorTie.lean); close each card by the builder's one call (the guide's Derived/Test/ToyasCard.lean, 'card_holds'). Laid BY PROGRAM, IN A SANDBOX (cutbox-door.mjs). By AI agents, Wed Nov 11 2026. No macro, syntax, notation, axiom, sorry.
-/
import Derived.Test.YtamlkieeiflgkaaDoorRows
import GoSem.ClaimSeven
namespace Go.Proofs.YtamlkieeiflgkaaDoor
namespace Rows

/-- THE TIED CARD OF 'laws.FnExactQuoted'. -/
def fnExactQuotedCard : Claim7 := { stood := { row := fnExactQuotedRow, standIns := [], harness := (true, "a678a6cc66e3f7602f9bc06d189411d51782af5797e1dbf520c3adb65e918249"), looks := true }, kinds := [], alts := [], laidByText := true, laidKinds := [.data, .pinned], laidTests := true, laidLooks := .later }
def FnExactQuotedCardSaid : Prop := Claim7.holds Tryd.pinned (.plain (OpenSpec.ofChange fnExactQuotedSpec)) fnExactQuotedCard

/-- THE TIED CARD OF 'laws.FnExactReadQuoted'. -/
def fnExactReadQuotedCard : Claim7 := { stood := { row := fnExactReadQuotedRow, standIns := [], harness := (true, "a678a6cc66e3f7602f9bc06d189411d51782af5797e1dbf520c3adb65e918249"), looks := true }, kinds := [], alts := [], laidByText := true, laidKinds := [.data, .data, .data, .data, .sentinel, .sentinel, .pinned], laidTests := true, laidLooks := .later }
def FnExactReadQuotedCardSaid : Prop := Claim7.holds Tryd.pinned (.plain (OpenSpec.ofChange fnExactReadQuotedSpec)) fnExactReadQuotedCard

/-- THE TIED CARD OF 'laws.FnExactReadWhole'. -/
def fnExactReadWholeCard : Claim7 := { stood := { row := fnExactReadWholeRow, standIns := [], harness := (true, "a678a6cc66e3f7602f9bc06d189411d51782af5797e1dbf520c3adb65e918249"), looks := true }, kinds := [], alts := [], laidByText := true, laidKinds := [.data, .data, .data, .data, .sentinel, .sentinel, .pinned], laidTests := true, laidLooks := .later }
def FnExactReadWholeCardSaid : Prop := Claim7.holds Tryd.pinned (.plain (OpenSpec.ofChange fnExactReadWholeSpec)) fnExactReadWholeCard

/-- THE TIED CARD OF 'laws.FnExactSignAt'. -/
def fnExactSignAtCard : Claim7 := { stood := { row := fnExactSignAtRow, standIns := [], harness := (true, "a678a6cc66e3f7602f9bc06d189411d51782af5797e1dbf520c3adb65e918249"), looks := true }, kinds := [], alts := [], laidByText := true, laidKinds := [.data, .data, .data, .data, .sentinel, .sentinel, .pinned], laidTests := true, laidLooks := .later }
def FnExactSignAtCardSaid : Prop := Claim7.holds Tryd.pinned (.plain (OpenSpec.ofChange fnExactSignAtSpec)) fnExactSignAtCard

/-- THE TIED CARD OF 'laws.FnExactSignsOf'. -/
def fnExactSignsOfCard : Claim7 := { stood := { row := fnExactSignsOfRow, standIns := [], harness := (true, "a678a6cc66e3f7602f9bc06d189411d51782af5797e1dbf520c3adb65e918249"), looks := true }, kinds := [], alts := [], laidByText := true, laidKinds := [.data, .data, .data, .data, .sentinel, .sentinel, .pinned], laidTests := true, laidLooks := .later }
def FnExactSignsOfCardSaid : Prop := Claim7.holds Tryd.pinned (.plain (OpenSpec.ofChange fnExactSignsOfSpec)) fnExactSignsOfCard

/-- THE TIED CARD OF 'laws.FnQuoted'. -/
def fnQuotedCard : Claim7 := { stood := { row := fnQuotedRow, standIns := [], harness := (true, "a678a6cc66e3f7602f9bc06d189411d51782af5797e1dbf520c3adb65e918249"), looks := true }, kinds := [], alts := [], laidByText := true, laidKinds := [.data, .data, .data, .data, .sentinel, .sentinel, .pinned], laidTests := true, laidLooks := .later }
def FnQuotedCardSaid : Prop := Claim7.holds Tryd.pinned (.plain (OpenSpec.ofChange fnQuotedSpec)) fnQuotedCard

/-- THE TIED CARD OF 'laws.FnWholes'. -/
def fnWholesCard : Claim7 := { stood := { row := fnWholesRow, standIns := [], harness := (true, "a678a6cc66e3f7602f9bc06d189411d51782af5797e1dbf520c3adb65e918249"), looks := true }, kinds := [], alts := [], laidByText := true, laidKinds := [.data, .data, .data, .data, .sentinel, .sentinel, .pinned], laidTests := true, laidLooks := .later }
def FnWholesCardSaid : Prop := Claim7.holds Tryd.pinned (.plain (OpenSpec.ofChange fnWholesSpec)) fnWholesCard

/-- THE SECOND FORM's CARD OF 'laws.FnExactQuoted'. -/
def fnExactQuotedUptoCard : Claim7 := { stood := { row := fnExactQuotedUptoRow, standIns := [], harness := (true, "a678a6cc66e3f7602f9bc06d189411d51782af5797e1dbf520c3adb65e918249"), looks := true }, kinds := [], alts := [], laidByText := true, laidKinds := [.data, .pinned], laidTests := true, laidLooks := .later }
def FnExactQuotedUptoCardSaid : Prop := Claim7.holds Tryd.pinned (.plain (OpenSpec.upto fnExactQuotedSpec)) fnExactQuotedUptoCard

/-- THE SECOND FORM's CARD OF 'laws.FnExactReadQuoted'. -/
def fnExactReadQuotedUptoCard : Claim7 := { stood := { row := fnExactReadQuotedUptoRow, standIns := [], harness := (true, "a678a6cc66e3f7602f9bc06d189411d51782af5797e1dbf520c3adb65e918249"), looks := true }, kinds := [], alts := [], laidByText := true, laidKinds := [.data, .data, .data, .data, .sentinel, .sentinel, .pinned], laidTests := true, laidLooks := .later }
def FnExactReadQuotedUptoCardSaid : Prop := Claim7.holds Tryd.pinned (.plain (OpenSpec.upto fnExactReadQuotedSpec)) fnExactReadQuotedUptoCard

/-- THE SECOND FORM's CARD OF 'laws.FnExactReadWhole'. -/
def fnExactReadWholeUptoCard : Claim7 := { stood := { row := fnExactReadWholeUptoRow, standIns := [], harness := (true, "a678a6cc66e3f7602f9bc06d189411d51782af5797e1dbf520c3adb65e918249"), looks := true }, kinds := [], alts := [], laidByText := true, laidKinds := [.data, .data, .data, .data, .sentinel, .sentinel, .pinned], laidTests := true, laidLooks := .later }
def FnExactReadWholeUptoCardSaid : Prop := Claim7.holds Tryd.pinned (.plain (OpenSpec.upto fnExactReadWholeSpec)) fnExactReadWholeUptoCard

/-- THE SECOND FORM's CARD OF 'laws.FnExactSignAt'. -/
def fnExactSignAtUptoCard : Claim7 := { stood := { row := fnExactSignAtUptoRow, standIns := [], harness := (true, "a678a6cc66e3f7602f9bc06d189411d51782af5797e1dbf520c3adb65e918249"), looks := true }, kinds := [], alts := [], laidByText := true, laidKinds := [.data, .data, .data, .data, .sentinel, .sentinel, .pinned], laidTests := true, laidLooks := .later }
def FnExactSignAtUptoCardSaid : Prop := Claim7.holds Tryd.pinned (.plain (OpenSpec.upto fnExactSignAtSpec)) fnExactSignAtUptoCard

/-- THE SECOND FORM's CARD OF 'laws.FnExactSignsOf'. -/
def fnExactSignsOfUptoCard : Claim7 := { stood := { row := fnExactSignsOfUptoRow, standIns := [], harness := (true, "a678a6cc66e3f7602f9bc06d189411d51782af5797e1dbf520c3adb65e918249"), looks := true }, kinds := [], alts := [], laidByText := true, laidKinds := [.data, .data, .data, .data, .sentinel, .sentinel, .pinned], laidTests := true, laidLooks := .later }
def FnExactSignsOfUptoCardSaid : Prop := Claim7.holds Tryd.pinned (.plain (OpenSpec.upto fnExactSignsOfSpec)) fnExactSignsOfUptoCard

/-- THE SECOND FORM's CARD OF 'laws.FnQuoted'. -/
def fnQuotedUptoCard : Claim7 := { stood := { row := fnQuotedUptoRow, standIns := [], harness := (true, "a678a6cc66e3f7602f9bc06d189411d51782af5797e1dbf520c3adb65e918249"), looks := true }, kinds := [], alts := [], laidByText := true, laidKinds := [.data, .data, .data, .data, .sentinel, .sentinel, .pinned], laidTests := true, laidLooks := .later }
def FnQuotedUptoCardSaid : Prop := Claim7.holds Tryd.pinned (.plain (OpenSpec.upto fnQuotedSpec)) fnQuotedUptoCard

/-- THE SECOND FORM's CARD OF 'laws.FnWholes'. -/
def fnWholesUptoCard : Claim7 := { stood := { row := fnWholesUptoRow, standIns := [], harness := (true, "a678a6cc66e3f7602f9bc06d189411d51782af5797e1dbf520c3adb65e918249"), looks := true }, kinds := [], alts := [], laidByText := true, laidKinds := [.data, .data, .data, .data, .sentinel, .sentinel, .pinned], laidTests := true, laidLooks := .later }
def FnWholesUptoCardSaid : Prop := Claim7.holds Tryd.pinned (.plain (OpenSpec.upto fnWholesSpec)) fnWholesUptoCard
end Rows
end Go.Proofs.YtamlkieeiflgkaaDoor
