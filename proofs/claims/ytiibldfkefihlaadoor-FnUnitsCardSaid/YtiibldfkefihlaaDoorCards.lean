/-
  DERIVED. GIVEN WITH THE SEED: THE CARDS: each row of YtiibldfkefihlaaDoorRows.lean that lists a variable, with what it lists TIED to the program's text (the seventh form; the later family's looks); each row that meets fmt, with fmt's text TOLD by the authors' own Lean function (tested against real Go, not proved from fmt's source: count such statements apart). THE CARD IS WHAT COUNTS. Prove the row's statement (the work); the ties are given (YtiibldfkefihlaaDoorTie.lean); close each card by the builder's one call (the guide's Derived/Test/ToyasCard.lean, 'card_holds'). Laid BY PROGRAM, IN A SANDBOX (cutbox-door.mjs). By AI agents, Wed Nov 11 2026. No macro, syntax, notation, axiom, sorry.
-/
import Derived.Test.YtiibldfkefihlaaDoorRows
import GoSem.ClaimSeven
namespace Go.Proofs.YtiibldfkefihlaaDoor
namespace Rows

/-- THE TIED CARD OF 'laws.FnAmounts'. -/
def fnAmountsCard : Claim7 := { stood := { row := fnAmountsRow, standIns := [], harness := (true, "c10e32787c9aa9eb742240cfe853fb0609f69300f413be17949cea4f3a27c7ab"), looks := true }, kinds := [], alts := [], laidByText := true, laidKinds := [.data, .data, .data, .data, .sentinel, .sentinel, .pinned], laidTests := true, laidLooks := .later }
def FnAmountsCardSaid : Prop := Claim7.holds Tryd.pinned (.plain (OpenSpec.ofChange fnAmountsSpec)) fnAmountsCard

/-- THE TIED CARD OF 'laws.FnUnits'. -/
def fnUnitsCard : Claim7 := { stood := { row := fnUnitsRow, standIns := [], harness := (true, "c10e32787c9aa9eb742240cfe853fb0609f69300f413be17949cea4f3a27c7ab"), looks := true }, kinds := [], alts := [], laidByText := true, laidKinds := [.data, .data, .data, .data, .sentinel, .sentinel, .pinned], laidTests := true, laidLooks := .later }
def FnUnitsCardSaid : Prop := Claim7.holds Tryd.pinned (.plain (OpenSpec.ofChange fnUnitsSpec)) fnUnitsCard

/-- THE TIED CARD OF 'laws.FnExactSplitAmount'. -/
def fnExactSplitAmountCard : Claim7 := { stood := { row := fnExactSplitAmountRow, standIns := [], harness := (true, "c10e32787c9aa9eb742240cfe853fb0609f69300f413be17949cea4f3a27c7ab"), looks := true }, kinds := [], alts := [], laidByText := true, laidKinds := [.data, .pinned], laidTests := true, laidLooks := .later }
def FnExactSplitAmountCardSaid : Prop := Claim7.holds Tryd.pinned (.plain (OpenSpec.ofChange fnExactSplitAmountSpec)) fnExactSplitAmountCard

/-- THE TIED CARD OF 'laws.FnExactReadAmount'. -/
def fnExactReadAmountCard : Claim7 := { stood := { row := fnExactReadAmountRow, standIns := [], harness := (true, "c10e32787c9aa9eb742240cfe853fb0609f69300f413be17949cea4f3a27c7ab"), looks := true }, kinds := [], alts := [], laidByText := true, laidKinds := [.data, .data, .data, .data, .sentinel, .sentinel, .pinned], laidTests := true, laidLooks := .later }
def FnExactReadAmountCardSaid : Prop := Claim7.holds Tryd.pinned (.plain (OpenSpec.ofChange fnExactReadAmountSpec)) fnExactReadAmountCard

/-- THE TIED CARD OF 'laws.FnExactNormalAmount'. -/
def fnExactNormalAmountCard : Claim7 := { stood := { row := fnExactNormalAmountRow, standIns := [], harness := (true, "c10e32787c9aa9eb742240cfe853fb0609f69300f413be17949cea4f3a27c7ab"), looks := true }, kinds := [], alts := [], laidByText := true, laidKinds := [.data, .data, .data, .data, .sentinel, .sentinel, .pinned], laidTests := true, laidLooks := .later }
def FnExactNormalAmountCardSaid : Prop := Claim7.holds Tryd.pinned (.plain (OpenSpec.ofChange fnExactNormalAmountSpec)) fnExactNormalAmountCard

/-- THE TIED CARD OF 'laws.FnExactCompareAmounts'. -/
def fnExactCompareAmountsCard : Claim7 := { stood := { row := fnExactCompareAmountsRow, standIns := [], harness := (true, "c10e32787c9aa9eb742240cfe853fb0609f69300f413be17949cea4f3a27c7ab"), looks := true }, kinds := [], alts := [], laidByText := true, laidKinds := [.data, .data, .data, .data, .sentinel, .sentinel, .pinned], laidTests := true, laidLooks := .later }
def FnExactCompareAmountsCardSaid : Prop := Claim7.holds Tryd.pinned (.plain (OpenSpec.ofChange fnExactCompareAmountsSpec)) fnExactCompareAmountsCard

/-- THE SECOND FORM's CARD OF 'laws.FnAmounts'. -/
def fnAmountsUptoCard : Claim7 := { stood := { row := fnAmountsUptoRow, standIns := [], harness := (true, "c10e32787c9aa9eb742240cfe853fb0609f69300f413be17949cea4f3a27c7ab"), looks := true }, kinds := [], alts := [], laidByText := true, laidKinds := [.data, .data, .data, .data, .sentinel, .sentinel, .pinned], laidTests := true, laidLooks := .later }
def FnAmountsUptoCardSaid : Prop := Claim7.holds Tryd.pinned (.plain (OpenSpec.upto fnAmountsSpec)) fnAmountsUptoCard

/-- THE SECOND FORM's CARD OF 'laws.FnUnits'. -/
def fnUnitsUptoCard : Claim7 := { stood := { row := fnUnitsUptoRow, standIns := [], harness := (true, "c10e32787c9aa9eb742240cfe853fb0609f69300f413be17949cea4f3a27c7ab"), looks := true }, kinds := [], alts := [], laidByText := true, laidKinds := [.data, .data, .data, .data, .sentinel, .sentinel, .pinned], laidTests := true, laidLooks := .later }
def FnUnitsUptoCardSaid : Prop := Claim7.holds Tryd.pinned (.plain (OpenSpec.upto fnUnitsSpec)) fnUnitsUptoCard

/-- THE SECOND FORM's CARD OF 'laws.FnExactSplitAmount'. -/
def fnExactSplitAmountUptoCard : Claim7 := { stood := { row := fnExactSplitAmountUptoRow, standIns := [], harness := (true, "c10e32787c9aa9eb742240cfe853fb0609f69300f413be17949cea4f3a27c7ab"), looks := true }, kinds := [], alts := [], laidByText := true, laidKinds := [.data, .pinned], laidTests := true, laidLooks := .later }
def FnExactSplitAmountUptoCardSaid : Prop := Claim7.holds Tryd.pinned (.plain (OpenSpec.upto fnExactSplitAmountSpec)) fnExactSplitAmountUptoCard

/-- THE SECOND FORM's CARD OF 'laws.FnExactReadAmount'. -/
def fnExactReadAmountUptoCard : Claim7 := { stood := { row := fnExactReadAmountUptoRow, standIns := [], harness := (true, "c10e32787c9aa9eb742240cfe853fb0609f69300f413be17949cea4f3a27c7ab"), looks := true }, kinds := [], alts := [], laidByText := true, laidKinds := [.data, .data, .data, .data, .sentinel, .sentinel, .pinned], laidTests := true, laidLooks := .later }
def FnExactReadAmountUptoCardSaid : Prop := Claim7.holds Tryd.pinned (.plain (OpenSpec.upto fnExactReadAmountSpec)) fnExactReadAmountUptoCard

/-- THE SECOND FORM's CARD OF 'laws.FnExactNormalAmount'. -/
def fnExactNormalAmountUptoCard : Claim7 := { stood := { row := fnExactNormalAmountUptoRow, standIns := [], harness := (true, "c10e32787c9aa9eb742240cfe853fb0609f69300f413be17949cea4f3a27c7ab"), looks := true }, kinds := [], alts := [], laidByText := true, laidKinds := [.data, .data, .data, .data, .sentinel, .sentinel, .pinned], laidTests := true, laidLooks := .later }
def FnExactNormalAmountUptoCardSaid : Prop := Claim7.holds Tryd.pinned (.plain (OpenSpec.upto fnExactNormalAmountSpec)) fnExactNormalAmountUptoCard

/-- THE SECOND FORM's CARD OF 'laws.FnExactCompareAmounts'. -/
def fnExactCompareAmountsUptoCard : Claim7 := { stood := { row := fnExactCompareAmountsUptoRow, standIns := [], harness := (true, "c10e32787c9aa9eb742240cfe853fb0609f69300f413be17949cea4f3a27c7ab"), looks := true }, kinds := [], alts := [], laidByText := true, laidKinds := [.data, .data, .data, .data, .sentinel, .sentinel, .pinned], laidTests := true, laidLooks := .later }
def FnExactCompareAmountsUptoCardSaid : Prop := Claim7.holds Tryd.pinned (.plain (OpenSpec.upto fnExactCompareAmountsSpec)) fnExactCompareAmountsUptoCard
end Rows
end Go.Proofs.YtiibldfkefihlaaDoor
