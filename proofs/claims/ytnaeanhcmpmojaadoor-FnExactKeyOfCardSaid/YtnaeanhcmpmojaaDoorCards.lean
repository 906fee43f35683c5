/-
  DERIVED. GIVEN WITH THE SEED: THE CARDS: each row of YtnaeanhcmpmojaaDoorRows.lean that lists a variable, with what it lists TIED to the program's text (the seventh form; the later family's looks); each row that meets fmt, with fmt's text TOLD by the authors' own Lean function (tested against real Go, not proved from fmt's source: count such statements apart). THE CARD IS WHAT COUNTS. Prove the row's statement (the work); the ties are given (YtnaeanhcmpmojaaDoorTie.lean); close each card by the builder's one call (the guide's Derived/Test/ToyasCard.lean, 'card_holds'). Laid BY PROGRAM, IN A SANDBOX (cutbox-door.mjs). By AI agents, Wed Nov 11 2026. No macro, syntax, notation, axiom, sorry.
-/
import Derived.Test.YtnaeanhcmpmojaaDoorRows
import GoSem.ClaimSeven
namespace Go.Proofs.YtnaeanhcmpmojaaDoor
namespace Rows

/-- THE TIED CARD OF 'laws.FnLines'. -/
def fnLinesCard : Claim7 := { stood := { row := fnLinesRow, standIns := [], harness := (true, "db35ea18f39fc1482303fc99bdd87b4e4a3ac944f51497c38a74a206e92a6a7e"), looks := true }, kinds := [], alts := [], goes := true, laidByText := true, laidKinds := [.data, .pinned], laidTests := true, laidLooks := .later }
def FnLinesCardSaid : Prop := Claim7.holds Tryd.pinned (.plain (OpenSpec.ofChange fnLinesSpec)) fnLinesCard

/-- THE TIED CARD OF 'laws.FnExactBareLine'. -/
def fnExactBareLineCard : Claim7 := { stood := { row := fnExactBareLineRow, standIns := [], harness := (true, "db35ea18f39fc1482303fc99bdd87b4e4a3ac944f51497c38a74a206e92a6a7e"), looks := true }, kinds := [], alts := [], laidByText := true, laidKinds := [.data, .pinned], laidTests := true, laidLooks := .later }
def FnExactBareLineCardSaid : Prop := Claim7.holds Tryd.pinned (.plain (OpenSpec.ofChange fnExactBareLineSpec)) fnExactBareLineCard

/-- THE TIED CARD OF 'laws.FnExactIndentOf'. -/
def fnExactIndentOfCard : Claim7 := { stood := { row := fnExactIndentOfRow, standIns := [], harness := (true, "db35ea18f39fc1482303fc99bdd87b4e4a3ac944f51497c38a74a206e92a6a7e"), looks := true }, kinds := [], alts := [], laidByText := true, laidKinds := [.data, .pinned], laidTests := true, laidLooks := .later }
def FnExactIndentOfCardSaid : Prop := Claim7.holds Tryd.pinned (.plain (OpenSpec.ofChange fnExactIndentOfSpec)) fnExactIndentOfCard

/-- THE TIED CARD OF 'laws.FnExactLinesIn'. -/
def fnExactLinesInCard : Claim7 := { stood := { row := fnExactLinesInRow, standIns := [], harness := (true, "db35ea18f39fc1482303fc99bdd87b4e4a3ac944f51497c38a74a206e92a6a7e"), looks := true }, kinds := [], alts := [], goes := true, laidByText := true, laidKinds := [.data, .pinned], laidTests := true, laidLooks := .later }
def FnExactLinesInCardSaid : Prop := Claim7.holds Tryd.pinned (.plain (OpenSpec.ofChange fnExactLinesInSpec)) fnExactLinesInCard

/-- THE TIED CARD OF 'laws.FnExactKeyOf'. -/
def fnExactKeyOfCard : Claim7 := { stood := { row := fnExactKeyOfRow, standIns := [], harness := (true, "db35ea18f39fc1482303fc99bdd87b4e4a3ac944f51497c38a74a206e92a6a7e"), looks := true }, kinds := [], alts := [], laidByText := true, laidKinds := [.data, .data, .data, .data, .sentinel, .sentinel, .pinned], laidTests := true, laidLooks := .later }
def FnExactKeyOfCardSaid : Prop := Claim7.holds Tryd.pinned (.plain (OpenSpec.ofChange fnExactKeyOfSpec)) fnExactKeyOfCard

/-- THE TIED CARD OF 'laws.FnExactItemOf'. -/
def fnExactItemOfCard : Claim7 := { stood := { row := fnExactItemOfRow, standIns := [], harness := (true, "db35ea18f39fc1482303fc99bdd87b4e4a3ac944f51497c38a74a206e92a6a7e"), looks := true }, kinds := [], alts := [], laidByText := true, laidKinds := [.data, .pinned], laidTests := true, laidLooks := .later }
def FnExactItemOfCardSaid : Prop := Claim7.holds Tryd.pinned (.plain (OpenSpec.ofChange fnExactItemOfSpec)) fnExactItemOfCard

/-- THE TIED CARD OF 'laws.FnExactPlainOk'. -/
def fnExactPlainOkCard : Claim7 := { stood := { row := fnExactPlainOkRow, standIns := [], harness := (true, "db35ea18f39fc1482303fc99bdd87b4e4a3ac944f51497c38a74a206e92a6a7e"), looks := true }, kinds := [], alts := [], laidByText := true, laidKinds := [.data, .pinned], laidTests := true, laidLooks := .later }
def FnExactPlainOkCardSaid : Prop := Claim7.holds Tryd.pinned (.plain (OpenSpec.ofChange fnExactPlainOkSpec)) fnExactPlainOkCard

/-- THE SECOND FORM's CARD OF 'laws.FnLines'. -/
def fnLinesUptoCard : Claim7 := { stood := { row := fnLinesUptoRow, standIns := [], harness := (true, "db35ea18f39fc1482303fc99bdd87b4e4a3ac944f51497c38a74a206e92a6a7e"), looks := true }, kinds := [], alts := [], goes := true, laidByText := true, laidKinds := [.data, .pinned], laidTests := true, laidLooks := .later }
def FnLinesUptoCardSaid : Prop := Claim7.holds Tryd.pinned (.plain (OpenSpec.upto fnLinesSpec)) fnLinesUptoCard

/-- THE SECOND FORM's CARD OF 'laws.FnExactBareLine'. -/
def fnExactBareLineUptoCard : Claim7 := { stood := { row := fnExactBareLineUptoRow, standIns := [], harness := (true, "db35ea18f39fc1482303fc99bdd87b4e4a3ac944f51497c38a74a206e92a6a7e"), looks := true }, kinds := [], alts := [], laidByText := true, laidKinds := [.data, .pinned], laidTests := true, laidLooks := .later }
def FnExactBareLineUptoCardSaid : Prop := Claim7.holds Tryd.pinned (.plain (OpenSpec.upto fnExactBareLineSpec)) fnExactBareLineUptoCard

/-- THE SECOND FORM's CARD OF 'laws.FnExactIndentOf'. -/
def fnExactIndentOfUptoCard : Claim7 := { stood := { row := fnExactIndentOfUptoRow, standIns := [], harness := (true, "db35ea18f39fc1482303fc99bdd87b4e4a3ac944f51497c38a74a206e92a6a7e"), looks := true }, kinds := [], alts := [], laidByText := true, laidKinds := [.data, .pinned], laidTests := true, laidLooks := .later }
def FnExactIndentOfUptoCardSaid : Prop := Claim7.holds Tryd.pinned (.plain (OpenSpec.upto fnExactIndentOfSpec)) fnExactIndentOfUptoCard

/-- THE SECOND FORM's CARD OF 'laws.FnExactLinesIn'. -/
def fnExactLinesInUptoCard : Claim7 := { stood := { row := fnExactLinesInUptoRow, standIns := [], harness := (true, "db35ea18f39fc1482303fc99bdd87b4e4a3ac944f51497c38a74a206e92a6a7e"), looks := true }, kinds := [], alts := [], goes := true, laidByText := true, laidKinds := [.data, .pinned], laidTests := true, laidLooks := .later }
def FnExactLinesInUptoCardSaid : Prop := Claim7.holds Tryd.pinned (.plain (OpenSpec.upto fnExactLinesInSpec)) fnExactLinesInUptoCard

/-- THE SECOND FORM's CARD OF 'laws.FnExactKeyOf'. -/
def fnExactKeyOfUptoCard : Claim7 := { stood := { row := fnExactKeyOfUptoRow, standIns := [], harness := (true, "db35ea18f39fc1482303fc99bdd87b4e4a3ac944f51497c38a74a206e92a6a7e"), looks := true }, kinds := [], alts := [], laidByText := true, laidKinds := [.data, .data, .data, .data, .sentinel, .sentinel, .pinned], laidTests := true, laidLooks := .later }
def FnExactKeyOfUptoCardSaid : Prop := Claim7.holds Tryd.pinned (.plain (OpenSpec.upto fnExactKeyOfSpec)) fnExactKeyOfUptoCard

/-- THE SECOND FORM's CARD OF 'laws.FnExactItemOf'. -/
def fnExactItemOfUptoCard : Claim7 := { stood := { row := fnExactItemOfUptoRow, standIns := [], harness := (true, "db35ea18f39fc1482303fc99bdd87b4e4a3ac944f51497c38a74a206e92a6a7e"), looks := true }, kinds := [], alts := [], laidByText := true, laidKinds := [.data, .pinned], laidTests := true, laidLooks := .later }
def FnExactItemOfUptoCardSaid : Prop := Claim7.holds Tryd.pinned (.plain (OpenSpec.upto fnExactItemOfSpec)) fnExactItemOfUptoCard

/-- THE SECOND FORM's CARD OF 'laws.FnExactPlainOk'. -/
def fnExactPlainOkUptoCard : Claim7 := { stood := { row := fnExactPlainOkUptoRow, standIns := [], harness := (true, "db35ea18f39fc1482303fc99bdd87b4e4a3ac944f51497c38a74a206e92a6a7e"), looks := true }, kinds := [], alts := [], laidByText := true, laidKinds := [.data, .pinned], laidTests := true, laidLooks := .later }
def FnExactPlainOkUptoCardSaid : Prop := Claim7.holds Tryd.pinned (.plain (OpenSpec.upto fnExactPlainOkSpec)) fnExactPlainOkUptoCard
end Rows
end Go.Proofs.YtnaeanhcmpmojaaDoor
