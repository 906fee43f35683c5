/-
  DERIVED. GIVEN WITH THE SEED: THE CARDS: each row of YtpadpiibiocabaaDoorRows.lean that lists a variable, with what it lists TIED to the program's text (the seventh form; the later family's looks); each row that meets fmt, with fmt's text TOLD by the authors' own Lean function (tested against real Go, not proved from fmt's source: count such statements apart). THE CARD IS WHAT COUNTS. Prove the row's statement (the work); the ties are given (YtpadpiibiocabaaDoorTie.lean); close each card by the builder's one call (the guide's Derived/Test/ToyasCard.lean, 'card_holds'). Laid BY PROGRAM, IN A SANDBOX (cutbox-door.mjs). By AI agents, Wed Nov 11 2026. No macro, syntax, notation, axiom, sorry.
-/
import Derived.Test.YtpadpiibiocabaaDoorRows
import GoSem.ClaimSeven
namespace Go.Proofs.YtpadpiibiocabaaDoor
namespace Rows

/-- THE TIED CARD OF 'laws.FnTolerates'. -/
def fnToleratesCard : Claim7 := { stood := { row := fnToleratesRow, standIns := [], harness := (true, "544985aaf79bb64d71ff7c37aaa94368c28f827b2bbf3f416ce811e194984e42"), looks := false }, kinds := [], alts := [], laidByText := true, laidKinds := [.data, .pinned], laidTests := true, laidLooks := .later }
def FnToleratesCardSaid : Prop := Claim7.holds Tryd.pinned (.plain (OpenSpec.ofChange fnToleratesSpec)) fnToleratesCard

/-- THE TIED CARD OF 'laws.FnExactTaintOk'. -/
def fnExactTaintOkCard : Claim7 := { stood := { row := fnExactTaintOkRow, standIns := [], harness := (true, "544985aaf79bb64d71ff7c37aaa94368c28f827b2bbf3f416ce811e194984e42"), looks := false }, kinds := [], alts := [], laidByText := true, laidKinds := [.data, .pinned], laidTests := true, laidLooks := .later }
def FnExactTaintOkCardSaid : Prop := Claim7.holds Tryd.pinned (.plain (OpenSpec.ofChange fnExactTaintOkSpec)) fnExactTaintOkCard

/-- THE TIED CARD OF 'laws.FnExactTaintsOk'. -/
def fnExactTaintsOkCard : Claim7 := { stood := { row := fnExactTaintsOkRow, standIns := [], harness := (true, "544985aaf79bb64d71ff7c37aaa94368c28f827b2bbf3f416ce811e194984e42"), looks := false }, kinds := [], alts := [], laidByText := true, laidKinds := [.data, .pinned], laidTests := true, laidLooks := .later }
def FnExactTaintsOkCardSaid : Prop := Claim7.holds Tryd.pinned (.plain (OpenSpec.ofChange fnExactTaintsOkSpec)) fnExactTaintsOkCard

/-- THE TIED CARD OF 'laws.FnExactToleranceOk'. -/
def fnExactToleranceOkCard : Claim7 := { stood := { row := fnExactToleranceOkRow, standIns := [], harness := (true, "544985aaf79bb64d71ff7c37aaa94368c28f827b2bbf3f416ce811e194984e42"), looks := false }, kinds := [], alts := [], laidByText := true, laidKinds := [.data, .pinned], laidTests := true, laidLooks := .later }
def FnExactToleranceOkCardSaid : Prop := Claim7.holds Tryd.pinned (.plain (OpenSpec.ofChange fnExactToleranceOkSpec)) fnExactToleranceOkCard

/-- THE TIED CARD OF 'laws.FnExactTolerancesOk'. -/
def fnExactTolerancesOkCard : Claim7 := { stood := { row := fnExactTolerancesOkRow, standIns := [], harness := (true, "544985aaf79bb64d71ff7c37aaa94368c28f827b2bbf3f416ce811e194984e42"), looks := false }, kinds := [], alts := [], laidByText := true, laidKinds := [.data, .pinned], laidTests := true, laidLooks := .later }
def FnExactTolerancesOkCardSaid : Prop := Claim7.holds Tryd.pinned (.plain (OpenSpec.ofChange fnExactTolerancesOkSpec)) fnExactTolerancesOkCard

/-- THE TIED CARD OF 'laws.FnExactTolerates'. -/
def fnExactToleratesCard : Claim7 := { stood := { row := fnExactToleratesRow, standIns := [], harness := (true, "544985aaf79bb64d71ff7c37aaa94368c28f827b2bbf3f416ce811e194984e42"), looks := false }, kinds := [], alts := [], laidByText := true, laidKinds := [.data, .pinned], laidTests := true, laidLooks := .later }
def FnExactToleratesCardSaid : Prop := Claim7.holds Tryd.pinned (.plain (OpenSpec.ofChange fnExactToleratesSpec)) fnExactToleratesCard

/-- THE TIED CARD OF 'laws.FnExactUntolerated'. -/
def fnExactUntoleratedCard : Claim7 := { stood := { row := fnExactUntoleratedRow, standIns := [], harness := (true, "544985aaf79bb64d71ff7c37aaa94368c28f827b2bbf3f416ce811e194984e42"), looks := false }, kinds := [], alts := [], laidByText := true, laidKinds := [.data, .pinned], laidTests := true, laidLooks := .later }
def FnExactUntoleratedCardSaid : Prop := Claim7.holds Tryd.pinned (.plain (OpenSpec.ofChange fnExactUntoleratedSpec)) fnExactUntoleratedCard

/-- THE TIED CARD OF 'laws.FnExactSortTaints'. -/
def fnExactSortTaintsCard : Claim7 := { stood := { row := fnExactSortTaintsRow, standIns := [], harness := (true, "544985aaf79bb64d71ff7c37aaa94368c28f827b2bbf3f416ce811e194984e42"), looks := false }, kinds := [], alts := [], laidByText := true, laidKinds := [.data, .pinned], laidTests := true, laidLooks := .later }
def FnExactSortTaintsCardSaid : Prop := Claim7.holds Tryd.pinned (.plain (OpenSpec.ofChange fnExactSortTaintsSpec)) fnExactSortTaintsCard

/-- THE TIED CARD OF 'laws.FnExactSortTolerances'. -/
def fnExactSortTolerancesCard : Claim7 := { stood := { row := fnExactSortTolerancesRow, standIns := [], harness := (true, "544985aaf79bb64d71ff7c37aaa94368c28f827b2bbf3f416ce811e194984e42"), looks := false }, kinds := [], alts := [], laidByText := true, laidKinds := [.data, .pinned], laidTests := true, laidLooks := .later }
def FnExactSortTolerancesCardSaid : Prop := Claim7.holds Tryd.pinned (.plain (OpenSpec.ofChange fnExactSortTolerancesSpec)) fnExactSortTolerancesCard

/-- THE SECOND FORM's CARD OF 'laws.FnTolerates'. -/
def fnToleratesUptoCard : Claim7 := { stood := { row := fnToleratesUptoRow, standIns := [], harness := (true, "544985aaf79bb64d71ff7c37aaa94368c28f827b2bbf3f416ce811e194984e42"), looks := false }, kinds := [], alts := [], laidByText := true, laidKinds := [.data, .pinned], laidTests := true, laidLooks := .later }
def FnToleratesUptoCardSaid : Prop := Claim7.holds Tryd.pinned (.plain (OpenSpec.upto fnToleratesSpec)) fnToleratesUptoCard

/-- THE SECOND FORM's CARD OF 'laws.FnExactTaintOk'. -/
def fnExactTaintOkUptoCard : Claim7 := { stood := { row := fnExactTaintOkUptoRow, standIns := [], harness := (true, "544985aaf79bb64d71ff7c37aaa94368c28f827b2bbf3f416ce811e194984e42"), looks := false }, kinds := [], alts := [], laidByText := true, laidKinds := [.data, .pinned], laidTests := true, laidLooks := .later }
def FnExactTaintOkUptoCardSaid : Prop := Claim7.holds Tryd.pinned (.plain (OpenSpec.upto fnExactTaintOkSpec)) fnExactTaintOkUptoCard

/-- THE SECOND FORM's CARD OF 'laws.FnExactTaintsOk'. -/
def fnExactTaintsOkUptoCard : Claim7 := { stood := { row := fnExactTaintsOkUptoRow, standIns := [], harness := (true, "544985aaf79bb64d71ff7c37aaa94368c28f827b2bbf3f416ce811e194984e42"), looks := false }, kinds := [], alts := [], laidByText := true, laidKinds := [.data, .pinned], laidTests := true, laidLooks := .later }
def FnExactTaintsOkUptoCardSaid : Prop := Claim7.holds Tryd.pinned (.plain (OpenSpec.upto fnExactTaintsOkSpec)) fnExactTaintsOkUptoCard

/-- THE SECOND FORM's CARD OF 'laws.FnExactToleranceOk'. -/
def fnExactToleranceOkUptoCard : Claim7 := { stood := { row := fnExactToleranceOkUptoRow, standIns := [], harness := (true, "544985aaf79bb64d71ff7c37aaa94368c28f827b2bbf3f416ce811e194984e42"), looks := false }, kinds := [], alts := [], laidByText := true, laidKinds := [.data, .pinned], laidTests := true, laidLooks := .later }
def FnExactToleranceOkUptoCardSaid : Prop := Claim7.holds Tryd.pinned (.plain (OpenSpec.upto fnExactToleranceOkSpec)) fnExactToleranceOkUptoCard

/-- THE SECOND FORM's CARD OF 'laws.FnExactTolerancesOk'. -/
def fnExactTolerancesOkUptoCard : Claim7 := { stood := { row := fnExactTolerancesOkUptoRow, standIns := [], harness := (true, "544985aaf79bb64d71ff7c37aaa94368c28f827b2bbf3f416ce811e194984e42"), looks := false }, kinds := [], alts := [], laidByText := true, laidKinds := [.data, .pinned], laidTests := true, laidLooks := .later }
def FnExactTolerancesOkUptoCardSaid : Prop := Claim7.holds Tryd.pinned (.plain (OpenSpec.upto fnExactTolerancesOkSpec)) fnExactTolerancesOkUptoCard

/-- THE SECOND FORM's CARD OF 'laws.FnExactTolerates'. -/
def fnExactToleratesUptoCard : Claim7 := { stood := { row := fnExactToleratesUptoRow, standIns := [], harness := (true, "544985aaf79bb64d71ff7c37aaa94368c28f827b2bbf3f416ce811e194984e42"), looks := false }, kinds := [], alts := [], laidByText := true, laidKinds := [.data, .pinned], laidTests := true, laidLooks := .later }
def FnExactToleratesUptoCardSaid : Prop := Claim7.holds Tryd.pinned (.plain (OpenSpec.upto fnExactToleratesSpec)) fnExactToleratesUptoCard

/-- THE SECOND FORM's CARD OF 'laws.FnExactUntolerated'. -/
def fnExactUntoleratedUptoCard : Claim7 := { stood := { row := fnExactUntoleratedUptoRow, standIns := [], harness := (true, "544985aaf79bb64d71ff7c37aaa94368c28f827b2bbf3f416ce811e194984e42"), looks := false }, kinds := [], alts := [], laidByText := true, laidKinds := [.data, .pinned], laidTests := true, laidLooks := .later }
def FnExactUntoleratedUptoCardSaid : Prop := Claim7.holds Tryd.pinned (.plain (OpenSpec.upto fnExactUntoleratedSpec)) fnExactUntoleratedUptoCard

/-- THE SECOND FORM's CARD OF 'laws.FnExactSortTaints'. -/
def fnExactSortTaintsUptoCard : Claim7 := { stood := { row := fnExactSortTaintsUptoRow, standIns := [], harness := (true, "544985aaf79bb64d71ff7c37aaa94368c28f827b2bbf3f416ce811e194984e42"), looks := false }, kinds := [], alts := [], laidByText := true, laidKinds := [.data, .pinned], laidTests := true, laidLooks := .later }
def FnExactSortTaintsUptoCardSaid : Prop := Claim7.holds Tryd.pinned (.plain (OpenSpec.upto fnExactSortTaintsSpec)) fnExactSortTaintsUptoCard

/-- THE SECOND FORM's CARD OF 'laws.FnExactSortTolerances'. -/
def fnExactSortTolerancesUptoCard : Claim7 := { stood := { row := fnExactSortTolerancesUptoRow, standIns := [], harness := (true, "544985aaf79bb64d71ff7c37aaa94368c28f827b2bbf3f416ce811e194984e42"), looks := false }, kinds := [], alts := [], laidByText := true, laidKinds := [.data, .pinned], laidTests := true, laidLooks := .later }
def FnExactSortTolerancesUptoCardSaid : Prop := Claim7.holds Tryd.pinned (.plain (OpenSpec.upto fnExactSortTolerancesSpec)) fnExactSortTolerancesUptoCard
end Rows
end Go.Proofs.YtpadpiibiocabaaDoor
