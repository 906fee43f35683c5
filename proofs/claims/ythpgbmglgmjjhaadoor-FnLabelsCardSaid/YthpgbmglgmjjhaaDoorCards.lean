/-
  DERIVED. GIVEN WITH THE SEED: THE CARDS: each row of YthpgbmglgmjjhaaDoorRows.lean that lists a variable, with what it lists TIED to the program's text (the seventh form; the later family's looks); each row that meets fmt, with fmt's text TOLD by the authors' own Lean function (tested against real Go, not proved from fmt's source: count such statements apart). THE CARD IS WHAT COUNTS. Prove the row's statement (the work); the ties are given (YthpgbmglgmjjhaaDoorTie.lean); close each card by the builder's one call (the guide's Derived/Test/ToyasCard.lean, 'card_holds'). Laid BY PROGRAM, IN A SANDBOX (cutbox-door.mjs). By AI agents, Wed Nov 11 2026. No macro, syntax, notation, axiom, sorry.
-/
import Derived.Test.YthpgbmglgmjjhaaDoorRows
import GoSem.ClaimSeven
namespace Go.Proofs.YthpgbmglgmjjhaaDoor
namespace Rows

/-- THE TIED CARD OF 'laws.FnLabels'. -/
def fnLabelsCard : Claim7 := { stood := { row := fnLabelsRow, standIns := [], harness := (true, "e08c5b5c36593ebf1e5c277fb2dfe7397445d994c2bdc632b75bbe2532840d52"), looks := false }, kinds := [], alts := [], laidByText := true, laidKinds := [.data, .pinned], laidTests := true, laidLooks := .later }
def FnLabelsCardSaid : Prop := Claim7.holds Tryd.pinned (.plain (OpenSpec.ofChange fnLabelsSpec)) fnLabelsCard

/-- THE TIED CARD OF 'laws.FnExactLabelsOk'. -/
def fnExactLabelsOkCard : Claim7 := { stood := { row := fnExactLabelsOkRow, standIns := [], harness := (true, "e08c5b5c36593ebf1e5c277fb2dfe7397445d994c2bdc632b75bbe2532840d52"), looks := false }, kinds := [], alts := [], laidByText := true, laidKinds := [.data, .pinned], laidTests := true, laidLooks := .later }
def FnExactLabelsOkCardSaid : Prop := Claim7.holds Tryd.pinned (.plain (OpenSpec.ofChange fnExactLabelsOkSpec)) fnExactLabelsOkCard

/-- THE TIED CARD OF 'laws.FnExactSortLabels'. -/
def fnExactSortLabelsCard : Claim7 := { stood := { row := fnExactSortLabelsRow, standIns := [], harness := (true, "e08c5b5c36593ebf1e5c277fb2dfe7397445d994c2bdc632b75bbe2532840d52"), looks := false }, kinds := [], alts := [], laidByText := true, laidKinds := [.data, .pinned], laidTests := true, laidLooks := .later }
def FnExactSortLabelsCardSaid : Prop := Claim7.holds Tryd.pinned (.plain (OpenSpec.ofChange fnExactSortLabelsSpec)) fnExactSortLabelsCard

/-- THE TIED CARD OF 'laws.FnExactLabelsLine'. -/
def fnExactLabelsLineCard : Claim7 := { stood := { row := fnExactLabelsLineRow, standIns := [], harness := (true, "e08c5b5c36593ebf1e5c277fb2dfe7397445d994c2bdc632b75bbe2532840d52"), looks := false }, kinds := [], alts := [], laidByText := true, laidKinds := [.data, .pinned], laidTests := true, laidLooks := .later }
def FnExactLabelsLineCardSaid : Prop := Claim7.holds Tryd.pinned (.plain (OpenSpec.ofChange fnExactLabelsLineSpec)) fnExactLabelsLineCard

/-- THE TIED CARD OF 'laws.FnExactReadLabelsLine'. -/
def fnExactReadLabelsLineCard : Claim7 := { stood := { row := fnExactReadLabelsLineRow, standIns := [], harness := (true, "e08c5b5c36593ebf1e5c277fb2dfe7397445d994c2bdc632b75bbe2532840d52"), looks := false }, kinds := [], alts := [], laidByText := true, laidKinds := [.data, .pinned], laidTests := true, laidLooks := .later }
def FnExactReadLabelsLineCardSaid : Prop := Claim7.holds Tryd.pinned (.plain (OpenSpec.ofChange fnExactReadLabelsLineSpec)) fnExactReadLabelsLineCard

/-- THE SECOND FORM's CARD OF 'laws.FnLabels'. -/
def fnLabelsUptoCard : Claim7 := { stood := { row := fnLabelsUptoRow, standIns := [], harness := (true, "e08c5b5c36593ebf1e5c277fb2dfe7397445d994c2bdc632b75bbe2532840d52"), looks := false }, kinds := [], alts := [], laidByText := true, laidKinds := [.data, .pinned], laidTests := true, laidLooks := .later }
def FnLabelsUptoCardSaid : Prop := Claim7.holds Tryd.pinned (.plain (OpenSpec.upto fnLabelsSpec)) fnLabelsUptoCard

/-- THE SECOND FORM's CARD OF 'laws.FnExactLabelsOk'. -/
def fnExactLabelsOkUptoCard : Claim7 := { stood := { row := fnExactLabelsOkUptoRow, standIns := [], harness := (true, "e08c5b5c36593ebf1e5c277fb2dfe7397445d994c2bdc632b75bbe2532840d52"), looks := false }, kinds := [], alts := [], laidByText := true, laidKinds := [.data, .pinned], laidTests := true, laidLooks := .later }
def FnExactLabelsOkUptoCardSaid : Prop := Claim7.holds Tryd.pinned (.plain (OpenSpec.upto fnExactLabelsOkSpec)) fnExactLabelsOkUptoCard

/-- THE SECOND FORM's CARD OF 'laws.FnExactSortLabels'. -/
def fnExactSortLabelsUptoCard : Claim7 := { stood := { row := fnExactSortLabelsUptoRow, standIns := [], harness := (true, "e08c5b5c36593ebf1e5c277fb2dfe7397445d994c2bdc632b75bbe2532840d52"), looks := false }, kinds := [], alts := [], laidByText := true, laidKinds := [.data, .pinned], laidTests := true, laidLooks := .later }
def FnExactSortLabelsUptoCardSaid : Prop := Claim7.holds Tryd.pinned (.plain (OpenSpec.upto fnExactSortLabelsSpec)) fnExactSortLabelsUptoCard

/-- THE SECOND FORM's CARD OF 'laws.FnExactLabelsLine'. -/
def fnExactLabelsLineUptoCard : Claim7 := { stood := { row := fnExactLabelsLineUptoRow, standIns := [], harness := (true, "e08c5b5c36593ebf1e5c277fb2dfe7397445d994c2bdc632b75bbe2532840d52"), looks := false }, kinds := [], alts := [], laidByText := true, laidKinds := [.data, .pinned], laidTests := true, laidLooks := .later }
def FnExactLabelsLineUptoCardSaid : Prop := Claim7.holds Tryd.pinned (.plain (OpenSpec.upto fnExactLabelsLineSpec)) fnExactLabelsLineUptoCard

/-- THE SECOND FORM's CARD OF 'laws.FnExactReadLabelsLine'. -/
def fnExactReadLabelsLineUptoCard : Claim7 := { stood := { row := fnExactReadLabelsLineUptoRow, standIns := [], harness := (true, "e08c5b5c36593ebf1e5c277fb2dfe7397445d994c2bdc632b75bbe2532840d52"), looks := false }, kinds := [], alts := [], laidByText := true, laidKinds := [.data, .pinned], laidTests := true, laidLooks := .later }
def FnExactReadLabelsLineUptoCardSaid : Prop := Claim7.holds Tryd.pinned (.plain (OpenSpec.upto fnExactReadLabelsLineSpec)) fnExactReadLabelsLineUptoCard
end Rows
end Go.Proofs.YthpgbmglgmjjhaaDoor
