/-
  DERIVED. GIVEN WITH THE SEED: THE CARDS: each row of YtdgedclpaplgoaaDoorRows.lean that lists a variable, with what it lists TIED to the program's text (the seventh form; the later family's looks); each row that meets fmt, with fmt's text TOLD by the authors' own Lean function (tested against real Go, not proved from fmt's source: count such statements apart). THE CARD IS WHAT COUNTS. Prove the row's statement (the work); the ties are given (YtdgedclpaplgoaaDoorTie.lean); close each card by the builder's one call (the guide's Derived/Test/ToyasCard.lean, 'card_holds'). Laid BY PROGRAM, IN A SANDBOX (cutbox-door.mjs). By AI agents, Wed Nov 11 2026. No macro, syntax, notation, axiom, sorry.
-/
import Derived.Test.YtdgedclpaplgoaaDoorRows
import GoSem.ClaimSeven
namespace Go.Proofs.YtdgedclpaplgoaaDoor
namespace Rows

/-- THE TIED CARD OF 'laws.FnLabels'. -/
def fnLabelsCard : Claim7 := { stood := { row := fnLabelsRow, standIns := [], harness := (true, "8b7d4369d7290f5260cc0c7667384dea4ed9f987ba1cea809fbe6e319be9b637"), looks := false }, kinds := [], alts := [], laidByText := true, laidKinds := [.data, .pinned], laidTests := true, laidLooks := .later }
def FnLabelsCardSaid : Prop := Claim7.holds Tryd.pinned (.plain (OpenSpec.ofChange fnLabelsSpec)) fnLabelsCard

/-- THE TIED CARD OF 'laws.FnExactSortLabels'. -/
def fnExactSortLabelsCard : Claim7 := { stood := { row := fnExactSortLabelsRow, standIns := [], harness := (true, "8b7d4369d7290f5260cc0c7667384dea4ed9f987ba1cea809fbe6e319be9b637"), looks := false }, kinds := [], alts := [], laidByText := true, laidKinds := [.data, .pinned], laidTests := true, laidLooks := .later }
def FnExactSortLabelsCardSaid : Prop := Claim7.holds Tryd.pinned (.plain (OpenSpec.ofChange fnExactSortLabelsSpec)) fnExactSortLabelsCard

/-- THE TIED CARD OF 'laws.FnExactSortTaints'. -/
def fnExactSortTaintsCard : Claim7 := { stood := { row := fnExactSortTaintsRow, standIns := [], harness := (true, "8b7d4369d7290f5260cc0c7667384dea4ed9f987ba1cea809fbe6e319be9b637"), looks := false }, kinds := [], alts := [], laidByText := true, laidKinds := [.data, .pinned], laidTests := true, laidLooks := .later }
def FnExactSortTaintsCardSaid : Prop := Claim7.holds Tryd.pinned (.plain (OpenSpec.ofChange fnExactSortTaintsSpec)) fnExactSortTaintsCard

/-- THE TIED CARD OF 'laws.FnExactSortTolerances'. -/
def fnExactSortTolerancesCard : Claim7 := { stood := { row := fnExactSortTolerancesRow, standIns := [], harness := (true, "8b7d4369d7290f5260cc0c7667384dea4ed9f987ba1cea809fbe6e319be9b637"), looks := false }, kinds := [], alts := [], laidByText := true, laidKinds := [.data, .pinned], laidTests := true, laidLooks := .later }
def FnExactSortTolerancesCardSaid : Prop := Claim7.holds Tryd.pinned (.plain (OpenSpec.ofChange fnExactSortTolerancesSpec)) fnExactSortTolerancesCard

/-- THE SECOND FORM's CARD OF 'laws.FnLabels'. -/
def fnLabelsUptoCard : Claim7 := { stood := { row := fnLabelsUptoRow, standIns := [], harness := (true, "8b7d4369d7290f5260cc0c7667384dea4ed9f987ba1cea809fbe6e319be9b637"), looks := false }, kinds := [], alts := [], laidByText := true, laidKinds := [.data, .pinned], laidTests := true, laidLooks := .later }
def FnLabelsUptoCardSaid : Prop := Claim7.holds Tryd.pinned (.plain (OpenSpec.upto fnLabelsSpec)) fnLabelsUptoCard

/-- THE SECOND FORM's CARD OF 'laws.FnExactSortLabels'. -/
def fnExactSortLabelsUptoCard : Claim7 := { stood := { row := fnExactSortLabelsUptoRow, standIns := [], harness := (true, "8b7d4369d7290f5260cc0c7667384dea4ed9f987ba1cea809fbe6e319be9b637"), looks := false }, kinds := [], alts := [], laidByText := true, laidKinds := [.data, .pinned], laidTests := true, laidLooks := .later }
def FnExactSortLabelsUptoCardSaid : Prop := Claim7.holds Tryd.pinned (.plain (OpenSpec.upto fnExactSortLabelsSpec)) fnExactSortLabelsUptoCard

/-- THE SECOND FORM's CARD OF 'laws.FnExactSortTaints'. -/
def fnExactSortTaintsUptoCard : Claim7 := { stood := { row := fnExactSortTaintsUptoRow, standIns := [], harness := (true, "8b7d4369d7290f5260cc0c7667384dea4ed9f987ba1cea809fbe6e319be9b637"), looks := false }, kinds := [], alts := [], laidByText := true, laidKinds := [.data, .pinned], laidTests := true, laidLooks := .later }
def FnExactSortTaintsUptoCardSaid : Prop := Claim7.holds Tryd.pinned (.plain (OpenSpec.upto fnExactSortTaintsSpec)) fnExactSortTaintsUptoCard

/-- THE SECOND FORM's CARD OF 'laws.FnExactSortTolerances'. -/
def fnExactSortTolerancesUptoCard : Claim7 := { stood := { row := fnExactSortTolerancesUptoRow, standIns := [], harness := (true, "8b7d4369d7290f5260cc0c7667384dea4ed9f987ba1cea809fbe6e319be9b637"), looks := false }, kinds := [], alts := [], laidByText := true, laidKinds := [.data, .pinned], laidTests := true, laidLooks := .later }
def FnExactSortTolerancesUptoCardSaid : Prop := Claim7.holds Tryd.pinned (.plain (OpenSpec.upto fnExactSortTolerancesSpec)) fnExactSortTolerancesUptoCard
end Rows
end Go.Proofs.YtdgedclpaplgoaaDoor
