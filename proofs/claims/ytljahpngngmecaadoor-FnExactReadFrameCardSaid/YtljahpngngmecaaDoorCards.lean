/-
  DERIVED. GIVEN WITH THE SEED: THE CARDS: each row of YtljahpngngmecaaDoorRows.lean that lists a variable, with what it lists TIED to the program's text (the seventh form; the later family's looks); each row that meets fmt, with fmt's text TOLD by the authors' own Lean function (tested against real Go, not proved from fmt's source: count such statements apart). THE CARD IS WHAT COUNTS. Prove the row's statement (the work); the ties are given (YtljahpngngmecaaDoorTie.lean); close each card by the builder's one call (the guide's Derived/Test/ToyasCard.lean, 'card_holds'). Laid BY PROGRAM, IN A SANDBOX (cutbox-door.mjs). By AI agents, Wed Nov 11 2026. No macro, syntax, notation, axiom, sorry.
-/
import Derived.Test.YtljahpngngmecaaDoorRows
import GoSem.ClaimSeven
namespace Go.Proofs.YtljahpngngmecaaDoor
namespace Rows

/-- THE TIED CARD OF 'laws.FnFrames'. -/
def fnFramesCard : Claim7 := { stood := { row := fnFramesRow, standIns := [], harness := (true, "b150ae0ab5bc385b3cd277164e9f36ab8b5138b5ad7f2d871f3278bd2e8c668f"), looks := true }, kinds := [], alts := [], laidByText := true, laidKinds := [.sentinel, .sentinel, .sentinel, .sentinel, .sentinel], laidTests := true, laidLooks := .later }
def FnFramesCardSaid : Prop := Claim7.holds Tryd.pinned (.plain (OpenSpec.ofChange fnFramesSpec)) fnFramesCard

/-- THE TIED CARD OF 'laws.FnFrameBursts'. -/
def fnFrameBurstsCard : Claim7 := { stood := { row := fnFrameBurstsRow, standIns := [], harness := (true, "b150ae0ab5bc385b3cd277164e9f36ab8b5138b5ad7f2d871f3278bd2e8c668f"), looks := true }, kinds := [], alts := [], laidByText := true, laidKinds := [.sentinel, .sentinel, .sentinel, .sentinel, .sentinel], laidTests := true, laidLooks := .later }
def FnFrameBurstsCardSaid : Prop := Claim7.holds Tryd.pinned (.plain (OpenSpec.ofChange fnFrameBurstsSpec)) fnFrameBurstsCard

/-- THE TIED CARD OF 'laws.FnExactReadFrame'. -/
def fnExactReadFrameCard : Claim7 := { stood := { row := fnExactReadFrameRow, standIns := [], harness := (true, "b150ae0ab5bc385b3cd277164e9f36ab8b5138b5ad7f2d871f3278bd2e8c668f"), looks := true }, kinds := [], alts := [], laidByText := true, laidKinds := [.sentinel, .sentinel, .sentinel, .sentinel, .sentinel], laidTests := true, laidLooks := .later }
def FnExactReadFrameCardSaid : Prop := Claim7.holds Tryd.pinned (.plain (OpenSpec.ofChange fnExactReadFrameSpec)) fnExactReadFrameCard

/-- THE TIED CARD OF 'laws.FnExactVersionIn'. -/
def fnExactVersionInCard : Claim7 := { stood := { row := fnExactVersionInRow, standIns := [], harness := (true, "b150ae0ab5bc385b3cd277164e9f36ab8b5138b5ad7f2d871f3278bd2e8c668f"), looks := true }, kinds := [], alts := [], laidByText := true, laidKinds := [.sentinel, .sentinel, .sentinel, .sentinel, .sentinel], laidTests := true, laidLooks := .later }
def FnExactVersionInCardSaid : Prop := Claim7.holds Tryd.pinned (.plain (OpenSpec.ofChange fnExactVersionInSpec)) fnExactVersionInCard

/-- THE TIED CARD OF 'laws.FnExactReframed'. -/
def fnExactReframedCard : Claim7 := { stood := { row := fnExactReframedRow, standIns := [], harness := (true, "b150ae0ab5bc385b3cd277164e9f36ab8b5138b5ad7f2d871f3278bd2e8c668f"), looks := true }, kinds := [], alts := [], laidByText := true, laidKinds := [.sentinel, .sentinel, .sentinel, .sentinel, .sentinel], laidTests := true, laidLooks := .later }
def FnExactReframedCardSaid : Prop := Claim7.holds Tryd.pinned (.plain (OpenSpec.ofChange fnExactReframedSpec)) fnExactReframedCard

/-- THE SECOND FORM's CARD OF 'laws.FnFrames'. -/
def fnFramesUptoCard : Claim7 := { stood := { row := fnFramesUptoRow, standIns := [], harness := (true, "b150ae0ab5bc385b3cd277164e9f36ab8b5138b5ad7f2d871f3278bd2e8c668f"), looks := true }, kinds := [], alts := [], laidByText := true, laidKinds := [.sentinel, .sentinel, .sentinel, .sentinel, .sentinel], laidTests := true, laidLooks := .later }
def FnFramesUptoCardSaid : Prop := Claim7.holds Tryd.pinned (.plain (OpenSpec.upto fnFramesSpec)) fnFramesUptoCard

/-- THE SECOND FORM's CARD OF 'laws.FnFrameBursts'. -/
def fnFrameBurstsUptoCard : Claim7 := { stood := { row := fnFrameBurstsUptoRow, standIns := [], harness := (true, "b150ae0ab5bc385b3cd277164e9f36ab8b5138b5ad7f2d871f3278bd2e8c668f"), looks := true }, kinds := [], alts := [], laidByText := true, laidKinds := [.sentinel, .sentinel, .sentinel, .sentinel, .sentinel], laidTests := true, laidLooks := .later }
def FnFrameBurstsUptoCardSaid : Prop := Claim7.holds Tryd.pinned (.plain (OpenSpec.upto fnFrameBurstsSpec)) fnFrameBurstsUptoCard

/-- THE SECOND FORM's CARD OF 'laws.FnExactReadFrame'. -/
def fnExactReadFrameUptoCard : Claim7 := { stood := { row := fnExactReadFrameUptoRow, standIns := [], harness := (true, "b150ae0ab5bc385b3cd277164e9f36ab8b5138b5ad7f2d871f3278bd2e8c668f"), looks := true }, kinds := [], alts := [], laidByText := true, laidKinds := [.sentinel, .sentinel, .sentinel, .sentinel, .sentinel], laidTests := true, laidLooks := .later }
def FnExactReadFrameUptoCardSaid : Prop := Claim7.holds Tryd.pinned (.plain (OpenSpec.upto fnExactReadFrameSpec)) fnExactReadFrameUptoCard

/-- THE SECOND FORM's CARD OF 'laws.FnExactVersionIn'. -/
def fnExactVersionInUptoCard : Claim7 := { stood := { row := fnExactVersionInUptoRow, standIns := [], harness := (true, "b150ae0ab5bc385b3cd277164e9f36ab8b5138b5ad7f2d871f3278bd2e8c668f"), looks := true }, kinds := [], alts := [], laidByText := true, laidKinds := [.sentinel, .sentinel, .sentinel, .sentinel, .sentinel], laidTests := true, laidLooks := .later }
def FnExactVersionInUptoCardSaid : Prop := Claim7.holds Tryd.pinned (.plain (OpenSpec.upto fnExactVersionInSpec)) fnExactVersionInUptoCard

/-- THE SECOND FORM's CARD OF 'laws.FnExactReframed'. -/
def fnExactReframedUptoCard : Claim7 := { stood := { row := fnExactReframedUptoRow, standIns := [], harness := (true, "b150ae0ab5bc385b3cd277164e9f36ab8b5138b5ad7f2d871f3278bd2e8c668f"), looks := true }, kinds := [], alts := [], laidByText := true, laidKinds := [.sentinel, .sentinel, .sentinel, .sentinel, .sentinel], laidTests := true, laidLooks := .later }
def FnExactReframedUptoCardSaid : Prop := Claim7.holds Tryd.pinned (.plain (OpenSpec.upto fnExactReframedSpec)) fnExactReframedUptoCard
end Rows
end Go.Proofs.YtljahpngngmecaaDoor
