/-
  DERIVED. GIVEN WITH THE SEED: THE CARDS: each row of YtlnfbpdicjcpgaaDoorRows.lean that lists a variable, with what it lists TIED to the program's text (the seventh form; the later family's looks); each row that meets fmt, with fmt's text TOLD by the authors' own Lean function (tested against real Go, not proved from fmt's source: count such statements apart). THE CARD IS WHAT COUNTS. Prove the row's statement (the work); the ties are given (YtlnfbpdicjcpgaaDoorTie.lean); close each card by the builder's one call (the guide's Derived/Test/ToyasCard.lean, 'card_holds'). Laid BY PROGRAM, IN A SANDBOX (cutbox-door.mjs). By AI agents, Wed Nov 11 2026. No macro, syntax, notation, axiom, sorry.
-/
import Derived.Test.YtlnfbpdicjcpgaaDoorRows
import GoSem.ClaimSeven
namespace Go.Proofs.YtlnfbpdicjcpgaaDoor
namespace Rows

/-- THE TIED CARD OF 'laws.FnExactPutKid'. -/
def fnExactPutKidCard : Claim7 := { stood := { row := fnExactPutKidRow, standIns := [], harness := (true, "8860e874a1f32036ac19538d67651600eda676577a474b67a9760b97aab59bd5"), looks := true }, kinds := [], alts := [], laidByText := true, laidKinds := [.data, .pinned], laidTests := true, laidLooks := .later }
def FnExactPutKidCardSaid : Prop := Claim7.holds Tryd.pinned (.plain (OpenSpec.ofChange fnExactPutKidSpec)) fnExactPutKidCard

/-- THE TIED CARD OF 'laws.FnTrees'. -/
def fnTreesCard : Claim7 := { stood := { row := fnTreesRow, standIns := [], harness := (true, "8860e874a1f32036ac19538d67651600eda676577a474b67a9760b97aab59bd5"), looks := true }, kinds := [], alts := [], laidByText := true, laidKinds := [.data, .pinned], laidTests := true, laidLooks := .later }
def FnTreesCardSaid : Prop := Claim7.holds Tryd.pinned (.plain (OpenSpec.ofChange fnTreesSpec)) fnTreesCard

/-- THE TIED CARD OF 'laws.FnTreeSizes'. -/
def fnTreeSizesCard : Claim7 := { stood := { row := fnTreeSizesRow, standIns := [], harness := (true, "8860e874a1f32036ac19538d67651600eda676577a474b67a9760b97aab59bd5"), looks := true }, kinds := [], alts := [], laidByText := true, laidKinds := [.data, .pinned], laidTests := true, laidLooks := .later }
def FnTreeSizesCardSaid : Prop := Claim7.holds Tryd.pinned (.plain (OpenSpec.ofChange fnTreeSizesSpec)) fnTreeSizesCard

/-- THE SECOND FORM's CARD OF 'laws.FnExactPutKid'. -/
def fnExactPutKidUptoCard : Claim7 := { stood := { row := fnExactPutKidUptoRow, standIns := [], harness := (true, "8860e874a1f32036ac19538d67651600eda676577a474b67a9760b97aab59bd5"), looks := true }, kinds := [], alts := [], laidByText := true, laidKinds := [.data, .pinned], laidTests := true, laidLooks := .later }
def FnExactPutKidUptoCardSaid : Prop := Claim7.holds Tryd.pinned (.plain (OpenSpec.upto fnExactPutKidSpec)) fnExactPutKidUptoCard

/-- THE SECOND FORM's CARD OF 'laws.FnTrees'. -/
def fnTreesUptoCard : Claim7 := { stood := { row := fnTreesUptoRow, standIns := [], harness := (true, "8860e874a1f32036ac19538d67651600eda676577a474b67a9760b97aab59bd5"), looks := true }, kinds := [], alts := [], laidByText := true, laidKinds := [.data, .pinned], laidTests := true, laidLooks := .later }
def FnTreesUptoCardSaid : Prop := Claim7.holds Tryd.pinned (.plain (OpenSpec.upto fnTreesSpec)) fnTreesUptoCard

/-- THE SECOND FORM's CARD OF 'laws.FnTreeSizes'. -/
def fnTreeSizesUptoCard : Claim7 := { stood := { row := fnTreeSizesUptoRow, standIns := [], harness := (true, "8860e874a1f32036ac19538d67651600eda676577a474b67a9760b97aab59bd5"), looks := true }, kinds := [], alts := [], laidByText := true, laidKinds := [.data, .pinned], laidTests := true, laidLooks := .later }
def FnTreeSizesUptoCardSaid : Prop := Claim7.holds Tryd.pinned (.plain (OpenSpec.upto fnTreeSizesSpec)) fnTreeSizesUptoCard
end Rows
end Go.Proofs.YtlnfbpdicjcpgaaDoor
