/-
  DERIVED. GIVEN WITH THE SEED: THE CARDS: each row of YtcfbkfmkjggcdaaGreatDoorRows.lean that lists a variable, with what it lists TIED to the program's text (the seventh form; the later family's looks); each row that meets fmt, with fmt's text TOLD by the authors' own Lean function (tested against real Go, not proved from fmt's source: count such statements apart). THE CARD IS WHAT COUNTS. Prove the row's statement (the work); the ties are given (YtcfbkfmkjggcdaaGreatDoorTie.lean); close each card by the builder's one call (the guide's Derived/Test/ToyasCard.lean, 'card_holds'). Laid BY PROGRAM, IN A SANDBOX (cutbox-door.mjs). By AI agents, Wed Nov 11 2026. No macro, syntax, notation, axiom, sorry.
-/
import Derived.Test.YtcfbkfmkjggcdaaGreatDoorRows
import GoSem.ClaimSeven
namespace Go.Proofs.YtcfbkfmkjggcdaaGreatDoor
namespace Rows

/-- THE TIED CARD OF 'laws.FnPods'. -/
def fnPodsCard : Claim7 := { stood := { row := fnPodsRow, standIns := [], harness := (true, "d7335560f94d057078629692523535c25d9ba53efcf32b00470214bd4b03c1d5"), looks := false }, kinds := [], alts := [], laidByText := true, laidKinds := [.data, .pinned], laidTests := true, laidLooks := .later }
def FnPodsCardSaid : Prop := Claim7.holds Tryz.pinned (.plain (OpenSpec.ofChange fnPodsSpec)) fnPodsCard

/-- THE TIED CARD OF 'laws.FnExactPodNormal'. -/
def fnExactPodNormalCard : Claim7 := { stood := { row := fnExactPodNormalRow, standIns := [], harness := (true, "d7335560f94d057078629692523535c25d9ba53efcf32b00470214bd4b03c1d5"), looks := false }, kinds := [], alts := [], laidByText := true, laidKinds := [.data, .pinned], laidTests := true, laidLooks := .later }
def FnExactPodNormalCardSaid : Prop := Claim7.holds Tryz.pinned (.plain (OpenSpec.ofChange fnExactPodNormalSpec)) fnExactPodNormalCard

/-- THE TIED CARD OF 'laws.FnExactHostNormal'. -/
def fnExactHostNormalCard : Claim7 := { stood := { row := fnExactHostNormalRow, standIns := [], harness := (true, "d7335560f94d057078629692523535c25d9ba53efcf32b00470214bd4b03c1d5"), looks := false }, kinds := [], alts := [], laidByText := true, laidKinds := [.data, .pinned], laidTests := true, laidLooks := .later }
def FnExactHostNormalCardSaid : Prop := Claim7.holds Tryz.pinned (.plain (OpenSpec.ofChange fnExactHostNormalSpec)) fnExactHostNormalCard

/-- THE SECOND FORM's CARD OF 'laws.FnPods'. -/
def fnPodsUptoCard : Claim7 := { stood := { row := fnPodsUptoRow, standIns := [], harness := (true, "d7335560f94d057078629692523535c25d9ba53efcf32b00470214bd4b03c1d5"), looks := false }, kinds := [], alts := [], laidByText := true, laidKinds := [.data, .pinned], laidTests := true, laidLooks := .later }
def FnPodsUptoCardSaid : Prop := Claim7.holds Tryz.pinned (.plain (OpenSpec.upto fnPodsSpec)) fnPodsUptoCard

/-- THE SECOND FORM's CARD OF 'laws.FnExactPodNormal'. -/
def fnExactPodNormalUptoCard : Claim7 := { stood := { row := fnExactPodNormalUptoRow, standIns := [], harness := (true, "d7335560f94d057078629692523535c25d9ba53efcf32b00470214bd4b03c1d5"), looks := false }, kinds := [], alts := [], laidByText := true, laidKinds := [.data, .pinned], laidTests := true, laidLooks := .later }
def FnExactPodNormalUptoCardSaid : Prop := Claim7.holds Tryz.pinned (.plain (OpenSpec.upto fnExactPodNormalSpec)) fnExactPodNormalUptoCard

/-- THE SECOND FORM's CARD OF 'laws.FnExactHostNormal'. -/
def fnExactHostNormalUptoCard : Claim7 := { stood := { row := fnExactHostNormalUptoRow, standIns := [], harness := (true, "d7335560f94d057078629692523535c25d9ba53efcf32b00470214bd4b03c1d5"), looks := false }, kinds := [], alts := [], laidByText := true, laidKinds := [.data, .pinned], laidTests := true, laidLooks := .later }
def FnExactHostNormalUptoCardSaid : Prop := Claim7.holds Tryz.pinned (.plain (OpenSpec.upto fnExactHostNormalSpec)) fnExactHostNormalUptoCard
end Rows
end Go.Proofs.YtcfbkfmkjggcdaaGreatDoor
