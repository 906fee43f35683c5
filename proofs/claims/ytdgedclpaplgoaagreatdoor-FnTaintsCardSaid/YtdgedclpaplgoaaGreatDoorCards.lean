/-
  DERIVED. GIVEN WITH THE SEED: THE CARDS: each row of YtdgedclpaplgoaaGreatDoorRows.lean that lists a variable, with what it lists TIED to the program's text (the seventh form; the later family's looks); each row that meets fmt, with fmt's text TOLD by the authors' own Lean function (tested against real Go, not proved from fmt's source: count such statements apart). THE CARD IS WHAT COUNTS. Prove the row's statement (the work); the ties are given (YtdgedclpaplgoaaGreatDoorTie.lean); close each card by the builder's one call (the guide's Derived/Test/ToyasCard.lean, 'card_holds'). Laid BY PROGRAM, IN A SANDBOX (cutbox-door.mjs). By AI agents, Wed Nov 11 2026. No macro, syntax, notation, axiom, sorry.
-/
import Derived.Test.YtdgedclpaplgoaaGreatDoorRows
import GoSem.ClaimSeven
namespace Go.Proofs.YtdgedclpaplgoaaGreatDoor
namespace Rows

/-- THE TIED CARD OF 'laws.FnNeeds'. -/
def fnNeedsCard : Claim7 := { stood := { row := fnNeedsRow, standIns := [], harness := (true, "a416207d15acf6af8be03d02965f0bc9badc5fa1e94d4eb75f463e7a7996c09d"), looks := false }, kinds := [], alts := [], laidByText := true, laidKinds := [.data, .pinned], laidTests := true, laidLooks := .later }
def FnNeedsCardSaid : Prop := Claim7.holds Tryz.pinned (.plain (OpenSpec.ofChange fnNeedsSpec)) fnNeedsCard

/-- THE TIED CARD OF 'laws.FnTaints'. -/
def fnTaintsCard : Claim7 := { stood := { row := fnTaintsRow, standIns := [], harness := (true, "a416207d15acf6af8be03d02965f0bc9badc5fa1e94d4eb75f463e7a7996c09d"), looks := false }, kinds := [], alts := [], laidByText := true, laidKinds := [.data, .pinned], laidTests := true, laidLooks := .later }
def FnTaintsCardSaid : Prop := Claim7.holds Tryz.pinned (.plain (OpenSpec.ofChange fnTaintsSpec)) fnTaintsCard

/-- THE TIED CARD OF 'laws.FnExactSortNeeds'. -/
def fnExactSortNeedsCard : Claim7 := { stood := { row := fnExactSortNeedsRow, standIns := [], harness := (true, "a416207d15acf6af8be03d02965f0bc9badc5fa1e94d4eb75f463e7a7996c09d"), looks := false }, kinds := [], alts := [], laidByText := true, laidKinds := [.data, .pinned], laidTests := true, laidLooks := .later }
def FnExactSortNeedsCardSaid : Prop := Claim7.holds Tryz.pinned (.plain (OpenSpec.ofChange fnExactSortNeedsSpec)) fnExactSortNeedsCard

/-- THE SECOND FORM's CARD OF 'laws.FnNeeds'. -/
def fnNeedsUptoCard : Claim7 := { stood := { row := fnNeedsUptoRow, standIns := [], harness := (true, "a416207d15acf6af8be03d02965f0bc9badc5fa1e94d4eb75f463e7a7996c09d"), looks := false }, kinds := [], alts := [], laidByText := true, laidKinds := [.data, .pinned], laidTests := true, laidLooks := .later }
def FnNeedsUptoCardSaid : Prop := Claim7.holds Tryz.pinned (.plain (OpenSpec.upto fnNeedsSpec)) fnNeedsUptoCard

/-- THE SECOND FORM's CARD OF 'laws.FnTaints'. -/
def fnTaintsUptoCard : Claim7 := { stood := { row := fnTaintsUptoRow, standIns := [], harness := (true, "a416207d15acf6af8be03d02965f0bc9badc5fa1e94d4eb75f463e7a7996c09d"), looks := false }, kinds := [], alts := [], laidByText := true, laidKinds := [.data, .pinned], laidTests := true, laidLooks := .later }
def FnTaintsUptoCardSaid : Prop := Claim7.holds Tryz.pinned (.plain (OpenSpec.upto fnTaintsSpec)) fnTaintsUptoCard

/-- THE SECOND FORM's CARD OF 'laws.FnExactSortNeeds'. -/
def fnExactSortNeedsUptoCard : Claim7 := { stood := { row := fnExactSortNeedsUptoRow, standIns := [], harness := (true, "a416207d15acf6af8be03d02965f0bc9badc5fa1e94d4eb75f463e7a7996c09d"), looks := false }, kinds := [], alts := [], laidByText := true, laidKinds := [.data, .pinned], laidTests := true, laidLooks := .later }
def FnExactSortNeedsUptoCardSaid : Prop := Claim7.holds Tryz.pinned (.plain (OpenSpec.upto fnExactSortNeedsSpec)) fnExactSortNeedsUptoCard
end Rows
end Go.Proofs.YtdgedclpaplgoaaGreatDoor
