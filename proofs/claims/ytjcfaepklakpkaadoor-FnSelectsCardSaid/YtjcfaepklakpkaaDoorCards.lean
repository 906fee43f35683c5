/-
  DERIVED. GIVEN WITH THE SEED: THE CARDS: each row of YtjcfaepklakpkaaDoorRows.lean that lists a variable, with what it lists TIED to the program's text (the seventh form; the later family's looks); each row that meets fmt, with fmt's text TOLD by the authors' own Lean function (tested against real Go, not proved from fmt's source: count such statements apart). THE CARD IS WHAT COUNTS. Prove the row's statement (the work); the ties are given (YtjcfaepklakpkaaDoorTie.lean); close each card by the builder's one call (the guide's Derived/Test/ToyasCard.lean, 'card_holds'). Laid BY PROGRAM, IN A SANDBOX (cutbox-door.mjs). By AI agents, Wed Nov 11 2026. No macro, syntax, notation, axiom, sorry.
-/
import Derived.Test.YtjcfaepklakpkaaDoorRows
import GoSem.ClaimSeven
namespace Go.Proofs.YtjcfaepklakpkaaDoor
namespace Rows

/-- THE TIED CARD OF 'laws.FnSelects'. -/
def fnSelectsCard : Claim7 := { stood := { row := fnSelectsRow, standIns := [], harness := (true, "0306260199094dc8065c9db92070618743a23b6444796ea28ad41bb85a766d60"), looks := false }, kinds := [], alts := [], laidByText := true, laidKinds := [.data, .pinned], laidTests := true, laidLooks := .later }
def FnSelectsCardSaid : Prop := Claim7.holds Tryd.pinned (.plain (OpenSpec.ofChange fnSelectsSpec)) fnSelectsCard

/-- THE TIED CARD OF 'laws.FnExactNeedOk'. -/
def fnExactNeedOkCard : Claim7 := { stood := { row := fnExactNeedOkRow, standIns := [], harness := (true, "0306260199094dc8065c9db92070618743a23b6444796ea28ad41bb85a766d60"), looks := false }, kinds := [], alts := [], laidByText := true, laidKinds := [.data, .pinned], laidTests := true, laidLooks := .later }
def FnExactNeedOkCardSaid : Prop := Claim7.holds Tryd.pinned (.plain (OpenSpec.ofChange fnExactNeedOkSpec)) fnExactNeedOkCard

/-- THE TIED CARD OF 'laws.FnExactNeedMet'. -/
def fnExactNeedMetCard : Claim7 := { stood := { row := fnExactNeedMetRow, standIns := [], harness := (true, "0306260199094dc8065c9db92070618743a23b6444796ea28ad41bb85a766d60"), looks := false }, kinds := [], alts := [], laidByText := true, laidKinds := [.data, .pinned], laidTests := true, laidLooks := .later }
def FnExactNeedMetCardSaid : Prop := Claim7.holds Tryd.pinned (.plain (OpenSpec.ofChange fnExactNeedMetSpec)) fnExactNeedMetCard

/-- THE TIED CARD OF 'laws.FnExactSelectorOk'. -/
def fnExactSelectorOkCard : Claim7 := { stood := { row := fnExactSelectorOkRow, standIns := [], harness := (true, "0306260199094dc8065c9db92070618743a23b6444796ea28ad41bb85a766d60"), looks := false }, kinds := [], alts := [], laidByText := true, laidKinds := [.data, .pinned], laidTests := true, laidLooks := .later }
def FnExactSelectorOkCardSaid : Prop := Claim7.holds Tryd.pinned (.plain (OpenSpec.ofChange fnExactSelectorOkSpec)) fnExactSelectorOkCard

/-- THE TIED CARD OF 'laws.FnExactSelects'. -/
def fnExactSelectsCard : Claim7 := { stood := { row := fnExactSelectsRow, standIns := [], harness := (true, "0306260199094dc8065c9db92070618743a23b6444796ea28ad41bb85a766d60"), looks := false }, kinds := [], alts := [], laidByText := true, laidKinds := [.data, .pinned], laidTests := true, laidLooks := .later }
def FnExactSelectsCardSaid : Prop := Claim7.holds Tryd.pinned (.plain (OpenSpec.ofChange fnExactSelectsSpec)) fnExactSelectsCard

/-- THE TIED CARD OF 'laws.FnExactNeedLine'. -/
def fnExactNeedLineCard : Claim7 := { stood := { row := fnExactNeedLineRow, standIns := [], harness := (true, "0306260199094dc8065c9db92070618743a23b6444796ea28ad41bb85a766d60"), looks := false }, kinds := [], alts := [], laidByText := true, laidKinds := [.data, .pinned], laidTests := true, laidLooks := .later }
def FnExactNeedLineCardSaid : Prop := Claim7.holds Tryd.pinned (.plain (OpenSpec.ofChange fnExactNeedLineSpec)) fnExactNeedLineCard

/-- THE SECOND FORM's CARD OF 'laws.FnSelects'. -/
def fnSelectsUptoCard : Claim7 := { stood := { row := fnSelectsUptoRow, standIns := [], harness := (true, "0306260199094dc8065c9db92070618743a23b6444796ea28ad41bb85a766d60"), looks := false }, kinds := [], alts := [], laidByText := true, laidKinds := [.data, .pinned], laidTests := true, laidLooks := .later }
def FnSelectsUptoCardSaid : Prop := Claim7.holds Tryd.pinned (.plain (OpenSpec.upto fnSelectsSpec)) fnSelectsUptoCard

/-- THE SECOND FORM's CARD OF 'laws.FnExactNeedOk'. -/
def fnExactNeedOkUptoCard : Claim7 := { stood := { row := fnExactNeedOkUptoRow, standIns := [], harness := (true, "0306260199094dc8065c9db92070618743a23b6444796ea28ad41bb85a766d60"), looks := false }, kinds := [], alts := [], laidByText := true, laidKinds := [.data, .pinned], laidTests := true, laidLooks := .later }
def FnExactNeedOkUptoCardSaid : Prop := Claim7.holds Tryd.pinned (.plain (OpenSpec.upto fnExactNeedOkSpec)) fnExactNeedOkUptoCard

/-- THE SECOND FORM's CARD OF 'laws.FnExactNeedMet'. -/
def fnExactNeedMetUptoCard : Claim7 := { stood := { row := fnExactNeedMetUptoRow, standIns := [], harness := (true, "0306260199094dc8065c9db92070618743a23b6444796ea28ad41bb85a766d60"), looks := false }, kinds := [], alts := [], laidByText := true, laidKinds := [.data, .pinned], laidTests := true, laidLooks := .later }
def FnExactNeedMetUptoCardSaid : Prop := Claim7.holds Tryd.pinned (.plain (OpenSpec.upto fnExactNeedMetSpec)) fnExactNeedMetUptoCard

/-- THE SECOND FORM's CARD OF 'laws.FnExactSelectorOk'. -/
def fnExactSelectorOkUptoCard : Claim7 := { stood := { row := fnExactSelectorOkUptoRow, standIns := [], harness := (true, "0306260199094dc8065c9db92070618743a23b6444796ea28ad41bb85a766d60"), looks := false }, kinds := [], alts := [], laidByText := true, laidKinds := [.data, .pinned], laidTests := true, laidLooks := .later }
def FnExactSelectorOkUptoCardSaid : Prop := Claim7.holds Tryd.pinned (.plain (OpenSpec.upto fnExactSelectorOkSpec)) fnExactSelectorOkUptoCard

/-- THE SECOND FORM's CARD OF 'laws.FnExactSelects'. -/
def fnExactSelectsUptoCard : Claim7 := { stood := { row := fnExactSelectsUptoRow, standIns := [], harness := (true, "0306260199094dc8065c9db92070618743a23b6444796ea28ad41bb85a766d60"), looks := false }, kinds := [], alts := [], laidByText := true, laidKinds := [.data, .pinned], laidTests := true, laidLooks := .later }
def FnExactSelectsUptoCardSaid : Prop := Claim7.holds Tryd.pinned (.plain (OpenSpec.upto fnExactSelectsSpec)) fnExactSelectsUptoCard

/-- THE SECOND FORM's CARD OF 'laws.FnExactNeedLine'. -/
def fnExactNeedLineUptoCard : Claim7 := { stood := { row := fnExactNeedLineUptoRow, standIns := [], harness := (true, "0306260199094dc8065c9db92070618743a23b6444796ea28ad41bb85a766d60"), looks := false }, kinds := [], alts := [], laidByText := true, laidKinds := [.data, .pinned], laidTests := true, laidLooks := .later }
def FnExactNeedLineUptoCardSaid : Prop := Claim7.holds Tryd.pinned (.plain (OpenSpec.upto fnExactNeedLineSpec)) fnExactNeedLineUptoCard
end Rows
end Go.Proofs.YtjcfaepklakpkaaDoor
