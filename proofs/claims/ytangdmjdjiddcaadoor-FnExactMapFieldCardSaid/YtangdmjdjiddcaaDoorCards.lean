/-
  DERIVED. GIVEN WITH THE SEED: THE CARDS: each row of YtangdmjdjiddcaaDoorRows.lean that lists a variable, with what it lists TIED to the program's text (the seventh form; the later family's looks); each row that meets fmt, with fmt's text TOLD by the authors' own Lean function (tested against real Go, not proved from fmt's source: count such statements apart). THE CARD IS WHAT COUNTS. Prove the row's statement (the work); the ties are given (YtangdmjdjiddcaaDoorTie.lean); close each card by the builder's one call (the guide's Derived/Test/ToyasCard.lean, 'card_holds'). Laid BY PROGRAM, IN A SANDBOX (cutbox-door.mjs). By AI agents, Wed Nov 11 2026. No macro, syntax, notation, axiom, sorry.
-/
import Derived.Test.YtangdmjdjiddcaaDoorRows
import GoSem.ClaimSeven
namespace Go.Proofs.YtangdmjdjiddcaaDoor
namespace Rows

/-- THE TIED CARD OF 'laws.FnExactPathPlace'. -/
def fnExactPathPlaceCard : Claim7 := { stood := { row := fnExactPathPlaceRow, standIns := [], harness := (true, "72adf2c43211262d215a8db10ee7ea5862abca0cd2a8099792b707caac71f0fd"), looks := true }, kinds := [], alts := [], laidByText := true, laidKinds := [.data, .data, .data], laidTests := true, laidLooks := .later }
def FnExactPathPlaceCardSaid : Prop := Claim7.holds Tryd.pinned (.plain (OpenSpec.ofChange fnExactPathPlaceSpec)) fnExactPathPlaceCard

/-- THE TIED CARD OF 'laws.FnExactKnownKeys'. -/
def fnExactKnownKeysCard : Claim7 := { stood := { row := fnExactKnownKeysRow, standIns := [], harness := (true, "72adf2c43211262d215a8db10ee7ea5862abca0cd2a8099792b707caac71f0fd"), looks := true }, kinds := [], alts := [], laidByText := true, laidKinds := [.handle], laidTests := true, laidLooks := .later }
def FnExactKnownKeysCardSaid : Prop := Claim7.holds Tryd.pinned (.plain (OpenSpec.ofChange fnExactKnownKeysSpec)) fnExactKnownKeysCard

/-- THE TIED CARD OF 'laws.FnExactTextField'. -/
def fnExactTextFieldCard : Claim7 := { stood := { row := fnExactTextFieldRow, standIns := [], harness := (true, "72adf2c43211262d215a8db10ee7ea5862abca0cd2a8099792b707caac71f0fd"), looks := true }, kinds := [], alts := [], laidByText := true, laidKinds := [.handle], laidTests := true, laidLooks := .later }
def FnExactTextFieldCardSaid : Prop := Claim7.holds Tryd.pinned (.plain (OpenSpec.ofChange fnExactTextFieldSpec)) fnExactTextFieldCard

/-- THE TIED CARD OF 'laws.FnExactWholeField'. -/
def fnExactWholeFieldCard : Claim7 := { stood := { row := fnExactWholeFieldRow, standIns := [], harness := (true, "72adf2c43211262d215a8db10ee7ea5862abca0cd2a8099792b707caac71f0fd"), looks := true }, kinds := [], alts := [], laidByText := true, laidKinds := [.handle], laidTests := true, laidLooks := .later }
def FnExactWholeFieldCardSaid : Prop := Claim7.holds Tryd.pinned (.plain (OpenSpec.ofChange fnExactWholeFieldSpec)) fnExactWholeFieldCard

/-- THE TIED CARD OF 'laws.FnExactListField'. -/
def fnExactListFieldCard : Claim7 := { stood := { row := fnExactListFieldRow, standIns := [], harness := (true, "72adf2c43211262d215a8db10ee7ea5862abca0cd2a8099792b707caac71f0fd"), looks := true }, kinds := [], alts := [], laidByText := true, laidKinds := [.handle], laidTests := true, laidLooks := .later }
def FnExactListFieldCardSaid : Prop := Claim7.holds Tryd.pinned (.plain (OpenSpec.ofChange fnExactListFieldSpec)) fnExactListFieldCard

/-- THE TIED CARD OF 'laws.FnExactMapField'. -/
def fnExactMapFieldCard : Claim7 := { stood := { row := fnExactMapFieldRow, standIns := [], harness := (true, "72adf2c43211262d215a8db10ee7ea5862abca0cd2a8099792b707caac71f0fd"), looks := true }, kinds := [], alts := [], laidByText := true, laidKinds := [.handle], laidTests := true, laidLooks := .later }
def FnExactMapFieldCardSaid : Prop := Claim7.holds Tryd.pinned (.plain (OpenSpec.ofChange fnExactMapFieldSpec)) fnExactMapFieldCard

/-- THE SECOND FORM's CARD OF 'laws.FnExactPathPlace'. -/
def fnExactPathPlaceUptoCard : Claim7 := { stood := { row := fnExactPathPlaceUptoRow, standIns := [], harness := (true, "72adf2c43211262d215a8db10ee7ea5862abca0cd2a8099792b707caac71f0fd"), looks := true }, kinds := [], alts := [], laidByText := true, laidKinds := [.data, .data, .data], laidTests := true, laidLooks := .later }
def FnExactPathPlaceUptoCardSaid : Prop := Claim7.holds Tryd.pinned (.plain (OpenSpec.upto fnExactPathPlaceSpec)) fnExactPathPlaceUptoCard

/-- THE SECOND FORM's CARD OF 'laws.FnExactKnownKeys'. -/
def fnExactKnownKeysUptoCard : Claim7 := { stood := { row := fnExactKnownKeysUptoRow, standIns := [], harness := (true, "72adf2c43211262d215a8db10ee7ea5862abca0cd2a8099792b707caac71f0fd"), looks := true }, kinds := [], alts := [], laidByText := true, laidKinds := [.handle], laidTests := true, laidLooks := .later }
def FnExactKnownKeysUptoCardSaid : Prop := Claim7.holds Tryd.pinned (.plain (OpenSpec.upto fnExactKnownKeysSpec)) fnExactKnownKeysUptoCard

/-- THE SECOND FORM's CARD OF 'laws.FnExactTextField'. -/
def fnExactTextFieldUptoCard : Claim7 := { stood := { row := fnExactTextFieldUptoRow, standIns := [], harness := (true, "72adf2c43211262d215a8db10ee7ea5862abca0cd2a8099792b707caac71f0fd"), looks := true }, kinds := [], alts := [], laidByText := true, laidKinds := [.handle], laidTests := true, laidLooks := .later }
def FnExactTextFieldUptoCardSaid : Prop := Claim7.holds Tryd.pinned (.plain (OpenSpec.upto fnExactTextFieldSpec)) fnExactTextFieldUptoCard

/-- THE SECOND FORM's CARD OF 'laws.FnExactWholeField'. -/
def fnExactWholeFieldUptoCard : Claim7 := { stood := { row := fnExactWholeFieldUptoRow, standIns := [], harness := (true, "72adf2c43211262d215a8db10ee7ea5862abca0cd2a8099792b707caac71f0fd"), looks := true }, kinds := [], alts := [], laidByText := true, laidKinds := [.handle], laidTests := true, laidLooks := .later }
def FnExactWholeFieldUptoCardSaid : Prop := Claim7.holds Tryd.pinned (.plain (OpenSpec.upto fnExactWholeFieldSpec)) fnExactWholeFieldUptoCard

/-- THE SECOND FORM's CARD OF 'laws.FnExactListField'. -/
def fnExactListFieldUptoCard : Claim7 := { stood := { row := fnExactListFieldUptoRow, standIns := [], harness := (true, "72adf2c43211262d215a8db10ee7ea5862abca0cd2a8099792b707caac71f0fd"), looks := true }, kinds := [], alts := [], laidByText := true, laidKinds := [.handle], laidTests := true, laidLooks := .later }
def FnExactListFieldUptoCardSaid : Prop := Claim7.holds Tryd.pinned (.plain (OpenSpec.upto fnExactListFieldSpec)) fnExactListFieldUptoCard

/-- THE SECOND FORM's CARD OF 'laws.FnExactMapField'. -/
def fnExactMapFieldUptoCard : Claim7 := { stood := { row := fnExactMapFieldUptoRow, standIns := [], harness := (true, "72adf2c43211262d215a8db10ee7ea5862abca0cd2a8099792b707caac71f0fd"), looks := true }, kinds := [], alts := [], laidByText := true, laidKinds := [.handle], laidTests := true, laidLooks := .later }
def FnExactMapFieldUptoCardSaid : Prop := Claim7.holds Tryd.pinned (.plain (OpenSpec.upto fnExactMapFieldSpec)) fnExactMapFieldUptoCard
end Rows
end Go.Proofs.YtangdmjdjiddcaaDoor
