/-
  NARROWER THAN 'FOR EVERY INPUT', by the rows' own cells (each row's printed sentence says how): FnTolerates: laid · FnExactTaintOk: laid · FnExactTaintsOk: laid · FnExactToleranceOk: laid · FnExactTolerancesOk: laid · FnExactTolerates: laid · FnExactUntolerated: laid · FnExactSortTaints: laid · FnExactSortTolerances: laid.
  DERIVED. THE GIVEN ROWS OF THIS SEAT. 9 by the template 'for every input the law returns true; each argument reads behind the call as it read before'; 0 by the template 'total and deterministic' (their statements: YtpadpiibiocabaaDoorTotals.lean).
  GIVEN WITH THE SEED: the statements are not yours to turn. If you find one false, say at which input.
  Laid BY PROGRAM, IN A SANDBOX (cutbox-rows.mjs): the forced cells as the released guide's own fill.sh prints them over the translation 6d80df9b6e2dceb0… (all of the seat's roots in one cut). By AI agents, Wed Nov 11 2026. No macro, syntax, notation, axiom, sorry.
-/
import Derived.Test.YtpadpiibiocabaaDoorChecked
import GoSem.PinnedTables
import GoSem.Claim
import GoSem.ClaimJoined
import GoSem.ClaimMapViews
import Derived.JoinedTies
import Derived.KernelRfl
namespace Go.Proofs.YtpadpiibiocabaaDoor
/- THE CELL 'sum', in the pinned program and in every row, IS THE sha256 OF THE DUMP (.gsa) THAT YtpadpiibiocabaaDoorProg.lean LOADS. Nothing in Lean hashes anything: it is a label: what it is worth is what the hold of that sum in a sandbox is worth. -/
noncomputable def Tryd.pinned : Pinned := { name := "ytpadpiibiocabaadoor", sum := "6d80df9b6e2dceb0a5ab002c4b2879ae11095524e1baa9c555fd4e35f866ddc9", checked := Tryd.checked }
namespace Rows
def none {H : Type} : Left H := { results := [], args := [] }

/- WHAT THE LISTED PACKAGE-LEVEL VARIABLES READ AS WHEN THE CALL BEGINS. Each datum BY PROGRAM (the guide's laid-datum.mjs) off the statement by which the dump's own 'gosem.cut.vars' lays the variable. In a bare row this is a premise. The card (YtpadpiibiocabaaDoorCards.lean) ties it to the program's text. -/
def laid_unicode_utf8_acceptRanges {H : Type} : DataW H := .agg [.agg [.lit (.int .u8 128), .lit (.int .u8 191)], .agg [.lit (.int .u8 160), .lit (.int .u8 191)], .agg [.lit (.int .u8 128), .lit (.int .u8 159)], .agg [.lit (.int .u8 144), .lit (.int .u8 191)], .agg [.lit (.int .u8 128), .lit (.int .u8 143)], .agg [.lit (.int .u8 0), .lit (.int .u8 0)], .agg [.lit (.int .u8 0), .lit (.int .u8 0)], .agg [.lit (.int .u8 0), .lit (.int .u8 0)], .agg [.lit (.int .u8 0), .lit (.int .u8 0)], .agg [.lit (.int .u8 0), .lit (.int .u8 0)], .agg [.lit (.int .u8 0), .lit (.int .u8 0)], .agg [.lit (.int .u8 0), .lit (.int .u8 0)], .agg [.lit (.int .u8 0), .lit (.int .u8 0)], .agg [.lit (.int .u8 0), .lit (.int .u8 0)], .agg [.lit (.int .u8 0), .lit (.int .u8 0)], .agg [.lit (.int .u8 0), .lit (.int .u8 0)]]
/-- One of Go's own tables, pinned by name: the form's constant. -/
def laid_unicode_utf8_first : DataW Unit := Go.Pinned.utf8First

/-- 'laws.FnTolerates': WHATEVER THE INPUT: true; the input reads as it did. -/
def fnToleratesSpec : ChangeSpec := { name := "fnTolerates", fn := fun _ => fun
  | [d] => { results := [.lit (.bool true)], args := [d] }
  | _ => none }
def fnToleratesRow : OpenClaim := { program := "ytpadpiibiocabaadoor", sum := "6d80df9b6e2dceb0a5ab002c4b2879ae11095524e1baa9c555fd4e35f866ddc9", func := "loop.example/g00968/laws.FnTolerates", spec := "fnTolerates", inPlace := ["internal/bytealg.IndexByteString", "internal/bytealg.IndexString"], unfollowed := true, recurses := true, named := ["unicode/utf8.first", "unicode/utf8.acceptRanges", "internal/bytealg.MaxLen"], apart := false, laid := [("unicode/utf8.acceptRanges", laid_unicode_utf8_acceptRanges), ("unicode/utf8.first", laid_unicode_utf8_first)] }
def FnToleratesSaid : Prop := fnToleratesRow.holds Tryd.pinned (OpenSpec.ofChange fnToleratesSpec)

/-- ITS FALSE NEIGHBOUR: 'it returns false'. Refute it at one input. -/
def fnToleratesWrong : ChangeSpec := { name := "fnTolerates", fn := fun _ => fun
  | [d] => { results := [.lit (.bool false)], args := [d] }
  | _ => none }
def FnToleratesWrongFalsely : Prop := fnToleratesRow.holds Tryd.pinned (OpenSpec.ofChange fnToleratesWrong)

/-- 'laws.FnExactTaintOk': WHATEVER THE INPUT: true; the input reads as it did. -/
def fnExactTaintOkSpec : ChangeSpec := { name := "fnExactTaintOk", fn := fun _ => fun
  | [d] => { results := [.lit (.bool true)], args := [d] }
  | _ => none }
def fnExactTaintOkRow : OpenClaim := { program := "ytpadpiibiocabaadoor", sum := "6d80df9b6e2dceb0a5ab002c4b2879ae11095524e1baa9c555fd4e35f866ddc9", func := "loop.example/g00968/laws.FnExactTaintOk", spec := "fnExactTaintOk", inPlace := ["internal/bytealg.IndexByteString", "internal/bytealg.IndexString"], named := ["unicode/utf8.first", "unicode/utf8.acceptRanges", "internal/bytealg.MaxLen"], apart := false, laid := [("unicode/utf8.acceptRanges", laid_unicode_utf8_acceptRanges), ("unicode/utf8.first", laid_unicode_utf8_first)] }
def FnExactTaintOkSaid : Prop := fnExactTaintOkRow.holds Tryd.pinned (OpenSpec.ofChange fnExactTaintOkSpec)

/-- ITS FALSE NEIGHBOUR: 'it returns false'. Refute it at one input. -/
def fnExactTaintOkWrong : ChangeSpec := { name := "fnExactTaintOk", fn := fun _ => fun
  | [d] => { results := [.lit (.bool false)], args := [d] }
  | _ => none }
def FnExactTaintOkWrongFalsely : Prop := fnExactTaintOkRow.holds Tryd.pinned (OpenSpec.ofChange fnExactTaintOkWrong)

/-- 'laws.FnExactTaintsOk': WHATEVER THE INPUT: true; the input reads as it did. -/
def fnExactTaintsOkSpec : ChangeSpec := { name := "fnExactTaintsOk", fn := fun _ => fun
  | [d] => { results := [.lit (.bool true)], args := [d] }
  | _ => none }
def fnExactTaintsOkRow : OpenClaim := { program := "ytpadpiibiocabaadoor", sum := "6d80df9b6e2dceb0a5ab002c4b2879ae11095524e1baa9c555fd4e35f866ddc9", func := "loop.example/g00968/laws.FnExactTaintsOk", spec := "fnExactTaintsOk", inPlace := ["internal/bytealg.IndexByteString", "internal/bytealg.IndexString", "internal/bytealg.abigen_runtime_cmpstring"], unfollowed := true, recurses := true, named := ["unicode/utf8.first", "unicode/utf8.acceptRanges", "internal/bytealg.MaxLen"], apart := false, laid := [("unicode/utf8.acceptRanges", laid_unicode_utf8_acceptRanges), ("unicode/utf8.first", laid_unicode_utf8_first)] }
def FnExactTaintsOkSaid : Prop := fnExactTaintsOkRow.holds Tryd.pinned (OpenSpec.ofChange fnExactTaintsOkSpec)

/-- ITS FALSE NEIGHBOUR: 'it returns false'. Refute it at one input. -/
def fnExactTaintsOkWrong : ChangeSpec := { name := "fnExactTaintsOk", fn := fun _ => fun
  | [d] => { results := [.lit (.bool false)], args := [d] }
  | _ => none }
def FnExactTaintsOkWrongFalsely : Prop := fnExactTaintsOkRow.holds Tryd.pinned (OpenSpec.ofChange fnExactTaintsOkWrong)

/-- 'laws.FnExactToleranceOk': WHATEVER THE INPUT: true; the input reads as it did. -/
def fnExactToleranceOkSpec : ChangeSpec := { name := "fnExactToleranceOk", fn := fun _ => fun
  | [d] => { results := [.lit (.bool true)], args := [d] }
  | _ => none }
def fnExactToleranceOkRow : OpenClaim := { program := "ytpadpiibiocabaadoor", sum := "6d80df9b6e2dceb0a5ab002c4b2879ae11095524e1baa9c555fd4e35f866ddc9", func := "loop.example/g00968/laws.FnExactToleranceOk", spec := "fnExactToleranceOk", inPlace := ["internal/bytealg.IndexByteString", "internal/bytealg.IndexString"], named := ["unicode/utf8.first", "unicode/utf8.acceptRanges", "internal/bytealg.MaxLen"], apart := false, laid := [("unicode/utf8.acceptRanges", laid_unicode_utf8_acceptRanges), ("unicode/utf8.first", laid_unicode_utf8_first)] }
def FnExactToleranceOkSaid : Prop := fnExactToleranceOkRow.holds Tryd.pinned (OpenSpec.ofChange fnExactToleranceOkSpec)

/-- ITS FALSE NEIGHBOUR: 'it returns false'. Refute it at one input. -/
def fnExactToleranceOkWrong : ChangeSpec := { name := "fnExactToleranceOk", fn := fun _ => fun
  | [d] => { results := [.lit (.bool false)], args := [d] }
  | _ => none }
def FnExactToleranceOkWrongFalsely : Prop := fnExactToleranceOkRow.holds Tryd.pinned (OpenSpec.ofChange fnExactToleranceOkWrong)

/-- 'laws.FnExactTolerancesOk': WHATEVER THE INPUT: true; the input reads as it did. -/
def fnExactTolerancesOkSpec : ChangeSpec := { name := "fnExactTolerancesOk", fn := fun _ => fun
  | [d] => { results := [.lit (.bool true)], args := [d] }
  | _ => none }
def fnExactTolerancesOkRow : OpenClaim := { program := "ytpadpiibiocabaadoor", sum := "6d80df9b6e2dceb0a5ab002c4b2879ae11095524e1baa9c555fd4e35f866ddc9", func := "loop.example/g00968/laws.FnExactTolerancesOk", spec := "fnExactTolerancesOk", inPlace := ["internal/bytealg.IndexByteString", "internal/bytealg.IndexString", "internal/bytealg.abigen_runtime_cmpstring"], unfollowed := true, recurses := true, named := ["unicode/utf8.first", "unicode/utf8.acceptRanges", "internal/bytealg.MaxLen"], apart := false, laid := [("unicode/utf8.acceptRanges", laid_unicode_utf8_acceptRanges), ("unicode/utf8.first", laid_unicode_utf8_first)] }
def FnExactTolerancesOkSaid : Prop := fnExactTolerancesOkRow.holds Tryd.pinned (OpenSpec.ofChange fnExactTolerancesOkSpec)

/-- ITS FALSE NEIGHBOUR: 'it returns false'. Refute it at one input. -/
def fnExactTolerancesOkWrong : ChangeSpec := { name := "fnExactTolerancesOk", fn := fun _ => fun
  | [d] => { results := [.lit (.bool false)], args := [d] }
  | _ => none }
def FnExactTolerancesOkWrongFalsely : Prop := fnExactTolerancesOkRow.holds Tryd.pinned (OpenSpec.ofChange fnExactTolerancesOkWrong)

/-- 'laws.FnExactTolerates': WHATEVER THE INPUT: true; the input reads as it did. -/
def fnExactToleratesSpec : ChangeSpec := { name := "fnExactTolerates", fn := fun _ => fun
  | [d1, d2] => { results := [.lit (.bool true)], args := [d1, d2] }
  | _ => none }
def fnExactToleratesRow : OpenClaim := { program := "ytpadpiibiocabaadoor", sum := "6d80df9b6e2dceb0a5ab002c4b2879ae11095524e1baa9c555fd4e35f866ddc9", func := "loop.example/g00968/laws.FnExactTolerates", spec := "fnExactTolerates", inPlace := ["internal/bytealg.IndexByteString", "internal/bytealg.IndexString"], named := ["unicode/utf8.first", "unicode/utf8.acceptRanges", "internal/bytealg.MaxLen"], apart := false, laid := [("unicode/utf8.acceptRanges", laid_unicode_utf8_acceptRanges), ("unicode/utf8.first", laid_unicode_utf8_first)] }
def FnExactToleratesSaid : Prop := fnExactToleratesRow.holds Tryd.pinned (OpenSpec.ofChange fnExactToleratesSpec)

/-- ITS FALSE NEIGHBOUR: 'it returns false'. Refute it at one input. -/
def fnExactToleratesWrong : ChangeSpec := { name := "fnExactTolerates", fn := fun _ => fun
  | [d1, d2] => { results := [.lit (.bool false)], args := [d1, d2] }
  | _ => none }
def FnExactToleratesWrongFalsely : Prop := fnExactToleratesRow.holds Tryd.pinned (OpenSpec.ofChange fnExactToleratesWrong)

/-- 'laws.FnExactUntolerated': WHATEVER THE INPUT: true; the input reads as it did. -/
def fnExactUntoleratedSpec : ChangeSpec := { name := "fnExactUntolerated", fn := fun _ => fun
  | [d1, d2, d3] => { results := [.lit (.bool true)], args := [d1, d2, d3] }
  | _ => none }
def fnExactUntoleratedRow : OpenClaim := { program := "ytpadpiibiocabaadoor", sum := "6d80df9b6e2dceb0a5ab002c4b2879ae11095524e1baa9c555fd4e35f866ddc9", func := "loop.example/g00968/laws.FnExactUntolerated", spec := "fnExactUntolerated", inPlace := ["internal/bytealg.IndexByteString", "internal/bytealg.IndexString"], unfollowed := true, recurses := true, named := ["unicode/utf8.first", "unicode/utf8.acceptRanges", "internal/bytealg.MaxLen"], apart := false, laid := [("unicode/utf8.acceptRanges", laid_unicode_utf8_acceptRanges), ("unicode/utf8.first", laid_unicode_utf8_first)] }
def FnExactUntoleratedSaid : Prop := fnExactUntoleratedRow.holds Tryd.pinned (OpenSpec.ofChange fnExactUntoleratedSpec)

/-- ITS FALSE NEIGHBOUR: 'it returns false'. Refute it at one input. -/
def fnExactUntoleratedWrong : ChangeSpec := { name := "fnExactUntolerated", fn := fun _ => fun
  | [d1, d2, d3] => { results := [.lit (.bool false)], args := [d1, d2, d3] }
  | _ => none }
def FnExactUntoleratedWrongFalsely : Prop := fnExactUntoleratedRow.holds Tryd.pinned (OpenSpec.ofChange fnExactUntoleratedWrong)

/-- 'laws.FnExactSortTaints': WHATEVER THE INPUT: true; the input reads as it did. -/
def fnExactSortTaintsSpec : ChangeSpec := { name := "fnExactSortTaints", fn := fun _ => fun
  | [d] => { results := [.lit (.bool true)], args := [d] }
  | _ => none }
def fnExactSortTaintsRow : OpenClaim := { program := "ytpadpiibiocabaadoor", sum := "6d80df9b6e2dceb0a5ab002c4b2879ae11095524e1baa9c555fd4e35f866ddc9", func := "loop.example/g00968/laws.FnExactSortTaints", spec := "fnExactSortTaints", inPlace := ["internal/bytealg.abigen_runtime_cmpstring", "internal/bytealg.IndexByteString", "internal/bytealg.IndexString"], unfollowed := true, recurses := true, named := ["unicode/utf8.first", "unicode/utf8.acceptRanges", "internal/bytealg.MaxLen"], apart := false, laid := [("unicode/utf8.acceptRanges", laid_unicode_utf8_acceptRanges), ("unicode/utf8.first", laid_unicode_utf8_first)] }
def FnExactSortTaintsSaid : Prop := fnExactSortTaintsRow.holds Tryd.pinned (OpenSpec.ofChange fnExactSortTaintsSpec)

/-- ITS FALSE NEIGHBOUR: 'it returns false'. Refute it at one input. -/
def fnExactSortTaintsWrong : ChangeSpec := { name := "fnExactSortTaints", fn := fun _ => fun
  | [d] => { results := [.lit (.bool false)], args := [d] }
  | _ => none }
def FnExactSortTaintsWrongFalsely : Prop := fnExactSortTaintsRow.holds Tryd.pinned (OpenSpec.ofChange fnExactSortTaintsWrong)

/-- 'laws.FnExactSortTolerances': WHATEVER THE INPUT: true; the input reads as it did. -/
def fnExactSortTolerancesSpec : ChangeSpec := { name := "fnExactSortTolerances", fn := fun _ => fun
  | [d] => { results := [.lit (.bool true)], args := [d] }
  | _ => none }
def fnExactSortTolerancesRow : OpenClaim := { program := "ytpadpiibiocabaadoor", sum := "6d80df9b6e2dceb0a5ab002c4b2879ae11095524e1baa9c555fd4e35f866ddc9", func := "loop.example/g00968/laws.FnExactSortTolerances", spec := "fnExactSortTolerances", inPlace := ["internal/bytealg.abigen_runtime_cmpstring", "internal/bytealg.IndexByteString", "internal/bytealg.IndexString"], unfollowed := true, recurses := true, named := ["unicode/utf8.first", "unicode/utf8.acceptRanges", "internal/bytealg.MaxLen"], apart := false, laid := [("unicode/utf8.acceptRanges", laid_unicode_utf8_acceptRanges), ("unicode/utf8.first", laid_unicode_utf8_first)] }
def FnExactSortTolerancesSaid : Prop := fnExactSortTolerancesRow.holds Tryd.pinned (OpenSpec.ofChange fnExactSortTolerancesSpec)

/-- ITS FALSE NEIGHBOUR: 'it returns false'. Refute it at one input. -/
def fnExactSortTolerancesWrong : ChangeSpec := { name := "fnExactSortTolerances", fn := fun _ => fun
  | [d] => { results := [.lit (.bool false)], args := [d] }
  | _ => none }
def FnExactSortTolerancesWrongFalsely : Prop := fnExactSortTolerancesRow.holds Tryd.pinned (OpenSpec.ofChange fnExactSortTolerancesWrong)

/- THE SECOND FORM. 'bulk': how many values and letters a reading holds, each counted each time it is reached (what is shared counts as often as it is met; a slice's spare places count too). A statement '..UptoSaid' is the law's where the arguments, and the package variables that the reading takes, are together of bulk at most 1048576: NARROWER than '..Said'. Prove '..Said' where nothing that the law and all that it calls make is longer than what came in: it says more and counts as full. Else prove '..UptoSaid'. A law counts once. -/
mutual
def uptoBulk {H : Type} : DataW H → Nat
  | .lit (.string bytes) => bytes.length + 1
  | .lit _ => 1
  | .nil => 1
  | .ptr d => uptoBulk d + 1
  | .slice elems spare => uptoBulkAll elems + uptoBulkAll spare + 1
  | .agg parts => uptoBulkAll parts + 1
  | .iface _ d => uptoBulk d + 1
  | .map entries => uptoBulkEntries entries + 1
  | .held _ => 1
def uptoBulkAll {H : Type} : List (DataW H) → Nat
  | [] => 0
  | d :: r => uptoBulk d + uptoBulkAll r
def uptoBulkEntries {H : Type} : List (Lit × DataW H) → Nat
  | [] => 0
  | x :: r => uptoBulkEntry x + uptoBulkEntries r
def uptoBulkEntry {H : Type} : Lit × DataW H → Nat
  | (.string bytes, d) => bytes.length + uptoBulk d + 1
  | (_, d) => uptoBulk d + 1
 end
def uptoSmall : (H : Type) → List (DataW H) → Bool := fun _ ds => decide (uptoBulkAll ds ≤ 1048576)
def OpenSpec.upto (s : _root_.Go.ChangeSpec) : _root_.Go.OpenSpec := { _root_.Go.OpenSpec.ofChange s with cond := some uptoSmall }

/-- 'laws.FnTolerates', WHERE WHAT IT READS IS OF BULK AT MOST 1048576: true; the input reads as it did. -/
def fnToleratesUptoRow : OpenClaim := { program := "ytpadpiibiocabaadoor", sum := "6d80df9b6e2dceb0a5ab002c4b2879ae11095524e1baa9c555fd4e35f866ddc9", func := "loop.example/g00968/laws.FnTolerates", spec := "fnTolerates", inPlace := ["internal/bytealg.IndexByteString", "internal/bytealg.IndexString"], unfollowed := true, recurses := true, named := ["unicode/utf8.first", "unicode/utf8.acceptRanges", "internal/bytealg.MaxLen"], apart := false, laid := [("unicode/utf8.acceptRanges", laid_unicode_utf8_acceptRanges), ("unicode/utf8.first", laid_unicode_utf8_first)], narrowed := true }
def FnToleratesUptoSaid : Prop := fnToleratesUptoRow.holds Tryd.pinned (OpenSpec.upto fnToleratesSpec)

/-- 'laws.FnExactTaintOk', WHERE WHAT IT READS IS OF BULK AT MOST 1048576: true; the input reads as it did. -/
def fnExactTaintOkUptoRow : OpenClaim := { program := "ytpadpiibiocabaadoor", sum := "6d80df9b6e2dceb0a5ab002c4b2879ae11095524e1baa9c555fd4e35f866ddc9", func := "loop.example/g00968/laws.FnExactTaintOk", spec := "fnExactTaintOk", inPlace := ["internal/bytealg.IndexByteString", "internal/bytealg.IndexString"], named := ["unicode/utf8.first", "unicode/utf8.acceptRanges", "internal/bytealg.MaxLen"], apart := false, laid := [("unicode/utf8.acceptRanges", laid_unicode_utf8_acceptRanges), ("unicode/utf8.first", laid_unicode_utf8_first)], narrowed := true }
def FnExactTaintOkUptoSaid : Prop := fnExactTaintOkUptoRow.holds Tryd.pinned (OpenSpec.upto fnExactTaintOkSpec)

/-- 'laws.FnExactTaintsOk', WHERE WHAT IT READS IS OF BULK AT MOST 1048576: true; the input reads as it did. -/
def fnExactTaintsOkUptoRow : OpenClaim := { program := "ytpadpiibiocabaadoor", sum := "6d80df9b6e2dceb0a5ab002c4b2879ae11095524e1baa9c555fd4e35f866ddc9", func := "loop.example/g00968/laws.FnExactTaintsOk", spec := "fnExactTaintsOk", inPlace := ["internal/bytealg.IndexByteString", "internal/bytealg.IndexString", "internal/bytealg.abigen_runtime_cmpstring"], unfollowed := true, recurses := true, named := ["unicode/utf8.first", "unicode/utf8.acceptRanges", "internal/bytealg.MaxLen"], apart := false, laid := [("unicode/utf8.acceptRanges", laid_unicode_utf8_acceptRanges), ("unicode/utf8.first", laid_unicode_utf8_first)], narrowed := true }
def FnExactTaintsOkUptoSaid : Prop := fnExactTaintsOkUptoRow.holds Tryd.pinned (OpenSpec.upto fnExactTaintsOkSpec)

/-- 'laws.FnExactToleranceOk', WHERE WHAT IT READS IS OF BULK AT MOST 1048576: true; the input reads as it did. -/
def fnExactToleranceOkUptoRow : OpenClaim := { program := "ytpadpiibiocabaadoor", sum := "6d80df9b6e2dceb0a5ab002c4b2879ae11095524e1baa9c555fd4e35f866ddc9", func := "loop.example/g00968/laws.FnExactToleranceOk", spec := "fnExactToleranceOk", inPlace := ["internal/bytealg.IndexByteString", "internal/bytealg.IndexString"], named := ["unicode/utf8.first", "unicode/utf8.acceptRanges", "internal/bytealg.MaxLen"], apart := false, laid := [("unicode/utf8.acceptRanges", laid_unicode_utf8_acceptRanges), ("unicode/utf8.first", laid_unicode_utf8_first)], narrowed := true }
def FnExactToleranceOkUptoSaid : Prop := fnExactToleranceOkUptoRow.holds Tryd.pinned (OpenSpec.upto fnExactToleranceOkSpec)

/-- 'laws.FnExactTolerancesOk', WHERE WHAT IT READS IS OF BULK AT MOST 1048576: true; the input reads as it did. -/
def fnExactTolerancesOkUptoRow : OpenClaim := { program := "ytpadpiibiocabaadoor", sum := "6d80df9b6e2dceb0a5ab002c4b2879ae11095524e1baa9c555fd4e35f866ddc9", func := "loop.example/g00968/laws.FnExactTolerancesOk", spec := "fnExactTolerancesOk", inPlace := ["internal/bytealg.IndexByteString", "internal/bytealg.IndexString", "internal/bytealg.abigen_runtime_cmpstring"], unfollowed := true, recurses := true, named := ["unicode/utf8.first", "unicode/utf8.acceptRanges", "internal/bytealg.MaxLen"], apart := false, laid := [("unicode/utf8.acceptRanges", laid_unicode_utf8_acceptRanges), ("unicode/utf8.first", laid_unicode_utf8_first)], narrowed := true }
def FnExactTolerancesOkUptoSaid : Prop := fnExactTolerancesOkUptoRow.holds Tryd.pinned (OpenSpec.upto fnExactTolerancesOkSpec)

/-- 'laws.FnExactTolerates', WHERE WHAT IT READS IS OF BULK AT MOST 1048576: true; the input reads as it did. -/
def fnExactToleratesUptoRow : OpenClaim := { program := "ytpadpiibiocabaadoor", sum := "6d80df9b6e2dceb0a5ab002c4b2879ae11095524e1baa9c555fd4e35f866ddc9", func := "loop.example/g00968/laws.FnExactTolerates", spec := "fnExactTolerates", inPlace := ["internal/bytealg.IndexByteString", "internal/bytealg.IndexString"], named := ["unicode/utf8.first", "unicode/utf8.acceptRanges", "internal/bytealg.MaxLen"], apart := false, laid := [("unicode/utf8.acceptRanges", laid_unicode_utf8_acceptRanges), ("unicode/utf8.first", laid_unicode_utf8_first)], narrowed := true }
def FnExactToleratesUptoSaid : Prop := fnExactToleratesUptoRow.holds Tryd.pinned (OpenSpec.upto fnExactToleratesSpec)

/-- 'laws.FnExactUntolerated', WHERE WHAT IT READS IS OF BULK AT MOST 1048576: true; the input reads as it did. -/
def fnExactUntoleratedUptoRow : OpenClaim := { program := "ytpadpiibiocabaadoor", sum := "6d80df9b6e2dceb0a5ab002c4b2879ae11095524e1baa9c555fd4e35f866ddc9", func := "loop.example/g00968/laws.FnExactUntolerated", spec := "fnExactUntolerated", inPlace := ["internal/bytealg.IndexByteString", "internal/bytealg.IndexString"], unfollowed := true, recurses := true, named := ["unicode/utf8.first", "unicode/utf8.acceptRanges", "internal/bytealg.MaxLen"], apart := false, laid := [("unicode/utf8.acceptRanges", laid_unicode_utf8_acceptRanges), ("unicode/utf8.first", laid_unicode_utf8_first)], narrowed := true }
def FnExactUntoleratedUptoSaid : Prop := fnExactUntoleratedUptoRow.holds Tryd.pinned (OpenSpec.upto fnExactUntoleratedSpec)

/-- 'laws.FnExactSortTaints', WHERE WHAT IT READS IS OF BULK AT MOST 1048576: true; the input reads as it did. -/
def fnExactSortTaintsUptoRow : OpenClaim := { program := "ytpadpiibiocabaadoor", sum := "6d80df9b6e2dceb0a5ab002c4b2879ae11095524e1baa9c555fd4e35f866ddc9", func := "loop.example/g00968/laws.FnExactSortTaints", spec := "fnExactSortTaints", inPlace := ["internal/bytealg.abigen_runtime_cmpstring", "internal/bytealg.IndexByteString", "internal/bytealg.IndexString"], unfollowed := true, recurses := true, named := ["unicode/utf8.first", "unicode/utf8.acceptRanges", "internal/bytealg.MaxLen"], apart := false, laid := [("unicode/utf8.acceptRanges", laid_unicode_utf8_acceptRanges), ("unicode/utf8.first", laid_unicode_utf8_first)], narrowed := true }
def FnExactSortTaintsUptoSaid : Prop := fnExactSortTaintsUptoRow.holds Tryd.pinned (OpenSpec.upto fnExactSortTaintsSpec)

/-- 'laws.FnExactSortTolerances', WHERE WHAT IT READS IS OF BULK AT MOST 1048576: true; the input reads as it did. -/
def fnExactSortTolerancesUptoRow : OpenClaim := { program := "ytpadpiibiocabaadoor", sum := "6d80df9b6e2dceb0a5ab002c4b2879ae11095524e1baa9c555fd4e35f866ddc9", func := "loop.example/g00968/laws.FnExactSortTolerances", spec := "fnExactSortTolerances", inPlace := ["internal/bytealg.abigen_runtime_cmpstring", "internal/bytealg.IndexByteString", "internal/bytealg.IndexString"], unfollowed := true, recurses := true, named := ["unicode/utf8.first", "unicode/utf8.acceptRanges", "internal/bytealg.MaxLen"], apart := false, laid := [("unicode/utf8.acceptRanges", laid_unicode_utf8_acceptRanges), ("unicode/utf8.first", laid_unicode_utf8_first)], narrowed := true }
def FnExactSortTolerancesUptoSaid : Prop := fnExactSortTolerancesUptoRow.holds Tryd.pinned (OpenSpec.upto fnExactSortTolerancesSpec)

end Rows
end Go.Proofs.YtpadpiibiocabaaDoor
