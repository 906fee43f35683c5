/-
  NARROWER THAN 'FOR EVERY INPUT', by the rows' own cells (each row's printed sentence says how): FnFrames: ifaces, laid · FnFrameBursts: ifaces, laid · FnExactReadFrame: ifaces, laid · FnExactVersionIn: ifaces, laid · FnExactReframed: ifaces, laid.
  DERIVED. THE GIVEN ROWS OF THIS SEAT. 5 by the template 'for every input the law returns true; each argument reads behind the call as it read before'; 0 by the template 'total and deterministic' (their statements: YtljahpngngmecaaDoorTotals.lean).
  GIVEN WITH THE SEED: the statements are not yours to turn. If you find one false, say at which input.
  Laid BY PROGRAM, IN A SANDBOX (cutbox-rows.mjs): the forced cells as the released guide's own fill.sh prints them over the translation 586617270cb8479e… (all of the seat's roots in one cut). By AI agents, Wed Nov 11 2026. No macro, syntax, notation, axiom, sorry.
-/
import Derived.Test.YtljahpngngmecaaDoorChecked
import GoSem.Claim
import GoSem.ClaimJoined
import GoSem.ClaimMapViews
import Derived.JoinedTies
import Derived.KernelRfl
namespace Go.Proofs.YtljahpngngmecaaDoor
/- THE CELL 'sum', in the pinned program and in every row, IS THE sha256 OF THE DUMP (.gsa) THAT YtljahpngngmecaaDoorProg.lean LOADS. Nothing in Lean hashes anything: it is a label: what it is worth is what the hold of that sum in a sandbox is worth. -/
noncomputable def Tryd.pinned : Pinned := { name := "ytljahpngngmecaadoor", sum := "586617270cb8479e3c98ea40676d935222aff5582f5dc92acea1605895cec9fa", checked := Tryd.checked }
namespace Rows
def none {H : Type} : Left H := { results := [], args := [] }

/- WHAT THE LISTED PACKAGE-LEVEL VARIABLES READ AS WHEN THE CALL BEGINS. Each datum BY PROGRAM (the guide's laid-datum.mjs) off the statement by which the dump's own 'gosem.cut.vars' lays the variable. In a bare row this is a premise. The card (YtljahpngngmecaaDoorCards.lean) ties it to the program's text. -/
def laid_loop_example_g00968_impl_errFrameShort {H : Type} : DataW H := .iface "*errors.errorString" (.ptr (.agg [.lit (.string [116, 104, 101, 32, 116, 101, 120, 116, 32, 105, 115, 32, 115, 104, 111, 114, 116, 101, 114, 32, 116, 104, 97, 110, 32, 97, 32, 102, 114, 97, 109, 101, 32, 119, 105, 116, 104, 111, 117, 116, 32, 97, 32, 112, 97, 121, 108, 111, 97, 100])]))
def laid_loop_example_g00968_impl_errFrameMagic {H : Type} : DataW H := .iface "*errors.errorString" (.ptr (.agg [.lit (.string [116, 104, 101, 32, 116, 101, 120, 116, 32, 100, 111, 101, 115, 32, 110, 111, 116, 32, 98, 101, 103, 105, 110, 32, 119, 105, 116, 104, 32, 116, 104, 101, 32, 109, 97, 103, 105, 99, 32, 98, 121, 116, 101, 115])]))
def laid_loop_example_g00968_impl_errFrameVersion {H : Type} : DataW H := .iface "*errors.errorString" (.ptr (.agg [.lit (.string [116, 104, 101, 32, 118, 101, 114, 115, 105, 111, 110, 32, 105, 115, 32, 110, 111, 116, 32, 105, 110, 32, 116, 104, 101, 32, 114, 97, 110, 103, 101])]))
def laid_loop_example_g00968_impl_errFrameLength {H : Type} : DataW H := .iface "*errors.errorString" (.ptr (.agg [.lit (.string [116, 104, 101, 32, 108, 101, 110, 103, 116, 104, 32, 105, 115, 32, 110, 111, 116, 32, 116, 104, 97, 116, 32, 111, 102, 32, 116, 104, 101, 32, 112, 97, 121, 108, 111, 97, 100, 44, 32, 111, 114, 32, 116, 111, 111, 32, 103, 114, 101, 97, 116])]))
def laid_loop_example_g00968_impl_errFrameSum {H : Type} : DataW H := .iface "*errors.errorString" (.ptr (.agg [.lit (.string [116, 104, 101, 32, 99, 104, 101, 99, 107, 115, 117, 109, 32, 100, 111, 101, 115, 32, 110, 111, 116, 32, 109, 97, 116, 99, 104])]))

/-- 'laws.FnFrames': WHATEVER THE INPUT: true; the input reads as it did. -/
def fnFramesSpec : ChangeSpec := { name := "fnFrames", vars := ["loop.example/g00968/impl.errFrameShort", "loop.example/g00968/impl.errFrameMagic", "loop.example/g00968/impl.errFrameVersion", "loop.example/g00968/impl.errFrameLength", "loop.example/g00968/impl.errFrameSum"], fn := fun _ => fun
  | [d, g1, g2, g3, g4, g5] => { results := [.lit (.bool true)], args := [d], vars := [g1, g2, g3, g4, g5] }
  | _ => none }
def fnFramesRow : OpenClaim := { program := "ytljahpngngmecaadoor", sum := "586617270cb8479e3c98ea40676d935222aff5582f5dc92acea1605895cec9fa", func := "loop.example/g00968/laws.FnFrames", spec := "fnFrames", inPlace := ["internal/reflectlite.TypeOf"], unfollowed := true, recurses := true, named := ["loop.example/g00968/impl.errFrameShort", "loop.example/g00968/impl.errFrameMagic", "loop.example/g00968/impl.errFrameVersion", "loop.example/g00968/impl.errFrameLength", "loop.example/g00968/impl.errFrameSum"], ifaces := true, apart := false, laid := [("loop.example/g00968/impl.errFrameShort", laid_loop_example_g00968_impl_errFrameShort), ("loop.example/g00968/impl.errFrameMagic", laid_loop_example_g00968_impl_errFrameMagic), ("loop.example/g00968/impl.errFrameVersion", laid_loop_example_g00968_impl_errFrameVersion), ("loop.example/g00968/impl.errFrameLength", laid_loop_example_g00968_impl_errFrameLength), ("loop.example/g00968/impl.errFrameSum", laid_loop_example_g00968_impl_errFrameSum)] }
def FnFramesSaid : Prop := fnFramesRow.holds Tryd.pinned (OpenSpec.ofChange fnFramesSpec)

/-- ITS FALSE NEIGHBOUR: 'it returns false'. Refute it at one input. -/
def fnFramesWrong : ChangeSpec := { name := "fnFrames", vars := ["loop.example/g00968/impl.errFrameShort", "loop.example/g00968/impl.errFrameMagic", "loop.example/g00968/impl.errFrameVersion", "loop.example/g00968/impl.errFrameLength", "loop.example/g00968/impl.errFrameSum"], fn := fun _ => fun
  | [d, g1, g2, g3, g4, g5] => { results := [.lit (.bool false)], args := [d], vars := [g1, g2, g3, g4, g5] }
  | _ => none }
def FnFramesWrongFalsely : Prop := fnFramesRow.holds Tryd.pinned (OpenSpec.ofChange fnFramesWrong)

/-- 'laws.FnFrameBursts': WHATEVER THE INPUT: true; the input reads as it did. -/
def fnFrameBurstsSpec : ChangeSpec := { name := "fnFrameBursts", vars := ["loop.example/g00968/impl.errFrameShort", "loop.example/g00968/impl.errFrameMagic", "loop.example/g00968/impl.errFrameVersion", "loop.example/g00968/impl.errFrameLength", "loop.example/g00968/impl.errFrameSum"], fn := fun _ => fun
  | [d, g1, g2, g3, g4, g5] => { results := [.lit (.bool true)], args := [d], vars := [g1, g2, g3, g4, g5] }
  | _ => none }
def fnFrameBurstsRow : OpenClaim := { program := "ytljahpngngmecaadoor", sum := "586617270cb8479e3c98ea40676d935222aff5582f5dc92acea1605895cec9fa", func := "loop.example/g00968/laws.FnFrameBursts", spec := "fnFrameBursts", inPlace := ["internal/reflectlite.TypeOf"], unfollowed := true, recurses := true, named := ["loop.example/g00968/impl.errFrameShort", "loop.example/g00968/impl.errFrameMagic", "loop.example/g00968/impl.errFrameVersion", "loop.example/g00968/impl.errFrameLength", "loop.example/g00968/impl.errFrameSum"], ifaces := true, apart := false, laid := [("loop.example/g00968/impl.errFrameShort", laid_loop_example_g00968_impl_errFrameShort), ("loop.example/g00968/impl.errFrameMagic", laid_loop_example_g00968_impl_errFrameMagic), ("loop.example/g00968/impl.errFrameVersion", laid_loop_example_g00968_impl_errFrameVersion), ("loop.example/g00968/impl.errFrameLength", laid_loop_example_g00968_impl_errFrameLength), ("loop.example/g00968/impl.errFrameSum", laid_loop_example_g00968_impl_errFrameSum)] }
def FnFrameBurstsSaid : Prop := fnFrameBurstsRow.holds Tryd.pinned (OpenSpec.ofChange fnFrameBurstsSpec)

/-- ITS FALSE NEIGHBOUR: 'it returns false'. Refute it at one input. -/
def fnFrameBurstsWrong : ChangeSpec := { name := "fnFrameBursts", vars := ["loop.example/g00968/impl.errFrameShort", "loop.example/g00968/impl.errFrameMagic", "loop.example/g00968/impl.errFrameVersion", "loop.example/g00968/impl.errFrameLength", "loop.example/g00968/impl.errFrameSum"], fn := fun _ => fun
  | [d, g1, g2, g3, g4, g5] => { results := [.lit (.bool false)], args := [d], vars := [g1, g2, g3, g4, g5] }
  | _ => none }
def FnFrameBurstsWrongFalsely : Prop := fnFrameBurstsRow.holds Tryd.pinned (OpenSpec.ofChange fnFrameBurstsWrong)

/-- 'laws.FnExactReadFrame': WHATEVER THE INPUT: true; the input reads as it did. -/
def fnExactReadFrameSpec : ChangeSpec := { name := "fnExactReadFrame", vars := ["loop.example/g00968/impl.errFrameShort", "loop.example/g00968/impl.errFrameMagic", "loop.example/g00968/impl.errFrameVersion", "loop.example/g00968/impl.errFrameLength", "loop.example/g00968/impl.errFrameSum"], fn := fun _ => fun
  | [d, g1, g2, g3, g4, g5] => { results := [.lit (.bool true)], args := [d], vars := [g1, g2, g3, g4, g5] }
  | _ => none }
def fnExactReadFrameRow : OpenClaim := { program := "ytljahpngngmecaadoor", sum := "586617270cb8479e3c98ea40676d935222aff5582f5dc92acea1605895cec9fa", func := "loop.example/g00968/laws.FnExactReadFrame", spec := "fnExactReadFrame", inPlace := ["internal/reflectlite.TypeOf"], unfollowed := true, recurses := true, named := ["loop.example/g00968/impl.errFrameShort", "loop.example/g00968/impl.errFrameMagic", "loop.example/g00968/impl.errFrameVersion", "loop.example/g00968/impl.errFrameLength", "loop.example/g00968/impl.errFrameSum"], ifaces := true, apart := false, laid := [("loop.example/g00968/impl.errFrameShort", laid_loop_example_g00968_impl_errFrameShort), ("loop.example/g00968/impl.errFrameMagic", laid_loop_example_g00968_impl_errFrameMagic), ("loop.example/g00968/impl.errFrameVersion", laid_loop_example_g00968_impl_errFrameVersion), ("loop.example/g00968/impl.errFrameLength", laid_loop_example_g00968_impl_errFrameLength), ("loop.example/g00968/impl.errFrameSum", laid_loop_example_g00968_impl_errFrameSum)] }
def FnExactReadFrameSaid : Prop := fnExactReadFrameRow.holds Tryd.pinned (OpenSpec.ofChange fnExactReadFrameSpec)

/-- ITS FALSE NEIGHBOUR: 'it returns false'. Refute it at one input. -/
def fnExactReadFrameWrong : ChangeSpec := { name := "fnExactReadFrame", vars := ["loop.example/g00968/impl.errFrameShort", "loop.example/g00968/impl.errFrameMagic", "loop.example/g00968/impl.errFrameVersion", "loop.example/g00968/impl.errFrameLength", "loop.example/g00968/impl.errFrameSum"], fn := fun _ => fun
  | [d, g1, g2, g3, g4, g5] => { results := [.lit (.bool false)], args := [d], vars := [g1, g2, g3, g4, g5] }
  | _ => none }
def FnExactReadFrameWrongFalsely : Prop := fnExactReadFrameRow.holds Tryd.pinned (OpenSpec.ofChange fnExactReadFrameWrong)

/-- 'laws.FnExactVersionIn': WHATEVER THE INPUT: true; the input reads as it did. -/
def fnExactVersionInSpec : ChangeSpec := { name := "fnExactVersionIn", vars := ["loop.example/g00968/impl.errFrameShort", "loop.example/g00968/impl.errFrameMagic", "loop.example/g00968/impl.errFrameVersion", "loop.example/g00968/impl.errFrameLength", "loop.example/g00968/impl.errFrameSum"], fn := fun _ => fun
  | [d, g1, g2, g3, g4, g5] => { results := [.lit (.bool true)], args := [d], vars := [g1, g2, g3, g4, g5] }
  | _ => none }
def fnExactVersionInRow : OpenClaim := { program := "ytljahpngngmecaadoor", sum := "586617270cb8479e3c98ea40676d935222aff5582f5dc92acea1605895cec9fa", func := "loop.example/g00968/laws.FnExactVersionIn", spec := "fnExactVersionIn", inPlace := ["internal/reflectlite.TypeOf"], unfollowed := true, recurses := true, named := ["loop.example/g00968/impl.errFrameShort", "loop.example/g00968/impl.errFrameMagic", "loop.example/g00968/impl.errFrameVersion", "loop.example/g00968/impl.errFrameLength", "loop.example/g00968/impl.errFrameSum"], ifaces := true, apart := false, laid := [("loop.example/g00968/impl.errFrameShort", laid_loop_example_g00968_impl_errFrameShort), ("loop.example/g00968/impl.errFrameMagic", laid_loop_example_g00968_impl_errFrameMagic), ("loop.example/g00968/impl.errFrameVersion", laid_loop_example_g00968_impl_errFrameVersion), ("loop.example/g00968/impl.errFrameLength", laid_loop_example_g00968_impl_errFrameLength), ("loop.example/g00968/impl.errFrameSum", laid_loop_example_g00968_impl_errFrameSum)] }
def FnExactVersionInSaid : Prop := fnExactVersionInRow.holds Tryd.pinned (OpenSpec.ofChange fnExactVersionInSpec)

/-- ITS FALSE NEIGHBOUR: 'it returns false'. Refute it at one input. -/
def fnExactVersionInWrong : ChangeSpec := { name := "fnExactVersionIn", vars := ["loop.example/g00968/impl.errFrameShort", "loop.example/g00968/impl.errFrameMagic", "loop.example/g00968/impl.errFrameVersion", "loop.example/g00968/impl.errFrameLength", "loop.example/g00968/impl.errFrameSum"], fn := fun _ => fun
  | [d, g1, g2, g3, g4, g5] => { results := [.lit (.bool false)], args := [d], vars := [g1, g2, g3, g4, g5] }
  | _ => none }
def FnExactVersionInWrongFalsely : Prop := fnExactVersionInRow.holds Tryd.pinned (OpenSpec.ofChange fnExactVersionInWrong)

/-- 'laws.FnExactReframed': WHATEVER THE INPUT: true; the input reads as it did. -/
def fnExactReframedSpec : ChangeSpec := { name := "fnExactReframed", vars := ["loop.example/g00968/impl.errFrameShort", "loop.example/g00968/impl.errFrameMagic", "loop.example/g00968/impl.errFrameVersion", "loop.example/g00968/impl.errFrameLength", "loop.example/g00968/impl.errFrameSum"], fn := fun _ => fun
  | [d1, d2, g1, g2, g3, g4, g5] => { results := [.lit (.bool true)], args := [d1, d2], vars := [g1, g2, g3, g4, g5] }
  | _ => none }
def fnExactReframedRow : OpenClaim := { program := "ytljahpngngmecaadoor", sum := "586617270cb8479e3c98ea40676d935222aff5582f5dc92acea1605895cec9fa", func := "loop.example/g00968/laws.FnExactReframed", spec := "fnExactReframed", inPlace := ["internal/reflectlite.TypeOf"], unfollowed := true, recurses := true, named := ["loop.example/g00968/impl.errFrameShort", "loop.example/g00968/impl.errFrameMagic", "loop.example/g00968/impl.errFrameVersion", "loop.example/g00968/impl.errFrameLength", "loop.example/g00968/impl.errFrameSum"], ifaces := true, apart := false, laid := [("loop.example/g00968/impl.errFrameShort", laid_loop_example_g00968_impl_errFrameShort), ("loop.example/g00968/impl.errFrameMagic", laid_loop_example_g00968_impl_errFrameMagic), ("loop.example/g00968/impl.errFrameVersion", laid_loop_example_g00968_impl_errFrameVersion), ("loop.example/g00968/impl.errFrameLength", laid_loop_example_g00968_impl_errFrameLength), ("loop.example/g00968/impl.errFrameSum", laid_loop_example_g00968_impl_errFrameSum)] }
def FnExactReframedSaid : Prop := fnExactReframedRow.holds Tryd.pinned (OpenSpec.ofChange fnExactReframedSpec)

/-- ITS FALSE NEIGHBOUR: 'it returns false'. Refute it at one input. -/
def fnExactReframedWrong : ChangeSpec := { name := "fnExactReframed", vars := ["loop.example/g00968/impl.errFrameShort", "loop.example/g00968/impl.errFrameMagic", "loop.example/g00968/impl.errFrameVersion", "loop.example/g00968/impl.errFrameLength", "loop.example/g00968/impl.errFrameSum"], fn := fun _ => fun
  | [d1, d2, g1, g2, g3, g4, g5] => { results := [.lit (.bool false)], args := [d1, d2], vars := [g1, g2, g3, g4, g5] }
  | _ => none }
def FnExactReframedWrongFalsely : Prop := fnExactReframedRow.holds Tryd.pinned (OpenSpec.ofChange fnExactReframedWrong)

/- THE SECOND FORM. 'bulk': how many values and letters a reading holds, each counted each time it is reached (what is shared counts as often as it is met; a slice's spare places count too). A statement '..UptoSaid' is the law's where the arguments, and the package variables that the reading takes, are together of bulk at most 1048576: NARROWER than '..Said'. Prove '..Said' where nothing that the law and all that it calls make is longer than what came in: it says more and counts as full. Else prove '..UptoSaid'. A law counts once. -/
mutual
def uptoBulk {H : Type} : DataW H → Nat
  | .lit (.string bytes) => bytes.length + 1
  | .lit _ => 1
  | .nil => 1
  | .ptr d => uptoBulk d + 1
  | .slice elems spare => uptoBulkAll elems + uptoBulkAll spare + 1
  | .agg parts => uptoBulkAll parts + 1
  | .iface _ d => uptoBulk d + 1
  | .map entries => uptoBulkEntries entries + 1
  | .held _ => 1
def uptoBulkAll {H : Type} : List (DataW H) → Nat
  | [] => 0
  | d :: r => uptoBulk d + uptoBulkAll r
def uptoBulkEntries {H : Type} : List (Lit × DataW H) → Nat
  | [] => 0
  | x :: r => uptoBulkEntry x + uptoBulkEntries r
def uptoBulkEntry {H : Type} : Lit × DataW H → Nat
  | (.string bytes, d) => bytes.length + uptoBulk d + 1
  | (_, d) => uptoBulk d + 1
 end
def uptoSmall : (H : Type) → List (DataW H) → Bool := fun _ ds => decide (uptoBulkAll ds ≤ 1048576)
def OpenSpec.upto (s : _root_.Go.ChangeSpec) : _root_.Go.OpenSpec := { _root_.Go.OpenSpec.ofChange s with cond := some uptoSmall }

/-- 'laws.FnFrames', WHERE WHAT IT READS IS OF BULK AT MOST 1048576: true; the input reads as it did. -/
def fnFramesUptoRow : OpenClaim := { program := "ytljahpngngmecaadoor", sum := "586617270cb8479e3c98ea40676d935222aff5582f5dc92acea1605895cec9fa", func := "loop.example/g00968/laws.FnFrames", spec := "fnFrames", inPlace := ["internal/reflectlite.TypeOf"], unfollowed := true, recurses := true, named := ["loop.example/g00968/impl.errFrameShort", "loop.example/g00968/impl.errFrameMagic", "loop.example/g00968/impl.errFrameVersion", "loop.example/g00968/impl.errFrameLength", "loop.example/g00968/impl.errFrameSum"], ifaces := true, apart := false, laid := [("loop.example/g00968/impl.errFrameShort", laid_loop_example_g00968_impl_errFrameShort), ("loop.example/g00968/impl.errFrameMagic", laid_loop_example_g00968_impl_errFrameMagic), ("loop.example/g00968/impl.errFrameVersion", laid_loop_example_g00968_impl_errFrameVersion), ("loop.example/g00968/impl.errFrameLength", laid_loop_example_g00968_impl_errFrameLength), ("loop.example/g00968/impl.errFrameSum", laid_loop_example_g00968_impl_errFrameSum)], narrowed := true }
def FnFramesUptoSaid : Prop := fnFramesUptoRow.holds Tryd.pinned (OpenSpec.upto fnFramesSpec)

/-- 'laws.FnFrameBursts', WHERE WHAT IT READS IS OF BULK AT MOST 1048576: true; the input reads as it did. -/
def fnFrameBurstsUptoRow : OpenClaim := { program := "ytljahpngngmecaadoor", sum := "586617270cb8479e3c98ea40676d935222aff5582f5dc92acea1605895cec9fa", func := "loop.example/g00968/laws.FnFrameBursts", spec := "fnFrameBursts", inPlace := ["internal/reflectlite.TypeOf"], unfollowed := true, recurses := true, named := ["loop.example/g00968/impl.errFrameShort", "loop.example/g00968/impl.errFrameMagic", "loop.example/g00968/impl.errFrameVersion", "loop.example/g00968/impl.errFrameLength", "loop.example/g00968/impl.errFrameSum"], ifaces := true, apart := false, laid := [("loop.example/g00968/impl.errFrameShort", laid_loop_example_g00968_impl_errFrameShort), ("loop.example/g00968/impl.errFrameMagic", laid_loop_example_g00968_impl_errFrameMagic), ("loop.example/g00968/impl.errFrameVersion", laid_loop_example_g00968_impl_errFrameVersion), ("loop.example/g00968/impl.errFrameLength", laid_loop_example_g00968_impl_errFrameLength), ("loop.example/g00968/impl.errFrameSum", laid_loop_example_g00968_impl_errFrameSum)], narrowed := true }
def FnFrameBurstsUptoSaid : Prop := fnFrameBurstsUptoRow.holds Tryd.pinned (OpenSpec.upto fnFrameBurstsSpec)

/-- 'laws.FnExactReadFrame', WHERE WHAT IT READS IS OF BULK AT MOST 1048576: true; the input reads as it did. -/
def fnExactReadFrameUptoRow : OpenClaim := { program := "ytljahpngngmecaadoor", sum := "586617270cb8479e3c98ea40676d935222aff5582f5dc92acea1605895cec9fa", func := "loop.example/g00968/laws.FnExactReadFrame", spec := "fnExactReadFrame", inPlace := ["internal/reflectlite.TypeOf"], unfollowed := true, recurses := true, named := ["loop.example/g00968/impl.errFrameShort", "loop.example/g00968/impl.errFrameMagic", "loop.example/g00968/impl.errFrameVersion", "loop.example/g00968/impl.errFrameLength", "loop.example/g00968/impl.errFrameSum"], ifaces := true, apart := false, laid := [("loop.example/g00968/impl.errFrameShort", laid_loop_example_g00968_impl_errFrameShort), ("loop.example/g00968/impl.errFrameMagic", laid_loop_example_g00968_impl_errFrameMagic), ("loop.example/g00968/impl.errFrameVersion", laid_loop_example_g00968_impl_errFrameVersion), ("loop.example/g00968/impl.errFrameLength", laid_loop_example_g00968_impl_errFrameLength), ("loop.example/g00968/impl.errFrameSum", laid_loop_example_g00968_impl_errFrameSum)], narrowed := true }
def FnExactReadFrameUptoSaid : Prop := fnExactReadFrameUptoRow.holds Tryd.pinned (OpenSpec.upto fnExactReadFrameSpec)

/-- 'laws.FnExactVersionIn', WHERE WHAT IT READS IS OF BULK AT MOST 1048576: true; the input reads as it did. -/
def fnExactVersionInUptoRow : OpenClaim := { program := "ytljahpngngmecaadoor", sum := "586617270cb8479e3c98ea40676d935222aff5582f5dc92acea1605895cec9fa", func := "loop.example/g00968/laws.FnExactVersionIn", spec := "fnExactVersionIn", inPlace := ["internal/reflectlite.TypeOf"], unfollowed := true, recurses := true, named := ["loop.example/g00968/impl.errFrameShort", "loop.example/g00968/impl.errFrameMagic", "loop.example/g00968/impl.errFrameVersion", "loop.example/g00968/impl.errFrameLength", "loop.example/g00968/impl.errFrameSum"], ifaces := true, apart := false, laid := [("loop.example/g00968/impl.errFrameShort", laid_loop_example_g00968_impl_errFrameShort), ("loop.example/g00968/impl.errFrameMagic", laid_loop_example_g00968_impl_errFrameMagic), ("loop.example/g00968/impl.errFrameVersion", laid_loop_example_g00968_impl_errFrameVersion), ("loop.example/g00968/impl.errFrameLength", laid_loop_example_g00968_impl_errFrameLength), ("loop.example/g00968/impl.errFrameSum", laid_loop_example_g00968_impl_errFrameSum)], narrowed := true }
def FnExactVersionInUptoSaid : Prop := fnExactVersionInUptoRow.holds Tryd.pinned (OpenSpec.upto fnExactVersionInSpec)

/-- 'laws.FnExactReframed', WHERE WHAT IT READS IS OF BULK AT MOST 1048576: true; the input reads as it did. -/
def fnExactReframedUptoRow : OpenClaim := { program := "ytljahpngngmecaadoor", sum := "586617270cb8479e3c98ea40676d935222aff5582f5dc92acea1605895cec9fa", func := "loop.example/g00968/laws.FnExactReframed", spec := "fnExactReframed", inPlace := ["internal/reflectlite.TypeOf"], unfollowed := true, recurses := true, named := ["loop.example/g00968/impl.errFrameShort", "loop.example/g00968/impl.errFrameMagic", "loop.example/g00968/impl.errFrameVersion", "loop.example/g00968/impl.errFrameLength", "loop.example/g00968/impl.errFrameSum"], ifaces := true, apart := false, laid := [("loop.example/g00968/impl.errFrameShort", laid_loop_example_g00968_impl_errFrameShort), ("loop.example/g00968/impl.errFrameMagic", laid_loop_example_g00968_impl_errFrameMagic), ("loop.example/g00968/impl.errFrameVersion", laid_loop_example_g00968_impl_errFrameVersion), ("loop.example/g00968/impl.errFrameLength", laid_loop_example_g00968_impl_errFrameLength), ("loop.example/g00968/impl.errFrameSum", laid_loop_example_g00968_impl_errFrameSum)], narrowed := true }
def FnExactReframedUptoSaid : Prop := fnExactReframedUptoRow.holds Tryd.pinned (OpenSpec.upto fnExactReframedSpec)

end Rows
end Go.Proofs.YtljahpngngmecaaDoor
