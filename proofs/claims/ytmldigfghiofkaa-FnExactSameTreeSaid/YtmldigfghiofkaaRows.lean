/-
  NARROWER THAN 'FOR EVERY INPUT', by the rows' own cells (each row's printed sentence says how): FnExactTreeSize: loops · FnExactTreeDepth: loops · FnExactSameTree: loops · FnExactKeyAt: loops · FnExactKidOf: loops · FnExactListTree: loops.
  DERIVED. THE GIVEN ROWS OF THIS SEAT. 8 by the template 'for every input the law returns true; each argument reads behind the call as it read before'; 0 by the template 'total and deterministic' (their statements: YtmldigfghiofkaaTotals.lean).
  GIVEN WITH THE SEED: the statements are not yours to turn. If you find one false, say at which input.
  Laid BY PROGRAM, IN A SANDBOX (cutbox-rows.mjs): the forced cells as the released guide's own fill.sh prints them over the translation d4e9a3d2718a807a… (all of the seat's roots in one cut). By AI agents, Wed Nov 11 2026. No macro, syntax, notation, axiom, sorry.
-/
import Derived.Test.YtmldigfghiofkaaChecked
import GoSem.Claim
import GoSem.ClaimJoined
import GoSem.ClaimMapViews
import Derived.JoinedTies
import Derived.KernelRfl
namespace Go.Proofs.Ytmldigfghiofkaa
/- THE CELL 'sum', in the pinned program and in every row, IS THE sha256 OF THE DUMP (.gsa) THAT YtmldigfghiofkaaProg.lean LOADS. Nothing in Lean hashes anything: it is a label: what it is worth is what the hold of that sum in a sandbox is worth. -/
noncomputable def Try.pinned : Pinned := { name := "ytmldigfghiofkaa", sum := "d4e9a3d2718a807a85a74f3574c6a180ee38b39c05bd5a450f0e5dd6551b5936", checked := Try.checked }
namespace Rows
def none {H : Type} : Left H := { results := [], args := [] }

/-- 'laws.FnExactTreeSize': WHATEVER THE INPUT: true; the input reads as it did. -/
def fnExactTreeSizeSpec : ChangeSpec := { name := "fnExactTreeSize", fn := fun _ => fun
  | [d] => { results := [.lit (.bool true)], args := [d] }
  | _ => none }
def fnExactTreeSizeRow : OpenClaim := { program := "ytmldigfghiofkaa", sum := "d4e9a3d2718a807a85a74f3574c6a180ee38b39c05bd5a450f0e5dd6551b5936", func := "loop.example/g00968/laws.FnExactTreeSize", spec := "fnExactTreeSize", unfollowed := true, recurses := true, loops := true, apart := false }
def FnExactTreeSizeSaid : Prop := fnExactTreeSizeRow.holds Try.pinned (OpenSpec.ofChange fnExactTreeSizeSpec)

/-- ITS FALSE NEIGHBOUR: 'it returns false'. Refute it at one input. -/
def fnExactTreeSizeWrong : ChangeSpec := { name := "fnExactTreeSize", fn := fun _ => fun
  | [d] => { results := [.lit (.bool false)], args := [d] }
  | _ => none }
def FnExactTreeSizeWrongFalsely : Prop := fnExactTreeSizeRow.holds Try.pinned (OpenSpec.ofChange fnExactTreeSizeWrong)

/-- 'laws.FnExactTreeDepth': WHATEVER THE INPUT: true; the input reads as it did. -/
def fnExactTreeDepthSpec : ChangeSpec := { name := "fnExactTreeDepth", fn := fun _ => fun
  | [d] => { results := [.lit (.bool true)], args := [d] }
  | _ => none }
def fnExactTreeDepthRow : OpenClaim := { program := "ytmldigfghiofkaa", sum := "d4e9a3d2718a807a85a74f3574c6a180ee38b39c05bd5a450f0e5dd6551b5936", func := "loop.example/g00968/laws.FnExactTreeDepth", spec := "fnExactTreeDepth", unfollowed := true, recurses := true, loops := true, apart := false }
def FnExactTreeDepthSaid : Prop := fnExactTreeDepthRow.holds Try.pinned (OpenSpec.ofChange fnExactTreeDepthSpec)

/-- ITS FALSE NEIGHBOUR: 'it returns false'. Refute it at one input. -/
def fnExactTreeDepthWrong : ChangeSpec := { name := "fnExactTreeDepth", fn := fun _ => fun
  | [d] => { results := [.lit (.bool false)], args := [d] }
  | _ => none }
def FnExactTreeDepthWrongFalsely : Prop := fnExactTreeDepthRow.holds Try.pinned (OpenSpec.ofChange fnExactTreeDepthWrong)

/-- 'laws.FnExactSameTree': WHATEVER THE INPUT: true; the input reads as it did. -/
def fnExactSameTreeSpec : ChangeSpec := { name := "fnExactSameTree", fn := fun _ => fun
  | [d1, d2] => { results := [.lit (.bool true)], args := [d1, d2] }
  | _ => none }
def fnExactSameTreeRow : OpenClaim := { program := "ytmldigfghiofkaa", sum := "d4e9a3d2718a807a85a74f3574c6a180ee38b39c05bd5a450f0e5dd6551b5936", func := "loop.example/g00968/laws.FnExactSameTree", spec := "fnExactSameTree", recurses := true, loops := true, apart := false }
def FnExactSameTreeSaid : Prop := fnExactSameTreeRow.holds Try.pinned (OpenSpec.ofChange fnExactSameTreeSpec)

/-- ITS FALSE NEIGHBOUR: 'it returns false'. Refute it at one input. -/
def fnExactSameTreeWrong : ChangeSpec := { name := "fnExactSameTree", fn := fun _ => fun
  | [d1, d2] => { results := [.lit (.bool false)], args := [d1, d2] }
  | _ => none }
def FnExactSameTreeWrongFalsely : Prop := fnExactSameTreeRow.holds Try.pinned (OpenSpec.ofChange fnExactSameTreeWrong)

/-- 'laws.FnExactKeyAt': WHATEVER THE INPUT: true; the input reads as it did. -/
def fnExactKeyAtSpec : ChangeSpec := { name := "fnExactKeyAt", fn := fun _ => fun
  | [d1, d2] => { results := [.lit (.bool true)], args := [d1, d2] }
  | _ => none }
def fnExactKeyAtRow : OpenClaim := { program := "ytmldigfghiofkaa", sum := "d4e9a3d2718a807a85a74f3574c6a180ee38b39c05bd5a450f0e5dd6551b5936", func := "loop.example/g00968/laws.FnExactKeyAt", spec := "fnExactKeyAt", recurses := true, loops := true, apart := false }
def FnExactKeyAtSaid : Prop := fnExactKeyAtRow.holds Try.pinned (OpenSpec.ofChange fnExactKeyAtSpec)

/-- ITS FALSE NEIGHBOUR: 'it returns false'. Refute it at one input. -/
def fnExactKeyAtWrong : ChangeSpec := { name := "fnExactKeyAt", fn := fun _ => fun
  | [d1, d2] => { results := [.lit (.bool false)], args := [d1, d2] }
  | _ => none }
def FnExactKeyAtWrongFalsely : Prop := fnExactKeyAtRow.holds Try.pinned (OpenSpec.ofChange fnExactKeyAtWrong)

/-- 'laws.FnExactKidOf': WHATEVER THE INPUT: true; the input reads as it did. -/
def fnExactKidOfSpec : ChangeSpec := { name := "fnExactKidOf", fn := fun _ => fun
  | [d1, d2] => { results := [.lit (.bool true)], args := [d1, d2] }
  | _ => none }
def fnExactKidOfRow : OpenClaim := { program := "ytmldigfghiofkaa", sum := "d4e9a3d2718a807a85a74f3574c6a180ee38b39c05bd5a450f0e5dd6551b5936", func := "loop.example/g00968/laws.FnExactKidOf", spec := "fnExactKidOf", recurses := true, loops := true, apart := false }
def FnExactKidOfSaid : Prop := fnExactKidOfRow.holds Try.pinned (OpenSpec.ofChange fnExactKidOfSpec)

/-- ITS FALSE NEIGHBOUR: 'it returns false'. Refute it at one input. -/
def fnExactKidOfWrong : ChangeSpec := { name := "fnExactKidOf", fn := fun _ => fun
  | [d1, d2] => { results := [.lit (.bool false)], args := [d1, d2] }
  | _ => none }
def FnExactKidOfWrongFalsely : Prop := fnExactKidOfRow.holds Try.pinned (OpenSpec.ofChange fnExactKidOfWrong)

/-- 'laws.FnExactTextTree': WHATEVER THE INPUT: true; the input reads as it did. -/
def fnExactTextTreeSpec : ChangeSpec := { name := "fnExactTextTree", fn := fun _ => fun
  | [d] => { results := [.lit (.bool true)], args := [d] }
  | _ => none }
def fnExactTextTreeRow : OpenClaim := { program := "ytmldigfghiofkaa", sum := "d4e9a3d2718a807a85a74f3574c6a180ee38b39c05bd5a450f0e5dd6551b5936", func := "loop.example/g00968/laws.FnExactTextTree", spec := "fnExactTextTree", recurses := true, apart := false }
def FnExactTextTreeSaid : Prop := fnExactTextTreeRow.holds Try.pinned (OpenSpec.ofChange fnExactTextTreeSpec)

/-- ITS FALSE NEIGHBOUR: 'it returns false'. Refute it at one input. -/
def fnExactTextTreeWrong : ChangeSpec := { name := "fnExactTextTree", fn := fun _ => fun
  | [d] => { results := [.lit (.bool false)], args := [d] }
  | _ => none }
def FnExactTextTreeWrongFalsely : Prop := fnExactTextTreeRow.holds Try.pinned (OpenSpec.ofChange fnExactTextTreeWrong)

/-- 'laws.FnExactIntTree': WHATEVER THE INPUT: true; the input reads as it did. -/
def fnExactIntTreeSpec : ChangeSpec := { name := "fnExactIntTree", fn := fun _ => fun
  | [d] => { results := [.lit (.bool true)], args := [d] }
  | _ => none }
def fnExactIntTreeRow : OpenClaim := { program := "ytmldigfghiofkaa", sum := "d4e9a3d2718a807a85a74f3574c6a180ee38b39c05bd5a450f0e5dd6551b5936", func := "loop.example/g00968/laws.FnExactIntTree", spec := "fnExactIntTree", recurses := true, apart := false }
def FnExactIntTreeSaid : Prop := fnExactIntTreeRow.holds Try.pinned (OpenSpec.ofChange fnExactIntTreeSpec)

/-- ITS FALSE NEIGHBOUR: 'it returns false'. Refute it at one input. -/
def fnExactIntTreeWrong : ChangeSpec := { name := "fnExactIntTree", fn := fun _ => fun
  | [d] => { results := [.lit (.bool false)], args := [d] }
  | _ => none }
def FnExactIntTreeWrongFalsely : Prop := fnExactIntTreeRow.holds Try.pinned (OpenSpec.ofChange fnExactIntTreeWrong)

/-- 'laws.FnExactListTree': WHATEVER THE INPUT: true; the input reads as it did. -/
def fnExactListTreeSpec : ChangeSpec := { name := "fnExactListTree", fn := fun _ => fun
  | [d] => { results := [.lit (.bool true)], args := [d] }
  | _ => none }
def fnExactListTreeRow : OpenClaim := { program := "ytmldigfghiofkaa", sum := "d4e9a3d2718a807a85a74f3574c6a180ee38b39c05bd5a450f0e5dd6551b5936", func := "loop.example/g00968/laws.FnExactListTree", spec := "fnExactListTree", recurses := true, loops := true, apart := false }
def FnExactListTreeSaid : Prop := fnExactListTreeRow.holds Try.pinned (OpenSpec.ofChange fnExactListTreeSpec)

/-- ITS FALSE NEIGHBOUR: 'it returns false'. Refute it at one input. -/
def fnExactListTreeWrong : ChangeSpec := { name := "fnExactListTree", fn := fun _ => fun
  | [d] => { results := [.lit (.bool false)], args := [d] }
  | _ => none }
def FnExactListTreeWrongFalsely : Prop := fnExactListTreeRow.holds Try.pinned (OpenSpec.ofChange fnExactListTreeWrong)

/- THE SECOND FORM. 'bulk': how many values and letters a reading holds, each counted each time it is reached (what is shared counts as often as it is met; a slice's spare places count too). A statement '..UptoSaid' is the law's where the arguments, and the package variables that the reading takes, are together of bulk at most 1048576: NARROWER than '..Said'. Prove '..Said' where nothing that the law and all that it calls make is longer than what came in: it says more and counts as full. Else prove '..UptoSaid'. A law counts once. -/
mutual
def uptoBulk {H : Type} : DataW H → Nat
  | .lit (.string bytes) => bytes.length + 1
  | .lit _ => 1
  | .nil => 1
  | .ptr d => uptoBulk d + 1
  | .slice elems spare => uptoBulkAll elems + uptoBulkAll spare + 1
  | .agg parts => uptoBulkAll parts + 1
  | .iface _ d => uptoBulk d + 1
  | .map entries => uptoBulkEntries entries + 1
  | .held _ => 1
def uptoBulkAll {H : Type} : List (DataW H) → Nat
  | [] => 0
  | d :: r => uptoBulk d + uptoBulkAll r
def uptoBulkEntries {H : Type} : List (Lit × DataW H) → Nat
  | [] => 0
  | x :: r => uptoBulkEntry x + uptoBulkEntries r
def uptoBulkEntry {H : Type} : Lit × DataW H → Nat
  | (.string bytes, d) => bytes.length + uptoBulk d + 1
  | (_, d) => uptoBulk d + 1
 end
def uptoSmall : (H : Type) → List (DataW H) → Bool := fun _ ds => decide (uptoBulkAll ds ≤ 1048576)
def OpenSpec.upto (s : _root_.Go.ChangeSpec) : _root_.Go.OpenSpec := { _root_.Go.OpenSpec.ofChange s with cond := some uptoSmall }

/-- 'laws.FnExactTreeSize', WHERE WHAT IT READS IS OF BULK AT MOST 1048576: true; the input reads as it did. -/
def fnExactTreeSizeUptoRow : OpenClaim := { program := "ytmldigfghiofkaa", sum := "d4e9a3d2718a807a85a74f3574c6a180ee38b39c05bd5a450f0e5dd6551b5936", func := "loop.example/g00968/laws.FnExactTreeSize", spec := "fnExactTreeSize", unfollowed := true, recurses := true, loops := true, apart := false, narrowed := true }
def FnExactTreeSizeUptoSaid : Prop := fnExactTreeSizeUptoRow.holds Try.pinned (OpenSpec.upto fnExactTreeSizeSpec)

/-- 'laws.FnExactTreeDepth', WHERE WHAT IT READS IS OF BULK AT MOST 1048576: true; the input reads as it did. -/
def fnExactTreeDepthUptoRow : OpenClaim := { program := "ytmldigfghiofkaa", sum := "d4e9a3d2718a807a85a74f3574c6a180ee38b39c05bd5a450f0e5dd6551b5936", func := "loop.example/g00968/laws.FnExactTreeDepth", spec := "fnExactTreeDepth", unfollowed := true, recurses := true, loops := true, apart := false, narrowed := true }
def FnExactTreeDepthUptoSaid : Prop := fnExactTreeDepthUptoRow.holds Try.pinned (OpenSpec.upto fnExactTreeDepthSpec)

/-- 'laws.FnExactSameTree', WHERE WHAT IT READS IS OF BULK AT MOST 1048576: true; the input reads as it did. -/
def fnExactSameTreeUptoRow : OpenClaim := { program := "ytmldigfghiofkaa", sum := "d4e9a3d2718a807a85a74f3574c6a180ee38b39c05bd5a450f0e5dd6551b5936", func := "loop.example/g00968/laws.FnExactSameTree", spec := "fnExactSameTree", recurses := true, loops := true, apart := false, narrowed := true }
def FnExactSameTreeUptoSaid : Prop := fnExactSameTreeUptoRow.holds Try.pinned (OpenSpec.upto fnExactSameTreeSpec)

/-- 'laws.FnExactKeyAt', WHERE WHAT IT READS IS OF BULK AT MOST 1048576: true; the input reads as it did. -/
def fnExactKeyAtUptoRow : OpenClaim := { program := "ytmldigfghiofkaa", sum := "d4e9a3d2718a807a85a74f3574c6a180ee38b39c05bd5a450f0e5dd6551b5936", func := "loop.example/g00968/laws.FnExactKeyAt", spec := "fnExactKeyAt", recurses := true, loops := true, apart := false, narrowed := true }
def FnExactKeyAtUptoSaid : Prop := fnExactKeyAtUptoRow.holds Try.pinned (OpenSpec.upto fnExactKeyAtSpec)

/-- 'laws.FnExactKidOf', WHERE WHAT IT READS IS OF BULK AT MOST 1048576: true; the input reads as it did. -/
def fnExactKidOfUptoRow : OpenClaim := { program := "ytmldigfghiofkaa", sum := "d4e9a3d2718a807a85a74f3574c6a180ee38b39c05bd5a450f0e5dd6551b5936", func := "loop.example/g00968/laws.FnExactKidOf", spec := "fnExactKidOf", recurses := true, loops := true, apart := false, narrowed := true }
def FnExactKidOfUptoSaid : Prop := fnExactKidOfUptoRow.holds Try.pinned (OpenSpec.upto fnExactKidOfSpec)

/-- 'laws.FnExactTextTree', WHERE WHAT IT READS IS OF BULK AT MOST 1048576: true; the input reads as it did. -/
def fnExactTextTreeUptoRow : OpenClaim := { program := "ytmldigfghiofkaa", sum := "d4e9a3d2718a807a85a74f3574c6a180ee38b39c05bd5a450f0e5dd6551b5936", func := "loop.example/g00968/laws.FnExactTextTree", spec := "fnExactTextTree", recurses := true, apart := false, narrowed := true }
def FnExactTextTreeUptoSaid : Prop := fnExactTextTreeUptoRow.holds Try.pinned (OpenSpec.upto fnExactTextTreeSpec)

/-- 'laws.FnExactIntTree', WHERE WHAT IT READS IS OF BULK AT MOST 1048576: true; the input reads as it did. -/
def fnExactIntTreeUptoRow : OpenClaim := { program := "ytmldigfghiofkaa", sum := "d4e9a3d2718a807a85a74f3574c6a180ee38b39c05bd5a450f0e5dd6551b5936", func := "loop.example/g00968/laws.FnExactIntTree", spec := "fnExactIntTree", recurses := true, apart := false, narrowed := true }
def FnExactIntTreeUptoSaid : Prop := fnExactIntTreeUptoRow.holds Try.pinned (OpenSpec.upto fnExactIntTreeSpec)

/-- 'laws.FnExactListTree', WHERE WHAT IT READS IS OF BULK AT MOST 1048576: true; the input reads as it did. -/
def fnExactListTreeUptoRow : OpenClaim := { program := "ytmldigfghiofkaa", sum := "d4e9a3d2718a807a85a74f3574c6a180ee38b39c05bd5a450f0e5dd6551b5936", func := "loop.example/g00968/laws.FnExactListTree", spec := "fnExactListTree", recurses := true, loops := true, apart := false, narrowed := true }
def FnExactListTreeUptoSaid : Prop := fnExactListTreeUptoRow.holds Try.pinned (OpenSpec.upto fnExactListTreeSpec)

end Rows
end Go.Proofs.Ytmldigfghiofkaa
