/-
  No cell of these rows narrows 'for every input' (looked for: loops, veiled, ifaces, maps, wideKeys, modest, calm, conditions, laid).
  DERIVED. THE GIVEN ROWS OF THIS SEAT. 7 by the template 'for every input the law returns true; each argument reads behind the call as it read before'; 0 by the template 'total and deterministic' (their statements: YtmknkpoihnpnkaaTotals.lean).
  GIVEN WITH THE SEED: the statements are not yours to turn. If you find one false, say at which input.
  Laid BY PROGRAM, IN A SANDBOX (cutbox-rows.mjs): the forced cells as the released guide's own fill.sh prints them over the translation b7b37bc5d23950b6… (all of the seat's roots in one cut). By AI agents, Wed Nov 11 2026. No macro, syntax, notation, axiom, sorry.
-/
import Derived.Test.YtmknkpoihnpnkaaChecked
import GoSem.Claim
import GoSem.ClaimJoined
import GoSem.ClaimMapViews
import Derived.JoinedTies
import Derived.KernelRfl
namespace Go.Proofs.Ytmknkpoihnpnkaa
/- THE CELL 'sum', in the pinned program and in every row, IS THE sha256 OF THE DUMP (.gsa) THAT YtmknkpoihnpnkaaProg.lean LOADS. Nothing in Lean hashes anything: it is a label: what it is worth is what the hold of that sum in a sandbox is worth. -/
noncomputable def Try.pinned : Pinned := { name := "ytmknkpoihnpnkaa", sum := "b7b37bc5d23950b61ea72e7f68b3cffea962a26b923fb7078dd12be084373bde", checked := Try.checked }
namespace Rows
def none {H : Type} : Left H := { results := [], args := [] }

/-- 'laws.FnChecked': WHATEVER THE INPUT: true; the input reads as it did. -/
def fnCheckedSpec : ChangeSpec := { name := "fnChecked", fn := fun _ => fun
  | [d] => { results := [.lit (.bool true)], args := [d] }
  | _ => none }
def fnCheckedRow : OpenClaim := { program := "ytmknkpoihnpnkaa", sum := "b7b37bc5d23950b61ea72e7f68b3cffea962a26b923fb7078dd12be084373bde", func := "loop.example/g00968/laws.FnChecked", spec := "fnChecked", apart := false }
def FnCheckedSaid : Prop := fnCheckedRow.holds Try.pinned (OpenSpec.ofChange fnCheckedSpec)

/-- ITS FALSE NEIGHBOUR: 'it returns false'. Refute it at one input. -/
def fnCheckedWrong : ChangeSpec := { name := "fnChecked", fn := fun _ => fun
  | [d] => { results := [.lit (.bool false)], args := [d] }
  | _ => none }
def FnCheckedWrongFalsely : Prop := fnCheckedRow.holds Try.pinned (OpenSpec.ofChange fnCheckedWrong)

/-- 'laws.FnExactAddInt': WHATEVER THE INPUT: true; the input reads as it did. -/
def fnExactAddIntSpec : ChangeSpec := { name := "fnExactAddInt", fn := fun _ => fun
  | [d1, d2] => { results := [.lit (.bool true)], args := [d1, d2] }
  | _ => none }
def fnExactAddIntRow : OpenClaim := { program := "ytmknkpoihnpnkaa", sum := "b7b37bc5d23950b61ea72e7f68b3cffea962a26b923fb7078dd12be084373bde", func := "loop.example/g00968/laws.FnExactAddInt", spec := "fnExactAddInt", apart := false }
def FnExactAddIntSaid : Prop := fnExactAddIntRow.holds Try.pinned (OpenSpec.ofChange fnExactAddIntSpec)

/-- ITS FALSE NEIGHBOUR: 'it returns false'. Refute it at one input. -/
def fnExactAddIntWrong : ChangeSpec := { name := "fnExactAddInt", fn := fun _ => fun
  | [d1, d2] => { results := [.lit (.bool false)], args := [d1, d2] }
  | _ => none }
def FnExactAddIntWrongFalsely : Prop := fnExactAddIntRow.holds Try.pinned (OpenSpec.ofChange fnExactAddIntWrong)

/-- 'laws.FnExactSubInt': WHATEVER THE INPUT: true; the input reads as it did. -/
def fnExactSubIntSpec : ChangeSpec := { name := "fnExactSubInt", fn := fun _ => fun
  | [d1, d2] => { results := [.lit (.bool true)], args := [d1, d2] }
  | _ => none }
def fnExactSubIntRow : OpenClaim := { program := "ytmknkpoihnpnkaa", sum := "b7b37bc5d23950b61ea72e7f68b3cffea962a26b923fb7078dd12be084373bde", func := "loop.example/g00968/laws.FnExactSubInt", spec := "fnExactSubInt", apart := false }
def FnExactSubIntSaid : Prop := fnExactSubIntRow.holds Try.pinned (OpenSpec.ofChange fnExactSubIntSpec)

/-- ITS FALSE NEIGHBOUR: 'it returns false'. Refute it at one input. -/
def fnExactSubIntWrong : ChangeSpec := { name := "fnExactSubInt", fn := fun _ => fun
  | [d1, d2] => { results := [.lit (.bool false)], args := [d1, d2] }
  | _ => none }
def FnExactSubIntWrongFalsely : Prop := fnExactSubIntRow.holds Try.pinned (OpenSpec.ofChange fnExactSubIntWrong)

/-- 'laws.FnExactMulInt': WHATEVER THE INPUT: true; the input reads as it did. -/
def fnExactMulIntSpec : ChangeSpec := { name := "fnExactMulInt", fn := fun _ => fun
  | [d1, d2] => { results := [.lit (.bool true)], args := [d1, d2] }
  | _ => none }
def fnExactMulIntRow : OpenClaim := { program := "ytmknkpoihnpnkaa", sum := "b7b37bc5d23950b61ea72e7f68b3cffea962a26b923fb7078dd12be084373bde", func := "loop.example/g00968/laws.FnExactMulInt", spec := "fnExactMulInt", apart := false }
def FnExactMulIntSaid : Prop := fnExactMulIntRow.holds Try.pinned (OpenSpec.ofChange fnExactMulIntSpec)

/-- ITS FALSE NEIGHBOUR: 'it returns false'. Refute it at one input. -/
def fnExactMulIntWrong : ChangeSpec := { name := "fnExactMulInt", fn := fun _ => fun
  | [d1, d2] => { results := [.lit (.bool false)], args := [d1, d2] }
  | _ => none }
def FnExactMulIntWrongFalsely : Prop := fnExactMulIntRow.holds Try.pinned (OpenSpec.ofChange fnExactMulIntWrong)

/-- 'laws.FnExactCompareInt': WHATEVER THE INPUT: true; the input reads as it did. -/
def fnExactCompareIntSpec : ChangeSpec := { name := "fnExactCompareInt", fn := fun _ => fun
  | [d1, d2] => { results := [.lit (.bool true)], args := [d1, d2] }
  | _ => none }
def fnExactCompareIntRow : OpenClaim := { program := "ytmknkpoihnpnkaa", sum := "b7b37bc5d23950b61ea72e7f68b3cffea962a26b923fb7078dd12be084373bde", func := "loop.example/g00968/laws.FnExactCompareInt", spec := "fnExactCompareInt", apart := false }
def FnExactCompareIntSaid : Prop := fnExactCompareIntRow.holds Try.pinned (OpenSpec.ofChange fnExactCompareIntSpec)

/-- ITS FALSE NEIGHBOUR: 'it returns false'. Refute it at one input. -/
def fnExactCompareIntWrong : ChangeSpec := { name := "fnExactCompareInt", fn := fun _ => fun
  | [d1, d2] => { results := [.lit (.bool false)], args := [d1, d2] }
  | _ => none }
def FnExactCompareIntWrongFalsely : Prop := fnExactCompareIntRow.holds Try.pinned (OpenSpec.ofChange fnExactCompareIntWrong)

/-- 'laws.FnExactPowInt': WHATEVER THE INPUT: true; the input reads as it did. -/
def fnExactPowIntSpec : ChangeSpec := { name := "fnExactPowInt", fn := fun _ => fun
  | [d1, d2] => { results := [.lit (.bool true)], args := [d1, d2] }
  | _ => none }
def fnExactPowIntRow : OpenClaim := { program := "ytmknkpoihnpnkaa", sum := "b7b37bc5d23950b61ea72e7f68b3cffea962a26b923fb7078dd12be084373bde", func := "loop.example/g00968/laws.FnExactPowInt", spec := "fnExactPowInt", apart := false }
def FnExactPowIntSaid : Prop := fnExactPowIntRow.holds Try.pinned (OpenSpec.ofChange fnExactPowIntSpec)

/-- ITS FALSE NEIGHBOUR: 'it returns false'. Refute it at one input. -/
def fnExactPowIntWrong : ChangeSpec := { name := "fnExactPowInt", fn := fun _ => fun
  | [d1, d2] => { results := [.lit (.bool false)], args := [d1, d2] }
  | _ => none }
def FnExactPowIntWrongFalsely : Prop := fnExactPowIntRow.holds Try.pinned (OpenSpec.ofChange fnExactPowIntWrong)

/-- 'laws.FnExactSumInts': WHATEVER THE INPUT: true; the input reads as it did. -/
def fnExactSumIntsSpec : ChangeSpec := { name := "fnExactSumInts", fn := fun _ => fun
  | [d] => { results := [.lit (.bool true)], args := [d] }
  | _ => none }
def fnExactSumIntsRow : OpenClaim := { program := "ytmknkpoihnpnkaa", sum := "b7b37bc5d23950b61ea72e7f68b3cffea962a26b923fb7078dd12be084373bde", func := "loop.example/g00968/laws.FnExactSumInts", spec := "fnExactSumInts", apart := false }
def FnExactSumIntsSaid : Prop := fnExactSumIntsRow.holds Try.pinned (OpenSpec.ofChange fnExactSumIntsSpec)

/-- ITS FALSE NEIGHBOUR: 'it returns false'. Refute it at one input. -/
def fnExactSumIntsWrong : ChangeSpec := { name := "fnExactSumInts", fn := fun _ => fun
  | [d] => { results := [.lit (.bool false)], args := [d] }
  | _ => none }
def FnExactSumIntsWrongFalsely : Prop := fnExactSumIntsRow.holds Try.pinned (OpenSpec.ofChange fnExactSumIntsWrong)

/- THE SECOND FORM. 'bulk': how many values and letters a reading holds, each counted each time it is reached (what is shared counts as often as it is met; a slice's spare places count too). A statement '..UptoSaid' is the law's where the arguments, and the package variables that the reading takes, are together of bulk at most 1048576: NARROWER than '..Said'. Prove '..Said' where nothing that the law and all that it calls make is longer than what came in: it says more and counts as full. Else prove '..UptoSaid'. A law counts once. -/
mutual
def uptoBulk {H : Type} : DataW H → Nat
  | .lit (.string bytes) => bytes.length + 1
  | .lit _ => 1
  | .nil => 1
  | .ptr d => uptoBulk d + 1
  | .slice elems spare => uptoBulkAll elems + uptoBulkAll spare + 1
  | .agg parts => uptoBulkAll parts + 1
  | .iface _ d => uptoBulk d + 1
  | .map entries => uptoBulkEntries entries + 1
  | .held _ => 1
def uptoBulkAll {H : Type} : List (DataW H) → Nat
  | [] => 0
  | d :: r => uptoBulk d + uptoBulkAll r
def uptoBulkEntries {H : Type} : List (Lit × DataW H) → Nat
  | [] => 0
  | x :: r => uptoBulkEntry x + uptoBulkEntries r
def uptoBulkEntry {H : Type} : Lit × DataW H → Nat
  | (.string bytes, d) => bytes.length + uptoBulk d + 1
  | (_, d) => uptoBulk d + 1
 end
def uptoSmall : (H : Type) → List (DataW H) → Bool := fun _ ds => decide (uptoBulkAll ds ≤ 1048576)
def OpenSpec.upto (s : _root_.Go.ChangeSpec) : _root_.Go.OpenSpec := { _root_.Go.OpenSpec.ofChange s with cond := some uptoSmall }

/-- 'laws.FnChecked', WHERE WHAT IT READS IS OF BULK AT MOST 1048576: true; the input reads as it did. -/
def fnCheckedUptoRow : OpenClaim := { program := "ytmknkpoihnpnkaa", sum := "b7b37bc5d23950b61ea72e7f68b3cffea962a26b923fb7078dd12be084373bde", func := "loop.example/g00968/laws.FnChecked", spec := "fnChecked", apart := false, narrowed := true }
def FnCheckedUptoSaid : Prop := fnCheckedUptoRow.holds Try.pinned (OpenSpec.upto fnCheckedSpec)

/-- 'laws.FnExactAddInt', WHERE WHAT IT READS IS OF BULK AT MOST 1048576: true; the input reads as it did. -/
def fnExactAddIntUptoRow : OpenClaim := { program := "ytmknkpoihnpnkaa", sum := "b7b37bc5d23950b61ea72e7f68b3cffea962a26b923fb7078dd12be084373bde", func := "loop.example/g00968/laws.FnExactAddInt", spec := "fnExactAddInt", apart := false, narrowed := true }
def FnExactAddIntUptoSaid : Prop := fnExactAddIntUptoRow.holds Try.pinned (OpenSpec.upto fnExactAddIntSpec)

/-- 'laws.FnExactSubInt', WHERE WHAT IT READS IS OF BULK AT MOST 1048576: true; the input reads as it did. -/
def fnExactSubIntUptoRow : OpenClaim := { program := "ytmknkpoihnpnkaa", sum := "b7b37bc5d23950b61ea72e7f68b3cffea962a26b923fb7078dd12be084373bde", func := "loop.example/g00968/laws.FnExactSubInt", spec := "fnExactSubInt", apart := false, narrowed := true }
def FnExactSubIntUptoSaid : Prop := fnExactSubIntUptoRow.holds Try.pinned (OpenSpec.upto fnExactSubIntSpec)

/-- 'laws.FnExactMulInt', WHERE WHAT IT READS IS OF BULK AT MOST 1048576: true; the input reads as it did. -/
def fnExactMulIntUptoRow : OpenClaim := { program := "ytmknkpoihnpnkaa", sum := "b7b37bc5d23950b61ea72e7f68b3cffea962a26b923fb7078dd12be084373bde", func := "loop.example/g00968/laws.FnExactMulInt", spec := "fnExactMulInt", apart := false, narrowed := true }
def FnExactMulIntUptoSaid : Prop := fnExactMulIntUptoRow.holds Try.pinned (OpenSpec.upto fnExactMulIntSpec)

/-- 'laws.FnExactCompareInt', WHERE WHAT IT READS IS OF BULK AT MOST 1048576: true; the input reads as it did. -/
def fnExactCompareIntUptoRow : OpenClaim := { program := "ytmknkpoihnpnkaa", sum := "b7b37bc5d23950b61ea72e7f68b3cffea962a26b923fb7078dd12be084373bde", func := "loop.example/g00968/laws.FnExactCompareInt", spec := "fnExactCompareInt", apart := false, narrowed := true }
def FnExactCompareIntUptoSaid : Prop := fnExactCompareIntUptoRow.holds Try.pinned (OpenSpec.upto fnExactCompareIntSpec)

/-- 'laws.FnExactPowInt', WHERE WHAT IT READS IS OF BULK AT MOST 1048576: true; the input reads as it did. -/
def fnExactPowIntUptoRow : OpenClaim := { program := "ytmknkpoihnpnkaa", sum := "b7b37bc5d23950b61ea72e7f68b3cffea962a26b923fb7078dd12be084373bde", func := "loop.example/g00968/laws.FnExactPowInt", spec := "fnExactPowInt", apart := false, narrowed := true }
def FnExactPowIntUptoSaid : Prop := fnExactPowIntUptoRow.holds Try.pinned (OpenSpec.upto fnExactPowIntSpec)

/-- 'laws.FnExactSumInts', WHERE WHAT IT READS IS OF BULK AT MOST 1048576: true; the input reads as it did. -/
def fnExactSumIntsUptoRow : OpenClaim := { program := "ytmknkpoihnpnkaa", sum := "b7b37bc5d23950b61ea72e7f68b3cffea962a26b923fb7078dd12be084373bde", func := "loop.example/g00968/laws.FnExactSumInts", spec := "fnExactSumInts", apart := false, narrowed := true }
def FnExactSumIntsUptoSaid : Prop := fnExactSumIntsUptoRow.holds Try.pinned (OpenSpec.upto fnExactSumIntsSpec)

end Rows
end Go.Proofs.Ytmknkpoihnpnkaa
