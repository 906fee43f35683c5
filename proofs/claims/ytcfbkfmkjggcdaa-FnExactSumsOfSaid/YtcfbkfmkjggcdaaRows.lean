/-
  No cell of these rows narrows 'for every input' (looked for: loops, veiled, ifaces, maps, wideKeys, modest, calm, conditions, laid).
  DERIVED. THE GIVEN ROWS OF THIS SEAT. 3 by the template 'for every input the law returns true; each argument reads behind the call as it read before'; 0 by the template 'total and deterministic' (their statements: YtcfbkfmkjggcdaaTotals.lean).
  GIVEN WITH THE SEED: the statements are not yours to turn. If you find one false, say at which input.
  Laid BY PROGRAM, IN A SANDBOX (cutbox-rows.mjs): the forced cells as the released guide's own fill.sh prints them over the translation 13bfe6de30b3a26d… (all of the seat's roots in one cut). By AI agents, Wed Nov 11 2026. No macro, syntax, notation, axiom, sorry.
-/
import Derived.Test.YtcfbkfmkjggcdaaChecked
import GoSem.Claim
import GoSem.ClaimJoined
import GoSem.ClaimMapViews
import Derived.JoinedTies
import Derived.KernelRfl
namespace Go.Proofs.Ytcfbkfmkjggcdaa
/- THE CELL 'sum', in the pinned program and in every row, IS THE sha256 OF THE DUMP (.gsa) THAT YtcfbkfmkjggcdaaProg.lean LOADS. Nothing in Lean hashes anything: it is a label: what it is worth is what the hold of that sum in a sandbox is worth. -/
noncomputable def Try.pinned : Pinned := { name := "ytcfbkfmkjggcdaa", sum := "13bfe6de30b3a26de80768a362706f99cc681d3474c6801a2b3068960513bb43", checked := Try.checked }
namespace Rows
def none {H : Type} : Left H := { results := [], args := [] }

/-- 'laws.FnExactSamePod': WHATEVER THE INPUT: true; the input reads as it did. -/
def fnExactSamePodSpec : ChangeSpec := { name := "fnExactSamePod", fn := fun _ => fun
  | [d1, d2] => { results := [.lit (.bool true)], args := [d1, d2] }
  | _ => none }
def fnExactSamePodRow : OpenClaim := { program := "ytcfbkfmkjggcdaa", sum := "13bfe6de30b3a26de80768a362706f99cc681d3474c6801a2b3068960513bb43", func := "loop.example/g00968/laws.FnExactSamePod", spec := "fnExactSamePod", inPlace := ["internal/bytealg.abigen_runtime_cmpstring"], unfollowed := true, recurses := true, apart := false }
def FnExactSamePodSaid : Prop := fnExactSamePodRow.holds Try.pinned (OpenSpec.ofChange fnExactSamePodSpec)

/-- ITS FALSE NEIGHBOUR: 'it returns false'. Refute it at one input. -/
def fnExactSamePodWrong : ChangeSpec := { name := "fnExactSamePod", fn := fun _ => fun
  | [d1, d2] => { results := [.lit (.bool false)], args := [d1, d2] }
  | _ => none }
def FnExactSamePodWrongFalsely : Prop := fnExactSamePodRow.holds Try.pinned (OpenSpec.ofChange fnExactSamePodWrong)

/-- 'laws.FnExactSameHost': WHATEVER THE INPUT: true; the input reads as it did. -/
def fnExactSameHostSpec : ChangeSpec := { name := "fnExactSameHost", fn := fun _ => fun
  | [d1, d2] => { results := [.lit (.bool true)], args := [d1, d2] }
  | _ => none }
def fnExactSameHostRow : OpenClaim := { program := "ytcfbkfmkjggcdaa", sum := "13bfe6de30b3a26de80768a362706f99cc681d3474c6801a2b3068960513bb43", func := "loop.example/g00968/laws.FnExactSameHost", spec := "fnExactSameHost", apart := false }
def FnExactSameHostSaid : Prop := fnExactSameHostRow.holds Try.pinned (OpenSpec.ofChange fnExactSameHostSpec)

/-- ITS FALSE NEIGHBOUR: 'it returns false'. Refute it at one input. -/
def fnExactSameHostWrong : ChangeSpec := { name := "fnExactSameHost", fn := fun _ => fun
  | [d1, d2] => { results := [.lit (.bool false)], args := [d1, d2] }
  | _ => none }
def FnExactSameHostWrongFalsely : Prop := fnExactSameHostRow.holds Try.pinned (OpenSpec.ofChange fnExactSameHostWrong)

/-- 'laws.FnExactSumsOf': WHATEVER THE INPUT: true; the input reads as it did. -/
def fnExactSumsOfSpec : ChangeSpec := { name := "fnExactSumsOf", fn := fun _ => fun
  | [d] => { results := [.lit (.bool true)], args := [d] }
  | _ => none }
def fnExactSumsOfRow : OpenClaim := { program := "ytcfbkfmkjggcdaa", sum := "13bfe6de30b3a26de80768a362706f99cc681d3474c6801a2b3068960513bb43", func := "loop.example/g00968/laws.FnExactSumsOf", spec := "fnExactSumsOf", apart := false }
def FnExactSumsOfSaid : Prop := fnExactSumsOfRow.holds Try.pinned (OpenSpec.ofChange fnExactSumsOfSpec)

/-- ITS FALSE NEIGHBOUR: 'it returns false'. Refute it at one input. -/
def fnExactSumsOfWrong : ChangeSpec := { name := "fnExactSumsOf", fn := fun _ => fun
  | [d] => { results := [.lit (.bool false)], args := [d] }
  | _ => none }
def FnExactSumsOfWrongFalsely : Prop := fnExactSumsOfRow.holds Try.pinned (OpenSpec.ofChange fnExactSumsOfWrong)

/- THE SECOND FORM. 'bulk': how many values and letters a reading holds, each counted each time it is reached (what is shared counts as often as it is met; a slice's spare places count too). A statement '..UptoSaid' is the law's where the arguments, and the package variables that the reading takes, are together of bulk at most 1048576: NARROWER than '..Said'. Prove '..Said' where nothing that the law and all that it calls make is longer than what came in: it says more and counts as full. Else prove '..UptoSaid'. A law counts once. -/
mutual
def uptoBulk {H : Type} : DataW H → Nat
  | .lit (.string bytes) => bytes.length + 1
  | .lit _ => 1
  | .nil => 1
  | .ptr d => uptoBulk d + 1
  | .slice elems spare => uptoBulkAll elems + uptoBulkAll spare + 1
  | .agg parts => uptoBulkAll parts + 1
  | .iface _ d => uptoBulk d + 1
  | .map entries => uptoBulkEntries entries + 1
  | .held _ => 1
def uptoBulkAll {H : Type} : List (DataW H) → Nat
  | [] => 0
  | d :: r => uptoBulk d + uptoBulkAll r
def uptoBulkEntries {H : Type} : List (Lit × DataW H) → Nat
  | [] => 0
  | x :: r => uptoBulkEntry x + uptoBulkEntries r
def uptoBulkEntry {H : Type} : Lit × DataW H → Nat
  | (.string bytes, d) => bytes.length + uptoBulk d + 1
  | (_, d) => uptoBulk d + 1
 end
def uptoSmall : (H : Type) → List (DataW H) → Bool := fun _ ds => decide (uptoBulkAll ds ≤ 1048576)
def OpenSpec.upto (s : _root_.Go.ChangeSpec) : _root_.Go.OpenSpec := { _root_.Go.OpenSpec.ofChange s with cond := some uptoSmall }

/-- 'laws.FnExactSamePod', WHERE WHAT IT READS IS OF BULK AT MOST 1048576: true; the input reads as it did. -/
def fnExactSamePodUptoRow : OpenClaim := { program := "ytcfbkfmkjggcdaa", sum := "13bfe6de30b3a26de80768a362706f99cc681d3474c6801a2b3068960513bb43", func := "loop.example/g00968/laws.FnExactSamePod", spec := "fnExactSamePod", inPlace := ["internal/bytealg.abigen_runtime_cmpstring"], unfollowed := true, recurses := true, apart := false, narrowed := true }
def FnExactSamePodUptoSaid : Prop := fnExactSamePodUptoRow.holds Try.pinned (OpenSpec.upto fnExactSamePodSpec)

/-- 'laws.FnExactSameHost', WHERE WHAT IT READS IS OF BULK AT MOST 1048576: true; the input reads as it did. -/
def fnExactSameHostUptoRow : OpenClaim := { program := "ytcfbkfmkjggcdaa", sum := "13bfe6de30b3a26de80768a362706f99cc681d3474c6801a2b3068960513bb43", func := "loop.example/g00968/laws.FnExactSameHost", spec := "fnExactSameHost", apart := false, narrowed := true }
def FnExactSameHostUptoSaid : Prop := fnExactSameHostUptoRow.holds Try.pinned (OpenSpec.upto fnExactSameHostSpec)

/-- 'laws.FnExactSumsOf', WHERE WHAT IT READS IS OF BULK AT MOST 1048576: true; the input reads as it did. -/
def fnExactSumsOfUptoRow : OpenClaim := { program := "ytcfbkfmkjggcdaa", sum := "13bfe6de30b3a26de80768a362706f99cc681d3474c6801a2b3068960513bb43", func := "loop.example/g00968/laws.FnExactSumsOf", spec := "fnExactSumsOf", apart := false, narrowed := true }
def FnExactSumsOfUptoSaid : Prop := fnExactSumsOfUptoRow.holds Try.pinned (OpenSpec.upto fnExactSumsOfSpec)

end Rows
end Go.Proofs.Ytcfbkfmkjggcdaa
