/-
  NARROWER THAN 'FOR EVERY INPUT', by the rows' own cells (each row's printed sentence says how): FnSelects: laid · FnExactNeedOk: laid · FnExactNeedMet: laid · FnExactSelectorOk: laid · FnExactSelects: laid · FnExactNeedLine: laid.
  DERIVED. THE GIVEN ROWS OF THIS SEAT. 6 by the template 'for every input the law returns true; each argument reads behind the call as it read before'; 0 by the template 'total and deterministic' (their statements: YtjcfaepklakpkaaDoorTotals.lean).
  GIVEN WITH THE SEED: the statements are not yours to turn. If you find one false, say at which input.
  Laid BY PROGRAM, IN A SANDBOX (cutbox-rows.mjs): the forced cells as the released guide's own fill.sh prints them over the translation 6c91dc99a34101b7… (all of the seat's roots in one cut). By AI agents, Wed Nov 11 2026. No macro, syntax, notation, axiom, sorry.
-/
import Derived.Test.YtjcfaepklakpkaaDoorChecked
import GoSem.PinnedTables
import GoSem.Claim
import GoSem.ClaimJoined
import GoSem.ClaimMapViews
import Derived.JoinedTies
import Derived.KernelRfl
namespace Go.Proofs.YtjcfaepklakpkaaDoor
/- THE CELL 'sum', in the pinned program and in every row, IS THE sha256 OF THE DUMP (.gsa) THAT YtjcfaepklakpkaaDoorProg.lean LOADS. Nothing in Lean hashes anything: it is a label: what it is worth is what the hold of that sum in a sandbox is worth. -/
noncomputable def Tryd.pinned : Pinned := { name := "ytjcfaepklakpkaadoor", sum := "6c91dc99a34101b7b650fb97c24585a4f5687d1a0ba10ddc4865b519dd8ed8a8", checked := Tryd.checked }
namespace Rows
def none {H : Type} : Left H := { results := [], args := [] }

/- WHAT THE LISTED PACKAGE-LEVEL VARIABLES READ AS WHEN THE CALL BEGINS. Each datum BY PROGRAM (the guide's laid-datum.mjs) off the statement by which the dump's own 'gosem.cut.vars' lays the variable. In a bare row this is a premise. The card (YtjcfaepklakpkaaDoorCards.lean) ties it to the program's text. -/
def laid_unicode_utf8_acceptRanges {H : Type} : DataW H := .agg [.agg [.lit (.int .u8 128), .lit (.int .u8 191)], .agg [.lit (.int .u8 160), .lit (.int .u8 191)], .agg [.lit (.int .u8 128), .lit (.int .u8 159)], .agg [.lit (.int .u8 144), .lit (.int .u8 191)], .agg [.lit (.int .u8 128), .lit (.int .u8 143)], .agg [.lit (.int .u8 0), .lit (.int .u8 0)], .agg [.lit (.int .u8 0), .lit (.int .u8 0)], .agg [.lit (.int .u8 0), .lit (.int .u8 0)], .agg [.lit (.int .u8 0), .lit (.int .u8 0)], .agg [.lit (.int .u8 0), .lit (.int .u8 0)], .agg [.lit (.int .u8 0), .lit (.int .u8 0)], .agg [.lit (.int .u8 0), .lit (.int .u8 0)], .agg [.lit (.int .u8 0), .lit (.int .u8 0)], .agg [.lit (.int .u8 0), .lit (.int .u8 0)], .agg [.lit (.int .u8 0), .lit (.int .u8 0)], .agg [.lit (.int .u8 0), .lit (.int .u8 0)]]
/-- One of Go's own tables, pinned by name: the form's constant. -/
def laid_unicode_utf8_first : DataW Unit := Go.Pinned.utf8First

/-- 'laws.FnSelects': WHATEVER THE INPUT: true; the input reads as it did. -/
def fnSelectsSpec : ChangeSpec := { name := "fnSelects", fn := fun _ => fun
  | [d] => { results := [.lit (.bool true)], args := [d] }
  | _ => none }
def fnSelectsRow : OpenClaim := { program := "ytjcfaepklakpkaadoor", sum := "6c91dc99a34101b7b650fb97c24585a4f5687d1a0ba10ddc4865b519dd8ed8a8", func := "loop.example/g00968/laws.FnSelects", spec := "fnSelects", inPlace := ["internal/bytealg.IndexByteString", "internal/bytealg.IndexString", "internal/bytealg.abigen_runtime_cmpstring"], unfollowed := true, recurses := true, named := ["unicode/utf8.first", "unicode/utf8.acceptRanges", "internal/bytealg.MaxLen"], apart := false, laid := [("unicode/utf8.acceptRanges", laid_unicode_utf8_acceptRanges), ("unicode/utf8.first", laid_unicode_utf8_first)] }
def FnSelectsSaid : Prop := fnSelectsRow.holds Tryd.pinned (OpenSpec.ofChange fnSelectsSpec)

/-- ITS FALSE NEIGHBOUR: 'it returns false'. Refute it at one input. -/
def fnSelectsWrong : ChangeSpec := { name := "fnSelects", fn := fun _ => fun
  | [d] => { results := [.lit (.bool false)], args := [d] }
  | _ => none }
def FnSelectsWrongFalsely : Prop := fnSelectsRow.holds Tryd.pinned (OpenSpec.ofChange fnSelectsWrong)

/-- 'laws.FnExactNeedOk': WHATEVER THE INPUT: true; the input reads as it did. -/
def fnExactNeedOkSpec : ChangeSpec := { name := "fnExactNeedOk", fn := fun _ => fun
  | [d] => { results := [.lit (.bool true)], args := [d] }
  | _ => none }
def fnExactNeedOkRow : OpenClaim := { program := "ytjcfaepklakpkaadoor", sum := "6c91dc99a34101b7b650fb97c24585a4f5687d1a0ba10ddc4865b519dd8ed8a8", func := "loop.example/g00968/laws.FnExactNeedOk", spec := "fnExactNeedOk", inPlace := ["internal/bytealg.IndexByteString", "internal/bytealg.IndexString", "internal/bytealg.abigen_runtime_cmpstring"], unfollowed := true, recurses := true, named := ["unicode/utf8.first", "unicode/utf8.acceptRanges", "internal/bytealg.MaxLen"], apart := false, laid := [("unicode/utf8.acceptRanges", laid_unicode_utf8_acceptRanges), ("unicode/utf8.first", laid_unicode_utf8_first)] }
def FnExactNeedOkSaid : Prop := fnExactNeedOkRow.holds Tryd.pinned (OpenSpec.ofChange fnExactNeedOkSpec)

/-- ITS FALSE NEIGHBOUR: 'it returns false'. Refute it at one input. -/
def fnExactNeedOkWrong : ChangeSpec := { name := "fnExactNeedOk", fn := fun _ => fun
  | [d] => { results := [.lit (.bool false)], args := [d] }
  | _ => none }
def FnExactNeedOkWrongFalsely : Prop := fnExactNeedOkRow.holds Tryd.pinned (OpenSpec.ofChange fnExactNeedOkWrong)

/-- 'laws.FnExactNeedMet': WHATEVER THE INPUT: true; the input reads as it did. -/
def fnExactNeedMetSpec : ChangeSpec := { name := "fnExactNeedMet", fn := fun _ => fun
  | [d1, d2] => { results := [.lit (.bool true)], args := [d1, d2] }
  | _ => none }
def fnExactNeedMetRow : OpenClaim := { program := "ytjcfaepklakpkaadoor", sum := "6c91dc99a34101b7b650fb97c24585a4f5687d1a0ba10ddc4865b519dd8ed8a8", func := "loop.example/g00968/laws.FnExactNeedMet", spec := "fnExactNeedMet", inPlace := ["internal/bytealg.IndexByteString", "internal/bytealg.IndexString", "internal/bytealg.abigen_runtime_cmpstring"], unfollowed := true, recurses := true, named := ["unicode/utf8.first", "unicode/utf8.acceptRanges", "internal/bytealg.MaxLen"], apart := false, laid := [("unicode/utf8.acceptRanges", laid_unicode_utf8_acceptRanges), ("unicode/utf8.first", laid_unicode_utf8_first)] }
def FnExactNeedMetSaid : Prop := fnExactNeedMetRow.holds Tryd.pinned (OpenSpec.ofChange fnExactNeedMetSpec)

/-- ITS FALSE NEIGHBOUR: 'it returns false'. Refute it at one input. -/
def fnExactNeedMetWrong : ChangeSpec := { name := "fnExactNeedMet", fn := fun _ => fun
  | [d1, d2] => { results := [.lit (.bool false)], args := [d1, d2] }
  | _ => none }
def FnExactNeedMetWrongFalsely : Prop := fnExactNeedMetRow.holds Tryd.pinned (OpenSpec.ofChange fnExactNeedMetWrong)

/-- 'laws.FnExactSelectorOk': WHATEVER THE INPUT: true; the input reads as it did. -/
def fnExactSelectorOkSpec : ChangeSpec := { name := "fnExactSelectorOk", fn := fun _ => fun
  | [d] => { results := [.lit (.bool true)], args := [d] }
  | _ => none }
def fnExactSelectorOkRow : OpenClaim := { program := "ytjcfaepklakpkaadoor", sum := "6c91dc99a34101b7b650fb97c24585a4f5687d1a0ba10ddc4865b519dd8ed8a8", func := "loop.example/g00968/laws.FnExactSelectorOk", spec := "fnExactSelectorOk", inPlace := ["internal/bytealg.IndexByteString", "internal/bytealg.IndexString", "internal/bytealg.abigen_runtime_cmpstring"], unfollowed := true, recurses := true, named := ["unicode/utf8.first", "unicode/utf8.acceptRanges", "internal/bytealg.MaxLen"], apart := false, laid := [("unicode/utf8.acceptRanges", laid_unicode_utf8_acceptRanges), ("unicode/utf8.first", laid_unicode_utf8_first)] }
def FnExactSelectorOkSaid : Prop := fnExactSelectorOkRow.holds Tryd.pinned (OpenSpec.ofChange fnExactSelectorOkSpec)

/-- ITS FALSE NEIGHBOUR: 'it returns false'. Refute it at one input. -/
def fnExactSelectorOkWrong : ChangeSpec := { name := "fnExactSelectorOk", fn := fun _ => fun
  | [d] => { results := [.lit (.bool false)], args := [d] }
  | _ => none }
def FnExactSelectorOkWrongFalsely : Prop := fnExactSelectorOkRow.holds Tryd.pinned (OpenSpec.ofChange fnExactSelectorOkWrong)

/-- 'laws.FnExactSelects': WHATEVER THE INPUT: true; the input reads as it did. -/
def fnExactSelectsSpec : ChangeSpec := { name := "fnExactSelects", fn := fun _ => fun
  | [d1, d2] => { results := [.lit (.bool true)], args := [d1, d2] }
  | _ => none }
def fnExactSelectsRow : OpenClaim := { program := "ytjcfaepklakpkaadoor", sum := "6c91dc99a34101b7b650fb97c24585a4f5687d1a0ba10ddc4865b519dd8ed8a8", func := "loop.example/g00968/laws.FnExactSelects", spec := "fnExactSelects", inPlace := ["internal/bytealg.IndexByteString", "internal/bytealg.IndexString", "internal/bytealg.abigen_runtime_cmpstring"], unfollowed := true, recurses := true, named := ["unicode/utf8.first", "unicode/utf8.acceptRanges", "internal/bytealg.MaxLen"], apart := false, laid := [("unicode/utf8.acceptRanges", laid_unicode_utf8_acceptRanges), ("unicode/utf8.first", laid_unicode_utf8_first)] }
def FnExactSelectsSaid : Prop := fnExactSelectsRow.holds Tryd.pinned (OpenSpec.ofChange fnExactSelectsSpec)

/-- ITS FALSE NEIGHBOUR: 'it returns false'. Refute it at one input. -/
def fnExactSelectsWrong : ChangeSpec := { name := "fnExactSelects", fn := fun _ => fun
  | [d1, d2] => { results := [.lit (.bool false)], args := [d1, d2] }
  | _ => none }
def FnExactSelectsWrongFalsely : Prop := fnExactSelectsRow.holds Tryd.pinned (OpenSpec.ofChange fnExactSelectsWrong)

/-- 'laws.FnExactNeedLine': WHATEVER THE INPUT: true; the input reads as it did. -/
def fnExactNeedLineSpec : ChangeSpec := { name := "fnExactNeedLine", fn := fun _ => fun
  | [d] => { results := [.lit (.bool true)], args := [d] }
  | _ => none }
def fnExactNeedLineRow : OpenClaim := { program := "ytjcfaepklakpkaadoor", sum := "6c91dc99a34101b7b650fb97c24585a4f5687d1a0ba10ddc4865b519dd8ed8a8", func := "loop.example/g00968/laws.FnExactNeedLine", spec := "fnExactNeedLine", inPlace := ["internal/bytealg.IndexByteString", "internal/bytealg.IndexString", "internal/bytealg.abigen_runtime_cmpstring", "internal/abi.NoEscape", "internal/bytealg.MakeNoZero"], unfollowed := true, recurses := true, named := ["unicode/utf8.first", "unicode/utf8.acceptRanges", "internal/bytealg.MaxLen"], apart := false, laid := [("unicode/utf8.acceptRanges", laid_unicode_utf8_acceptRanges), ("unicode/utf8.first", laid_unicode_utf8_first)] }
def FnExactNeedLineSaid : Prop := fnExactNeedLineRow.holds Tryd.pinned (OpenSpec.ofChange fnExactNeedLineSpec)

/-- ITS FALSE NEIGHBOUR: 'it returns false'. Refute it at one input. -/
def fnExactNeedLineWrong : ChangeSpec := { name := "fnExactNeedLine", fn := fun _ => fun
  | [d] => { results := [.lit (.bool false)], args := [d] }
  | _ => none }
def FnExactNeedLineWrongFalsely : Prop := fnExactNeedLineRow.holds Tryd.pinned (OpenSpec.ofChange fnExactNeedLineWrong)

/- THE SECOND FORM. 'bulk': how many values and letters a reading holds, each counted each time it is reached (what is shared counts as often as it is met; a slice's spare places count too). A statement '..UptoSaid' is the law's where the arguments, and the package variables that the reading takes, are together of bulk at most 1048576: NARROWER than '..Said'. Prove '..Said' where nothing that the law and all that it calls make is longer than what came in: it says more and counts as full. Else prove '..UptoSaid'. A law counts once. -/
mutual
def uptoBulk {H : Type} : DataW H → Nat
  | .lit (.string bytes) => bytes.length + 1
  | .lit _ => 1
  | .nil => 1
  | .ptr d => uptoBulk d + 1
  | .slice elems spare => uptoBulkAll elems + uptoBulkAll spare + 1
  | .agg parts => uptoBulkAll parts + 1
  | .iface _ d => uptoBulk d + 1
  | .map entries => uptoBulkEntries entries + 1
  | .held _ => 1
def uptoBulkAll {H : Type} : List (DataW H) → Nat
  | [] => 0
  | d :: r => uptoBulk d + uptoBulkAll r
def uptoBulkEntries {H : Type} : List (Lit × DataW H) → Nat
  | [] => 0
  | x :: r => uptoBulkEntry x + uptoBulkEntries r
def uptoBulkEntry {H : Type} : Lit × DataW H → Nat
  | (.string bytes, d) => bytes.length + uptoBulk d + 1
  | (_, d) => uptoBulk d + 1
 end
def uptoSmall : (H : Type) → List (DataW H) → Bool := fun _ ds => decide (uptoBulkAll ds ≤ 1048576)
def OpenSpec.upto (s : _root_.Go.ChangeSpec) : _root_.Go.OpenSpec := { _root_.Go.OpenSpec.ofChange s with cond := some uptoSmall }

/-- 'laws.FnSelects', WHERE WHAT IT READS IS OF BULK AT MOST 1048576: true; the input reads as it did. -/
def fnSelectsUptoRow : OpenClaim := { program := "ytjcfaepklakpkaadoor", sum := "6c91dc99a34101b7b650fb97c24585a4f5687d1a0ba10ddc4865b519dd8ed8a8", func := "loop.example/g00968/laws.FnSelects", spec := "fnSelects", inPlace := ["internal/bytealg.IndexByteString", "internal/bytealg.IndexString", "internal/bytealg.abigen_runtime_cmpstring"], unfollowed := true, recurses := true, named := ["unicode/utf8.first", "unicode/utf8.acceptRanges", "internal/bytealg.MaxLen"], apart := false, laid := [("unicode/utf8.acceptRanges", laid_unicode_utf8_acceptRanges), ("unicode/utf8.first", laid_unicode_utf8_first)], narrowed := true }
def FnSelectsUptoSaid : Prop := fnSelectsUptoRow.holds Tryd.pinned (OpenSpec.upto fnSelectsSpec)

/-- 'laws.FnExactNeedOk', WHERE WHAT IT READS IS OF BULK AT MOST 1048576: true; the input reads as it did. -/
def fnExactNeedOkUptoRow : OpenClaim := { program := "ytjcfaepklakpkaadoor", sum := "6c91dc99a34101b7b650fb97c24585a4f5687d1a0ba10ddc4865b519dd8ed8a8", func := "loop.example/g00968/laws.FnExactNeedOk", spec := "fnExactNeedOk", inPlace := ["internal/bytealg.IndexByteString", "internal/bytealg.IndexString", "internal/bytealg.abigen_runtime_cmpstring"], unfollowed := true, recurses := true, named := ["unicode/utf8.first", "unicode/utf8.acceptRanges", "internal/bytealg.MaxLen"], apart := false, laid := [("unicode/utf8.acceptRanges", laid_unicode_utf8_acceptRanges), ("unicode/utf8.first", laid_unicode_utf8_first)], narrowed := true }
def FnExactNeedOkUptoSaid : Prop := fnExactNeedOkUptoRow.holds Tryd.pinned (OpenSpec.upto fnExactNeedOkSpec)

/-- 'laws.FnExactNeedMet', WHERE WHAT IT READS IS OF BULK AT MOST 1048576: true; the input reads as it did. -/
def fnExactNeedMetUptoRow : OpenClaim := { program := "ytjcfaepklakpkaadoor", sum := "6c91dc99a34101b7b650fb97c24585a4f5687d1a0ba10ddc4865b519dd8ed8a8", func := "loop.example/g00968/laws.FnExactNeedMet", spec := "fnExactNeedMet", inPlace := ["internal/bytealg.IndexByteString", "internal/bytealg.IndexString", "internal/bytealg.abigen_runtime_cmpstring"], unfollowed := true, recurses := true, named := ["unicode/utf8.first", "unicode/utf8.acceptRanges", "internal/bytealg.MaxLen"], apart := false, laid := [("unicode/utf8.acceptRanges", laid_unicode_utf8_acceptRanges), ("unicode/utf8.first", laid_unicode_utf8_first)], narrowed := true }
def FnExactNeedMetUptoSaid : Prop := fnExactNeedMetUptoRow.holds Tryd.pinned (OpenSpec.upto fnExactNeedMetSpec)

/-- 'laws.FnExactSelectorOk', WHERE WHAT IT READS IS OF BULK AT MOST 1048576: true; the input reads as it did. -/
def fnExactSelectorOkUptoRow : OpenClaim := { program := "ytjcfaepklakpkaadoor", sum := "6c91dc99a34101b7b650fb97c24585a4f5687d1a0ba10ddc4865b519dd8ed8a8", func := "loop.example/g00968/laws.FnExactSelectorOk", spec := "fnExactSelectorOk", inPlace := ["internal/bytealg.IndexByteString", "internal/bytealg.IndexString", "internal/bytealg.abigen_runtime_cmpstring"], unfollowed := true, recurses := true, named := ["unicode/utf8.first", "unicode/utf8.acceptRanges", "internal/bytealg.MaxLen"], apart := false, laid := [("unicode/utf8.acceptRanges", laid_unicode_utf8_acceptRanges), ("unicode/utf8.first", laid_unicode_utf8_first)], narrowed := true }
def FnExactSelectorOkUptoSaid : Prop := fnExactSelectorOkUptoRow.holds Tryd.pinned (OpenSpec.upto fnExactSelectorOkSpec)

/-- 'laws.FnExactSelects', WHERE WHAT IT READS IS OF BULK AT MOST 1048576: true; the input reads as it did. -/
def fnExactSelectsUptoRow : OpenClaim := { program := "ytjcfaepklakpkaadoor", sum := "6c91dc99a34101b7b650fb97c24585a4f5687d1a0ba10ddc4865b519dd8ed8a8", func := "loop.example/g00968/laws.FnExactSelects", spec := "fnExactSelects", inPlace := ["internal/bytealg.IndexByteString", "internal/bytealg.IndexString", "internal/bytealg.abigen_runtime_cmpstring"], unfollowed := true, recurses := true, named := ["unicode/utf8.first", "unicode/utf8.acceptRanges", "internal/bytealg.MaxLen"], apart := false, laid := [("unicode/utf8.acceptRanges", laid_unicode_utf8_acceptRanges), ("unicode/utf8.first", laid_unicode_utf8_first)], narrowed := true }
def FnExactSelectsUptoSaid : Prop := fnExactSelectsUptoRow.holds Tryd.pinned (OpenSpec.upto fnExactSelectsSpec)

/-- 'laws.FnExactNeedLine', WHERE WHAT IT READS IS OF BULK AT MOST 1048576: true; the input reads as it did. -/
def fnExactNeedLineUptoRow : OpenClaim := { program := "ytjcfaepklakpkaadoor", sum := "6c91dc99a34101b7b650fb97c24585a4f5687d1a0ba10ddc4865b519dd8ed8a8", func := "loop.example/g00968/laws.FnExactNeedLine", spec := "fnExactNeedLine", inPlace := ["internal/bytealg.IndexByteString", "internal/bytealg.IndexString", "internal/bytealg.abigen_runtime_cmpstring", "internal/abi.NoEscape", "internal/bytealg.MakeNoZero"], unfollowed := true, recurses := true, named := ["unicode/utf8.first", "unicode/utf8.acceptRanges", "internal/bytealg.MaxLen"], apart := false, laid := [("unicode/utf8.acceptRanges", laid_unicode_utf8_acceptRanges), ("unicode/utf8.first", laid_unicode_utf8_first)], narrowed := true }
def FnExactNeedLineUptoSaid : Prop := fnExactNeedLineUptoRow.holds Tryd.pinned (OpenSpec.upto fnExactNeedLineSpec)

end Rows
end Go.Proofs.YtjcfaepklakpkaaDoor
