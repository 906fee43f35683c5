/- n brought into the range l to m. -/
import Derived.Test.YtmknkpoihnpnkaaDoorRows
import Derived.Test.YtmknkpoihnpnkaaDoorBase
import Derived.ProofKit
import Derived.OpenShut
namespace Go.Proofs.YtmknkpoihnpnkaaDoor.brought
open Go.ChangeShapes Go.WideShapes Go.ChangeAt Go.RowKit
set_option linter.unusedVariables false

/-- n brought into the range l to m. -/
def bro (n l m : Int) : Int := if m < l ∨ n < l then l else if n > m then m else n

theorem bro_low {n l m : Int} (h : m < l ∨ n < l) : bro n l m = l := by unfold bro; rw [if_pos h]
theorem bro_top {n l m : Int} (h1 : l ≤ m) (h2 : l ≤ n) (h3 : m < n) : bro n l m = m := by unfold bro; rw [if_neg (by omega), if_pos h3]
theorem bro_mid {n l m : Int} (h1 : l ≤ m) (h2 : l ≤ n) (h3 : n ≤ m) : bro n l m = n := by unfold bro; rw [if_neg (by omega), if_neg (by omega)]

end Go.Proofs.YtmknkpoihnpnkaaDoor.brought
