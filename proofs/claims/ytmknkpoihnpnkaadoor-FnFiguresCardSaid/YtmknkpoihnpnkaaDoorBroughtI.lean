/- impl.Brought. -/
import Derived.Test.YtmknkpoihnpnkaaDoorBroughtM
namespace Go.Proofs.YtmknkpoihnpnkaaDoor.brought
open Go.ChangeShapes Go.WideShapes Go.ChangeAt Go.RowKit
set_option linter.unusedVariables false

theorem bro_if (n l m : Int) : (if l < (if m < n then m else n) then (if m < n then m else n) else l) = bro n l m := by
  unfold bro
  repeat' split
  all_goals omega

theorem impl_any (n l m : Int) (w : World) :
    Calls Tryd.prog 23 #[.int .i64 n, .int .i64 l, .int .i64 m] w fun e w' => e = .returned (.int .i64 (bro n l m)) ∧ w = w' := by
  have hb := bro_if n l m
  go_enter Tryd.func23, Tryd.ntmps23
  go_wp2
  all_goals go_ret
  all_goals exact ⟨rfl, rfl⟩

end Go.Proofs.YtmknkpoihnpnkaaDoor.brought
