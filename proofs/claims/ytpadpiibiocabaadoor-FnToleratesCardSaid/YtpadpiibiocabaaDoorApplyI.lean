/- impl.toleranceFields' applyTo, impl.Tolerates. -/
import Derived.Test.YtpadpiibiocabaaDoorGIm
import Derived.Test.YtpadpiibiocabaaDoorGTnP
namespace Go.Proofs.YtpadpiibiocabaaDoor.taint
open Go.ChangeShapes Go.WideShapes Go.ChangeAt Go.RowKit ty lab need
set_option linter.unusedVariables false

set_option maxRecDepth 100000 in
set_option maxHeartbeats 32000000 in
theorem impl_apply (k a : ByteArray) (n : Int) (q : Bool) (xk xa : ByteArray) (xn : Int) (w : World) :
    Calls Tryd.prog 58 #[.agg #[.string k, .string a, .int .i64 n, .bool q], .agg #[.string xk, .string xa, .int .i64 xn]] w fun e w' => e = .returned (.bool ((yes (k.size = 0) || yes (k = xk)) && ((!q || yes (a = xa)) && (yes (n = 0) || yes (n = xn))))) ∧ Below w.heap.size w w' := by
  have c1 := emp_yes k
  have c2 := str_yes k xk
  have c3 := str_yes a xa
  have c4 := int_yes n 0
  have c5 := int_yes n xn
  have Hb := Lib.hid (fun a b : Obj => ((Below.refl w.heap.size w).alloc (Nat.le_refl _) a).alloc (by simp) b)
  generalize yes (k.size = 0) = b1 at c1 ⊢
  generalize yes (k = xk) = b2 at c2 ⊢
  generalize yes (a = xa) = b3 at c3 ⊢
  generalize yes (n = 0) = b4 at c4 ⊢
  generalize yes (n = xn) = b5 at c5 ⊢
  rcases or_ways b1 b2 with rfl | ⟨rfl, rfl⟩ | ⟨rfl, rfl⟩ <;> rcases not_ways q b3 with rfl | ⟨rfl, rfl⟩ | ⟨rfl, rfl⟩ <;> rcases or_ways b4 b5 with rfl | ⟨rfl, rfl⟩ | ⟨rfl, rfl⟩ <;>
  · go_enter Tryd.func58, Tryd.ntmps58
    go_wp2_with fail
    go_ret
    exact ⟨rfl, Hb.out _ _⟩
end Go.Proofs.YtpadpiibiocabaaDoor.taint
