/- laws.eqNeed, on equal ones. Printed by gen/gen_ns.py. -/
import Derived.Test.YtjcfaepklakpkaaDoorTyNeed
import Derived.Test.YtjcfaepklakpkaaDoorEqStr
import Derived.Test.YtjcfaepklakpkaaDoorRows
import Derived.ProofKit
import Derived.OpenShut
namespace Go.Proofs.YtjcfaepklakpkaaDoor.ty
open Go.ChangeShapes Go.WideShapes Go.ChangeAt Go.RowKit
set_option linter.unusedVariables false

theorem eqNeed (x : Need) (f1 f2 : Nat) (vs us : List Value) (w : World) (h1 : LiesS w f1 vs x.row) (h2 : LiesS w f2 us x.row) :
    Calls Tryd.prog 19 #[.agg vs.toArray, .agg us.toArray] w fun e w' => e = .returned (.bool true) ∧ Below w.heap.size w w' := by
  obtain ⟨a0, a1, a2⟩ := x
  obtain ⟨A2, c2, rfl, hwf, k2, m2, l2⟩ := Need.opened h1
  obtain ⟨B2, d2, rfl, hwf2, k2_, m2_, r2⟩ := Need.opened h2
  simp only at *
  have HB1 := Lib.hid (Box.new 30 w [.string a0, .int .i64 a1, .slice A2 a2.length c2])
  have HB2 := Lib.hid (HB1.out.below ((Below.refl _ _).alloc (Nat.le_refl _) (.cells #[.string a0, .int .i64 a1, .slice B2 a2.length d2] 30)))
  have HB3 := Lib.hid (Box.new 30 (w.alloc (.cells #[.string a0, .int .i64 a1, .slice A2 a2.length c2] 30)) [.string a0, .int .i64 a1, .slice B2 a2.length d2])
  have hsz : (w.alloc (.cells #[.string a0, .int .i64 a1, .slice A2 a2.length c2] 30)).heap.size = w.heap.size + 1 := by simp
  have E2 := Lib.hid (fun w1 (hb : Below w.heap.size w w1) => eqStr a2 f1 f2 (.slice A2 a2.length c2) (.slice B2 a2.length d2) w1 (l2.below hb) (r2.below hb))
  have p0 := HB2.out.cell (j := 0) rfl
  have p1 := HB2.out.cell (j := 1) rfl
  have p2 := HB2.out.cell (j := 2) rfl
  have q0 := HB3.out.cell (j := 0) rfl
  have q1 := HB3.out.cell (j := 1) rfl
  have q2 := HB3.out.cell (j := 2) rfl
  rw [hsz] at q0 q1 q2
  have hq := HB3.out.2
  rw [hsz] at hq
  have Hq := Lib.hid hq
  have Hp := Lib.hid HB2.out.2
  have Hbb := Lib.hid HB2.out.1
  clear h1 h2 hwf hwf2 HB1 HB2 HB3 hq hsz l2 r2 k2 m2 k2_ m2_
  go_enter Tryd.func19, Tryd.ntmps19
  go_wp2_with fail
  refine (E2.out _ Hbb.out).mono ?_
  rintro e y2 ⟨rfl, b2⟩
  have Hbb2 := Lib.hid (Hbb.out.trans (b2.mono Hbb.out.size))
  clear p0 p1 p2 q0 q1 q2
  clear b2
  go_wp2_with fail
  go_ret
  exact ⟨rfl, Hbb2.out⟩
end Go.Proofs.YtjcfaepklakpkaaDoor.ty
