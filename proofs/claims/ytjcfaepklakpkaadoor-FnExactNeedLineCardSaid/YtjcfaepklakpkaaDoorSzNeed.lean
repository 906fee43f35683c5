/- laws.szNeed. Printed by gen/gen_ns.py. -/
import Derived.Test.YtjcfaepklakpkaaDoorTyNeed
import Derived.Test.YtjcfaepklakpkaaDoorSzStr
import Derived.Test.YtjcfaepklakpkaaDoorRows
import Derived.ProofKit
import Derived.OpenShut
namespace Go.Proofs.YtjcfaepklakpkaaDoor.ty
open Go.ChangeShapes Go.WideShapes Go.ChangeAt Go.RowKit
set_option linter.unusedVariables false

theorem szNeed (x : Need) (f : Nat) (vs : List Value) (left : Int) (w : World) (h : LiesS w f vs x.row) (hl : LeftN left) :
    Calls Tryd.prog 17 #[.agg vs.toArray, .int .i64 left] w fun e w' => e = .returned (.int .i64 (cutN left x.wt)) ∧ Below w.heap.size w w' := by
  obtain ⟨a0, a1, a2⟩ := x
  obtain ⟨A2, c2, rfl, hwf, k2, m2, l2⟩ := Need.opened h
  simp only [Need.Wf] at *
  obtain ⟨w0, w1⟩ := hwf
  unfold maxLen at w0
  unfold LeftN at hl
  rw [show Need.wt ⟨a0, a1, a2⟩ = a0.size + (a2.length + wsum Str.wt a2) from rfl]
  have HB := Lib.hid (Box.new 36 w [.string a0, .int .i64 a1, .slice A2 a2.length c2])
  have H2 := Lib.hid (fun w1 left (hb : Below w.heap.size w w1) hl => szStr a2 f (.slice A2 a2.length c2) left w1 (l2.below hb) hl)
  clear h l2 k2 m2
  have p0 := HB.out.cell (j := 0) rfl
  have p2 := HB.out.cell (j := 2) rfl
  generalize hX2 : a2.length + wsum Str.wt a2 = X2 at H2 ⊢
  by_cases h0 : left < (a0.size : Int)
  · have He := Lib.hid (cutN_no (show left < ((a0.size + X2 : Nat) : Int) by omega))
    clear hX2 H2
    go_enter Tryd.func17, Tryd.ntmps17
    go_wp2_with fail
    go_ret
    exact ⟨by rw [He.out]; rfl, HB.out.1⟩
  by_cases h2 : left - (a0.size : Int) < (X2 : Int)
  · have He := Lib.hid (cutN_no (show left < ((a0.size + X2 : Nat) : Int) by omega))
    have J2 := Lib.hid (fun w1 hb => H2.out w1 (left - (a0.size : Int)) hb ⟨by omega, by omega⟩)
    rw [cutN_no h2] at J2
    clear hX2 H2
    go_enter Tryd.func17, Tryd.ntmps17
    go_wp2_with fail
    refine (J2.out _ HB.out.1).mono ?_
    rintro e x2 ⟨rfl, hb2⟩
    have HB2 := Lib.hid (HB.out.below hb2)
    clear hb2 J2
    go_wp2_with fail
    go_ret
    exact ⟨by rw [He.out]; rfl, HB2.out.1⟩
  have He := Lib.hid (cutN_yes (show ¬ left < ((a0.size + X2 : Nat) : Int) by omega))
  have He2 := Lib.hid (show left - ((a0.size + X2 : Nat) : Int) = left - (a0.size : Int) - (X2 : Int) by omega)
  have J2 := Lib.hid (fun w1 hb => H2.out w1 (left - (a0.size : Int)) hb ⟨by omega, by omega⟩)
  rw [cutN_yes h2] at J2
  clear hX2 H2
  go_enter Tryd.func17, Tryd.ntmps17
  go_wp2_with fail
  refine (J2.out _ HB.out.1).mono ?_
  rintro e x2 ⟨rfl, hb2⟩
  have HB2 := Lib.hid (HB.out.below hb2)
  clear hb2 J2
  go_wp2_with fail
  go_ret
  exact ⟨by rw [He.out, He2.out]; rfl, HB2.out.1⟩
end Go.Proofs.YtjcfaepklakpkaaDoor.ty
