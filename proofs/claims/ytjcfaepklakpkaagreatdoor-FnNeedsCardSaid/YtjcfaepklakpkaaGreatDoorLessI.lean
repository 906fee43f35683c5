/- impl.NeedLess. -/
import Derived.Test.YtjcfaepklakpkaaGreatDoorGCmp
namespace Go.Proofs.YtjcfaepklakpkaaGreatDoor.need
open Go.ChangeShapes Go.WideShapes Go.ChangeAt Go.RowKit ty lab
set_option linter.unusedVariables false

set_option maxRecDepth 100000 in
set_option maxHeartbeats 4000000 in
theorem less_gr (x y : Need) (f1 f2 : Nat) (us vs : List Value) (w : World) (h1 : LiesS w f1 us x.row) (h2 : LiesS w f2 vs y.row) :
    Calls Tryz.prog 11 #[.agg us.toArray, .agg vs.toArray] w fun e w' => e = .returned (.bool (lessN x y)) ∧ Gr w w' := by
  rw [← cmpN_less]
  obtain ⟨A1, c1, rfl, _⟩ := Need.opened h1
  obtain ⟨A2, c2, rfl, _⟩ := Need.opened h2
  have HB := Lib.hid (Box2.new 31 w [.string x.key, .int .i64 x.op, .slice A1 x.values.length c1] [.string y.key, .int .i64 y.op, .slice A2 y.values.length c2])
  have HC := Lib.hid (fun w' (hb : Below w.heap.size w w') => cmp_gr x y f1 f2 _ _ w' (h1.kept hb.block) (h2.kept hb.block))
  have p0 := HB.out.cell1 (j := 0) rfl
  have p1 := HB.out.cell1 (j := 1) rfl
  have p2 := HB.out.cell1 (j := 2) rfl
  have q0 := HB.out.cell2 (j := 0) rfl
  have q1 := HB.out.cell2 (j := 1) rfl
  have q2 := HB.out.cell2 (j := 2) rfl
  have HG := Lib.hid (show Gr w _ from ((Gr.refl w).alloc (.cells #[.string x.key, .int .i64 x.op, .slice A1 x.values.length c1] 31)).alloc (.cells #[.string y.key, .int .i64 y.op, .slice A2 y.values.length c2] 31))
  clear h1 h2
  generalize cmpN x y = r at ⊢ HC
  generalize x.key = k1 at p0 HC HB HG
  generalize x.op = o1 at p1 HC HB HG
  generalize x.values.length = n1 at p2 HC HB HG
  generalize y.key = k2 at q0 HC HB HG
  generalize y.op = o2 at q1 HC HB HG
  generalize y.values.length = n2 at q2 HC HB HG
  go_enter Tryz.func11, Tryz.ntmps11
  go_wp2_with fail
  refine (HC.out _ HB.out.1.1).mono ?_
  rintro e x1 ⟨rfl, hg⟩
  have G := Lib.hid (HG.out.trans hg)
  clear hg
  go_wp2_with fail
  go_ret
  exact ⟨rfl, G.out⟩
theorem impl_less (x y : Need) (f1 f2 : Nat) (us vs : List Value) (w : World) (h1 : LiesS w f1 us x.row) (h2 : LiesS w f2 vs y.row) :
    Calls Tryz.prog 11 #[.agg us.toArray, .agg vs.toArray] w fun e w' => e = .returned (.bool (lessN x y)) ∧ Below w.heap.size w w' := gr_below (less_gr x y f1 f2 us vs w h1 h2)
end Go.Proofs.YtjcfaepklakpkaaGreatDoor.need
