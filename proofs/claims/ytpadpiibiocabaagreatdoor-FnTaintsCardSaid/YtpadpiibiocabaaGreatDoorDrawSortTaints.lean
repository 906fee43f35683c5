/- spec.DrawSortTaints. Printed by gen/gen_dl.py. -/
import Derived.Test.YtpadpiibiocabaaGreatDoorDrawAnyTaints
namespace Go.Proofs.YtpadpiibiocabaaGreatDoor.draw
open Go.ChangeShapes Go.WideShapes Go.ChangeAt Go.RowKit ty lab dedup taint need
set_option linter.unusedVariables false

/-- A drawn list in memory of the call's own. -/
def DrawnTaint (w : World) (e : Ending) (w' : World) : Prop := ∃ (l : List Taint) (v : Value) (f : Nat) (F : List Nat), l.length ≤ 41 ∧ (∀ x ∈ l, TinyT 5 x) ∧ e = .returned v ∧ Own w' w.heap.size (f + 1) v (.sl 3 l.length (l.flatMap Taint.row)) F ∧ Below w.heap.size w w'
set_option maxRecDepth 1000000 in
theorem drawSortTaint (A : Option Addr) (len cap : Nat) (zs : List Int) (w : World) (hr : IsRow .u8 w A len cap zs) (hlen : len ≤ 1048576) :
    Calls Tryz.prog 5 #[.slice A len cap] w fun e w' => DrawnTaint w e w' := by
  have HN := Lib.hid (new_any A len cap zs w hr hlen)
  clear hr
  go_enter Tryz.func5, Tryz.ntmps5
  go_wp2_with fail
  refine HN.out.mono ?_
  clear HN
  rintro e w1 ⟨c, rfl, hcw, hc, hb1⟩
  generalize (fun j => zs.getD j 0) = z at hc
  have HA := Lib.hid (anyTaints_any c A len cap z w1 hc)
  clear hc
  go_wp2_with fail
  refine HA.out.mono ?_
  clear HA
  rintro e w2 ⟨l, v, f, F, ⟨hl, ht⟩, rfl, ho, hnd, hc2, hg2⟩
  have HR := Lib.hid (show DrawnTaint w (.returned v) w2 from ⟨l, v, f, F, hl, ht, rfl, ho.lower hb1.size, hb1.grown hg2 hb1.size (fun b hb => by injection hb with hb; omega)⟩)
  clear ho hnd hc2 hg2 hl ht
  go_wp2_with fail
  go_ret
  exact HR.out
end Go.Proofs.YtpadpiibiocabaaGreatDoor.draw
