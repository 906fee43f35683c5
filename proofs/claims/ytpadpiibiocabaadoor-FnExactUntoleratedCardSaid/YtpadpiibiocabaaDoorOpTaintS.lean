/- laws.Taint and []laws.Taint that came in, opened. Printed by gen/gen_ty.py. -/
import Derived.Test.YtpadpiibiocabaaDoorOpenEl
import Derived.Test.YtpadpiibiocabaaDoorGTn
namespace Go.Proofs.YtpadpiibiocabaaDoor.ty
open Go.ChangeShapes Go.WideShapes Go.ChangeAt Go.RowKit
set_option linter.unusedVariables false

instance : Inhabited Taint := ⟨⟨⟨#[]⟩, ⟨#[]⟩, 0⟩⟩
theorem csTaint : Tryd.prog.cellsOf 37 = 3 := by kernel_rfl
theorem csTaint_string : Tryd.prog.cellsOf 9 = 1 := by kernel_rfl
theorem csTaint_int : Tryd.prog.cellsOf 3 = 1 := by kernel_rfl
section
variable {H : Type} {enc : TypeId × Value → H} {w : World} {base : Nat} {sp : Nat → Bool} {held : Bool}
set_option maxRecDepth 100000 in
theorem trodTaint (fuel : Nat) (cs : List Value) (x : DataW H × List MemPlace) (h : DataW.trod enc Tryd.prog w base sp held fuel 37 cs = some x) : ∃ t : Taint, LiesS w fuel cs t.row := by
  obtain ⟨xs, n, rfl, _, hl, hxl, hf⟩ := DataW.trod_struct Tryd.underlying37 h
  rw [csTaint] at hl
  have hxlk : xs.length = 3 := hxl
  obtain ⟨u0, u1, u2, rfl⟩ := of_Taint hl
  obtain ⟨y0, y1, y2, rfl⟩ := of_Taint hxlk
  have f0 := hf 0 _ rfl
  have f1 := hf 1 _ rfl
  have f2 := hf 2 _ rfl
  simp only [csTaint_string, csTaint_int, List.drop_zero, List.drop_succ_cons, List.take_succ_cons, List.take_zero, List.getElem?_cons_zero, List.getElem?_cons_succ] at f0 f1 f2
  obtain ⟨z0, e0, _, w0⟩ := DataW.trod_string Tryd.underlying9 f0
  obtain ⟨z1, e1, _, w1⟩ := DataW.trod_string Tryd.underlying9 f1
  obtain ⟨z2, e2, _, w2⟩ := DataW.trod_int Tryd.underlying3 f2
  injection e0 with e0
  injection e1 with e1
  injection e2 with e2
  subst e0 e1 e2
  refine ⟨⟨z0, z1, z2⟩, ?_⟩
  cases n with
  | zero => simp [DataW.trod] at f0
  | succ n => exact (Taint.lies (f := n) (x := ⟨z0, z1, z2⟩) ⟨w0, w1, w2⟩).deeper (by omega)
set_option maxRecDepth 100000 in
theorem open_TaintS {r : Reach} {b0 : Nat} {v : Value} {d : DataW H} {ps : List MemPlace}
    (hval : Value.okWide Tryd.prog w r b0 41 v) (hd : DataW.Trod enc Tryd.prog w base sp held 41 v d ps) : ∃ (l : List Taint) (f : Nat), Lies w f v (.sl 3 l.length (l.flatMap Taint.row)) := by
  obtain ⟨A, n, c, rfl⟩ := okWide_slice Tryd.underlying41 hval
  obtain ⟨fuel, hf⟩ := hd
  obtain ⟨v', l, h1, h2⟩ := lies_slice (α := Taint) Taint.row Tryd.underlying41 csTaint (by decide) Taint.row_length (fun n cs' y _ hy => trodTaint n cs' y hy) hf
  have e : v' = .slice A n c := by simpa [Value.cells] using h1.symm
  subst e
  exact ⟨l, fuel, h2⟩
end
end Go.Proofs.YtpadpiibiocabaaDoor.ty
