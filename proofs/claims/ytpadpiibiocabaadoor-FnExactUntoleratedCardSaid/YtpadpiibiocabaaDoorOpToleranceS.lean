/- laws.Tolerance and []laws.Tolerance that came in, opened. Printed by gen/gen_ty.py. -/
import Derived.Test.YtpadpiibiocabaaDoorOpenEl
import Derived.Test.YtpadpiibiocabaaDoorGTn
namespace Go.Proofs.YtpadpiibiocabaaDoor.ty
open Go.ChangeShapes Go.WideShapes Go.ChangeAt Go.RowKit
set_option linter.unusedVariables false

instance : Inhabited Tolerance := ⟨⟨⟨#[]⟩, false, ⟨#[]⟩, 0⟩⟩
theorem csTolerance : Tryd.prog.cellsOf 47 = 4 := by kernel_rfl
theorem csTolerance_string : Tryd.prog.cellsOf 9 = 1 := by kernel_rfl
theorem csTolerance_bool : Tryd.prog.cellsOf 4 = 1 := by kernel_rfl
theorem csTolerance_int : Tryd.prog.cellsOf 3 = 1 := by kernel_rfl
section
variable {H : Type} {enc : TypeId × Value → H} {w : World} {base : Nat} {sp : Nat → Bool} {held : Bool}
set_option maxRecDepth 100000 in
theorem trodTolerance (fuel : Nat) (cs : List Value) (x : DataW H × List MemPlace) (h : DataW.trod enc Tryd.prog w base sp held fuel 47 cs = some x) : ∃ t : Tolerance, LiesS w fuel cs t.row := by
  obtain ⟨xs, n, rfl, _, hl, hxl, hf⟩ := DataW.trod_struct Tryd.underlying47 h
  rw [csTolerance] at hl
  have hxlk : xs.length = 4 := hxl
  obtain ⟨u0, u1, u2, u3, rfl⟩ := of_Tolerance hl
  obtain ⟨y0, y1, y2, y3, rfl⟩ := of_Tolerance hxlk
  have f0 := hf 0 _ rfl
  have f1 := hf 1 _ rfl
  have f2 := hf 2 _ rfl
  have f3 := hf 3 _ rfl
  simp only [csTolerance_string, csTolerance_bool, csTolerance_int, List.drop_zero, List.drop_succ_cons, List.take_succ_cons, List.take_zero, List.getElem?_cons_zero, List.getElem?_cons_succ] at f0 f1 f2 f3
  obtain ⟨z0, e0, _, w0⟩ := DataW.trod_string Tryd.underlying9 f0
  obtain ⟨z1, e1, _⟩ := DataW.trod_bool Tryd.underlying4 f1
  obtain ⟨z2, e2, _, w2⟩ := DataW.trod_string Tryd.underlying9 f2
  obtain ⟨z3, e3, _, w3⟩ := DataW.trod_int Tryd.underlying3 f3
  injection e0 with e0
  injection e1 with e1
  injection e2 with e2
  injection e3 with e3
  subst e0 e1 e2 e3
  refine ⟨⟨z0, z1, z2, z3⟩, ?_⟩
  cases n with
  | zero => simp [DataW.trod] at f0
  | succ n => exact (Tolerance.lies (f := n) (x := ⟨z0, z1, z2, z3⟩) ⟨w0, w2, w3⟩).deeper (by omega)
set_option maxRecDepth 100000 in
theorem open_ToleranceS {r : Reach} {b0 : Nat} {v : Value} {d : DataW H} {ps : List MemPlace}
    (hval : Value.okWide Tryd.prog w r b0 52 v) (hd : DataW.Trod enc Tryd.prog w base sp held 52 v d ps) : ∃ (l : List Tolerance) (f : Nat), Lies w f v (.sl 4 l.length (l.flatMap Tolerance.row)) := by
  obtain ⟨A, n, c, rfl⟩ := okWide_slice Tryd.underlying52 hval
  obtain ⟨fuel, hf⟩ := hd
  obtain ⟨v', l, h1, h2⟩ := lies_slice (α := Tolerance) Tolerance.row Tryd.underlying52 csTolerance (by decide) Tolerance.row_length (fun n cs' y _ hy => trodTolerance n cs' y hy) hf
  have e : v' = .slice A n c := by simpa [Value.cells] using h1.symm
  subst e
  exact ⟨l, fuel, h2⟩
end
end Go.Proofs.YtpadpiibiocabaaDoor.ty
