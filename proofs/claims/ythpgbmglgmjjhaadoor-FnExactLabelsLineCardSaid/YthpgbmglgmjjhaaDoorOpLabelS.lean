/- laws.Label and []laws.Label that came in, opened. Printed by gen/gen_ty.py. -/
import Derived.Test.YthpgbmglgmjjhaaDoorOpenEl
import Derived.Test.YthpgbmglgmjjhaaDoorTyLabel
namespace Go.Proofs.YthpgbmglgmjjhaaDoor.ty
open Go.ChangeShapes Go.WideShapes Go.ChangeAt Go.RowKit
set_option linter.unusedVariables false

instance : Inhabited Label := ⟨⟨⟨#[]⟩, ⟨#[]⟩⟩⟩
theorem csLabel : Tryd.prog.cellsOf 57 = 2 := by kernel_rfl
theorem csLabel_string : Tryd.prog.cellsOf 9 = 1 := by kernel_rfl
section
variable {H : Type} {enc : TypeId × Value → H} {w : World} {base : Nat} {sp : Nat → Bool} {held : Bool}
set_option maxRecDepth 100000 in
theorem trodLabel (fuel : Nat) (cs : List Value) (x : DataW H × List MemPlace) (h : DataW.trod enc Tryd.prog w base sp held fuel 57 cs = some x) : ∃ t : Label, LiesS w fuel cs t.row := by
  obtain ⟨xs, n, rfl, _, hl, hxl, hf⟩ := DataW.trod_struct Tryd.underlying57 h
  rw [csLabel] at hl
  have hxlk : xs.length = 2 := hxl
  obtain ⟨u0, u1, rfl⟩ := of_Label hl
  obtain ⟨y0, y1, rfl⟩ := of_Label hxlk
  have f0 := hf 0 _ rfl
  have f1 := hf 1 _ rfl
  simp only [csLabel_string, List.drop_zero, List.drop_succ_cons, List.take_succ_cons, List.take_zero, List.getElem?_cons_zero, List.getElem?_cons_succ] at f0 f1
  obtain ⟨z0, e0, _, w0⟩ := DataW.trod_string Tryd.underlying9 f0
  obtain ⟨z1, e1, _, w1⟩ := DataW.trod_string Tryd.underlying9 f1
  injection e0 with e0
  injection e1 with e1
  subst e0 e1
  refine ⟨⟨z0, z1⟩, ?_⟩
  cases n with
  | zero => simp [DataW.trod] at f0
  | succ n => exact (Label.lies (f := n) (x := ⟨z0, z1⟩) ⟨w0, w1⟩).deeper (by omega)
set_option maxRecDepth 100000 in
theorem open_LabelS {r : Reach} {b0 : Nat} {v : Value} {d : DataW H} {ps : List MemPlace}
    (hval : Value.okWide Tryd.prog w r b0 37 v) (hd : DataW.Trod enc Tryd.prog w base sp held 37 v d ps) : ∃ (l : List Label) (f : Nat), Lies w f v (.sl 2 l.length (l.flatMap Label.row)) := by
  obtain ⟨A, n, c, rfl⟩ := okWide_slice Tryd.underlying37 hval
  obtain ⟨fuel, hf⟩ := hd
  obtain ⟨v', l, h1, h2⟩ := lies_slice (α := Label) Label.row Tryd.underlying37 csLabel (by decide) Label.row_length (fun n cs' y _ hy => trodLabel n cs' y hy) hf
  have e : v' = .slice A n c := by simpa [Value.cells] using h1.symm
  subst e
  exact ⟨l, fuel, h2⟩
end
end Go.Proofs.YthpgbmglgmjjhaaDoor.ty
