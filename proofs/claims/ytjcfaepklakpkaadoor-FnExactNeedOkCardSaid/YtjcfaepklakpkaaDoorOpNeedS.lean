/- laws.Need and []laws.Need that came in, opened. Printed by gen/gen_ns.py. -/
import Derived.Test.YtjcfaepklakpkaaDoorOpenEl
import Derived.Test.YtjcfaepklakpkaaDoorTyNeed
namespace Go.Proofs.YtjcfaepklakpkaaDoor.ty
open Go.ChangeShapes Go.WideShapes Go.ChangeAt Go.RowKit
set_option linter.unusedVariables false

instance : Inhabited Need := ⟨⟨⟨#[]⟩, 0, []⟩⟩
theorem csNeed : Tryd.prog.cellsOf 36 = 3 := by kernel_rfl
theorem csNeed_string : Tryd.prog.cellsOf 9 = 1 := by kernel_rfl
theorem csNeed_int : Tryd.prog.cellsOf 3 = 1 := by kernel_rfl
theorem csNeed_sl_Str : Tryd.prog.cellsOf 28 = 1 := by kernel_rfl
section
variable {H : Type} {enc : TypeId × Value → H} {w : World} {base : Nat} {sp : Nat → Bool} {held : Bool}
set_option maxRecDepth 100000 in
theorem trodNeed (fuel : Nat) (cs : List Value) (x : DataW H × List MemPlace) (h : DataW.trod enc Tryd.prog w base sp held fuel 36 cs = some x) : ∃ t : Need, LiesS w fuel cs t.row := by
  obtain ⟨xs, n, hfn, _, hl, hxl, hf⟩ := DataW.trod_struct Tryd.underlying36 h
  rw [csNeed] at hl
  have hxlk : xs.length = 3 := hxl
  obtain ⟨u0, u1, u2, rfl⟩ := of_Need hl
  obtain ⟨y0, y1, y2, rfl⟩ := of_Need hxlk
  have f0 := hf 0 _ rfl
  have f1 := hf 1 _ rfl
  have f2 := hf 2 _ rfl
  simp only [csNeed_string, csNeed_int, csNeed_sl_Str, List.drop_zero, List.drop_succ_cons, List.take_succ_cons, List.take_zero, List.getElem?_cons_zero, List.getElem?_cons_succ] at f0 f1 f2
  obtain ⟨z0, e0, _, w0⟩ := DataW.trod_string Tryd.underlying9 f0
  obtain ⟨z1, e1, _, w1⟩ := DataW.trod_int Tryd.underlying3 f1
  obtain ⟨v2, z2, e2, l2⟩ := lies_slice (α := ByteArray) Str.row Tryd.underlying28 csNeed_string (by decide) Str.row_length (fun n cs' y _ hy => by
    obtain ⟨s, rfl, _, hs⟩ := DataW.trod_string Tryd.underlying9 hy
    cases n with
    | zero => simp [DataW.trod] at hy
    | succ n => exact ⟨s, LiesS.cons ⟨rfl, hs⟩ LiesS.nil⟩) f2
  injection e0 with e0
  injection e1 with e1
  injection e2 with e2
  subst e0 e1 e2
  refine ⟨⟨z0, z1, z2⟩, ?_⟩
  subst hfn
  cases n with
  | zero => simp [DataW.trod] at f0
  | succ n =>
    have m0 : Lies w (n + 1) (.string z0) (.str z0) := ⟨rfl, w0⟩
    have m1 : Lies w (n + 1) (.int .i64 z1) (.int .i64 z1) := ⟨rfl, w1⟩
    have m2 := l2
    exact ((LiesS.cons m0 (LiesS.cons m1 (LiesS.cons m2 LiesS.nil)))).deeper (Nat.le_succ _)
set_option maxRecDepth 100000 in
theorem open_NeedS {r : Reach} {b0 : Nat} {v : Value} {d : DataW H} {ps : List MemPlace}
    (hval : Value.okWide Tryd.prog w r b0 46 v) (hd : DataW.Trod enc Tryd.prog w base sp held 46 v d ps) : ∃ (l : List Need) (f : Nat), Lies w f v (.sl 3 l.length (l.flatMap Need.row)) := by
  obtain ⟨A, n, c, rfl⟩ := okWide_slice Tryd.underlying46 hval
  obtain ⟨fuel, hf⟩ := hd
  obtain ⟨v', l, h1, h2⟩ := lies_slice (α := Need) Need.row Tryd.underlying46 csNeed (by decide) Need.row_length (fun n cs' y _ hy => trodNeed n cs' y hy) hf
  have e : v' = .slice A n c := by simpa [Value.cells] using h1.symm
  subst e
  exact ⟨l, fuel, h2⟩
end
end Go.Proofs.YtjcfaepklakpkaaDoor.ty
