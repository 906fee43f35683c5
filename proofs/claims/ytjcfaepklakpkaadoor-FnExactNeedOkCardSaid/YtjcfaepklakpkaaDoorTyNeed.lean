/- Need: the plain type, its cells. Printed by gen/gen_ns.py. -/
import Derived.Test.YtjcfaepklakpkaaDoorStrM
import Derived.Test.YtjcfaepklakpkaaDoorEl
import Derived.Test.YtjcfaepklakpkaaDoorMarkM
namespace Go.Proofs.YtjcfaepklakpkaaDoor.ty
open Go Go.RowKit
set_option linter.unusedVariables false

structure Need where
  key : ByteArray
  op : Int
  values : List ByteArray
namespace Need
def row (x : Need) : List C := [.str x.key, .int .i64 x.op, .sl 1 x.values.length (x.values.flatMap Str.row)]
theorem row_length (x : Need) : x.row.length = 3 := rfl
def wt (x : Need) : Nat := x.key.size + (x.values.length + wsum Str.wt x.values)
def cost (x : Need) : Nat := 2 + wsum Str.cost x.values
def mark (x : Need) (k : Int) : Need := ⟨(lawMark.mt k), (k + 1), (mks Str.mark Str.cost x.values (k + 2))⟩
def Wf (x : Need) : Prop := x.key.size ≤ maxLen ∧ (Lit.int .i64 x.op).wf = true
theorem opened {w : World} {f : Nat} {us : List Value} {x : Need} (h : LiesS w f us x.row) : ∃ A2 c2, us = [.string x.key, .int .i64 x.op, .slice A2 x.values.length c2] ∧ x.Wf ∧ x.values.length ≤ c2 ∧ c2 ≤ maxLen ∧ Lies w f (.slice A2 x.values.length c2) (.sl 1 x.values.length (x.values.flatMap Str.row)) := by
  obtain ⟨v0, _, rfl, l0, h⟩ := h.uncons
  obtain ⟨v1, _, rfl, l1, h⟩ := h.uncons
  obtain ⟨v2, _, rfl, l2, h⟩ := h.uncons
  obtain rfl := h.unnil
  obtain ⟨rfl, w0⟩ := l0.str
  obtain ⟨rfl, w1⟩ := l1.int
  obtain ⟨A2, c2, rfl, k2, m2, _⟩ := l2.sl
  exact ⟨A2, c2, rfl, ⟨w0, w1⟩, k2, m2, l2⟩
theorem owned {w : World} {B f : Nat} {x : Need} {v2 : Value} {F2 : List Nat} (h : x.Wf) (o2 : Own w B (f + 1) v2 (.sl 1 x.values.length (x.values.flatMap Str.row)) F2) (n2 : F2.Nodup) : ∃ F, OwnS w B (f + 1) [.string x.key, .int .i64 x.op, v2] x.row F ∧ F.Nodup ∧ ∀ y ∈ F, y ∈ F2 := by
  obtain ⟨w0, w1⟩ := h
  refine ⟨_, OwnS.cons (own_str w0) (OwnS.cons (own_int w1) (OwnS.cons o2 (OwnS.nil))), ?_, ?_⟩
  · simp only [List.nil_append, List.append_nil]
    exact n2
  · simp only [List.nil_append, List.append_nil]
    exact fun y hy => hy
end Need
theorem of_Need {α : Type} {vs : List α} (h : vs.length = 3) : ∃ u0 u1 u2, vs = [u0, u1, u2] := by
  match vs, h with
  | [u0, u1, u2], _ => exact ⟨u0, u1, u2, rfl⟩
end Go.Proofs.YtjcfaepklakpkaaDoor.ty
