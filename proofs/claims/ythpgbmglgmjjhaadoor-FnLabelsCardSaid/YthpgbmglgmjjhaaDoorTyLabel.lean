/- Label: the plain type, its cells. Printed by gen/gen_ty.py. -/
import Derived.Test.YthpgbmglgmjjhaaDoorGPre
namespace Go.Proofs.YthpgbmglgmjjhaaDoor.ty
open Go Go.RowKit
set_option linter.unusedVariables false

structure Label where
  key : ByteArray
  value : ByteArray
namespace Label
def row (x : Label) : List C := [.str x.key, .str x.value]
theorem row_length (x : Label) : x.row.length = 2 := rfl
def wt (x : Label) : Nat := x.key.size + x.value.size
def cost (_ : Label) : Nat := 2
def mark (_ : Label) (k : Int) : Label := ⟨(lawMark.mt k), (lawMark.mt (k + 1))⟩
def Wf (x : Label) : Prop := x.key.size ≤ maxLen ∧ x.value.size ≤ maxLen
theorem opened {w : World} {f : Nat} {us : List Value} {x : Label} (h : LiesS w f us x.row) : us = [.string x.key, .string x.value] ∧ x.Wf := by
  obtain ⟨v0, _, rfl, l0, h⟩ := h.uncons
  obtain ⟨v1, _, rfl, l1, h⟩ := h.uncons
  obtain rfl := h.unnil
  obtain ⟨rfl, w0⟩ := l0.str
  obtain ⟨rfl, w1⟩ := l1.str
  exact ⟨rfl, w0, w1⟩
theorem owned {w : World} {B f : Nat} {x : Label} (h : x.Wf) : OwnS w B (f + 1) [.string x.key, .string x.value] x.row [] := by
  obtain ⟨w0, w1⟩ := h
  exact OwnS.cons (own_str w0) (OwnS.cons (own_str w1) (OwnS.nil))
theorem lies {w : World} {f : Nat} {x : Label} (h : x.Wf) : LiesS w (f + 1) [.string x.key, .string x.value] x.row := (owned (B := 0) h).lies
theorem flat_of {w : World} {B f : Nat} {us : List Value} {x : Label} {F : List Nat} (h : OwnS w B f us x.row F) : F = [] := by
  obtain ⟨v0, _, G0, _, rfl, rfl, l0, h⟩ := h.uncons
  obtain ⟨v1, _, G1, _, rfl, rfl, l1, h⟩ := h.uncons
  obtain ⟨rfl, rfl⟩ := h.unnil
  obtain rfl := l0.flat trivial
  obtain rfl := l1.flat trivial
  rfl
end Label
theorem of_Label {α : Type} {vs : List α} (h : vs.length = 2) : ∃ u0 u1, vs = [u0, u1] := by
  match vs, h with
  | [u0, u1], _ => exact ⟨u0, u1, rfl⟩
end Go.Proofs.YthpgbmglgmjjhaaDoor.ty
