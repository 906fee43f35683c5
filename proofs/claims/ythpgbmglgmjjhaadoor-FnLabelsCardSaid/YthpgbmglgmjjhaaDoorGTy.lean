/- Merged: TyTaint TyTolerance. -/
import Derived.Test.YthpgbmglgmjjhaaDoorGPre
namespace Go.Proofs.YthpgbmglgmjjhaaDoor.ty
open Go Go.RowKit
set_option linter.unusedVariables false

structure Taint where
  key : ByteArray
  value : ByteArray
  effect : Int
namespace Taint
def row (x : Taint) : List C := [.str x.key, .str x.value, .int .i64 x.effect]
theorem row_length (x : Taint) : x.row.length = 3 := rfl
def wt (x : Taint) : Nat := x.key.size + x.value.size
def cost (_ : Taint) : Nat := 3
def mark (_ : Taint) (k : Int) : Taint := ⟨(lawMark.mt k), (lawMark.mt (k + 1)), (k + 2)⟩
def Wf (x : Taint) : Prop := x.key.size ≤ maxLen ∧ x.value.size ≤ maxLen ∧ (Lit.int .i64 x.effect).wf = true
theorem opened {w : World} {f : Nat} {us : List Value} {x : Taint} (h : LiesS w f us x.row) : us = [.string x.key, .string x.value, .int .i64 x.effect] ∧ x.Wf := by
  obtain ⟨v0, _, rfl, l0, h⟩ := h.uncons
  obtain ⟨v1, _, rfl, l1, h⟩ := h.uncons
  obtain ⟨v2, _, rfl, l2, h⟩ := h.uncons
  obtain rfl := h.unnil
  obtain ⟨rfl, w0⟩ := l0.str
  obtain ⟨rfl, w1⟩ := l1.str
  obtain ⟨rfl, w2⟩ := l2.int
  exact ⟨rfl, w0, w1, w2⟩
theorem owned {w : World} {B f : Nat} {x : Taint} (h : x.Wf) : OwnS w B (f + 1) [.string x.key, .string x.value, .int .i64 x.effect] x.row [] := by
  obtain ⟨w0, w1, w2⟩ := h
  exact OwnS.cons (own_str w0) (OwnS.cons (own_str w1) (OwnS.cons (own_int w2) (OwnS.nil)))
theorem lies {w : World} {f : Nat} {x : Taint} (h : x.Wf) : LiesS w (f + 1) [.string x.key, .string x.value, .int .i64 x.effect] x.row := (owned (B := 0) h).lies
theorem flat_of {w : World} {B f : Nat} {us : List Value} {x : Taint} {F : List Nat} (h : OwnS w B f us x.row F) : F = [] := by
  obtain ⟨v0, _, G0, _, rfl, rfl, l0, h⟩ := h.uncons
  obtain ⟨v1, _, G1, _, rfl, rfl, l1, h⟩ := h.uncons
  obtain ⟨v2, _, G2, _, rfl, rfl, l2, h⟩ := h.uncons
  obtain ⟨rfl, rfl⟩ := h.unnil
  obtain rfl := l0.flat trivial
  obtain rfl := l1.flat trivial
  obtain rfl := l2.flat trivial
  rfl
end Taint
theorem of_Taint {α : Type} {vs : List α} (h : vs.length = 3) : ∃ u0 u1 u2, vs = [u0, u1, u2] := by
  match vs, h with
  | [u0, u1, u2], _ => exact ⟨u0, u1, u2, rfl⟩
end Go.Proofs.YthpgbmglgmjjhaaDoor.ty
namespace Go.Proofs.YthpgbmglgmjjhaaDoor.ty
open Go Go.RowKit
set_option linter.unusedVariables false

structure Tolerance where
  key : ByteArray
  equal : Bool
  value : ByteArray
  effect : Int
namespace Tolerance
def row (x : Tolerance) : List C := [.str x.key, .bool x.equal, .str x.value, .int .i64 x.effect]
theorem row_length (x : Tolerance) : x.row.length = 4 := rfl
def wt (x : Tolerance) : Nat := x.key.size + x.value.size
def cost (_ : Tolerance) : Nat := 4
def mark (_ : Tolerance) (k : Int) : Tolerance := ⟨(lawMark.mt k), (decide ((k + 1) % 3 = 0)), (lawMark.mt (k + 2)), (k + 3)⟩
def Wf (x : Tolerance) : Prop := x.key.size ≤ maxLen ∧ x.value.size ≤ maxLen ∧ (Lit.int .i64 x.effect).wf = true
theorem opened {w : World} {f : Nat} {us : List Value} {x : Tolerance} (h : LiesS w f us x.row) : us = [.string x.key, .bool x.equal, .string x.value, .int .i64 x.effect] ∧ x.Wf := by
  obtain ⟨v0, _, rfl, l0, h⟩ := h.uncons
  obtain ⟨v1, _, rfl, l1, h⟩ := h.uncons
  obtain ⟨v2, _, rfl, l2, h⟩ := h.uncons
  obtain ⟨v3, _, rfl, l3, h⟩ := h.uncons
  obtain rfl := h.unnil
  obtain ⟨rfl, w0⟩ := l0.str
  obtain rfl := l1.bool
  obtain ⟨rfl, w2⟩ := l2.str
  obtain ⟨rfl, w3⟩ := l3.int
  exact ⟨rfl, w0, w2, w3⟩
theorem owned {w : World} {B f : Nat} {x : Tolerance} (h : x.Wf) : OwnS w B (f + 1) [.string x.key, .bool x.equal, .string x.value, .int .i64 x.effect] x.row [] := by
  obtain ⟨w0, w2, w3⟩ := h
  exact OwnS.cons (own_str w0) (OwnS.cons own_bool (OwnS.cons (own_str w2) (OwnS.cons (own_int w3) (OwnS.nil))))
theorem lies {w : World} {f : Nat} {x : Tolerance} (h : x.Wf) : LiesS w (f + 1) [.string x.key, .bool x.equal, .string x.value, .int .i64 x.effect] x.row := (owned (B := 0) h).lies
theorem flat_of {w : World} {B f : Nat} {us : List Value} {x : Tolerance} {F : List Nat} (h : OwnS w B f us x.row F) : F = [] := by
  obtain ⟨v0, _, G0, _, rfl, rfl, l0, h⟩ := h.uncons
  obtain ⟨v1, _, G1, _, rfl, rfl, l1, h⟩ := h.uncons
  obtain ⟨v2, _, G2, _, rfl, rfl, l2, h⟩ := h.uncons
  obtain ⟨v3, _, G3, _, rfl, rfl, l3, h⟩ := h.uncons
  obtain ⟨rfl, rfl⟩ := h.unnil
  obtain rfl := l0.flat trivial
  obtain rfl := l1.flat trivial
  obtain rfl := l2.flat trivial
  obtain rfl := l3.flat trivial
  rfl
end Tolerance
theorem of_Tolerance {α : Type} {vs : List α} (h : vs.length = 4) : ∃ u0 u1 u2 u3, vs = [u0, u1, u2, u3] := by
  match vs, h with
  | [u0, u1, u2, u3], _ => exact ⟨u0, u1, u2, u3, rfl⟩
end Go.Proofs.YthpgbmglgmjjhaaDoor.ty
