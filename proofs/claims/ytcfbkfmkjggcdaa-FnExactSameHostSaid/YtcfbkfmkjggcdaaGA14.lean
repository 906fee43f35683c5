/- Merged: TyTaint TyHost FlTaint SameHostS SzTaint SzTaintS SzHost ToTaint. -/
import Derived.Test.YtcfbkfmkjggcdaaGA1
import Derived.Test.YtcfbkfmkjggcdaaGA0
import Derived.Test.YtcfbkfmkjggcdaaGA2
import Derived.Test.YtcfbkfmkjggcdaaGA11
import Derived.Test.YtcfbkfmkjggcdaaGA9
import Derived.Laws.Cover1
import Derived.Test.YtcfbkfmkjggcdaaRows
import Derived.ProofKit
import Derived.OpenShut
import Derived.Deep.WholeRow
namespace Go.Proofs.Ytcfbkfmkjggcdaa.ty
open Go Go.RowKit
set_option linter.unusedVariables false

structure Taint where
  key : ByteArray
  value : ByteArray
  effect : Int
namespace Taint
def row (x : Taint) : List C := [.str x.key, .str x.value, .int .i64 x.effect]
theorem row_length (x : Taint) : x.row.length = 3 := rfl
def wt (x : Taint) : Nat := x.key.size + x.value.size
def cost (_ : Taint) : Nat := 3
def mark (_ : Taint) (k : Int) : Taint := ⟨(lawMark.mt k), (lawMark.mt (k + 1)), (k + 2)⟩
def Wf (x : Taint) : Prop := x.key.size ≤ maxLen ∧ x.value.size ≤ maxLen ∧ (Lit.int .i64 x.effect).wf = true
theorem opened {w : World} {f : Nat} {us : List Value} {x : Taint} (h : LiesS w f us x.row) : us = [.string x.key, .string x.value, .int .i64 x.effect] ∧ x.Wf := by
  obtain ⟨v0, _, rfl, l0, h⟩ := h.uncons
  obtain ⟨v1, _, rfl, l1, h⟩ := h.uncons
  obtain ⟨v2, _, rfl, l2, h⟩ := h.uncons
  obtain rfl := h.unnil
  obtain ⟨rfl, w0⟩ := l0.str
  obtain ⟨rfl, w1⟩ := l1.str
  obtain ⟨rfl, w2⟩ := l2.int
  exact ⟨rfl, w0, w1, w2⟩
theorem owned {w : World} {B f : Nat} {x : Taint} (h : x.Wf) : OwnS w B (f + 1) [.string x.key, .string x.value, .int .i64 x.effect] x.row [] := by
  obtain ⟨w0, w1, w2⟩ := h
  exact OwnS.cons (own_str w0) (OwnS.cons (own_str w1) (OwnS.cons (own_int w2) (OwnS.nil)))
theorem lies {w : World} {f : Nat} {x : Taint} (h : x.Wf) : LiesS w (f + 1) [.string x.key, .string x.value, .int .i64 x.effect] x.row := (owned (B := 0) h).lies
theorem flat_of {w : World} {B f : Nat} {us : List Value} {x : Taint} {F : List Nat} (h : OwnS w B f us x.row F) : F = [] := by
  obtain ⟨v0, _, G0, _, rfl, rfl, l0, h⟩ := h.uncons
  obtain ⟨v1, _, G1, _, rfl, rfl, l1, h⟩ := h.uncons
  obtain ⟨v2, _, G2, _, rfl, rfl, l2, h⟩ := h.uncons
  obtain ⟨rfl, rfl⟩ := h.unnil
  obtain rfl := l0.flat trivial
  obtain rfl := l1.flat trivial
  obtain rfl := l2.flat trivial
  rfl
end Taint
theorem of_Taint {α : Type} {vs : List α} (h : vs.length = 3) : ∃ u0 u1 u2, vs = [u0, u1, u2] := by
  match vs, h with
  | [u0, u1, u2], _ => exact ⟨u0, u1, u2, rfl⟩
end Go.Proofs.Ytcfbkfmkjggcdaa.ty
namespace Go.Proofs.Ytcfbkfmkjggcdaa.ty
open Go Go.RowKit
set_option linter.unusedVariables false

structure Host where
  name : ByteArray
  labels : List Label
  cpu : Int
  mem : Int
  slots : Int
  taints : List Taint
namespace Host
def row (x : Host) : List C := [.str x.name, .sl 2 x.labels.length (x.labels.flatMap Label.row), .int .i64 x.cpu, .int .i64 x.mem, .int .i64 x.slots, .sl 3 x.taints.length (x.taints.flatMap Taint.row)]
theorem row_length (x : Host) : x.row.length = 6 := rfl
def wt (x : Host) : Nat := x.name.size + (x.labels.length + wsum Label.wt x.labels) + (x.taints.length + wsum Taint.wt x.taints)
def cost (x : Host) : Nat := 4 + wsum Label.cost x.labels + wsum Taint.cost x.taints
def mark (x : Host) (k : Int) : Host := ⟨(lawMark.mt k), (mks Label.mark Label.cost x.labels (k + 1)), (k + 1 + (wsum Label.cost x.labels : Nat)), (k + 2 + (wsum Label.cost x.labels : Nat)), (k + 3 + (wsum Label.cost x.labels : Nat)), (mks Taint.mark Taint.cost x.taints (k + 4 + (wsum Label.cost x.labels : Nat)))⟩
def Wf (x : Host) : Prop := x.name.size ≤ maxLen ∧ (Lit.int .i64 x.cpu).wf = true ∧ (Lit.int .i64 x.mem).wf = true ∧ (Lit.int .i64 x.slots).wf = true
theorem opened {w : World} {f : Nat} {us : List Value} {x : Host} (h : LiesS w f us x.row) : ∃ A1 c1 A5 c5, us = [.string x.name, .slice A1 x.labels.length c1, .int .i64 x.cpu, .int .i64 x.mem, .int .i64 x.slots, .slice A5 x.taints.length c5] ∧ x.Wf ∧ x.labels.length ≤ c1 ∧ c1 ≤ maxLen ∧ Lies w f (.slice A1 x.labels.length c1) (.sl 2 x.labels.length (x.labels.flatMap Label.row)) ∧ x.taints.length ≤ c5 ∧ c5 ≤ maxLen ∧ Lies w f (.slice A5 x.taints.length c5) (.sl 3 x.taints.length (x.taints.flatMap Taint.row)) := by
  obtain ⟨v0, _, rfl, l0, h⟩ := h.uncons
  obtain ⟨v1, _, rfl, l1, h⟩ := h.uncons
  obtain ⟨v2, _, rfl, l2, h⟩ := h.uncons
  obtain ⟨v3, _, rfl, l3, h⟩ := h.uncons
  obtain ⟨v4, _, rfl, l4, h⟩ := h.uncons
  obtain ⟨v5, _, rfl, l5, h⟩ := h.uncons
  obtain rfl := h.unnil
  obtain ⟨rfl, w0⟩ := l0.str
  obtain ⟨A1, c1, rfl, k1, m1, _⟩ := l1.sl
  obtain ⟨rfl, w2⟩ := l2.int
  obtain ⟨rfl, w3⟩ := l3.int
  obtain ⟨rfl, w4⟩ := l4.int
  obtain ⟨A5, c5, rfl, k5, m5, _⟩ := l5.sl
  exact ⟨A1, c1, A5, c5, rfl, ⟨w0, w2, w3, w4⟩, k1, m1, l1, k5, m5, l5⟩
theorem owned {w : World} {B f : Nat} {x : Host} {v1 v5 : Value} {F1 F5 : List Nat} (h : x.Wf) (o1 : Own w B (f + 1) v1 (.sl 2 x.labels.length (x.labels.flatMap Label.row)) F1) (o5 : Own w B (f + 1) v5 (.sl 3 x.taints.length (x.taints.flatMap Taint.row)) F5) (n1 : F1.Nodup) (n5 : F5.Nodup) (d1_5 : ∀ y ∈ F1, y ∉ F5) : ∃ F, OwnS w B (f + 1) [.string x.name, v1, .int .i64 x.cpu, .int .i64 x.mem, .int .i64 x.slots, v5] x.row F ∧ F.Nodup ∧ ∀ y ∈ F, y ∈ F1 ∨ y ∈ F5 := by
  obtain ⟨w0, w2, w3, w4⟩ := h
  refine ⟨_, OwnS.cons (own_str w0) (OwnS.cons o1 (OwnS.cons (own_int w2) (OwnS.cons (own_int w3) (OwnS.cons (own_int w4) (OwnS.cons o5 (OwnS.nil)))))), ?_, ?_⟩
  · simp only [List.nil_append, List.append_nil]
    exact (List.nodup_append.2 ⟨n1, n5, fun a ha b hb e => d1_5 a ha (by rw [e]; exact hb)⟩)
  · simp only [List.nil_append, List.append_nil]
    intro y hy
    simpa only [List.mem_append] using hy
end Host
theorem of_Host {α : Type} {vs : List α} (h : vs.length = 6) : ∃ u0 u1 u2 u3 u4 u5, vs = [u0, u1, u2, u3, u4, u5] := by
  match vs, h with
  | [u0, u1, u2, u3, u4, u5], _ => exact ⟨u0, u1, u2, u3, u4, u5, rfl⟩
end Go.Proofs.Ytcfbkfmkjggcdaa.ty
namespace Go.Proofs.Ytcfbkfmkjggcdaa.ty
open Go Go.RowKit
set_option linter.unusedVariables false

def Taint.cells (x : Taint) : List Value := [.string x.key, .string x.value, .int .i64 x.effect]
theorem Taint.cells_len (x : Taint) : x.cells.length = 3 := rfl
theorem Taint.cells_one (x : Taint) : ∀ u ∈ x.cells, u.oneCell' = true := by intro u hu; simp [Taint.cells] at hu; rcases hu with rfl | rfl | rfl <;> rfl
theorem Taint.cells_all (x : Taint) : (#[.string x.key, .string x.value, .int .i64 x.effect] : Array Value).all (·.oneCell') = true := by simp [Value.oneCell']
theorem rdk_Taint {w : World} {f : Nat} {A : Option Addr} {l : List Taint} (h : ElsAt Taint.row w f A l 3) : RdK w A l.length 3 (l.flatMap Taint.cells) ∧ ∀ x ∈ l, x.Wf := flt.rdk_of_els Taint.cells_len (by decide) (fun _ _ _ _ h => Taint.opened h) h
theorem own_Taint {w : World} {B : Nat} {e : TypeId} {v : Value} {l : List Taint} (h : w.ownsRow B e 3 v l.length (l.flatMap Taint.cells)) (hw : ∀ x ∈ l, x.Wf) : ∃ F, Own w B 2 v (.sl 3 l.length (l.flatMap Taint.row)) F ∧ F.Nodup ∧ ∀ x ∈ F, B ≤ x ∧ x < w.heap.size := flt.own_vals Taint.row_length (fun _ h => Taint.owned h) h hw
instance inhFlTaint : Inhabited Taint := ⟨⟨⟨#[]⟩, ⟨#[]⟩, 0⟩⟩
end Go.Proofs.Ytcfbkfmkjggcdaa.ty
namespace Go.Proofs.Ytcfbkfmkjggcdaa.pod
open Go.ChangeShapes Go.WideShapes Go.ChangeAt Go.RowKit ty lab need
set_option linter.unusedVariables false
set_option maxRecDepth 100000 in
set_option maxHeartbeats 32000000 in
theorem spec_sameHost (x y : Host) (f1 f2 : Nat) (us vs : List Value) (w : World) (hx : LiesS w f1 us x.row) (hy : LiesS w f2 vs y.row) :
    Calls Try.prog 12 #[.agg us.toArray, .agg vs.toArray] w fun e w' => e = .returned (.bool (yes (x = y))) ∧ Below w.heap.size w w' := by
  obtain ⟨R, hR⟩ : ∃ R, yes (x = y) = R := ⟨_, rfl⟩
  rw [hR]
  have Hno : Hid (¬ x = y → R = false) := fun h => by rw [← hR]; exact yes_f h
  have Hyes : Hid (x = y → R = true) := fun h => by rw [← hR]; exact yes_t h
  clear hR
  obtain ⟨a0, a1, a2, a3, a4, a5⟩ := x
  obtain ⟨b0, b1, b2, b3, b4, b5⟩ := y
  obtain ⟨A1, c1, A5, c5, rfl, hwf, k1, m1, l1, k5, m5, l5⟩ := Host.opened hx
  obtain ⟨B1, d1, B5, d5, rfl, hwf2, k1_, m1_, r1, k5_, m5_, r5⟩ := Host.opened hy
  simp only at k1 m1 l1 k1_ m1_ r1 k5 m5 l5 k5_ m5_ r5
  obtain ⟨_, _, e1, _, _, f1, rfl, hka⟩ := els_of Taint.row_length l5
  injection e1 with e1 _ e2
  subst e1 e2
  obtain ⟨_, _, e1, _, _, f2, rfl, hkb⟩ := els_of Taint.row_length r5
  injection e1 with e1 _ e2
  subst e1 e2
  obtain ⟨w1, hw1⟩ : ∃ w1, w1 = (w.alloc (.cells #[.string a0, .slice A1 a1.length c1, .int .i64 a2, .int .i64 a3, .int .i64 a4, .slice A5 a5.length c5] 43)).alloc (.cells #[.string b0, .slice B1 b1.length d1, .int .i64 b2, .int .i64 b3, .int .i64 b4, .slice B5 b5.length d5] 43) := ⟨_, rfl⟩
  have hb1 : Below w.heap.size w w1 := by rw [hw1]; exact ((Below.refl _ _).alloc (Nat.le_refl _) _).alloc (by simp) _
  have ra1 := Lib.hid (show RowE 43 w1 w.heap.size [.string a0, .slice A1 a1.length c1, .int .i64 a2, .int .i64 a3, .int .i64 a4, .slice A5 a5.length c5] by rw [hw1]; exact (RowE.new _ _ _).alloc)
  have rb1 := Lib.hid (show RowE 43 w1 (w.heap.size + 1) [.string b0, .slice B1 b1.length d1, .int .i64 b2, .int .i64 b3, .int .i64 b4, .slice B5 b5.length d5] by
    have h := RowE.new 43 (w.alloc (.cells #[.string a0, .slice A1 a1.length c1, .int .i64 a2, .int .i64 a3, .int .i64 a4, .slice A5 a5.length c5] 43)) [.string b0, .slice B1 b1.length d1, .int .i64 b2, .int .i64 b3, .int .i64 b4, .slice B5 b5.length d5]
    rw [show (w.alloc (.cells #[.string a0, .slice A1 a1.length c1, .int .i64 a2, .int .i64 a3, .int .i64 a4, .slice A5 a5.length c5] 43)).heap.size = w.heap.size + 1 by simp] at h
    rw [hw1]; exact h)
  have Hw1 := Lib.hid hw1
  have C1 := Lib.hid (fun w' (hb : Below w.heap.size w w') => spec_sameLE a1 b1 _ _ _ _ w' (l1.below hb) (r1.below hb))
  have HB1 := Lib.hid hb1
  have HKa := Lib.hid hka
  have HKb := Lib.hid hkb
  have HM : Hid (a5.length ≤ maxLen) := Nat.le_trans k5 m5
  clear hx hy hwf hwf2 hb1 hw1 hka hkb k1 m1 l1 k1_ m1_ r1 k5 m5 l5 k5_ m5_ r5
  by_cases h0 : a0 = b0
  case neg =>
    have Hf := Lib.hid (Hno.out fun h => h0 (by cases h; rfl))
    clear Hno Hyes
    have n0 := same_no h0
    clear h0
    go_enter Try.func12, Try.ntmps12
    go_wp2_with fail
    rw [← Hw1.out]
    go_ret
    exact ⟨by rw [Hf.out]; rfl, HB1.out⟩
  have n0 := same_yes h0
  have E0 := Lib.hid h0
  clear h0
  by_cases h1 : a1 = b1
  case neg =>
    have Hf := Lib.hid (Hno.out fun h => h1 (by cases h; rfl))
    clear Hno Hyes
    rw [yes_f h1] at C1
    clear h1
    go_enter Try.func12, Try.ntmps12
    go_wp2_with fail
    rw [← Hw1.out]
    refine (C1.out _ HB1.out).mono ?_
    rintro e y1 ⟨rfl, q1⟩
    have HB11 := Lib.hid (below_link HB1.out q1 HB1.out.size)
    have ra11 := Lib.hid (ra1.out.below q1)
    have rb11 := Lib.hid (rb1.out.below q1)
    clear q1
    have p0_1 := ra11.out.cell 0 _ rfl
    have s0_1 := rb11.out.cell 0 _ rfl
    have p1_1 := ra11.out.cell 1 _ rfl
    have s1_1 := rb11.out.cell 1 _ rfl
    have p2_1 := ra11.out.cell 2 _ rfl
    have s2_1 := rb11.out.cell 2 _ rfl
    have p3_1 := ra11.out.cell 3 _ rfl
    have s3_1 := rb11.out.cell 3 _ rfl
    have p4_1 := ra11.out.cell 4 _ rfl
    have s4_1 := rb11.out.cell 4 _ rfl
    have p5_1 := ra11.out.cell 5 _ rfl
    have s5_1 := rb11.out.cell 5 _ rfl
    go_wp2_with fail
    go_ret
    exact ⟨by rw [Hf.out]; rfl, HB11.out⟩
  rw [yes_t h1] at C1
  have E1 := Lib.hid h1
  clear h1
  by_cases h2 : a2 = b2
  case neg =>
    have Hf := Lib.hid (Hno.out fun h => h2 (by cases h; rfl))
    clear Hno Hyes
    have n2 : (a2 != b2) = true := bne_iff_ne.2 h2
    have o2 : (a2 == b2) = false := beq_eq_false_iff_ne.2 h2
    clear h2
    go_enter Try.func12, Try.ntmps12
    go_wp2_with fail
    rw [← Hw1.out]
    refine (C1.out _ HB1.out).mono ?_
    rintro e y1 ⟨rfl, q1⟩
    have HB11 := Lib.hid (below_link HB1.out q1 HB1.out.size)
    have ra11 := Lib.hid (ra1.out.below q1)
    have rb11 := Lib.hid (rb1.out.below q1)
    clear q1
    have p0_1 := ra11.out.cell 0 _ rfl
    have s0_1 := rb11.out.cell 0 _ rfl
    have p1_1 := ra11.out.cell 1 _ rfl
    have s1_1 := rb11.out.cell 1 _ rfl
    have p2_1 := ra11.out.cell 2 _ rfl
    have s2_1 := rb11.out.cell 2 _ rfl
    have p3_1 := ra11.out.cell 3 _ rfl
    have s3_1 := rb11.out.cell 3 _ rfl
    have p4_1 := ra11.out.cell 4 _ rfl
    have s4_1 := rb11.out.cell 4 _ rfl
    have p5_1 := ra11.out.cell 5 _ rfl
    have s5_1 := rb11.out.cell 5 _ rfl
    go_wp2_with fail
    go_ret
    exact ⟨by rw [Hf.out]; rfl, HB11.out⟩
  have n2 : (a2 != b2) = false := by rw [h2]; exact bne_self_eq_false _
  have o2 : (a2 == b2) = true := beq_iff_eq.2 h2
  have E2 := Lib.hid h2
  clear h2
  by_cases h3 : a3 = b3
  case neg =>
    have Hf := Lib.hid (Hno.out fun h => h3 (by cases h; rfl))
    clear Hno Hyes
    have n3 : (a3 != b3) = true := bne_iff_ne.2 h3
    have o3 : (a3 == b3) = false := beq_eq_false_iff_ne.2 h3
    clear h3
    go_enter Try.func12, Try.ntmps12
    go_wp2_with fail
    rw [← Hw1.out]
    refine (C1.out _ HB1.out).mono ?_
    rintro e y1 ⟨rfl, q1⟩
    have HB11 := Lib.hid (below_link HB1.out q1 HB1.out.size)
    have ra11 := Lib.hid (ra1.out.below q1)
    have rb11 := Lib.hid (rb1.out.below q1)
    clear q1
    have p0_1 := ra11.out.cell 0 _ rfl
    have s0_1 := rb11.out.cell 0 _ rfl
    have p1_1 := ra11.out.cell 1 _ rfl
    have s1_1 := rb11.out.cell 1 _ rfl
    have p2_1 := ra11.out.cell 2 _ rfl
    have s2_1 := rb11.out.cell 2 _ rfl
    have p3_1 := ra11.out.cell 3 _ rfl
    have s3_1 := rb11.out.cell 3 _ rfl
    have p4_1 := ra11.out.cell 4 _ rfl
    have s4_1 := rb11.out.cell 4 _ rfl
    have p5_1 := ra11.out.cell 5 _ rfl
    have s5_1 := rb11.out.cell 5 _ rfl
    go_wp2_with fail
    go_ret
    exact ⟨by rw [Hf.out]; rfl, HB11.out⟩
  have n3 : (a3 != b3) = false := by rw [h3]; exact bne_self_eq_false _
  have o3 : (a3 == b3) = true := beq_iff_eq.2 h3
  have E3 := Lib.hid h3
  clear h3
  by_cases h4 : a4 = b4
  case neg =>
    have Hf := Lib.hid (Hno.out fun h => h4 (by cases h; rfl))
    clear Hno Hyes
    have n4 : (a4 != b4) = true := bne_iff_ne.2 h4
    have o4 : (a4 == b4) = false := beq_eq_false_iff_ne.2 h4
    clear h4
    go_enter Try.func12, Try.ntmps12
    go_wp2_with fail
    rw [← Hw1.out]
    refine (C1.out _ HB1.out).mono ?_
    rintro e y1 ⟨rfl, q1⟩
    have HB11 := Lib.hid (below_link HB1.out q1 HB1.out.size)
    have ra11 := Lib.hid (ra1.out.below q1)
    have rb11 := Lib.hid (rb1.out.below q1)
    clear q1
    have p0_1 := ra11.out.cell 0 _ rfl
    have s0_1 := rb11.out.cell 0 _ rfl
    have p1_1 := ra11.out.cell 1 _ rfl
    have s1_1 := rb11.out.cell 1 _ rfl
    have p2_1 := ra11.out.cell 2 _ rfl
    have s2_1 := rb11.out.cell 2 _ rfl
    have p3_1 := ra11.out.cell 3 _ rfl
    have s3_1 := rb11.out.cell 3 _ rfl
    have p4_1 := ra11.out.cell 4 _ rfl
    have s4_1 := rb11.out.cell 4 _ rfl
    have p5_1 := ra11.out.cell 5 _ rfl
    have s5_1 := rb11.out.cell 5 _ rfl
    go_wp2_with fail
    go_ret
    exact ⟨by rw [Hf.out]; rfl, HB11.out⟩
  have n4 : (a4 != b4) = false := by rw [h4]; exact bne_self_eq_false _
  have o4 : (a4 == b4) = true := beq_iff_eq.2 h4
  have E4 := Lib.hid h4
  clear h4
  by_cases h5 : a5.length = b5.length
  case neg =>
    have Hf := Lib.hid (Hno.out fun h => h5 (by cases h; rfl))
    clear Hno Hyes
    have n5 : ((a5.length : Int) != (b5.length : Int)) = true := bne_iff_ne.2 (by omega)
    clear h5
    go_enter Try.func12, Try.ntmps12
    go_wp2_with fail
    rw [← Hw1.out]
    refine (C1.out _ HB1.out).mono ?_
    rintro e y1 ⟨rfl, q1⟩
    have HB11 := Lib.hid (below_link HB1.out q1 HB1.out.size)
    have ra11 := Lib.hid (ra1.out.below q1)
    have rb11 := Lib.hid (rb1.out.below q1)
    clear q1
    have p0_1 := ra11.out.cell 0 _ rfl
    have s0_1 := rb11.out.cell 0 _ rfl
    have p1_1 := ra11.out.cell 1 _ rfl
    have s1_1 := rb11.out.cell 1 _ rfl
    have p2_1 := ra11.out.cell 2 _ rfl
    have s2_1 := rb11.out.cell 2 _ rfl
    have p3_1 := ra11.out.cell 3 _ rfl
    have s3_1 := rb11.out.cell 3 _ rfl
    have p4_1 := ra11.out.cell 4 _ rfl
    have s4_1 := rb11.out.cell 4 _ rfl
    have p5_1 := ra11.out.cell 5 _ rfl
    have s5_1 := rb11.out.cell 5 _ rfl
    go_wp2_with fail
    go_ret
    exact ⟨by rw [Hf.out]; rfl, HB11.out⟩
  have EL := Lib.hid h5
  rw [← h5] at rb1 Hw1 ⊢
  clear h5
  have n5 : ((a5.length : Int) != (a5.length : Int)) = false := bne_self_eq_false _
  go_enter Try.func12, Try.ntmps12
  go_wp2_with fail
  rw [← Hw1.out]
  refine (C1.out _ HB1.out).mono ?_
  rintro e y1 ⟨rfl, q1⟩
  have HB11 := Lib.hid (below_link HB1.out q1 HB1.out.size)
  have ra11 := Lib.hid (ra1.out.below q1)
  have rb11 := Lib.hid (rb1.out.below q1)
  clear q1
  have p0_1 := ra11.out.cell 0 _ rfl
  have s0_1 := rb11.out.cell 0 _ rfl
  have p1_1 := ra11.out.cell 1 _ rfl
  have s1_1 := rb11.out.cell 1 _ rfl
  have p2_1 := ra11.out.cell 2 _ rfl
  have s2_1 := rb11.out.cell 2 _ rfl
  have p3_1 := ra11.out.cell 3 _ rfl
  have s3_1 := rb11.out.cell 3 _ rfl
  have p4_1 := ra11.out.cell 4 _ rfl
  have s4_1 := rb11.out.cell 4 _ rfl
  have p5_1 := ra11.out.cell 5 _ rfl
  have s5_1 := rb11.out.cell 5 _ rfl
  go_wp2_with fail
  clear p0_1 s0_1 p1_1 s1_1 p2_1 s2_1 p3_1 s3_1 p4_1 s4_1 p5_1 s5_1
  go_loopw [5] (fun i wr => ∃ j : Nat, j ≤ a5.length ∧ i = .int .i64 j ∧ Hid (∀ q (h1 : q < a5.length) (h2 : q < b5.length), q < j → a5[q] = b5[q]) ∧ ∃ n, wr = y1.drewN n) (fun i _ => a5.length - (intOf i).toNat)
  case atStart => exact ⟨0, Nat.zero_le _, rfl, fun _ _ _ h => by omega, 0, rfl⟩
  case round =>
    obtain ⟨j, hj, rfl, hall, n0, hwr⟩ := hrel
    have Hw : Hid (∃ n, wr = y1.drewN n) := ⟨n0, hwr⟩
    have s1 : wr.cell? ⟨w.heap.size, 5, none⟩ = some (.slice A5 a5.length c5) := by rw [hwr]; exact ra11.out.cell 5 _ rfl
    have s2 : wr.cell? ⟨w.heap.size + 1, 5, none⟩ = some (.slice B5 a5.length d5) := by rw [hwr]; exact rb11.out.cell 5 _ rfl
    have hmx := HM.out
    unfold maxLen at hmx
    by_cases hlt : j < a5.length
    · have hlb : j < b5.length := by rw [← EL.out]; exact hlt
      obtain ⟨g1, o1, hA1, hg1, us1, hus1, hcc1, hls1⟩ := (HKa.out.below HB11.out).get hlt
      obtain ⟨g2, o2, hA2, hg2, us2, hus2, hcc2, hls2⟩ := (HKb.out.below HB11.out).get hlb
      obtain ⟨rfl, hwf1⟩ := Taint.opened hls1
      obtain ⟨rfl, hwf2⟩ := Taint.opened hls2
      have q0 : wr.cell? ⟨g1, o1 + j * 3, none⟩ = some (.string a5[j].key) := by rw [hwr]; exact hcc1 0 _ rfl
      have q1 : wr.cell? ⟨g1, o1 + j * 3 + 1, none⟩ = some (.string a5[j].value) := by rw [hwr]; exact hcc1 1 _ rfl
      have q2 : wr.cell? ⟨g1, o1 + j * 3 + 2, none⟩ = some (.int .i64 a5[j].effect) := by rw [hwr]; exact hcc1 2 _ rfl
      have r0 : wr.cell? ⟨g2, o2 + j * 3, none⟩ = some (.string b5[j].key) := by rw [hwr]; exact hcc2 0 _ rfl
      have r1 : wr.cell? ⟨g2, o2 + j * 3 + 1, none⟩ = some (.string b5[j].value) := by rw [hwr]; exact hcc2 1 _ rfl
      have r2 : wr.cell? ⟨g2, o2 + j * 3 + 2, none⟩ = some (.int .i64 b5[j].effect) := by rw [hwr]; exact hcc2 2 _ rfl
      subst hA1 hA2
      have hj0 : (0 : Int) ≤ (j : Int) := by omega
      have hjn : (j : Int) < (a5.length : Int) := by omega
      clear hls1 hls2 hus1 hus2 hcc1 hcc2 hwf1 hwf2 hwr hg1 hg2
      have Hno2 := Lib.hid (fun (h : ¬ a5[j] = b5[j]) => Hno.out fun h3 => h (by cases h3; rfl))
      have Hnx := Lib.hid (fun (h : a5[j] = b5[j]) => show ∀ q (h1 : q < a5.length) (h2 : q < b5.length), q < j + 1 → a5[q] = b5[q] from fun q h1 h2 h3 => by
        by_cases e : q = j
        · subst e; exact h
        · exact hall.out q h1 h2 (by omega))
      clear hall
      generalize a5[j] = x at q0 q1 q2 Hno2 Hnx
      generalize b5[j] = y at r0 r1 r2 Hno2 Hnx
      by_cases h0 : x.key = y.key
      case neg =>
        have Hf := Lib.hid (Hno2.out fun h => h0 (by rw [h]))
        have d0 := same_no h0
        clear Hno2 Hnx Hno Hyes h0
        obtain ⟨n1, hn1⟩ := Hw.out
        have HZ := Lib.hid (show Below w.heap.size w wr by rw [hn1]; exact below_drewN HB11.out _)
        clear hn1
        go_wp2_with fail
        go_quiet (fail)
        go_wp2_with fail
        go_ret
        exact ⟨by rw [Hf.out]; rfl, below_drewN HZ.out _⟩
      have d0 := same_yes h0
      by_cases h1 : x.value = y.value
      case neg =>
        have Hf := Lib.hid (Hno2.out fun h => h1 (by rw [h]))
        have d1 := same_no h1
        clear Hno2 Hnx Hno Hyes h0 h1
        obtain ⟨n1, hn1⟩ := Hw.out
        have HZ := Lib.hid (show Below w.heap.size w wr by rw [hn1]; exact below_drewN HB11.out _)
        clear hn1
        go_wp2_with fail
        go_quiet (fail)
        go_wp2_with fail
        go_ret
        exact ⟨by rw [Hf.out]; rfl, below_drewN HZ.out _⟩
      have d1 := same_yes h1
      by_cases h2 : x.effect = y.effect
      case neg =>
        have Hf := Lib.hid (Hno2.out fun h => h2 (by rw [h]))
        have d2 : (x.effect == y.effect) = false := beq_eq_false_iff_ne.2 h2
        clear Hno2 Hnx Hno Hyes h0 h1 h2
        obtain ⟨n1, hn1⟩ := Hw.out
        have HZ := Lib.hid (show Below w.heap.size w wr by rw [hn1]; exact below_drewN HB11.out _)
        clear hn1
        go_wp2_with fail
        go_quiet (fail)
        go_wp2_with fail
        go_ret
        exact ⟨by rw [Hf.out]; rfl, below_drewN HZ.out _⟩
      have d2 : (x.effect == y.effect) = true := beq_iff_eq.2 h2
      have Hn := Lib.hid (Hnx.out (by cases x; cases y; simp only at *; subst h0; subst h1; subst h2; rfl))
      clear Hno2 Hnx Hno Hyes h0 h1 h2
      go_wp2_with fail
      go_quiet (fail)
      go_wp2_with fail
      go_roundw
      case rel => exact ⟨j + 1, by omega, by go_num, Hn.out, drew_of Hw.out _⟩
      case measure => simp [intOf]; omega
    · obtain rfl : j = a5.length := by omega
      have hL : a5 = b5 := List.ext_getElem EL.out (fun i h1 h2 => hall.out i h1 h2 h1)
      have Hf := Lib.hid (Hyes.out (by rw [E0.out, E1.out, E2.out, E3.out, E4.out, hL]))
      have HZ := Lib.hid (show Below w.heap.size w wr by rw [hwr]; exact below_drewN HB11.out _)
      clear hL hall hwr Hno Hyes
      go_wp2_with fail
      go_ret
      exact ⟨by rw [Hf.out]; rfl, HZ.out⟩
end Go.Proofs.Ytcfbkfmkjggcdaa.pod
namespace Go.Proofs.Ytcfbkfmkjggcdaa.ty
open Go.ChangeShapes Go.WideShapes Go.ChangeAt Go.RowKit
set_option linter.unusedVariables false

theorem szTaint (x : Taint) (left : Int) (w : World) (hx : x.Wf) (hl : LeftN left) :
    Calls Try.prog 54 #[.agg #[.string x.key, .string x.value, .int .i64 x.effect], .int .i64 left] w fun e w' => e = .returned (.int .i64 (cutN left x.wt)) ∧ Below w.heap.size w w' := by
  obtain ⟨a0, a1, a2⟩ := x
  obtain ⟨w0, w1, w2⟩ := hx
  simp only at *
  unfold maxLen at w0 w1
  unfold LeftN at hl
  rw [show Taint.wt ⟨a0, a1, a2⟩ = a0.size + a1.size from rfl]
  have Hb := Lib.hid ((Below.refl w.heap.size w).alloc (Nat.le_refl _) (.cells #[.string a0, .string a1, .int .i64 a2] 92))
  by_cases h0 : left < (a0.size : Int)
  · have He := Lib.hid (cutN_no (show left < ((a0.size + a1.size : Nat) : Int) by omega))
    go_enter Try.func54, Try.ntmps54
    go_wp2_with fail
    go_ret
    exact ⟨by rw [He.out]; rfl, Hb.out⟩
  by_cases h1 : left - a0.size < (a1.size : Int)
  · have He := Lib.hid (cutN_no (show left < ((a0.size + a1.size : Nat) : Int) by omega))
    go_enter Try.func54, Try.ntmps54
    go_wp2_with fail
    go_ret
    exact ⟨by rw [He.out]; rfl, Hb.out⟩
  have He := Lib.hid (cutN_yes (show ¬ left < ((a0.size + a1.size : Nat) : Int) by omega))
  have He2 := Lib.hid (show left - ((a0.size + a1.size : Nat) : Int) = left - a0.size - a1.size by omega)
  go_enter Try.func54, Try.ntmps54
  go_wp2_with fail
  go_ret
  exact ⟨by rw [He.out, He2.out]; rfl, Hb.out⟩
end Go.Proofs.Ytcfbkfmkjggcdaa.ty
namespace Go.Proofs.Ytcfbkfmkjggcdaa.ty
open Go.ChangeShapes Go.WideShapes Go.ChangeAt Go.RowKit
set_option linter.unusedVariables false

theorem szTaintS (l : List Taint) (f : Nat) (v : Value) (left : Int) (w : World) (h : Lies w f v (.sl 3 l.length (l.flatMap Taint.row))) (hl : LeftN left) :
    Calls Try.prog 35 #[v, .int .i64 left] w fun e w' => e = .returned (.int .i64 (cutN left (l.length + wsum Taint.wt l))) ∧ Below w.heap.size w w' := by
  obtain ⟨A, c, rfl, hc1, hc2, f', rfl, hk⟩ := els_of Taint.row_length h
  unfold maxLen at hc2
  unfold LeftN at hl
  have Hk := Lib.hid hk
  clear h hk
  by_cases h0 : left < l.length
  · have He := Lib.hid (cutN_no (show left < ((l.length + wsum Taint.wt l : Nat) : Int) by omega))
    go_enter Try.func35, Try.ntmps35
    go_wp2_with fail
    go_ret
    exact ⟨by rw [He.out]; rfl, Below.refl _ _⟩
  go_enter Try.func35, Try.ntmps35
  go_wp2_with fail
  go_loopw [1, 5] (fun a i wr => ∃ (j : Nat) (z : Int), j ≤ l.length ∧ i = .int .i64 j ∧ a = .int .i64 z ∧ 0 ≤ z ∧ z ≤ 1048576 ∧ Hid (z = left - l.length - wsum Taint.wt (l.take j)) ∧ Below w.heap.size w wr) (fun _ i _ => l.length - (intOf i).toNat)
  case atStart => exact ⟨0, left - l.length, Nat.zero_le _, rfl, rfl, by omega, by omega, by unfold Hid; simp [wsum], Below.refl _ _⟩
  case round =>
    obtain ⟨j, z, hj, rfl, rfl, hz0, hz1, hin, hbel⟩ := hrel
    by_cases hlt : j < l.length
    · obtain ⟨g, o, rfl, hg, us, hus, hc, hls⟩ := (Hk.out.below hbel).get hlt
      obtain ⟨rfl, hwf⟩ := Taint.opened hls
      have q0 : wr.cell? ⟨g, o + j * 3, none⟩ = some (.string l[j].key) := hc 0 _ rfl
      have q1 : wr.cell? ⟨g, o + j * 3 + 1, none⟩ = some (.string l[j].value) := hc 1 _ rfl
      have q2 : wr.cell? ⟨g, o + j * 3 + 2, none⟩ = some (.int .i64 l[j].effect) := hc 2 _ rfl
      have HC := Lib.hid (szTaint l[j] z wr hwf ⟨hz0, hz1⟩)
      have hnext := wsum_take Taint.wt hlt
      have hall := wsum_all Taint.wt l (j + 1)
      have Hbel := Lib.hid hbel
      clear hls hbel hg hus hc hwf
      by_cases h1 : z < (l[j].wt : Int)
      · have He := Lib.hid (cutN_no (show left < ((l.length + wsum Taint.wt l : Nat) : Int) by have := hin.out; omega))
        rw [cutN_no h1] at HC
        clear hnext hall hin h1
        generalize l[j] = x at q0 q1 q2 HC
        go_wp2_with fail
        refine HC.out.mono ?_
        rintro e w1 ⟨rfl, hb1⟩
        have Hbel1 := Lib.hid (Hbel.out.trans (hb1.mono Hbel.out.size))
        clear hb1 q0 q1 q2
        go_wp2_with fail
        go_ret
        exact ⟨by rw [He.out]; rfl, Hbel1.out⟩
      · have Hin := Lib.hid (show z - l[j].wt = left - l.length - wsum Taint.wt (l.take (j + 1)) by have := hin.out; omega)
        rw [cutN_yes h1] at HC
        clear hnext hall hin
        generalize l[j] = x at q0 q1 q2 HC h1 Hin
        generalize x.wt = y at HC h1 Hin
        go_wp2_with fail
        refine HC.out.mono ?_
        rintro e w1 ⟨rfl, hb1⟩
        have Hbel1 := Lib.hid (Hbel.out.trans (hb1.mono Hbel.out.size))
        clear hb1 q0 q1 q2
        go_wp2_with fail
        go_roundw
        case rel => exact ⟨j + 1, z - y, by omega, by go_num, rfl, by omega, by omega, Hin.out, Hbel1.out⟩
        case measure => simp [intOf]; omega
    · obtain rfl : j = l.length := by omega
      rw [List.take_of_length_le (Nat.le_refl _)] at hin
      have He := Lib.hid (cutN_yes (show ¬ left < ((l.length + wsum Taint.wt l : Nat) : Int) by have := hin.out; omega))
      have Hin := Lib.hid (show left - ((l.length + wsum Taint.wt l : Nat) : Int) = z by have := hin.out; omega)
      have Hbel := Lib.hid hbel
      clear hin hbel
      go_wp2_with fail
      go_ret
      exact ⟨by rw [He.out, Hin.out]; rfl, Hbel.out⟩
end Go.Proofs.Ytcfbkfmkjggcdaa.ty
namespace Go.Proofs.Ytcfbkfmkjggcdaa.ty
open Go.ChangeShapes Go.WideShapes Go.ChangeAt Go.RowKit
set_option linter.unusedVariables false

theorem szHost (x : Host) (f : Nat) (vs : List Value) (left : Int) (w : World) (h : LiesS w f vs x.row) (hl : LeftN left) :
    Calls Try.prog 11 #[.agg vs.toArray, .int .i64 left] w fun e w' => e = .returned (.int .i64 (cutN left x.wt)) ∧ Below w.heap.size w w' := by
  obtain ⟨a0, a1, a2, a3, a4, a5⟩ := x
  obtain ⟨A1, c1, A5, c5, rfl, hwf, k1, m1, l1, k5, m5, l5⟩ := Host.opened h
  simp only [Host.Wf] at *
  obtain ⟨w0, w2, w3, w4⟩ := hwf
  unfold maxLen at w0
  unfold LeftN at hl
  rw [show Host.wt ⟨a0, a1, a2, a3, a4, a5⟩ = a0.size + (a1.length + wsum Label.wt a1) + (a5.length + wsum Taint.wt a5) from rfl]
  have HB := Lib.hid (Box.new 38 w [.string a0, .slice A1 a1.length c1, .int .i64 a2, .int .i64 a3, .int .i64 a4, .slice A5 a5.length c5])
  have H1 := Lib.hid (fun w1 left (hb : Below w.heap.size w w1) hl => szLabelS a1 f (.slice A1 a1.length c1) left w1 (l1.below hb) hl)
  have H5 := Lib.hid (fun w1 left (hb : Below w.heap.size w w1) hl => szTaintS a5 f (.slice A5 a5.length c5) left w1 (l5.below hb) hl)
  clear h l1 k1 m1 l5 k5 m5
  have p0 := HB.out.cell (j := 0) rfl
  have p1 := HB.out.cell (j := 1) rfl
  have p5 := HB.out.cell (j := 5) rfl
  generalize hX1 : a1.length + wsum Label.wt a1 = X1 at H1 ⊢
  generalize hX5 : a5.length + wsum Taint.wt a5 = X5 at H5 ⊢
  by_cases h0 : left < (a0.size : Int)
  · have He := Lib.hid (cutN_no (show left < ((a0.size + X1 + X5 : Nat) : Int) by omega))
    clear hX1 H1 hX5 H5
    go_enter Try.func11, Try.ntmps11
    go_wp2_with fail
    go_ret
    exact ⟨by rw [He.out]; rfl, HB.out.1⟩
  by_cases h1 : left - (a0.size : Int) < (X1 : Int)
  · have He := Lib.hid (cutN_no (show left < ((a0.size + X1 + X5 : Nat) : Int) by omega))
    have J1 := Lib.hid (fun w1 hb => H1.out w1 (left - (a0.size : Int)) hb ⟨by omega, by omega⟩)
    rw [cutN_no h1] at J1
    clear hX1 H1 hX5 H5
    go_enter Try.func11, Try.ntmps11
    go_wp2_with fail
    refine (J1.out _ HB.out.1).mono ?_
    rintro e x1 ⟨rfl, hb1⟩
    have HB1 := Lib.hid (HB.out.below hb1)
    have p5_1 := HB1.out.cell (j := 5) rfl
    clear hb1 J1
    go_wp2_with fail
    go_ret
    exact ⟨by rw [He.out]; rfl, HB1.out.1⟩
  by_cases h5 : left - (a0.size : Int) - (X1 : Int) < (X5 : Int)
  · have He := Lib.hid (cutN_no (show left < ((a0.size + X1 + X5 : Nat) : Int) by omega))
    have J1 := Lib.hid (fun w1 hb => H1.out w1 (left - (a0.size : Int)) hb ⟨by omega, by omega⟩)
    rw [cutN_yes h1] at J1
    have J5 := Lib.hid (fun w1 hb => H5.out w1 (left - (a0.size : Int) - (X1 : Int)) hb ⟨by omega, by omega⟩)
    rw [cutN_no h5] at J5
    clear hX1 H1 hX5 H5
    go_enter Try.func11, Try.ntmps11
    go_wp2_with fail
    refine (J1.out _ HB.out.1).mono ?_
    rintro e x1 ⟨rfl, hb1⟩
    have HB1 := Lib.hid (HB.out.below hb1)
    have p5_1 := HB1.out.cell (j := 5) rfl
    clear hb1 J1
    go_wp2_with fail
    refine (J5.out _ HB1.out.1).mono ?_
    rintro e x5 ⟨rfl, hb5⟩
    have HB5 := Lib.hid (HB1.out.below hb5)
    clear hb5 J5
    go_wp2_with fail
    go_ret
    exact ⟨by rw [He.out]; rfl, HB5.out.1⟩
  have He := Lib.hid (cutN_yes (show ¬ left < ((a0.size + X1 + X5 : Nat) : Int) by omega))
  have He2 := Lib.hid (show left - ((a0.size + X1 + X5 : Nat) : Int) = left - (a0.size : Int) - (X1 : Int) - (X5 : Int) by omega)
  have J1 := Lib.hid (fun w1 hb => H1.out w1 (left - (a0.size : Int)) hb ⟨by omega, by omega⟩)
  rw [cutN_yes h1] at J1
  have J5 := Lib.hid (fun w1 hb => H5.out w1 (left - (a0.size : Int) - (X1 : Int)) hb ⟨by omega, by omega⟩)
  rw [cutN_yes h5] at J5
  clear hX1 H1 hX5 H5
  go_enter Try.func11, Try.ntmps11
  go_wp2_with fail
  refine (J1.out _ HB.out.1).mono ?_
  rintro e x1 ⟨rfl, hb1⟩
  have HB1 := Lib.hid (HB.out.below hb1)
  have p5_1 := HB1.out.cell (j := 5) rfl
  clear hb1 J1
  go_wp2_with fail
  refine (J5.out _ HB1.out.1).mono ?_
  rintro e x5 ⟨rfl, hb5⟩
  have HB5 := Lib.hid (HB1.out.below hb5)
  clear hb5 J5
  go_wp2_with fail
  go_ret
  exact ⟨by rw [He.out, He2.out]; rfl, HB5.out.1⟩
end Go.Proofs.Ytcfbkfmkjggcdaa.ty
namespace Go.Proofs.Ytcfbkfmkjggcdaa.ty
open Go.ChangeShapes Go.WideShapes Go.ChangeAt Go.RowKit
set_option linter.unusedVariables false

theorem sizeTaint : (Try.prog.info? 67).map (·.size) = some 3 := by kernel_rfl
theorem toTaint (x : Taint) (w : World) (hx : x.Wf) :
    Calls Try.prog 55 #[.agg #[.string x.key, .string x.value, .int .i64 x.effect]] w fun e w' => e = .returned (.agg #[.string x.key, .string x.value, .int .i64 x.effect]) ∧ Below w.heap.size w w' := by
  obtain ⟨a0, a1, a2⟩ := x
  clear hx
  simp only
  have Hb : Hid (∀ (a b c : Obj), Below w.heap.size w (((w.alloc a).alloc b).alloc c)) := fun a b c => (((Below.refl _ _).alloc (Nat.le_refl _) a).alloc (by simp) b).alloc (by simp <;> omega) c
  go_enter Try.func55, Try.ntmps55
  go_wp2_with fail
  refine bodyPost_ret (v := .agg #[.string a0, .string a1, .int .i64 a2]) ?_ rfl ⟨rfl, Hb.out _ _ _⟩
  have hrow : (((w.alloc (.cells #[.string a0, .string a1, .int .i64 a2] 92)).alloc (.cells #[.string a0, .string a1, .int .i64 a2] 67)).alloc (.cells #[.string a0, .string a1, .int .i64 a2] 67)).heap[w.heap.size + 1]? = some (.cells #[.string a0, .string a1, .int .i64 a2] 67 (0, 0)) := by
    rw [Below.heap_alloc _ _ _ (by simp)]
    have h := heap_alloc_new (w.alloc (.cells #[.string a0, .string a1, .int .i64 a2] 92)) (.cells #[.string a0, .string a1, .int .i64 a2] 67)
    simpa using h
  exact results_cell_row rfl _ _ (w.heap.size + 1) _ #[.string a0, .string a1, .int .i64 a2] (0, 0) _ rfl hrow Try.underlying67 rfl sizeTaint
end Go.Proofs.Ytcfbkfmkjggcdaa.ty
