/- Merged: TyTolerance TyPod SzStr SzNeed SzNeedS SzTolerance SzToleranceS SzPod ToStr ToNeed. -/
import Derived.Test.YtcfbkfmkjggcdaaGA1
import Derived.Test.YtcfbkfmkjggcdaaGA0
import Derived.Test.YtcfbkfmkjggcdaaRows
import Derived.ProofKit
import Derived.OpenShut
import Derived.Test.YtcfbkfmkjggcdaaGA2
import Derived.Test.YtcfbkfmkjggcdaaGA12
import Derived.Deep.WholeRow
namespace Go.Proofs.Ytcfbkfmkjggcdaa.ty
open Go Go.RowKit
set_option linter.unusedVariables false

structure Tolerance where
  key : ByteArray
  equal : Bool
  value : ByteArray
  effect : Int
namespace Tolerance
def row (x : Tolerance) : List C := [.str x.key, .bool x.equal, .str x.value, .int .i64 x.effect]
theorem row_length (x : Tolerance) : x.row.length = 4 := rfl
def wt (x : Tolerance) : Nat := x.key.size + x.value.size
def cost (_ : Tolerance) : Nat := 4
def mark (_ : Tolerance) (k : Int) : Tolerance := ⟨(lawMark.mt k), (decide ((k + 1) % 3 = 0)), (lawMark.mt (k + 2)), (k + 3)⟩
def Wf (x : Tolerance) : Prop := x.key.size ≤ maxLen ∧ x.value.size ≤ maxLen ∧ (Lit.int .i64 x.effect).wf = true
theorem opened {w : World} {f : Nat} {us : List Value} {x : Tolerance} (h : LiesS w f us x.row) : us = [.string x.key, .bool x.equal, .string x.value, .int .i64 x.effect] ∧ x.Wf := by
  obtain ⟨v0, _, rfl, l0, h⟩ := h.uncons
  obtain ⟨v1, _, rfl, l1, h⟩ := h.uncons
  obtain ⟨v2, _, rfl, l2, h⟩ := h.uncons
  obtain ⟨v3, _, rfl, l3, h⟩ := h.uncons
  obtain rfl := h.unnil
  obtain ⟨rfl, w0⟩ := l0.str
  obtain rfl := l1.bool
  obtain ⟨rfl, w2⟩ := l2.str
  obtain ⟨rfl, w3⟩ := l3.int
  exact ⟨rfl, w0, w2, w3⟩
theorem owned {w : World} {B f : Nat} {x : Tolerance} (h : x.Wf) : OwnS w B (f + 1) [.string x.key, .bool x.equal, .string x.value, .int .i64 x.effect] x.row [] := by
  obtain ⟨w0, w2, w3⟩ := h
  exact OwnS.cons (own_str w0) (OwnS.cons own_bool (OwnS.cons (own_str w2) (OwnS.cons (own_int w3) (OwnS.nil))))
theorem lies {w : World} {f : Nat} {x : Tolerance} (h : x.Wf) : LiesS w (f + 1) [.string x.key, .bool x.equal, .string x.value, .int .i64 x.effect] x.row := (owned (B := 0) h).lies
theorem flat_of {w : World} {B f : Nat} {us : List Value} {x : Tolerance} {F : List Nat} (h : OwnS w B f us x.row F) : F = [] := by
  obtain ⟨v0, _, G0, _, rfl, rfl, l0, h⟩ := h.uncons
  obtain ⟨v1, _, G1, _, rfl, rfl, l1, h⟩ := h.uncons
  obtain ⟨v2, _, G2, _, rfl, rfl, l2, h⟩ := h.uncons
  obtain ⟨v3, _, G3, _, rfl, rfl, l3, h⟩ := h.uncons
  obtain ⟨rfl, rfl⟩ := h.unnil
  obtain rfl := l0.flat trivial
  obtain rfl := l1.flat trivial
  obtain rfl := l2.flat trivial
  obtain rfl := l3.flat trivial
  rfl
end Tolerance
theorem of_Tolerance {α : Type} {vs : List α} (h : vs.length = 4) : ∃ u0 u1 u2 u3, vs = [u0, u1, u2, u3] := by
  match vs, h with
  | [u0, u1, u2, u3], _ => exact ⟨u0, u1, u2, u3, rfl⟩
end Go.Proofs.Ytcfbkfmkjggcdaa.ty
namespace Go.Proofs.Ytcfbkfmkjggcdaa.ty
open Go Go.RowKit
set_option linter.unusedVariables false

structure Pod where
  name : ByteArray
  labels : List Label
  cpu : Int
  mem : Int
  rank : Int
  needs : List Need
  tolerances : List Tolerance
namespace Pod
def row (x : Pod) : List C := [.str x.name, .sl 2 x.labels.length (x.labels.flatMap Label.row), .int .i64 x.cpu, .int .i64 x.mem, .int .i64 x.rank, .sl 3 x.needs.length (x.needs.flatMap Need.row), .sl 4 x.tolerances.length (x.tolerances.flatMap Tolerance.row)]
theorem row_length (x : Pod) : x.row.length = 7 := rfl
def wt (x : Pod) : Nat := x.name.size + (x.labels.length + wsum Label.wt x.labels) + (x.needs.length + wsum Need.wt x.needs) + (x.tolerances.length + wsum Tolerance.wt x.tolerances)
def cost (x : Pod) : Nat := 4 + wsum Label.cost x.labels + wsum Need.cost x.needs + wsum Tolerance.cost x.tolerances
def mark (x : Pod) (k : Int) : Pod := ⟨(lawMark.mt k), (mks Label.mark Label.cost x.labels (k + 1)), (k + 1 + (wsum Label.cost x.labels : Nat)), (k + 2 + (wsum Label.cost x.labels : Nat)), (k + 3 + (wsum Label.cost x.labels : Nat)), (mks Need.mark Need.cost x.needs (k + 4 + (wsum Label.cost x.labels : Nat))), (mks Tolerance.mark Tolerance.cost x.tolerances (k + 4 + (wsum Label.cost x.labels : Nat) + (wsum Need.cost x.needs : Nat)))⟩
def Wf (x : Pod) : Prop := x.name.size ≤ maxLen ∧ (Lit.int .i64 x.cpu).wf = true ∧ (Lit.int .i64 x.mem).wf = true ∧ (Lit.int .i64 x.rank).wf = true
theorem opened {w : World} {f : Nat} {us : List Value} {x : Pod} (h : LiesS w f us x.row) : ∃ A1 c1 A5 c5 A6 c6, us = [.string x.name, .slice A1 x.labels.length c1, .int .i64 x.cpu, .int .i64 x.mem, .int .i64 x.rank, .slice A5 x.needs.length c5, .slice A6 x.tolerances.length c6] ∧ x.Wf ∧ x.labels.length ≤ c1 ∧ c1 ≤ maxLen ∧ Lies w f (.slice A1 x.labels.length c1) (.sl 2 x.labels.length (x.labels.flatMap Label.row)) ∧ x.needs.length ≤ c5 ∧ c5 ≤ maxLen ∧ Lies w f (.slice A5 x.needs.length c5) (.sl 3 x.needs.length (x.needs.flatMap Need.row)) ∧ x.tolerances.length ≤ c6 ∧ c6 ≤ maxLen ∧ Lies w f (.slice A6 x.tolerances.length c6) (.sl 4 x.tolerances.length (x.tolerances.flatMap Tolerance.row)) := by
  obtain ⟨v0, _, rfl, l0, h⟩ := h.uncons
  obtain ⟨v1, _, rfl, l1, h⟩ := h.uncons
  obtain ⟨v2, _, rfl, l2, h⟩ := h.uncons
  obtain ⟨v3, _, rfl, l3, h⟩ := h.uncons
  obtain ⟨v4, _, rfl, l4, h⟩ := h.uncons
  obtain ⟨v5, _, rfl, l5, h⟩ := h.uncons
  obtain ⟨v6, _, rfl, l6, h⟩ := h.uncons
  obtain rfl := h.unnil
  obtain ⟨rfl, w0⟩ := l0.str
  obtain ⟨A1, c1, rfl, k1, m1, _⟩ := l1.sl
  obtain ⟨rfl, w2⟩ := l2.int
  obtain ⟨rfl, w3⟩ := l3.int
  obtain ⟨rfl, w4⟩ := l4.int
  obtain ⟨A5, c5, rfl, k5, m5, _⟩ := l5.sl
  obtain ⟨A6, c6, rfl, k6, m6, _⟩ := l6.sl
  exact ⟨A1, c1, A5, c5, A6, c6, rfl, ⟨w0, w2, w3, w4⟩, k1, m1, l1, k5, m5, l5, k6, m6, l6⟩
theorem owned {w : World} {B f : Nat} {x : Pod} {v1 v5 v6 : Value} {F1 F5 F6 : List Nat} (h : x.Wf) (o1 : Own w B (f + 1) v1 (.sl 2 x.labels.length (x.labels.flatMap Label.row)) F1) (o5 : Own w B (f + 1) v5 (.sl 3 x.needs.length (x.needs.flatMap Need.row)) F5) (o6 : Own w B (f + 1) v6 (.sl 4 x.tolerances.length (x.tolerances.flatMap Tolerance.row)) F6) (n1 : F1.Nodup) (n5 : F5.Nodup) (n6 : F6.Nodup) (d1_5 : ∀ y ∈ F1, y ∉ F5) (d1_6 : ∀ y ∈ F1, y ∉ F6) (d5_6 : ∀ y ∈ F5, y ∉ F6) : ∃ F, OwnS w B (f + 1) [.string x.name, v1, .int .i64 x.cpu, .int .i64 x.mem, .int .i64 x.rank, v5, v6] x.row F ∧ F.Nodup ∧ ∀ y ∈ F, y ∈ F1 ∨ y ∈ F5 ∨ y ∈ F6 := by
  obtain ⟨w0, w2, w3, w4⟩ := h
  refine ⟨_, OwnS.cons (own_str w0) (OwnS.cons o1 (OwnS.cons (own_int w2) (OwnS.cons (own_int w3) (OwnS.cons (own_int w4) (OwnS.cons o5 (OwnS.cons o6 (OwnS.nil))))))), ?_, ?_⟩
  · simp only [List.nil_append, List.append_nil]
    exact (List.nodup_append.2 ⟨n1, (List.nodup_append.2 ⟨n5, n6, fun a ha b hb e => d5_6 a ha (by rw [e]; exact hb)⟩), fun a ha b hb e => (List.mem_append.1 hb).elim (fun hb => d1_5 a ha (by rw [e]; exact hb)) (fun hb => d1_6 a ha (by rw [e]; exact hb))⟩)
  · simp only [List.nil_append, List.append_nil]
    intro y hy
    simpa only [List.mem_append] using hy
end Pod
theorem of_Pod {α : Type} {vs : List α} (h : vs.length = 7) : ∃ u0 u1 u2 u3 u4 u5 u6, vs = [u0, u1, u2, u3, u4, u5, u6] := by
  match vs, h with
  | [u0, u1, u2, u3, u4, u5, u6], _ => exact ⟨u0, u1, u2, u3, u4, u5, u6, rfl⟩
end Go.Proofs.Ytcfbkfmkjggcdaa.ty
namespace Go.Proofs.Ytcfbkfmkjggcdaa.ty
open Go.ChangeShapes Go.WideShapes Go.ChangeAt Go.RowKit
set_option linter.unusedVariables false

theorem szStr (ks : List ByteArray) (f : Nat) (v : Value) (left : Int) (w : World) (h : Lies w f v (.sl 1 ks.length (ks.flatMap Str.row))) (hl : LeftN left) :
    Calls Try.prog 59 #[v, .int .i64 left] w fun e w' => e = .returned (.int .i64 (cutN left (ks.length + wsum Str.wt ks))) ∧ Below w.heap.size w w' := by
  obtain ⟨A, c, rfl, hc, hm, hr, hks⟩ := Str.opened h
  unfold maxLen at hm
  unfold LeftN at hl
  have Hr := Lib.hid hr
  have Hks := Lib.hid hks
  clear hr hks h
  by_cases h0 : left < ks.length
  · have He := Lib.hid (cutN_no (show left < ((ks.length + wsum Str.wt ks : Nat) : Int) by omega))
    go_enter Try.func59, Try.ntmps59
    go_wp2_with fail
    go_ret
    exact ⟨by rw [He.out]; rfl, Below.refl _ _⟩
  · go_enter Try.func59, Try.ntmps59
    go_wp2_with fail
    go_loop [1, 5] (fun a i => ∃ (j : Nat) (l : Int), j ≤ ks.length ∧ i = .int .i64 j ∧ a = .int .i64 l ∧ 0 ≤ l ∧ l ≤ 1048576 ∧ Hid (l = left - ks.length - wsum Str.wt (ks.take j))) (fun _ i => ks.length - (intOf i).toNat)
    case atStart => exact ⟨0, left - ks.length, Nat.zero_le _, rfl, rfl, by omega, by omega, by unfold Hid; simp [wsum]⟩
    case round =>
      obtain ⟨j, l, hj, rfl, rfl, hl0, hl1, hin⟩ := hrel
      by_cases hlt : j < ks.length
      · obtain ⟨g, o, rfl, hg, hc0⟩ := Hr.out.2 (by omega)
        have hcell := hc0 j hlt _ (scells_get ks j hlt)
        have hsz := Hks.out ks[j] (List.getElem_mem hlt)
        unfold maxLen at hsz
        have hnext : wsum Str.wt (ks.take (j + 1)) = wsum Str.wt (ks.take j) + ks[j].size := wsum_take Str.wt hlt
        have hall := wsum_all Str.wt ks (j + 1)
        clear hc0 hg
        by_cases h1 : l < ks[j].size
        · have He := Lib.hid (cutN_no (show left < ((ks.length + wsum Str.wt ks : Nat) : Int) by have := hin.out; omega))
          clear hnext hall hin
          generalize ks[j] = x at hcell hsz h1
          go_wp2_with fail
          go_ret
          exact ⟨by rw [He.out]; rfl, Below.refl _ _⟩
        · have Hin := Lib.hid (show l - ks[j].size = left - ks.length - wsum Str.wt (ks.take (j + 1)) by have := hin.out; omega)
          clear hnext hall hin
          generalize ks[j] = x at hcell hsz h1 Hin
          go_wp2_with fail
          go_round
          case rel => exact ⟨j + 1, l - x.size, by omega, by go_num, rfl, by omega, by omega, Hin.out⟩
          case measure => simp [intOf]; omega
      · obtain rfl : j = ks.length := by omega
        rw [List.take_of_length_le (Nat.le_refl _)] at hin
        have He := Lib.hid (cutN_yes (show ¬ left < ((ks.length + wsum Str.wt ks : Nat) : Int) by have := hin.out; omega))
        have Hin := Lib.hid (show left - ((ks.length + wsum Str.wt ks : Nat) : Int) = l by have := hin.out; omega)
        clear hin
        go_wp2_with fail
        go_ret
        exact ⟨by rw [He.out, Hin.out]; rfl, Below.refl _ _⟩
end Go.Proofs.Ytcfbkfmkjggcdaa.ty
namespace Go.Proofs.Ytcfbkfmkjggcdaa.ty
open Go.ChangeShapes Go.WideShapes Go.ChangeAt Go.RowKit
set_option linter.unusedVariables false

theorem szNeed (x : Need) (f : Nat) (vs : List Value) (left : Int) (w : World) (h : LiesS w f vs x.row) (hl : LeftN left) :
    Calls Try.prog 42 #[.agg vs.toArray, .int .i64 left] w fun e w' => e = .returned (.int .i64 (cutN left x.wt)) ∧ Below w.heap.size w w' := by
  obtain ⟨a0, a1, a2⟩ := x
  obtain ⟨A2, c2, rfl, hwf, k2, m2, l2⟩ := Need.opened h
  simp only [Need.Wf] at *
  obtain ⟨w0, w1⟩ := hwf
  unfold maxLen at w0
  unfold LeftN at hl
  rw [show Need.wt ⟨a0, a1, a2⟩ = a0.size + (a2.length + wsum Str.wt a2) from rfl]
  have HB := Lib.hid (Box.new 79 w [.string a0, .int .i64 a1, .slice A2 a2.length c2])
  have H2 := Lib.hid (fun w1 left (hb : Below w.heap.size w w1) hl => szStr a2 f (.slice A2 a2.length c2) left w1 (l2.below hb) hl)
  clear h l2 k2 m2
  have p0 := HB.out.cell (j := 0) rfl
  have p2 := HB.out.cell (j := 2) rfl
  generalize hX2 : a2.length + wsum Str.wt a2 = X2 at H2 ⊢
  by_cases h0 : left < (a0.size : Int)
  · have He := Lib.hid (cutN_no (show left < ((a0.size + X2 : Nat) : Int) by omega))
    clear hX2 H2
    go_enter Try.func42, Try.ntmps42
    go_wp2_with fail
    go_ret
    exact ⟨by rw [He.out]; rfl, HB.out.1⟩
  by_cases h2 : left - (a0.size : Int) < (X2 : Int)
  · have He := Lib.hid (cutN_no (show left < ((a0.size + X2 : Nat) : Int) by omega))
    have J2 := Lib.hid (fun w1 hb => H2.out w1 (left - (a0.size : Int)) hb ⟨by omega, by omega⟩)
    rw [cutN_no h2] at J2
    clear hX2 H2
    go_enter Try.func42, Try.ntmps42
    go_wp2_with fail
    refine (J2.out _ HB.out.1).mono ?_
    rintro e x2 ⟨rfl, hb2⟩
    have HB2 := Lib.hid (HB.out.below hb2)
    clear hb2 J2
    go_wp2_with fail
    go_ret
    exact ⟨by rw [He.out]; rfl, HB2.out.1⟩
  have He := Lib.hid (cutN_yes (show ¬ left < ((a0.size + X2 : Nat) : Int) by omega))
  have He2 := Lib.hid (show left - ((a0.size + X2 : Nat) : Int) = left - (a0.size : Int) - (X2 : Int) by omega)
  have J2 := Lib.hid (fun w1 hb => H2.out w1 (left - (a0.size : Int)) hb ⟨by omega, by omega⟩)
  rw [cutN_yes h2] at J2
  clear hX2 H2
  go_enter Try.func42, Try.ntmps42
  go_wp2_with fail
  refine (J2.out _ HB.out.1).mono ?_
  rintro e x2 ⟨rfl, hb2⟩
  have HB2 := Lib.hid (HB.out.below hb2)
  clear hb2 J2
  go_wp2_with fail
  go_ret
  exact ⟨by rw [He.out, He2.out]; rfl, HB2.out.1⟩
end Go.Proofs.Ytcfbkfmkjggcdaa.ty
namespace Go.Proofs.Ytcfbkfmkjggcdaa.ty
open Go.ChangeShapes Go.WideShapes Go.ChangeAt Go.RowKit
set_option linter.unusedVariables false

theorem szNeedS (l : List Need) (f : Nat) (v : Value) (left : Int) (w : World) (h : Lies w f v (.sl 3 l.length (l.flatMap Need.row))) (hl : LeftN left) :
    Calls Try.prog 22 #[v, .int .i64 left] w fun e w' => e = .returned (.int .i64 (cutN left (l.length + wsum Need.wt l))) ∧ Below w.heap.size w w' := by
  obtain ⟨A, c, rfl, hc1, hc2, f', rfl, hk⟩ := els_of Need.row_length h
  unfold maxLen at hc2
  unfold LeftN at hl
  have Hk := Lib.hid hk
  clear h hk
  by_cases h0 : left < l.length
  · have He := Lib.hid (cutN_no (show left < ((l.length + wsum Need.wt l : Nat) : Int) by omega))
    go_enter Try.func22, Try.ntmps22
    go_wp2_with fail
    go_ret
    exact ⟨by rw [He.out]; rfl, Below.refl _ _⟩
  go_enter Try.func22, Try.ntmps22
  go_wp2_with fail
  go_loopw [1, 5] (fun a i wr => ∃ (j : Nat) (z : Int), j ≤ l.length ∧ i = .int .i64 j ∧ a = .int .i64 z ∧ 0 ≤ z ∧ z ≤ 1048576 ∧ Hid (z = left - l.length - wsum Need.wt (l.take j)) ∧ Below w.heap.size w wr) (fun _ i _ => l.length - (intOf i).toNat)
  case atStart => exact ⟨0, left - l.length, Nat.zero_le _, rfl, rfl, by omega, by omega, by unfold Hid; simp [wsum], Below.refl _ _⟩
  case round =>
    obtain ⟨j, z, hj, rfl, rfl, hz0, hz1, hin, hbel⟩ := hrel
    by_cases hlt : j < l.length
    · obtain ⟨g, o, rfl, hg, us, hus, hc, hls⟩ := (Hk.out.below hbel).get hlt
      have HC := Lib.hid (szNeed l[j] _ us z wr hls ⟨hz0, hz1⟩)
      obtain ⟨A2, c2, rfl, hwf, k2, m2, l2⟩ := Need.opened hls
      have q0 : wr.cell? ⟨g, o + j * 3, none⟩ = some (.string l[j].key) := hc 0 _ rfl
      have q1 : wr.cell? ⟨g, o + j * 3 + 1, none⟩ = some (.int .i64 l[j].op) := hc 1 _ rfl
      have q2 : wr.cell? ⟨g, o + j * 3 + 2, none⟩ = some (.slice A2 l[j].values.length c2) := hc 2 _ rfl
      have hnext := wsum_take Need.wt hlt
      have hall := wsum_all Need.wt l (j + 1)
      have Hbel := Lib.hid hbel
      clear hls hbel hg hus hc hwf k2 m2 l2
      by_cases h1 : z < (l[j].wt : Int)
      · have He := Lib.hid (cutN_no (show left < ((l.length + wsum Need.wt l : Nat) : Int) by have := hin.out; omega))
        rw [cutN_no h1] at HC
        clear hnext hall hin h1
        generalize l[j] = x at q0 q1 q2 HC
        go_wp2_with fail
        refine HC.out.mono ?_
        rintro e w1 ⟨rfl, hb1⟩
        have Hbel1 := Lib.hid (Hbel.out.trans (hb1.mono Hbel.out.size))
        clear hb1 q0 q1 q2
        go_wp2_with fail
        go_ret
        exact ⟨by rw [He.out]; rfl, Hbel1.out⟩
      · have Hin := Lib.hid (show z - l[j].wt = left - l.length - wsum Need.wt (l.take (j + 1)) by have := hin.out; omega)
        rw [cutN_yes h1] at HC
        clear hnext hall hin
        generalize l[j] = x at q0 q1 q2 HC h1 Hin
        generalize x.wt = y at HC h1 Hin
        go_wp2_with fail
        refine HC.out.mono ?_
        rintro e w1 ⟨rfl, hb1⟩
        have Hbel1 := Lib.hid (Hbel.out.trans (hb1.mono Hbel.out.size))
        clear hb1 q0 q1 q2
        go_wp2_with fail
        go_roundw
        case rel => exact ⟨j + 1, z - y, by omega, by go_num, rfl, by omega, by omega, Hin.out, Hbel1.out⟩
        case measure => simp [intOf]; omega
    · obtain rfl : j = l.length := by omega
      rw [List.take_of_length_le (Nat.le_refl _)] at hin
      have He := Lib.hid (cutN_yes (show ¬ left < ((l.length + wsum Need.wt l : Nat) : Int) by have := hin.out; omega))
      have Hin := Lib.hid (show left - ((l.length + wsum Need.wt l : Nat) : Int) = z by have := hin.out; omega)
      have Hbel := Lib.hid hbel
      clear hin hbel
      go_wp2_with fail
      go_ret
      exact ⟨by rw [He.out, Hin.out]; rfl, Hbel.out⟩
end Go.Proofs.Ytcfbkfmkjggcdaa.ty
namespace Go.Proofs.Ytcfbkfmkjggcdaa.ty
open Go.ChangeShapes Go.WideShapes Go.ChangeAt Go.RowKit
set_option linter.unusedVariables false

theorem szTolerance (x : Tolerance) (left : Int) (w : World) (hx : x.Wf) (hl : LeftN left) :
    Calls Try.prog 43 #[.agg #[.string x.key, .bool x.equal, .string x.value, .int .i64 x.effect], .int .i64 left] w fun e w' => e = .returned (.int .i64 (cutN left x.wt)) ∧ Below w.heap.size w w' := by
  obtain ⟨a0, a1, a2, a3⟩ := x
  obtain ⟨w0, w2, w3⟩ := hx
  simp only at *
  unfold maxLen at w0 w2
  unfold LeftN at hl
  rw [show Tolerance.wt ⟨a0, a1, a2, a3⟩ = a0.size + a2.size from rfl]
  have Hb := Lib.hid ((Below.refl w.heap.size w).alloc (Nat.le_refl _) (.cells #[.string a0, .bool a1, .string a2, .int .i64 a3] 81))
  by_cases h0 : left < (a0.size : Int)
  · have He := Lib.hid (cutN_no (show left < ((a0.size + a2.size : Nat) : Int) by omega))
    go_enter Try.func43, Try.ntmps43
    go_wp2_with fail
    go_ret
    exact ⟨by rw [He.out]; rfl, Hb.out⟩
  by_cases h1 : left - a0.size < (a2.size : Int)
  · have He := Lib.hid (cutN_no (show left < ((a0.size + a2.size : Nat) : Int) by omega))
    go_enter Try.func43, Try.ntmps43
    go_wp2_with fail
    go_ret
    exact ⟨by rw [He.out]; rfl, Hb.out⟩
  have He := Lib.hid (cutN_yes (show ¬ left < ((a0.size + a2.size : Nat) : Int) by omega))
  have He2 := Lib.hid (show left - ((a0.size + a2.size : Nat) : Int) = left - a0.size - a2.size by omega)
  go_enter Try.func43, Try.ntmps43
  go_wp2_with fail
  go_ret
  exact ⟨by rw [He.out, He2.out]; rfl, Hb.out⟩
end Go.Proofs.Ytcfbkfmkjggcdaa.ty
namespace Go.Proofs.Ytcfbkfmkjggcdaa.ty
open Go.ChangeShapes Go.WideShapes Go.ChangeAt Go.RowKit
set_option linter.unusedVariables false

theorem szToleranceS (l : List Tolerance) (f : Nat) (v : Value) (left : Int) (w : World) (h : Lies w f v (.sl 4 l.length (l.flatMap Tolerance.row))) (hl : LeftN left) :
    Calls Try.prog 23 #[v, .int .i64 left] w fun e w' => e = .returned (.int .i64 (cutN left (l.length + wsum Tolerance.wt l))) ∧ Below w.heap.size w w' := by
  obtain ⟨A, c, rfl, hc1, hc2, f', rfl, hk⟩ := els_of Tolerance.row_length h
  unfold maxLen at hc2
  unfold LeftN at hl
  have Hk := Lib.hid hk
  clear h hk
  by_cases h0 : left < l.length
  · have He := Lib.hid (cutN_no (show left < ((l.length + wsum Tolerance.wt l : Nat) : Int) by omega))
    go_enter Try.func23, Try.ntmps23
    go_wp2_with fail
    go_ret
    exact ⟨by rw [He.out]; rfl, Below.refl _ _⟩
  go_enter Try.func23, Try.ntmps23
  go_wp2_with fail
  go_loopw [1, 5] (fun a i wr => ∃ (j : Nat) (z : Int), j ≤ l.length ∧ i = .int .i64 j ∧ a = .int .i64 z ∧ 0 ≤ z ∧ z ≤ 1048576 ∧ Hid (z = left - l.length - wsum Tolerance.wt (l.take j)) ∧ Below w.heap.size w wr) (fun _ i _ => l.length - (intOf i).toNat)
  case atStart => exact ⟨0, left - l.length, Nat.zero_le _, rfl, rfl, by omega, by omega, by unfold Hid; simp [wsum], Below.refl _ _⟩
  case round =>
    obtain ⟨j, z, hj, rfl, rfl, hz0, hz1, hin, hbel⟩ := hrel
    by_cases hlt : j < l.length
    · obtain ⟨g, o, rfl, hg, us, hus, hc, hls⟩ := (Hk.out.below hbel).get hlt
      obtain ⟨rfl, hwf⟩ := Tolerance.opened hls
      have q0 : wr.cell? ⟨g, o + j * 4, none⟩ = some (.string l[j].key) := hc 0 _ rfl
      have q1 : wr.cell? ⟨g, o + j * 4 + 1, none⟩ = some (.bool l[j].equal) := hc 1 _ rfl
      have q2 : wr.cell? ⟨g, o + j * 4 + 2, none⟩ = some (.string l[j].value) := hc 2 _ rfl
      have q3 : wr.cell? ⟨g, o + j * 4 + 3, none⟩ = some (.int .i64 l[j].effect) := hc 3 _ rfl
      have HC := Lib.hid (szTolerance l[j] z wr hwf ⟨hz0, hz1⟩)
      have hnext := wsum_take Tolerance.wt hlt
      have hall := wsum_all Tolerance.wt l (j + 1)
      have Hbel := Lib.hid hbel
      clear hls hbel hg hus hc hwf
      by_cases h1 : z < (l[j].wt : Int)
      · have He := Lib.hid (cutN_no (show left < ((l.length + wsum Tolerance.wt l : Nat) : Int) by have := hin.out; omega))
        rw [cutN_no h1] at HC
        clear hnext hall hin h1
        generalize l[j] = x at q0 q1 q2 q3 HC
        go_wp2_with fail
        refine HC.out.mono ?_
        rintro e w1 ⟨rfl, hb1⟩
        have Hbel1 := Lib.hid (Hbel.out.trans (hb1.mono Hbel.out.size))
        clear hb1 q0 q1 q2 q3
        go_wp2_with fail
        go_ret
        exact ⟨by rw [He.out]; rfl, Hbel1.out⟩
      · have Hin := Lib.hid (show z - l[j].wt = left - l.length - wsum Tolerance.wt (l.take (j + 1)) by have := hin.out; omega)
        rw [cutN_yes h1] at HC
        clear hnext hall hin
        generalize l[j] = x at q0 q1 q2 q3 HC h1 Hin
        generalize x.wt = y at HC h1 Hin
        go_wp2_with fail
        refine HC.out.mono ?_
        rintro e w1 ⟨rfl, hb1⟩
        have Hbel1 := Lib.hid (Hbel.out.trans (hb1.mono Hbel.out.size))
        clear hb1 q0 q1 q2 q3
        go_wp2_with fail
        go_roundw
        case rel => exact ⟨j + 1, z - y, by omega, by go_num, rfl, by omega, by omega, Hin.out, Hbel1.out⟩
        case measure => simp [intOf]; omega
    · obtain rfl : j = l.length := by omega
      rw [List.take_of_length_le (Nat.le_refl _)] at hin
      have He := Lib.hid (cutN_yes (show ¬ left < ((l.length + wsum Tolerance.wt l : Nat) : Int) by have := hin.out; omega))
      have Hin := Lib.hid (show left - ((l.length + wsum Tolerance.wt l : Nat) : Int) = z by have := hin.out; omega)
      have Hbel := Lib.hid hbel
      clear hin hbel
      go_wp2_with fail
      go_ret
      exact ⟨by rw [He.out, Hin.out]; rfl, Hbel.out⟩
end Go.Proofs.Ytcfbkfmkjggcdaa.ty
namespace Go.Proofs.Ytcfbkfmkjggcdaa.ty
open Go.ChangeShapes Go.WideShapes Go.ChangeAt Go.RowKit
set_option linter.unusedVariables false

theorem szPod (x : Pod) (f : Nat) (vs : List Value) (left : Int) (w : World) (h : LiesS w f vs x.row) (hl : LeftN left) :
    Calls Try.prog 6 #[.agg vs.toArray, .int .i64 left] w fun e w' => e = .returned (.int .i64 (cutN left x.wt)) ∧ Below w.heap.size w w' := by
  obtain ⟨a0, a1, a2, a3, a4, a5, a6⟩ := x
  obtain ⟨A1, c1, A5, c5, A6, c6, rfl, hwf, k1, m1, l1, k5, m5, l5, k6, m6, l6⟩ := Pod.opened h
  simp only [Pod.Wf] at *
  obtain ⟨w0, w2, w3, w4⟩ := hwf
  unfold maxLen at w0
  unfold LeftN at hl
  rw [show Pod.wt ⟨a0, a1, a2, a3, a4, a5, a6⟩ = a0.size + (a1.length + wsum Label.wt a1) + (a5.length + wsum Need.wt a5) + (a6.length + wsum Tolerance.wt a6) from rfl]
  have HB := Lib.hid (Box.new 26 w [.string a0, .slice A1 a1.length c1, .int .i64 a2, .int .i64 a3, .int .i64 a4, .slice A5 a5.length c5, .slice A6 a6.length c6])
  have H1 := Lib.hid (fun w1 left (hb : Below w.heap.size w w1) hl => szLabelS a1 f (.slice A1 a1.length c1) left w1 (l1.below hb) hl)
  have H5 := Lib.hid (fun w1 left (hb : Below w.heap.size w w1) hl => szNeedS a5 f (.slice A5 a5.length c5) left w1 (l5.below hb) hl)
  have H6 := Lib.hid (fun w1 left (hb : Below w.heap.size w w1) hl => szToleranceS a6 f (.slice A6 a6.length c6) left w1 (l6.below hb) hl)
  clear h l1 k1 m1 l5 k5 m5 l6 k6 m6
  have p0 := HB.out.cell (j := 0) rfl
  have p1 := HB.out.cell (j := 1) rfl
  have p5 := HB.out.cell (j := 5) rfl
  have p6 := HB.out.cell (j := 6) rfl
  generalize hX1 : a1.length + wsum Label.wt a1 = X1 at H1 ⊢
  generalize hX5 : a5.length + wsum Need.wt a5 = X5 at H5 ⊢
  generalize hX6 : a6.length + wsum Tolerance.wt a6 = X6 at H6 ⊢
  by_cases h0 : left < (a0.size : Int)
  · have He := Lib.hid (cutN_no (show left < ((a0.size + X1 + X5 + X6 : Nat) : Int) by omega))
    clear hX1 H1 hX5 H5 hX6 H6
    go_enter Try.func6, Try.ntmps6
    go_wp2_with fail
    go_ret
    exact ⟨by rw [He.out]; rfl, HB.out.1⟩
  by_cases h1 : left - (a0.size : Int) < (X1 : Int)
  · have He := Lib.hid (cutN_no (show left < ((a0.size + X1 + X5 + X6 : Nat) : Int) by omega))
    have J1 := Lib.hid (fun w1 hb => H1.out w1 (left - (a0.size : Int)) hb ⟨by omega, by omega⟩)
    rw [cutN_no h1] at J1
    clear hX1 H1 hX5 H5 hX6 H6
    go_enter Try.func6, Try.ntmps6
    go_wp2_with fail
    refine (J1.out _ HB.out.1).mono ?_
    rintro e x1 ⟨rfl, hb1⟩
    have HB1 := Lib.hid (HB.out.below hb1)
    have p5_1 := HB1.out.cell (j := 5) rfl
    have p6_1 := HB1.out.cell (j := 6) rfl
    clear hb1 J1
    go_wp2_with fail
    go_ret
    exact ⟨by rw [He.out]; rfl, HB1.out.1⟩
  by_cases h5 : left - (a0.size : Int) - (X1 : Int) < (X5 : Int)
  · have He := Lib.hid (cutN_no (show left < ((a0.size + X1 + X5 + X6 : Nat) : Int) by omega))
    have J1 := Lib.hid (fun w1 hb => H1.out w1 (left - (a0.size : Int)) hb ⟨by omega, by omega⟩)
    rw [cutN_yes h1] at J1
    have J5 := Lib.hid (fun w1 hb => H5.out w1 (left - (a0.size : Int) - (X1 : Int)) hb ⟨by omega, by omega⟩)
    rw [cutN_no h5] at J5
    clear hX1 H1 hX5 H5 hX6 H6
    go_enter Try.func6, Try.ntmps6
    go_wp2_with fail
    refine (J1.out _ HB.out.1).mono ?_
    rintro e x1 ⟨rfl, hb1⟩
    have HB1 := Lib.hid (HB.out.below hb1)
    have p5_1 := HB1.out.cell (j := 5) rfl
    have p6_1 := HB1.out.cell (j := 6) rfl
    clear hb1 J1
    go_wp2_with fail
    refine (J5.out _ HB1.out.1).mono ?_
    rintro e x5 ⟨rfl, hb5⟩
    have HB5 := Lib.hid (HB1.out.below hb5)
    have p6_5 := HB5.out.cell (j := 6) rfl
    clear hb5 J5
    go_wp2_with fail
    go_ret
    exact ⟨by rw [He.out]; rfl, HB5.out.1⟩
  by_cases h6 : left - (a0.size : Int) - (X1 : Int) - (X5 : Int) < (X6 : Int)
  · have He := Lib.hid (cutN_no (show left < ((a0.size + X1 + X5 + X6 : Nat) : Int) by omega))
    have J1 := Lib.hid (fun w1 hb => H1.out w1 (left - (a0.size : Int)) hb ⟨by omega, by omega⟩)
    rw [cutN_yes h1] at J1
    have J5 := Lib.hid (fun w1 hb => H5.out w1 (left - (a0.size : Int) - (X1 : Int)) hb ⟨by omega, by omega⟩)
    rw [cutN_yes h5] at J5
    have J6 := Lib.hid (fun w1 hb => H6.out w1 (left - (a0.size : Int) - (X1 : Int) - (X5 : Int)) hb ⟨by omega, by omega⟩)
    rw [cutN_no h6] at J6
    clear hX1 H1 hX5 H5 hX6 H6
    go_enter Try.func6, Try.ntmps6
    go_wp2_with fail
    refine (J1.out _ HB.out.1).mono ?_
    rintro e x1 ⟨rfl, hb1⟩
    have HB1 := Lib.hid (HB.out.below hb1)
    have p5_1 := HB1.out.cell (j := 5) rfl
    have p6_1 := HB1.out.cell (j := 6) rfl
    clear hb1 J1
    go_wp2_with fail
    refine (J5.out _ HB1.out.1).mono ?_
    rintro e x5 ⟨rfl, hb5⟩
    have HB5 := Lib.hid (HB1.out.below hb5)
    have p6_5 := HB5.out.cell (j := 6) rfl
    clear hb5 J5
    go_wp2_with fail
    refine (J6.out _ HB5.out.1).mono ?_
    rintro e x6 ⟨rfl, hb6⟩
    have HB6 := Lib.hid (HB5.out.below hb6)
    clear hb6 J6
    go_wp2_with fail
    go_ret
    exact ⟨by rw [He.out]; rfl, HB6.out.1⟩
  have He := Lib.hid (cutN_yes (show ¬ left < ((a0.size + X1 + X5 + X6 : Nat) : Int) by omega))
  have He2 := Lib.hid (show left - ((a0.size + X1 + X5 + X6 : Nat) : Int) = left - (a0.size : Int) - (X1 : Int) - (X5 : Int) - (X6 : Int) by omega)
  have J1 := Lib.hid (fun w1 hb => H1.out w1 (left - (a0.size : Int)) hb ⟨by omega, by omega⟩)
  rw [cutN_yes h1] at J1
  have J5 := Lib.hid (fun w1 hb => H5.out w1 (left - (a0.size : Int) - (X1 : Int)) hb ⟨by omega, by omega⟩)
  rw [cutN_yes h5] at J5
  have J6 := Lib.hid (fun w1 hb => H6.out w1 (left - (a0.size : Int) - (X1 : Int) - (X5 : Int)) hb ⟨by omega, by omega⟩)
  rw [cutN_yes h6] at J6
  clear hX1 H1 hX5 H5 hX6 H6
  go_enter Try.func6, Try.ntmps6
  go_wp2_with fail
  refine (J1.out _ HB.out.1).mono ?_
  rintro e x1 ⟨rfl, hb1⟩
  have HB1 := Lib.hid (HB.out.below hb1)
  have p5_1 := HB1.out.cell (j := 5) rfl
  have p6_1 := HB1.out.cell (j := 6) rfl
  clear hb1 J1
  go_wp2_with fail
  refine (J5.out _ HB1.out.1).mono ?_
  rintro e x5 ⟨rfl, hb5⟩
  have HB5 := Lib.hid (HB1.out.below hb5)
  have p6_5 := HB5.out.cell (j := 6) rfl
  clear hb5 J5
  go_wp2_with fail
  refine (J6.out _ HB5.out.1).mono ?_
  rintro e x6 ⟨rfl, hb6⟩
  have HB6 := Lib.hid (HB5.out.below hb6)
  clear hb6 J6
  go_wp2_with fail
  go_ret
  exact ⟨by rw [He.out, He2.out]; rfl, HB6.out.1⟩
end Go.Proofs.Ytcfbkfmkjggcdaa.ty
namespace Go.Proofs.Ytcfbkfmkjggcdaa.ty
open Go.ChangeShapes Go.WideShapes Go.ChangeAt Go.RowKit
set_option linter.unusedVariables false

theorem toStr (l : List ByteArray) (f : Nat) (v : Value) (w : World) (h : Lies w f v (.sl 1 l.length (l.flatMap Str.row))) (hw : l.length ≤ 1048576) :
    Calls Try.prog 60 #[v] w fun e w' => ∃ v', e = .returned v' ∧ OwnRow w' w.heap.size 1 9 1 v' l.length (l.flatMap Str.row) ∧ Below w.heap.size w w' := by
  obtain ⟨A, c, rfl, _, _, hr, hks⟩ := Str.opened h
  refine (lawStr.to_any A l.length c l w hw rfl hr).mono ?_
  rintro e w1 ⟨g, rfl, hown, hb⟩
  exact ⟨_, rfl, by rw [Str.flat]; exact ownRow_strs hown hks, hb⟩
end Go.Proofs.Ytcfbkfmkjggcdaa.ty
namespace Go.Proofs.Ytcfbkfmkjggcdaa.ty
open Go.ChangeShapes Go.WideShapes Go.ChangeAt Go.RowKit
set_option linter.unusedVariables false

theorem sizeNeed : (Try.prog.info? 84).map (·.size) = some 3 := by kernel_rfl
set_option maxRecDepth 100000 in
set_option maxHeartbeats 8000000 in
theorem toNeed (x : Need) (f : Nat) (vs : List Value) (w : World) (h : LiesS w f vs x.row) (hw : x.wt ≤ 1048576) :
    Calls Try.prog 46 #[.agg vs.toArray] w fun e w' => AggOut w 2 x.row e w' := by
  obtain ⟨a0, a1, a2⟩ := x
  obtain ⟨A2, c2, rfl, hwf, k2, m2, l2⟩ := Need.opened h
  unfold Need.wt at hw
  simp only at hw hwf k2 m2 l2
  obtain ⟨w1, hw1⟩ : ∃ w1, w1 = ((w.alloc (.cells #[.string a0, .int .i64 a1, .slice A2 a2.length c2] 79)).alloc (.cells #[.string ⟨#[]⟩, .int .i64 0, .slice none 0 0] 84)).alloc (.cells #[.string a0, .int .i64 a1, .slice none 0 0] 84) := ⟨_, rfl⟩
  have hsz : w1.heap.size = w.heap.size + 3 := by subst hw1; simp
  have hb1 : Below w.heap.size w w1 := by subst hw1; exact (((Below.refl _ _).alloc (Nat.le_refl _) _).alloc (by simp) _).alloc (by simp; omega) _
  have h10 : w1.heap[w.heap.size]? = some (.cells #[.string a0, .int .i64 a1, .slice A2 a2.length c2] 79 (0, 0)) := by
    subst hw1
    rw [Below.heap_alloc _ _ _ (by simp; omega), Below.heap_alloc _ _ _ (by simp)]
    exact heap_alloc_new w _
  have h11 : w1.heap[w.heap.size + 1]? = some (.cells #[.string ⟨#[]⟩, .int .i64 0, .slice none 0 0] 84 (0, 0)) := by
    subst hw1
    rw [Below.heap_alloc _ _ _ (by simp)]
    have h := heap_alloc_new (w.alloc (.cells #[.string a0, .int .i64 a1, .slice A2 a2.length c2] 79)) (.cells #[.string ⟨#[]⟩, .int .i64 0, .slice none 0 0] 84)
    simpa using h
  have h12 : w1.heap[w.heap.size + 2]? = some (.cells #[.string a0, .int .i64 a1, .slice none 0 0] 84 (0, 0)) := by
    subst hw1
    have h := heap_alloc_new ((w.alloc (.cells #[.string a0, .int .i64 a1, .slice A2 a2.length c2] 79)).alloc (.cells #[.string ⟨#[]⟩, .int .i64 0, .slice none 0 0] 84)) (.cells #[.string a0, .int .i64 a1, .slice none 0 0] 84)
    simpa using h
  have T2 := Lib.hid (fun w1 (hb : Below w.heap.size w w1) => toStr a2 f (.slice A2 a2.length c2) w1 (l2.below hb) (by omega))
  have Hwf := Lib.hid hwf
  have K0 := Lib.hid h10
  have K1 := Lib.hid h11
  have K2 := Lib.hid h12
  have Hb := Lib.hid hb1
  have Hsz := Lib.hid (show w.heap.size + 3 ≤ w1.heap.size by omega)
  have Hw1 := Lib.hid hw1
  clear h hw hwf hsz hb1 h10 h11 h12 hw1 k2 m2 l2
  go_enter Try.func46, Try.ntmps46
  go_wp2_with fail
  rw [← Hw1.out]
  clear Hw1
  refine (T2.out _ Hb.out).mono ?_
  rintro e y2 ⟨v2, rfl, r2, b2⟩
  obtain ⟨B2, d2, rfl⟩ := r2.is_slice
  have h20 := heap_kept b2 (heap_lt K0.out) K0.out
  have h21 := heap_kept b2 (heap_lt K1.out) K1.out
  have h22 := heap_kept b2 (heap_lt K2.out) K2.out
  have HB2 := Lib.hid (Hb.out.trans (b2.mono Hb.out.size))
  obtain ⟨F2, o2, n2, g2⟩ := r2.own
  have Hn2 := Lib.hid n2
  have Hr2 := Lib.hid g2
  have Hsb2 := Lib.hid (show w1.heap.size ≤ y2.heap.size from b2.size)
  have p2 : (y2).cell? ⟨w.heap.size + 2, 2, none⟩ = some (.slice none 0 0) := by rw [cell_of_row _ _ 2 _ _ _ h22]; rfl
  have f2 := frozen_of_row (y2) _ 2 _ _ h22
  have k2_2_0 : ((y2).setCell ⟨w.heap.size + 2, 2, none⟩ (.slice B2 a2.length d2)).heap[w.heap.size]? = _ := (Below.heap_setCell _ _ _ _ (by show w.heap.size ≠ w.heap.size + 2; omega)).trans h20
  have k2_2_1 : ((y2).setCell ⟨w.heap.size + 2, 2, none⟩ (.slice B2 a2.length d2)).heap[w.heap.size + 1]? = _ := (Below.heap_setCell _ _ _ _ (by show w.heap.size + 1 ≠ w.heap.size + 2; omega)).trans h21
  have k2_2_2 : ((y2).setCell ⟨w.heap.size + 2, 2, none⟩ (.slice B2 a2.length d2)).heap[w.heap.size + 2]? = some (.cells #[.string a0, .int .i64 a1, .slice B2 a2.length d2] 84 (0, 0)) := heap_setCell_same _ _ _ _ _ _ h22
  have hbz : Below w.heap.size w ((y2).setCell ⟨w.heap.size + 2, 2, none⟩ (.slice B2 a2.length d2)) := (HB2.out.setCell (by show w.heap.size ≤ w.heap.size + 2; omega) _)
  have ow2 := (Own.setCell_low o2 (o := 2) (u := .slice B2 a2.length d2) (show w.heap.size + 2 < w1.heap.size by have := Hsz.out; omega))
  have hzs : ((y2).setCell ⟨w.heap.size + 2, 2, none⟩ (.slice B2 a2.length d2)).heap.size = y2.heap.size := by simp only [size_setCell]
  clear r2 b2 o2 n2 g2 
  have H51 := Lib.hid k2_2_1
  have h52 := k2_2_2
  have h51 := H51.out
  have Hbz := Lib.hid hbz
  clear hbz h20 h21 h22
  clear k2_2_0 k2_2_1 k2_2_2
  generalize hz : (y2).setCell ⟨w.heap.size + 2, 2, none⟩ (.slice B2 a2.length d2) = z at *
  go_wp2_with (first | (refine wpList_load_row rfl 84 _ rfl (w.heap.size + 2) rfl 84 #[.string a0, .int .i64 a1, .slice B2 a2.length d2] (0, 0) _ h52 Try.underlying84 rfl sizeNeed ?_) | (refine wpList_store_row rfl 84 _ _ rfl (w.heap.size + 1) #[.string a0, .int .i64 a1, .slice B2 a2.length d2] rfl rfl 84 _ h51 sizeNeed rfl (by simp [Value.oneCell']) ?_) | fail)
  obtain ⟨F, ho, hnd, _⟩ := Need.owned (x := ⟨a0, a1, a2⟩) (f := 1) (w := z.setRow (w.heap.size + 1) #[.string a0, .int .i64 a1, .slice B2 a2.length d2]) Hwf.out (Own.deeper (f := 2) (f' := 2) (by decide) ((Own.setRow_low ow2 (c := #[.string a0, .int .i64 a1, .slice B2 a2.length d2]) (show w.heap.size + 1 < w1.heap.size by have := Hsz.out; omega)).lower (B' := w.heap.size) (by have := Hsz.out; omega))) Hn2.out
  refine bodyPost_ret (v := .agg #[.string a0, .int .i64 a1, .slice B2 a2.length d2]) ?_ rfl ⟨_, F, rfl, ho, hnd, setRow_below Hbz.out (by omega) _⟩
  exact results_cell_row rfl _ _ (w.heap.size + 1) _ _ (0, 0) _ rfl (setRow_at H51.out) Try.underlying84 rfl sizeNeed
end Go.Proofs.Ytcfbkfmkjggcdaa.ty
