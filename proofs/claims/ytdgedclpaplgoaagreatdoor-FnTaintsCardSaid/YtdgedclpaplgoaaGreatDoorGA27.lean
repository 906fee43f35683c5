/- Merged: OnceTolerance SrtTolerance FnTaints. -/
import Derived.Test.YtdgedclpaplgoaaGreatDoorCompTolerance
import Derived.Test.YtdgedclpaplgoaaGreatDoorGA23
import Derived.Test.YtdgedclpaplgoaaGreatDoorShelf
import Derived.Test.YtdgedclpaplgoaaGreatDoorGA26
import Derived.Test.YtdgedclpaplgoaaGreatDoorGA24
import Derived.Test.YtdgedclpaplgoaaGreatDoorGA6
import Derived.Test.YtdgedclpaplgoaaGreatDoorGA25
import Derived.Test.YtdgedclpaplgoaaGreatDoorGA3
namespace Go.Proofs.YtdgedclpaplgoaaGreatDoor.taint
open Go.ChangeShapes Go.WideShapes Go.ChangeAt Go.RowKit ty lab dedup need
set_option linter.unusedVariables false

open Go.Sort (SWO PermIn SortedIn grow)
set_option maxRecDepth 100000 in
theorem sort_Tolerance (l : List Tolerance) (B g c : Nat) (w : World) (hown : w.ownsRow B 46 4 (.slice (some ⟨g, 0, none⟩) l.length c) l.length (l.flatMap Tolerance.cells)) (hn : l.length ≤ 1048576) :
    Calls Tryz.prog 130 #[.slice (some ⟨g, 0, none⟩) l.length c, .func (.func 55) #[] #[]] w fun e w' => e = .returned (.tuple #[]) ∧
      ∃ d : List Tolerance, List.Perm d l ∧ d.Pairwise (fun a b => befT b a = false) ∧ w'.ownsRow B 46 4 (.slice (some ⟨g, 0, none⟩) d.length c) d.length (d.flatMap Tolerance.cells) ∧ w.grownBy w' (some g) := by
  by_cases h0 : l = []
  · subst h0
    refine (AnyF.slices_SortFunc_none Tryz.sortTol (some ⟨g, 0, none⟩) c _ w).mono ?_
    rintro e w' ⟨rfl, rfl⟩
    exact ⟨rfl, [], List.Perm.refl _, List.Pairwise.nil, hown, World.grownBy.refl _ _⟩
  have eg : ∀ args w, (callFunc 55 args).run Tryz.prog w = .ok (.enter 55 args) w := enters_of Tryz.func55 (by kernel_rfl) rfl
  have hcon := AnyQ.slices_SortFunc Tryz.sortTol 4 Tryz.isAgg46 Tryz.sizeOf46 Tolerance.cells Tolerance.cells_len Tolerance.cells_one cmpO (CmpWay.swo wayO ordO) 55 #[] g 0 c l.toArray w eg (fun m os dk hs x y => impl_cmpO x y _) (holdsK_own (enc := Tolerance.cells) (k := 4) Tolerance.cells_len hown) (hown.lt g rfl).2 (by simp; omega)
  have hs : l.toArray.size = l.length := by simp
  rw [hs] at hcon
  refine hcon.mono ?_
  rintro e w' ⟨rfl, d', n, os, hp, hso, rfl⟩
  obtain ⟨hsz, _, hperm⟩ := hp
  rw [← hs, Array.extract_size] at hperm
  have e2 : d'.extract 0 l.toArray.size = d' := by rw [← hsz]; exact Array.extract_size
  rw [e2] at hperm
  have hl : d'.toList.length = l.length := by rw [Array.length_toList, hsz, hs]
  refine ⟨rfl, d'.toList, by simpa using hperm, ?_, ?_, grownBy_sortedK _ _⟩
  · rw [List.pairwise_iff_getElem]
    intro i j hi hj hij
    have h1 := hso i j (Nat.zero_le _) hij (by omega)
    have hi' : i < d'.size := by simpa using hi
    have hj' : j < d'.size := by simpa using hj
    rw [getElem!_pos d' i hi', getElem!_pos d' j hj', CmpWay.ltc wayO ordO] at h1
    exact h1
  · have := own_sortedK (n := n) (os := os) (enc := Tolerance.cells) Tolerance.cells_len hl hown
    rw [hl] at this ⊢
    exact this
/-- The elements in order, each once, in the same block. -/
def OnceTolerance (l : List Tolerance) (B g c : Nat) (w : World) (e : Ending) (w' : World) : Prop :=
  e = .returned (.slice (some ⟨g, 0, none⟩) (dsort befT l).length c) ∧ w'.ownsRow B 46 4 (.slice (some ⟨g, 0, none⟩) (dsort befT l).length c) (dsort befT l).length ((dsort befT l).flatMap Tolerance.cells) ∧ w.grownBy w' (some g)
set_option maxRecDepth 100000 in
set_option maxHeartbeats 8000000 in
theorem once_Tolerance (l : List Tolerance) (B g c : Nat) (w : World) (hown : w.ownsRow B 46 4 (.slice (some ⟨g, 0, none⟩) l.length c) l.length (l.flatMap Tolerance.cells)) (hn : l.length ≤ 1048576) :
    Calls Tryz.prog 101 #[.slice (some ⟨g, 0, none⟩) l.length c, .func (.func 55) #[] #[]] w fun e w' => OnceTolerance l B g c w e w' := by
  have hglt := (hown.lt g rfl).2
  obtain ⟨W, hW⟩ : ∃ W, W = w.alloc (.cells #[.func (.func 55) #[] #[]] 75) := ⟨_, rfl⟩
  have hbW : Below w.heap.size w W := by rw [hW]; exact (Below.refl _ _).alloc (Nat.le_refl _) _
  have hcW : CmpTolerance W w.heap.size := by
    unfold CmpTolerance
    rw [hW, cell_of_row _ _ _ _ _ _ (heap_alloc_new w _)]
    rfl
  have HS := Lib.hid (sort_Tolerance l B g c W (own_below' hown hbW) hn)
  have c0 : W.cell? ⟨w.heap.size, 0, none⟩ = some (.func (.func 55) #[] #[]) := hcW
  have Hc := Lib.hid hcW
  have Hb := Lib.hid hbW
  have HW := Lib.hid hW
  clear hown hbW hcW hW
  go_enter Tryz.func101, Tryz.ntmps101
  go_wp2_with fail
  rw [← HW.out]
  go_wp2_with fail
  refine HS.out.mono ?_
  rintro e w2 ⟨rfl, d, hp, hpw, hown2, hgr2⟩
  have hbg : w.heap.size ≠ g := by omega
  have hblt := World.block_lt_of_cell? _ _ Hc.out
  have hc2 : CmpTolerance w2 w.heap.size := (World.cell?_of_block (hgr2.block w.heap.size hblt (fun e => hbg (by injection e)))).trans Hc.out
  have hl := hp.length_eq
  have HC := Lib.hid (comp_Tolerance d B g c w.heap.size w2 hown2 (by omega) hc2 hbg)
  rw [hl] at HC
  have Hgr := Lib.hid (grown_trans (grown_of_below Hb.out (some g)) hgr2)
  have Hsq := Lib.hid (sq_dsort ordO hp hpw)
  clear hp hpw hown2 hgr2 hc2 hl c0
  go_wp2_with fail
  refine HC.out.mono ?_
  rintro e w3 ⟨d2, hd2, rfl, hown3, hgr3⟩
  have hd3 : d2 = dsort befT l := hd2.trans Hsq.out
  subst hd3
  have HR := Lib.hid (show OnceTolerance l B g c w (.returned (.slice (some ⟨g, 0, none⟩) (dsort befT l).length c)) w3 from ⟨rfl, hown3, grown_trans Hgr.out hgr3⟩)
  clear hd2 hown3 hgr3
  go_wp2_with fail
  go_ret
  exact HR.out
end Go.Proofs.YtdgedclpaplgoaaGreatDoor.taint
namespace Go.Proofs.YtdgedclpaplgoaaGreatDoor.taint
open Go.ChangeShapes Go.WideShapes Go.ChangeAt Go.RowKit ty lab dedup need
set_option linter.unusedVariables false

set_option maxRecDepth 100000 in
set_option maxHeartbeats 8000000 in
theorem impl_sifTolerance (l : List Tolerance) (f : Nat) (v : Value) (w : World) (h : Lies w f v (.sl 4 l.length (l.flatMap Tolerance.row))) (hn : l.length ≤ 1048576) :
    Calls Tryz.prog 54 #[v, .func (.func 55) #[] #[], .func (.func 23) #[] #[]] w fun e w' => ListOut w w' e 4 Tolerance.row (sortL TolsP befT l) := by
  have HC := Lib.hid (fun w' (hb : Below w.heap.size w w') => impl_cofTolerance l f v w' (h.below hb) hn)
  obtain ⟨A, c, rfl, hc1, hc2, f', rfl, hk⟩ := els_of Tolerance.row_length h
  unfold maxLen at hc2
  obtain ⟨hrd, hwf⟩ := rdk_Tolerance hk
  have Hwf := Lib.hid hwf
  have Hback : Hid (∀ (g c : Nat) (l2 : List Tolerance) (w3 : World), w3.ownsRow w.heap.size 46 4 (.slice (some ⟨g, 0, none⟩) l2.length c) l2.length (l2.flatMap Tolerance.cells) → (∀ x ∈ l2, x.Wf) → Below w.heap.size w w3 → ∀ b, ListOut w w3 (.returned (.tuple #[.slice (some ⟨g, 0, none⟩) l2.length c, .bool b])) 4 Tolerance.row (l2, b)) := fun g c l2 w3 ho hw hb b => by
    obtain ⟨F, h1, h2, _⟩ := own_Tolerance ho hw
    exact ⟨_, 1, F, rfl, h1, h2, hb⟩
  clear h hk hrd hwf
  by_cases h40 : 40 < l.length
  · have Hno := Lib.hid (sortL_no (P := TolsP) (lt := befT) (l := l) (fun h => by have := h.1; omega))
    have HBw := Lib.hid (Below.refl w.heap.size w)
    go_enter Tryz.func54, Tryz.ntmps54
    go_wp2_with fail
    refine (HC.out _ HBw.out).mono ?_
    rintro e w9 ⟨g9, c9, rfl, hown9, hb9⟩
    have HR := Lib.hid (Hback.out g9 c9 l w9 (own_lower' hown9 HBw.out.size) Hwf.out (below_link HBw.out hb9 HBw.out.size) false)
    clear hown9 hb9
    go_wp2_with fail
    go_ret2
    rw [Hno.out]
    exact HR.out
  have HBw := Lib.hid (Below.refl w.heap.size w)
  go_enter Tryz.func54, Tryz.ntmps54
  go_wp2_with fail
  refine (HC.out _ HBw.out).mono ?_
  rintro e w1 ⟨g1, c1, rfl, hown1, hb1⟩
  have HO := Lib.hid (once_Tolerance l w.heap.size g1 c1 w1 hown1 hn)
  have Hb1 := Lib.hid hb1
  have Hlo := Lib.hid (hown1.lt g1 rfl)
  clear hown1 hb1
  go_wp2_with fail
  refine HO.out.mono ?_
  rintro e w2 ⟨rfl, hown2, hgr2⟩
  have hb2 := Hb1.out.grown hgr2 Hb1.out.size (fun q hq => by injection hq with hq; subst hq; exact Hlo.out.1)
  have hwf2 : ∀ x ∈ dsort befT l, x.Wf := fun x hx => Hwf.out x (dsort_sub _ _ x hx)
  obtain ⟨F, ho, hnd, _⟩ := own_Tolerance hown2 hwf2
  have HL := Lib.hid (impl_oksTolerance (dsort befT l) _ _ w2 ho.lies)
  have Hb2 := Lib.hid hb2
  have HRy := Lib.hid (fun w3 (hb : Below w2.heap.size w2 w3) => Hback.out g1 c1 (dsort befT l) w3 (own_below' hown2 hb) hwf2 (below_link hb2 hb hb2.size) true)
  clear hown2 hgr2 hb2 ho hnd HO
  by_cases hP : TolsP (dsort befT l)
  · rw [yes_t hP] at HL
    have Hy := Lib.hid (sortL_yes (P := TolsP) (lt := befT) (l := l) ⟨by omega, hP⟩)
    clear hP hwf2
    generalize dsort befT l = d at *
    go_wp2_with fail
    refine HL.out.mono ?_
    rintro e w3 ⟨rfl, hb3⟩
    have HR := Lib.hid (HRy.out w3 hb3)
    clear hb3
    go_wp2_with fail
    go_ret2
    rw [Hy.out]
    exact HR.out
  rw [yes_f hP] at HL
  have Hno := Lib.hid (sortL_no (P := TolsP) (lt := befT) (l := l) (fun h => hP h.2))
  clear hP HRy hwf2
  generalize dsort befT l = d at HL
  go_wp2_with fail
  refine HL.out.mono ?_
  rintro e w3 ⟨rfl, hb3⟩
  have Hb3 := Lib.hid (below_link Hb2.out hb3 Hb2.out.size)
  clear hb3
  go_wp2_with fail
  refine (HC.out _ Hb3.out).mono ?_
  rintro e w9 ⟨g9, c9, rfl, hown9, hb9⟩
  have HR := Lib.hid (Hback.out g9 c9 l w9 (own_lower' hown9 Hb3.out.size) Hwf.out (below_link Hb3.out hb9 Hb3.out.size) false)
  clear hown9 hb9
  go_wp2_with fail
  go_ret2
  rw [Hno.out]
  exact HR.out
set_option maxRecDepth 100000 in
theorem impl_sortTolerance (l : List Tolerance) (f : Nat) (v : Value) (w : World) (h : Lies w f v (.sl 4 l.length (l.flatMap Tolerance.row))) (hn : l.length ≤ 1048576) :
    Calls Tryz.prog 18 #[v] w fun e w' => ListOut w w' e 4 Tolerance.row (sortL TolsP befT l) := by
  have HS := Lib.hid (impl_sifTolerance l f v w h hn)
  obtain ⟨r, hr⟩ : ∃ r, r = sortL TolsP befT l := ⟨_, rfl⟩
  rw [← hr] at HS ⊢
  obtain ⟨r1, r2⟩ := r
  clear h hn hr
  go_enter Tryz.func18, Tryz.ntmps18
  go_wp2_with fail
  refine HS.out.mono ?_
  rintro e w1 ⟨v1, f1, F1, rfl, ho, hnd, hb⟩
  have HR := Lib.hid (show ListOut w w1 (.returned (.tuple #[v1, .bool r2])) 4 Tolerance.row (r1, r2) from ⟨v1, f1, F1, rfl, ho, hnd, hb⟩)
  clear ho hnd hb
  go_wp2_with fail
  go_ret2
  exact HR.out
end Go.Proofs.YtdgedclpaplgoaaGreatDoor.taint
namespace Go.Proofs.YtdgedclpaplgoaaGreatDoor.fnTaints
open Go.ChangeShapes Go.WideShapes Go.ChangeAt Go.RowKit
open lab ty draw taint need dedup
set_option linter.unusedVariables false

theorem sortL_sum {α : Type} {P : List α → Prop} {lt : α → α → Bool} (f : α → Nat) (l : List α) : wsum f (sortL P lt l).1 ≤ wsum f l := by
  rcases sortL_cases (lt := lt) P l with e | ⟨e, _⟩ <;> rw [e]
  · exact Nat.le_refl _
  · exact sum_dsort lt f l
theorem sortL_good {α : Type} {P : List α → Prop} {lt : α → α → Bool} {l : List α} (h : (sortL P lt l).2 = true) : P (sortL P lt l).1 := by
  rcases sortL_cases (lt := lt) P l with e | ⟨e, hP⟩
  · rw [e] at h; cases h
  · rw [e]; exact hP
theorem nilT : TaintsP [] := ⟨by simp, fun i hi => by simp at hi⟩
/-- A nil slice reads as no element. -/
theorem lies_nil (w : World) (f k : Nat) (row : Taint → List C) : Lies w (f + 1) (.slice none 0 0) (.sl k ([] : List Taint).length (([] : List Taint).flatMap row)) := (own_nil w 0 f k).lies
set_option maxRecDepth 100000 in
set_option maxHeartbeats 32000000 in
theorem walk (A : Option Addr) (len cap : Nat) (zs : List Int) (W : World) (hr : IsRow .u8 W A len cap zs) :
    Calls Tryz.prog 4 #[.slice A len cap] W fun e w' => e = .returned (.bool true) ∧ Below W.heap.size W w' := by
  have hm := hr.le
  have hB := Lib.hid (lawBig.any A len cap W hm)
  unfold maxLen at hm
  by_cases h1 : 1048576 < len
  · clear hr
    go_enter Tryz.func4, Tryz.ntmps4
    go_wp2_with fail
    refine hB.out.mono ?_
    rintro e w1 ⟨rfl, rfl⟩
    go_wp2_with fail
    go_ret
    exact ⟨rfl, Below.refl _ _⟩
  have HD1 := Lib.hid (drawSortTaint A len cap zs W hr (by omega))
  have HD2 := Lib.hid (fun w (hb : Below W.heap.size W w) => drawSortTolerance A len cap zs w (hr.below hb) (by omega))
  clear hr
  go_enter Tryz.func4, Tryz.ntmps4
  go_wp2_with fail
  refine hB.out.mono ?_
  rintro e w1 ⟨rfl, rfl⟩
  clear hB
  go_wp2_with fail
  refine HD1.out.mono ?_
  clear HD1
  rintro e w1 ⟨l, v, f, F, hl, ht, rfl, ho, hb1⟩
  have L1 := Lib.hid (fun w (hb : Below w1.heap.size w1 w) => ho.lies.below hb)
  have HD := Lib.hid (HD2.out w1 hb1)
  have B1 := Lib.hid hb1
  clear ho hb1 HD2
  go_wp2_with fail
  refine HD.out.mono ?_
  clear HD
  rintro e w2 ⟨m, u, g, G, hm2, hu, rfl, ho, hb2⟩
  have L1' := Lib.hid (fun w (hb : Below w2.heap.size w2 w) => L1.out w (below_link hb2 hb hb2.size))
  have L2 := Lib.hid (fun w (hb : Below w2.heap.size w2 w) => ho.lies.below hb)
  have B2 := Lib.hid (below_link B1.out hb2 B1.out.size)
  have sl : wsum Taint.wt l ≤ 1048576 := Nat.le_trans (tinyL_sumTaint ht) (by omega)
  have sm : wsum Tolerance.wt m ≤ 1048576 := Nat.le_trans (tinyL_sumTolerance hu) (by omega)
  clear ho hb2 L1 B1 ht hu
  have HI1 := Lib.hid (fun w hb => impl_sortTaint l _ _ w (L1'.out w hb) (by omega))
  have HI2 := Lib.hid (fun w hb => impl_sortTolerance m _ _ w (L2.out w hb) (by omega))
  have HS1 := Lib.hid (fun w hb => spec_sortTaint l _ _ w (L1'.out w hb) sl (by omega))
  have HS2 := Lib.hid (fun w hb => spec_sortTolerance m _ _ w (L2.out w hb) sm (by omega))
  have hg1 := Lib.hid (fun h => sortL_good (P := TaintsP) (lt := lessT) (l := l) h)
  have hg2 := Lib.hid (fun h => sortL_good (P := TolsP) (lt := befT) (l := m) h)
  have hs1 := Nat.le_trans (sortL_sum (P := TaintsP) (lt := lessT) Taint.wt l) sl
  have hs2 := Nat.le_trans (sortL_sum (P := TolsP) (lt := befT) Tolerance.wt m) sm
  generalize sortL TaintsP lessT l = R1 at HI1 HS1 hg1 hs1
  generalize sortL TolsP befT m = R2 at HI2 HS2 hg2 hs2
  obtain ⟨rx, bx⟩ := R1
  obtain ⟨ry, by_⟩ := R2
  simp only at hg1 hg2 hs1 hs2
  clear sl sm L1' L2 hl hm2
  go_wp2_with fail
  refine (HI1.out w2 (Below.refl _ _)).mono ?_
  rintro e w3 ⟨vx, fx, Fx, rfl, ox, _, hb3⟩
  have X3 := Lib.hid (fun w (hb : Below w3.heap.size w3 w) => ox.lies.below hb)
  have B3 := Lib.hid hb3
  clear ox hb3 HI1
  go_wp2_with fail
  refine (HI2.out w3 B3.out).mono ?_
  rintro e w4 ⟨vy, fy, Fy, rfl, oy, _, hb4⟩
  have X4 := Lib.hid (fun w (hb : Below w4.heap.size w4 w) => X3.out w (below_link hb4 hb hb4.size))
  have Y4 := Lib.hid (fun w (hb : Below w4.heap.size w4 w) => oy.lies.below hb)
  have B4 := Lib.hid (below_link B3.out hb4 B3.out.size)
  clear oy hb4 HI2 X3 B3
  go_wp2_with fail
  refine (HS1.out w4 B4.out).mono ?_
  rintro e w5 ⟨vp, fp, Fp, rfl, op, _, hb5⟩
  have X5 := Lib.hid (fun w (hb : Below w5.heap.size w5 w) => X4.out w (below_link hb5 hb hb5.size))
  have Y5 := Lib.hid (fun w (hb : Below w5.heap.size w5 w) => Y4.out w (below_link hb5 hb hb5.size))
  have P5 := Lib.hid (fun w (hb : Below w5.heap.size w5 w) => op.lies.below hb)
  have B5 := Lib.hid (below_link B4.out hb5 B4.out.size)
  clear op hb5 HS1 X4 Y4 B4
  go_wp2_with fail
  refine (HS2.out w5 B5.out).mono ?_
  rintro e w6 ⟨vq, fq, Fq, rfl, oq, _, hb6⟩
  have X6 := Lib.hid (fun w (hb : Below w6.heap.size w6 w) => X5.out w (below_link hb6 hb hb6.size))
  have Y6 := Lib.hid (fun w (hb : Below w6.heap.size w6 w) => Y5.out w (below_link hb6 hb hb6.size))
  have P6 := P5.out w6 hb6
  have Q6 := oq.lies
  have B6 := Lib.hid (below_link B2.out (below_link B5.out hb6 B5.out.size) B2.out.size)
  obtain ⟨Ax, cx, rfl, hx1, hx2, fx', hfx, hkx⟩ := els_of Taint.row_length (X6.out w6 (Below.refl _ _))
  obtain ⟨Ay, cy, rfl, hy1, hy2, fy', hfy, hky⟩ := els_of Tolerance.row_length (Y6.out w6 (Below.refl _ _))
  obtain ⟨Ap, cp, rfl, hp1, hp2, fp', hfp, hkp⟩ := els_of Taint.row_length P6
  obtain ⟨Aq, cq, rfl, hq1, hq2, fq', hfq, hkq⟩ := els_of Tolerance.row_length Q6
  unfold maxLen at hx2 hy2 hp2 hq2
  have EX := Lib.hid hkx
  have EY := Lib.hid hky
  have EP := Lib.hid hkp
  have EQ := Lib.hid hkq
  clear oq hb6 HS2 X5 Y5 B5 P5 P6 Q6 hkx hky hkp hkq hfx hfy hfp hfq B2
  have HT1 := Lib.hid (fun w hb => impl_oksTaint rx _ _ w (X6.out w hb))
  have HT2 := Lib.hid (fun w hb => spec_oksTaint rx _ _ w (X6.out w hb) hs1)
  have HO1 := Lib.hid (fun w hb => impl_oksTolerance ry _ _ w (Y6.out w hb))
  have HO2 := Lib.hid (fun w hb => spec_oksTolerance ry _ _ w (Y6.out w hb) hs2)
  have HN := Lib.hid (fun w => impl_oksTaint [] 1 (.slice none 0 0) w (lies_nil w 0 3 Taint.row))
  rw [yes_t nilT] at HN
  have W1 : bx = false ∨ (bx = true ∧ yes (TaintsP rx) = true) := by
    cases bx with
    | false => exact .inl rfl
    | true => exact .inr ⟨rfl, yes_t (hg1.out rfl)⟩
  have W2 : by_ = false ∨ (by_ = true ∧ yes (TolsP ry) = true) := by
    cases by_ with
    | false => exact .inl rfl
    | true => exact .inr ⟨rfl, yes_t (hg2.out rfl)⟩
  generalize yes (TaintsP rx) = r1 at HT1 HT2 W1
  generalize yes (TolsP ry) = r2 at HO1 HO2 W2
  have W1 := Lib.hid W1
  have W2 := Lib.hid W2
  clear hg1 hg2 hs1 hs2 X6 Y6
  go_wp2_with fail
  go_loopw [13] (fun i wr => ∃ j : Nat, j ≤ rx.length ∧ i = .int .i64 j ∧ ∃ n, wr = w6.drewN n) (fun i _ => rx.length - (intOf i).toNat)
  case atStart => exact ⟨0, Nat.zero_le _, rfl, 0, rfl⟩
  case round =>
    obtain ⟨j, hj, rfl, n0, hwr⟩ := hrel
    have Hw : Hid (∃ n, wr = w6.drewN n) := ⟨n0, hwr⟩
    by_cases hlt : j < rx.length
    · obtain ⟨g1, o1, rfl, hg1', us, hus, hc, hls⟩ := EX.out.get hlt
      obtain ⟨rfl, _⟩ := Taint.opened hls
      obtain ⟨g2, o2, rfl, hg2', us2, hus2, hc2', hls2⟩ := EP.out.get hlt
      obtain ⟨rfl, _⟩ := Taint.opened hls2
      have q0 : wr.cell? ⟨g1, o1 + j * 3, none⟩ = some (.string rx[j].key) := by rw [hwr]; exact hc 0 _ rfl
      have r0 : wr.cell? ⟨g2, o2 + j * 3, none⟩ = some (.string rx[j].key) := by rw [hwr]; exact hc2' 0 _ rfl
      have q1 : wr.cell? ⟨g1, o1 + j * 3 + 1, none⟩ = some (.string rx[j].value) := by rw [hwr]; exact hc 1 _ rfl
      have r1 : wr.cell? ⟨g2, o2 + j * 3 + 1, none⟩ = some (.string rx[j].value) := by rw [hwr]; exact hc2' 1 _ rfl
      have q2 : wr.cell? ⟨g1, o1 + j * 3 + 2, none⟩ = some (.int .i64 rx[j].effect) := by rw [hwr]; exact hc 2 _ rfl
      have r2 : wr.cell? ⟨g2, o2 + j * 3 + 2, none⟩ = some (.int .i64 rx[j].effect) := by rw [hwr]; exact hc2' 2 _ rfl
      have hj0 : (0 : Int) ≤ (j : Int) := by omega
      have hjn : (j : Int) < (rx.length : Int) := by omega
      clear hwr hc hls hus hc2' hls2 hus2 hg1' hg2'
      generalize rx[j] = x at q0 r0 q1 r1 q2 r2
      go_wp2_with fail
      go_quiet (fail)
      go_wp2_with fail
      go_roundw
      case rel => exact ⟨j + 1, by omega, by go_num, drew_of Hw.out _⟩
      case measure => simp [intOf]; omega
    · obtain rfl : j = rx.length := by omega
      clear hwr
      go_wp2_with fail
      go_loopw [14] (fun i wr => ∃ j : Nat, j ≤ ry.length ∧ i = .int .i64 j ∧ ∃ n, wr = w6.drewN n) (fun i _ => ry.length - (intOf i).toNat)
      case atStart => exact ⟨0, Nat.zero_le _, rfl, Hw.out⟩
      case round =>
        clear Hw
        obtain ⟨j, hj, rfl, n0, hwr⟩ := hrel
        have Hw : Hid (∃ n, wr = w6.drewN n) := ⟨n0, hwr⟩
        by_cases hlt : j < ry.length
        · obtain ⟨g1, o1, rfl, hg1', us, hus, hc, hls⟩ := EY.out.get hlt
          obtain ⟨rfl, _⟩ := Tolerance.opened hls
          obtain ⟨g2, o2, rfl, hg2', us2, hus2, hc2', hls2⟩ := EQ.out.get hlt
          obtain ⟨rfl, _⟩ := Tolerance.opened hls2
          have q0 : wr.cell? ⟨g1, o1 + j * 4, none⟩ = some (.string ry[j].key) := by rw [hwr]; exact hc 0 _ rfl
          have r0 : wr.cell? ⟨g2, o2 + j * 4, none⟩ = some (.string ry[j].key) := by rw [hwr]; exact hc2' 0 _ rfl
          have q1 : wr.cell? ⟨g1, o1 + j * 4 + 1, none⟩ = some (.bool ry[j].equal) := by rw [hwr]; exact hc 1 _ rfl
          have r1 : wr.cell? ⟨g2, o2 + j * 4 + 1, none⟩ = some (.bool ry[j].equal) := by rw [hwr]; exact hc2' 1 _ rfl
          have q2 : wr.cell? ⟨g1, o1 + j * 4 + 2, none⟩ = some (.string ry[j].value) := by rw [hwr]; exact hc 2 _ rfl
          have r2 : wr.cell? ⟨g2, o2 + j * 4 + 2, none⟩ = some (.string ry[j].value) := by rw [hwr]; exact hc2' 2 _ rfl
          have q3 : wr.cell? ⟨g1, o1 + j * 4 + 3, none⟩ = some (.int .i64 ry[j].effect) := by rw [hwr]; exact hc 3 _ rfl
          have r3 : wr.cell? ⟨g2, o2 + j * 4 + 3, none⟩ = some (.int .i64 ry[j].effect) := by rw [hwr]; exact hc2' 3 _ rfl
          have hj0 : (0 : Int) ≤ (j : Int) := by omega
          have hjn : (j : Int) < (ry.length : Int) := by omega
          clear hwr hc hls hus hc2' hls2 hus2 hg1' hg2'
          generalize ry[j] = x at q0 r0 q1 r1 q2 r2 q3 r3
          go_wp2_with fail
          go_quiet (fail)
          go_wp2_with fail
          go_roundw
          case rel => exact ⟨j + 1, by omega, by go_num, drew_of Hw.out _⟩
          case measure => simp [intOf]; omega
        · obtain rfl : j = ry.length := by omega
          have hB0 : Below w6.heap.size w6 wr := by rw [hwr]; exact below_drewN (Below.refl _ _) _
          clear hwr Hw EX EY EP EQ
          have BB := Lib.hid hB0
          clear hB0
          have e1 : (r1 == r1) = true := beq_self_eq_true _
          have e2 : (r2 == r2) = true := beq_self_eq_true _
          rcases W1.out with rfl | ⟨rfl, rfl⟩
          · skip
            rcases W2.out with rfl | ⟨rfl, rfl⟩
            · skip
              go_wp2_with fail
              refine (HT1.out _ BB.out).mono ?_
              rintro e z1 ⟨rfl, hb⟩
              have BB' := Lib.hid (below_link BB.out hb BB.out.size)
              clear BB hb
              have BB := BB'
              clear BB'
              go_wp2_with fail
              refine (HT2.out _ BB.out).mono ?_
              rintro e z2 ⟨rfl, hb⟩
              have BB' := Lib.hid (below_link BB.out hb BB.out.size)
              clear BB hb
              have BB := BB'
              clear BB'
              go_wp2_with fail
              refine (HO1.out _ BB.out).mono ?_
              rintro e z3 ⟨rfl, hb⟩
              have BB' := Lib.hid (below_link BB.out hb BB.out.size)
              clear BB hb
              have BB := BB'
              clear BB'
              go_wp2_with fail
              refine (HO2.out _ BB.out).mono ?_
              rintro e z4 ⟨rfl, hb⟩
              have BB' := Lib.hid (below_link BB.out hb BB.out.size)
              clear BB hb
              have BB := BB'
              clear BB'
              go_wp2_with fail
              refine (HN.out _).mono ?_
              rintro e z5 ⟨rfl, hb⟩
              have BB' := Lib.hid (below_link BB.out hb BB.out.size)
              clear BB hb
              have BB := BB'
              clear BB'
              go_wp2_with fail
              go_ret
              exact ⟨rfl, below_link B6.out BB.out B6.out.size⟩
            · skip
              go_wp2_with fail
              refine (HT1.out _ BB.out).mono ?_
              rintro e z1 ⟨rfl, hb⟩
              have BB' := Lib.hid (below_link BB.out hb BB.out.size)
              clear BB hb
              have BB := BB'
              clear BB'
              go_wp2_with fail
              refine (HT2.out _ BB.out).mono ?_
              rintro e z2 ⟨rfl, hb⟩
              have BB' := Lib.hid (below_link BB.out hb BB.out.size)
              clear BB hb
              have BB := BB'
              clear BB'
              go_wp2_with fail
              refine (HO1.out _ BB.out).mono ?_
              rintro e z3 ⟨rfl, hb⟩
              have BB' := Lib.hid (below_link BB.out hb BB.out.size)
              clear BB hb
              have BB := BB'
              clear BB'
              go_wp2_with fail
              refine (HO2.out _ BB.out).mono ?_
              rintro e z4 ⟨rfl, hb⟩
              have BB' := Lib.hid (below_link BB.out hb BB.out.size)
              clear BB hb
              have BB := BB'
              clear BB'
              go_wp2_with fail
              refine (HO1.out _ BB.out).mono ?_
              rintro e z5 ⟨rfl, hb⟩
              have BB' := Lib.hid (below_link BB.out hb BB.out.size)
              clear BB hb
              have BB := BB'
              clear BB'
              go_wp2_with fail
              refine (HN.out _).mono ?_
              rintro e z6 ⟨rfl, hb⟩
              have BB' := Lib.hid (below_link BB.out hb BB.out.size)
              clear BB hb
              have BB := BB'
              clear BB'
              go_wp2_with fail
              go_ret
              exact ⟨rfl, below_link B6.out BB.out B6.out.size⟩
          · skip
            rcases W2.out with rfl | ⟨rfl, rfl⟩
            · skip
              go_wp2_with fail
              refine (HT1.out _ BB.out).mono ?_
              rintro e z1 ⟨rfl, hb⟩
              have BB' := Lib.hid (below_link BB.out hb BB.out.size)
              clear BB hb
              have BB := BB'
              clear BB'
              go_wp2_with fail
              refine (HT2.out _ BB.out).mono ?_
              rintro e z2 ⟨rfl, hb⟩
              have BB' := Lib.hid (below_link BB.out hb BB.out.size)
              clear BB hb
              have BB := BB'
              clear BB'
              go_wp2_with fail
              refine (HO1.out _ BB.out).mono ?_
              rintro e z3 ⟨rfl, hb⟩
              have BB' := Lib.hid (below_link BB.out hb BB.out.size)
              clear BB hb
              have BB := BB'
              clear BB'
              go_wp2_with fail
              refine (HO2.out _ BB.out).mono ?_
              rintro e z4 ⟨rfl, hb⟩
              have BB' := Lib.hid (below_link BB.out hb BB.out.size)
              clear BB hb
              have BB := BB'
              clear BB'
              go_wp2_with fail
              refine (HT1.out _ BB.out).mono ?_
              rintro e z5 ⟨rfl, hb⟩
              have BB' := Lib.hid (below_link BB.out hb BB.out.size)
              clear BB hb
              have BB := BB'
              clear BB'
              go_wp2_with fail
              refine (HN.out _).mono ?_
              rintro e z6 ⟨rfl, hb⟩
              have BB' := Lib.hid (below_link BB.out hb BB.out.size)
              clear BB hb
              have BB := BB'
              clear BB'
              go_wp2_with fail
              go_ret
              exact ⟨rfl, below_link B6.out BB.out B6.out.size⟩
            · skip
              go_wp2_with fail
              refine (HT1.out _ BB.out).mono ?_
              rintro e z1 ⟨rfl, hb⟩
              have BB' := Lib.hid (below_link BB.out hb BB.out.size)
              clear BB hb
              have BB := BB'
              clear BB'
              go_wp2_with fail
              refine (HT2.out _ BB.out).mono ?_
              rintro e z2 ⟨rfl, hb⟩
              have BB' := Lib.hid (below_link BB.out hb BB.out.size)
              clear BB hb
              have BB := BB'
              clear BB'
              go_wp2_with fail
              refine (HO1.out _ BB.out).mono ?_
              rintro e z3 ⟨rfl, hb⟩
              have BB' := Lib.hid (below_link BB.out hb BB.out.size)
              clear BB hb
              have BB := BB'
              clear BB'
              go_wp2_with fail
              refine (HO2.out _ BB.out).mono ?_
              rintro e z4 ⟨rfl, hb⟩
              have BB' := Lib.hid (below_link BB.out hb BB.out.size)
              clear BB hb
              have BB := BB'
              clear BB'
              go_wp2_with fail
              refine (HT1.out _ BB.out).mono ?_
              rintro e z5 ⟨rfl, hb⟩
              have BB' := Lib.hid (below_link BB.out hb BB.out.size)
              clear BB hb
              have BB := BB'
              clear BB'
              go_wp2_with fail
              refine (HO1.out _ BB.out).mono ?_
              rintro e z6 ⟨rfl, hb⟩
              have BB' := Lib.hid (below_link BB.out hb BB.out.size)
              clear BB hb
              have BB := BB'
              clear BB'
              go_wp2_with fail
              refine (HN.out _).mono ?_
              rintro e z7 ⟨rfl, hb⟩
              have BB' := Lib.hid (below_link BB.out hb BB.out.size)
              clear BB hb
              have BB := BB'
              clear BB'
              go_wp2_with fail
              go_ret
              exact ⟨rfl, below_link B6.out BB.out B6.out.size⟩
end Go.Proofs.YtdgedclpaplgoaaGreatDoor.fnTaints
