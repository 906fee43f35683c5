/- Merged: OnceTolerance SrtTolerance NormPI. -/
import Derived.Test.YtcfbkfmkjggcdaaGreatDoorCompTolerance
import Derived.Test.YtcfbkfmkjggcdaaGreatDoorGA9
import Derived.Test.YtcfbkfmkjggcdaaGreatDoorShelf
import Derived.Test.YtcfbkfmkjggcdaaGreatDoorGA19
import Derived.Test.YtcfbkfmkjggcdaaGreatDoorGA16
import Derived.Test.YtcfbkfmkjggcdaaGreatDoorGA7
import Derived.Test.YtcfbkfmkjggcdaaGreatDoorPodI
import Derived.Test.YtcfbkfmkjggcdaaGreatDoorGA20
import Derived.Test.YtcfbkfmkjggcdaaGreatDoorGA22
import Derived.Test.YtcfbkfmkjggcdaaGreatDoorGA24
import Derived.Deep.WholeRow
namespace Go.Proofs.YtcfbkfmkjggcdaaGreatDoor.taint
open Go.ChangeShapes Go.WideShapes Go.ChangeAt Go.RowKit ty lab dedup need
set_option linter.unusedVariables false

open Go.Sort (SWO PermIn SortedIn grow)
set_option maxRecDepth 100000 in
theorem sort_Tolerance (l : List Tolerance) (B g c : Nat) (w : World) (hown : w.ownsRow B 86 4 (.slice (some ⟨g, 0, none⟩) l.length c) l.length (l.flatMap Tolerance.cells)) (hn : l.length ≤ 1048576) :
    Calls Tryz.prog 213 #[.slice (some ⟨g, 0, none⟩) l.length c, .func (.func 103) #[] #[]] w fun e w' => e = .returned (.tuple #[]) ∧
      ∃ d : List Tolerance, List.Perm d l ∧ d.Pairwise (fun a b => befT b a = false) ∧ w'.ownsRow B 86 4 (.slice (some ⟨g, 0, none⟩) d.length c) d.length (d.flatMap Tolerance.cells) ∧ w.grownBy w' (some g) := by
  by_cases h0 : l = []
  · subst h0
    refine (AnyF.slices_SortFunc_none Tryz.sortTol (some ⟨g, 0, none⟩) c _ w).mono ?_
    rintro e w' ⟨rfl, rfl⟩
    exact ⟨rfl, [], List.Perm.refl _, List.Pairwise.nil, hown, World.grownBy.refl _ _⟩
  have eg : ∀ args w, (callFunc 103 args).run Tryz.prog w = .ok (.enter 103 args) w := enters_of Tryz.func103 (by kernel_rfl) rfl
  have hcon := AnyQ.slices_SortFunc Tryz.sortTol 4 Tryz.isAgg86 Tryz.sizeOf86 Tolerance.cells Tolerance.cells_len Tolerance.cells_one cmpO (CmpWay.swo wayO ordO) 103 #[] g 0 c l.toArray w eg (fun m os dk hs x y => impl_cmpO x y _) (holdsK_own (enc := Tolerance.cells) (k := 4) Tolerance.cells_len hown) (hown.lt g rfl).2 (by simp; omega)
  have hs : l.toArray.size = l.length := by simp
  rw [hs] at hcon
  refine hcon.mono ?_
  rintro e w' ⟨rfl, d', n, os, hp, hso, rfl⟩
  obtain ⟨hsz, _, hperm⟩ := hp
  rw [← hs, Array.extract_size] at hperm
  have e2 : d'.extract 0 l.toArray.size = d' := by rw [← hsz]; exact Array.extract_size
  rw [e2] at hperm
  have hl : d'.toList.length = l.length := by rw [Array.length_toList, hsz, hs]
  refine ⟨rfl, d'.toList, by simpa using hperm, ?_, ?_, grownBy_sortedK _ _⟩
  · rw [List.pairwise_iff_getElem]
    intro i j hi hj hij
    have h1 := hso i j (Nat.zero_le _) hij (by omega)
    have hi' : i < d'.size := by simpa using hi
    have hj' : j < d'.size := by simpa using hj
    rw [getElem!_pos d' i hi', getElem!_pos d' j hj', CmpWay.ltc wayO ordO] at h1
    exact h1
  · have := own_sortedK (n := n) (os := os) (enc := Tolerance.cells) Tolerance.cells_len hl hown
    rw [hl] at this ⊢
    exact this
/-- The elements in order, each once, in the same block. -/
def OnceTolerance (l : List Tolerance) (B g c : Nat) (w : World) (e : Ending) (w' : World) : Prop :=
  e = .returned (.slice (some ⟨g, 0, none⟩) (dsort befT l).length c) ∧ w'.ownsRow B 86 4 (.slice (some ⟨g, 0, none⟩) (dsort befT l).length c) (dsort befT l).length ((dsort befT l).flatMap Tolerance.cells) ∧ w.grownBy w' (some g)
set_option maxRecDepth 100000 in
set_option maxHeartbeats 8000000 in
theorem once_Tolerance (l : List Tolerance) (B g c : Nat) (w : World) (hown : w.ownsRow B 86 4 (.slice (some ⟨g, 0, none⟩) l.length c) l.length (l.flatMap Tolerance.cells)) (hn : l.length ≤ 1048576) :
    Calls Tryz.prog 174 #[.slice (some ⟨g, 0, none⟩) l.length c, .func (.func 103) #[] #[]] w fun e w' => OnceTolerance l B g c w e w' := by
  have hglt := (hown.lt g rfl).2
  obtain ⟨W, hW⟩ : ∃ W, W = w.alloc (.cells #[.func (.func 103) #[] #[]] 129) := ⟨_, rfl⟩
  have hbW : Below w.heap.size w W := by rw [hW]; exact (Below.refl _ _).alloc (Nat.le_refl _) _
  have hcW : CmpTolerance W w.heap.size := by
    unfold CmpTolerance
    rw [hW, cell_of_row _ _ _ _ _ _ (heap_alloc_new w _)]
    rfl
  have HS := Lib.hid (sort_Tolerance l B g c W (own_below' hown hbW) hn)
  have c0 : W.cell? ⟨w.heap.size, 0, none⟩ = some (.func (.func 103) #[] #[]) := hcW
  have Hc := Lib.hid hcW
  have Hb := Lib.hid hbW
  have HW := Lib.hid hW
  clear hown hbW hcW hW
  go_enter Tryz.func174, Tryz.ntmps174
  go_wp2_with fail
  rw [← HW.out]
  go_wp2_with fail
  refine HS.out.mono ?_
  rintro e w2 ⟨rfl, d, hp, hpw, hown2, hgr2⟩
  have hbg : w.heap.size ≠ g := by omega
  have hblt := World.block_lt_of_cell? _ _ Hc.out
  have hc2 : CmpTolerance w2 w.heap.size := (World.cell?_of_block (hgr2.block w.heap.size hblt (fun e => hbg (by injection e)))).trans Hc.out
  have hl := hp.length_eq
  have HC := Lib.hid (comp_Tolerance d B g c w.heap.size w2 hown2 (by omega) hc2 hbg)
  rw [hl] at HC
  have Hgr := Lib.hid (grown_trans (grown_of_below Hb.out (some g)) hgr2)
  have Hsq := Lib.hid (sq_dsort ordO hp hpw)
  clear hp hpw hown2 hgr2 hc2 hl c0
  go_wp2_with fail
  refine HC.out.mono ?_
  rintro e w3 ⟨d2, hd2, rfl, hown3, hgr3⟩
  have hd3 : d2 = dsort befT l := hd2.trans Hsq.out
  subst hd3
  have HR := Lib.hid (show OnceTolerance l B g c w (.returned (.slice (some ⟨g, 0, none⟩) (dsort befT l).length c)) w3 from ⟨rfl, hown3, grown_trans Hgr.out hgr3⟩)
  clear hd2 hown3 hgr3
  go_wp2_with fail
  go_ret
  exact HR.out
end Go.Proofs.YtcfbkfmkjggcdaaGreatDoor.taint
namespace Go.Proofs.YtcfbkfmkjggcdaaGreatDoor.taint
open Go.ChangeShapes Go.WideShapes Go.ChangeAt Go.RowKit ty lab dedup need
set_option linter.unusedVariables false

set_option maxRecDepth 100000 in
set_option maxHeartbeats 8000000 in
theorem impl_sifTolerance (l : List Tolerance) (f : Nat) (v : Value) (w : World) (h : Lies w f v (.sl 4 l.length (l.flatMap Tolerance.row))) (hn : l.length ≤ 1048576) :
    Calls Tryz.prog 102 #[v, .func (.func 103) #[] #[], .func (.func 104) #[] #[]] w fun e w' => ListOut w w' e 4 Tolerance.row (sortL TolsP befT l) := by
  have HC := Lib.hid (fun w' (hb : Below w.heap.size w w') => impl_cofTolerance l f v w' (h.below hb) hn)
  obtain ⟨A, c, rfl, hc1, hc2, f', rfl, hk⟩ := els_of Tolerance.row_length h
  unfold maxLen at hc2
  obtain ⟨hrd, hwf⟩ := rdk_Tolerance hk
  have Hwf := Lib.hid hwf
  have Hback : Hid (∀ (g c : Nat) (l2 : List Tolerance) (w3 : World), w3.ownsRow w.heap.size 86 4 (.slice (some ⟨g, 0, none⟩) l2.length c) l2.length (l2.flatMap Tolerance.cells) → (∀ x ∈ l2, x.Wf) → Below w.heap.size w w3 → ∀ b, ListOut w w3 (.returned (.tuple #[.slice (some ⟨g, 0, none⟩) l2.length c, .bool b])) 4 Tolerance.row (l2, b)) := fun g c l2 w3 ho hw hb b => by
    obtain ⟨F, h1, h2, _⟩ := own_Tolerance ho hw
    exact ⟨_, 1, F, rfl, h1, h2, hb⟩
  clear h hk hrd hwf
  by_cases h40 : 40 < l.length
  · have Hno := Lib.hid (sortL_no (P := TolsP) (lt := befT) (l := l) (fun h => by have := h.1; omega))
    have HBw := Lib.hid (Below.refl w.heap.size w)
    go_enter Tryz.func102, Tryz.ntmps102
    go_wp2_with fail
    refine (HC.out _ HBw.out).mono ?_
    rintro e w9 ⟨g9, c9, rfl, hown9, hb9⟩
    have HR := Lib.hid (Hback.out g9 c9 l w9 (own_lower' hown9 HBw.out.size) Hwf.out (below_link HBw.out hb9 HBw.out.size) false)
    clear hown9 hb9
    go_wp2_with fail
    go_ret2
    rw [Hno.out]
    exact HR.out
  have HBw := Lib.hid (Below.refl w.heap.size w)
  go_enter Tryz.func102, Tryz.ntmps102
  go_wp2_with fail
  refine (HC.out _ HBw.out).mono ?_
  rintro e w1 ⟨g1, c1, rfl, hown1, hb1⟩
  have HO := Lib.hid (once_Tolerance l w.heap.size g1 c1 w1 hown1 hn)
  have Hb1 := Lib.hid hb1
  have Hlo := Lib.hid (hown1.lt g1 rfl)
  clear hown1 hb1
  go_wp2_with fail
  refine HO.out.mono ?_
  rintro e w2 ⟨rfl, hown2, hgr2⟩
  have hb2 := Hb1.out.grown hgr2 Hb1.out.size (fun q hq => by injection hq with hq; subst hq; exact Hlo.out.1)
  have hwf2 : ∀ x ∈ dsort befT l, x.Wf := fun x hx => Hwf.out x (dsort_sub _ _ x hx)
  obtain ⟨F, ho, hnd, _⟩ := own_Tolerance hown2 hwf2
  have HL := Lib.hid (impl_oksTolerance (dsort befT l) _ _ w2 ho.lies)
  have Hb2 := Lib.hid hb2
  have HRy := Lib.hid (fun w3 (hb : Below w2.heap.size w2 w3) => Hback.out g1 c1 (dsort befT l) w3 (own_below' hown2 hb) hwf2 (below_link hb2 hb hb2.size) true)
  clear hown2 hgr2 hb2 ho hnd HO
  by_cases hP : TolsP (dsort befT l)
  · rw [yes_t hP] at HL
    have Hy := Lib.hid (sortL_yes (P := TolsP) (lt := befT) (l := l) ⟨by omega, hP⟩)
    clear hP hwf2
    generalize dsort befT l = d at *
    go_wp2_with fail
    refine HL.out.mono ?_
    rintro e w3 ⟨rfl, hb3⟩
    have HR := Lib.hid (HRy.out w3 hb3)
    clear hb3
    go_wp2_with fail
    go_ret2
    rw [Hy.out]
    exact HR.out
  rw [yes_f hP] at HL
  have Hno := Lib.hid (sortL_no (P := TolsP) (lt := befT) (l := l) (fun h => hP h.2))
  clear hP HRy hwf2
  generalize dsort befT l = d at HL
  go_wp2_with fail
  refine HL.out.mono ?_
  rintro e w3 ⟨rfl, hb3⟩
  have Hb3 := Lib.hid (below_link Hb2.out hb3 Hb2.out.size)
  clear hb3
  go_wp2_with fail
  refine (HC.out _ Hb3.out).mono ?_
  rintro e w9 ⟨g9, c9, rfl, hown9, hb9⟩
  have HR := Lib.hid (Hback.out g9 c9 l w9 (own_lower' hown9 Hb3.out.size) Hwf.out (below_link Hb3.out hb9 Hb3.out.size) false)
  clear hown9 hb9
  go_wp2_with fail
  go_ret2
  rw [Hno.out]
  exact HR.out
set_option maxRecDepth 100000 in
theorem impl_sortTolerance (l : List Tolerance) (f : Nat) (v : Value) (w : World) (h : Lies w f v (.sl 4 l.length (l.flatMap Tolerance.row))) (hn : l.length ≤ 1048576) :
    Calls Tryz.prog 36 #[v] w fun e w' => ListOut w w' e 4 Tolerance.row (sortL TolsP befT l) := by
  have HS := Lib.hid (impl_sifTolerance l f v w h hn)
  obtain ⟨r, hr⟩ : ∃ r, r = sortL TolsP befT l := ⟨_, rfl⟩
  rw [← hr] at HS ⊢
  obtain ⟨r1, r2⟩ := r
  clear h hn hr
  go_enter Tryz.func36, Tryz.ntmps36
  go_wp2_with fail
  refine HS.out.mono ?_
  rintro e w1 ⟨v1, f1, F1, rfl, ho, hnd, hb⟩
  have HR := Lib.hid (show ListOut w w1 (.returned (.tuple #[v1, .bool r2])) 4 Tolerance.row (r1, r2) from ⟨v1, f1, F1, rfl, ho, hnd, hb⟩)
  clear ho hnd hb
  go_wp2_with fail
  go_ret2
  exact HR.out
end Go.Proofs.YtcfbkfmkjggcdaaGreatDoor.taint
namespace Go.Proofs.YtcfbkfmkjggcdaaGreatDoor.pod
open Go.ChangeShapes Go.WideShapes Go.ChangeAt Go.RowKit ty lab need taint
set_option linter.unusedVariables false
set_option maxRecDepth 100000 in
set_option maxHeartbeats 32000000 in
theorem impl_podN (x : Pod) (f : Nat) (us : List Value) (w : World) (h : LiesS w f us x.row) (hz : x.wt ≤ 1048576) (hzo : (podO x).wt ≤ 1048576) :
    Calls Tryz.prog 9 #[.agg us.toArray] w fun e w' => NormOutC Pod.row w w' e (podN x) := by
  have HCP := Lib.hid (fun w' (hb : Below w.heap.size w w') => impl_copyP x f us w' (h.kept hb.block) hz)
  have hyes := podN_if (x := x)
  have hno := podN_not (x := x)
  obtain ⟨a0, a1, a2, a3, a4, a5, a6⟩ := x
  obtain ⟨A1, c1, A5, c5, A6, c6, rfl, hwf, k1, m1, l1, k5, m5, l5, k6, m6, l6⟩ := Pod.opened h
  unfold Pod.wt at hz
  unfold podO at hyes hno hzo
  simp only at hz hzo hyes hno hwf k1 m1 l1 k5 m5 l5 k6 m6 l6
  have C1 := Lib.hid (fun w' (hb : Below w.heap.size w w') => (impl_sort a1 f _ w' (l1.below hb) (small_of (by omega)) (by omega)).mono fun _ _ h => h.toC)
  have C5 := Lib.hid (fun w' (hb : Below w.heap.size w w') => (impl_sortN a5 f _ w' (l5.below hb) (by omega)).mono fun _ _ h => h)
  have C6 := Lib.hid (fun w' (hb : Below w.heap.size w w') => (impl_sortTolerance a6 f _ w' (l6.below hb) (by omega)).mono fun _ _ h => h.toC)
  obtain ⟨⟨r1, t1⟩, hR1⟩ : ∃ R, R = sortF a1 := ⟨_, rfl⟩
  rw [← hR1] at C1 hyes hno hzo
  obtain ⟨⟨r5, t5⟩, hR5⟩ : ∃ R, R = sortN a5 := ⟨_, rfl⟩
  rw [← hR5] at C5 hyes hno hzo
  obtain ⟨⟨r6, t6⟩, hR6⟩ : ∃ R, R = sortL TolsP befT a6 := ⟨_, rfl⟩
  rw [← hR6] at C6 hyes hno hzo
  clear hR1 hR5 hR6
  simp only at hyes hno hzo
  generalize podN ⟨a0, a1, a2, a3, a4, a5, a6⟩ = RN at hyes hno ⊢
  have Hyes := Lib.hid hyes
  have Hno := Lib.hid hno
  have Hzo := Lib.hid hzo
  clear hyes hno hzo
  obtain ⟨w1, hw1⟩ : ∃ w1, w1 = ((w.alloc (.cells #[.string a0, .slice A1 a1.length c1, .int .i64 a2, .int .i64 a3, .int .i64 a4, .slice A5 a5.length c5, .slice A6 a6.length c6] 28)).alloc (.cells #[.string ⟨#[]⟩, .slice none 0 0, .int .i64 0, .int .i64 0, .int .i64 0, .slice none 0 0, .slice none 0 0] 28)).alloc (.cells #[.string a0, .slice A1 a1.length c1, .int .i64 a2, .int .i64 a3, .int .i64 a4, .slice A5 a5.length c5, .slice A6 a6.length c6] 28) := ⟨_, rfl⟩
  have S0 := Lib.hid (show St3 28 28 w [.string a0, .slice A1 a1.length c1, .int .i64 a2, .int .i64 a3, .int .i64 a4, .slice A5 a5.length c5, .slice A6 a6.length c6] [.string ⟨#[]⟩, .slice none 0 0, .int .i64 0, .int .i64 0, .int .i64 0, .slice none 0 0, .slice none 0 0] [.string a0, .slice A1 a1.length c1, .int .i64 a2, .int .i64 a3, .int .i64 a4, .slice A5 a5.length c5, .slice A6 a6.length c6] w1 by rw [hw1]; exact St3.new)
  have Hwf := Lib.hid hwf
  have Hw1 := Lib.hid hw1
  clear h hz hwf hw1 k1 m1 l1 k5 m5 l5 k6 m6 l6
  go_enter Tryz.func9, Tryz.ntmps9
  go_wp2_with fail
  rw [← Hw1.out]
  clear Hw1
  refine (C1.out _ S0.out.bel).mono ?_
  rintro e y1 ⟨v1, f1, F1, rfl, o1, n1, hb1⟩
  obtain ⟨B1, d1, rfl, _, _⟩ := o1.is_slice
  have g1 := o1.range
  have O1_0 : OgC y1 w1.heap.size y1.heap.size (f1 + 1) (.slice B1 r1.length d1) (.sl 2 r1.length (r1.flatMap Label.row)) F1 := ⟨o1, n1, g1⟩
  have Hlt1 := Lib.hid S0.out.lt
  have Hs1 := Lib.hid (show w1.heap.size ≤ y1.heap.size from hb1.size)
  have S1_0 := S0.out.call hb1
  have p1_0 : (y1).cell? ⟨w.heap.size + 2, 1, none⟩ = some (.slice A1 a1.length c1) := S1_0.k2.cell 1 _ rfl
  have f1_0 := RowE.frozen S1_0.k2 1
  have S1_1 : St3 28 28 w [.string a0, .slice A1 a1.length c1, .int .i64 a2, .int .i64 a3, .int .i64 a4, .slice A5 a5.length c5, .slice A6 a6.length c6] [.string ⟨#[]⟩, .slice none 0 0, .int .i64 0, .int .i64 0, .int .i64 0, .slice none 0 0, .slice none 0 0] [.string a0, .slice B1 r1.length d1, .int .i64 a2, .int .i64 a3, .int .i64 a4, .slice A5 a5.length c5, .slice A6 a6.length c6] ((y1).setCell ⟨w.heap.size + 2, 1, none⟩ (.slice B1 r1.length d1)) := S1_0.put 1 (.slice B1 r1.length d1)
  have O1_1 := OgC.put (j := 1) (u := .slice B1 r1.length d1) O1_0 (show w.heap.size + 2 < _ by have := Hlt1.out; omega)
  obtain ⟨z1, hz1⟩ : ∃ z, (y1).setCell ⟨w.heap.size + 2, 1, none⟩ (.slice B1 r1.length d1) = z := ⟨_, rfl⟩
  have hE1 : ((y1).setCell ⟨w.heap.size + 2, 1, none⟩ (.slice B1 r1.length d1)).heap.size = y1.heap.size := by simp only [size_setCell]
  rw [hz1] at S1_1 hE1 O1_1
  have S1 := Lib.hid S1_1
  have HE1 := Lib.hid hE1
  have HZ1 := Lib.hid hz1
  have O1at1 := Lib.hid O1_1
  clear hb1 o1 n1 g1 hE1 S1_0 S1_1 O1_1 O1_0 S0
  -- after store 1
  have pc5 := S1.out.k0.cell 5 _ rfl
  go_wp2_with fail
  clear pc5
  refine (C5.out _ S1.out.bel).mono ?_
  rintro e y5 ⟨v5, f5, F5, rfl, o5, n5, hb5⟩
  obtain ⟨B5, d5, rfl, _, _⟩ := o5.is_slice
  have g5 := o5.range
  have O5_0 : OgC y5 z1.heap.size y5.heap.size (f5 + 1) (.slice B5 r5.length d5) (.sl 3 r5.length (r5.flatMap Need.row)) F5 := ⟨o5, n5, g5⟩
  have Hlt5 := Lib.hid S1.out.lt
  have Hs5 := Lib.hid (show z1.heap.size ≤ y5.heap.size from hb5.size)
  have S5_0 := S1.out.call hb5
  have O1_5_0 := O1at1.out.call hb5
  have p5_0 : (y5).cell? ⟨w.heap.size + 2, 5, none⟩ = some (.slice A5 a5.length c5) := S5_0.k2.cell 5 _ rfl
  have f5_0 := RowE.frozen S5_0.k2 5
  have S5_1 : St3 28 28 w [.string a0, .slice A1 a1.length c1, .int .i64 a2, .int .i64 a3, .int .i64 a4, .slice A5 a5.length c5, .slice A6 a6.length c6] [.string ⟨#[]⟩, .slice none 0 0, .int .i64 0, .int .i64 0, .int .i64 0, .slice none 0 0, .slice none 0 0] [.string a0, .slice B1 r1.length d1, .int .i64 a2, .int .i64 a3, .int .i64 a4, .slice B5 r5.length d5, .slice A6 a6.length c6] ((y5).setCell ⟨w.heap.size + 2, 5, none⟩ (.slice B5 r5.length d5)) := S5_0.put 5 (.slice B5 r5.length d5)
  have O5_1 := OgC.put (j := 5) (u := .slice B5 r5.length d5) O5_0 (show w.heap.size + 2 < _ by have := Hlt5.out; omega)
  have O1_5_1 := OgC.put (j := 5) (u := .slice B5 r5.length d5) O1_5_0 (show w.heap.size + 2 < _ by have := Hlt1.out; omega)
  obtain ⟨z5, hz5⟩ : ∃ z, (y5).setCell ⟨w.heap.size + 2, 5, none⟩ (.slice B5 r5.length d5) = z := ⟨_, rfl⟩
  have hE5 : ((y5).setCell ⟨w.heap.size + 2, 5, none⟩ (.slice B5 r5.length d5)).heap.size = y5.heap.size := by simp only [size_setCell]
  rw [hz5] at S5_1 hE5 O5_1 O1_5_1
  have S5 := Lib.hid S5_1
  have HE5 := Lib.hid hE5
  have HZ5 := Lib.hid hz5
  have O5at5 := Lib.hid O5_1
  have O1at5 := Lib.hid O1_5_1
  clear hb5 o5 n5 g5 hE5 S5_0 S5_1 O5_1 O1_5_1 O5_0 O1_5_0 O1at1 S1
  -- after store 5
  have pc6 := S5.out.k0.cell 6 _ rfl
  go_wp2_with fail
  clear pc6
  refine (C6.out _ S5.out.bel).mono ?_
  rintro e y6 ⟨v6, f6, F6, rfl, o6, n6, hb6⟩
  obtain ⟨B6, d6, rfl, _, _⟩ := o6.is_slice
  have g6 := o6.range
  have O6_0 : OgC y6 z5.heap.size y6.heap.size (f6 + 1) (.slice B6 r6.length d6) (.sl 4 r6.length (r6.flatMap Tolerance.row)) F6 := ⟨o6, n6, g6⟩
  have Hlt6 := Lib.hid S5.out.lt
  have Hs6 := Lib.hid (show z5.heap.size ≤ y6.heap.size from hb6.size)
  have S6_0 := S5.out.call hb6
  have O5_6_0 := O5at5.out.call hb6
  have O1_6_0 := O1at5.out.call hb6
  have p6_0 : (y6).cell? ⟨w.heap.size + 2, 6, none⟩ = some (.slice A6 a6.length c6) := S6_0.k2.cell 6 _ rfl
  have f6_0 := RowE.frozen S6_0.k2 6
  have S6_1 : St3 28 28 w [.string a0, .slice A1 a1.length c1, .int .i64 a2, .int .i64 a3, .int .i64 a4, .slice A5 a5.length c5, .slice A6 a6.length c6] [.string ⟨#[]⟩, .slice none 0 0, .int .i64 0, .int .i64 0, .int .i64 0, .slice none 0 0, .slice none 0 0] [.string a0, .slice B1 r1.length d1, .int .i64 a2, .int .i64 a3, .int .i64 a4, .slice B5 r5.length d5, .slice B6 r6.length d6] ((y6).setCell ⟨w.heap.size + 2, 6, none⟩ (.slice B6 r6.length d6)) := S6_0.put 6 (.slice B6 r6.length d6)
  have O6_1 := OgC.put (j := 6) (u := .slice B6 r6.length d6) O6_0 (show w.heap.size + 2 < _ by have := Hlt6.out; omega)
  have O5_6_1 := OgC.put (j := 6) (u := .slice B6 r6.length d6) O5_6_0 (show w.heap.size + 2 < _ by have := Hlt5.out; omega)
  have O1_6_1 := OgC.put (j := 6) (u := .slice B6 r6.length d6) O1_6_0 (show w.heap.size + 2 < _ by have := Hlt1.out; omega)
  obtain ⟨z6, hz6⟩ : ∃ z, (y6).setCell ⟨w.heap.size + 2, 6, none⟩ (.slice B6 r6.length d6) = z := ⟨_, rfl⟩
  have hE6 : ((y6).setCell ⟨w.heap.size + 2, 6, none⟩ (.slice B6 r6.length d6)).heap.size = y6.heap.size := by simp only [size_setCell]
  rw [hz6] at S6_1 hE6 O6_1 O5_6_1 O1_6_1
  have S6 := Lib.hid S6_1
  have HE6 := Lib.hid hE6
  have HZ6 := Lib.hid hz6
  have O6at6 := Lib.hid O6_1
  have O5at6 := Lib.hid O5_6_1
  have O1at6 := Lib.hid O1_6_1
  clear hb6 o6 n6 g6 hE6 S6_0 S6_1 O6_1 O5_6_1 O1_6_1 O6_0 O5_6_0 O1_6_0 O5at5 O1at5 S5
  -- after store 6
  have SZ := Lib.hid S6.out
  clear S6
  obtain ⟨F, ho, hnd, _⟩ := Pod.ownedC (x := (⟨a0, r1, a2, a3, a4, r5, r6⟩ : Pod)) (f := (f1 + f5 + f6)) (w := z6) (B := w.heap.size + 3) (show Pod.Wf (⟨a0, r1, a2, a3, a4, r5, r6⟩ : Pod) from Hwf.out) (OwnC.deeper (by omega) (O1at6.out.own.lower (B' := w.heap.size + 3) (by have := HE1.out; have := Hs1.out; have := Hlt1.out; have := HE5.out; have := Hs5.out; have := Hlt5.out; have := HE6.out; have := Hs6.out; have := Hlt6.out; omega))) (OwnC.deeper (by omega) (O5at6.out.own.lower (B' := w.heap.size + 3) (by have := HE1.out; have := Hs1.out; have := Hlt1.out; have := HE5.out; have := Hs5.out; have := Hlt5.out; have := HE6.out; have := Hs6.out; have := Hlt6.out; omega))) (OwnC.deeper (by omega) (O6at6.out.own.lower (B' := w.heap.size + 3) (by have := HE1.out; have := Hs1.out; have := Hlt1.out; have := HE5.out; have := Hs5.out; have := Hlt5.out; have := HE6.out; have := Hs6.out; have := Hlt6.out; omega))) O1at6.out.nod O5at6.out.nod O6at6.out.nod (O1at6.out.apart O5at6.out (by have := HE1.out; have := Hs1.out; have := Hlt1.out; have := HE5.out; have := Hs5.out; have := Hlt5.out; have := HE6.out; have := Hs6.out; have := Hlt6.out; omega)) (O1at6.out.apart O6at6.out (by have := HE1.out; have := Hs1.out; have := Hlt1.out; have := HE5.out; have := Hs5.out; have := Hlt5.out; have := HE6.out; have := Hs6.out; have := Hlt6.out; omega)) (O5at6.out.apart O6at6.out (by have := HE1.out; have := Hs1.out; have := Hlt1.out; have := HE5.out; have := Hs5.out; have := Hlt5.out; have := HE6.out; have := Hs6.out; have := Hlt6.out; omega))
  have HO := Lib.hid ho
  have HF := Lib.hid hnd
  have HOK := Lib.hid (fun w' (hb : Below z6.heap.size z6 w') => impl_pod (⟨a0, r1, a2, a3, a4, r5, r6⟩ : Pod) _ _ w' (ho.lies.kept hb.block) Hzo.out)
  clear ho hnd O6at6 O5at6 O1at6
  have e2 := SZ.out.k2
  have x0 := e2.cell 0 _ rfl
  have x1 := e2.cell 1 _ rfl
  have x2 := e2.cell 2 _ rfl
  have x3 := e2.cell 3 _ rfl
  have x4 := e2.cell 4 _ rfl
  have x5 := e2.cell 5 _ rfl
  have x6 := e2.cell 6 _ rfl
  by_cases hP : PodP (⟨a0, r1, a2, a3, a4, r5, r6⟩ : Pod)
  case neg =>
    rw [yes_f hP] at HOK
    go_wp2_with fail
    try rw [HZ6.out]
    clear p6_0 f6_0 x0 x1 x2 x3 x4 x5 x6
    refine (HOK.out _ (Below.refl _ _)).mono ?_
    rintro e yk ⟨rfl, hbk⟩
    have SK := Lib.hid (SZ.out.call hbk)
    clear hbk e2
    have Hno := Lib.hid (Hno.out hP)
    clear hP
    have e0 := SK.out.k0
    have x0 := e0.cell 0 _ rfl
    have x1 := e0.cell 1 _ rfl
    have x2 := e0.cell 2 _ rfl
    have x3 := e0.cell 3 _ rfl
    have x4 := e0.cell 4 _ rfl
    have x5 := e0.cell 5 _ rfl
    have x6 := e0.cell 6 _ rfl
    clear e0
    go_wp2_with fail
    clear x0 x1 x2 x3 x4 x5 x6
    refine (HCP.out _ SK.out.bel).mono ?_
    rintro e y ⟨us, D9, F9, rfl, ho, hnd, hb⟩
    obtain ⟨u0, u1, u2, u3, u4, u5, u6, rfl⟩ := of_Pod (ho.1.trans (Pod.row_length _))
    have one := ho.ones1
    have SY := SK.out.call hb
    have h51 := SY.k1
    have hlt := SK.out.lt
    unfold RowE at h51
    have HR : Hid (NormOutC Pod.row w (y.setRow (w.heap.size + 1) #[u0, u1, u2, u3, u4, u5, u6]) (.returned (.tuple #[.agg #[u0, u1, u2, u3, u4, u5, u6], .bool false])) RN) := by
      unfold Hid
      rw [Hno.out]
      exact ⟨[u0, u1, u2, u3, u4, u5, u6], D9, F9, rfl, (OwnCS.setRow_low ho (by omega)).lower (by omega), hnd, setRow_below SY.bel (by omega) _⟩
    clear ho hnd hb
    go_wp2_with (first | (refine wpList_store_row rfl 28 _ _ rfl (w.heap.size + 1) #[u0, u1, u2, u3, u4, u5, u6] rfl rfl 28 _ h51 sizePod rfl one ?_) | fail)
    refine bodyPost_ret (v := .tuple #[.agg #[u0, u1, u2, u3, u4, u5, u6], .bool false]) ?_ rfl HR.out
    exact ret_cs (vs := [u0, u1, u2, u3, u4, u5, u6]) rfl rfl rfl rfl ⟨_, Tryz.underlying28⟩ sizePod (setRow_at (c := #[u0, u1, u2, u3, u4, u5, u6]) h51)
  rw [yes_t hP] at HOK
  have hRN := Hyes.out hP
  go_wp2_with fail
  try rw [HZ6.out]
  clear p6_0 f6_0 x0 x1 x2 x3 x4 x5 x6
  refine (HOK.out _ (Below.refl _ _)).mono ?_
  rintro e yk ⟨rfl, hbk⟩
  have SK := SZ.out.call hbk
  have h51 := SK.k1
  have h52 := SK.k2
  have hlt := SZ.out.lt
  unfold RowE at h51 h52
  have HR : Hid (NormOutC Pod.row w (yk.setRow (w.heap.size + 1) #[.string a0, .slice B1 r1.length d1, .int .i64 a2, .int .i64 a3, .int .i64 a4, .slice B5 r5.length d5, .slice B6 r6.length d6]) (.returned (.tuple #[.agg #[.string a0, .slice B1 r1.length d1, .int .i64 a2, .int .i64 a3, .int .i64 a4, .slice B5 r5.length d5, .slice B6 r6.length d6], .bool true])) RN) := by
    unfold Hid
    rw [hRN]
    exact ⟨[.string a0, .slice B1 r1.length d1, .int .i64 a2, .int .i64 a3, .int .i64 a4, .slice B5 r5.length d5, .slice B6 r6.length d6], (f1 + f5 + f6), F, rfl, (OwnCS.setRow_low (HO.out.below hbk) (show w.heap.size + 1 < w.heap.size + 3 by omega)).lower (by omega), HF.out, setRow_below SK.bel (by omega) _⟩
  clear hbk e2 hRN hP
  go_wp2_with (first | (refine wpList_load_row rfl 28 _ rfl (w.heap.size + 2) rfl 28 #[.string a0, .slice B1 r1.length d1, .int .i64 a2, .int .i64 a3, .int .i64 a4, .slice B5 r5.length d5, .slice B6 r6.length d6] (0, 0) _ h52 Tryz.underlying28 rfl sizePod ?_) | (refine wpList_store_row rfl 28 _ _ rfl (w.heap.size + 1) #[.string a0, .slice B1 r1.length d1, .int .i64 a2, .int .i64 a3, .int .i64 a4, .slice B5 r5.length d5, .slice B6 r6.length d6] rfl rfl 28 _ h51 sizePod rfl (by simp [Value.oneCell']) ?_) | fail)
  refine bodyPost_ret (v := .tuple #[.agg #[.string a0, .slice B1 r1.length d1, .int .i64 a2, .int .i64 a3, .int .i64 a4, .slice B5 r5.length d5, .slice B6 r6.length d6], .bool true]) ?_ rfl HR.out
  exact ret_cs (vs := [.string a0, .slice B1 r1.length d1, .int .i64 a2, .int .i64 a3, .int .i64 a4, .slice B5 r5.length d5, .slice B6 r6.length d6]) rfl rfl rfl rfl ⟨_, Tryz.underlying28⟩ sizePod (setRow_at (c := #[.string a0, .slice B1 r1.length d1, .int .i64 a2, .int .i64 a3, .int .i64 a4, .slice B5 r5.length d5, .slice B6 r6.length d6]) h51)
end Go.Proofs.YtcfbkfmkjggcdaaGreatDoor.pod
