/- Merged: OnceTaint SrtTaint NormHI. -/
import Derived.Test.YtcfbkfmkjggcdaaGreatDoorCompTaint
import Derived.Test.YtcfbkfmkjggcdaaGreatDoorGA9
import Derived.Test.YtcfbkfmkjggcdaaGreatDoorShelf
import Derived.Test.YtcfbkfmkjggcdaaGreatDoorGA27
import Derived.Test.YtcfbkfmkjggcdaaGreatDoorGA28
import Derived.Test.YtcfbkfmkjggcdaaGreatDoorGA7
import Derived.Test.YtcfbkfmkjggcdaaGreatDoorGA29
import Derived.Test.YtcfbkfmkjggcdaaGreatDoorGA24
import Derived.Deep.WholeRow
namespace Go.Proofs.YtcfbkfmkjggcdaaGreatDoor.taint
open Go.ChangeShapes Go.WideShapes Go.ChangeAt Go.RowKit ty lab dedup need
set_option linter.unusedVariables false

open Go.Sort (SWO PermIn SortedIn grow)
set_option maxRecDepth 100000 in
theorem sort_Taint (l : List Taint) (B g c : Nat) (w : World) (hown : w.ownsRow B 72 3 (.slice (some ⟨g, 0, none⟩) l.length c) l.length (l.flatMap Taint.cells)) (hn : l.length ≤ 1048576) :
    Calls Tryz.prog 219 #[.slice (some ⟨g, 0, none⟩) l.length c, .func (.func 108) #[] #[]] w fun e w' => e = .returned (.tuple #[]) ∧
      ∃ d : List Taint, List.Perm d l ∧ d.Pairwise (fun a b => lessT b a = false) ∧ w'.ownsRow B 72 3 (.slice (some ⟨g, 0, none⟩) d.length c) d.length (d.flatMap Taint.cells) ∧ w.grownBy w' (some g) := by
  by_cases h0 : l = []
  · subst h0
    refine (AnyF.slices_SortFunc_none Tryz.sortTaint (some ⟨g, 0, none⟩) c _ w).mono ?_
    rintro e w' ⟨rfl, rfl⟩
    exact ⟨rfl, [], List.Perm.refl _, List.Pairwise.nil, hown, World.grownBy.refl _ _⟩
  have eg : ∀ args w, (callFunc 108 args).run Tryz.prog w = .ok (.enter 108 args) w := enters_of Tryz.func108 (by kernel_rfl) rfl
  have hcon := AnyQ.slices_SortFunc Tryz.sortTaint 3 Tryz.isAgg72 Tryz.sizeOf72 Taint.cells Taint.cells_len Taint.cells_one cmpT (CmpWay.swo wayT ordT) 108 #[] g 0 c l.toArray w eg (fun m os dk hs x y => impl_cmpT x y _) (holdsK_own (enc := Taint.cells) (k := 3) Taint.cells_len hown) (hown.lt g rfl).2 (by simp; omega)
  have hs : l.toArray.size = l.length := by simp
  rw [hs] at hcon
  refine hcon.mono ?_
  rintro e w' ⟨rfl, d', n, os, hp, hso, rfl⟩
  obtain ⟨hsz, _, hperm⟩ := hp
  rw [← hs, Array.extract_size] at hperm
  have e2 : d'.extract 0 l.toArray.size = d' := by rw [← hsz]; exact Array.extract_size
  rw [e2] at hperm
  have hl : d'.toList.length = l.length := by rw [Array.length_toList, hsz, hs]
  refine ⟨rfl, d'.toList, by simpa using hperm, ?_, ?_, grownBy_sortedK _ _⟩
  · rw [List.pairwise_iff_getElem]
    intro i j hi hj hij
    have h1 := hso i j (Nat.zero_le _) hij (by omega)
    have hi' : i < d'.size := by simpa using hi
    have hj' : j < d'.size := by simpa using hj
    rw [getElem!_pos d' i hi', getElem!_pos d' j hj', CmpWay.ltc wayT ordT] at h1
    exact h1
  · have := own_sortedK (n := n) (os := os) (enc := Taint.cells) Taint.cells_len hl hown
    rw [hl] at this ⊢
    exact this
/-- The elements in order, each once, in the same block. -/
def OnceTaint (l : List Taint) (B g c : Nat) (w : World) (e : Ending) (w' : World) : Prop :=
  e = .returned (.slice (some ⟨g, 0, none⟩) (dsort lessT l).length c) ∧ w'.ownsRow B 72 3 (.slice (some ⟨g, 0, none⟩) (dsort lessT l).length c) (dsort lessT l).length ((dsort lessT l).flatMap Taint.cells) ∧ w.grownBy w' (some g)
set_option maxRecDepth 100000 in
set_option maxHeartbeats 8000000 in
theorem once_Taint (l : List Taint) (B g c : Nat) (w : World) (hown : w.ownsRow B 72 3 (.slice (some ⟨g, 0, none⟩) l.length c) l.length (l.flatMap Taint.cells)) (hn : l.length ≤ 1048576) :
    Calls Tryz.prog 181 #[.slice (some ⟨g, 0, none⟩) l.length c, .func (.func 108) #[] #[]] w fun e w' => OnceTaint l B g c w e w' := by
  have hglt := (hown.lt g rfl).2
  obtain ⟨W, hW⟩ : ∃ W, W = w.alloc (.cells #[.func (.func 108) #[] #[]] 132) := ⟨_, rfl⟩
  have hbW : Below w.heap.size w W := by rw [hW]; exact (Below.refl _ _).alloc (Nat.le_refl _) _
  have hcW : CmpTaint W w.heap.size := by
    unfold CmpTaint
    rw [hW, cell_of_row _ _ _ _ _ _ (heap_alloc_new w _)]
    rfl
  have HS := Lib.hid (sort_Taint l B g c W (own_below' hown hbW) hn)
  have c0 : W.cell? ⟨w.heap.size, 0, none⟩ = some (.func (.func 108) #[] #[]) := hcW
  have Hc := Lib.hid hcW
  have Hb := Lib.hid hbW
  have HW := Lib.hid hW
  clear hown hbW hcW hW
  go_enter Tryz.func181, Tryz.ntmps181
  go_wp2_with fail
  rw [← HW.out]
  go_wp2_with fail
  refine HS.out.mono ?_
  rintro e w2 ⟨rfl, d, hp, hpw, hown2, hgr2⟩
  have hbg : w.heap.size ≠ g := by omega
  have hblt := World.block_lt_of_cell? _ _ Hc.out
  have hc2 : CmpTaint w2 w.heap.size := (World.cell?_of_block (hgr2.block w.heap.size hblt (fun e => hbg (by injection e)))).trans Hc.out
  have hl := hp.length_eq
  have HC := Lib.hid (comp_Taint d B g c w.heap.size w2 hown2 (by omega) hc2 hbg)
  rw [hl] at HC
  have Hgr := Lib.hid (grown_trans (grown_of_below Hb.out (some g)) hgr2)
  have Hsq := Lib.hid (sq_dsort ordT hp hpw)
  clear hp hpw hown2 hgr2 hc2 hl c0
  go_wp2_with fail
  refine HC.out.mono ?_
  rintro e w3 ⟨d2, hd2, rfl, hown3, hgr3⟩
  have hd3 : d2 = dsort lessT l := hd2.trans Hsq.out
  subst hd3
  have HR := Lib.hid (show OnceTaint l B g c w (.returned (.slice (some ⟨g, 0, none⟩) (dsort lessT l).length c)) w3 from ⟨rfl, hown3, grown_trans Hgr.out hgr3⟩)
  clear hd2 hown3 hgr3
  go_wp2_with fail
  go_ret
  exact HR.out
end Go.Proofs.YtcfbkfmkjggcdaaGreatDoor.taint
namespace Go.Proofs.YtcfbkfmkjggcdaaGreatDoor.taint
open Go.ChangeShapes Go.WideShapes Go.ChangeAt Go.RowKit ty lab dedup need
set_option linter.unusedVariables false

set_option maxRecDepth 100000 in
set_option maxHeartbeats 8000000 in
theorem impl_sifTaint (l : List Taint) (f : Nat) (v : Value) (w : World) (h : Lies w f v (.sl 3 l.length (l.flatMap Taint.row))) (hn : l.length ≤ 1048576) :
    Calls Tryz.prog 107 #[v, .func (.func 108) #[] #[], .func (.func 109) #[] #[]] w fun e w' => ListOut w w' e 3 Taint.row (sortL TaintsP lessT l) := by
  have HC := Lib.hid (fun w' (hb : Below w.heap.size w w') => impl_cofTaint l f v w' (h.below hb) hn)
  obtain ⟨A, c, rfl, hc1, hc2, f', rfl, hk⟩ := els_of Taint.row_length h
  unfold maxLen at hc2
  obtain ⟨hrd, hwf⟩ := rdk_Taint hk
  have Hwf := Lib.hid hwf
  have Hback : Hid (∀ (g c : Nat) (l2 : List Taint) (w3 : World), w3.ownsRow w.heap.size 72 3 (.slice (some ⟨g, 0, none⟩) l2.length c) l2.length (l2.flatMap Taint.cells) → (∀ x ∈ l2, x.Wf) → Below w.heap.size w w3 → ∀ b, ListOut w w3 (.returned (.tuple #[.slice (some ⟨g, 0, none⟩) l2.length c, .bool b])) 3 Taint.row (l2, b)) := fun g c l2 w3 ho hw hb b => by
    obtain ⟨F, h1, h2, _⟩ := own_Taint ho hw
    exact ⟨_, 1, F, rfl, h1, h2, hb⟩
  clear h hk hrd hwf
  by_cases h40 : 40 < l.length
  · have Hno := Lib.hid (sortL_no (P := TaintsP) (lt := lessT) (l := l) (fun h => by have := h.1; omega))
    have HBw := Lib.hid (Below.refl w.heap.size w)
    go_enter Tryz.func107, Tryz.ntmps107
    go_wp2_with fail
    refine (HC.out _ HBw.out).mono ?_
    rintro e w9 ⟨g9, c9, rfl, hown9, hb9⟩
    have HR := Lib.hid (Hback.out g9 c9 l w9 (own_lower' hown9 HBw.out.size) Hwf.out (below_link HBw.out hb9 HBw.out.size) false)
    clear hown9 hb9
    go_wp2_with fail
    go_ret2
    rw [Hno.out]
    exact HR.out
  have HBw := Lib.hid (Below.refl w.heap.size w)
  go_enter Tryz.func107, Tryz.ntmps107
  go_wp2_with fail
  refine (HC.out _ HBw.out).mono ?_
  rintro e w1 ⟨g1, c1, rfl, hown1, hb1⟩
  have HO := Lib.hid (once_Taint l w.heap.size g1 c1 w1 hown1 hn)
  have Hb1 := Lib.hid hb1
  have Hlo := Lib.hid (hown1.lt g1 rfl)
  clear hown1 hb1
  go_wp2_with fail
  refine HO.out.mono ?_
  rintro e w2 ⟨rfl, hown2, hgr2⟩
  have hb2 := Hb1.out.grown hgr2 Hb1.out.size (fun q hq => by injection hq with hq; subst hq; exact Hlo.out.1)
  have hwf2 : ∀ x ∈ dsort lessT l, x.Wf := fun x hx => Hwf.out x (dsort_sub _ _ x hx)
  obtain ⟨F, ho, hnd, _⟩ := own_Taint hown2 hwf2
  have HL := Lib.hid (impl_oksTaint (dsort lessT l) _ _ w2 ho.lies)
  have Hb2 := Lib.hid hb2
  have HRy := Lib.hid (fun w3 (hb : Below w2.heap.size w2 w3) => Hback.out g1 c1 (dsort lessT l) w3 (own_below' hown2 hb) hwf2 (below_link hb2 hb hb2.size) true)
  clear hown2 hgr2 hb2 ho hnd HO
  by_cases hP : TaintsP (dsort lessT l)
  · rw [yes_t hP] at HL
    have Hy := Lib.hid (sortL_yes (P := TaintsP) (lt := lessT) (l := l) ⟨by omega, hP⟩)
    clear hP hwf2
    generalize dsort lessT l = d at *
    go_wp2_with fail
    refine HL.out.mono ?_
    rintro e w3 ⟨rfl, hb3⟩
    have HR := Lib.hid (HRy.out w3 hb3)
    clear hb3
    go_wp2_with fail
    go_ret2
    rw [Hy.out]
    exact HR.out
  rw [yes_f hP] at HL
  have Hno := Lib.hid (sortL_no (P := TaintsP) (lt := lessT) (l := l) (fun h => hP h.2))
  clear hP HRy hwf2
  generalize dsort lessT l = d at HL
  go_wp2_with fail
  refine HL.out.mono ?_
  rintro e w3 ⟨rfl, hb3⟩
  have Hb3 := Lib.hid (below_link Hb2.out hb3 Hb2.out.size)
  clear hb3
  go_wp2_with fail
  refine (HC.out _ Hb3.out).mono ?_
  rintro e w9 ⟨g9, c9, rfl, hown9, hb9⟩
  have HR := Lib.hid (Hback.out g9 c9 l w9 (own_lower' hown9 Hb3.out.size) Hwf.out (below_link Hb3.out hb9 Hb3.out.size) false)
  clear hown9 hb9
  go_wp2_with fail
  go_ret2
  rw [Hno.out]
  exact HR.out
set_option maxRecDepth 100000 in
theorem impl_sortTaint (l : List Taint) (f : Nat) (v : Value) (w : World) (h : Lies w f v (.sl 3 l.length (l.flatMap Taint.row))) (hn : l.length ≤ 1048576) :
    Calls Tryz.prog 39 #[v] w fun e w' => ListOut w w' e 3 Taint.row (sortL TaintsP lessT l) := by
  have HS := Lib.hid (impl_sifTaint l f v w h hn)
  obtain ⟨r, hr⟩ : ∃ r, r = sortL TaintsP lessT l := ⟨_, rfl⟩
  rw [← hr] at HS ⊢
  obtain ⟨r1, r2⟩ := r
  clear h hn hr
  go_enter Tryz.func39, Tryz.ntmps39
  go_wp2_with fail
  refine HS.out.mono ?_
  rintro e w1 ⟨v1, f1, F1, rfl, ho, hnd, hb⟩
  have HR := Lib.hid (show ListOut w w1 (.returned (.tuple #[v1, .bool r2])) 3 Taint.row (r1, r2) from ⟨v1, f1, F1, rfl, ho, hnd, hb⟩)
  clear ho hnd hb
  go_wp2_with fail
  go_ret2
  exact HR.out
end Go.Proofs.YtcfbkfmkjggcdaaGreatDoor.taint
namespace Go.Proofs.YtcfbkfmkjggcdaaGreatDoor.pod
open Go.ChangeShapes Go.WideShapes Go.ChangeAt Go.RowKit ty lab need taint
set_option linter.unusedVariables false
set_option maxRecDepth 100000 in
set_option maxHeartbeats 32000000 in
theorem impl_hostN (x : Host) (f : Nat) (us : List Value) (w : World) (h : LiesS w f us x.row) (hz : x.wt ≤ 1048576) (hzo : (hostO x).wt ≤ 1048576) :
    Calls Tryz.prog 10 #[.agg us.toArray] w fun e w' => NormOutC Host.row w w' e (hostN x) := by
  have HCP := Lib.hid (fun w' (hb : Below w.heap.size w w') => impl_copyH x f us w' (h.kept hb.block) hz)
  have hyes := hostN_if (x := x)
  have hno := hostN_not (x := x)
  obtain ⟨a0, a1, a2, a3, a4, a5⟩ := x
  obtain ⟨A1, c1, A5, c5, rfl, hwf, k1, m1, l1, k5, m5, l5⟩ := Host.opened h
  unfold Host.wt at hz
  unfold hostO at hyes hno hzo
  simp only at hz hzo hyes hno hwf k1 m1 l1 k5 m5 l5
  have C1 := Lib.hid (fun w' (hb : Below w.heap.size w w') => (impl_sort a1 f _ w' (l1.below hb) (small_of (by omega)) (by omega)).mono fun _ _ h => h.toC)
  have C5 := Lib.hid (fun w' (hb : Below w.heap.size w w') => (impl_sortTaint a5 f _ w' (l5.below hb) (by omega)).mono fun _ _ h => h.toC)
  obtain ⟨⟨r1, t1⟩, hR1⟩ : ∃ R, R = sortF a1 := ⟨_, rfl⟩
  rw [← hR1] at C1 hyes hno hzo
  obtain ⟨⟨r5, t5⟩, hR5⟩ : ∃ R, R = sortL TaintsP lessT a5 := ⟨_, rfl⟩
  rw [← hR5] at C5 hyes hno hzo
  clear hR1 hR5
  simp only at hyes hno hzo
  generalize hostN ⟨a0, a1, a2, a3, a4, a5⟩ = RN at hyes hno ⊢
  have Hyes := Lib.hid hyes
  have Hno := Lib.hid hno
  have Hzo := Lib.hid hzo
  clear hyes hno hzo
  obtain ⟨w1, hw1⟩ : ∃ w1, w1 = ((w.alloc (.cells #[.string a0, .slice A1 a1.length c1, .int .i64 a2, .int .i64 a3, .int .i64 a4, .slice A5 a5.length c5] 32)).alloc (.cells #[.string ⟨#[]⟩, .slice none 0 0, .int .i64 0, .int .i64 0, .int .i64 0, .slice none 0 0] 32)).alloc (.cells #[.string a0, .slice A1 a1.length c1, .int .i64 a2, .int .i64 a3, .int .i64 a4, .slice A5 a5.length c5] 32) := ⟨_, rfl⟩
  have S0 := Lib.hid (show St3 32 32 w [.string a0, .slice A1 a1.length c1, .int .i64 a2, .int .i64 a3, .int .i64 a4, .slice A5 a5.length c5] [.string ⟨#[]⟩, .slice none 0 0, .int .i64 0, .int .i64 0, .int .i64 0, .slice none 0 0] [.string a0, .slice A1 a1.length c1, .int .i64 a2, .int .i64 a3, .int .i64 a4, .slice A5 a5.length c5] w1 by rw [hw1]; exact St3.new)
  have Hwf := Lib.hid hwf
  have Hw1 := Lib.hid hw1
  clear h hz hwf hw1 k1 m1 l1 k5 m5 l5
  go_enter Tryz.func10, Tryz.ntmps10
  go_wp2_with fail
  rw [← Hw1.out]
  clear Hw1
  refine (C1.out _ S0.out.bel).mono ?_
  rintro e y1 ⟨v1, f1, F1, rfl, o1, n1, hb1⟩
  obtain ⟨B1, d1, rfl, _, _⟩ := o1.is_slice
  have g1 := o1.range
  have O1_0 : OgC y1 w1.heap.size y1.heap.size (f1 + 1) (.slice B1 r1.length d1) (.sl 2 r1.length (r1.flatMap Label.row)) F1 := ⟨o1, n1, g1⟩
  have Hlt1 := Lib.hid S0.out.lt
  have Hs1 := Lib.hid (show w1.heap.size ≤ y1.heap.size from hb1.size)
  have S1_0 := S0.out.call hb1
  have p1_0 : (y1).cell? ⟨w.heap.size + 2, 1, none⟩ = some (.slice A1 a1.length c1) := S1_0.k2.cell 1 _ rfl
  have f1_0 := RowE.frozen S1_0.k2 1
  have S1_1 : St3 32 32 w [.string a0, .slice A1 a1.length c1, .int .i64 a2, .int .i64 a3, .int .i64 a4, .slice A5 a5.length c5] [.string ⟨#[]⟩, .slice none 0 0, .int .i64 0, .int .i64 0, .int .i64 0, .slice none 0 0] [.string a0, .slice B1 r1.length d1, .int .i64 a2, .int .i64 a3, .int .i64 a4, .slice A5 a5.length c5] ((y1).setCell ⟨w.heap.size + 2, 1, none⟩ (.slice B1 r1.length d1)) := S1_0.put 1 (.slice B1 r1.length d1)
  have O1_1 := OgC.put (j := 1) (u := .slice B1 r1.length d1) O1_0 (show w.heap.size + 2 < _ by have := Hlt1.out; omega)
  obtain ⟨z1, hz1⟩ : ∃ z, (y1).setCell ⟨w.heap.size + 2, 1, none⟩ (.slice B1 r1.length d1) = z := ⟨_, rfl⟩
  have hE1 : ((y1).setCell ⟨w.heap.size + 2, 1, none⟩ (.slice B1 r1.length d1)).heap.size = y1.heap.size := by simp only [size_setCell]
  rw [hz1] at S1_1 hE1 O1_1
  have S1 := Lib.hid S1_1
  have HE1 := Lib.hid hE1
  have HZ1 := Lib.hid hz1
  have O1at1 := Lib.hid O1_1
  clear hb1 o1 n1 g1 hE1 S1_0 S1_1 O1_1 O1_0 S0
  -- after store 1
  have pc5 := S1.out.k0.cell 5 _ rfl
  go_wp2_with fail
  clear pc5
  refine (C5.out _ S1.out.bel).mono ?_
  rintro e y5 ⟨v5, f5, F5, rfl, o5, n5, hb5⟩
  obtain ⟨B5, d5, rfl, _, _⟩ := o5.is_slice
  have g5 := o5.range
  have O5_0 : OgC y5 z1.heap.size y5.heap.size (f5 + 1) (.slice B5 r5.length d5) (.sl 3 r5.length (r5.flatMap Taint.row)) F5 := ⟨o5, n5, g5⟩
  have Hlt5 := Lib.hid S1.out.lt
  have Hs5 := Lib.hid (show z1.heap.size ≤ y5.heap.size from hb5.size)
  have S5_0 := S1.out.call hb5
  have O1_5_0 := O1at1.out.call hb5
  have p5_0 : (y5).cell? ⟨w.heap.size + 2, 5, none⟩ = some (.slice A5 a5.length c5) := S5_0.k2.cell 5 _ rfl
  have f5_0 := RowE.frozen S5_0.k2 5
  have S5_1 : St3 32 32 w [.string a0, .slice A1 a1.length c1, .int .i64 a2, .int .i64 a3, .int .i64 a4, .slice A5 a5.length c5] [.string ⟨#[]⟩, .slice none 0 0, .int .i64 0, .int .i64 0, .int .i64 0, .slice none 0 0] [.string a0, .slice B1 r1.length d1, .int .i64 a2, .int .i64 a3, .int .i64 a4, .slice B5 r5.length d5] ((y5).setCell ⟨w.heap.size + 2, 5, none⟩ (.slice B5 r5.length d5)) := S5_0.put 5 (.slice B5 r5.length d5)
  have O5_1 := OgC.put (j := 5) (u := .slice B5 r5.length d5) O5_0 (show w.heap.size + 2 < _ by have := Hlt5.out; omega)
  have O1_5_1 := OgC.put (j := 5) (u := .slice B5 r5.length d5) O1_5_0 (show w.heap.size + 2 < _ by have := Hlt1.out; omega)
  obtain ⟨z5, hz5⟩ : ∃ z, (y5).setCell ⟨w.heap.size + 2, 5, none⟩ (.slice B5 r5.length d5) = z := ⟨_, rfl⟩
  have hE5 : ((y5).setCell ⟨w.heap.size + 2, 5, none⟩ (.slice B5 r5.length d5)).heap.size = y5.heap.size := by simp only [size_setCell]
  rw [hz5] at S5_1 hE5 O5_1 O1_5_1
  have S5 := Lib.hid S5_1
  have HE5 := Lib.hid hE5
  have HZ5 := Lib.hid hz5
  have O5at5 := Lib.hid O5_1
  have O1at5 := Lib.hid O1_5_1
  clear hb5 o5 n5 g5 hE5 S5_0 S5_1 O5_1 O1_5_1 O5_0 O1_5_0 O1at1 S1
  -- after store 5
  have SZ := Lib.hid S5.out
  clear S5
  obtain ⟨F, ho, hnd, _⟩ := Host.ownedC (x := (⟨a0, r1, a2, a3, a4, r5⟩ : Host)) (f := (f1 + f5)) (w := z5) (B := w.heap.size + 3) (show Host.Wf (⟨a0, r1, a2, a3, a4, r5⟩ : Host) from Hwf.out) (OwnC.deeper (by omega) (O1at5.out.own.lower (B' := w.heap.size + 3) (by have := HE1.out; have := Hs1.out; have := Hlt1.out; have := HE5.out; have := Hs5.out; have := Hlt5.out; omega))) (OwnC.deeper (by omega) (O5at5.out.own.lower (B' := w.heap.size + 3) (by have := HE1.out; have := Hs1.out; have := Hlt1.out; have := HE5.out; have := Hs5.out; have := Hlt5.out; omega))) O1at5.out.nod O5at5.out.nod (O1at5.out.apart O5at5.out (by have := HE1.out; have := Hs1.out; have := Hlt1.out; have := HE5.out; have := Hs5.out; have := Hlt5.out; omega))
  have HO := Lib.hid ho
  have HF := Lib.hid hnd
  have HOK := Lib.hid (fun w' (hb : Below z5.heap.size z5 w') => impl_host (⟨a0, r1, a2, a3, a4, r5⟩ : Host) _ _ w' (ho.lies.kept hb.block) Hzo.out)
  clear ho hnd O5at5 O1at5
  have e2 := SZ.out.k2
  have x0 := e2.cell 0 _ rfl
  have x1 := e2.cell 1 _ rfl
  have x2 := e2.cell 2 _ rfl
  have x3 := e2.cell 3 _ rfl
  have x4 := e2.cell 4 _ rfl
  have x5 := e2.cell 5 _ rfl
  by_cases hP : HostP (⟨a0, r1, a2, a3, a4, r5⟩ : Host)
  case neg =>
    rw [yes_f hP] at HOK
    go_wp2_with fail
    try rw [HZ5.out]
    clear p5_0 f5_0 x0 x1 x2 x3 x4 x5
    refine (HOK.out _ (Below.refl _ _)).mono ?_
    rintro e yk ⟨rfl, hbk⟩
    have SK := Lib.hid (SZ.out.call hbk)
    clear hbk e2
    have Hno := Lib.hid (Hno.out hP)
    clear hP
    have e0 := SK.out.k0
    have x0 := e0.cell 0 _ rfl
    have x1 := e0.cell 1 _ rfl
    have x2 := e0.cell 2 _ rfl
    have x3 := e0.cell 3 _ rfl
    have x4 := e0.cell 4 _ rfl
    have x5 := e0.cell 5 _ rfl
    clear e0
    go_wp2_with fail
    clear x0 x1 x2 x3 x4 x5
    refine (HCP.out _ SK.out.bel).mono ?_
    rintro e y ⟨us, D9, F9, rfl, ho, hnd, hb⟩
    obtain ⟨u0, u1, u2, u3, u4, u5, rfl⟩ := of_Host (ho.1.trans (Host.row_length _))
    have one := ho.ones1
    have SY := SK.out.call hb
    have h51 := SY.k1
    have hlt := SK.out.lt
    unfold RowE at h51
    have HR : Hid (NormOutC Host.row w (y.setRow (w.heap.size + 1) #[u0, u1, u2, u3, u4, u5]) (.returned (.tuple #[.agg #[u0, u1, u2, u3, u4, u5], .bool false])) RN) := by
      unfold Hid
      rw [Hno.out]
      exact ⟨[u0, u1, u2, u3, u4, u5], D9, F9, rfl, (OwnCS.setRow_low ho (by omega)).lower (by omega), hnd, setRow_below SY.bel (by omega) _⟩
    clear ho hnd hb
    go_wp2_with (first | (refine wpList_store_row rfl 32 _ _ rfl (w.heap.size + 1) #[u0, u1, u2, u3, u4, u5] rfl rfl 32 _ h51 sizeHost rfl one ?_) | fail)
    refine bodyPost_ret (v := .tuple #[.agg #[u0, u1, u2, u3, u4, u5], .bool false]) ?_ rfl HR.out
    exact ret_cs (vs := [u0, u1, u2, u3, u4, u5]) rfl rfl rfl rfl ⟨_, Tryz.underlying32⟩ sizeHost (setRow_at (c := #[u0, u1, u2, u3, u4, u5]) h51)
  rw [yes_t hP] at HOK
  have hRN := Hyes.out hP
  go_wp2_with fail
  try rw [HZ5.out]
  clear p5_0 f5_0 x0 x1 x2 x3 x4 x5
  refine (HOK.out _ (Below.refl _ _)).mono ?_
  rintro e yk ⟨rfl, hbk⟩
  have SK := SZ.out.call hbk
  have h51 := SK.k1
  have h52 := SK.k2
  have hlt := SZ.out.lt
  unfold RowE at h51 h52
  have HR : Hid (NormOutC Host.row w (yk.setRow (w.heap.size + 1) #[.string a0, .slice B1 r1.length d1, .int .i64 a2, .int .i64 a3, .int .i64 a4, .slice B5 r5.length d5]) (.returned (.tuple #[.agg #[.string a0, .slice B1 r1.length d1, .int .i64 a2, .int .i64 a3, .int .i64 a4, .slice B5 r5.length d5], .bool true])) RN) := by
    unfold Hid
    rw [hRN]
    exact ⟨[.string a0, .slice B1 r1.length d1, .int .i64 a2, .int .i64 a3, .int .i64 a4, .slice B5 r5.length d5], (f1 + f5), F, rfl, (OwnCS.setRow_low (HO.out.below hbk) (show w.heap.size + 1 < w.heap.size + 3 by omega)).lower (by omega), HF.out, setRow_below SK.bel (by omega) _⟩
  clear hbk e2 hRN hP
  go_wp2_with (first | (refine wpList_load_row rfl 32 _ rfl (w.heap.size + 2) rfl 32 #[.string a0, .slice B1 r1.length d1, .int .i64 a2, .int .i64 a3, .int .i64 a4, .slice B5 r5.length d5] (0, 0) _ h52 Tryz.underlying32 rfl sizeHost ?_) | (refine wpList_store_row rfl 32 _ _ rfl (w.heap.size + 1) #[.string a0, .slice B1 r1.length d1, .int .i64 a2, .int .i64 a3, .int .i64 a4, .slice B5 r5.length d5] rfl rfl 32 _ h51 sizeHost rfl (by simp [Value.oneCell']) ?_) | fail)
  refine bodyPost_ret (v := .tuple #[.agg #[.string a0, .slice B1 r1.length d1, .int .i64 a2, .int .i64 a3, .int .i64 a4, .slice B5 r5.length d5], .bool true]) ?_ rfl HR.out
  exact ret_cs (vs := [.string a0, .slice B1 r1.length d1, .int .i64 a2, .int .i64 a3, .int .i64 a4, .slice B5 r5.length d5]) rfl rfl rfl rfl ⟨_, Tryz.underlying32⟩ sizeHost (setRow_at (c := #[.string a0, .slice B1 r1.length d1, .int .i64 a2, .int .i64 a3, .int .i64 a4, .slice B5 r5.length d5]) h51)
end Go.Proofs.YtcfbkfmkjggcdaaGreatDoor.pod
