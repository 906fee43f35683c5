/- Merged: OnceTolerance SrtTolerance. -/
import Derived.Test.YtdgedclpaplgoaaDoorCompTolerance
import Derived.Test.YtdgedclpaplgoaaDoorGA13
import Derived.Test.YtdgedclpaplgoaaDoorShelf
import Derived.Test.YtdgedclpaplgoaaDoorGA20
import Derived.Test.YtdgedclpaplgoaaDoorGA19
import Derived.Test.YtdgedclpaplgoaaDoorGA5
namespace Go.Proofs.YtdgedclpaplgoaaDoor.taint
open Go.ChangeShapes Go.WideShapes Go.ChangeAt Go.RowKit ty lab dedup need
set_option linter.unusedVariables false

open Go.Sort (SWO PermIn SortedIn grow)
set_option maxRecDepth 100000 in
theorem sort_Tolerance (l : List Tolerance) (B g c : Nat) (w : World) (hown : w.ownsRow B 92 4 (.slice (some ⟨g, 0, none⟩) l.length c) l.length (l.flatMap Tolerance.cells)) (hn : l.length ≤ 1048576) :
    Calls Tryd.prog 139 #[.slice (some ⟨g, 0, none⟩) l.length c, .func (.func 67) #[] #[]] w fun e w' => e = .returned (.tuple #[]) ∧
      ∃ d : List Tolerance, List.Perm d l ∧ d.Pairwise (fun a b => befT b a = false) ∧ w'.ownsRow B 92 4 (.slice (some ⟨g, 0, none⟩) d.length c) d.length (d.flatMap Tolerance.cells) ∧ w.grownBy w' (some g) := by
  by_cases h0 : l = []
  · subst h0
    refine (AnyF.slices_SortFunc_none Tryd.sortTol (some ⟨g, 0, none⟩) c _ w).mono ?_
    rintro e w' ⟨rfl, rfl⟩
    exact ⟨rfl, [], List.Perm.refl _, List.Pairwise.nil, hown, World.grownBy.refl _ _⟩
  have eg : ∀ args w, (callFunc 67 args).run Tryd.prog w = .ok (.enter 67 args) w := enters_of Tryd.func67 (by kernel_rfl) rfl
  have hcon := AnyQ.slices_SortFunc Tryd.sortTol 4 Tryd.isAgg92 Tryd.sizeOf92 Tolerance.cells Tolerance.cells_len Tolerance.cells_one cmpO (CmpWay.swo wayO ordO) 67 #[] g 0 c l.toArray w eg (fun m os dk hs x y => impl_cmpO x y _) (holdsK_own (enc := Tolerance.cells) (k := 4) Tolerance.cells_len hown) (hown.lt g rfl).2 (by simp; omega)
  have hs : l.toArray.size = l.length := by simp
  rw [hs] at hcon
  refine hcon.mono ?_
  rintro e w' ⟨rfl, d', n, os, hp, hso, rfl⟩
  obtain ⟨hsz, _, hperm⟩ := hp
  rw [← hs, Array.extract_size] at hperm
  have e2 : d'.extract 0 l.toArray.size = d' := by rw [← hsz]; exact Array.extract_size
  rw [e2] at hperm
  have hl : d'.toList.length = l.length := by rw [Array.length_toList, hsz, hs]
  refine ⟨rfl, d'.toList, by simpa using hperm, ?_, ?_, grownBy_sortedK _ _⟩
  · rw [List.pairwise_iff_getElem]
    intro i j hi hj hij
    have h1 := hso i j (Nat.zero_le _) hij (by omega)
    have hi' : i < d'.size := by simpa using hi
    have hj' : j < d'.size := by simpa using hj
    rw [getElem!_pos d' i hi', getElem!_pos d' j hj', CmpWay.ltc wayO ordO] at h1
    exact h1
  · have := own_sortedK (n := n) (os := os) (enc := Tolerance.cells) Tolerance.cells_len hl hown
    rw [hl] at this ⊢
    exact this
/-- The elements in order, each once, in the same block. -/
def OnceTolerance (l : List Tolerance) (B g c : Nat) (w : World) (e : Ending) (w' : World) : Prop :=
  e = .returned (.slice (some ⟨g, 0, none⟩) (dsort befT l).length c) ∧ w'.ownsRow B 92 4 (.slice (some ⟨g, 0, none⟩) (dsort befT l).length c) (dsort befT l).length ((dsort befT l).flatMap Tolerance.cells) ∧ w.grownBy w' (some g)
set_option maxRecDepth 100000 in
set_option maxHeartbeats 8000000 in
theorem once_Tolerance (l : List Tolerance) (B g c : Nat) (w : World) (hown : w.ownsRow B 92 4 (.slice (some ⟨g, 0, none⟩) l.length c) l.length (l.flatMap Tolerance.cells)) (hn : l.length ≤ 1048576) :
    Calls Tryd.prog 98 #[.slice (some ⟨g, 0, none⟩) l.length c, .func (.func 67) #[] #[]] w fun e w' => OnceTolerance l B g c w e w' := by
  have hglt := (hown.lt g rfl).2
  obtain ⟨W, hW⟩ : ∃ W, W = w.alloc (.cells #[.func (.func 67) #[] #[]] 96) := ⟨_, rfl⟩
  have hbW : Below w.heap.size w W := by rw [hW]; exact (Below.refl _ _).alloc (Nat.le_refl _) _
  have hcW : CmpTolerance W w.heap.size := by
    unfold CmpTolerance
    rw [hW, cell_of_row _ _ _ _ _ _ (heap_alloc_new w _)]
    rfl
  have HS := Lib.hid (sort_Tolerance l B g c W (own_below' hown hbW) hn)
  have c0 : W.cell? ⟨w.heap.size, 0, none⟩ = some (.func (.func 67) #[] #[]) := hcW
  have Hc := Lib.hid hcW
  have Hb := Lib.hid hbW
  have HW := Lib.hid hW
  clear hown hbW hcW hW
  go_enter Tryd.func98, Tryd.ntmps98
  go_wp2_with fail
  rw [← HW.out]
  go_wp2_with fail
  refine HS.out.mono ?_
  rintro e w2 ⟨rfl, d, hp, hpw, hown2, hgr2⟩
  have hbg : w.heap.size ≠ g := by omega
  have hblt := World.block_lt_of_cell? _ _ Hc.out
  have hc2 : CmpTolerance w2 w.heap.size := (World.cell?_of_block (hgr2.block w.heap.size hblt (fun e => hbg (by injection e)))).trans Hc.out
  have hl := hp.length_eq
  have HC := Lib.hid (comp_Tolerance d B g c w.heap.size w2 hown2 (by omega) hc2 hbg)
  rw [hl] at HC
  have Hgr := Lib.hid (grown_trans (grown_of_below Hb.out (some g)) hgr2)
  have Hsq := Lib.hid (sq_dsort ordO hp hpw)
  clear hp hpw hown2 hgr2 hc2 hl c0
  go_wp2_with fail
  refine HC.out.mono ?_
  rintro e w3 ⟨d2, hd2, rfl, hown3, hgr3⟩
  have hd3 : d2 = dsort befT l := hd2.trans Hsq.out
  subst hd3
  have HR := Lib.hid (show OnceTolerance l B g c w (.returned (.slice (some ⟨g, 0, none⟩) (dsort befT l).length c)) w3 from ⟨rfl, hown3, grown_trans Hgr.out hgr3⟩)
  clear hd2 hown3 hgr3
  go_wp2_with fail
  go_ret
  exact HR.out
end Go.Proofs.YtdgedclpaplgoaaDoor.taint
namespace Go.Proofs.YtdgedclpaplgoaaDoor.taint
open Go.ChangeShapes Go.WideShapes Go.ChangeAt Go.RowKit ty lab dedup need
set_option linter.unusedVariables false

set_option maxRecDepth 100000 in
set_option maxHeartbeats 8000000 in
theorem impl_sifTolerance (l : List Tolerance) (f : Nat) (v : Value) (w : World) (h : Lies w f v (.sl 4 l.length (l.flatMap Tolerance.row))) (hn : l.length ≤ 1048576) :
    Calls Tryd.prog 66 #[v, .func (.func 67) #[] #[], .func (.func 68) #[] #[]] w fun e w' => ListOut w w' e 4 Tolerance.row (sortL TolsP befT l) := by
  have HC := Lib.hid (fun w' (hb : Below w.heap.size w w') => impl_cofTolerance l f v w' (h.below hb) hn)
  obtain ⟨A, c, rfl, hc1, hc2, f', rfl, hk⟩ := els_of Tolerance.row_length h
  unfold maxLen at hc2
  obtain ⟨hrd, hwf⟩ := rdk_Tolerance hk
  have Hwf := Lib.hid hwf
  have Hback : Hid (∀ (g c : Nat) (l2 : List Tolerance) (w3 : World), w3.ownsRow w.heap.size 92 4 (.slice (some ⟨g, 0, none⟩) l2.length c) l2.length (l2.flatMap Tolerance.cells) → (∀ x ∈ l2, x.Wf) → Below w.heap.size w w3 → ∀ b, ListOut w w3 (.returned (.tuple #[.slice (some ⟨g, 0, none⟩) l2.length c, .bool b])) 4 Tolerance.row (l2, b)) := fun g c l2 w3 ho hw hb b => by
    obtain ⟨F, h1, h2, _⟩ := own_Tolerance ho hw
    exact ⟨_, 1, F, rfl, h1, h2, hb⟩
  clear h hk hrd hwf
  by_cases h40 : 40 < l.length
  · have Hno := Lib.hid (sortL_no (P := TolsP) (lt := befT) (l := l) (fun h => by have := h.1; omega))
    have HBw := Lib.hid (Below.refl w.heap.size w)
    go_enter Tryd.func66, Tryd.ntmps66
    go_wp2_with fail
    refine (HC.out _ HBw.out).mono ?_
    rintro e w9 ⟨g9, c9, rfl, hown9, hb9⟩
    have HR := Lib.hid (Hback.out g9 c9 l w9 (own_lower' hown9 HBw.out.size) Hwf.out (below_link HBw.out hb9 HBw.out.size) false)
    clear hown9 hb9
    go_wp2_with fail
    go_ret2
    rw [Hno.out]
    exact HR.out
  have HBw := Lib.hid (Below.refl w.heap.size w)
  go_enter Tryd.func66, Tryd.ntmps66
  go_wp2_with fail
  refine (HC.out _ HBw.out).mono ?_
  rintro e w1 ⟨g1, c1, rfl, hown1, hb1⟩
  have HO := Lib.hid (once_Tolerance l w.heap.size g1 c1 w1 hown1 hn)
  have Hb1 := Lib.hid hb1
  have Hlo := Lib.hid (hown1.lt g1 rfl)
  clear hown1 hb1
  go_wp2_with fail
  refine HO.out.mono ?_
  rintro e w2 ⟨rfl, hown2, hgr2⟩
  have hb2 := Hb1.out.grown hgr2 Hb1.out.size (fun q hq => by injection hq with hq; subst hq; exact Hlo.out.1)
  have hwf2 : ∀ x ∈ dsort befT l, x.Wf := fun x hx => Hwf.out x (dsort_sub _ _ x hx)
  obtain ⟨F, ho, hnd, _⟩ := own_Tolerance hown2 hwf2
  have HL := Lib.hid (impl_oksTolerance (dsort befT l) _ _ w2 ho.lies)
  have Hb2 := Lib.hid hb2
  have HRy := Lib.hid (fun w3 (hb : Below w2.heap.size w2 w3) => Hback.out g1 c1 (dsort befT l) w3 (own_below' hown2 hb) hwf2 (below_link hb2 hb hb2.size) true)
  clear hown2 hgr2 hb2 ho hnd HO
  by_cases hP : TolsP (dsort befT l)
  · rw [yes_t hP] at HL
    have Hy := Lib.hid (sortL_yes (P := TolsP) (lt := befT) (l := l) ⟨by omega, hP⟩)
    clear hP hwf2
    generalize dsort befT l = d at *
    go_wp2_with fail
    refine HL.out.mono ?_
    rintro e w3 ⟨rfl, hb3⟩
    have HR := Lib.hid (HRy.out w3 hb3)
    clear hb3
    go_wp2_with fail
    go_ret2
    rw [Hy.out]
    exact HR.out
  rw [yes_f hP] at HL
  have Hno := Lib.hid (sortL_no (P := TolsP) (lt := befT) (l := l) (fun h => hP h.2))
  clear hP HRy hwf2
  generalize dsort befT l = d at HL
  go_wp2_with fail
  refine HL.out.mono ?_
  rintro e w3 ⟨rfl, hb3⟩
  have Hb3 := Lib.hid (below_link Hb2.out hb3 Hb2.out.size)
  clear hb3
  go_wp2_with fail
  refine (HC.out _ Hb3.out).mono ?_
  rintro e w9 ⟨g9, c9, rfl, hown9, hb9⟩
  have HR := Lib.hid (Hback.out g9 c9 l w9 (own_lower' hown9 Hb3.out.size) Hwf.out (below_link Hb3.out hb9 Hb3.out.size) false)
  clear hown9 hb9
  go_wp2_with fail
  go_ret2
  rw [Hno.out]
  exact HR.out
set_option maxRecDepth 100000 in
theorem impl_sortTolerance (l : List Tolerance) (f : Nat) (v : Value) (w : World) (h : Lies w f v (.sl 4 l.length (l.flatMap Tolerance.row))) (hn : l.length ≤ 1048576) :
    Calls Tryd.prog 33 #[v] w fun e w' => ListOut w w' e 4 Tolerance.row (sortL TolsP befT l) := by
  have HS := Lib.hid (impl_sifTolerance l f v w h hn)
  obtain ⟨r, hr⟩ : ∃ r, r = sortL TolsP befT l := ⟨_, rfl⟩
  rw [← hr] at HS ⊢
  obtain ⟨r1, r2⟩ := r
  clear h hn hr
  go_enter Tryd.func33, Tryd.ntmps33
  go_wp2_with fail
  refine HS.out.mono ?_
  rintro e w1 ⟨v1, f1, F1, rfl, ho, hnd, hb⟩
  have HR := Lib.hid (show ListOut w w1 (.returned (.tuple #[v1, .bool r2])) 4 Tolerance.row (r1, r2) from ⟨v1, f1, F1, rfl, ho, hnd, hb⟩)
  clear ho hnd hb
  go_wp2_with fail
  go_ret2
  exact HR.out
end Go.Proofs.YtdgedclpaplgoaaDoor.taint
