/- slices.SortFunc at Tolerance, impl.sortedOnce at Tolerance. Printed by gen/gen_fl.py. -/
import Derived.Test.YtpadpiibiocabaaDoorCompTolerance
import Derived.Test.YtpadpiibiocabaaDoorGSort
import Derived.Test.YtpadpiibiocabaaDoorShelf
namespace Go.Proofs.YtpadpiibiocabaaDoor.taint
open Go.ChangeShapes Go.WideShapes Go.ChangeAt Go.RowKit ty lab dedup need
set_option linter.unusedVariables false

open Go.Sort (SWO PermIn SortedIn grow)
set_option maxRecDepth 100000 in
theorem sort_Tolerance (l : List Tolerance) (B g c : Nat) (w : World) (hown : w.ownsRow B 30 4 (.slice (some ⟨g, 0, none⟩) l.length c) l.length (l.flatMap Tolerance.cells)) (hn : l.length ≤ 1048576) :
    Calls Tryd.prog 96 #[.slice (some ⟨g, 0, none⟩) l.length c, .func (.func 68) #[] #[]] w fun e w' => e = .returned (.tuple #[]) ∧
      ∃ d : List Tolerance, List.Perm d l ∧ d.Pairwise (fun a b => befT b a = false) ∧ w'.ownsRow B 30 4 (.slice (some ⟨g, 0, none⟩) d.length c) d.length (d.flatMap Tolerance.cells) ∧ w.grownBy w' (some g) := by
  by_cases h0 : l = []
  · subst h0
    refine (AnyF.slices_SortFunc_none Tryd.sortTol (some ⟨g, 0, none⟩) c _ w).mono ?_
    rintro e w' ⟨rfl, rfl⟩
    exact ⟨rfl, [], List.Perm.refl _, List.Pairwise.nil, hown, World.grownBy.refl _ _⟩
  have eg : ∀ args w, (callFunc 68 args).run Tryd.prog w = .ok (.enter 68 args) w := enters_of Tryd.func68 (by kernel_rfl) rfl
  have hcon := AnyQ.slices_SortFunc Tryd.sortTol 4 Tryd.isAgg30 Tryd.sizeOf30 Tolerance.cells Tolerance.cells_len Tolerance.cells_one cmpO (CmpWay.swo wayO ordO) 68 #[] g 0 c l.toArray w eg (fun m os dk hs x y => impl_cmpO x y _) (holdsK_own (enc := Tolerance.cells) (k := 4) Tolerance.cells_len hown) (hown.lt g rfl).2 (by simp; omega)
  have hs : l.toArray.size = l.length := by simp
  rw [hs] at hcon
  refine hcon.mono ?_
  rintro e w' ⟨rfl, d', n, os, hp, hso, rfl⟩
  obtain ⟨hsz, _, hperm⟩ := hp
  rw [← hs, Array.extract_size] at hperm
  have e2 : d'.extract 0 l.toArray.size = d' := by rw [← hsz]; exact Array.extract_size
  rw [e2] at hperm
  have hl : d'.toList.length = l.length := by rw [Array.length_toList, hsz, hs]
  refine ⟨rfl, d'.toList, by simpa using hperm, ?_, ?_, grownBy_sortedK _ _⟩
  · rw [List.pairwise_iff_getElem]
    intro i j hi hj hij
    have h1 := hso i j (Nat.zero_le _) hij (by omega)
    have hi' : i < d'.size := by simpa using hi
    have hj' : j < d'.size := by simpa using hj
    rw [getElem!_pos d' i hi', getElem!_pos d' j hj', CmpWay.ltc wayO ordO] at h1
    exact h1
  · have := own_sortedK (n := n) (os := os) (enc := Tolerance.cells) Tolerance.cells_len hl hown
    rw [hl] at this ⊢
    exact this
/-- The elements in order, each once, in the same block. -/
def OnceTolerance (l : List Tolerance) (B g c : Nat) (w : World) (e : Ending) (w' : World) : Prop :=
  e = .returned (.slice (some ⟨g, 0, none⟩) (dsort befT l).length c) ∧ w'.ownsRow B 30 4 (.slice (some ⟨g, 0, none⟩) (dsort befT l).length c) (dsort befT l).length ((dsort befT l).flatMap Tolerance.cells) ∧ w.grownBy w' (some g)
set_option maxRecDepth 100000 in
set_option maxHeartbeats 8000000 in
theorem once_Tolerance (l : List Tolerance) (B g c : Nat) (w : World) (hown : w.ownsRow B 30 4 (.slice (some ⟨g, 0, none⟩) l.length c) l.length (l.flatMap Tolerance.cells)) (hn : l.length ≤ 1048576) :
    Calls Tryd.prog 85 #[.slice (some ⟨g, 0, none⟩) l.length c, .func (.func 68) #[] #[]] w fun e w' => OnceTolerance l B g c w e w' := by
  have hglt := (hown.lt g rfl).2
  obtain ⟨W, hW⟩ : ∃ W, W = w.alloc (.cells #[.func (.func 68) #[] #[]] 92) := ⟨_, rfl⟩
  have hbW : Below w.heap.size w W := by rw [hW]; exact (Below.refl _ _).alloc (Nat.le_refl _) _
  have hcW : CmpTolerance W w.heap.size := by
    unfold CmpTolerance
    rw [hW, cell_of_row _ _ _ _ _ _ (heap_alloc_new w _)]
    rfl
  have HS := Lib.hid (sort_Tolerance l B g c W (own_below' hown hbW) hn)
  have c0 : W.cell? ⟨w.heap.size, 0, none⟩ = some (.func (.func 68) #[] #[]) := hcW
  have Hc := Lib.hid hcW
  have Hb := Lib.hid hbW
  have HW := Lib.hid hW
  clear hown hbW hcW hW
  go_enter Tryd.func85, Tryd.ntmps85
  go_wp2_with fail
  rw [← HW.out]
  go_wp2_with fail
  refine HS.out.mono ?_
  rintro e w2 ⟨rfl, d, hp, hpw, hown2, hgr2⟩
  have hbg : w.heap.size ≠ g := by omega
  have hblt := World.block_lt_of_cell? _ _ Hc.out
  have hc2 : CmpTolerance w2 w.heap.size := (World.cell?_of_block (hgr2.block w.heap.size hblt (fun e => hbg (by injection e)))).trans Hc.out
  have hl := hp.length_eq
  have HC := Lib.hid (comp_Tolerance d B g c w.heap.size w2 hown2 (by omega) hc2 hbg)
  rw [hl] at HC
  have Hgr := Lib.hid (grown_trans (grown_of_below Hb.out (some g)) hgr2)
  have Hsq := Lib.hid (sq_dsort ordO hp hpw)
  clear hp hpw hown2 hgr2 hc2 hl c0
  go_wp2_with fail
  refine HC.out.mono ?_
  rintro e w3 ⟨d2, hd2, rfl, hown3, hgr3⟩
  have hd3 : d2 = dsort befT l := hd2.trans Hsq.out
  subst hd3
  have HR := Lib.hid (show OnceTolerance l B g c w (.returned (.slice (some ⟨g, 0, none⟩) (dsort befT l).length c)) w3 from ⟨rfl, hown3, grown_trans Hgr.out hgr3⟩)
  clear hd2 hown3 hgr3
  go_wp2_with fail
  go_ret
  exact HR.out
end Go.Proofs.YtpadpiibiocabaaDoor.taint
