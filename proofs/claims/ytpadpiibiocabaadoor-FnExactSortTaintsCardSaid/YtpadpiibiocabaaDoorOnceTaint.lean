/- slices.SortFunc at Taint, impl.sortedOnce at Taint. Printed by gen/gen_fl.py. -/
import Derived.Test.YtpadpiibiocabaaDoorCompTaint
import Derived.Test.YtpadpiibiocabaaDoorGSort
import Derived.Test.YtpadpiibiocabaaDoorShelf
namespace Go.Proofs.YtpadpiibiocabaaDoor.taint
open Go.ChangeShapes Go.WideShapes Go.ChangeAt Go.RowKit ty lab dedup need
set_option linter.unusedVariables false

open Go.Sort (SWO PermIn SortedIn grow)
set_option maxRecDepth 100000 in
theorem sort_Taint (l : List Taint) (B g c : Nat) (w : World) (hown : w.ownsRow B 32 3 (.slice (some ⟨g, 0, none⟩) l.length c) l.length (l.flatMap Taint.cells)) (hn : l.length ≤ 1048576) :
    Calls Tryd.prog 93 #[.slice (some ⟨g, 0, none⟩) l.length c, .func (.func 64) #[] #[]] w fun e w' => e = .returned (.tuple #[]) ∧
      ∃ d : List Taint, List.Perm d l ∧ d.Pairwise (fun a b => lessT b a = false) ∧ w'.ownsRow B 32 3 (.slice (some ⟨g, 0, none⟩) d.length c) d.length (d.flatMap Taint.cells) ∧ w.grownBy w' (some g) := by
  by_cases h0 : l = []
  · subst h0
    refine (AnyF.slices_SortFunc_none Tryd.sortTaint (some ⟨g, 0, none⟩) c _ w).mono ?_
    rintro e w' ⟨rfl, rfl⟩
    exact ⟨rfl, [], List.Perm.refl _, List.Pairwise.nil, hown, World.grownBy.refl _ _⟩
  have eg : ∀ args w, (callFunc 64 args).run Tryd.prog w = .ok (.enter 64 args) w := enters_of Tryd.func64 (by kernel_rfl) rfl
  have hcon := AnyQ.slices_SortFunc Tryd.sortTaint 3 Tryd.isAgg32 Tryd.sizeOf32 Taint.cells Taint.cells_len Taint.cells_one cmpT (CmpWay.swo wayT ordT) 64 #[] g 0 c l.toArray w eg (fun m os dk hs x y => impl_cmpT x y _) (holdsK_own (enc := Taint.cells) (k := 3) Taint.cells_len hown) (hown.lt g rfl).2 (by simp; omega)
  have hs : l.toArray.size = l.length := by simp
  rw [hs] at hcon
  refine hcon.mono ?_
  rintro e w' ⟨rfl, d', n, os, hp, hso, rfl⟩
  obtain ⟨hsz, _, hperm⟩ := hp
  rw [← hs, Array.extract_size] at hperm
  have e2 : d'.extract 0 l.toArray.size = d' := by rw [← hsz]; exact Array.extract_size
  rw [e2] at hperm
  have hl : d'.toList.length = l.length := by rw [Array.length_toList, hsz, hs]
  refine ⟨rfl, d'.toList, by simpa using hperm, ?_, ?_, grownBy_sortedK _ _⟩
  · rw [List.pairwise_iff_getElem]
    intro i j hi hj hij
    have h1 := hso i j (Nat.zero_le _) hij (by omega)
    have hi' : i < d'.size := by simpa using hi
    have hj' : j < d'.size := by simpa using hj
    rw [getElem!_pos d' i hi', getElem!_pos d' j hj', CmpWay.ltc wayT ordT] at h1
    exact h1
  · have := own_sortedK (n := n) (os := os) (enc := Taint.cells) Taint.cells_len hl hown
    rw [hl] at this ⊢
    exact this
/-- The elements in order, each once, in the same block. -/
def OnceTaint (l : List Taint) (B g c : Nat) (w : World) (e : Ending) (w' : World) : Prop :=
  e = .returned (.slice (some ⟨g, 0, none⟩) (dsort lessT l).length c) ∧ w'.ownsRow B 32 3 (.slice (some ⟨g, 0, none⟩) (dsort lessT l).length c) (dsort lessT l).length ((dsort lessT l).flatMap Taint.cells) ∧ w.grownBy w' (some g)
set_option maxRecDepth 100000 in
set_option maxHeartbeats 8000000 in
theorem once_Taint (l : List Taint) (B g c : Nat) (w : World) (hown : w.ownsRow B 32 3 (.slice (some ⟨g, 0, none⟩) l.length c) l.length (l.flatMap Taint.cells)) (hn : l.length ≤ 1048576) :
    Calls Tryd.prog 84 #[.slice (some ⟨g, 0, none⟩) l.length c, .func (.func 64) #[] #[]] w fun e w' => OnceTaint l B g c w e w' := by
  have hglt := (hown.lt g rfl).2
  obtain ⟨W, hW⟩ : ∃ W, W = w.alloc (.cells #[.func (.func 64) #[] #[]] 89) := ⟨_, rfl⟩
  have hbW : Below w.heap.size w W := by rw [hW]; exact (Below.refl _ _).alloc (Nat.le_refl _) _
  have hcW : CmpTaint W w.heap.size := by
    unfold CmpTaint
    rw [hW, cell_of_row _ _ _ _ _ _ (heap_alloc_new w _)]
    rfl
  have HS := Lib.hid (sort_Taint l B g c W (own_below' hown hbW) hn)
  have c0 : W.cell? ⟨w.heap.size, 0, none⟩ = some (.func (.func 64) #[] #[]) := hcW
  have Hc := Lib.hid hcW
  have Hb := Lib.hid hbW
  have HW := Lib.hid hW
  clear hown hbW hcW hW
  go_enter Tryd.func84, Tryd.ntmps84
  go_wp2_with fail
  rw [← HW.out]
  go_wp2_with fail
  refine HS.out.mono ?_
  rintro e w2 ⟨rfl, d, hp, hpw, hown2, hgr2⟩
  have hbg : w.heap.size ≠ g := by omega
  have hblt := World.block_lt_of_cell? _ _ Hc.out
  have hc2 : CmpTaint w2 w.heap.size := (World.cell?_of_block (hgr2.block w.heap.size hblt (fun e => hbg (by injection e)))).trans Hc.out
  have hl := hp.length_eq
  have HC := Lib.hid (comp_Taint d B g c w.heap.size w2 hown2 (by omega) hc2 hbg)
  rw [hl] at HC
  have Hgr := Lib.hid (grown_trans (grown_of_below Hb.out (some g)) hgr2)
  have Hsq := Lib.hid (sq_dsort ordT hp hpw)
  clear hp hpw hown2 hgr2 hc2 hl c0
  go_wp2_with fail
  refine HC.out.mono ?_
  rintro e w3 ⟨d2, hd2, rfl, hown3, hgr3⟩
  have hd3 : d2 = dsort lessT l := hd2.trans Hsq.out
  subst hd3
  have HR := Lib.hid (show OnceTaint l B g c w (.returned (.slice (some ⟨g, 0, none⟩) (dsort lessT l).length c)) w3 from ⟨rfl, hown3, grown_trans Hgr.out hgr3⟩)
  clear hd2 hown3 hgr3
  go_wp2_with fail
  go_ret
  exact HR.out
end Go.Proofs.YtpadpiibiocabaaDoor.taint
