/- Drawn numbers: l01PickInt. -/
import Derived.Test.YtiibldfkefihlaaDoorDraw
namespace Go.Proofs.YtiibldfkefihlaaDoor.draw
open Go.ChangeShapes Go.WideShapes Go.ChangeAt Go.RowKit
set_option linter.unusedVariables false

def I64 (x : Int) : Prop := -9223372036854775808 ≤ x ∧ x ≤ 9223372036854775807

/-- A number of the list is picked. -/
theorem pick_any (c : Nat) (A : Option Addr) (len cap : Nat) (z : Nat → Int) (g n cp : Nat) (l : List Int) (w : World) (hc : Cur w c A len cap z) (h0 : 0 < n) (h1 : n ≤ 1000) (hl : l.length = n)
    (hg : c < g) (hrow : w.heap[g]? = some (.cells (icells l).toArray 3 (0, 0))) :
    Calls Tryd.prog 43 #[.pointer (some ⟨c, 0, none⟩), .slice (some ⟨g, 0, none⟩) n cp] w (Got (fun x => x ∈ l) c A len cap z w) := by
  have HB := Lib.hid (below_any c A len cap z n w hc (by omega) (by omega))
  have Hrow := Lib.hid hrow
  have Hl := Lib.hid hl
  clear hc hrow hl
  go_enter Tryd.func43, Tryd.ntmps43
  go_wp2_with fail
  refine HB.out.mono ?_
  rintro e w1 ⟨x, hx, rfl, hc1, hg1⟩
  obtain ⟨j, rfl⟩ := Int.eq_ofNat_of_zero_le hx.1
  have hj : j < n := by omega
  have hjl : j < l.length := by have := Hl.out; omega
  have hglt : g < w.heap.size := (Array.getElem?_eq_some_iff.1 Hrow.out).1
  have hrow1 : w1.heap[g]? = some (.cells (icells l).toArray 3 (0, 0)) := by rw [hg1.block g hglt (by intro e; injection e with e; omega)]; exact Hrow.out
  have hcell : w1.cell? ⟨g, j, none⟩ = some (.int .i64 (l.getD j 0)) := by
    rw [cell_of_row w1 g j _ 3 (0, 0) hrow1]
    have := icells_get l j hjl
    simpa using this
  have hmem : Hid (l.getD j 0 ∈ l) := by
    unfold Hid
    rw [List.getD_eq_getElem?_getD, List.getElem?_eq_getElem hjl]
    exact List.getElem_mem hjl
  have Hc1 := Lib.hid hc1
  have Hg1 := Lib.hid hg1
  clear hrow1 hc1 hg1 hjl hglt HB
  generalize l.getD j 0 = x at hcell hmem
  go_wp2_with fail
  go_ret
  exact ⟨x, hmem.out, rfl, Hc1.out, Hg1.out⟩
end Go.Proofs.YtiibldfkefihlaaDoor.draw
