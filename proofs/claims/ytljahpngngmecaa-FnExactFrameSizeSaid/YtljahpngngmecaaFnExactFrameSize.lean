/- FnExactFrameSize: the law returns true at every argument. -/
import Derived.Test.YtljahpngngmecaaLawFrame
import Derived.Test.YtljahpngngmecaaFrSizeS
import Derived.Test.YtljahpngngmecaaFrSizeI
namespace Go.Proofs.Ytljahpngngmecaa.fnExactFrameSize
open Go.ChangeShapes Go.WideShapes Go.ChangeAt Go.RowKit
open frame
set_option linter.unusedVariables false

theorem below_link {w a b : World} (h : Below w.heap.size w a) (k : Below a.heap.size a b) : Below w.heap.size w b := h.trans (k.mono h.size)
theorem walk (v : Int) (p : ByteArray) (W : World) (hv : (Lit.int .i64 v).wf = true) (hp : p.size ≤ maxLen) :
    Calls Try.prog 5 #[frV v p] W fun e w' => e = .returned (.bool true) ∧ Below W.heap.size W w' := by
  have hcell : ∀ w', Below (W.alloc (.cells #[.int .i64 v, .string p] 23)).heap.size (W.alloc (.cells #[.int .i64 v, .string p] 23)) w' → w'.cell? ⟨W.heap.size, 0, none⟩ = some (.int .i64 v) ∧ w'.cell? ⟨W.heap.size, 1, none⟩ = some (.string p) ∧ Below W.heap.size W w' := fun w' h =>
    ⟨(h.cell (by simp)).trans (two_cells (heap_alloc_new W _)).1, (h.cell (by simp)).trans (two_cells (heap_alloc_new W _)).2.1, ((Below.refl _ _).alloc (Nat.le_refl _) _).trans (h.mono (by simp))⟩
  have Hcell := Lib.hid hcell
  clear hcell
  by_cases ls : 1048576 < p.size
  · have HZ := Lib.hid (fun W => lawFrame.sz_no v p W hp ls)
    unfold frV at HZ ⊢
    go_enter Try.func5, Try.ntmps5
    go_wp2_with fail
    refine (HZ.out _).mono ?_
    rintro e w1 ⟨rfl, hb1⟩
    have Hb := Lib.hid (Hcell.out w1 hb1).2.2
    clear HZ hb1
    go_wp2_with fail
    go_ret
    exact ⟨rfl, Hb.out⟩
  have HZ := Lib.hid (fun W => lawFrame.sz_yes v p W (by omega))
  have HT := Lib.hid (fun W => lawFrame.to_any v p W)
  have HS := Lib.hid (fun W => frame.spec_size v p W hp)
  have HI := Lib.hid (fun W => frame.impl_size v p W hp)
  generalize ((frameF v p).size : Int) = R at HS HI
  unfold frV at HZ HT HS HI ⊢
  go_enter Try.func5, Try.ntmps5
  go_wp2_with fail
  refine (HZ.out _).mono ?_
  rintro e w1 ⟨rfl, hb1⟩
  obtain ⟨c0, c1, hbW⟩ := Hcell.out w1 hb1
  clear HZ
  go_wp2_with fail
  refine (HT.out _).mono ?_
  rintro e w2 ⟨rfl, hb2⟩
  have hb12 := below_link hb1 hb2
  clear hb2 hb1 c0 c1 hbW
  go_wp2_with fail
  refine (HS.out _).mono ?_
  rintro e w3 ⟨rfl, hb3⟩
  have hb13 := below_link hb12 hb3
  clear hb3 hb12 HS
  obtain ⟨c0, c1, hbW⟩ := Hcell.out w3 hb13
  go_wp2_with fail
  refine (HT.out _).mono ?_
  rintro e w4 ⟨rfl, hb4⟩
  have hb14 := below_link hb13 hb4
  clear hb4 hb13 c0 c1 hbW HT
  go_wp2_with fail
  refine (HI.out _).mono ?_
  rintro e w5 ⟨rfl, hb5⟩
  have hb15 := below_link hb14 hb5
  clear hb5 hb14 HI
  obtain ⟨c0, c1, hbW⟩ := Hcell.out w5 hb15
  have Hb := Lib.hid hbW
  clear hbW hb15 c0 c1
  go_wp2_with fail
  go_ret
  exact ⟨rfl, Hb.out⟩
end Go.Proofs.Ytljahpngngmecaa.fnExactFrameSize
