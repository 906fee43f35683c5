/- laws.toNeed. Printed by gen/gen_ns.py. -/
import Derived.Test.YtjcfaepklakpkaaDoorTyNeed
import Derived.Test.YtjcfaepklakpkaaDoorNsM
import Derived.Test.YtjcfaepklakpkaaDoorToStr
import Derived.Test.YtjcfaepklakpkaaDoorRows
import Derived.ProofKit
import Derived.OpenShut
import Derived.Deep.WholeRow
namespace Go.Proofs.YtjcfaepklakpkaaDoor.ty
open Go.ChangeShapes Go.WideShapes Go.ChangeAt Go.RowKit
set_option linter.unusedVariables false

theorem sizeNeed : (Tryd.prog.info? 30).map (·.size) = some 3 := by kernel_rfl
set_option maxRecDepth 100000 in
set_option maxHeartbeats 8000000 in
theorem toNeed (x : Need) (f : Nat) (vs : List Value) (w : World) (h : LiesS w f vs x.row) (hw : x.wt ≤ 1048576) :
    Calls Tryd.prog 18 #[.agg vs.toArray] w fun e w' => AggOut w 2 x.row e w' := by
  obtain ⟨a0, a1, a2⟩ := x
  obtain ⟨A2, c2, rfl, hwf, k2, m2, l2⟩ := Need.opened h
  unfold Need.wt at hw
  simp only at hw hwf k2 m2 l2
  obtain ⟨w1, hw1⟩ : ∃ w1, w1 = ((w.alloc (.cells #[.string a0, .int .i64 a1, .slice A2 a2.length c2] 36)).alloc (.cells #[.string ⟨#[]⟩, .int .i64 0, .slice none 0 0] 30)).alloc (.cells #[.string a0, .int .i64 a1, .slice none 0 0] 30) := ⟨_, rfl⟩
  have hsz : w1.heap.size = w.heap.size + 3 := by subst hw1; simp
  have hb1 : Below w.heap.size w w1 := by subst hw1; exact (((Below.refl _ _).alloc (Nat.le_refl _) _).alloc (by simp) _).alloc (by simp; omega) _
  have h10 : w1.heap[w.heap.size]? = some (.cells #[.string a0, .int .i64 a1, .slice A2 a2.length c2] 36 (0, 0)) := by
    subst hw1
    rw [Below.heap_alloc _ _ _ (by simp; omega), Below.heap_alloc _ _ _ (by simp)]
    exact heap_alloc_new w _
  have h11 : w1.heap[w.heap.size + 1]? = some (.cells #[.string ⟨#[]⟩, .int .i64 0, .slice none 0 0] 30 (0, 0)) := by
    subst hw1
    rw [Below.heap_alloc _ _ _ (by simp)]
    have h := heap_alloc_new (w.alloc (.cells #[.string a0, .int .i64 a1, .slice A2 a2.length c2] 36)) (.cells #[.string ⟨#[]⟩, .int .i64 0, .slice none 0 0] 30)
    simpa using h
  have h12 : w1.heap[w.heap.size + 2]? = some (.cells #[.string a0, .int .i64 a1, .slice none 0 0] 30 (0, 0)) := by
    subst hw1
    have h := heap_alloc_new ((w.alloc (.cells #[.string a0, .int .i64 a1, .slice A2 a2.length c2] 36)).alloc (.cells #[.string ⟨#[]⟩, .int .i64 0, .slice none 0 0] 30)) (.cells #[.string a0, .int .i64 a1, .slice none 0 0] 30)
    simpa using h
  have T2 := Lib.hid (fun w1 (hb : Below w.heap.size w w1) => toStr a2 f (.slice A2 a2.length c2) w1 (l2.below hb) (by omega))
  have Hwf := Lib.hid hwf
  have K0 := Lib.hid h10
  have K1 := Lib.hid h11
  have K2 := Lib.hid h12
  have Hb := Lib.hid hb1
  have Hsz := Lib.hid (show w.heap.size + 3 ≤ w1.heap.size by omega)
  have Hw1 := Lib.hid hw1
  clear h hw hwf hsz hb1 h10 h11 h12 hw1 k2 m2 l2
  go_enter Tryd.func18, Tryd.ntmps18
  go_wp2_with fail
  rw [← Hw1.out]
  clear Hw1
  refine (T2.out _ Hb.out).mono ?_
  rintro e y2 ⟨v2, rfl, r2, b2⟩
  obtain ⟨B2, d2, rfl⟩ := r2.is_slice
  have h20 := heap_kept b2 (heap_lt K0.out) K0.out
  have h21 := heap_kept b2 (heap_lt K1.out) K1.out
  have h22 := heap_kept b2 (heap_lt K2.out) K2.out
  have HB2 := Lib.hid (Hb.out.trans (b2.mono Hb.out.size))
  obtain ⟨F2, o2, n2, g2⟩ := r2.own
  have Hn2 := Lib.hid n2
  have Hr2 := Lib.hid g2
  have Hsb2 := Lib.hid (show w1.heap.size ≤ y2.heap.size from b2.size)
  have p2 : (y2).cell? ⟨w.heap.size + 2, 2, none⟩ = some (.slice none 0 0) := by rw [cell_of_row _ _ 2 _ _ _ h22]; rfl
  have f2 := frozen_of_row (y2) _ 2 _ _ h22
  have k2_2_0 : ((y2).setCell ⟨w.heap.size + 2, 2, none⟩ (.slice B2 a2.length d2)).heap[w.heap.size]? = _ := (Below.heap_setCell _ _ _ _ (by show w.heap.size ≠ w.heap.size + 2; omega)).trans h20
  have k2_2_1 : ((y2).setCell ⟨w.heap.size + 2, 2, none⟩ (.slice B2 a2.length d2)).heap[w.heap.size + 1]? = _ := (Below.heap_setCell _ _ _ _ (by show w.heap.size + 1 ≠ w.heap.size + 2; omega)).trans h21
  have k2_2_2 : ((y2).setCell ⟨w.heap.size + 2, 2, none⟩ (.slice B2 a2.length d2)).heap[w.heap.size + 2]? = some (.cells #[.string a0, .int .i64 a1, .slice B2 a2.length d2] 30 (0, 0)) := heap_setCell_same _ _ _ _ _ _ h22
  have hbz : Below w.heap.size w ((y2).setCell ⟨w.heap.size + 2, 2, none⟩ (.slice B2 a2.length d2)) := (HB2.out.setCell (by show w.heap.size ≤ w.heap.size + 2; omega) _)
  have ow2 := (Own.setCell_low o2 (o := 2) (u := .slice B2 a2.length d2) (show w.heap.size + 2 < w1.heap.size by have := Hsz.out; omega))
  have hzs : ((y2).setCell ⟨w.heap.size + 2, 2, none⟩ (.slice B2 a2.length d2)).heap.size = y2.heap.size := by simp only [size_setCell]
  clear r2 b2 o2 n2 g2 
  have H51 := Lib.hid k2_2_1
  have h52 := k2_2_2
  have h51 := H51.out
  have Hbz := Lib.hid hbz
  clear hbz h20 h21 h22
  clear k2_2_0 k2_2_1 k2_2_2
  generalize hz : (y2).setCell ⟨w.heap.size + 2, 2, none⟩ (.slice B2 a2.length d2) = z at *
  go_wp2_with (first | (refine wpList_load_row rfl 30 _ rfl (w.heap.size + 2) rfl 30 #[.string a0, .int .i64 a1, .slice B2 a2.length d2] (0, 0) _ h52 Tryd.underlying30 rfl sizeNeed ?_) | (refine wpList_store_row rfl 30 _ _ rfl (w.heap.size + 1) #[.string a0, .int .i64 a1, .slice B2 a2.length d2] rfl rfl 30 _ h51 sizeNeed rfl (by simp [Value.oneCell']) ?_) | fail)
  obtain ⟨F, ho, hnd, _⟩ := Need.owned (x := ⟨a0, a1, a2⟩) (f := 1) (w := z.setRow (w.heap.size + 1) #[.string a0, .int .i64 a1, .slice B2 a2.length d2]) Hwf.out (Own.deeper (f := 2) (f' := 2) (by decide) ((Own.setRow_low ow2 (c := #[.string a0, .int .i64 a1, .slice B2 a2.length d2]) (show w.heap.size + 1 < w1.heap.size by have := Hsz.out; omega)).lower (B' := w.heap.size) (by have := Hsz.out; omega))) Hn2.out
  refine bodyPost_ret (v := .agg #[.string a0, .int .i64 a1, .slice B2 a2.length d2]) ?_ rfl ⟨_, F, rfl, ho, hnd, setRow_below Hbz.out (by omega) _⟩
  exact results_cell_row rfl _ _ (w.heap.size + 1) _ _ (0, 0) _ rfl (setRow_at H51.out) Tryd.underlying30 rfl sizeNeed
end Go.Proofs.YtjcfaepklakpkaaDoor.ty
