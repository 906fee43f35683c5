/- Merged: ToPod EqStr EqNeed EqNeedS EqTolerance EqToleranceS EqPod CmpNM. -/
import Derived.Test.YtcfbkfmkjggcdaaDoorGA3
import Derived.Test.YtcfbkfmkjggcdaaDoorGA7
import Derived.Test.YtcfbkfmkjggcdaaDoorGA11
import Derived.Test.YtcfbkfmkjggcdaaDoorRows
import Derived.ProofKit
import Derived.OpenShut
import Derived.Deep.WholeRow
import Derived.Test.YtcfbkfmkjggcdaaDoorGA15
import Derived.Test.YtcfbkfmkjggcdaaDoorGA5
import Derived.Test.YtcfbkfmkjggcdaaDoorGA6
namespace Go.Proofs.YtcfbkfmkjggcdaaDoor.ty
open Go.ChangeShapes Go.WideShapes Go.ChangeAt Go.RowKit
set_option linter.unusedVariables false

theorem sizePod : (Tryd.prog.info? 33).map (·.size) = some 7 := by kernel_rfl
set_option maxRecDepth 100000 in
set_option maxHeartbeats 16000000 in
theorem toPod (x : Pod) (f : Nat) (vs : List Value) (w : World) (h : LiesS w f vs x.row) (hw : x.wt ≤ 1048576) :
    Calls Tryd.prog 7 #[.agg vs.toArray] w fun e w' => AggOut w 3 x.row e w' := by
  obtain ⟨a0, a1, a2, a3, a4, a5, a6⟩ := x
  obtain ⟨A1, c1, A5, c5, A6, c6, rfl, hwf, k1, m1, l1, k5, m5, l5, k6, m6, l6⟩ := Pod.opened h
  unfold Pod.wt at hw
  simp only at hw hwf k1 m1 l1 k5 m5 l5 k6 m6 l6
  obtain ⟨w1, hw1⟩ : ∃ w1, w1 = ((w.alloc (.cells #[.string a0, .slice A1 a1.length c1, .int .i64 a2, .int .i64 a3, .int .i64 a4, .slice A5 a5.length c5, .slice A6 a6.length c6] 26)).alloc (.cells #[.string ⟨#[]⟩, .slice none 0 0, .int .i64 0, .int .i64 0, .int .i64 0, .slice none 0 0, .slice none 0 0] 33)).alloc (.cells #[.string a0, .slice none 0 0, .int .i64 0, .int .i64 0, .int .i64 0, .slice none 0 0, .slice none 0 0] 33) := ⟨_, rfl⟩
  have S0 := Lib.hid (show St3 26 33 w [.string a0, .slice A1 a1.length c1, .int .i64 a2, .int .i64 a3, .int .i64 a4, .slice A5 a5.length c5, .slice A6 a6.length c6] [.string ⟨#[]⟩, .slice none 0 0, .int .i64 0, .int .i64 0, .int .i64 0, .slice none 0 0, .slice none 0 0] [.string a0, .slice none 0 0, .int .i64 0, .int .i64 0, .int .i64 0, .slice none 0 0, .slice none 0 0] w1 by rw [hw1]; exact St3.new)
  have T1 := Lib.hid (fun w1 (hb : Below w.heap.size w w1) => toLabelS a1 f (.slice A1 a1.length c1) w1 (l1.below hb) (by omega))
  have T5 := Lib.hid (fun w1 (hb : Below w.heap.size w w1) => toNeedS a5 f (.slice A5 a5.length c5) w1 (l5.below hb) (by omega))
  have T6 := Lib.hid (fun w1 (hb : Below w.heap.size w w1) => toToleranceS a6 f (.slice A6 a6.length c6) w1 (l6.below hb) (by omega))
  have Hwf := Lib.hid hwf
  have Hw1 := Lib.hid hw1
  clear h hw hwf hw1 k1 m1 l1 k5 m5 l5 k6 m6 l6
  go_enter Tryd.func7, Tryd.ntmps7
  go_wp2_with fail
  rw [← Hw1.out]
  clear Hw1
  refine (T1.out _ S0.out.bel).mono ?_
  rintro e y1 ⟨v1, rfl, r1, b1⟩
  obtain ⟨B1, d1, rfl⟩ := r1.is_slice
  obtain ⟨F1, o1, n1, g1⟩ := r1.own
  have O1_0 : Og y1 w1.heap.size y1.heap.size 2 (.slice B1 a1.length d1) (.sl 2 a1.length (a1.flatMap Label.row)) F1 := ⟨o1, n1, g1⟩
  have Hlt1 := Lib.hid S0.out.lt
  have hlt1 := S0.out.lt
  have Hs1 := Lib.hid (show w1.heap.size ≤ y1.heap.size from b1.size)
  have S1_0 := S0.out.call b1
  have p1_0 : (y1).cell? ⟨w.heap.size + 2, 1, none⟩ = some (.slice none 0 0) := S1_0.k2.cell 1 _ rfl
  have f1_0 := RowE.frozen S1_0.k2 1
  have S1_1 : St3 26 33 w [.string a0, .slice A1 a1.length c1, .int .i64 a2, .int .i64 a3, .int .i64 a4, .slice A5 a5.length c5, .slice A6 a6.length c6] [.string ⟨#[]⟩, .slice none 0 0, .int .i64 0, .int .i64 0, .int .i64 0, .slice none 0 0, .slice none 0 0] [.string a0, .slice B1 a1.length d1, .int .i64 0, .int .i64 0, .int .i64 0, .slice none 0 0, .slice none 0 0] ((y1).setCell ⟨w.heap.size + 2, 1, none⟩ (.slice B1 a1.length d1)) := S1_0.put 1 (.slice B1 a1.length d1)
  have O1_1 := Og.put (j := 1) (u := .slice B1 a1.length d1) O1_0 (show w.heap.size + 2 < _ by omega)
  have p1_1 : ((y1).setCell ⟨w.heap.size + 2, 1, none⟩ (.slice B1 a1.length d1)).cell? ⟨w.heap.size + 2, 2, none⟩ = some (.int .i64 0) := S1_1.k2.cell 2 _ rfl
  have f1_1 := RowE.frozen S1_1.k2 2
  have q1_1 : ((y1).setCell ⟨w.heap.size + 2, 1, none⟩ (.slice B1 a1.length d1)).cell? ⟨w.heap.size, 2, none⟩ = some (.int .i64 a2) := S1_1.k0.cell 2 _ rfl
  have S1_2 : St3 26 33 w [.string a0, .slice A1 a1.length c1, .int .i64 a2, .int .i64 a3, .int .i64 a4, .slice A5 a5.length c5, .slice A6 a6.length c6] [.string ⟨#[]⟩, .slice none 0 0, .int .i64 0, .int .i64 0, .int .i64 0, .slice none 0 0, .slice none 0 0] [.string a0, .slice B1 a1.length d1, .int .i64 a2, .int .i64 0, .int .i64 0, .slice none 0 0, .slice none 0 0] (((y1).setCell ⟨w.heap.size + 2, 1, none⟩ (.slice B1 a1.length d1)).setCell ⟨w.heap.size + 2, 2, none⟩ (.int .i64 a2)) := S1_1.put 2 (.int .i64 a2)
  have O1_2 := Og.put (j := 2) (u := .int .i64 a2) O1_1 (show w.heap.size + 2 < _ by omega)
  have p1_2 : (((y1).setCell ⟨w.heap.size + 2, 1, none⟩ (.slice B1 a1.length d1)).setCell ⟨w.heap.size + 2, 2, none⟩ (.int .i64 a2)).cell? ⟨w.heap.size + 2, 3, none⟩ = some (.int .i64 0) := S1_2.k2.cell 3 _ rfl
  have f1_2 := RowE.frozen S1_2.k2 3
  have q1_2 : (((y1).setCell ⟨w.heap.size + 2, 1, none⟩ (.slice B1 a1.length d1)).setCell ⟨w.heap.size + 2, 2, none⟩ (.int .i64 a2)).cell? ⟨w.heap.size, 3, none⟩ = some (.int .i64 a3) := S1_2.k0.cell 3 _ rfl
  have S1_3 : St3 26 33 w [.string a0, .slice A1 a1.length c1, .int .i64 a2, .int .i64 a3, .int .i64 a4, .slice A5 a5.length c5, .slice A6 a6.length c6] [.string ⟨#[]⟩, .slice none 0 0, .int .i64 0, .int .i64 0, .int .i64 0, .slice none 0 0, .slice none 0 0] [.string a0, .slice B1 a1.length d1, .int .i64 a2, .int .i64 a3, .int .i64 0, .slice none 0 0, .slice none 0 0] ((((y1).setCell ⟨w.heap.size + 2, 1, none⟩ (.slice B1 a1.length d1)).setCell ⟨w.heap.size + 2, 2, none⟩ (.int .i64 a2)).setCell ⟨w.heap.size + 2, 3, none⟩ (.int .i64 a3)) := S1_2.put 3 (.int .i64 a3)
  have O1_3 := Og.put (j := 3) (u := .int .i64 a3) O1_2 (show w.heap.size + 2 < _ by omega)
  have p1_3 : ((((y1).setCell ⟨w.heap.size + 2, 1, none⟩ (.slice B1 a1.length d1)).setCell ⟨w.heap.size + 2, 2, none⟩ (.int .i64 a2)).setCell ⟨w.heap.size + 2, 3, none⟩ (.int .i64 a3)).cell? ⟨w.heap.size + 2, 4, none⟩ = some (.int .i64 0) := S1_3.k2.cell 4 _ rfl
  have f1_3 := RowE.frozen S1_3.k2 4
  have q1_3 : ((((y1).setCell ⟨w.heap.size + 2, 1, none⟩ (.slice B1 a1.length d1)).setCell ⟨w.heap.size + 2, 2, none⟩ (.int .i64 a2)).setCell ⟨w.heap.size + 2, 3, none⟩ (.int .i64 a3)).cell? ⟨w.heap.size, 4, none⟩ = some (.int .i64 a4) := S1_3.k0.cell 4 _ rfl
  have S1_4 : St3 26 33 w [.string a0, .slice A1 a1.length c1, .int .i64 a2, .int .i64 a3, .int .i64 a4, .slice A5 a5.length c5, .slice A6 a6.length c6] [.string ⟨#[]⟩, .slice none 0 0, .int .i64 0, .int .i64 0, .int .i64 0, .slice none 0 0, .slice none 0 0] [.string a0, .slice B1 a1.length d1, .int .i64 a2, .int .i64 a3, .int .i64 a4, .slice none 0 0, .slice none 0 0] (((((y1).setCell ⟨w.heap.size + 2, 1, none⟩ (.slice B1 a1.length d1)).setCell ⟨w.heap.size + 2, 2, none⟩ (.int .i64 a2)).setCell ⟨w.heap.size + 2, 3, none⟩ (.int .i64 a3)).setCell ⟨w.heap.size + 2, 4, none⟩ (.int .i64 a4)) := S1_3.put 4 (.int .i64 a4)
  have O1_4 := Og.put (j := 4) (u := .int .i64 a4) O1_3 (show w.heap.size + 2 < _ by omega)
  have qn1 : (((((y1).setCell ⟨w.heap.size + 2, 1, none⟩ (.slice B1 a1.length d1)).setCell ⟨w.heap.size + 2, 2, none⟩ (.int .i64 a2)).setCell ⟨w.heap.size + 2, 3, none⟩ (.int .i64 a3)).setCell ⟨w.heap.size + 2, 4, none⟩ (.int .i64 a4)).cell? ⟨w.heap.size, 5, none⟩ = some (.slice A5 a5.length c5) := S1_4.k0.cell 5 _ rfl
  have hE1 : (((((y1).setCell ⟨w.heap.size + 2, 1, none⟩ (.slice B1 a1.length d1)).setCell ⟨w.heap.size + 2, 2, none⟩ (.int .i64 a2)).setCell ⟨w.heap.size + 2, 3, none⟩ (.int .i64 a3)).setCell ⟨w.heap.size + 2, 4, none⟩ (.int .i64 a4)).heap.size = y1.heap.size := by simp only [size_setCell]
  obtain ⟨z1, hz1⟩ : ∃ z, ((((y1).setCell ⟨w.heap.size + 2, 1, none⟩ (.slice B1 a1.length d1)).setCell ⟨w.heap.size + 2, 2, none⟩ (.int .i64 a2)).setCell ⟨w.heap.size + 2, 3, none⟩ (.int .i64 a3)).setCell ⟨w.heap.size + 2, 4, none⟩ (.int .i64 a4) = z := ⟨_, rfl⟩
  rw [hz1] at S1_4 O1_4 hE1 qn1
  have S1 := Lib.hid S1_4
  have O1at1 := Lib.hid O1_4
  have HE1 := Lib.hid hE1
  clear r1 b1 o1 n1 g1 hE1 hlt1 S1_4 O1_4 S1_0 O1_0 S1_1 O1_1 S1_2 O1_2 S1_3 O1_3
  clear S0
  go_wp2_with fail
  clear p1_0 f1_0 p1_1 f1_1 q1_1 p1_2 f1_2 q1_2 p1_3 f1_3 q1_3 qn1 hz1
  refine (T5.out _ S1.out.bel).mono ?_
  rintro e y5 ⟨v5, rfl, r5, b5⟩
  obtain ⟨B5, d5, rfl⟩ := r5.is_slice
  obtain ⟨F5, o5, n5, g5⟩ := r5.own
  have O5_0 : Og y5 z1.heap.size y5.heap.size 3 (.slice B5 a5.length d5) (.sl 3 a5.length (a5.flatMap Need.row)) F5 := ⟨o5, n5, g5⟩
  have Hlt5 := Lib.hid S1.out.lt
  have hlt5 := S1.out.lt
  have Hs5 := Lib.hid (show z1.heap.size ≤ y5.heap.size from b5.size)
  have S5_0 := S1.out.call b5
  have O1_5_0 := O1at1.out.call b5
  have p5_0 : (y5).cell? ⟨w.heap.size + 2, 5, none⟩ = some (.slice none 0 0) := S5_0.k2.cell 5 _ rfl
  have f5_0 := RowE.frozen S5_0.k2 5
  have S5_1 : St3 26 33 w [.string a0, .slice A1 a1.length c1, .int .i64 a2, .int .i64 a3, .int .i64 a4, .slice A5 a5.length c5, .slice A6 a6.length c6] [.string ⟨#[]⟩, .slice none 0 0, .int .i64 0, .int .i64 0, .int .i64 0, .slice none 0 0, .slice none 0 0] [.string a0, .slice B1 a1.length d1, .int .i64 a2, .int .i64 a3, .int .i64 a4, .slice B5 a5.length d5, .slice none 0 0] ((y5).setCell ⟨w.heap.size + 2, 5, none⟩ (.slice B5 a5.length d5)) := S5_0.put 5 (.slice B5 a5.length d5)
  have O5_1 := Og.put (j := 5) (u := .slice B5 a5.length d5) O5_0 (show w.heap.size + 2 < _ by omega)
  have O1_5_1 := Og.put (j := 5) (u := .slice B5 a5.length d5) O1_5_0 (show w.heap.size + 2 < _ by have := Hlt1.out; omega)
  have qn5 : ((y5).setCell ⟨w.heap.size + 2, 5, none⟩ (.slice B5 a5.length d5)).cell? ⟨w.heap.size, 6, none⟩ = some (.slice A6 a6.length c6) := S5_1.k0.cell 6 _ rfl
  have hE5 : ((y5).setCell ⟨w.heap.size + 2, 5, none⟩ (.slice B5 a5.length d5)).heap.size = y5.heap.size := by simp only [size_setCell]
  obtain ⟨z5, hz5⟩ : ∃ z, (y5).setCell ⟨w.heap.size + 2, 5, none⟩ (.slice B5 a5.length d5) = z := ⟨_, rfl⟩
  rw [hz5] at S5_1 O5_1 O1_5_1 hE5 qn5
  have S5 := Lib.hid S5_1
  have O5at5 := Lib.hid O5_1
  have O1at5 := Lib.hid O1_5_1
  have HE5 := Lib.hid hE5
  clear r5 b5 o5 n5 g5 hE5 hlt5 S5_1 O5_1 O1_5_1 S5_0 O5_0 O1_5_0
  clear S1 O1at1
  go_wp2_with fail
  clear p5_0 f5_0 qn5 hz5
  refine (T6.out _ S5.out.bel).mono ?_
  rintro e y6 ⟨v6, rfl, r6, b6⟩
  obtain ⟨B6, d6, rfl⟩ := r6.is_slice
  obtain ⟨F6, o6, n6, g6⟩ := r6.own
  have O6_0 : Og y6 z5.heap.size y6.heap.size 2 (.slice B6 a6.length d6) (.sl 4 a6.length (a6.flatMap Tolerance.row)) F6 := ⟨o6, n6, g6⟩
  have Hlt6 := Lib.hid S5.out.lt
  have hlt6 := S5.out.lt
  have Hs6 := Lib.hid (show z5.heap.size ≤ y6.heap.size from b6.size)
  have S6_0 := S5.out.call b6
  have O5_6_0 := O5at5.out.call b6
  have O1_6_0 := O1at5.out.call b6
  have p6_0 : (y6).cell? ⟨w.heap.size + 2, 6, none⟩ = some (.slice none 0 0) := S6_0.k2.cell 6 _ rfl
  have f6_0 := RowE.frozen S6_0.k2 6
  have S6_1 : St3 26 33 w [.string a0, .slice A1 a1.length c1, .int .i64 a2, .int .i64 a3, .int .i64 a4, .slice A5 a5.length c5, .slice A6 a6.length c6] [.string ⟨#[]⟩, .slice none 0 0, .int .i64 0, .int .i64 0, .int .i64 0, .slice none 0 0, .slice none 0 0] [.string a0, .slice B1 a1.length d1, .int .i64 a2, .int .i64 a3, .int .i64 a4, .slice B5 a5.length d5, .slice B6 a6.length d6] ((y6).setCell ⟨w.heap.size + 2, 6, none⟩ (.slice B6 a6.length d6)) := S6_0.put 6 (.slice B6 a6.length d6)
  have O6_1 := Og.put (j := 6) (u := .slice B6 a6.length d6) O6_0 (show w.heap.size + 2 < _ by omega)
  have O5_6_1 := Og.put (j := 6) (u := .slice B6 a6.length d6) O5_6_0 (show w.heap.size + 2 < _ by have := Hlt5.out; omega)
  have O1_6_1 := Og.put (j := 6) (u := .slice B6 a6.length d6) O1_6_0 (show w.heap.size + 2 < _ by have := Hlt1.out; omega)
  have hE6 : ((y6).setCell ⟨w.heap.size + 2, 6, none⟩ (.slice B6 a6.length d6)).heap.size = y6.heap.size := by simp only [size_setCell]
  obtain ⟨z6, hz6⟩ : ∃ z, (y6).setCell ⟨w.heap.size + 2, 6, none⟩ (.slice B6 a6.length d6) = z := ⟨_, rfl⟩
  rw [hz6] at S6_1 O6_1 O5_6_1 O1_6_1 hE6
  have S6 := Lib.hid S6_1
  have O6at6 := Lib.hid O6_1
  have O5at6 := Lib.hid O5_6_1
  have O1at6 := Lib.hid O1_6_1
  have HE6 := Lib.hid hE6
  clear r6 b6 o6 n6 g6 hE6 hlt6 S6_1 O6_1 O5_6_1 O1_6_1 S6_0 O6_0 O5_6_0 O1_6_0
  clear S5 O5at5 O1at5
  have h52 := S6.out.k2
  have h51 := S6.out.k1
  unfold RowE at h51 h52
  go_wp2_with (first | (refine wpList_load_row rfl 33 _ rfl (w.heap.size + 2) rfl 33 #[.string a0, .slice B1 a1.length d1, .int .i64 a2, .int .i64 a3, .int .i64 a4, .slice B5 a5.length d5, .slice B6 a6.length d6] (0, 0) _ h52 Tryd.underlying33 rfl sizePod ?_) | (refine wpList_store_row rfl 33 _ _ rfl (w.heap.size + 1) #[.string a0, .slice B1 a1.length d1, .int .i64 a2, .int .i64 a3, .int .i64 a4, .slice B5 a5.length d5, .slice B6 a6.length d6] rfl rfl 33 _ h51 sizePod rfl (by simp [Value.oneCell']) ?_) | fail)
  obtain ⟨F, ho, hnd, _⟩ := Pod.owned (x := ⟨a0, a1, a2, a3, a4, a5, a6⟩) (f := 2) (w := z6.setRow (w.heap.size + 1) #[.string a0, .slice B1 a1.length d1, .int .i64 a2, .int .i64 a3, .int .i64 a4, .slice B5 a5.length d5, .slice B6 a6.length d6]) Hwf.out (O1at6.out.done (f' := 3) (B' := w.heap.size) (c := #[.string a0, .slice B1 a1.length d1, .int .i64 a2, .int .i64 a3, .int .i64 a4, .slice B5 a5.length d5, .slice B6 a6.length d6]) (show w.heap.size + 1 < _ by have := HE1.out; have := Hs1.out; have := Hlt1.out; have := HE5.out; have := Hs5.out; have := Hlt5.out; have := HE6.out; have := Hs6.out; have := Hlt6.out; omega) (by have := HE1.out; have := Hs1.out; have := Hlt1.out; have := HE5.out; have := Hs5.out; have := Hlt5.out; have := HE6.out; have := Hs6.out; have := Hlt6.out; omega) (by decide)) (O5at6.out.done (f' := 3) (B' := w.heap.size) (c := #[.string a0, .slice B1 a1.length d1, .int .i64 a2, .int .i64 a3, .int .i64 a4, .slice B5 a5.length d5, .slice B6 a6.length d6]) (show w.heap.size + 1 < _ by have := HE1.out; have := Hs1.out; have := Hlt1.out; have := HE5.out; have := Hs5.out; have := Hlt5.out; have := HE6.out; have := Hs6.out; have := Hlt6.out; omega) (by have := HE1.out; have := Hs1.out; have := Hlt1.out; have := HE5.out; have := Hs5.out; have := Hlt5.out; have := HE6.out; have := Hs6.out; have := Hlt6.out; omega) (by decide)) (O6at6.out.done (f' := 3) (B' := w.heap.size) (c := #[.string a0, .slice B1 a1.length d1, .int .i64 a2, .int .i64 a3, .int .i64 a4, .slice B5 a5.length d5, .slice B6 a6.length d6]) (show w.heap.size + 1 < _ by have := HE1.out; have := Hs1.out; have := Hlt1.out; have := HE5.out; have := Hs5.out; have := Hlt5.out; have := HE6.out; have := Hs6.out; have := Hlt6.out; omega) (by have := HE1.out; have := Hs1.out; have := Hlt1.out; have := HE5.out; have := Hs5.out; have := Hlt5.out; have := HE6.out; have := Hs6.out; have := Hlt6.out; omega) (by decide)) O1at6.out.nod O5at6.out.nod O6at6.out.nod (O1at6.out.apart O5at6.out (by have := HE1.out; have := Hs1.out; have := Hlt1.out; have := HE5.out; have := Hs5.out; have := Hlt5.out; have := HE6.out; have := Hs6.out; have := Hlt6.out; omega)) (O1at6.out.apart O6at6.out (by have := HE1.out; have := Hs1.out; have := Hlt1.out; have := HE5.out; have := Hs5.out; have := Hlt5.out; have := HE6.out; have := Hs6.out; have := Hlt6.out; omega)) (O5at6.out.apart O6at6.out (by have := HE1.out; have := Hs1.out; have := Hlt1.out; have := HE5.out; have := Hs5.out; have := Hlt5.out; have := HE6.out; have := Hs6.out; have := Hlt6.out; omega))
  refine bodyPost_ret (v := .agg #[.string a0, .slice B1 a1.length d1, .int .i64 a2, .int .i64 a3, .int .i64 a4, .slice B5 a5.length d5, .slice B6 a6.length d6]) ?_ rfl ⟨_, F, rfl, ho, hnd, setRow_below S6.out.bel (by omega) _⟩
  exact results_cell_row rfl _ _ (w.heap.size + 1) _ _ (0, 0) _ rfl (setRow_at h51) Tryd.underlying33 rfl sizePod
end Go.Proofs.YtcfbkfmkjggcdaaDoor.ty
namespace Go.Proofs.YtcfbkfmkjggcdaaDoor.ty
open Go.ChangeShapes Go.WideShapes Go.ChangeAt Go.RowKit
set_option linter.unusedVariables false

theorem eqStr (l : List ByteArray) (f1 f2 : Nat) (v1 v2 : Value) (w : World) (h1 : Lies w f1 v1 (.sl 1 l.length (l.flatMap Str.row))) (h2 : Lies w f2 v2 (.sl 1 l.length (l.flatMap Str.row))) :
    Calls Tryd.prog 88 #[v1, v2] w fun e w' => e = .returned (.bool true) ∧ Below w.heap.size w w' := by
  obtain ⟨A1, c1, rfl, k1, m1, r1, _⟩ := Str.opened h1
  obtain ⟨A2, c2, rfl, k2, m2, r2, _⟩ := Str.opened h2
  refine (lawStr.eq_yes A1 A2 l.length c1 c2 l w (by omega) rfl r1 r2).mono ?_
  rintro e w1 ⟨rfl, n, rfl⟩
  exact ⟨rfl, below_drewN (Below.refl _ _) n⟩
end Go.Proofs.YtcfbkfmkjggcdaaDoor.ty
namespace Go.Proofs.YtcfbkfmkjggcdaaDoor.ty
open Go.ChangeShapes Go.WideShapes Go.ChangeAt Go.RowKit
set_option linter.unusedVariables false

theorem eqNeed (x : Need) (f1 f2 : Nat) (vs us : List Value) (w : World) (h1 : LiesS w f1 vs x.row) (h2 : LiesS w f2 us x.row) :
    Calls Tryd.prog 62 #[.agg vs.toArray, .agg us.toArray] w fun e w' => e = .returned (.bool true) ∧ Below w.heap.size w w' := by
  obtain ⟨a0, a1, a2⟩ := x
  obtain ⟨A2, c2, rfl, hwf, k2, m2, l2⟩ := Need.opened h1
  obtain ⟨B2, d2, rfl, hwf2, k2_, m2_, r2⟩ := Need.opened h2
  simp only at *
  have HB1 := Lib.hid (Box.new 79 w [.string a0, .int .i64 a1, .slice A2 a2.length c2])
  have HB2 := Lib.hid (HB1.out.below ((Below.refl _ _).alloc (Nat.le_refl _) (.cells #[.string a0, .int .i64 a1, .slice B2 a2.length d2] 79)))
  have HB3 := Lib.hid (Box.new 79 (w.alloc (.cells #[.string a0, .int .i64 a1, .slice A2 a2.length c2] 79)) [.string a0, .int .i64 a1, .slice B2 a2.length d2])
  have hsz : (w.alloc (.cells #[.string a0, .int .i64 a1, .slice A2 a2.length c2] 79)).heap.size = w.heap.size + 1 := by simp
  have E2 := Lib.hid (fun w1 (hb : Below w.heap.size w w1) => eqStr a2 f1 f2 (.slice A2 a2.length c2) (.slice B2 a2.length d2) w1 (l2.below hb) (r2.below hb))
  have p0 := HB2.out.cell (j := 0) rfl
  have p1 := HB2.out.cell (j := 1) rfl
  have p2 := HB2.out.cell (j := 2) rfl
  have q0 := HB3.out.cell (j := 0) rfl
  have q1 := HB3.out.cell (j := 1) rfl
  have q2 := HB3.out.cell (j := 2) rfl
  rw [hsz] at q0 q1 q2
  have hq := HB3.out.2
  rw [hsz] at hq
  have Hq := Lib.hid hq
  have Hp := Lib.hid HB2.out.2
  have Hbb := Lib.hid HB2.out.1
  clear h1 h2 hwf hwf2 HB1 HB2 HB3 hq hsz l2 r2 k2 m2 k2_ m2_
  go_enter Tryd.func62, Tryd.ntmps62
  go_wp2_with fail
  refine (E2.out _ Hbb.out).mono ?_
  rintro e y2 ⟨rfl, b2⟩
  have Hbb2 := Lib.hid (Hbb.out.trans (b2.mono Hbb.out.size))
  clear p0 p1 p2 q0 q1 q2
  clear b2
  go_wp2_with fail
  go_ret
  exact ⟨rfl, Hbb2.out⟩
end Go.Proofs.YtcfbkfmkjggcdaaDoor.ty
namespace Go.Proofs.YtcfbkfmkjggcdaaDoor.ty
open Go.ChangeShapes Go.WideShapes Go.ChangeAt Go.RowKit
set_option linter.unusedVariables false

set_option maxRecDepth 100000 in
theorem eqNeedS (l : List Need) (f1 f2 : Nat) (v1 v2 : Value) (w : World) (h1 : Lies w f1 v1 (.sl 3 l.length (l.flatMap Need.row))) (h2 : Lies w f2 v2 (.sl 3 l.length (l.flatMap Need.row))) :
    Calls Tryd.prog 31 #[v1, v2] w fun e w' => e = .returned (.bool true) ∧ Below w.heap.size w w' := by
  obtain ⟨A1, c1, rfl, hc1, hm1, f', rfl, hk1⟩ := els_of Need.row_length h1
  obtain ⟨A2, c2, rfl, hc2, hm2, f'', rfl, hk2⟩ := els_of Need.row_length h2
  unfold maxLen at hm1 hm2
  have Hk1 := Lib.hid hk1
  have Hk2 := Lib.hid hk2
  clear h1 h2 hk1 hk2
  go_enter Tryd.func31, Tryd.ntmps31
  go_wp2_with fail
  go_loopw [5] (fun i wr => ∃ (j : Nat), j ≤ l.length ∧ i = .int .i64 j ∧ Below w.heap.size w wr) (fun i _ => l.length - (intOf i).toNat)
  case atStart => exact ⟨0, Nat.zero_le _, rfl, Below.refl _ _⟩
  case round =>
    obtain ⟨j, hj, rfl, hbel⟩ := hrel
    by_cases hlt : j < l.length
    · obtain ⟨g1, o1, rfl, hg1, us, hus1, hcc1, hls1⟩ := (Hk1.out.below hbel).get hlt
      obtain ⟨g2, o2, rfl, hg2, us2, hus2, hcc2, hls2⟩ := (Hk2.out.below hbel).get hlt
      have HC := Lib.hid (fun w1 (hb : Below wr.heap.size wr w1) => eqNeed l[j] _ _ us us2 w1 (hls1.kept hb.block) (hls2.kept hb.block))
      obtain ⟨A2, c2, rfl, hwf, k2, m2, l2⟩ := Need.opened hls1
      obtain ⟨B2, d2, rfl, hwf2, k2_, m2_, r2⟩ := Need.opened hls2
      have q0 : wr.cell? ⟨g1, o1 + j * 3, none⟩ = some (.string l[j].key) := hcc1 0 _ rfl
      have q1 : wr.cell? ⟨g1, o1 + j * 3 + 1, none⟩ = some (.int .i64 l[j].op) := hcc1 1 _ rfl
      have q2 : wr.cell? ⟨g1, o1 + j * 3 + 2, none⟩ = some (.slice A2 l[j].values.length c2) := hcc1 2 _ rfl
      have s0 : wr.cell? ⟨g2, o2 + j * 3, none⟩ = some (.string l[j].key) := hcc2 0 _ rfl
      have s1 : wr.cell? ⟨g2, o2 + j * 3 + 1, none⟩ = some (.int .i64 l[j].op) := hcc2 1 _ rfl
      have s2 : wr.cell? ⟨g2, o2 + j * 3 + 2, none⟩ = some (.slice B2 l[j].values.length d2) := hcc2 2 _ rfl
      have Hbel := Lib.hid hbel
      clear hls1 hls2 hbel hg1 hg2 hus1 hus2 hcc1 hcc2 hwf hwf2 l2 r2 k2 m2 k2_ m2_
      generalize l[j] = x at HC q0 s0 q1 s1 q2 s2
      go_wp2_with fail
      go_region_law (go_simp; go_at_call 62; refine (HC.out _ (Below.refl _ _).drew).mono ?_; rintro e w1 ⟨rfl, hb1⟩)
      all_goals
        have hbel1 := Hbel.out.trans (((Below.refl _ _).drew.trans (hb1.mono (Nat.le_refl _))).mono Hbel.out.size)
        clear hb1 q0 s0 q1 s1 q2 s2
        go_wp2_with fail
        go_roundw
        case rel => exact ⟨j + 1, by omega, by go_num, hbel1⟩
        case measure => simp [intOf]; omega
    · obtain rfl : j = l.length := by omega
      have Hbel := Lib.hid hbel
      clear hbel
      go_wp2_with fail
      go_ret
      exact ⟨rfl, Hbel.out⟩
end Go.Proofs.YtcfbkfmkjggcdaaDoor.ty
namespace Go.Proofs.YtcfbkfmkjggcdaaDoor.ty
open Go.ChangeShapes Go.WideShapes Go.ChangeAt Go.RowKit
set_option linter.unusedVariables false

theorem eqTolerance (x : Tolerance) (w : World) :
    Calls Tryd.prog 63 #[.agg #[.string x.key, .bool x.equal, .string x.value, .int .i64 x.effect], .agg #[.string x.key, .bool x.equal, .string x.value, .int .i64 x.effect]] w fun e w' => e = .returned (.bool true) ∧ Below w.heap.size w w' := by
  obtain ⟨a0, a1, a2, a3⟩ := x
  simp only
  have Hb : Hid (∀ (a b : Obj), Below w.heap.size w ((w.alloc a).alloc b)) := fun a b => ((Below.refl _ _).alloc (Nat.le_refl _) a).alloc (by simp) b
  go_enter Tryd.func63, Tryd.ntmps63
  go_wp2_with fail
  go_ret
  exact ⟨rfl, Hb.out _ _⟩
end Go.Proofs.YtcfbkfmkjggcdaaDoor.ty
namespace Go.Proofs.YtcfbkfmkjggcdaaDoor.ty
open Go.ChangeShapes Go.WideShapes Go.ChangeAt Go.RowKit
set_option linter.unusedVariables false

set_option maxRecDepth 100000 in
theorem eqToleranceS (l : List Tolerance) (f1 f2 : Nat) (v1 v2 : Value) (w : World) (h1 : Lies w f1 v1 (.sl 4 l.length (l.flatMap Tolerance.row))) (h2 : Lies w f2 v2 (.sl 4 l.length (l.flatMap Tolerance.row))) :
    Calls Tryd.prog 32 #[v1, v2] w fun e w' => e = .returned (.bool true) ∧ Below w.heap.size w w' := by
  obtain ⟨A1, c1, rfl, hc1, hm1, f', rfl, hk1⟩ := els_of Tolerance.row_length h1
  obtain ⟨A2, c2, rfl, hc2, hm2, f'', rfl, hk2⟩ := els_of Tolerance.row_length h2
  unfold maxLen at hm1 hm2
  have Hk1 := Lib.hid hk1
  have Hk2 := Lib.hid hk2
  clear h1 h2 hk1 hk2
  go_enter Tryd.func32, Tryd.ntmps32
  go_wp2_with fail
  go_loopw [5] (fun i wr => ∃ (j : Nat), j ≤ l.length ∧ i = .int .i64 j ∧ Below w.heap.size w wr) (fun i _ => l.length - (intOf i).toNat)
  case atStart => exact ⟨0, Nat.zero_le _, rfl, Below.refl _ _⟩
  case round =>
    obtain ⟨j, hj, rfl, hbel⟩ := hrel
    by_cases hlt : j < l.length
    · obtain ⟨g1, o1, rfl, hg1, us, hus1, hcc1, hls1⟩ := (Hk1.out.below hbel).get hlt
      obtain ⟨g2, o2, rfl, hg2, us2, hus2, hcc2, hls2⟩ := (Hk2.out.below hbel).get hlt
      obtain ⟨rfl, hwf1⟩ := Tolerance.opened hls1
      obtain ⟨rfl, hwf2⟩ := Tolerance.opened hls2
      have q0 : wr.cell? ⟨g1, o1 + j * 4, none⟩ = some (.string l[j].key) := hcc1 0 _ rfl
      have q1 : wr.cell? ⟨g1, o1 + j * 4 + 1, none⟩ = some (.bool l[j].equal) := hcc1 1 _ rfl
      have q2 : wr.cell? ⟨g1, o1 + j * 4 + 2, none⟩ = some (.string l[j].value) := hcc1 2 _ rfl
      have q3 : wr.cell? ⟨g1, o1 + j * 4 + 3, none⟩ = some (.int .i64 l[j].effect) := hcc1 3 _ rfl
      have r0 : wr.cell? ⟨g2, o2 + j * 4, none⟩ = some (.string l[j].key) := hcc2 0 _ rfl
      have r1 : wr.cell? ⟨g2, o2 + j * 4 + 1, none⟩ = some (.bool l[j].equal) := hcc2 1 _ rfl
      have r2 : wr.cell? ⟨g2, o2 + j * 4 + 2, none⟩ = some (.string l[j].value) := hcc2 2 _ rfl
      have r3 : wr.cell? ⟨g2, o2 + j * 4 + 3, none⟩ = some (.int .i64 l[j].effect) := hcc2 3 _ rfl
      have HC := Lib.hid (fun w1 => eqTolerance l[j] w1)
      have Hbel := Lib.hid hbel
      clear hls1 hls2 hbel hg1 hg2 hus1 hus2 hcc1 hcc2 hwf1 hwf2
      generalize l[j] = x at HC q0 q1 q2 q3 r0 r1 r2 r3
      go_wp2_with fail
      go_region_law (go_simp; go_at_call 63; refine (HC.out _).mono ?_; rintro e w1 ⟨rfl, hb1⟩)
      all_goals
        have hbel1 := Hbel.out.trans (((Below.refl _ _).drew.trans (hb1.mono (Nat.le_refl _))).mono Hbel.out.size)
        clear hb1 q0 q1 q2 q3 r0 r1 r2 r3
        go_wp2_with fail
        go_roundw
        case rel => exact ⟨j + 1, by omega, by go_num, hbel1⟩
        case measure => simp [intOf]; omega
    · obtain rfl : j = l.length := by omega
      have Hbel := Lib.hid hbel
      clear hbel
      go_wp2_with fail
      go_ret
      exact ⟨rfl, Hbel.out⟩
end Go.Proofs.YtcfbkfmkjggcdaaDoor.ty
namespace Go.Proofs.YtcfbkfmkjggcdaaDoor.ty
open Go.ChangeShapes Go.WideShapes Go.ChangeAt Go.RowKit
set_option linter.unusedVariables false

theorem eqPod (x : Pod) (f1 f2 : Nat) (vs us : List Value) (w : World) (h1 : LiesS w f1 vs x.row) (h2 : LiesS w f2 us x.row) :
    Calls Tryd.prog 9 #[.agg vs.toArray, .agg us.toArray] w fun e w' => e = .returned (.bool true) ∧ Below w.heap.size w w' := by
  obtain ⟨a0, a1, a2, a3, a4, a5, a6⟩ := x
  obtain ⟨A1, c1, A5, c5, A6, c6, rfl, hwf, k1, m1, l1, k5, m5, l5, k6, m6, l6⟩ := Pod.opened h1
  obtain ⟨B1, d1, B5, d5, B6, d6, rfl, hwf2, k1_, m1_, r1, k5_, m5_, r5, k6_, m6_, r6⟩ := Pod.opened h2
  simp only at *
  have HB1 := Lib.hid (Box.new 33 w [.string a0, .slice A1 a1.length c1, .int .i64 a2, .int .i64 a3, .int .i64 a4, .slice A5 a5.length c5, .slice A6 a6.length c6])
  have HB2 := Lib.hid (HB1.out.below ((Below.refl _ _).alloc (Nat.le_refl _) (.cells #[.string a0, .slice B1 a1.length d1, .int .i64 a2, .int .i64 a3, .int .i64 a4, .slice B5 a5.length d5, .slice B6 a6.length d6] 33)))
  have HB3 := Lib.hid (Box.new 33 (w.alloc (.cells #[.string a0, .slice A1 a1.length c1, .int .i64 a2, .int .i64 a3, .int .i64 a4, .slice A5 a5.length c5, .slice A6 a6.length c6] 33)) [.string a0, .slice B1 a1.length d1, .int .i64 a2, .int .i64 a3, .int .i64 a4, .slice B5 a5.length d5, .slice B6 a6.length d6])
  have hsz : (w.alloc (.cells #[.string a0, .slice A1 a1.length c1, .int .i64 a2, .int .i64 a3, .int .i64 a4, .slice A5 a5.length c5, .slice A6 a6.length c6] 33)).heap.size = w.heap.size + 1 := by simp
  have E1 := Lib.hid (fun w1 (hb : Below w.heap.size w w1) => eqLabelS a1 f1 f2 (.slice A1 a1.length c1) (.slice B1 a1.length d1) w1 (l1.below hb) (r1.below hb))
  have E5 := Lib.hid (fun w1 (hb : Below w.heap.size w w1) => eqNeedS a5 f1 f2 (.slice A5 a5.length c5) (.slice B5 a5.length d5) w1 (l5.below hb) (r5.below hb))
  have E6 := Lib.hid (fun w1 (hb : Below w.heap.size w w1) => eqToleranceS a6 f1 f2 (.slice A6 a6.length c6) (.slice B6 a6.length d6) w1 (l6.below hb) (r6.below hb))
  have p0 := HB2.out.cell (j := 0) rfl
  have p1 := HB2.out.cell (j := 1) rfl
  have p2 := HB2.out.cell (j := 2) rfl
  have p3 := HB2.out.cell (j := 3) rfl
  have p4 := HB2.out.cell (j := 4) rfl
  have p5 := HB2.out.cell (j := 5) rfl
  have p6 := HB2.out.cell (j := 6) rfl
  have q0 := HB3.out.cell (j := 0) rfl
  have q1 := HB3.out.cell (j := 1) rfl
  have q2 := HB3.out.cell (j := 2) rfl
  have q3 := HB3.out.cell (j := 3) rfl
  have q4 := HB3.out.cell (j := 4) rfl
  have q5 := HB3.out.cell (j := 5) rfl
  have q6 := HB3.out.cell (j := 6) rfl
  rw [hsz] at q0 q1 q2 q3 q4 q5 q6
  have hq := HB3.out.2
  rw [hsz] at hq
  have Hq := Lib.hid hq
  have Hp := Lib.hid HB2.out.2
  have Hbb := Lib.hid HB2.out.1
  clear h1 h2 hwf hwf2 HB1 HB2 HB3 hq hsz l1 r1 k1 m1 k1_ m1_ l5 r5 k5 m5 k5_ m5_ l6 r6 k6 m6 k6_ m6_
  go_enter Tryd.func9, Tryd.ntmps9
  go_wp2_with fail
  refine (E1.out _ Hbb.out).mono ?_
  rintro e y1 ⟨rfl, b1⟩
  have Hbb1 := Lib.hid (Hbb.out.trans (b1.mono Hbb.out.size))
  clear p0 p1 p2 p3 p4 p5 p6 q0 q1 q2 q3 q4 q5 q6
  have Hp1 := Lib.hid (heap_kept b1 (heap_lt Hp.out) Hp.out)
  have Hq1 := Lib.hid (heap_kept b1 (heap_lt Hq.out) Hq.out)
  have p2_1 : y1.cell? ⟨w.heap.size, 2, none⟩ = some (.int .i64 a2) := by rw [cell_of_row _ _ 2 _ _ _ Hp1.out]; rfl
  have q2_1 : y1.cell? ⟨w.heap.size + 1, 2, none⟩ = some (.int .i64 a2) := by rw [cell_of_row _ _ 2 _ _ _ Hq1.out]; rfl
  have p3_1 : y1.cell? ⟨w.heap.size, 3, none⟩ = some (.int .i64 a3) := by rw [cell_of_row _ _ 3 _ _ _ Hp1.out]; rfl
  have q3_1 : y1.cell? ⟨w.heap.size + 1, 3, none⟩ = some (.int .i64 a3) := by rw [cell_of_row _ _ 3 _ _ _ Hq1.out]; rfl
  have p4_1 : y1.cell? ⟨w.heap.size, 4, none⟩ = some (.int .i64 a4) := by rw [cell_of_row _ _ 4 _ _ _ Hp1.out]; rfl
  have q4_1 : y1.cell? ⟨w.heap.size + 1, 4, none⟩ = some (.int .i64 a4) := by rw [cell_of_row _ _ 4 _ _ _ Hq1.out]; rfl
  have p5_1 : y1.cell? ⟨w.heap.size, 5, none⟩ = some (.slice A5 a5.length c5) := by rw [cell_of_row _ _ 5 _ _ _ Hp1.out]; rfl
  have q5_1 : y1.cell? ⟨w.heap.size + 1, 5, none⟩ = some (.slice B5 a5.length d5) := by rw [cell_of_row _ _ 5 _ _ _ Hq1.out]; rfl
  have p6_1 : y1.cell? ⟨w.heap.size, 6, none⟩ = some (.slice A6 a6.length c6) := by rw [cell_of_row _ _ 6 _ _ _ Hp1.out]; rfl
  have q6_1 : y1.cell? ⟨w.heap.size + 1, 6, none⟩ = some (.slice B6 a6.length d6) := by rw [cell_of_row _ _ 6 _ _ _ Hq1.out]; rfl
  clear b1
  go_wp2_with fail
  refine (E5.out _ Hbb1.out).mono ?_
  rintro e y5 ⟨rfl, b5⟩
  have Hbb5 := Lib.hid (Hbb1.out.trans (b5.mono Hbb1.out.size))
  clear p2_1 q2_1 p3_1 q3_1 p4_1 q4_1 p5_1 q5_1 p6_1 q6_1
  have Hp5 := Lib.hid (heap_kept b5 (heap_lt Hp1.out) Hp1.out)
  have Hq5 := Lib.hid (heap_kept b5 (heap_lt Hq1.out) Hq1.out)
  have p6_5 : y5.cell? ⟨w.heap.size, 6, none⟩ = some (.slice A6 a6.length c6) := by rw [cell_of_row _ _ 6 _ _ _ Hp5.out]; rfl
  have q6_5 : y5.cell? ⟨w.heap.size + 1, 6, none⟩ = some (.slice B6 a6.length d6) := by rw [cell_of_row _ _ 6 _ _ _ Hq5.out]; rfl
  clear b5
  go_wp2_with fail
  refine (E6.out _ Hbb5.out).mono ?_
  rintro e y6 ⟨rfl, b6⟩
  have Hbb6 := Lib.hid (Hbb5.out.trans (b6.mono Hbb5.out.size))
  clear p6_5 q6_5
  clear b6
  go_wp2_with fail
  go_ret
  exact ⟨rfl, Hbb6.out⟩
end Go.Proofs.YtcfbkfmkjggcdaaDoor.ty
namespace Go.Proofs.YtcfbkfmkjggcdaaDoor.need
open Go Go.RowKit ty lab dedup
set_option linter.unusedVariables false

/-- What slices.Compare gives. -/
def cmpV : List ByteArray → List ByteArray → Int
  | [], [] => 0
  | [], _ :: _ => -1
  | _ :: _, [] => 1
  | a :: x, b :: y => if cmpB a b = 0 then cmpV x y else cmpB a b
theorem cmpV_at : ∀ {a b : List ByteArray} {k : Nat} (h1 : k < a.length) (h2 : k < b.length), (∀ j (hj : j < k), (a[j]'(by omega)) = (b[j]'(by omega))) → cmpB a[k] b[k] ≠ 0 → cmpV a b = cmpB a[k] b[k]
  | [], _, _, h, _, _, _ => by simp at h
  | _ :: _, [], _, _, h, _, _ => by simp at h
  | x :: a, y :: b, 0, _, _, _, hne => by
    rw [cmpV, if_neg (by simpa using hne)]; rfl
  | x :: a, y :: b, k + 1, h1, h2, he, hne => by
    have h0 : x = y := he 0 (by omega)
    rw [cmpV, if_pos (by rw [h0]; exact cmpB_self _)]
    exact cmpV_at (k := k) (by simpa using h1) (by simpa using h2) (fun j hj => by have := he (j + 1) (by omega); simpa using this) (by simpa using hne)
theorem cmpV_end : ∀ {a b : List ByteArray}, (∀ j (h1 : j < a.length) (h2 : j < b.length), a[j] = b[j]) → cmpV a b = if b.length < a.length then 1 else if a.length < b.length then -1 else 0
  | [], [], _ => rfl
  | [], _ :: _, _ => by simp [cmpV]
  | _ :: _, [], _ => by simp [cmpV]
  | x :: a, y :: b, h => by
    have h0 : x = y := h 0 (by simp) (by simp)
    rw [cmpV, if_pos (by rw [h0]; exact cmpB_self _), cmpV_end (a := a) (b := b) (fun j h1 h2 => by have := h (j + 1) (by simpa using h1) (by simpa using h2); simpa using this)]
    simp
theorem cmpV_way : ∀ a b : List ByteArray, cmpV a b = 0 ∧ a = b ∨ cmpV a b < 0 ∧ a ≠ b ∧ lessV a b = true ∨ 0 < cmpV a b ∧ a ≠ b ∧ lessV a b = false
  | [], [] => .inl ⟨rfl, rfl⟩
  | [], _ :: _ => .inr (.inl ⟨by rw [cmpV]; decide, by simp, rfl⟩)
  | _ :: _, [] => .inr (.inr ⟨by rw [cmpV]; decide, by simp, rfl⟩)
  | a :: x, b :: y => by
    rw [cmpV, lessV]
    rcases cmpB_way a b with ⟨h1, h2⟩ | ⟨h1, h2, h3⟩ | ⟨h1, h2, h3⟩
    · rw [if_pos h1, if_pos h2]
      subst h2
      rcases cmpV_way x y with ⟨g1, g2⟩ | ⟨g1, g2, g3⟩ | ⟨g1, g2, g3⟩
      · exact .inl ⟨g1, by rw [g2]⟩
      · exact .inr (.inl ⟨g1, by simpa using g2, g3⟩)
      · exact .inr (.inr ⟨g1, by simpa using g2, g3⟩)
    · rw [if_neg (by omega), if_neg h2]
      exact .inr (.inl ⟨h1, by simp [h2], h3⟩)
    · rw [if_neg (by omega), if_neg h2]
      exact .inr (.inr ⟨h1, by simp [h2], h3⟩)
def cmpN (a b : Need) : Int := orI (cmpB a.key b.key) (arith.cmpF a.op b.op) (cmpV a.values b.values)
theorem need_ext {a b : Need} (h1 : a.key = b.key) (h2 : a.op = b.op) (h3 : a.values = b.values) : a = b := by
  cases a; cases b
  simp only at h1 h2 h3
  rw [h1, h2, h3]
theorem cmpN_way (a b : Need) : cmpN a b = 0 ∧ a = b ∨ cmpN a b < 0 ∧ a ≠ b ∧ lessN a b = true ∨ 0 < cmpN a b ∧ a ≠ b ∧ lessN a b = false := by
  unfold cmpN lessN orI arith.cmpF
  rcases cmpB_way a.key b.key with ⟨h1, h2⟩ | ⟨h1, h2, h3⟩ | ⟨h1, h2, h3⟩
  · rw [if_pos h1, if_pos h2]
    by_cases ho : a.op = b.op
    · rw [if_neg (show ¬ a.op < b.op by omega), if_neg (show ¬ b.op < a.op by omega), if_pos rfl, if_pos ho]
      rcases cmpV_way a.values b.values with ⟨g1, g2⟩ | ⟨g1, g2, g3⟩ | ⟨g1, g2, g3⟩
      · exact .inl ⟨g1, need_ext h2 ho g2⟩
      · exact .inr (.inl ⟨g1, fun e => g2 (by rw [e]), g3⟩)
      · exact .inr (.inr ⟨g1, fun e => g2 (by rw [e]), g3⟩)
    · rw [if_neg ho]
      by_cases h : a.op < b.op
      · rw [if_pos h]
        exact .inr (.inl ⟨by rw [if_neg (by omega)]; omega, fun e => ho (by rw [e]), decide_eq_true h⟩)
      · rw [if_neg h, if_pos (show b.op < a.op by omega)]
        exact .inr (.inr ⟨by rw [if_neg (by omega)]; omega, fun e => ho (by rw [e]), decide_eq_false h⟩)
  · rw [if_neg (by omega), if_neg h2]
    exact .inr (.inl ⟨h1, fun e => h2 (by rw [e]), h3⟩)
  · rw [if_neg (by omega), if_neg h2]
    exact .inr (.inr ⟨h1, fun e => h2 (by rw [e]), h3⟩)
theorem cmpN_less (a b : Need) : decide (cmpN a b < 0) = lessN a b := by
  rcases cmpN_way a b with ⟨h1, h2⟩ | ⟨h1, _, h3⟩ | ⟨h1, _, h3⟩
  · subst h2; rw [h1, lessN_irr]; rfl
  · rw [h3]; exact decide_eq_true h1
  · rw [h3]; exact decide_eq_false (by omega)
theorem cmpN_zero (a b : Need) : decide (cmpN a b = 0) = yes (a = b) := by
  rcases cmpN_way a b with ⟨h1, h2⟩ | ⟨h1, h2, h3⟩ | ⟨h1, h2, h3⟩
  · rw [yes_t h2]; exact decide_eq_true h1
  · rw [yes_f h2]; exact decide_eq_false (by omega)
  · rw [yes_f h2]; exact decide_eq_false (by omega)
end Go.Proofs.YtcfbkfmkjggcdaaDoor.need
