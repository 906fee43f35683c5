/- Merged: ToHost InTaintI CopyHS MkTaintS MkHost HdTaintS. -/
import Derived.Test.YtcfbkfmkjggcdaaGreatDoorGA4
import Derived.Test.YtcfbkfmkjggcdaaGreatDoorGA6
import Derived.Test.YtcfbkfmkjggcdaaGreatDoorGA7
import Derived.Test.YtcfbkfmkjggcdaaGreatDoorGA25
import Derived.Test.YtcfbkfmkjggcdaaGreatDoorRows
import Derived.ProofKit
import Derived.OpenShut
import Derived.Deep.WholeRow
import Derived.Test.YtcfbkfmkjggcdaaGreatDoorGA1
import Derived.Test.YtcfbkfmkjggcdaaGreatDoorGA2
import Derived.Test.YtcfbkfmkjggcdaaGreatDoorGA8
namespace Go.Proofs.YtcfbkfmkjggcdaaGreatDoor.ty
open Go.ChangeShapes Go.WideShapes Go.ChangeAt Go.RowKit
set_option linter.unusedVariables false

theorem sizeHost : (Tryz.prog.info? 32).map (·.size) = some 6 := by kernel_rfl
set_option maxRecDepth 100000 in
set_option maxHeartbeats 16000000 in
theorem toHost (x : Host) (f : Nat) (vs : List Value) (w : World) (h : LiesS w f vs x.row) (hw : x.wt ≤ 1048576) :
    Calls Tryz.prog 26 #[.agg vs.toArray] w fun e w' => AggOut w 2 x.row e w' := by
  obtain ⟨a0, a1, a2, a3, a4, a5⟩ := x
  obtain ⟨A1, c1, A5, c5, rfl, hwf, k1, m1, l1, k5, m5, l5⟩ := Host.opened h
  unfold Host.wt at hw
  simp only at hw hwf k1 m1 l1 k5 m5 l5
  obtain ⟨w1, hw1⟩ : ∃ w1, w1 = ((w.alloc (.cells #[.string a0, .slice A1 a1.length c1, .int .i64 a2, .int .i64 a3, .int .i64 a4, .slice A5 a5.length c5] 56)).alloc (.cells #[.string ⟨#[]⟩, .slice none 0 0, .int .i64 0, .int .i64 0, .int .i64 0, .slice none 0 0] 32)).alloc (.cells #[.string a0, .slice none 0 0, .int .i64 0, .int .i64 0, .int .i64 0, .slice none 0 0] 32) := ⟨_, rfl⟩
  have S0 := Lib.hid (show St3 56 32 w [.string a0, .slice A1 a1.length c1, .int .i64 a2, .int .i64 a3, .int .i64 a4, .slice A5 a5.length c5] [.string ⟨#[]⟩, .slice none 0 0, .int .i64 0, .int .i64 0, .int .i64 0, .slice none 0 0] [.string a0, .slice none 0 0, .int .i64 0, .int .i64 0, .int .i64 0, .slice none 0 0] w1 by rw [hw1]; exact St3.new)
  have T1 := Lib.hid (fun w1 (hb : Below w.heap.size w w1) => toLabelS a1 f (.slice A1 a1.length c1) w1 (l1.below hb) (by omega))
  have T5 := Lib.hid (fun w1 (hb : Below w.heap.size w w1) => toTaintS a5 f (.slice A5 a5.length c5) w1 (l5.below hb) (by omega))
  have Hwf := Lib.hid hwf
  have Hw1 := Lib.hid hw1
  clear h hw hwf hw1 k1 m1 l1 k5 m5 l5
  go_enter Tryz.func26, Tryz.ntmps26
  go_wp2_with fail
  rw [← Hw1.out]
  clear Hw1
  refine (T1.out _ S0.out.bel).mono ?_
  rintro e y1 ⟨v1, rfl, r1, b1⟩
  obtain ⟨B1, d1, rfl⟩ := r1.is_slice
  obtain ⟨F1, o1, n1, g1⟩ := r1.own
  have O1_0 : Og y1 w1.heap.size y1.heap.size 2 (.slice B1 a1.length d1) (.sl 2 a1.length (a1.flatMap Label.row)) F1 := ⟨o1, n1, g1⟩
  have Hlt1 := Lib.hid S0.out.lt
  have hlt1 := S0.out.lt
  have Hs1 := Lib.hid (show w1.heap.size ≤ y1.heap.size from b1.size)
  have S1_0 := S0.out.call b1
  have p1_0 : (y1).cell? ⟨w.heap.size + 2, 1, none⟩ = some (.slice none 0 0) := S1_0.k2.cell 1 _ rfl
  have f1_0 := RowE.frozen S1_0.k2 1
  have S1_1 : St3 56 32 w [.string a0, .slice A1 a1.length c1, .int .i64 a2, .int .i64 a3, .int .i64 a4, .slice A5 a5.length c5] [.string ⟨#[]⟩, .slice none 0 0, .int .i64 0, .int .i64 0, .int .i64 0, .slice none 0 0] [.string a0, .slice B1 a1.length d1, .int .i64 0, .int .i64 0, .int .i64 0, .slice none 0 0] ((y1).setCell ⟨w.heap.size + 2, 1, none⟩ (.slice B1 a1.length d1)) := S1_0.put 1 (.slice B1 a1.length d1)
  have O1_1 := Og.put (j := 1) (u := .slice B1 a1.length d1) O1_0 (show w.heap.size + 2 < _ by omega)
  have p1_1 : ((y1).setCell ⟨w.heap.size + 2, 1, none⟩ (.slice B1 a1.length d1)).cell? ⟨w.heap.size + 2, 2, none⟩ = some (.int .i64 0) := S1_1.k2.cell 2 _ rfl
  have f1_1 := RowE.frozen S1_1.k2 2
  have q1_1 : ((y1).setCell ⟨w.heap.size + 2, 1, none⟩ (.slice B1 a1.length d1)).cell? ⟨w.heap.size, 2, none⟩ = some (.int .i64 a2) := S1_1.k0.cell 2 _ rfl
  have S1_2 : St3 56 32 w [.string a0, .slice A1 a1.length c1, .int .i64 a2, .int .i64 a3, .int .i64 a4, .slice A5 a5.length c5] [.string ⟨#[]⟩, .slice none 0 0, .int .i64 0, .int .i64 0, .int .i64 0, .slice none 0 0] [.string a0, .slice B1 a1.length d1, .int .i64 a2, .int .i64 0, .int .i64 0, .slice none 0 0] (((y1).setCell ⟨w.heap.size + 2, 1, none⟩ (.slice B1 a1.length d1)).setCell ⟨w.heap.size + 2, 2, none⟩ (.int .i64 a2)) := S1_1.put 2 (.int .i64 a2)
  have O1_2 := Og.put (j := 2) (u := .int .i64 a2) O1_1 (show w.heap.size + 2 < _ by omega)
  have p1_2 : (((y1).setCell ⟨w.heap.size + 2, 1, none⟩ (.slice B1 a1.length d1)).setCell ⟨w.heap.size + 2, 2, none⟩ (.int .i64 a2)).cell? ⟨w.heap.size + 2, 3, none⟩ = some (.int .i64 0) := S1_2.k2.cell 3 _ rfl
  have f1_2 := RowE.frozen S1_2.k2 3
  have q1_2 : (((y1).setCell ⟨w.heap.size + 2, 1, none⟩ (.slice B1 a1.length d1)).setCell ⟨w.heap.size + 2, 2, none⟩ (.int .i64 a2)).cell? ⟨w.heap.size, 3, none⟩ = some (.int .i64 a3) := S1_2.k0.cell 3 _ rfl
  have S1_3 : St3 56 32 w [.string a0, .slice A1 a1.length c1, .int .i64 a2, .int .i64 a3, .int .i64 a4, .slice A5 a5.length c5] [.string ⟨#[]⟩, .slice none 0 0, .int .i64 0, .int .i64 0, .int .i64 0, .slice none 0 0] [.string a0, .slice B1 a1.length d1, .int .i64 a2, .int .i64 a3, .int .i64 0, .slice none 0 0] ((((y1).setCell ⟨w.heap.size + 2, 1, none⟩ (.slice B1 a1.length d1)).setCell ⟨w.heap.size + 2, 2, none⟩ (.int .i64 a2)).setCell ⟨w.heap.size + 2, 3, none⟩ (.int .i64 a3)) := S1_2.put 3 (.int .i64 a3)
  have O1_3 := Og.put (j := 3) (u := .int .i64 a3) O1_2 (show w.heap.size + 2 < _ by omega)
  have p1_3 : ((((y1).setCell ⟨w.heap.size + 2, 1, none⟩ (.slice B1 a1.length d1)).setCell ⟨w.heap.size + 2, 2, none⟩ (.int .i64 a2)).setCell ⟨w.heap.size + 2, 3, none⟩ (.int .i64 a3)).cell? ⟨w.heap.size + 2, 4, none⟩ = some (.int .i64 0) := S1_3.k2.cell 4 _ rfl
  have f1_3 := RowE.frozen S1_3.k2 4
  have q1_3 : ((((y1).setCell ⟨w.heap.size + 2, 1, none⟩ (.slice B1 a1.length d1)).setCell ⟨w.heap.size + 2, 2, none⟩ (.int .i64 a2)).setCell ⟨w.heap.size + 2, 3, none⟩ (.int .i64 a3)).cell? ⟨w.heap.size, 4, none⟩ = some (.int .i64 a4) := S1_3.k0.cell 4 _ rfl
  have S1_4 : St3 56 32 w [.string a0, .slice A1 a1.length c1, .int .i64 a2, .int .i64 a3, .int .i64 a4, .slice A5 a5.length c5] [.string ⟨#[]⟩, .slice none 0 0, .int .i64 0, .int .i64 0, .int .i64 0, .slice none 0 0] [.string a0, .slice B1 a1.length d1, .int .i64 a2, .int .i64 a3, .int .i64 a4, .slice none 0 0] (((((y1).setCell ⟨w.heap.size + 2, 1, none⟩ (.slice B1 a1.length d1)).setCell ⟨w.heap.size + 2, 2, none⟩ (.int .i64 a2)).setCell ⟨w.heap.size + 2, 3, none⟩ (.int .i64 a3)).setCell ⟨w.heap.size + 2, 4, none⟩ (.int .i64 a4)) := S1_3.put 4 (.int .i64 a4)
  have O1_4 := Og.put (j := 4) (u := .int .i64 a4) O1_3 (show w.heap.size + 2 < _ by omega)
  have qn1 : (((((y1).setCell ⟨w.heap.size + 2, 1, none⟩ (.slice B1 a1.length d1)).setCell ⟨w.heap.size + 2, 2, none⟩ (.int .i64 a2)).setCell ⟨w.heap.size + 2, 3, none⟩ (.int .i64 a3)).setCell ⟨w.heap.size + 2, 4, none⟩ (.int .i64 a4)).cell? ⟨w.heap.size, 5, none⟩ = some (.slice A5 a5.length c5) := S1_4.k0.cell 5 _ rfl
  have hE1 : (((((y1).setCell ⟨w.heap.size + 2, 1, none⟩ (.slice B1 a1.length d1)).setCell ⟨w.heap.size + 2, 2, none⟩ (.int .i64 a2)).setCell ⟨w.heap.size + 2, 3, none⟩ (.int .i64 a3)).setCell ⟨w.heap.size + 2, 4, none⟩ (.int .i64 a4)).heap.size = y1.heap.size := by simp only [size_setCell]
  obtain ⟨z1, hz1⟩ : ∃ z, ((((y1).setCell ⟨w.heap.size + 2, 1, none⟩ (.slice B1 a1.length d1)).setCell ⟨w.heap.size + 2, 2, none⟩ (.int .i64 a2)).setCell ⟨w.heap.size + 2, 3, none⟩ (.int .i64 a3)).setCell ⟨w.heap.size + 2, 4, none⟩ (.int .i64 a4) = z := ⟨_, rfl⟩
  rw [hz1] at S1_4 O1_4 hE1 qn1
  have S1 := Lib.hid S1_4
  have O1at1 := Lib.hid O1_4
  have HE1 := Lib.hid hE1
  clear r1 b1 o1 n1 g1 hE1 hlt1 S1_4 O1_4 S1_0 O1_0 S1_1 O1_1 S1_2 O1_2 S1_3 O1_3
  clear S0
  go_wp2_with fail
  clear p1_0 f1_0 p1_1 f1_1 q1_1 p1_2 f1_2 q1_2 p1_3 f1_3 q1_3 qn1 hz1
  refine (T5.out _ S1.out.bel).mono ?_
  rintro e y5 ⟨v5, rfl, r5, b5⟩
  obtain ⟨B5, d5, rfl⟩ := r5.is_slice
  obtain ⟨F5, o5, n5, g5⟩ := r5.own
  have O5_0 : Og y5 z1.heap.size y5.heap.size 2 (.slice B5 a5.length d5) (.sl 3 a5.length (a5.flatMap Taint.row)) F5 := ⟨o5, n5, g5⟩
  have Hlt5 := Lib.hid S1.out.lt
  have hlt5 := S1.out.lt
  have Hs5 := Lib.hid (show z1.heap.size ≤ y5.heap.size from b5.size)
  have S5_0 := S1.out.call b5
  have O1_5_0 := O1at1.out.call b5
  have p5_0 : (y5).cell? ⟨w.heap.size + 2, 5, none⟩ = some (.slice none 0 0) := S5_0.k2.cell 5 _ rfl
  have f5_0 := RowE.frozen S5_0.k2 5
  have S5_1 : St3 56 32 w [.string a0, .slice A1 a1.length c1, .int .i64 a2, .int .i64 a3, .int .i64 a4, .slice A5 a5.length c5] [.string ⟨#[]⟩, .slice none 0 0, .int .i64 0, .int .i64 0, .int .i64 0, .slice none 0 0] [.string a0, .slice B1 a1.length d1, .int .i64 a2, .int .i64 a3, .int .i64 a4, .slice B5 a5.length d5] ((y5).setCell ⟨w.heap.size + 2, 5, none⟩ (.slice B5 a5.length d5)) := S5_0.put 5 (.slice B5 a5.length d5)
  have O5_1 := Og.put (j := 5) (u := .slice B5 a5.length d5) O5_0 (show w.heap.size + 2 < _ by omega)
  have O1_5_1 := Og.put (j := 5) (u := .slice B5 a5.length d5) O1_5_0 (show w.heap.size + 2 < _ by have := Hlt1.out; omega)
  have hE5 : ((y5).setCell ⟨w.heap.size + 2, 5, none⟩ (.slice B5 a5.length d5)).heap.size = y5.heap.size := by simp only [size_setCell]
  obtain ⟨z5, hz5⟩ : ∃ z, (y5).setCell ⟨w.heap.size + 2, 5, none⟩ (.slice B5 a5.length d5) = z := ⟨_, rfl⟩
  rw [hz5] at S5_1 O5_1 O1_5_1 hE5
  have S5 := Lib.hid S5_1
  have O5at5 := Lib.hid O5_1
  have O1at5 := Lib.hid O1_5_1
  have HE5 := Lib.hid hE5
  clear r5 b5 o5 n5 g5 hE5 hlt5 S5_1 O5_1 O1_5_1 S5_0 O5_0 O1_5_0
  clear S1 O1at1
  have h52 := S5.out.k2
  have h51 := S5.out.k1
  unfold RowE at h51 h52
  go_wp2_with (first | (refine wpList_load_row rfl 32 _ rfl (w.heap.size + 2) rfl 32 #[.string a0, .slice B1 a1.length d1, .int .i64 a2, .int .i64 a3, .int .i64 a4, .slice B5 a5.length d5] (0, 0) _ h52 Tryz.underlying32 rfl sizeHost ?_) | (refine wpList_store_row rfl 32 _ _ rfl (w.heap.size + 1) #[.string a0, .slice B1 a1.length d1, .int .i64 a2, .int .i64 a3, .int .i64 a4, .slice B5 a5.length d5] rfl rfl 32 _ h51 sizeHost rfl (by simp [Value.oneCell']) ?_) | fail)
  obtain ⟨F, ho, hnd, _⟩ := Host.owned (x := ⟨a0, a1, a2, a3, a4, a5⟩) (f := 1) (w := z5.setRow (w.heap.size + 1) #[.string a0, .slice B1 a1.length d1, .int .i64 a2, .int .i64 a3, .int .i64 a4, .slice B5 a5.length d5]) Hwf.out (O1at5.out.done (f' := 2) (B' := w.heap.size) (c := #[.string a0, .slice B1 a1.length d1, .int .i64 a2, .int .i64 a3, .int .i64 a4, .slice B5 a5.length d5]) (show w.heap.size + 1 < _ by have := HE1.out; have := Hs1.out; have := Hlt1.out; have := HE5.out; have := Hs5.out; have := Hlt5.out; omega) (by have := HE1.out; have := Hs1.out; have := Hlt1.out; have := HE5.out; have := Hs5.out; have := Hlt5.out; omega) (by decide)) (O5at5.out.done (f' := 2) (B' := w.heap.size) (c := #[.string a0, .slice B1 a1.length d1, .int .i64 a2, .int .i64 a3, .int .i64 a4, .slice B5 a5.length d5]) (show w.heap.size + 1 < _ by have := HE1.out; have := Hs1.out; have := Hlt1.out; have := HE5.out; have := Hs5.out; have := Hlt5.out; omega) (by have := HE1.out; have := Hs1.out; have := Hlt1.out; have := HE5.out; have := Hs5.out; have := Hlt5.out; omega) (by decide)) O1at5.out.nod O5at5.out.nod (O1at5.out.apart O5at5.out (by have := HE1.out; have := Hs1.out; have := Hlt1.out; have := HE5.out; have := Hs5.out; have := Hlt5.out; omega))
  refine bodyPost_ret (v := .agg #[.string a0, .slice B1 a1.length d1, .int .i64 a2, .int .i64 a3, .int .i64 a4, .slice B5 a5.length d5]) ?_ rfl ⟨_, F, rfl, ho, hnd, setRow_below S5.out.bel (by omega) _⟩
  exact results_cell_row rfl _ _ (w.heap.size + 1) _ _ (0, 0) _ rfl (setRow_at h51) Tryz.underlying32 rfl sizeHost
end Go.Proofs.YtcfbkfmkjggcdaaGreatDoor.ty
namespace Go.Proofs.YtcfbkfmkjggcdaaGreatDoor.taint
open Go Go.RowKit
theorem TryzinfITaint : (Tryz.prog.info? 72).map (fun i => (i.zero, i.size, i.bytes)) = some (some (.agg #[.string ⟨#[]⟩, .string ⟨#[]⟩, .int .i64 0]), 3, 40) := by kernel_rfl
end Go.Proofs.YtcfbkfmkjggcdaaGreatDoor.taint
namespace Go.Proofs.YtcfbkfmkjggcdaaGreatDoor.pod
open Go.ChangeShapes Go.WideShapes Go.ChangeAt Go.RowKit ty lab taint
set_option linter.unusedVariables false
set_option maxRecDepth 100000 in
set_option maxHeartbeats 16000000 in
theorem spec_copyH (x : Host) (f : Nat) (us : List Value) (w : World) (h : LiesS w f us x.row) (hz : x.wt ≤ 1048576) :
    Calls Tryz.prog 47 #[.agg us.toArray] w fun e w' => AggOut w 2 x.row e w' := by
  obtain ⟨a0, a1, a2, a3, a4, a5⟩ := x
  obtain ⟨A1, c1, A5, c5, rfl, hwf, k1, m1, l1, k5, m5, l5⟩ := Host.opened h
  unfold Host.wt at hz
  simp only at hz hwf k1 m1 l1 k5 m5 l5
  obtain ⟨w1, hw1⟩ : ∃ w1, w1 = (w.alloc (.cells #[.string a0, .slice A1 a1.length c1, .int .i64 a2, .int .i64 a3, .int .i64 a4, .slice A5 a5.length c5] 32)).alloc (.cells #[.string ⟨#[]⟩, .slice none 0 0, .int .i64 0, .int .i64 0, .int .i64 0, .slice none 0 0] 32) := ⟨_, rfl⟩
  have S0 := Lib.hid (show St2 32 w [.string a0, .slice A1 a1.length c1, .int .i64 a2, .int .i64 a3, .int .i64 a4, .slice A5 a5.length c5] [.string ⟨#[]⟩, .slice none 0 0, .int .i64 0, .int .i64 0, .int .i64 0, .slice none 0 0] w1 by rw [hw1]; exact St2.new)
  have E1 := Lib.hid (show w1.heap.size = w.heap.size + 1 + 1 by rw [hw1]; simp)
  obtain ⟨i1, hi1, hza1, hzb1, hzc1⟩ := info_parts TryzinfoLab
  obtain ⟨_, hk1⟩ := els_at Label.row_length l1
  obtain ⟨hr1, hf1⟩ := rdk_of_els hk1
  have Hr1 := Lib.hid hr1
  have Hf1 := Lib.hid hf1
  clear hk1 hr1 hf1
  have hn1 : a1.length ≤ 1048576 := by omega
  obtain ⟨i5, hi5, hza5, hzb5, hzc5⟩ := info_parts TryzinfITaint
  obtain ⟨_, hk5⟩ := els_at Taint.row_length l5
  obtain ⟨hr5, hf5⟩ := rdk_Taint hk5
  have Hr5 := Lib.hid hr5
  have Hf5 := Lib.hid hf5
  clear hk5 hr5 hf5
  have hn5 : a5.length ≤ 1048576 := by omega
  have Hwf := Lib.hid hwf
  have Hw1 := Lib.hid hw1
  clear h hz hwf hw1 k1 m1 l1 k5 m5 l5
  go_enter Tryz.func47, Tryz.ntmps47
  obtain ⟨x1, hx1⟩ : ∃ x, x = w1.alloc (.cells #[] 65) := ⟨_, rfl⟩
  have hbx1 : Below w1.heap.size w1 x1 := by rw [hx1]; exact (Below.refl _ _).alloc (Nat.le_refl _) _
  have Hlit1 := Lib.hid (show x1.ownsRow w1.heap.size 65 2 (.slice (some ⟨w.heap.size + 1 + 1, 0, none⟩) 0 0) 0 [] by rw [← E1.out, hx1]; exact World.ownsRow_lit w1 #[] 0 (Nat.le_refl _) (by simp [maxLen]) rfl)
  have Sx1 := Lib.hid (S0.out.call hbx1)
  have Hbx1 := Lib.hid hbx1
  have Hx1 := Lib.hid hx1
  have Hrd1 := Lib.hid (Hr1.out.below Sx1.out.bel)
  have pc1 : (w1.alloc (.cells #[] 65)).cell? ⟨w.heap.size, 1, none⟩ = some (.slice A1 a1.length c1) := by rw [← Hx1.out]; exact Sx1.out.k0.cell 1 _ rfl
  clear hbx1 hx1
  go_wp2_with (first | (rw [← Hw1.out]; rw [← Hx1.out]; refine wpList_append_rdk rfl (.tmp 3) (.tmp 5) 24 rfl w1.heap.size 65 i1 _ 2 32 Tryz.underlying24 hi1 hza1 hzb1 hzc1 rfl (by decide) _ 0 [] rfl Hlit1.out A1 a1.length c1 (lvals a1) rfl Hrd1.out (lvals_ones _) (by unfold maxLen; omega) (by omega) Hbx1.out.size ?_) | fail)
  intro v1 y1 hown1 hg1 hat1
  try simp only [Nat.zero_add, List.nil_append] at hown1
  have hb1 : Below w1.heap.size w1 y1 := Hbx1.out.grown hg1 Hbx1.out.size (fun b hb => by simp [Value.ownBlock] at hb; have := E1.out; omega)
  obtain ⟨B1, d1, rfl⟩ := own_is_slice hown1
  obtain ⟨F1, o1, n1, g1⟩ := own_lvals hown1 Hf1.out
  clear hown1 hg1 hat1 pc1
  have O1_0 : Og y1 w1.heap.size y1.heap.size 2 (.slice B1 a1.length d1) (.sl 2 a1.length (a1.flatMap Label.row)) F1 := ⟨o1, n1, g1⟩
  have Hlt1 := Lib.hid S0.out.lt
  have Hs1 := Lib.hid (show w1.heap.size ≤ y1.heap.size from hb1.size)
  have S1_0 := S0.out.call hb1
  have p1_0 : (y1).cell? ⟨w.heap.size, 1, none⟩ = some (.slice A1 a1.length c1) := S1_0.k0.cell 1 _ rfl
  have f1_0 := RowE.frozen S1_0.k0 1
  have S1_1 : St2 32 w [.string a0, .slice B1 a1.length d1, .int .i64 a2, .int .i64 a3, .int .i64 a4, .slice A5 a5.length c5] [.string ⟨#[]⟩, .slice none 0 0, .int .i64 0, .int .i64 0, .int .i64 0, .slice none 0 0] ((y1).setCell ⟨w.heap.size, 1, none⟩ (.slice B1 a1.length d1)) := S1_0.put 1 (.slice B1 a1.length d1)
  have O1_1 := Og.put (j := 1) (u := .slice B1 a1.length d1) O1_0 (show w.heap.size < _ by have := Hlt1.out; omega)
  obtain ⟨z1, hz1⟩ : ∃ z, (y1).setCell ⟨w.heap.size, 1, none⟩ (.slice B1 a1.length d1) = z := ⟨_, rfl⟩
  have hE1 : ((y1).setCell ⟨w.heap.size, 1, none⟩ (.slice B1 a1.length d1)).heap.size = y1.heap.size := by simp only [size_setCell]
  rw [hz1] at S1_1 hE1 O1_1
  have S1 := Lib.hid S1_1
  have HE1 := Lib.hid hE1
  have O1at1 := Lib.hid O1_1
  clear hb1 o1 n1 g1 hE1 S1_0 S1_1 O1_1 O1_0
  obtain ⟨x5, hx5⟩ : ∃ x, x = z1.alloc (.cells #[] 72) := ⟨_, rfl⟩
  have hbx5 : Below z1.heap.size z1 x5 := by rw [hx5]; exact (Below.refl _ _).alloc (Nat.le_refl _) _
  have Hlit5 := Lib.hid (show x5.ownsRow z1.heap.size 72 3 (.slice (some ⟨z1.heap.size, 0, none⟩) 0 0) 0 [] by rw [hx5]; exact World.ownsRow_lit z1 #[] 0 (Nat.le_refl _) (by simp [maxLen]) rfl)
  have Sx5 := Lib.hid (S1.out.call hbx5)
  have Hbx5 := Lib.hid hbx5
  have Hx5 := Lib.hid hx5
  have Hrd5 := Lib.hid (Hr5.out.below Sx5.out.bel)
  have pc5 : (z1.alloc (.cells #[] 72)).cell? ⟨w.heap.size, 5, none⟩ = some (.slice A5 a5.length c5) := by rw [← Hx5.out]; exact Sx5.out.k0.cell 5 _ rfl
  clear hbx5 hx5
  go_wp2_with (first | (rw [← Hx5.out]; refine wpList_append_rdk rfl (.tmp 8) (.tmp 10) 30 rfl z1.heap.size 72 i5 _ 3 40 Tryz.underlying30 hi5 hza5 hzb5 hzc5 rfl (by decide) _ 0 [] rfl Hlit5.out A5 a5.length c5 (a5.flatMap Taint.cells) rfl Hrd5.out (flt.ones_flat Taint.cells_one _) (by unfold maxLen; omega) (by omega) Hbx5.out.size ?_) | fail)
  intro v5 y5 hown5 hg5 hat5
  try simp only [Nat.zero_add, List.nil_append] at hown5
  have hb5 : Below z1.heap.size z1 y5 := Hbx5.out.grown hg5 Hbx5.out.size (fun b hb => by simp [Value.ownBlock] at hb; have := E1.out; omega)
  obtain ⟨B5, d5, rfl⟩ := own_is_slice hown5
  obtain ⟨F5, o5, n5, g5⟩ := own_Taint hown5 Hf5.out
  clear hown5 hg5 hat5 pc5
  have O5_0 : Og y5 z1.heap.size y5.heap.size 2 (.slice B5 a5.length d5) (.sl 3 a5.length (a5.flatMap Taint.row)) F5 := ⟨o5, n5, g5⟩
  have Hlt5 := Lib.hid S1.out.lt
  have Hs5 := Lib.hid (show z1.heap.size ≤ y5.heap.size from hb5.size)
  have S5_0 := S1.out.call hb5
  have O1_5_0 := O1at1.out.call hb5
  have p5_0 : (y5).cell? ⟨w.heap.size, 5, none⟩ = some (.slice A5 a5.length c5) := S5_0.k0.cell 5 _ rfl
  have f5_0 := RowE.frozen S5_0.k0 5
  have S5_1 : St2 32 w [.string a0, .slice B1 a1.length d1, .int .i64 a2, .int .i64 a3, .int .i64 a4, .slice B5 a5.length d5] [.string ⟨#[]⟩, .slice none 0 0, .int .i64 0, .int .i64 0, .int .i64 0, .slice none 0 0] ((y5).setCell ⟨w.heap.size, 5, none⟩ (.slice B5 a5.length d5)) := S5_0.put 5 (.slice B5 a5.length d5)
  have O5_1 := Og.put (j := 5) (u := .slice B5 a5.length d5) O5_0 (show w.heap.size < _ by have := Hlt5.out; omega)
  have O1_5_1 := Og.put (j := 5) (u := .slice B5 a5.length d5) O1_5_0 (show w.heap.size < _ by have := Hlt1.out; omega)
  obtain ⟨z5, hz5⟩ : ∃ z, (y5).setCell ⟨w.heap.size, 5, none⟩ (.slice B5 a5.length d5) = z := ⟨_, rfl⟩
  have hE5 : ((y5).setCell ⟨w.heap.size, 5, none⟩ (.slice B5 a5.length d5)).heap.size = y5.heap.size := by simp only [size_setCell]
  rw [hz5] at S5_1 hE5 O5_1 O1_5_1
  have S5 := Lib.hid S5_1
  have HE5 := Lib.hid hE5
  have O5at5 := Lib.hid O5_1
  have O1at5 := Lib.hid O1_5_1
  clear hb5 o5 n5 g5 hE5 S5_0 S5_1 O5_1 O1_5_1 O5_0 O1_5_0 O1at1
  have h52 := S5.out.k0
  have h51 := S5.out.k1
  unfold RowE at h51 h52
  go_wp2_with (first | (refine wpList_load_row rfl 32 _ rfl w.heap.size rfl 32 #[.string a0, .slice B1 a1.length d1, .int .i64 a2, .int .i64 a3, .int .i64 a4, .slice B5 a5.length d5] (0, 0) _ h52 Tryz.underlying32 rfl sizeHost ?_) | (refine wpList_store_row rfl 32 _ _ rfl (w.heap.size + 1) #[.string a0, .slice B1 a1.length d1, .int .i64 a2, .int .i64 a3, .int .i64 a4, .slice B5 a5.length d5] rfl rfl 32 _ h51 sizeHost rfl (by simp [Value.oneCell']) ?_) | fail)
  obtain ⟨F, ho, hnd, _⟩ := Host.owned (x := ⟨a0, a1, a2, a3, a4, a5⟩) (f := 1) (w := z5.setRow (w.heap.size + 1) #[.string a0, .slice B1 a1.length d1, .int .i64 a2, .int .i64 a3, .int .i64 a4, .slice B5 a5.length d5]) Hwf.out (O1at5.out.done (f' := 2) (B' := w.heap.size) (c := #[.string a0, .slice B1 a1.length d1, .int .i64 a2, .int .i64 a3, .int .i64 a4, .slice B5 a5.length d5]) (show w.heap.size + 1 < _ by have := HE1.out; have := Hs1.out; have := Hlt1.out; have := HE5.out; have := Hs5.out; have := Hlt5.out; omega) (by have := HE1.out; have := Hs1.out; have := Hlt1.out; have := HE5.out; have := Hs5.out; have := Hlt5.out; omega) (by decide)) (O5at5.out.done (f' := 2) (B' := w.heap.size) (c := #[.string a0, .slice B1 a1.length d1, .int .i64 a2, .int .i64 a3, .int .i64 a4, .slice B5 a5.length d5]) (show w.heap.size + 1 < _ by have := HE1.out; have := Hs1.out; have := Hlt1.out; have := HE5.out; have := Hs5.out; have := Hlt5.out; omega) (by have := HE1.out; have := Hs1.out; have := Hlt1.out; have := HE5.out; have := Hs5.out; have := Hlt5.out; omega) (by decide)) O1at5.out.nod O5at5.out.nod (O1at5.out.apart O5at5.out (by have := HE1.out; have := Hs1.out; have := Hlt1.out; have := HE5.out; have := Hs5.out; have := Hlt5.out; omega))
  refine bodyPost_ret (v := .agg #[.string a0, .slice B1 a1.length d1, .int .i64 a2, .int .i64 a3, .int .i64 a4, .slice B5 a5.length d5]) ?_ rfl ⟨_, F, rfl, ho, hnd, setRow_below S5.out.bel (by omega) _⟩
  exact results_cell_row rfl _ _ (w.heap.size + 1) _ _ (0, 0) _ rfl (setRow_at h51) Tryz.underlying32 rfl sizeHost
end Go.Proofs.YtcfbkfmkjggcdaaGreatDoor.pod
namespace Go.Proofs.YtcfbkfmkjggcdaaGreatDoor.ty
open Go.ChangeShapes Go.WideShapes Go.ChangeAt Go.RowKit
set_option linter.unusedVariables false

theorem mkTaintS_nil (k : Int) (w : World) (h0 : 0 ≤ k) (hk : k ≤ 4611686018427387904) :
    Calls Tryz.prog 79 #[.slice none 0 0, .int .i64 k] w fun e w' => e = .returned (.int .i64 k) ∧ w' = w := by
  go_enter Tryz.func79, Tryz.ntmps79
  go_wp2_with fail
  refine wp_loop_rounds 1 ?_
  rw [rounds_succ]
  go_wp2_with fail
  go_ret
  exact ⟨rfl, rfl⟩
set_option maxRecDepth 100000 in
set_option maxHeartbeats 8000000 in
theorem mkTaintS (B : Nat) (v : Value) (l : List Taint) (f : Nat) (F : List Nat) (k : Int) (w : World) (hown : Own w B (f + 1) v (.sl 3 l.length (l.flatMap Taint.row)) F) (hnd : F.Nodup) (h0 : 0 ≤ k) (hk : k + wsum Taint.cost l ≤ 4611686018427387904) :
    Calls Tryz.prog 79 #[v, .int .i64 k] w fun e w' => e = .returned (.int .i64 (k + wsum Taint.cost l)) ∧ Own w' B (f + 1) v (.sl 3 l.length ((mks Taint.mark Taint.cost l k).flatMap Taint.row)) F ∧ KeptBut F w w' := by
  have hown' := hown
  obtain ⟨hl, ⟨rfl, hn, rfl⟩ | ⟨g, c, cur, e, Fs, rfl, h1, h2, h3, h4, hz, hF, h5, h6⟩⟩ := hown'
  · have : l = [] := List.eq_nil_of_length_eq_zero hn
    subst this
    refine (mkTaintS_nil k w h0 (by simpa [wsum] using hk)).mono ?_
    rintro e w' ⟨rfl, rfl⟩
    exact ⟨by simp [wsum], by simpa [mks] using hown, KeptBut.refl _ _⟩
  have hcm : l.length ≤ 9223372036854775807 := by unfold maxLen at h2; omega
  clear hl h3 h4 hz hF h5 h6 cur e Fs
  have Hown := Lib.hid hown
  clear hown
  go_enter Tryz.func79, Tryz.ntmps79
  go_wp2_with fail
  go_loopw [1, 5] (fun a i wr => ∃ (j : Nat), j ≤ l.length ∧ i = .int .i64 j ∧ a = .int .i64 (k + wsum Taint.cost (l.take j)) ∧ Own wr B (f + 1) (.slice (some ⟨g, 0, none⟩) l.length c) (.sl 3 l.length ((mks Taint.mark Taint.cost (l.take j) k ++ l.drop j).flatMap Taint.row)) F ∧ KeptBut F w wr) (fun _ i _ => l.length - (intOf i).toNat)
  case atStart => exact ⟨0, Nat.zero_le _, rfl, by simp [wsum], by simpa [mks] using Hown.out, KeptBut.refl _ _⟩
  case round =>
    clear Hown
    obtain ⟨j, hj, rfl, rfl, hown, hkb⟩ := hrel
    by_cases hlt : j < l.length
    · have hdrop : l.drop j = l[j] :: l.drop (j + 1) := List.drop_eq_getElem_cons hlt
      have hnext := wsum_take Taint.cost hlt
      have hall := wsum_all Taint.cost l (j + 1)
      have hmark := mks_next Taint.mark Taint.cost hlt k
      rw [hdrop, List.flatMap_append, List.flatMap_cons] at hown
      have Hmark := Lib.hid hmark
      have HL := Lib.hid (show ((mks Taint.mark Taint.cost (l.take j) k).flatMap Taint.row).length = j * 3 by rw [flat_length' Taint.row_length, mks_length, List.length_take]; congr 1; omega)
      have Hnext := Lib.hid hnext
      obtain ⟨a0, a1, a2, hx⟩ : ∃ a0 a1 a2, l[j] = Taint.mk a0 a1 a2 := ⟨l[j].key, l[j].value, l[j].effect, rfl⟩
      rw [hx] at hown Hmark Hnext hnext
      rw [show Taint.cost (Taint.mk a0 a1 a2) = 3 from rfl] at Hnext hnext
      generalize wsum Taint.cost (l.take j) = C0 at *
      have hkk : k + C0 + 3 ≤ 4611686018427387904 := by omega
      clear hmark hnext hall hx hdrop
      obtain ⟨K, hK⟩ : ∃ K, k + C0 = K := ⟨_, rfl⟩
      rw [hK] at hkk Hmark ⊢
      have hK0 : 0 ≤ K := by omega
      have HK := Lib.hid hK
      clear hK
      generalize hLL : (mks Taint.mark Taint.cost (l.take j) k).flatMap Taint.row = L at *
      generalize hRR : (l.drop (j + 1)).flatMap Taint.row = R at *
      have hown0 : Own wr B (f + 1) (.slice (some ⟨g, 0, none⟩) l.length c) (.sl 3 l.length (mid L (Taint.row (Taint.mk a0 a1 a2)) R)) F := hown
      clear hown
      cases f with
      | zero =>
        obtain ⟨_, _, _, _, ho, _⟩ := Own.field hown0 hnd HL.out (r := 0) rfl
        exact ho.elim
      | succ f =>
      have HMT := Lib.hid (fun m w hm => lawMark.mark_text m w hm)
      have e2 : (K + 1) + 1 = K + 2 := by omega
      have e3 : (K + 2) + 1 = K + 3 := by omega
      go_wp2_with fail
      refine (HMT.out K _ (by omega)).mono ?_
      rintro e x1 ⟨rfl, hb1⟩
      have on1 := Own.below hown0 hb1
      have kn1 := KeptBut.trans hkb (KeptBut.of_below hb1)
      clear hb1 hown0 hkb
      obtain ⟨o0, b0, ⟨q0, p0⟩, f0⟩ := Own.put (r := 0) (d' := .str (lawMark.mt K)) (u' := .string (lawMark.mt K)) on1 hnd HL.out rfl trivial (fun w' => own_str (lawMark.mt_size _ (by omega)))
      have k0 := KeptBut.trans kn1 b0
      simp only [Nat.add_zero] at o0 k0 p0 f0 b0
      clear b0 on1 kn1
      have Ho1 := Lib.hid o0
      have Hkb1 := Lib.hid k0
      clear o0 k0
      go_wp2_with fail
      refine (HMT.out (K + 1) _ (by omega)).mono ?_
      rintro e x2 ⟨rfl, hb2⟩
      have on2 := Own.below Ho1.out hb2
      have kn2 := KeptBut.trans Hkb1.out (KeptBut.of_below hb2)
      clear p0 f0 hb2 Ho1 Hkb1
      obtain ⟨o1, b1, ⟨q1, p1⟩, f1⟩ := Own.put (r := 1) (d' := .str (lawMark.mt (K + 1))) (u' := .string (lawMark.mt (K + 1))) on2 hnd HL.out rfl trivial (fun w' => own_str (lawMark.mt_size _ (by omega)))
      have k1 := KeptBut.trans kn2 b1
      clear b1 on2 kn2
      obtain ⟨o2, b2, ⟨q2, p2⟩, f2⟩ := Own.put (r := 2) (d' := .int .i64 (K + 2)) (u' := .int .i64 (K + 2)) o1 hnd HL.out rfl trivial (fun w' => own_int (lawMark.wf_of (by omega) (by omega)))
      have k2 := KeptBut.trans k1 b2
      clear b2 o1 k1
      have Ho9 : Hid (Own ((x2.setCell ⟨g, j * 3 + 1, none⟩ (.string (lawMark.mt (K + 1)))).setCell ⟨g, j * 3 + 2, none⟩ (.int .i64 (K + 2))) B (f + 1 + 1) (.slice (some ⟨g, 0, none⟩) l.length c) (.sl 3 l.length ((mks Taint.mark Taint.cost (l.take (j + 1)) k ++ l.drop (j + 1)).flatMap Taint.row)) F) := by
        unfold Hid
        rw [Hmark.out, List.flatMap_append, List.flatMap_cons, hLL, hRR]
        exact o2
      have Hkb9 := Lib.hid k2
      clear o2 k2 HMT
      go_wp2_with fail
      go_roundw
      case rel => exact ⟨j + 1, by omega, by go_num, by rw [Hnext.out]; have := HK.out; congr 1; omega, Ho9.out, Hkb9.out⟩
      case measure => simp [intOf]; omega
    · obtain rfl : j = l.length := by omega
      rw [List.take_of_length_le (Nat.le_refl _), List.drop_of_length_le (Nat.le_refl _), List.append_nil] at hown
      have Hown := Lib.hid hown
      have Hkb := Lib.hid hkb
      clear hown hkb
      rw [List.take_of_length_le (Nat.le_refl _)]
      go_wp2_with fail
      go_ret
      exact ⟨rfl, Hown.out, Hkb.out⟩
end Go.Proofs.YtcfbkfmkjggcdaaGreatDoor.ty
namespace Go.Proofs.YtcfbkfmkjggcdaaGreatDoor.ty
open Go.ChangeShapes Go.WideShapes Go.ChangeAt Go.RowKit
set_option linter.unusedVariables false

set_option maxRecDepth 100000 in
set_option maxHeartbeats 16000000 in
theorem mkHost (x : Host) (B f : Nat) (us : List Value) (F : List Nat) (k : Int) (w : World) (hown : OwnS w B (f + 1) us x.row F) (hnd : F.Nodup) (h0 : 0 ≤ k) (hk : k + (x.kost : Nat) ≤ 4611686018427387904) :
    Calls Tryz.prog 28 #[.agg us.toArray, .int .i64 k] w fun e w' => e = .returned (.int .i64 (k + (x.kost : Nat))) ∧ OwnS w' B (f + 1) us (x.stamp k).row F ∧ KeptBut F w w' := by
  obtain ⟨a0, a1, a2, a3, a4, a5⟩ := x
  rw [Host.row_stamp]
  rw [Host.kost_eq] at hk ⊢
  have h := hown
  unfold Host.row at h
  simp only at h
  obtain ⟨v0, us, F0, F', rfl, rfl, o0, h⟩ := h.uncons
  obtain ⟨v1, us, F1, F', rfl, rfl, o1, h⟩ := h.uncons
  obtain ⟨v2, us, F2, F', rfl, rfl, o2, h⟩ := h.uncons
  obtain ⟨v3, us, F3, F', rfl, rfl, o3, h⟩ := h.uncons
  obtain ⟨v4, us, F4, F', rfl, rfl, o4, h⟩ := h.uncons
  obtain ⟨v5, us, F5, F', rfl, rfl, o5, h⟩ := h.uncons
  obtain ⟨rfl, rfl⟩ := h.unnil
  obtain ⟨⟨rfl, w0⟩, rfl⟩ := o0
  obtain ⟨A1, c1, rfl, _, _, _⟩ := o1.lies.sl
  obtain ⟨⟨rfl, w2⟩, rfl⟩ := o2
  obtain ⟨⟨rfl, w3⟩, rfl⟩ := o3
  obtain ⟨⟨rfl, w4⟩, rfl⟩ := o4
  obtain ⟨A5, c5, rfl, _, _, _⟩ := o5.lies.sl
  clear hown
  simp only [List.nil_append, List.append_nil] at hnd ⊢
  obtain ⟨n1, n5, d1⟩ := List.nodup_append.1 hnd
  obtain ⟨w1, hw1⟩ : ∃ w1, w1 = w.alloc (.cells #[.string a0, .slice A1 a1.length c1, .int .i64 a2, .int .i64 a3, .int .i64 a4, .slice A5 a5.length c5] 32) := ⟨_, rfl⟩
  have hb1 : Below w.heap.size w w1 := by rw [hw1]; exact (Below.refl _ _).alloc (Nat.le_refl _) _
  have R1 : RowE 32 w1 w.heap.size [.string a0, .slice A1 a1.length c1, .int .i64 a2, .int .i64 a3, .int .i64 a4, .slice A5 a5.length c5] := by rw [hw1]; exact RowE.new _ _ _
  have g1 := o1.range
  have o1 := o1.below hb1
  have g5 := o5.range
  have o5 := o5.below hb1
  have KB1 : KeptBut (F1 ++ (F5)) w w1 := KeptBut.of_below hb1
  have p1 := R1.cell 1 _ rfl
  have p5 := R1.cell 5 _ rfl
  have C1 : 0 ≤ k ∧ k + (wsum Label.cost a1 : Nat) ≤ 4611686018427387904 := by constructor <;> omega
  have C5 : 0 ≤ k + (wsum Label.cost a1 : Nat) ∧ k + (wsum Label.cost a1 : Nat) + (wsum Taint.cost a5 : Nat) ≤ 4611686018427387904 := by constructor <;> omega
  have T1 := Lib.hid (fun w' ho => mkLabelS B (.slice A1 a1.length c1) a1 f F1 (k) w' ho n1 C1.1 C1.2)
  have T5 := Lib.hid (fun w' ho => mkTaintS B (.slice A5 a5.length c5) a5 f F5 (k + (wsum Label.cost a1 : Nat)) w' ho n5 C5.1 C5.2)
  have D1_5 : ∀ y ∈ F5, y ∉ F1 := fun y hy hx => d1 y hx y hy rfl
  have Hw1 := Lib.hid hw1
  clear hw1 h0 hk d1 C1 C5
  have G1 := Lib.hid g1
  clear g1
  have G5 := Lib.hid g5
  clear g5
  go_enter Tryz.func28, Tryz.ntmps28
  go_wp2_with fail
  rw [← Hw1.out]
  clear Hw1
  refine (T1.out _ o1).mono ?_
  rintro e y1 ⟨rfl, O1, kb1⟩
  have KB11 : KeptBut (F1 ++ (F5)) w y1 := KB1.trans (kb1.mono fun x hx => List.mem_append_left _ hx)
  have R11 := (kb1.block w.heap.size (heap_lt R1) (fun hx => by have := (G1.out _ hx).2; omega)).trans R1
  have R11 : RowE 32 y1 w.heap.size [.string a0, .slice A1 a1.length c1, .int .i64 a2, .int .i64 a3, .int .i64 a4, .slice A5 a5.length c5] := R11
  have Q5_1 := Own.kept (fun x hx => kb1.block x (Own.range o5 x hx).2 (D1_5 x hx)) o5
  clear p1 p5 kb1
  have p5_1 := R11.cell 5 _ rfl
  go_wp2_with fail
  refine (T5.out _ Q5_1).mono ?_
  rintro e y5 ⟨rfl, O5, kb5⟩
  have KB15 : KeptBut (F1 ++ (F5)) w y5 := KB11.trans (kb5.mono fun x hx => List.mem_append_right _ hx)
  have R15 := (kb5.block w.heap.size (heap_lt R11) (fun hx => by have := (G5.out _ hx).2; omega)).trans R11
  have R15 : RowE 32 y5 w.heap.size [.string a0, .slice A1 a1.length c1, .int .i64 a2, .int .i64 a3, .int .i64 a4, .slice A5 a5.length c5] := R15
  have Q1_5 := Own.kept (fun x hx => kb5.block x (Own.range O1 x hx).2 (fun hy => D1_5 x hy hx)) O1
  clear p5_1 kb5
  have HR := Lib.hid (show OwnS y5 B (f + 1) _ _ _ ∧ KeptBut (F1 ++ (F5)) w y5 from ⟨OwnS.cons (own_str w0) (OwnS.cons (Q1_5) (OwnS.cons (own_int w2) (OwnS.cons (own_int w3) (OwnS.cons (own_int w4) (OwnS.cons (O5) (OwnS.nil)))))), KB15⟩)
  simp only [List.nil_append, List.append_nil] at HR
  go_wp2_with fail
  go_ret
  exact ⟨rfl, HR.out⟩
end Go.Proofs.YtcfbkfmkjggcdaaGreatDoor.ty
namespace Go.Proofs.YtcfbkfmkjggcdaaGreatDoor.ty
open Go.ChangeShapes Go.WideShapes Go.ChangeAt Go.RowKit
set_option linter.unusedVariables false

set_option maxRecDepth 100000 in
set_option maxHeartbeats 8000000 in
theorem hdTaintS (l : List Taint) (f : Nat) (v : Value) (k : Int) (w : World) (h : Lies w f v (.sl 3 l.length ((mks Taint.mark Taint.cost l k).flatMap Taint.row))) (h0 : 0 ≤ k) (hkk : k + wsum Taint.cost l ≤ 4611686018427387904) :
    Calls Tryz.prog 80 #[v, .int .i64 k] w fun e w' => e = .returned (.int .i64 (k + wsum Taint.cost l)) ∧ Below w.heap.size w w' := by
  have hml := mks_length Taint.mark Taint.cost l k
  rw [← hml] at h
  obtain ⟨A, c, rfl, hc1, hc2, f', rfl, hk⟩ := els_of Taint.row_length h
  rw [hml] at hc1 ⊢
  unfold maxLen at hc2
  have Hk := Lib.hid hk
  have Hml := Lib.hid hml
  clear h hk hml
  go_enter Tryz.func80, Tryz.ntmps80
  go_wp2_with fail
  go_loopw [1, 5] (fun a i wr => ∃ (j : Nat), j ≤ l.length ∧ i = .int .i64 j ∧ a = .int .i64 (k + wsum Taint.cost (l.take j)) ∧ Below w.heap.size w wr) (fun _ i _ => l.length - (intOf i).toNat)
  case atStart => exact ⟨0, Nat.zero_le _, rfl, by simp [wsum], Below.refl _ _⟩
  case round =>
    obtain ⟨j, hj, rfl, rfl, hbel⟩ := hrel
    by_cases hlt : j < l.length
    · obtain ⟨g, o, rfl, hg, hcc⟩ := (Hk.out.below hbel) (by rw [Hml.out]; omega)
      obtain ⟨us, hus, hc, hls⟩ := hcc j _ (mks_get Taint.mark Taint.cost hlt k)
      obtain ⟨rfl, hwf⟩ := Taint.opened hls
      have hnext := wsum_take Taint.cost hlt
      have hall := wsum_all Taint.cost l (j + 1)
      have Hnext := Lib.hid hnext
      rw [show Taint.cost l[j] = 3 from rfl] at Hnext hnext
      generalize wsum Taint.cost (l.take j) = C0 at *
      have hkk2 : k + C0 + 3 ≤ 4611686018427387904 := by omega
      obtain ⟨K, hK⟩ : ∃ K, k + C0 = K := ⟨_, rfl⟩
      rw [hK] at hc hkk2 ⊢
      have q0 : wr.cell? ⟨g, o + j * 3, none⟩ = some (.string (lawMark.mt K)) := hc 0 _ rfl
      have q1 : wr.cell? ⟨g, o + j * 3 + 1, none⟩ = some (.string (lawMark.mt (K + 1))) := hc 1 _ rfl
      have q2 : wr.cell? ⟨g, o + j * 3 + 2, none⟩ = some (.int .i64 (K + 2)) := hc 2 _ rfl
      have e2 : (K + 1) + 1 = K + 2 := by omega
      have e3 : (K + 2) + 1 = K + 3 := by omega
      have HK := Lib.hid hK
      have hK0 : 0 ≤ K := by omega
      have HMT := Lib.hid (fun m w hm => lawMark.mark_text m w hm)
      have Hbel := Lib.hid hbel
      clear hcc hus hc hls hwf hnext hall hbel hK
      go_wp2_with fail
      go_region_law (go_simp; go_at_call 134; refine (HMT.out K _ (by omega)).mono ?_; rintro e y1 ⟨rfl, hb1⟩; have r1_0 : y1.cell? ⟨g, o + j * 3, none⟩ = some (.string (lawMark.mt K)) := (hb1.cell (p := ⟨g, o + j * 3, none⟩) hg).trans q0; have r1_1 : y1.cell? ⟨g, o + j * 3 + 1, none⟩ = some (.string (lawMark.mt (K + 1))) := (hb1.cell (p := ⟨g, o + j * 3 + 1, none⟩) hg).trans q1; have r1_2 : y1.cell? ⟨g, o + j * 3 + 2, none⟩ = some (.int .i64 (K + 2)) := (hb1.cell (p := ⟨g, o + j * 3 + 2, none⟩) hg).trans q2)
      all_goals
        have hg1 : g < y1.heap.size := Nat.lt_of_lt_of_le hg hb1.size
        have Hbel1 := Lib.hid (below_link Hbel.out ((Below.refl _ _).drew.trans (hb1.mono (Nat.le_refl _))) (Below.size Hbel.out))
        clear hb1 q0 q1 q2
        go_wp2_with fail
        go_region_law (go_simp; go_at_call 134; refine (HMT.out (K + 1) _ (by omega)).mono ?_; rintro e y2 ⟨rfl, hb2⟩; have r2_1 : y2.cell? ⟨g, o + j * 3 + 1, none⟩ = some (.string (lawMark.mt (K + 1))) := (hb2.cell (p := ⟨g, o + j * 3 + 1, none⟩) hg1).trans r1_1; have r2_2 : y2.cell? ⟨g, o + j * 3 + 2, none⟩ = some (.int .i64 (K + 2)) := (hb2.cell (p := ⟨g, o + j * 3 + 2, none⟩) hg1).trans r1_2)
        all_goals
          have hg2 : g < y2.heap.size := Nat.lt_of_lt_of_le hg1 hb2.size
          have Hbel2 := Lib.hid (below_link Hbel1.out ((Below.refl _ _).drew.trans (hb2.mono (Nat.le_refl _))) (Below.size Hbel1.out))
          clear hb2 r1_0 r1_1 r1_2
          go_wp2_with fail
          go_roundw
          case rel => exact ⟨j + 1, by omega, by go_num, by rw [Hnext.out]; have := HK.out; congr 1; omega, Hbel2.out⟩
          case measure => simp [intOf]; omega
    · obtain rfl : j = l.length := by omega
      rw [List.take_of_length_le (Nat.le_refl _)]
      have Hbel := Lib.hid hbel
      clear hbel
      go_wp2_with fail
      go_ret
      exact ⟨rfl, Hbel.out⟩
end Go.Proofs.YtcfbkfmkjggcdaaGreatDoor.ty
