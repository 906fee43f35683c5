/- Merged: NormPS OnceN SortNI. -/
import Derived.Test.YtcfbkfmkjggcdaaGreatDoorGA11
import Derived.Test.YtcfbkfmkjggcdaaGreatDoorGA18
import Derived.Test.YtcfbkfmkjggcdaaGreatDoorSortS
import Derived.Test.YtcfbkfmkjggcdaaGreatDoorSortNS
import Derived.Test.YtcfbkfmkjggcdaaGreatDoorSrtToleranceS
import Derived.Test.YtcfbkfmkjggcdaaGreatDoorGA7
import Derived.Deep.WholeRow
import Derived.Test.YtcfbkfmkjggcdaaGreatDoorCompN
import Derived.Test.YtcfbkfmkjggcdaaGreatDoorGA9
import Derived.Test.YtcfbkfmkjggcdaaGreatDoorShelf
import Derived.Test.YtcfbkfmkjggcdaaGreatDoorGA20
import Derived.Test.YtcfbkfmkjggcdaaGreatDoorGA16
import Derived.Test.YtcfbkfmkjggcdaaGreatDoorGA21
import Derived.Test.YtcfbkfmkjggcdaaGreatDoorElR
import Derived.Test.YtcfbkfmkjggcdaaGreatDoorGA15
import Derived.Test.YtcfbkfmkjggcdaaGreatDoorGA24
namespace Go.Proofs.YtcfbkfmkjggcdaaGreatDoor.pod
open Go.ChangeShapes Go.WideShapes Go.ChangeAt Go.RowKit ty lab need taint
set_option linter.unusedVariables false
set_option maxRecDepth 100000 in
set_option maxHeartbeats 32000000 in
theorem spec_podN (x : Pod) (f : Nat) (us : List Value) (w : World) (h : LiesS w f us x.row) (hz : x.wt ≤ 1048576) (hzo : (podO x).wt ≤ 1048576) :
    Calls Tryz.prog 11 #[.agg us.toArray] w fun e w' => NormOut Pod.row w w' e (podN x) := by
  have HCP := Lib.hid (fun w' (hb : Below w.heap.size w w') => spec_copyP x f us w' (h.kept hb.block) hz)
  have hyes := podN_yes (x := x)
  have hno := podN_no (x := x)
  obtain ⟨a0, a1, a2, a3, a4, a5, a6⟩ := x
  obtain ⟨A1, c1, A5, c5, A6, c6, rfl, hwf, k1, m1, l1, k5, m5, l5, k6, m6, l6⟩ := Pod.opened h
  unfold Pod.wt at hz
  unfold podO at hyes hno hzo
  simp only at hz hzo hyes hno hwf k1 m1 l1 k5 m5 l5 k6 m6 l6
  have C1 := Lib.hid (fun w' (hb : Below w.heap.size w w') => spec_sort a1 f _ w' (l1.below hb) (small_of (by omega)) (by omega))
  have C5 := Lib.hid (fun w' (hb : Below w.heap.size w w') => spec_sortN a5 f _ w' (l5.below hb) (by omega))
  have C6 := Lib.hid (fun w' (hb : Below w.heap.size w w') => spec_sortTolerance a6 f _ w' (l6.below hb) (by omega) (by omega))
  obtain ⟨⟨r1, t1⟩, hR1⟩ : ∃ R, R = sortF a1 := ⟨_, rfl⟩
  rw [← hR1] at C1 hyes hno hzo
  obtain ⟨⟨r5, t5⟩, hR5⟩ : ∃ R, R = sortN a5 := ⟨_, rfl⟩
  rw [← hR5] at C5 hyes hno hzo
  obtain ⟨⟨r6, t6⟩, hR6⟩ : ∃ R, R = sortL TolsP befT a6 := ⟨_, rfl⟩
  rw [← hR6] at C6 hyes hno hzo
  clear hR1 hR5 hR6
  simp only at hyes hno hzo
  generalize podN ⟨a0, a1, a2, a3, a4, a5, a6⟩ = RN at hyes hno ⊢
  have Hyes := Lib.hid hyes
  have Hno := Lib.hid hno
  have Hzo := Lib.hid hzo
  clear hyes hno hzo
  obtain ⟨w1, hw1⟩ : ∃ w1, w1 = ((w.alloc (.cells #[.string a0, .slice A1 a1.length c1, .int .i64 a2, .int .i64 a3, .int .i64 a4, .slice A5 a5.length c5, .slice A6 a6.length c6] 28)).alloc (.cells #[.string ⟨#[]⟩, .slice none 0 0, .int .i64 0, .int .i64 0, .int .i64 0, .slice none 0 0, .slice none 0 0] 28)).alloc (.cells #[.string a0, .slice A1 a1.length c1, .int .i64 a2, .int .i64 a3, .int .i64 a4, .slice A5 a5.length c5, .slice A6 a6.length c6] 28) := ⟨_, rfl⟩
  have S0 := Lib.hid (show St3 28 28 w [.string a0, .slice A1 a1.length c1, .int .i64 a2, .int .i64 a3, .int .i64 a4, .slice A5 a5.length c5, .slice A6 a6.length c6] [.string ⟨#[]⟩, .slice none 0 0, .int .i64 0, .int .i64 0, .int .i64 0, .slice none 0 0, .slice none 0 0] [.string a0, .slice A1 a1.length c1, .int .i64 a2, .int .i64 a3, .int .i64 a4, .slice A5 a5.length c5, .slice A6 a6.length c6] w1 by rw [hw1]; exact St3.new)
  have Hwf := Lib.hid hwf
  have Hw1 := Lib.hid hw1
  clear h hz hwf hw1 k1 m1 l1 k5 m5 l5 k6 m6 l6
  go_enter Tryz.func11, Tryz.ntmps11
  go_wp2_with fail
  rw [← Hw1.out]
  clear Hw1
  refine (C1.out _ S0.out.bel).mono ?_
  rintro e y1 ⟨v1, f1, F1, rfl, o1, n1, hb1⟩
  obtain ⟨B1, d1, rfl, _, _, _⟩ := o1.lies.sl
  have O1_1 := Lib.hid (show Og y1 w1.heap.size y1.heap.size (f1 + 1) (.slice B1 r1.length d1) (.sl 2 r1.length (r1.flatMap Label.row)) F1 from ⟨o1, n1, o1.range⟩)
  have Hlt1 := Lib.hid S0.out.lt
  have Hs1 := Lib.hid (show w1.heap.size ≤ y1.heap.size from hb1.size)
  have S1 := Lib.hid (S0.out.call hb1)
  clear hb1 o1 n1 S0
  have pc5 := S1.out.k0.cell 5 _ rfl
  go_wp2_with fail
  clear pc5
  refine (C5.out _ S1.out.bel).mono ?_
  rintro e y5 ⟨v5, f5, F5, rfl, o5, n5, hb5⟩
  obtain ⟨B5, d5, rfl, _, _, _⟩ := o5.lies.sl
  have O5_5 := Lib.hid (show Og y5 y1.heap.size y5.heap.size (f5 + 1) (.slice B5 r5.length d5) (.sl 3 r5.length (r5.flatMap Need.row)) F5 from ⟨o5, n5, o5.range⟩)
  have Hlt5 := Lib.hid S1.out.lt
  have Hs5 := Lib.hid (show y1.heap.size ≤ y5.heap.size from hb5.size)
  have S5 := Lib.hid (S1.out.call hb5)
  have O1_5 := Lib.hid (O1_1.out.call hb5)
  clear hb5 o5 n5 S1 O1_1
  have pc6 := S5.out.k0.cell 6 _ rfl
  go_wp2_with fail
  clear pc6
  refine (C6.out _ S5.out.bel).mono ?_
  rintro e y6 ⟨v6, f6, F6, rfl, o6, n6, hb6⟩
  obtain ⟨B6, d6, rfl, _, _, _⟩ := o6.lies.sl
  have O6_6 := Lib.hid (show Og y6 y5.heap.size y6.heap.size (f6 + 1) (.slice B6 r6.length d6) (.sl 4 r6.length (r6.flatMap Tolerance.row)) F6 from ⟨o6, n6, o6.range⟩)
  have Hlt6 := Lib.hid S5.out.lt
  have Hs6 := Lib.hid (show y5.heap.size ≤ y6.heap.size from hb6.size)
  have S6 := Lib.hid (S5.out.call hb6)
  have O1_6 := Lib.hid (O1_5.out.call hb6)
  have O5_6 := Lib.hid (O5_5.out.call hb6)
  clear hb6 o6 n6 S5 O1_5 O5_5
  have s0 := S6.out
  have g1_0 := O1_6.out
  have g5_0 := O5_6.out
  have g6_0 := O6_6.out
  have p1 : (y6).cell? ⟨w.heap.size + 2, 1, none⟩ = some (.slice A1 a1.length c1) := s0.k2.cell 1 _ rfl
  have q1 := RowE.frozen s0.k2 1
  have s1 : St3 28 28 w [.string a0, .slice A1 a1.length c1, .int .i64 a2, .int .i64 a3, .int .i64 a4, .slice A5 a5.length c5, .slice A6 a6.length c6] [.string ⟨#[]⟩, .slice none 0 0, .int .i64 0, .int .i64 0, .int .i64 0, .slice none 0 0, .slice none 0 0] [.string a0, .slice B1 r1.length d1, .int .i64 a2, .int .i64 a3, .int .i64 a4, .slice A5 a5.length c5, .slice A6 a6.length c6] ((y6).setCell ⟨w.heap.size + 2, 1, none⟩ (.slice B1 r1.length d1)) := s0.put 1 (.slice B1 r1.length d1)
  have g1_1 := Og.put (j := 1) (u := .slice B1 r1.length d1) g1_0 (show w.heap.size + 2 < _ by have := Hlt1.out; omega)
  have g5_1 := Og.put (j := 1) (u := .slice B1 r1.length d1) g5_0 (show w.heap.size + 2 < _ by have := Hlt5.out; omega)
  have g6_1 := Og.put (j := 1) (u := .slice B1 r1.length d1) g6_0 (show w.heap.size + 2 < _ by have := Hlt6.out; omega)
  have p5 : ((y6).setCell ⟨w.heap.size + 2, 1, none⟩ (.slice B1 r1.length d1)).cell? ⟨w.heap.size + 2, 5, none⟩ = some (.slice A5 a5.length c5) := s1.k2.cell 5 _ rfl
  have q5 := RowE.frozen s1.k2 5
  have s2 : St3 28 28 w [.string a0, .slice A1 a1.length c1, .int .i64 a2, .int .i64 a3, .int .i64 a4, .slice A5 a5.length c5, .slice A6 a6.length c6] [.string ⟨#[]⟩, .slice none 0 0, .int .i64 0, .int .i64 0, .int .i64 0, .slice none 0 0, .slice none 0 0] [.string a0, .slice B1 r1.length d1, .int .i64 a2, .int .i64 a3, .int .i64 a4, .slice B5 r5.length d5, .slice A6 a6.length c6] (((y6).setCell ⟨w.heap.size + 2, 1, none⟩ (.slice B1 r1.length d1)).setCell ⟨w.heap.size + 2, 5, none⟩ (.slice B5 r5.length d5)) := s1.put 5 (.slice B5 r5.length d5)
  have g1_2 := Og.put (j := 5) (u := .slice B5 r5.length d5) g1_1 (show w.heap.size + 2 < _ by have := Hlt1.out; omega)
  have g5_2 := Og.put (j := 5) (u := .slice B5 r5.length d5) g5_1 (show w.heap.size + 2 < _ by have := Hlt5.out; omega)
  have g6_2 := Og.put (j := 5) (u := .slice B5 r5.length d5) g6_1 (show w.heap.size + 2 < _ by have := Hlt6.out; omega)
  have p6 : (((y6).setCell ⟨w.heap.size + 2, 1, none⟩ (.slice B1 r1.length d1)).setCell ⟨w.heap.size + 2, 5, none⟩ (.slice B5 r5.length d5)).cell? ⟨w.heap.size + 2, 6, none⟩ = some (.slice A6 a6.length c6) := s2.k2.cell 6 _ rfl
  have q6 := RowE.frozen s2.k2 6
  have s3 : St3 28 28 w [.string a0, .slice A1 a1.length c1, .int .i64 a2, .int .i64 a3, .int .i64 a4, .slice A5 a5.length c5, .slice A6 a6.length c6] [.string ⟨#[]⟩, .slice none 0 0, .int .i64 0, .int .i64 0, .int .i64 0, .slice none 0 0, .slice none 0 0] [.string a0, .slice B1 r1.length d1, .int .i64 a2, .int .i64 a3, .int .i64 a4, .slice B5 r5.length d5, .slice B6 r6.length d6] ((((y6).setCell ⟨w.heap.size + 2, 1, none⟩ (.slice B1 r1.length d1)).setCell ⟨w.heap.size + 2, 5, none⟩ (.slice B5 r5.length d5)).setCell ⟨w.heap.size + 2, 6, none⟩ (.slice B6 r6.length d6)) := s2.put 6 (.slice B6 r6.length d6)
  have g1_3 := Og.put (j := 6) (u := .slice B6 r6.length d6) g1_2 (show w.heap.size + 2 < _ by have := Hlt1.out; omega)
  have g5_3 := Og.put (j := 6) (u := .slice B6 r6.length d6) g5_2 (show w.heap.size + 2 < _ by have := Hlt5.out; omega)
  have g6_3 := Og.put (j := 6) (u := .slice B6 r6.length d6) g6_2 (show w.heap.size + 2 < _ by have := Hlt6.out; omega)
  obtain ⟨zz, hzz⟩ : ∃ z, (((y6).setCell ⟨w.heap.size + 2, 1, none⟩ (.slice B1 r1.length d1)).setCell ⟨w.heap.size + 2, 5, none⟩ (.slice B5 r5.length d5)).setCell ⟨w.heap.size + 2, 6, none⟩ (.slice B6 r6.length d6) = z := ⟨_, rfl⟩
  rw [hzz] at s3 g1_3 g5_3 g6_3
  have SZ := Lib.hid s3
  obtain ⟨F, ho, hnd, _⟩ := Pod.owned (x := (⟨a0, r1, a2, a3, a4, r5, r6⟩ : Pod)) (f := (f1 + f5 + f6)) (w := zz) (B := w.heap.size + 3) (show Pod.Wf (⟨a0, r1, a2, a3, a4, r5, r6⟩ : Pod) from Hwf.out) (Own.deeper (by omega) (g1_3.own.lower (B' := w.heap.size + 3) (by have := Hs1.out; have := Hlt1.out; have := Hs5.out; have := Hlt5.out; have := Hs6.out; have := Hlt6.out; omega))) (Own.deeper (by omega) (g5_3.own.lower (B' := w.heap.size + 3) (by have := Hs1.out; have := Hlt1.out; have := Hs5.out; have := Hlt5.out; have := Hs6.out; have := Hlt6.out; omega))) (Own.deeper (by omega) (g6_3.own.lower (B' := w.heap.size + 3) (by have := Hs1.out; have := Hlt1.out; have := Hs5.out; have := Hlt5.out; have := Hs6.out; have := Hlt6.out; omega))) g1_3.nod g5_3.nod g6_3.nod (g1_3.apart g5_3 (by have := Hs1.out; have := Hlt1.out; have := Hs5.out; have := Hlt5.out; have := Hs6.out; have := Hlt6.out; omega)) (g1_3.apart g6_3 (by have := Hs1.out; have := Hlt1.out; have := Hs5.out; have := Hlt5.out; have := Hs6.out; have := Hlt6.out; omega)) (g5_3.apart g6_3 (by have := Hs1.out; have := Hlt1.out; have := Hs5.out; have := Hlt5.out; have := Hs6.out; have := Hlt6.out; omega))
  have HO := Lib.hid ho
  have HF := Lib.hid hnd
  have HOK := Lib.hid (fun w' (hb : Below zz.heap.size zz w') => spec_pod (⟨a0, r1, a2, a3, a4, r5, r6⟩ : Pod) _ _ w' (ho.lies.kept hb.block) Hzo.out)
  clear ho hnd s0 g1_0 g5_0 g6_0 s1 g1_1 g5_1 g6_1 s2 g1_2 g5_2 g6_2 s3 g1_3 g5_3 g6_3
  cases t1 with
  | false =>
    have e0 := SZ.out.k0
    have x0 := e0.cell 0 _ rfl
    have x1 := e0.cell 1 _ rfl
    have x2 := e0.cell 2 _ rfl
    have x3 := e0.cell 3 _ rfl
    have x4 := e0.cell 4 _ rfl
    have x5 := e0.cell 5 _ rfl
    have x6 := e0.cell 6 _ rfl
    clear e0
    go_wp2_with fail
    clear hzz p1 q1 p5 q5 p6 q6 x0 x1 x2 x3 x4 x5 x6
    refine (HCP.out _ SZ.out.bel).mono ?_
    rintro e y ⟨us, F9, rfl, ho, hnd, hb⟩
    obtain ⟨u0, u1, u2, u3, u4, u5, u6, rfl⟩ := of_Pod (ho.1.trans (Pod.row_length _))
    have one := ho.one
    have SY := SZ.out.call hb
    have h51 := SY.k1
    have hlt := SZ.out.lt
    unfold RowE at h51
    have HR : Hid (NormOut Pod.row w (y.setRow (w.heap.size + 1) #[u0, u1, u2, u3, u4, u5, u6]) (.returned (.tuple #[.agg #[u0, u1, u2, u3, u4, u5, u6], .bool false])) RN) := by
      unfold Hid
      rw [Hno.out (by simp)]
      exact ⟨[u0, u1, u2, u3, u4, u5, u6], 2, F9, rfl, (owns_setRow ho (by omega)).lower (by omega), hnd, setRow_below SY.bel (by omega) _⟩
    clear ho hnd hb
    go_wp2_with (first | (refine wpList_store_row rfl 28 _ _ rfl (w.heap.size + 1) #[u0, u1, u2, u3, u4, u5, u6] rfl rfl 28 _ h51 sizePod rfl one ?_) | fail)
    refine bodyPost_ret (v := .tuple #[.agg #[u0, u1, u2, u3, u4, u5, u6], .bool false]) ?_ rfl HR.out
    exact ret_cs (vs := [u0, u1, u2, u3, u4, u5, u6]) rfl rfl rfl rfl ⟨_, Tryz.underlying28⟩ sizePod (setRow_at (c := #[u0, u1, u2, u3, u4, u5, u6]) h51)
  | true =>
  cases t5 with
  | false =>
    have e0 := SZ.out.k0
    have x0 := e0.cell 0 _ rfl
    have x1 := e0.cell 1 _ rfl
    have x2 := e0.cell 2 _ rfl
    have x3 := e0.cell 3 _ rfl
    have x4 := e0.cell 4 _ rfl
    have x5 := e0.cell 5 _ rfl
    have x6 := e0.cell 6 _ rfl
    clear e0
    go_wp2_with fail
    clear hzz p1 q1 p5 q5 p6 q6 x0 x1 x2 x3 x4 x5 x6
    refine (HCP.out _ SZ.out.bel).mono ?_
    rintro e y ⟨us, F9, rfl, ho, hnd, hb⟩
    obtain ⟨u0, u1, u2, u3, u4, u5, u6, rfl⟩ := of_Pod (ho.1.trans (Pod.row_length _))
    have one := ho.one
    have SY := SZ.out.call hb
    have h51 := SY.k1
    have hlt := SZ.out.lt
    unfold RowE at h51
    have HR : Hid (NormOut Pod.row w (y.setRow (w.heap.size + 1) #[u0, u1, u2, u3, u4, u5, u6]) (.returned (.tuple #[.agg #[u0, u1, u2, u3, u4, u5, u6], .bool false])) RN) := by
      unfold Hid
      rw [Hno.out (by simp)]
      exact ⟨[u0, u1, u2, u3, u4, u5, u6], 2, F9, rfl, (owns_setRow ho (by omega)).lower (by omega), hnd, setRow_below SY.bel (by omega) _⟩
    clear ho hnd hb
    go_wp2_with (first | (refine wpList_store_row rfl 28 _ _ rfl (w.heap.size + 1) #[u0, u1, u2, u3, u4, u5, u6] rfl rfl 28 _ h51 sizePod rfl one ?_) | fail)
    refine bodyPost_ret (v := .tuple #[.agg #[u0, u1, u2, u3, u4, u5, u6], .bool false]) ?_ rfl HR.out
    exact ret_cs (vs := [u0, u1, u2, u3, u4, u5, u6]) rfl rfl rfl rfl ⟨_, Tryz.underlying28⟩ sizePod (setRow_at (c := #[u0, u1, u2, u3, u4, u5, u6]) h51)
  | true =>
  cases t6 with
  | false =>
    have e0 := SZ.out.k0
    have x0 := e0.cell 0 _ rfl
    have x1 := e0.cell 1 _ rfl
    have x2 := e0.cell 2 _ rfl
    have x3 := e0.cell 3 _ rfl
    have x4 := e0.cell 4 _ rfl
    have x5 := e0.cell 5 _ rfl
    have x6 := e0.cell 6 _ rfl
    clear e0
    go_wp2_with fail
    clear hzz p1 q1 p5 q5 p6 q6 x0 x1 x2 x3 x4 x5 x6
    refine (HCP.out _ SZ.out.bel).mono ?_
    rintro e y ⟨us, F9, rfl, ho, hnd, hb⟩
    obtain ⟨u0, u1, u2, u3, u4, u5, u6, rfl⟩ := of_Pod (ho.1.trans (Pod.row_length _))
    have one := ho.one
    have SY := SZ.out.call hb
    have h51 := SY.k1
    have hlt := SZ.out.lt
    unfold RowE at h51
    have HR : Hid (NormOut Pod.row w (y.setRow (w.heap.size + 1) #[u0, u1, u2, u3, u4, u5, u6]) (.returned (.tuple #[.agg #[u0, u1, u2, u3, u4, u5, u6], .bool false])) RN) := by
      unfold Hid
      rw [Hno.out (by simp)]
      exact ⟨[u0, u1, u2, u3, u4, u5, u6], 2, F9, rfl, (owns_setRow ho (by omega)).lower (by omega), hnd, setRow_below SY.bel (by omega) _⟩
    clear ho hnd hb
    go_wp2_with (first | (refine wpList_store_row rfl 28 _ _ rfl (w.heap.size + 1) #[u0, u1, u2, u3, u4, u5, u6] rfl rfl 28 _ h51 sizePod rfl one ?_) | fail)
    refine bodyPost_ret (v := .tuple #[.agg #[u0, u1, u2, u3, u4, u5, u6], .bool false]) ?_ rfl HR.out
    exact ret_cs (vs := [u0, u1, u2, u3, u4, u5, u6]) rfl rfl rfl rfl ⟨_, Tryz.underlying28⟩ sizePod (setRow_at (c := #[u0, u1, u2, u3, u4, u5, u6]) h51)
  | true =>
  have e2 := SZ.out.k2
  have x0 := e2.cell 0 _ rfl
  have x1 := e2.cell 1 _ rfl
  have x2 := e2.cell 2 _ rfl
  have x3 := e2.cell 3 _ rfl
  have x4 := e2.cell 4 _ rfl
  have x5 := e2.cell 5 _ rfl
  have x6 := e2.cell 6 _ rfl
  by_cases hP : PodP (⟨a0, r1, a2, a3, a4, r5, r6⟩ : Pod)
  case neg =>
    rw [yes_f hP] at HOK
    go_wp2_with fail
    clear hzz p1 q1 p5 q5 p6 q6 x0 x1 x2 x3 x4 x5 x6
    refine (HOK.out _ (Below.refl _ _)).mono ?_
    rintro e yk ⟨rfl, hbk⟩
    have SK := Lib.hid (SZ.out.call hbk)
    clear hbk e2
    have Hno := Lib.hid (Hno.out (by rintro ⟨_, _, _, h9⟩; exact hP h9))
    clear hP
    have e0 := SK.out.k0
    have x0 := e0.cell 0 _ rfl
    have x1 := e0.cell 1 _ rfl
    have x2 := e0.cell 2 _ rfl
    have x3 := e0.cell 3 _ rfl
    have x4 := e0.cell 4 _ rfl
    have x5 := e0.cell 5 _ rfl
    have x6 := e0.cell 6 _ rfl
    clear e0
    go_wp2_with fail
    clear x0 x1 x2 x3 x4 x5 x6
    refine (HCP.out _ SK.out.bel).mono ?_
    rintro e y ⟨us, F9, rfl, ho, hnd, hb⟩
    obtain ⟨u0, u1, u2, u3, u4, u5, u6, rfl⟩ := of_Pod (ho.1.trans (Pod.row_length _))
    have one := ho.one
    have SY := SK.out.call hb
    have h51 := SY.k1
    have hlt := SK.out.lt
    unfold RowE at h51
    have HR : Hid (NormOut Pod.row w (y.setRow (w.heap.size + 1) #[u0, u1, u2, u3, u4, u5, u6]) (.returned (.tuple #[.agg #[u0, u1, u2, u3, u4, u5, u6], .bool false])) RN) := by
      unfold Hid
      rw [Hno.out]
      exact ⟨[u0, u1, u2, u3, u4, u5, u6], 2, F9, rfl, (owns_setRow ho (by omega)).lower (by omega), hnd, setRow_below SY.bel (by omega) _⟩
    clear ho hnd hb
    go_wp2_with (first | (refine wpList_store_row rfl 28 _ _ rfl (w.heap.size + 1) #[u0, u1, u2, u3, u4, u5, u6] rfl rfl 28 _ h51 sizePod rfl one ?_) | fail)
    refine bodyPost_ret (v := .tuple #[.agg #[u0, u1, u2, u3, u4, u5, u6], .bool false]) ?_ rfl HR.out
    exact ret_cs (vs := [u0, u1, u2, u3, u4, u5, u6]) rfl rfl rfl rfl ⟨_, Tryz.underlying28⟩ sizePod (setRow_at (c := #[u0, u1, u2, u3, u4, u5, u6]) h51)
  rw [yes_t hP] at HOK
  have hRN := Hyes.out rfl rfl rfl hP
  go_wp2_with fail
  clear hzz p1 q1 p5 q5 p6 q6 x0 x1 x2 x3 x4 x5 x6
  refine (HOK.out _ (Below.refl _ _)).mono ?_
  rintro e yk ⟨rfl, hbk⟩
  have SK := SZ.out.call hbk
  have h51 := SK.k1
  have h52 := SK.k2
  have hlt := SZ.out.lt
  unfold RowE at h51 h52
  have HR : Hid (NormOut Pod.row w (yk.setRow (w.heap.size + 1) #[.string a0, .slice B1 r1.length d1, .int .i64 a2, .int .i64 a3, .int .i64 a4, .slice B5 r5.length d5, .slice B6 r6.length d6]) (.returned (.tuple #[.agg #[.string a0, .slice B1 r1.length d1, .int .i64 a2, .int .i64 a3, .int .i64 a4, .slice B5 r5.length d5, .slice B6 r6.length d6], .bool true])) RN) := by
    unfold Hid
    rw [hRN]
    exact ⟨[.string a0, .slice B1 r1.length d1, .int .i64 a2, .int .i64 a3, .int .i64 a4, .slice B5 r5.length d5, .slice B6 r6.length d6], (f1 + f5 + f6), F, rfl, (owns_setRow (HO.out.below hbk) (show w.heap.size + 1 < w.heap.size + 3 by omega)).lower (by omega), HF.out, setRow_below SK.bel (by omega) _⟩
  clear hbk e2 hRN hP
  go_wp2_with (first | (refine wpList_load_row rfl 28 _ rfl (w.heap.size + 2) rfl 28 #[.string a0, .slice B1 r1.length d1, .int .i64 a2, .int .i64 a3, .int .i64 a4, .slice B5 r5.length d5, .slice B6 r6.length d6] (0, 0) _ h52 Tryz.underlying28 rfl sizePod ?_) | (refine wpList_store_row rfl 28 _ _ rfl (w.heap.size + 1) #[.string a0, .slice B1 r1.length d1, .int .i64 a2, .int .i64 a3, .int .i64 a4, .slice B5 r5.length d5, .slice B6 r6.length d6] rfl rfl 28 _ h51 sizePod rfl (by simp [Value.oneCell']) ?_) | fail)
  refine bodyPost_ret (v := .tuple #[.agg #[.string a0, .slice B1 r1.length d1, .int .i64 a2, .int .i64 a3, .int .i64 a4, .slice B5 r5.length d5, .slice B6 r6.length d6], .bool true]) ?_ rfl HR.out
  exact ret_cs (vs := [.string a0, .slice B1 r1.length d1, .int .i64 a2, .int .i64 a3, .int .i64 a4, .slice B5 r5.length d5, .slice B6 r6.length d6]) rfl rfl rfl rfl ⟨_, Tryz.underlying28⟩ sizePod (setRow_at (c := #[.string a0, .slice B1 r1.length d1, .int .i64 a2, .int .i64 a3, .int .i64 a4, .slice B5 r5.length d5, .slice B6 r6.length d6]) h51)
end Go.Proofs.YtcfbkfmkjggcdaaGreatDoor.pod
namespace Go.Proofs.YtcfbkfmkjggcdaaGreatDoor.need
open Go.ChangeShapes Go.WideShapes Go.ChangeAt Go.RowKit ty lab dedup
open Go.Sort (SWO PermIn SortedIn grow)
set_option linter.unusedVariables false

def cfN {w0 : World} {B f g : Nat} (x y : El1 w0 B f g) : Int := cmpN x.x y.x
theorem lt_cfN {w0 : World} {B f g : Nat} (x y : El1 w0 B f g) : ltOf cfN x y = lessN x.x y.x := by
  unfold ltOf cfN
  exact cmpN_less x.x y.x
theorem lessN_nt (a b c : Need) (h1 : lessN a b = false) (h2 : lessN b c = false) : lessN a c = false := by
  cases h : lessN a c with
  | false => rfl
  | true =>
    exfalso
    by_cases hba : lessN b a = true
    · have := lessN_tr b a c hba h
      rw [h2] at this; cases this
    · have hba : lessN b a = false := by simpa using hba
      rw [lessN_total a b h1 hba, h2] at h
      cases h
theorem swoN {w0 : World} {B f g : Nat} : SWO (ltOf (cfN (w0 := w0) (B := B) (f := f) (g := g))) where
  irrefl x := by rw [lt_cfN]; exact lessN_irr _
  trans x y z h1 h2 := by rw [lt_cfN] at *; exact lessN_tr _ _ _ h1 h2
  ntrans x y z h1 h2 := by rw [lt_cfN] at *; exact lessN_nt _ _ _ h1 h2
set_option maxRecDepth 100000 in
theorem sort_needs {w0 : World} {B f g : Nat} (l : List (El1 w0 B f g)) (c : Nat) (w : World) (hw0 : w0.grownBy w (some g)) (hown : w.ownsRow B 69 3 (.slice (some ⟨g, 0, none⟩) l.length c) l.length (l.flatMap El1.us)) (hn : l.length ≤ 1048576) :
    Calls Tryz.prog 166 #[.slice (some ⟨g, 0, none⟩) l.length c, .func (.func 100) #[] #[]] w fun e w' => e = .returned (.tuple #[]) ∧
      ∃ d : List (El1 w0 B f g), List.Perm d l ∧ d.Pairwise (fun a b => lessN b.x a.x = false) ∧ w'.ownsRow B 69 3 (.slice (some ⟨g, 0, none⟩) d.length c) d.length (d.flatMap El1.us) ∧ w.grownBy w' (some g) := by
  by_cases h0 : l = []
  · subst h0
    refine (AnyF.slices_SortFunc_none Tryz.sortNeed (some ⟨g, 0, none⟩) c _ w).mono ?_
    rintro e w' ⟨rfl, rfl⟩
    exact ⟨rfl, [], List.Perm.refl _, List.Pairwise.nil, hown, World.grownBy.refl _ _⟩
  have hpos : 0 < l.length := by cases l with
    | nil => exact absurd rfl h0
    | cons a r => simp
  haveI : Inhabited (El1 w0 B f g) := ⟨l[0]⟩
  have eg : ∀ args w, (callFunc 100 args).run Tryz.prog w = .ok (.enter 100 args) w := enters_of Tryz.func100 (by kernel_rfl) rfl
  have hcon := AnyQ.slices_SortFunc Tryz.sortNeed 3 Tryz.isAgg69 Tryz.sizeOf69 El1.us El1.len (fun x v hv => x.own.ones v hv) cfN swoN 100 #[] g 0 c l.toArray w eg (fun m os dk hs x y => cmp_gr x.x y.x f f x.us y.us _ (el_lies (grown_trans hw0 (grownBy_sortedK _ _)) x) (el_lies (grown_trans hw0 (grownBy_sortedK _ _)) y)) (holdsK_own (enc := El1.us) (k := 3) El1.len hown) (hown.lt g rfl).2 (by simp; omega)
  have hs : l.toArray.size = l.length := by simp
  rw [hs] at hcon
  refine hcon.mono ?_
  rintro e w' ⟨rfl, d', n, os, hp, hso, rfl⟩
  obtain ⟨hsz, _, hperm⟩ := hp
  rw [← hs, Array.extract_size] at hperm
  have e2 : d'.extract 0 l.toArray.size = d' := by rw [← hsz]; exact Array.extract_size
  rw [e2] at hperm
  have hl : d'.toList.length = l.length := by rw [Array.length_toList, hsz, hs]
  refine ⟨rfl, d'.toList, by simpa using hperm, ?_, ?_, grownBy_sortedK _ _⟩
  · rw [List.pairwise_iff_getElem]
    intro i j hi hj hij
    have h1 := hso i j (Nat.zero_le _) hij (by omega)
    have hi' : i < d'.size := by simpa using hi
    have hj' : j < d'.size := by simpa using hj
    rw [getElem!_pos d' i hi', getElem!_pos d' j hj', lt_cfN] at h1
    exact h1
  · have := own_sortedK (n := n) (os := os) (enc := El1.us) El1.len hl hown
    rw [hl] at this ⊢
    exact this
/-- The sorted requirements, each once, in the same block. -/
def OnceOutN {w0 : World} {B f g : Nat} (l : List (El1 w0 B f g)) (c : Nat) (w : World) (e : Ending) (w' : World) : Prop :=
  ∃ d : List (El1 w0 B f g), d.map El1.x = dsort lessN (l.map El1.x) ∧ ((l.flatMap El1.F).Nodup → (d.flatMap El1.F).Nodup) ∧ e = .returned (.slice (some ⟨g, 0, none⟩) d.length c) ∧ w'.ownsRow B 69 3 (.slice (some ⟨g, 0, none⟩) d.length c) d.length (d.flatMap El1.us) ∧ w.grownBy w' (some g)
set_option maxRecDepth 100000 in
set_option maxHeartbeats 8000000 in
theorem once_needs {w0 : World} {B f g : Nat} (l : List (El1 w0 B f g)) (c : Nat) (w : World) (hw0 : w0.grownBy w (some g)) (hown : w.ownsRow B 69 3 (.slice (some ⟨g, 0, none⟩) l.length c) l.length (l.flatMap El1.us)) (hn : l.length ≤ 1048576) :
    Calls Tryz.prog 99 #[.slice (some ⟨g, 0, none⟩) l.length c, .func (.func 100) #[] #[]] w fun e w' => OnceOutN l c w e w' := by
  have hglt := (hown.lt g rfl).2
  obtain ⟨W, hW⟩ : ∃ W, W = w.alloc (.cells #[.func (.func 100) #[] #[]] 127) := ⟨_, rfl⟩
  have hbW : Below w.heap.size w W := by rw [hW]; exact (Below.refl _ _).alloc (Nat.le_refl _) _
  have hcW : CmpN1 W w.heap.size := by
    unfold CmpN1
    rw [hW, cell_of_row _ _ _ _ _ _ (heap_alloc_new w _)]
    rfl
  have hgW : w0.grownBy W (some g) := grown_trans hw0 (grown_of_below hbW _)
  have HS := Lib.hid (sort_needs l c W hgW (own_below' hown hbW) hn)
  have c0 : W.cell? ⟨w.heap.size, 0, none⟩ = some (.func (.func 100) #[] #[]) := hcW
  have Hc := Lib.hid hcW
  have Hb := Lib.hid hbW
  have HW := Lib.hid hW
  have HgW := Lib.hid hgW
  clear hown hbW hcW hW hgW hw0
  go_enter Tryz.func99, Tryz.ntmps99
  go_wp2_with fail
  rw [← HW.out]
  go_wp2_with fail
  refine HS.out.mono ?_
  rintro e w2 ⟨rfl, d, hp, hpw, hown2, hgr2⟩
  have hbg : w.heap.size ≠ g := by omega
  have hblt := World.block_lt_of_cell? _ _ Hc.out
  have hc2 : CmpN1 w2 w.heap.size := (World.cell?_of_block (hgr2.block w.heap.size hblt (fun e => hbg (by injection e)))).trans Hc.out
  have hl := hp.length_eq
  have HC := Lib.hid (comp_needs d c w.heap.size w2 (grown_trans HgW.out hgr2) hown2 (by omega) hc2 hbg)
  rw [hl] at HC
  have Hgr := Lib.hid (grown_trans (grown_of_below Hb.out (some g)) hgr2)
  have Hsq : Hid ((sqTo El1.x d d.length).map El1.x = dsort lessN (l.map El1.x)) := by
    show (sqTo El1.x d d.length).map El1.x = _
    rw [sq_map]
    have h1 := sq_dsort ordN (l := l.map El1.x) (d := d.map El1.x) (hp.map _) (List.pairwise_map.2 hpw)
    rw [List.length_map] at h1
    exact h1
  have Hnd : Hid ((l.flatMap El1.F).Nodup → ((sqTo El1.x d d.length).flatMap El1.F).Nodup) := fun h => els_sub (by
    have := sq_sub El1.x d d.length (Nat.le_refl _)
    rwa [List.take_length] at this) (els_nodup hp h)
  clear hp hpw hown2 hgr2 hc2 hl c0
  go_wp2_with fail
  refine HC.out.mono ?_
  rintro e w3 ⟨d2, hd2, rfl, hown3, hgr3⟩
  have HR := Lib.hid (show OnceOutN l c w (.returned (.slice (some ⟨g, 0, none⟩) d2.length c)) w3 from ⟨d2, by rw [hd2]; exact Hsq.out, by rw [hd2]; exact Hnd.out, rfl, hown3, grown_trans Hgr.out hgr3⟩)
  clear hd2 hown3 hgr3 Hsq Hnd
  go_wp2_with fail
  go_ret
  exact HR.out
end Go.Proofs.YtcfbkfmkjggcdaaGreatDoor.need
namespace Go.Proofs.YtcfbkfmkjggcdaaGreatDoor.need
open Go.ChangeShapes Go.WideShapes Go.ChangeAt Go.RowKit ty lab dedup
set_option linter.unusedVariables false

/-- The list, its first j requirements put in order. -/
def midN (l : List Need) (j : Nat) : List Need := (l.take j).map normN ++ l.drop j
theorem mid_length (l : List Need) (j : Nat) : (midN l j).length = l.length := by
  unfold midN
  rw [List.length_append, List.length_map, List.length_take, List.length_drop]
  omega
theorem mid_get {l : List Need} {j : Nat} (h : j < l.length) : (midN l j)[j]'(by rw [mid_length]; exact h) = l[j] := by
  unfold midN
  rw [List.getElem_append_right (by simp [List.length_take]; omega)]
  simp [List.length_take, Nat.min_eq_left (Nat.le_of_lt h)]
theorem mid_next {l : List Need} {j : Nat} (h : j < l.length) : (midN l j).set j (normN l[j]) = midN l (j + 1) := by
  unfold midN
  have hl : ((l.take j).map normN).length = j := by rw [List.length_map, List.length_take, Nat.min_eq_left (by omega)]
  rw [List.set_append_right _ _ (by omega), hl, Nat.sub_self, List.take_succ_eq_append_getElem h, List.map_append]
  have e := List.drop_eq_getElem_cons h
  rw [e, List.set_cons_zero]
  simp
theorem mid_all (l : List Need) : midN l l.length = l.map normN := by
  unfold midN
  simp
set_option maxRecDepth 1000000 in
set_option maxHeartbeats 16000000 in
theorem impl_sortN (l : List Need) (f : Nat) (v : Value) (w : World) (h : Lies w f v (.sl 3 l.length (l.flatMap Need.row))) (hw : l.length + wsum Need.wt l ≤ 1048576) :
    Calls Tryz.prog 35 #[v] w fun e w' => ListOutC w w' e 3 Need.row (sortN l) := by
  have hvn : ∀ i (h : i < l.length), l[i].values.length ≤ 1048576 := fun i h => by
    have h1 := wsum_mem Need.wt h
    have h2 := wt_vals l[i]
    omega
  have HS := Lib.hid (impl_sortable l f v w h)
  have HC := Lib.hid (fun w' (hb : Below w.heap.size w w') => impl_copyN l f v w' (h.below hb) hw)
  have Hw := Lib.hid hw
  obtain ⟨A, c, rfl, hc1, hc2, _⟩ := els_of Need.row_length h
  unfold maxLen at hc2
  clear h hvn hw
  by_cases hs : l.length ≤ 40 ∧ FewN l l.length
  case neg =>
    rw [yes_f hs] at HS
    rw [sortN_no (fun h => hs ⟨h.1, h.2.1⟩)]
    clear hs Hw
    go_enter Tryz.func35, Tryz.ntmps35
    go_wp2_with fail
    refine HS.out.mono ?_
    rintro e w1 ⟨rfl, hb1⟩
    have Hb1 := Lib.hid hb1
    clear hb1
    go_wp2_with fail
    refine (HC.out w1 Hb1.out).mono ?_
    rintro e w2 ⟨g, cc, rfl, hrow, hb2⟩
    obtain ⟨F, ho, hnd, _⟩ := hrow.own
    have HR := Lib.hid (show ListOutC w w2 (.returned (.tuple #[.slice (some ⟨g, 0, none⟩) l.length cc, .bool false])) 3 Need.row (l, false) from ⟨_, _, F, rfl, ho.lower Hb1.out.size, hnd, below_link Hb1.out hb2 Hb1.out.size⟩)
    clear hrow hb2 ho hnd HC HS
    go_wp2_with fail
    go_ret2
    exact HR.out
  rw [yes_t hs] at HS
  obtain ⟨h40, hfew⟩ := hs
  have Hfew := Lib.hid hfew
  clear hfew
  go_enter Tryz.func35, Tryz.ntmps35
  go_wp2_with fail
  refine HS.out.mono ?_
  rintro e w1 ⟨rfl, hb1⟩
  have Hb1 := Lib.hid hb1
  clear hb1 HS
  go_wp2_with fail
  refine (HC.out w1 Hb1.out).mono ?_
  rintro e w2 ⟨g, cc, rfl, hrow, hb2⟩
  have Hg := Lib.hid (hrow.lt g rfl)
  have Hrow := Lib.hid (show OwnRowC w2 w1.heap.size 2 69 3 (.slice (some ⟨g, 0, none⟩) l.length cc) l.length ((midN l 0).flatMap Need.row) from by simpa [midN] using hrow)
  have Hb2 := Lib.hid (below_link Hb1.out hb2 Hb1.out.size)
  clear hrow hb2
  go_wp2_with fail
  go_loopw [15] (fun i wr => ∃ j : Nat, j ≤ l.length ∧ i = .int .i64 j ∧ OwnRowC wr w1.heap.size 2 69 3 (.slice (some ⟨g, 0, none⟩) l.length cc) l.length ((midN l j).flatMap Need.row) ∧ Below w.heap.size w wr) (fun i _ => l.length - (intOf i).toNat)
  case atStart => exact ⟨0, Nat.zero_le _, rfl, Hrow.out, Hb2.out⟩
  case round =>
    clear Hrow Hb2
    obtain ⟨j, hj, rfl, hrow, hbel⟩ := hrel
    have Hbel := Lib.hid hbel
    by_cases hlt : j < l.length
    · obtain ⟨d, hd1, hown, hnd⟩ := els_of_row hrow
      have hdl : d.length = l.length := by rw [← List.length_map (f := El1.x), hd1, mid_length]
      have hjd : j < d.length := by omega
      have hx : d[j].x = l[j] := by
        have h1 : (d.map El1.x)[j]'(by simpa using hjd) = d[j].x := List.getElem_map ..
        rw [← h1]
        simp only [hd1]
        exact mid_get hlt
      obtain ⟨A2, c2, hus, hwf, hov⟩ := d[j].vals
      have q2 : wr.cell? ⟨g, j * 3 + 2, none⟩ = some (.slice A2 d[j].x.values.length c2) := by
        rw [hown.cellAt (j * 3 + 2) (by omega), flat_get' El1.len d j 2 _ (List.getElem?_eq_getElem hjd) (by omega), hus]
        rfl
      have hf40 := Hfew.out j hlt hlt
      have HO := Lib.hid (once_vals d[j].x.values _ _ _ _ _ wr hov (by rw [hx]; omega))
      have Hput := Lib.hid (fun w2 w3 (A : Option Addr) (cc' : Nat) (G : List Cl) (hk : KeptC d[j].F wr w2) (hG : G.Nodup) (hGF : ∀ x ∈ G, x ∈ d[j].F) (ho : OwnC w2 w1.heap.size 2 (.slice A (dsort lessB d[j].x.values).length cc') (.sl 1 (dsort lessB d[j].x.values).length ((dsort lessB d[j].x.values).flatMap Str.row)) G) (h3 : w3 = w2.setCell ⟨g, j * 3 + 2, none⟩ (.slice A (dsort lessB d[j].x.values).length cc')) => row_put (w2 := w2) (w3 := w3) d hown hnd hjd (dsort lessB d[j].x.values) A cc' G hk hG hGF ho h3)
      have hset : (d.map El1.x).set j ⟨d[j].x.key, d[j].x.op, dsort lessB d[j].x.values⟩ = midN l (j + 1) := by
        rw [hd1, hx]
        exact mid_next hlt
      rw [hset] at Hput
      have Hout := Lib.hid d[j].out
      have Hrng := Lib.hid (fun x (hxF : x ∈ d[j].F) => (d[j].own.range x hxF).1)
      have hown2 := Lib.hid hown
      have Hgl := Lib.hid (hown.lt g rfl)
      clear hd1 hnd hx hwf hov hset hrow hbel hf40 hus hown
      generalize d[j].x.values.length = n2 at q2 HO
      generalize dsort lessB d[j].x.values = ds at HO Hput
      generalize d[j].F = Fj at HO Hput Hout Hrng
      go_wp2_with fail
      refine HO.out.mono ?_
      rintro e w3 ⟨A3, c3, G3, rfl, ho3, hG3, hGF3, hk3⟩
      have hg3 : w3.heap[g]? = wr.heap[g]? := hk3.block g Hgl.out.2 (fun hx => let ⟨m, hm⟩ := mem_blk.1 hx; Hout.out _ hm rfl)
      have hown3 := own_block hown2.out hg3
      have p3 : ∃ u, w3.cell? ⟨g, j * 3 + 2, none⟩ = some u := ⟨_, (hown3.cellAt (j * 3 + 2) (by omega)).trans (List.getElem?_eq_getElem (by rw [els_len]; omega))⟩
      obtain ⟨u3, p3⟩ := p3
      have f3 := hown3.frozenAt (j * 3 + 2)
      obtain ⟨w4, hz⟩ : ∃ w4, w3.setCell ⟨g, j * 3 + 2, none⟩ (.slice A3 ds.length c3) = w4 := ⟨_, rfl⟩
      obtain ⟨r1, r2⟩ := Hput.out w3 w4 A3 c3 G3 hk3 hG3 hGF3 ho3 hz.symm
      have Hr := Lib.hid r1
      have hge : w.heap.size ≤ w1.heap.size := Hb1.out.size
      have Hb4 := Lib.hid ((KeptC.below Hbel.out hk3 Hbel.out.size (fun x hx => Nat.le_trans hge (Hrng.out x hx))).grown r2 (Nat.le_trans Hbel.out.size hk3.size) (fun b hb => by injection hb with hb; subst hb; exact Nat.le_trans hge Hgl.out.1))
      clear r1 r2 ho3 hk3 hG3 hGF3 hg3 hown3 hown2 Hput HO
      go_wp2_with fail
      go_roundw
      case rel => exact ⟨j + 1, by omega, by go_num, Hr.out, Hb4.out⟩
      case measure => simp [intOf]; omega
    · obtain rfl : j = l.length := by omega
      rw [mid_all] at hrow
      obtain ⟨d, hd1, hown, hnd⟩ := els_of_row hrow
      have hdl : d.length = l.length := by rw [← List.length_map (f := El1.x), hd1, List.length_map]
      rw [← hdl] at hown
      have HN := Lib.hid (once_needs d cc wr (World.grownBy.refl _ _) hown (by omega))
      rw [hdl] at HN
      have Hnd := Lib.hid hnd
      have Hgl := Lib.hid (hown.lt g rfl)
      have Hd := Lib.hid (show dsort lessN (d.map El1.x) = outN l by rw [hd1]; rfl)
      clear hrow hown hnd hd1 hbel hdl
      go_wp2_with fail
      refine HN.out.mono ?_
      rintro e w3 ⟨d2, hd2, hn2, rfl, hown2, hgr2⟩
      rw [Hd.out] at hd2
      have hl2 : d2.length = (outN l).length := by rw [← hd2, List.length_map]
      have hrow2 := row_of_els d2 hgr2 hown2 (hn2 Hnd.out)
      rw [hd2, hl2] at hrow2
      rw [hl2]
      have hge : w.heap.size ≤ w1.heap.size := Hb1.out.size
      have Hb3 := Lib.hid (Hbel.out.grown hgr2 Hbel.out.size (fun b hb => by injection hb with hb; subst hb; exact Nat.le_trans hge Hgl.out.1))
      obtain ⟨F, ho, hndF, _⟩ := hrow2.own
      have hwo := wt_out l
      have hlo := outN_length l
      have hwl := Hw.out
      have HL := Lib.hid (impl_sel (outN l) _ _ w3 ho.lies (by omega))
      have HR := Lib.hid (fun w4 (hb : Below w3.heap.size w3 w4) => show ListOutC w w4 (.returned (.tuple #[.slice (some ⟨g, 0, none⟩) (outN l).length cc, .bool true])) 3 Need.row (outN l, true) from ⟨_, _, F, rfl, (ho.below hb).lower hge, hndF, below_link Hb3.out hb Hb3.out.size⟩)
      clear hd2 hn2 hown2 hgr2 hrow2 ho hndF hwo hlo hwl HN Hnd Hd hl2
      by_cases hP : SelP (outN l)
      · rw [yes_t hP] at HL
        have HE := Lib.hid (sortN_yes (l := l) ⟨h40, Hfew.out, hP⟩)
        clear hP HC
        generalize outN l = o at *
        go_wp2_with fail
        refine HL.out.mono ?_
        rintro e w4 ⟨rfl, hb4⟩
        go_wp2_with fail
        go_ret2
        rw [HE.out]
        exact HR.out _ hb4
      · rw [yes_f hP] at HL
        have HE := Lib.hid (sortN_no (l := l) (fun h => hP h.2.2))
        clear hP HR
        generalize outN l = o at *
        go_wp2_with fail
        refine HL.out.mono ?_
        rintro e w4 ⟨rfl, hb4⟩
        have Hb4 := Lib.hid (below_link Hb3.out hb4 Hb3.out.size)
        clear hb4
        go_wp2_with fail
        refine (HC.out w4 Hb4.out).mono ?_
        rintro e w5 ⟨g5, c5, rfl, hrow5, hb5⟩
        obtain ⟨F5, ho5, hnd5, _⟩ := hrow5.own
        have HR := Lib.hid (show ListOutC w w5 (.returned (.tuple #[.slice (some ⟨g5, 0, none⟩) l.length c5, .bool false])) 3 Need.row (l, false) from ⟨_, _, F5, rfl, ho5.lower Hb4.out.size, hnd5, below_link Hb4.out hb5 Hb4.out.size⟩)
        clear hrow5 hb5 ho5 hnd5 HC
        go_wp2_with fail
        go_ret2
        rw [HE.out]
        exact HR.out
end Go.Proofs.YtcfbkfmkjggcdaaGreatDoor.need
