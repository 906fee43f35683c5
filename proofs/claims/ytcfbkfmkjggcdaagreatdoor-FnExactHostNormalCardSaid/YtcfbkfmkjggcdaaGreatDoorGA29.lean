/- Merged: NormHS MkTaintSC MkHostC OwHostC CopTaintC CopyHI. -/
import Derived.Test.YtcfbkfmkjggcdaaGreatDoorGA25
import Derived.Test.YtcfbkfmkjggcdaaGreatDoorGA26
import Derived.Test.YtcfbkfmkjggcdaaGreatDoorSortS
import Derived.Test.YtcfbkfmkjggcdaaGreatDoorSrtTaintS
import Derived.Test.YtcfbkfmkjggcdaaGreatDoorGA7
import Derived.Deep.WholeRow
import Derived.Test.YtcfbkfmkjggcdaaGreatDoorGA4
import Derived.Test.YtcfbkfmkjggcdaaGreatDoorGA2
import Derived.Test.YtcfbkfmkjggcdaaGreatDoorOwnC
import Derived.Test.YtcfbkfmkjggcdaaGreatDoorGA8
import Derived.Test.YtcfbkfmkjggcdaaGreatDoorGA6
import Derived.Test.YtcfbkfmkjggcdaaGreatDoorGA24
import Derived.Test.YtcfbkfmkjggcdaaGreatDoorRows
import Derived.ProofKit
import Derived.OpenShut
import Derived.Test.YtcfbkfmkjggcdaaGreatDoorGA28
namespace Go.Proofs.YtcfbkfmkjggcdaaGreatDoor.pod
open Go.ChangeShapes Go.WideShapes Go.ChangeAt Go.RowKit ty lab need taint
set_option linter.unusedVariables false
set_option maxRecDepth 100000 in
set_option maxHeartbeats 32000000 in
theorem spec_hostN (x : Host) (f : Nat) (us : List Value) (w : World) (h : LiesS w f us x.row) (hz : x.wt ≤ 1048576) (hzo : (hostO x).wt ≤ 1048576) :
    Calls Tryz.prog 12 #[.agg us.toArray] w fun e w' => NormOut Host.row w w' e (hostN x) := by
  have HCP := Lib.hid (fun w' (hb : Below w.heap.size w w') => spec_copyH x f us w' (h.kept hb.block) hz)
  have hyes := hostN_yes (x := x)
  have hno := hostN_no (x := x)
  obtain ⟨a0, a1, a2, a3, a4, a5⟩ := x
  obtain ⟨A1, c1, A5, c5, rfl, hwf, k1, m1, l1, k5, m5, l5⟩ := Host.opened h
  unfold Host.wt at hz
  unfold hostO at hyes hno hzo
  simp only at hz hzo hyes hno hwf k1 m1 l1 k5 m5 l5
  have C1 := Lib.hid (fun w' (hb : Below w.heap.size w w') => spec_sort a1 f _ w' (l1.below hb) (small_of (by omega)) (by omega))
  have C5 := Lib.hid (fun w' (hb : Below w.heap.size w w') => spec_sortTaint a5 f _ w' (l5.below hb) (by omega) (by omega))
  obtain ⟨⟨r1, t1⟩, hR1⟩ : ∃ R, R = sortF a1 := ⟨_, rfl⟩
  rw [← hR1] at C1 hyes hno hzo
  obtain ⟨⟨r5, t5⟩, hR5⟩ : ∃ R, R = sortL TaintsP lessT a5 := ⟨_, rfl⟩
  rw [← hR5] at C5 hyes hno hzo
  clear hR1 hR5
  simp only at hyes hno hzo
  generalize hostN ⟨a0, a1, a2, a3, a4, a5⟩ = RN at hyes hno ⊢
  have Hyes := Lib.hid hyes
  have Hno := Lib.hid hno
  have Hzo := Lib.hid hzo
  clear hyes hno hzo
  obtain ⟨w1, hw1⟩ : ∃ w1, w1 = ((w.alloc (.cells #[.string a0, .slice A1 a1.length c1, .int .i64 a2, .int .i64 a3, .int .i64 a4, .slice A5 a5.length c5] 32)).alloc (.cells #[.string ⟨#[]⟩, .slice none 0 0, .int .i64 0, .int .i64 0, .int .i64 0, .slice none 0 0] 32)).alloc (.cells #[.string a0, .slice A1 a1.length c1, .int .i64 a2, .int .i64 a3, .int .i64 a4, .slice A5 a5.length c5] 32) := ⟨_, rfl⟩
  have S0 := Lib.hid (show St3 32 32 w [.string a0, .slice A1 a1.length c1, .int .i64 a2, .int .i64 a3, .int .i64 a4, .slice A5 a5.length c5] [.string ⟨#[]⟩, .slice none 0 0, .int .i64 0, .int .i64 0, .int .i64 0, .slice none 0 0] [.string a0, .slice A1 a1.length c1, .int .i64 a2, .int .i64 a3, .int .i64 a4, .slice A5 a5.length c5] w1 by rw [hw1]; exact St3.new)
  have Hwf := Lib.hid hwf
  have Hw1 := Lib.hid hw1
  clear h hz hwf hw1 k1 m1 l1 k5 m5 l5
  go_enter Tryz.func12, Tryz.ntmps12
  go_wp2_with fail
  rw [← Hw1.out]
  clear Hw1
  refine (C1.out _ S0.out.bel).mono ?_
  rintro e y1 ⟨v1, f1, F1, rfl, o1, n1, hb1⟩
  obtain ⟨B1, d1, rfl, _, _, _⟩ := o1.lies.sl
  have O1_1 := Lib.hid (show Og y1 w1.heap.size y1.heap.size (f1 + 1) (.slice B1 r1.length d1) (.sl 2 r1.length (r1.flatMap Label.row)) F1 from ⟨o1, n1, o1.range⟩)
  have Hlt1 := Lib.hid S0.out.lt
  have Hs1 := Lib.hid (show w1.heap.size ≤ y1.heap.size from hb1.size)
  have S1 := Lib.hid (S0.out.call hb1)
  clear hb1 o1 n1 S0
  have pc5 := S1.out.k0.cell 5 _ rfl
  go_wp2_with fail
  clear pc5
  refine (C5.out _ S1.out.bel).mono ?_
  rintro e y5 ⟨v5, f5, F5, rfl, o5, n5, hb5⟩
  obtain ⟨B5, d5, rfl, _, _, _⟩ := o5.lies.sl
  have O5_5 := Lib.hid (show Og y5 y1.heap.size y5.heap.size (f5 + 1) (.slice B5 r5.length d5) (.sl 3 r5.length (r5.flatMap Taint.row)) F5 from ⟨o5, n5, o5.range⟩)
  have Hlt5 := Lib.hid S1.out.lt
  have Hs5 := Lib.hid (show y1.heap.size ≤ y5.heap.size from hb5.size)
  have S5 := Lib.hid (S1.out.call hb5)
  have O1_5 := Lib.hid (O1_1.out.call hb5)
  clear hb5 o5 n5 S1 O1_1
  have s0 := S5.out
  have g1_0 := O1_5.out
  have g5_0 := O5_5.out
  have p1 : (y5).cell? ⟨w.heap.size + 2, 1, none⟩ = some (.slice A1 a1.length c1) := s0.k2.cell 1 _ rfl
  have q1 := RowE.frozen s0.k2 1
  have s1 : St3 32 32 w [.string a0, .slice A1 a1.length c1, .int .i64 a2, .int .i64 a3, .int .i64 a4, .slice A5 a5.length c5] [.string ⟨#[]⟩, .slice none 0 0, .int .i64 0, .int .i64 0, .int .i64 0, .slice none 0 0] [.string a0, .slice B1 r1.length d1, .int .i64 a2, .int .i64 a3, .int .i64 a4, .slice A5 a5.length c5] ((y5).setCell ⟨w.heap.size + 2, 1, none⟩ (.slice B1 r1.length d1)) := s0.put 1 (.slice B1 r1.length d1)
  have g1_1 := Og.put (j := 1) (u := .slice B1 r1.length d1) g1_0 (show w.heap.size + 2 < _ by have := Hlt1.out; omega)
  have g5_1 := Og.put (j := 1) (u := .slice B1 r1.length d1) g5_0 (show w.heap.size + 2 < _ by have := Hlt5.out; omega)
  have p5 : ((y5).setCell ⟨w.heap.size + 2, 1, none⟩ (.slice B1 r1.length d1)).cell? ⟨w.heap.size + 2, 5, none⟩ = some (.slice A5 a5.length c5) := s1.k2.cell 5 _ rfl
  have q5 := RowE.frozen s1.k2 5
  have s2 : St3 32 32 w [.string a0, .slice A1 a1.length c1, .int .i64 a2, .int .i64 a3, .int .i64 a4, .slice A5 a5.length c5] [.string ⟨#[]⟩, .slice none 0 0, .int .i64 0, .int .i64 0, .int .i64 0, .slice none 0 0] [.string a0, .slice B1 r1.length d1, .int .i64 a2, .int .i64 a3, .int .i64 a4, .slice B5 r5.length d5] (((y5).setCell ⟨w.heap.size + 2, 1, none⟩ (.slice B1 r1.length d1)).setCell ⟨w.heap.size + 2, 5, none⟩ (.slice B5 r5.length d5)) := s1.put 5 (.slice B5 r5.length d5)
  have g1_2 := Og.put (j := 5) (u := .slice B5 r5.length d5) g1_1 (show w.heap.size + 2 < _ by have := Hlt1.out; omega)
  have g5_2 := Og.put (j := 5) (u := .slice B5 r5.length d5) g5_1 (show w.heap.size + 2 < _ by have := Hlt5.out; omega)
  obtain ⟨zz, hzz⟩ : ∃ z, ((y5).setCell ⟨w.heap.size + 2, 1, none⟩ (.slice B1 r1.length d1)).setCell ⟨w.heap.size + 2, 5, none⟩ (.slice B5 r5.length d5) = z := ⟨_, rfl⟩
  rw [hzz] at s2 g1_2 g5_2
  have SZ := Lib.hid s2
  obtain ⟨F, ho, hnd, _⟩ := Host.owned (x := (⟨a0, r1, a2, a3, a4, r5⟩ : Host)) (f := (f1 + f5)) (w := zz) (B := w.heap.size + 3) (show Host.Wf (⟨a0, r1, a2, a3, a4, r5⟩ : Host) from Hwf.out) (Own.deeper (by omega) (g1_2.own.lower (B' := w.heap.size + 3) (by have := Hs1.out; have := Hlt1.out; have := Hs5.out; have := Hlt5.out; omega))) (Own.deeper (by omega) (g5_2.own.lower (B' := w.heap.size + 3) (by have := Hs1.out; have := Hlt1.out; have := Hs5.out; have := Hlt5.out; omega))) g1_2.nod g5_2.nod (g1_2.apart g5_2 (by have := Hs1.out; have := Hlt1.out; have := Hs5.out; have := Hlt5.out; omega))
  have HO := Lib.hid ho
  have HF := Lib.hid hnd
  have HOK := Lib.hid (fun w' (hb : Below zz.heap.size zz w') => spec_host (⟨a0, r1, a2, a3, a4, r5⟩ : Host) _ _ w' (ho.lies.kept hb.block) Hzo.out)
  clear ho hnd s0 g1_0 g5_0 s1 g1_1 g5_1 s2 g1_2 g5_2
  cases t1 with
  | false =>
    have e0 := SZ.out.k0
    have x0 := e0.cell 0 _ rfl
    have x1 := e0.cell 1 _ rfl
    have x2 := e0.cell 2 _ rfl
    have x3 := e0.cell 3 _ rfl
    have x4 := e0.cell 4 _ rfl
    have x5 := e0.cell 5 _ rfl
    clear e0
    go_wp2_with fail
    clear hzz p1 q1 p5 q5 x0 x1 x2 x3 x4 x5
    refine (HCP.out _ SZ.out.bel).mono ?_
    rintro e y ⟨us, F9, rfl, ho, hnd, hb⟩
    obtain ⟨u0, u1, u2, u3, u4, u5, rfl⟩ := of_Host (ho.1.trans (Host.row_length _))
    have one := ho.one
    have SY := SZ.out.call hb
    have h51 := SY.k1
    have hlt := SZ.out.lt
    unfold RowE at h51
    have HR : Hid (NormOut Host.row w (y.setRow (w.heap.size + 1) #[u0, u1, u2, u3, u4, u5]) (.returned (.tuple #[.agg #[u0, u1, u2, u3, u4, u5], .bool false])) RN) := by
      unfold Hid
      rw [Hno.out (by simp)]
      exact ⟨[u0, u1, u2, u3, u4, u5], 1, F9, rfl, (owns_setRow ho (by omega)).lower (by omega), hnd, setRow_below SY.bel (by omega) _⟩
    clear ho hnd hb
    go_wp2_with (first | (refine wpList_store_row rfl 32 _ _ rfl (w.heap.size + 1) #[u0, u1, u2, u3, u4, u5] rfl rfl 32 _ h51 sizeHost rfl one ?_) | fail)
    refine bodyPost_ret (v := .tuple #[.agg #[u0, u1, u2, u3, u4, u5], .bool false]) ?_ rfl HR.out
    exact ret_cs (vs := [u0, u1, u2, u3, u4, u5]) rfl rfl rfl rfl ⟨_, Tryz.underlying32⟩ sizeHost (setRow_at (c := #[u0, u1, u2, u3, u4, u5]) h51)
  | true =>
  cases t5 with
  | false =>
    have e0 := SZ.out.k0
    have x0 := e0.cell 0 _ rfl
    have x1 := e0.cell 1 _ rfl
    have x2 := e0.cell 2 _ rfl
    have x3 := e0.cell 3 _ rfl
    have x4 := e0.cell 4 _ rfl
    have x5 := e0.cell 5 _ rfl
    clear e0
    go_wp2_with fail
    clear hzz p1 q1 p5 q5 x0 x1 x2 x3 x4 x5
    refine (HCP.out _ SZ.out.bel).mono ?_
    rintro e y ⟨us, F9, rfl, ho, hnd, hb⟩
    obtain ⟨u0, u1, u2, u3, u4, u5, rfl⟩ := of_Host (ho.1.trans (Host.row_length _))
    have one := ho.one
    have SY := SZ.out.call hb
    have h51 := SY.k1
    have hlt := SZ.out.lt
    unfold RowE at h51
    have HR : Hid (NormOut Host.row w (y.setRow (w.heap.size + 1) #[u0, u1, u2, u3, u4, u5]) (.returned (.tuple #[.agg #[u0, u1, u2, u3, u4, u5], .bool false])) RN) := by
      unfold Hid
      rw [Hno.out (by simp)]
      exact ⟨[u0, u1, u2, u3, u4, u5], 1, F9, rfl, (owns_setRow ho (by omega)).lower (by omega), hnd, setRow_below SY.bel (by omega) _⟩
    clear ho hnd hb
    go_wp2_with (first | (refine wpList_store_row rfl 32 _ _ rfl (w.heap.size + 1) #[u0, u1, u2, u3, u4, u5] rfl rfl 32 _ h51 sizeHost rfl one ?_) | fail)
    refine bodyPost_ret (v := .tuple #[.agg #[u0, u1, u2, u3, u4, u5], .bool false]) ?_ rfl HR.out
    exact ret_cs (vs := [u0, u1, u2, u3, u4, u5]) rfl rfl rfl rfl ⟨_, Tryz.underlying32⟩ sizeHost (setRow_at (c := #[u0, u1, u2, u3, u4, u5]) h51)
  | true =>
  have e2 := SZ.out.k2
  have x0 := e2.cell 0 _ rfl
  have x1 := e2.cell 1 _ rfl
  have x2 := e2.cell 2 _ rfl
  have x3 := e2.cell 3 _ rfl
  have x4 := e2.cell 4 _ rfl
  have x5 := e2.cell 5 _ rfl
  by_cases hP : HostP (⟨a0, r1, a2, a3, a4, r5⟩ : Host)
  case neg =>
    rw [yes_f hP] at HOK
    go_wp2_with fail
    clear hzz p1 q1 p5 q5 x0 x1 x2 x3 x4 x5
    refine (HOK.out _ (Below.refl _ _)).mono ?_
    rintro e yk ⟨rfl, hbk⟩
    have SK := Lib.hid (SZ.out.call hbk)
    clear hbk e2
    have Hno := Lib.hid (Hno.out (by rintro ⟨_, _, h9⟩; exact hP h9))
    clear hP
    have e0 := SK.out.k0
    have x0 := e0.cell 0 _ rfl
    have x1 := e0.cell 1 _ rfl
    have x2 := e0.cell 2 _ rfl
    have x3 := e0.cell 3 _ rfl
    have x4 := e0.cell 4 _ rfl
    have x5 := e0.cell 5 _ rfl
    clear e0
    go_wp2_with fail
    clear x0 x1 x2 x3 x4 x5
    refine (HCP.out _ SK.out.bel).mono ?_
    rintro e y ⟨us, F9, rfl, ho, hnd, hb⟩
    obtain ⟨u0, u1, u2, u3, u4, u5, rfl⟩ := of_Host (ho.1.trans (Host.row_length _))
    have one := ho.one
    have SY := SK.out.call hb
    have h51 := SY.k1
    have hlt := SK.out.lt
    unfold RowE at h51
    have HR : Hid (NormOut Host.row w (y.setRow (w.heap.size + 1) #[u0, u1, u2, u3, u4, u5]) (.returned (.tuple #[.agg #[u0, u1, u2, u3, u4, u5], .bool false])) RN) := by
      unfold Hid
      rw [Hno.out]
      exact ⟨[u0, u1, u2, u3, u4, u5], 1, F9, rfl, (owns_setRow ho (by omega)).lower (by omega), hnd, setRow_below SY.bel (by omega) _⟩
    clear ho hnd hb
    go_wp2_with (first | (refine wpList_store_row rfl 32 _ _ rfl (w.heap.size + 1) #[u0, u1, u2, u3, u4, u5] rfl rfl 32 _ h51 sizeHost rfl one ?_) | fail)
    refine bodyPost_ret (v := .tuple #[.agg #[u0, u1, u2, u3, u4, u5], .bool false]) ?_ rfl HR.out
    exact ret_cs (vs := [u0, u1, u2, u3, u4, u5]) rfl rfl rfl rfl ⟨_, Tryz.underlying32⟩ sizeHost (setRow_at (c := #[u0, u1, u2, u3, u4, u5]) h51)
  rw [yes_t hP] at HOK
  have hRN := Hyes.out rfl rfl hP
  go_wp2_with fail
  clear hzz p1 q1 p5 q5 x0 x1 x2 x3 x4 x5
  refine (HOK.out _ (Below.refl _ _)).mono ?_
  rintro e yk ⟨rfl, hbk⟩
  have SK := SZ.out.call hbk
  have h51 := SK.k1
  have h52 := SK.k2
  have hlt := SZ.out.lt
  unfold RowE at h51 h52
  have HR : Hid (NormOut Host.row w (yk.setRow (w.heap.size + 1) #[.string a0, .slice B1 r1.length d1, .int .i64 a2, .int .i64 a3, .int .i64 a4, .slice B5 r5.length d5]) (.returned (.tuple #[.agg #[.string a0, .slice B1 r1.length d1, .int .i64 a2, .int .i64 a3, .int .i64 a4, .slice B5 r5.length d5], .bool true])) RN) := by
    unfold Hid
    rw [hRN]
    exact ⟨[.string a0, .slice B1 r1.length d1, .int .i64 a2, .int .i64 a3, .int .i64 a4, .slice B5 r5.length d5], (f1 + f5), F, rfl, (owns_setRow (HO.out.below hbk) (show w.heap.size + 1 < w.heap.size + 3 by omega)).lower (by omega), HF.out, setRow_below SK.bel (by omega) _⟩
  clear hbk e2 hRN hP
  go_wp2_with (first | (refine wpList_load_row rfl 32 _ rfl (w.heap.size + 2) rfl 32 #[.string a0, .slice B1 r1.length d1, .int .i64 a2, .int .i64 a3, .int .i64 a4, .slice B5 r5.length d5] (0, 0) _ h52 Tryz.underlying32 rfl sizeHost ?_) | (refine wpList_store_row rfl 32 _ _ rfl (w.heap.size + 1) #[.string a0, .slice B1 r1.length d1, .int .i64 a2, .int .i64 a3, .int .i64 a4, .slice B5 r5.length d5] rfl rfl 32 _ h51 sizeHost rfl (by simp [Value.oneCell']) ?_) | fail)
  refine bodyPost_ret (v := .tuple #[.agg #[.string a0, .slice B1 r1.length d1, .int .i64 a2, .int .i64 a3, .int .i64 a4, .slice B5 r5.length d5], .bool true]) ?_ rfl HR.out
  exact ret_cs (vs := [.string a0, .slice B1 r1.length d1, .int .i64 a2, .int .i64 a3, .int .i64 a4, .slice B5 r5.length d5]) rfl rfl rfl rfl ⟨_, Tryz.underlying32⟩ sizeHost (setRow_at (c := #[.string a0, .slice B1 r1.length d1, .int .i64 a2, .int .i64 a3, .int .i64 a4, .slice B5 r5.length d5]) h51)
end Go.Proofs.YtcfbkfmkjggcdaaGreatDoor.pod
namespace Go.Proofs.YtcfbkfmkjggcdaaGreatDoor.ty
open Go.ChangeShapes Go.WideShapes Go.ChangeAt Go.RowKit
set_option linter.unusedVariables false

theorem mkTaintSC_nil (A : Option Addr) (c : Nat) (k : Int) (w : World) (h0 : 0 ≤ k) (hk : k ≤ 4611686018427387904) :
    Calls Tryz.prog 79 #[.slice A 0 c, .int .i64 k] w fun e w' => e = .returned (.int .i64 k) ∧ w' = w := by
  go_enter Tryz.func79, Tryz.ntmps79
  go_wp2_with fail
  refine wp_loop_rounds 1 ?_
  rw [rounds_succ]
  go_wp2_with fail
  go_ret
  exact ⟨rfl, rfl⟩
set_option maxRecDepth 100000 in
set_option maxHeartbeats 8000000 in
theorem mkTaintSC (B : Nat) (v : Value) (l : List Taint) (f : Nat) (F : List Cl) (k : Int) (w : World) (hown : OwnC w B (f + 1) v (.sl 3 l.length (l.flatMap Taint.row)) F) (hnd : F.Nodup) (h0 : 0 ≤ k) (hk : k + wsum Taint.cost l ≤ 4611686018427387904) :
    Calls Tryz.prog 79 #[v, .int .i64 k] w fun e w' => e = .returned (.int .i64 (k + wsum Taint.cost l)) ∧ OwnC w' B (f + 1) v (.sl 3 l.length ((mks Taint.mark Taint.cost l k).flatMap Taint.row)) F ∧ KeptC F w w' := by
  obtain ⟨A, c, rfl, h1, h2⟩ := hown.is_slice
  by_cases hn0 : 0 < l.length
  case neg =>
    have : l = [] := List.eq_nil_of_length_eq_zero (by omega)
    subst this
    refine (mkTaintSC_nil A c k w h0 (by simpa [wsum] using hk)).mono ?_
    rintro e w' ⟨rfl, rfl⟩
    exact ⟨by simp [wsum], by simpa [mks] using hown, KeptC.refl _ _⟩
  obtain ⟨g, bo, rfl, _⟩ := hown.pos hn0
  have HP := Lib.hid hn0
  have hcm : l.length ≤ 9223372036854775807 := by unfold maxLen at h2; omega
  clear hn0
  have Hown := Lib.hid hown
  clear hown
  go_enter Tryz.func79, Tryz.ntmps79
  go_wp2_with fail
  go_loopw [1, 5] (fun a i wr => ∃ (j : Nat), j ≤ l.length ∧ i = .int .i64 j ∧ a = .int .i64 (k + wsum Taint.cost (l.take j)) ∧ OwnC wr B (f + 1) (.slice (some ⟨g, bo, none⟩) l.length c) (.sl 3 l.length ((mks Taint.mark Taint.cost (l.take j) k ++ l.drop j).flatMap Taint.row)) F ∧ KeptC F w wr) (fun _ i _ => l.length - (intOf i).toNat)
  case atStart => exact ⟨0, Nat.zero_le _, rfl, by simp [wsum], by simpa [mks] using Hown.out, KeptC.refl _ _⟩
  case round =>
    clear Hown
    obtain ⟨j, hj, rfl, rfl, hown, hkb⟩ := hrel
    by_cases hlt : j < l.length
    · have hdrop : l.drop j = l[j] :: l.drop (j + 1) := List.drop_eq_getElem_cons hlt
      have hnext := wsum_take Taint.cost hlt
      have hall := wsum_all Taint.cost l (j + 1)
      have hmark := mks_next Taint.mark Taint.cost hlt k
      rw [hdrop, List.flatMap_append, List.flatMap_cons] at hown
      have Hmark := Lib.hid hmark
      have HL := Lib.hid (show ((mks Taint.mark Taint.cost (l.take j) k).flatMap Taint.row).length = j * 3 by rw [flat_length' Taint.row_length, mks_length, List.length_take]; congr 1; omega)
      have Hnext := Lib.hid hnext
      obtain ⟨a0, a1, a2, hx⟩ : ∃ a0 a1 a2, l[j] = Taint.mk a0 a1 a2 := ⟨l[j].key, l[j].value, l[j].effect, rfl⟩
      rw [hx] at hown Hmark Hnext hnext
      rw [show Taint.cost (Taint.mk a0 a1 a2) = 3 from rfl] at Hnext hnext
      generalize wsum Taint.cost (l.take j) = C0 at *
      have hkk : k + C0 + 3 ≤ 4611686018427387904 := by omega
      clear hmark hnext hall hx hdrop
      obtain ⟨K, hK⟩ : ∃ K, k + C0 = K := ⟨_, rfl⟩
      rw [hK] at hkk Hmark ⊢
      have hK0 : 0 ≤ K := by omega
      have HK := Lib.hid hK
      clear hK
      generalize hLL : (mks Taint.mark Taint.cost (l.take j) k).flatMap Taint.row = L at *
      generalize hRR : (l.drop (j + 1)).flatMap Taint.row = R at *
      have hown0 : OwnC wr B (f + 1) (.slice (some ⟨g, bo, none⟩) l.length c) (.sl 3 l.length (mid L (Taint.row (Taint.mk a0 a1 a2)) R)) F := hown
      clear hown
      cases f with
      | zero =>
        obtain ⟨_, _, _, _, ho, _⟩ := OwnC.field hown0 HP.out hnd HL.out (r := 0) rfl
        exact ho.elim
      | succ f =>
      have HMT := Lib.hid (fun m w hm => lawMark.mark_text m w hm)
      have e2 : (K + 1) + 1 = K + 2 := by omega
      have e3 : (K + 2) + 1 = K + 3 := by omega
      go_wp2_with fail
      refine (HMT.out K _ (by omega)).mono ?_
      rintro e x1 ⟨rfl, hb1⟩
      have on1 := OwnC.below hown0 hb1
      have kn1 := KeptC.trans hkb (KeptC.of_below hb1)
      clear hb1 hown0 hkb
      obtain ⟨o0, b0, ⟨q0, p0⟩, f0⟩ := OwnC.put (r := 0) (d' := .str (lawMark.mt K)) (u' := .string (lawMark.mt K)) on1 HP.out hnd HL.out rfl trivial (fun w' => ownC_str (lawMark.mt_size _ (by omega)))
      have k0 := KeptC.trans kn1 b0
      simp only [Nat.add_zero] at o0 k0 p0 f0 b0
      clear b0 on1 kn1
      have Ho1 := Lib.hid o0
      have Hkb1 := Lib.hid k0
      clear o0 k0
      go_wp2_with fail
      refine (HMT.out (K + 1) _ (by omega)).mono ?_
      rintro e x2 ⟨rfl, hb2⟩
      have on2 := OwnC.below Ho1.out hb2
      have kn2 := KeptC.trans Hkb1.out (KeptC.of_below hb2)
      clear p0 f0 hb2 Ho1 Hkb1
      obtain ⟨o1, b1, ⟨q1, p1⟩, f1⟩ := OwnC.put (r := 1) (d' := .str (lawMark.mt (K + 1))) (u' := .string (lawMark.mt (K + 1))) on2 HP.out hnd HL.out rfl trivial (fun w' => ownC_str (lawMark.mt_size _ (by omega)))
      have k1 := KeptC.trans kn2 b1
      clear b1 on2 kn2
      obtain ⟨o2, b2, ⟨q2, p2⟩, f2⟩ := OwnC.put (r := 2) (d' := .int .i64 (K + 2)) (u' := .int .i64 (K + 2)) o1 HP.out hnd HL.out rfl trivial (fun w' => ownC_int (lawMark.wf_of (by omega) (by omega)))
      have k2 := KeptC.trans k1 b2
      clear b2 o1 k1
      have Ho9 : Hid (OwnC ((x2.setCell ⟨g, bo + j * 3 + 1, none⟩ (.string (lawMark.mt (K + 1)))).setCell ⟨g, bo + j * 3 + 2, none⟩ (.int .i64 (K + 2))) B (f + 1 + 1) (.slice (some ⟨g, bo, none⟩) l.length c) (.sl 3 l.length ((mks Taint.mark Taint.cost (l.take (j + 1)) k ++ l.drop (j + 1)).flatMap Taint.row)) F) := by
        unfold Hid
        rw [Hmark.out, List.flatMap_append, List.flatMap_cons, hLL, hRR]
        exact o2
      have Hkb9 := Lib.hid k2
      clear o2 k2 HMT
      go_wp2_with fail
      go_roundw
      case rel => exact ⟨j + 1, by omega, by go_num, by rw [Hnext.out]; have := HK.out; congr 1; omega, Ho9.out, Hkb9.out⟩
      case measure => simp [intOf]; omega
    · obtain rfl : j = l.length := by omega
      rw [List.take_of_length_le (Nat.le_refl _), List.drop_of_length_le (Nat.le_refl _), List.append_nil] at hown
      have Hown := Lib.hid hown
      have Hkb := Lib.hid hkb
      clear hown hkb
      rw [List.take_of_length_le (Nat.le_refl _)]
      go_wp2_with fail
      go_ret
      exact ⟨rfl, Hown.out, Hkb.out⟩
end Go.Proofs.YtcfbkfmkjggcdaaGreatDoor.ty
namespace Go.Proofs.YtcfbkfmkjggcdaaGreatDoor.ty
open Go.ChangeShapes Go.WideShapes Go.ChangeAt Go.RowKit
set_option linter.unusedVariables false

set_option maxRecDepth 100000 in
set_option maxHeartbeats 16000000 in
theorem mkHostC (x : Host) (B f : Nat) (us : List Value) (F : List Cl) (k : Int) (w : World) (hown : OwnCS w B (f + 1) us x.row F) (hnd : F.Nodup) (h0 : 0 ≤ k) (hk : k + (x.kost : Nat) ≤ 4611686018427387904) :
    Calls Tryz.prog 28 #[.agg us.toArray, .int .i64 k] w fun e w' => e = .returned (.int .i64 (k + (x.kost : Nat))) ∧ OwnCS w' B (f + 1) us (x.stamp k).row F ∧ KeptC F w w' := by
  obtain ⟨a0, a1, a2, a3, a4, a5⟩ := x
  rw [Host.row_stamp]
  rw [Host.kost_eq] at hk ⊢
  have h := hown
  unfold Host.row at h
  simp only at h
  obtain ⟨v0, us, F0, F', rfl, rfl, o0, h⟩ := h.uncons
  obtain ⟨v1, us, F1, F', rfl, rfl, o1, h⟩ := h.uncons
  obtain ⟨v2, us, F2, F', rfl, rfl, o2, h⟩ := h.uncons
  obtain ⟨v3, us, F3, F', rfl, rfl, o3, h⟩ := h.uncons
  obtain ⟨v4, us, F4, F', rfl, rfl, o4, h⟩ := h.uncons
  obtain ⟨v5, us, F5, F', rfl, rfl, o5, h⟩ := h.uncons
  obtain ⟨rfl, rfl⟩ := h.unnil
  obtain ⟨⟨rfl, w0⟩, rfl⟩ := o0
  obtain ⟨A1, c1, rfl, _, _, _⟩ := o1.lies.sl
  obtain ⟨⟨rfl, w2⟩, rfl⟩ := o2
  obtain ⟨⟨rfl, w3⟩, rfl⟩ := o3
  obtain ⟨⟨rfl, w4⟩, rfl⟩ := o4
  obtain ⟨A5, c5, rfl, _, _, _⟩ := o5.lies.sl
  clear hown
  simp only [List.nil_append, List.append_nil] at hnd ⊢
  obtain ⟨n1, n5, d1⟩ := List.nodup_append.1 hnd
  obtain ⟨w1, hw1⟩ : ∃ w1, w1 = w.alloc (.cells #[.string a0, .slice A1 a1.length c1, .int .i64 a2, .int .i64 a3, .int .i64 a4, .slice A5 a5.length c5] 32) := ⟨_, rfl⟩
  have hb1 : Below w.heap.size w w1 := by rw [hw1]; exact (Below.refl _ _).alloc (Nat.le_refl _) _
  have R1 : RowE 32 w1 w.heap.size [.string a0, .slice A1 a1.length c1, .int .i64 a2, .int .i64 a3, .int .i64 a4, .slice A5 a5.length c5] := by rw [hw1]; exact RowE.new _ _ _
  have g1 := o1.ranges
  have o1 := o1.below hb1
  have g5 := o5.ranges
  have o5 := o5.below hb1
  have KB1 : KeptC (F1 ++ (F5)) w w1 := KeptC.of_below hb1
  have p1 := R1.cell 1 _ rfl
  have p5 := R1.cell 5 _ rfl
  have C1 : 0 ≤ k ∧ k + (wsum Label.cost a1 : Nat) ≤ 4611686018427387904 := by constructor <;> omega
  have C5 : 0 ≤ k + (wsum Label.cost a1 : Nat) ∧ k + (wsum Label.cost a1 : Nat) + (wsum Taint.cost a5 : Nat) ≤ 4611686018427387904 := by constructor <;> omega
  have T1 := Lib.hid (fun w' ho => mkLabelSC B (.slice A1 a1.length c1) a1 f F1 (k) w' ho n1 C1.1 C1.2)
  have T5 := Lib.hid (fun w' ho => mkTaintSC B (.slice A5 a5.length c5) a5 f F5 (k + (wsum Label.cost a1 : Nat)) w' ho n5 C5.1 C5.2)
  have D1_5 : ∀ y ∈ F5, y ∉ F1 := fun y hy hx => d1 y hx y hy rfl
  have Hw1 := Lib.hid hw1
  clear hw1 h0 hk d1 C1 C5
  have G1 := Lib.hid g1
  clear g1
  have G5 := Lib.hid g5
  clear g5
  go_enter Tryz.func28, Tryz.ntmps28
  go_wp2_with fail
  rw [← Hw1.out]
  clear Hw1
  refine (T1.out _ o1).mono ?_
  rintro e y1 ⟨rfl, O1, kb1⟩
  have KB11 : KeptC (F1 ++ (F5)) w y1 := KB1.trans (kb1.mono fun x hx => List.mem_append_left _ hx)
  have R11 := (kb1.block w.heap.size (heap_lt R1) (fun hx => by have := (G1.out _ hx).2; omega)).trans R1
  have R11 : RowE 32 y1 w.heap.size [.string a0, .slice A1 a1.length c1, .int .i64 a2, .int .i64 a3, .int .i64 a4, .slice A5 a5.length c5] := R11
  have Q5_1 := OwnC.butC o5 kb1 (fun x hx => D1_5 x hx)
  clear p1 p5 kb1
  have p5_1 := R11.cell 5 _ rfl
  go_wp2_with fail
  refine (T5.out _ Q5_1).mono ?_
  rintro e y5 ⟨rfl, O5, kb5⟩
  have KB15 : KeptC (F1 ++ (F5)) w y5 := KB11.trans (kb5.mono fun x hx => List.mem_append_right _ hx)
  have R15 := (kb5.block w.heap.size (heap_lt R11) (fun hx => by have := (G5.out _ hx).2; omega)).trans R11
  have R15 : RowE 32 y5 w.heap.size [.string a0, .slice A1 a1.length c1, .int .i64 a2, .int .i64 a3, .int .i64 a4, .slice A5 a5.length c5] := R15
  have Q1_5 := OwnC.butC O1 kb5 (fun x hx => fun hy => D1_5 x hy hx)
  clear p5_1 kb5
  have HR := Lib.hid (show OwnCS y5 B (f + 1) _ _ _ ∧ KeptC (F1 ++ (F5)) w y5 from ⟨OwnCS.cons (ownC_str w0) (OwnCS.cons (Q1_5) (OwnCS.cons (ownC_int w2) (OwnCS.cons (ownC_int w3) (OwnCS.cons (ownC_int w4) (OwnCS.cons (O5) (OwnCS.nil)))))), KB15⟩)
  simp only [List.nil_append, List.append_nil] at HR
  go_wp2_with fail
  go_ret
  exact ⟨rfl, HR.out⟩
end Go.Proofs.YtcfbkfmkjggcdaaGreatDoor.ty
namespace Go.Proofs.YtcfbkfmkjggcdaaGreatDoor.ty.Host
open Go Go.RowKit
set_option linter.unusedVariables false
theorem ownedC {w : World} {B f : Nat} {x : Host} {v1 v5 : Value} {F1 F5 : List Cl} (h : x.Wf) (o1 : OwnC w B (f + 1) v1 (.sl 2 x.labels.length (x.labels.flatMap Label.row)) F1) (o5 : OwnC w B (f + 1) v5 (.sl 3 x.taints.length (x.taints.flatMap Taint.row)) F5) (n1 : F1.Nodup) (n5 : F5.Nodup) (d1_5 : ∀ y ∈ F1, y ∉ F5) : ∃ F, OwnCS w B (f + 1) [.string x.name, v1, .int .i64 x.cpu, .int .i64 x.mem, .int .i64 x.slots, v5] x.row F ∧ F.Nodup ∧ ∀ y ∈ F, y ∈ F1 ∨ y ∈ F5 := by
  obtain ⟨w0, w2, w3, w4⟩ := h
  refine ⟨_, OwnCS.cons (ownC_str w0) (OwnCS.cons o1 (OwnCS.cons (ownC_int w2) (OwnCS.cons (ownC_int w3) (OwnCS.cons (ownC_int w4) (OwnCS.cons o5 (OwnCS.nil)))))), ?_, ?_⟩
  · simp only [List.nil_append, List.append_nil]
    exact (List.nodup_append.2 ⟨n1, n5, fun a ha b hb e => d1_5 a ha (by rw [e]; exact hb)⟩)
  · simp only [List.nil_append, List.append_nil]
    intro y hy
    simpa only [List.mem_append] using hy
end Go.Proofs.YtcfbkfmkjggcdaaGreatDoor.ty.Host
namespace Go.Proofs.YtcfbkfmkjggcdaaGreatDoor.pod
open Go.ChangeShapes Go.WideShapes Go.ChangeAt Go.RowKit ty lab taint
set_option linter.unusedVariables false
theorem impl_copTaint (l : List Taint) (f : Nat) (v : Value) (w : World) (h : Lies w f v (.sl 3 l.length (l.flatMap Taint.row))) (hn : l.length ≤ 1048576) :
    Calls Tryz.prog 110 #[v] w fun e w' => CopyOutC w w' e 3 Taint.row l := by
  have hwf : ∀ x ∈ l, x.Wf := by
    obtain ⟨A, c, _, _, _, f', rfl, hk⟩ := els_of Taint.row_length h
    exact (rdk_Taint hk).2
  refine (impl_cofTaint l f v w h hn).mono ?_
  rintro e w1 ⟨g, c, rfl, hown, hb⟩
  obtain ⟨F, ho, hnd, _⟩ := own_Taint hown hwf
  obtain ⟨G, a, b, _⟩ := ho.toC hnd
  exact ⟨_, 1, G, rfl, a, b, hb⟩
end Go.Proofs.YtcfbkfmkjggcdaaGreatDoor.pod
namespace Go.Proofs.YtcfbkfmkjggcdaaGreatDoor.pod
open Go.ChangeShapes Go.WideShapes Go.ChangeAt Go.RowKit ty lab taint
set_option linter.unusedVariables false
set_option maxRecDepth 100000 in
set_option maxHeartbeats 16000000 in
theorem impl_copyH (x : Host) (f : Nat) (us : List Value) (w : World) (h : LiesS w f us x.row) (hz : x.wt ≤ 1048576) :
    Calls Tryz.prog 41 #[.agg us.toArray] w fun e w' => AggOutC w x.row e w' := by
  obtain ⟨a0, a1, a2, a3, a4, a5⟩ := x
  obtain ⟨A1, c1, A5, c5, rfl, hwf, k1, m1, l1, k5, m5, l5⟩ := Host.opened h
  unfold Host.wt at hz
  simp only at hz hwf k1 m1 l1 k5 m5 l5
  obtain ⟨w1, hw1⟩ : ∃ w1, w1 = (w.alloc (.cells #[.string a0, .slice A1 a1.length c1, .int .i64 a2, .int .i64 a3, .int .i64 a4, .slice A5 a5.length c5] 32)).alloc (.cells #[.string ⟨#[]⟩, .slice none 0 0, .int .i64 0, .int .i64 0, .int .i64 0, .slice none 0 0] 32) := ⟨_, rfl⟩
  have S0 := Lib.hid (show St2 32 w [.string a0, .slice A1 a1.length c1, .int .i64 a2, .int .i64 a3, .int .i64 a4, .slice A5 a5.length c5] [.string ⟨#[]⟩, .slice none 0 0, .int .i64 0, .int .i64 0, .int .i64 0, .slice none 0 0] w1 by rw [hw1]; exact St2.new)
  have T1 := Lib.hid (fun w' (hb : Below w.heap.size w w') => impl_copLabel a1 f _ w' (l1.below hb) (by omega))
  have T5 := Lib.hid (fun w' (hb : Below w.heap.size w w') => impl_copTaint a5 f _ w' (l5.below hb) (by omega))
  have Hwf := Lib.hid hwf
  have Hw1 := Lib.hid hw1
  clear h hz hwf hw1 k1 m1 l1 k5 m5 l5
  go_enter Tryz.func41, Tryz.ntmps41
  go_wp2_with fail
  rw [← Hw1.out]
  clear Hw1
  refine (T1.out _ S0.out.bel).mono ?_
  rintro e y1 ⟨v1, f1, F1, rfl, o1, n1, hb1⟩
  obtain ⟨B1, d1, rfl, _, _⟩ := o1.is_slice
  have g1 := o1.range
  have O1_0 : OgC y1 w1.heap.size y1.heap.size (f1 + 1) (.slice B1 a1.length d1) (.sl 2 a1.length (a1.flatMap Label.row)) F1 := ⟨o1, n1, g1⟩
  have Hlt1 := Lib.hid S0.out.lt
  have Hs1 := Lib.hid (show w1.heap.size ≤ y1.heap.size from hb1.size)
  have S1_0 := S0.out.call hb1
  have p1_0 : (y1).cell? ⟨w.heap.size, 1, none⟩ = some (.slice A1 a1.length c1) := S1_0.k0.cell 1 _ rfl
  have f1_0 := RowE.frozen S1_0.k0 1
  have S1_1 : St2 32 w [.string a0, .slice B1 a1.length d1, .int .i64 a2, .int .i64 a3, .int .i64 a4, .slice A5 a5.length c5] [.string ⟨#[]⟩, .slice none 0 0, .int .i64 0, .int .i64 0, .int .i64 0, .slice none 0 0] ((y1).setCell ⟨w.heap.size, 1, none⟩ (.slice B1 a1.length d1)) := S1_0.put 1 (.slice B1 a1.length d1)
  have O1_1 := OgC.put (j := 1) (u := .slice B1 a1.length d1) O1_0 (show w.heap.size < _ by have := Hlt1.out; omega)
  obtain ⟨z1, hz1⟩ : ∃ z, (y1).setCell ⟨w.heap.size, 1, none⟩ (.slice B1 a1.length d1) = z := ⟨_, rfl⟩
  have hE1 : ((y1).setCell ⟨w.heap.size, 1, none⟩ (.slice B1 a1.length d1)).heap.size = y1.heap.size := by simp only [size_setCell]
  rw [hz1] at S1_1 hE1 O1_1
  have S1 := Lib.hid S1_1
  have HE1 := Lib.hid hE1
  have O1at1 := Lib.hid O1_1
  clear hb1 o1 n1 g1 hE1 S1_0 S1_1 O1_1 O1_0 S0
  have pc5 := S1.out.k0.cell 5 _ rfl
  go_wp2_with fail
  refine (T5.out _ S1.out.bel).mono ?_
  rintro e y5 ⟨v5, f5, F5, rfl, o5, n5, hb5⟩
  obtain ⟨B5, d5, rfl, _, _⟩ := o5.is_slice
  have g5 := o5.range
  have O5_0 : OgC y5 z1.heap.size y5.heap.size (f5 + 1) (.slice B5 a5.length d5) (.sl 3 a5.length (a5.flatMap Taint.row)) F5 := ⟨o5, n5, g5⟩
  have Hlt5 := Lib.hid S1.out.lt
  have Hs5 := Lib.hid (show z1.heap.size ≤ y5.heap.size from hb5.size)
  have S5_0 := S1.out.call hb5
  have O1_5_0 := O1at1.out.call hb5
  have p5_0 : (y5).cell? ⟨w.heap.size, 5, none⟩ = some (.slice A5 a5.length c5) := S5_0.k0.cell 5 _ rfl
  have f5_0 := RowE.frozen S5_0.k0 5
  have S5_1 : St2 32 w [.string a0, .slice B1 a1.length d1, .int .i64 a2, .int .i64 a3, .int .i64 a4, .slice B5 a5.length d5] [.string ⟨#[]⟩, .slice none 0 0, .int .i64 0, .int .i64 0, .int .i64 0, .slice none 0 0] ((y5).setCell ⟨w.heap.size, 5, none⟩ (.slice B5 a5.length d5)) := S5_0.put 5 (.slice B5 a5.length d5)
  have O5_1 := OgC.put (j := 5) (u := .slice B5 a5.length d5) O5_0 (show w.heap.size < _ by have := Hlt5.out; omega)
  have O1_5_1 := OgC.put (j := 5) (u := .slice B5 a5.length d5) O1_5_0 (show w.heap.size < _ by have := Hlt1.out; omega)
  obtain ⟨z5, hz5⟩ : ∃ z, (y5).setCell ⟨w.heap.size, 5, none⟩ (.slice B5 a5.length d5) = z := ⟨_, rfl⟩
  have hE5 : ((y5).setCell ⟨w.heap.size, 5, none⟩ (.slice B5 a5.length d5)).heap.size = y5.heap.size := by simp only [size_setCell]
  rw [hz5] at S5_1 hE5 O5_1 O1_5_1
  have S5 := Lib.hid S5_1
  have HE5 := Lib.hid hE5
  have O5at5 := Lib.hid O5_1
  have O1at5 := Lib.hid O1_5_1
  clear hb5 o5 n5 g5 hE5 S5_0 S5_1 O5_1 O1_5_1 pc5 O5_0 O1_5_0 O1at1 S1
  have h52 := S5.out.k0
  have h51 := S5.out.k1
  unfold RowE at h51 h52
  go_wp2_with (first | (refine wpList_load_row rfl 32 _ rfl w.heap.size rfl 32 #[.string a0, .slice B1 a1.length d1, .int .i64 a2, .int .i64 a3, .int .i64 a4, .slice B5 a5.length d5] (0, 0) _ h52 Tryz.underlying32 rfl sizeHost ?_) | (refine wpList_store_row rfl 32 _ _ rfl (w.heap.size + 1) #[.string a0, .slice B1 a1.length d1, .int .i64 a2, .int .i64 a3, .int .i64 a4, .slice B5 a5.length d5] rfl rfl 32 _ h51 sizeHost rfl (by simp [Value.oneCell']) ?_) | fail)
  obtain ⟨F, ho, hnd, _⟩ := Host.ownedC (x := ⟨a0, a1, a2, a3, a4, a5⟩) (f := (f1 + f5)) (w := z5.setRow (w.heap.size + 1) #[.string a0, .slice B1 a1.length d1, .int .i64 a2, .int .i64 a3, .int .i64 a4, .slice B5 a5.length d5]) Hwf.out (O1at5.out.done (f' := (f1 + f5) + 1) (B' := w.heap.size) (c := #[.string a0, .slice B1 a1.length d1, .int .i64 a2, .int .i64 a3, .int .i64 a4, .slice B5 a5.length d5]) (show w.heap.size + 1 < _ by have := HE1.out; have := Hs1.out; have := Hlt1.out; have := HE5.out; have := Hs5.out; have := Hlt5.out; omega) (by have := HE1.out; have := Hs1.out; have := Hlt1.out; have := HE5.out; have := Hs5.out; have := Hlt5.out; omega) (by omega)) (O5at5.out.done (f' := (f1 + f5) + 1) (B' := w.heap.size) (c := #[.string a0, .slice B1 a1.length d1, .int .i64 a2, .int .i64 a3, .int .i64 a4, .slice B5 a5.length d5]) (show w.heap.size + 1 < _ by have := HE1.out; have := Hs1.out; have := Hlt1.out; have := HE5.out; have := Hs5.out; have := Hlt5.out; omega) (by have := HE1.out; have := Hs1.out; have := Hlt1.out; have := HE5.out; have := Hs5.out; have := Hlt5.out; omega) (by omega)) O1at5.out.nod O5at5.out.nod (O1at5.out.apart O5at5.out (by have := HE1.out; have := Hs1.out; have := Hlt1.out; have := HE5.out; have := Hs5.out; have := Hlt5.out; omega))
  refine bodyPost_ret (v := .agg #[.string a0, .slice B1 a1.length d1, .int .i64 a2, .int .i64 a3, .int .i64 a4, .slice B5 a5.length d5]) ?_ rfl ⟨_, (f1 + f5), F, rfl, ho, hnd, setRow_below S5.out.bel (by omega) _⟩
  exact results_cell_row rfl _ _ (w.heap.size + 1) _ _ (0, 0) _ rfl (setRow_at h51) Tryz.underlying32 rfl sizeHost
end Go.Proofs.YtcfbkfmkjggcdaaGreatDoor.pod
