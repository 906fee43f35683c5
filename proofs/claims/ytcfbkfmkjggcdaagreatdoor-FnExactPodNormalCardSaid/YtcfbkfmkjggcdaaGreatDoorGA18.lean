/- Merged: CopyNS CopyPS MkStrC MkNeedSC. -/
import Derived.Test.YtcfbkfmkjggcdaaGreatDoorGA11
import Derived.Test.YtcfbkfmkjggcdaaGreatDoorValsS
import Derived.Test.YtcfbkfmkjggcdaaGreatDoorGA3
import Derived.Test.YtcfbkfmkjggcdaaGreatDoorGA12
import Derived.Test.YtcfbkfmkjggcdaaGreatDoorGA7
import Derived.Test.YtcfbkfmkjggcdaaGreatDoorGA1
import Derived.Test.YtcfbkfmkjggcdaaGreatDoorGA10
import Derived.Test.YtcfbkfmkjggcdaaGreatDoorGA6
import Derived.Deep.WholeRow
import Derived.Test.YtcfbkfmkjggcdaaGreatDoorGA2
import Derived.Test.YtcfbkfmkjggcdaaGreatDoorOwnC
namespace Go.Proofs.YtcfbkfmkjggcdaaGreatDoor.need
open Go.ChangeShapes Go.WideShapes Go.ChangeAt Go.RowKit ty lab dedup
set_option linter.unusedVariables false

theorem rdkN_row {w : World} {b : Nat} {us : List Value} {e : TypeId} (hl : us.length = 3) (h : w.heap[b]? = some (.cells us.toArray e (0, 0))) : RdK w (some ⟨b, 0, none⟩) 1 3 us := by
  refine ⟨by rw [hl], fun _ => ⟨b, 0, rfl, heap_lt h, fun j u hu => ?_⟩⟩
  rw [Nat.zero_add, cell_of_row _ _ _ _ _ _ h]
  simpa using hu
set_option maxRecDepth 1000000 in
set_option maxHeartbeats 8000000 in
theorem spec_copyN (l : List Need) (f : Nat) (v : Value) (w : World) (h : Lies w f v (.sl 3 l.length (l.flatMap Need.row))) (hn : l.length ≤ 1048576) (hv : ∀ i (h : i < l.length), l[i].values.length ≤ 1048576) :
    Calls Tryz.prog 32 #[v] w fun e w' => ∃ v', e = .returned v' ∧ OwnRow w' w.heap.size 2 69 3 v' l.length (l.flatMap Need.row) ∧ Below w.heap.size w w' := by
  obtain ⟨A, c, rfl, hc1, hc2, f', rfl, hk⟩ := els_of Need.row_length h
  unfold maxLen at hc2
  obtain ⟨i0, hi, hz0, hz1, hz2⟩ := info_parts TryzinfoNeed
  obtain ⟨i1, hi1, hy0, hy1, hy2⟩ := info_parts TryzinfoStrV
  obtain ⟨w1, hw1⟩ : ∃ w1, w1 = w.alloc (.cells #[] 69) := ⟨_, rfl⟩
  have hb1 : Below w.heap.size w w1 := by rw [hw1]; exact (Below.refl _ _).alloc (Nat.le_refl _) _
  have hown1 : w1.ownsRow w.heap.size 69 3 (.slice (some ⟨w.heap.size, 0, none⟩) 0 0) 0 [] := by rw [hw1]; exact World.ownsRow_lit w #[] 0 (Nat.le_refl _) (by simp [maxLen]) rfl
  have Hw1 := Lib.hid hw1
  have Hown1 := Lib.hid (OwnRow.of_lit (f := 2) hown1)
  have Hb1 := Lib.hid hb1
  have Hk := Lib.hid hk
  have Hv := Lib.hid hv
  clear h hk hv hw1 hown1 hb1
  go_enter Tryz.func32, Tryz.ntmps32
  go_wp2_with fail
  rw [← Hw1.out]
  go_loopw [3, 4] (fun vo i wr => ∃ j : Nat, j ≤ l.length ∧ i = .int .i64 j ∧ OwnRow wr w.heap.size 2 69 3 vo j ((l.take j).flatMap Need.row) ∧ Below w.heap.size w wr) (fun _ i _ => l.length - (intOf i).toNat)
  case atStart => exact ⟨0, Nat.zero_le _, rfl, by simpa using Hown1.out, Hb1.out⟩
  case round =>
    clear Hown1 Hw1 Hb1
    obtain ⟨wo, rfl⟩ : ∃ wo, wo = wr := ⟨_, rfl⟩
    obtain ⟨j, hj, rfl, hrow, hbel⟩ := hrel
    obtain ⟨B0, d0, rfl⟩ := hrow.is_slice
    obtain ⟨xs, F, hr0, hc0, ho0, hnd0, hne0⟩ := hrow
    by_cases hlt : j < l.length
    · obtain ⟨g, o, rfl, hg, us0, hus, hc, hls⟩ := (Hk.out.below hbel).get hlt
      have hvn := Hv.out j hlt
      obtain ⟨A2, c2, rfl, hwf, k2, m2, l2⟩ := Need.opened hls
      obtain ⟨A2', c2', hA2, _, _, r2, ks2⟩ := Str.opened l2
      injection hA2 with a1 _ a3
      subst a1 a3
      have q0 : wo.cell? ⟨g, o + j * 3, none⟩ = some (.string l[j].key) := hc 0 _ rfl
      have q1 : wo.cell? ⟨g, o + j * 3 + 1, none⟩ = some (.int .i64 l[j].op) := hc 1 _ rfl
      have q2 : wo.cell? ⟨g, o + j * 3 + 2, none⟩ = some (.slice A2 l[j].values.length c2) := hc 2 _ rfl
      have hr1 : (l.take (j + 1)).flatMap Need.row = (l.take j).flatMap Need.row ++ l[j].row := by
        rw [List.take_succ_eq_append_getElem hlt, List.flatMap_append]; simp
      have Hr1 := Lib.hid hr1
      have Hwf := Lib.hid hwf
      have Hks := Lib.hid ks2
      have hrd := rdk_of_rd r2
      clear hr1 hls hus hc hg hwf l2 r2 ks2
      obtain ⟨x, hx⟩ : ∃ x, x = l[j] := ⟨_, rfl⟩
      rw [← hx] at hvn k2 q0 q1 q2 Hr1 Hwf Hks hrd
      clear hx
      obtain ⟨xk, xo, xv⟩ := x
      simp only at hvn k2 q0 q1 q2 hrd Hks
      obtain ⟨w2, hw2⟩ : ∃ w2, w2 = wo.alloc (.cells #[.string xk, .int .i64 xo, .slice A2 xv.length c2] 69) := ⟨_, rfl⟩
      have hb2 : Below wo.heap.size wo w2 := by rw [hw2]; exact (Below.refl _ _).alloc (Nat.le_refl _) _
      have hs2 : w2.heap.size = wo.heap.size + 1 := by rw [hw2]; simp
      have h2 : w2.heap[wo.heap.size]? = some (.cells #[.string xk, .int .i64 xo, .slice A2 xv.length c2] 69 (0, 0)) := by rw [hw2]; exact heap_alloc_new wo _
      obtain ⟨w3, hw3⟩ : ∃ w3, w3 = w2.alloc (.cells #[] 9) := ⟨_, rfl⟩
      have hb3 : Below w2.heap.size w2 w3 := by rw [hw3]; exact (Below.refl _ _).alloc (Nat.le_refl _) _
      have hown3 : w3.ownsRow w2.heap.size 9 1 (.slice (some ⟨w2.heap.size, 0, none⟩) 0 0) 0 [] := by rw [hw3]; exact World.ownsRow_lit w2 #[] 0 (Nat.le_refl _) (by simp [maxLen]) rfl
      have h3 := heap_kept hb3 (heap_lt h2) h2
      have p3 : w3.cell? ⟨wo.heap.size, 2, none⟩ = some (.slice A2 xv.length c2) := by rw [cell_of_row _ _ 2 _ _ _ h3]; rfl
      rw [hw3, hw2] at p3
      rw [hs2] at hown3
      have hb23 : Below wo.heap.size wo w3 := hb2.trans (hb3.mono (by omega))
      have Hrd := Lib.hid (hrd.below hb23)
      have Hown3 := Lib.hid hown3
      have H3 := Lib.hid h3
      have Hb3 := Lib.hid hb23
      have Hw3 := Lib.hid (show w3 = (wo.alloc (.cells #[.string xk, .int .i64 xo, .slice A2 xv.length c2] 69)).alloc (.cells #[] 9) by rw [hw3, hw2])
      have Hs3 := Lib.hid (show wo.heap.size + 1 < w3.heap.size by have := (hown3.lt _ rfl).2; exact this)
      have Hr0 := Lib.hid hr0
      have Ho0 := Lib.hid ho0
      have Hbel := Lib.hid hbel
      have hone1 : (#[Value.string xk, .int .i64 xo, .slice A2 xv.length c2]).all (·.oneCell') = true := by simp [Value.oneCell']
      clear hb2 hs2 h2 hw2 hb3 hown3 h3 hw3 hb23 hrd hr0 ho0 hbel
      go_wp2_with (first | (refine wpList_store_row rfl 69 _ _ rfl wo.heap.size #[.string xk, .int .i64 xo, .slice A2 xv.length c2] rfl rfl 69 _ (heap_alloc_new wo _) sizeNeed rfl hone1 ?_; rw [World.setRow_alloc_new]) | (at_builtin; rw [← Hw3.out]; refine wpList_append_rdk rfl (.tmp 17) (.tmp 19) 67 rfl (wo.heap.size + 1) 9 i1 _ 1 16 Tryz.underlying67 hi1 hy0 hy1 hy2 rfl (by decide) _ 0 [] rfl Hown3.out A2 xv.length c2 (scells xv) rfl Hrd.out (scells_ones _) (by unfold maxLen; omega) (by omega) (by have := Hs3.out; omega) ?_) | fail)
      intro v4 w4 hown4 hg4 hat4
      obtain ⟨B4, d4, rfl⟩ := own_is_slice hown4
      have hs3 := Hs3.out
      have hb4 : Below (wo.heap.size + 1) w3 w4 := (Below.refl (wo.heap.size + 1) w3).grown hg4 (Nat.le_of_lt hs3) (fun b hb => by simp [Value.ownBlock] at hb; omega)
      have h4 := heap_kept hb4 (Nat.lt_succ_self _) H3.out
      have p4 : w4.cell? ⟨wo.heap.size, 2, none⟩ = some (.slice A2 xv.length c2) := by rw [cell_of_row _ _ 2 _ _ _ h4]; rfl
      have f4 := frozen_of_row w4 _ 2 _ _ h4
      obtain ⟨G, o4, n4, g4⟩ := (ownRow_strs (f := 0) hown4 Hks.out).own
      obtain ⟨w5, hz⟩ : ∃ w5, w4.setCell ⟨wo.heap.size, 2, none⟩ (.slice B4 xv.length d4) = w5 := ⟨_, rfl⟩
      have h5 : w5.heap[wo.heap.size]? = some (.cells #[.string xk, .int .i64 xo, .slice B4 xv.length d4] 69 (0, 0)) := by rw [← hz]; exact heap_setCell_same _ _ _ _ _ _ h4
      have hb05 : Below wo.heap.size wo w5 := by rw [← hz]; exact (Hb3.out.trans (hb4.mono (Nat.le_succ _))).setCell (Nat.le_refl _) _
      have o5 : Own w5 (wo.heap.size + 1) 2 (.slice B4 xv.length d4) (.sl 1 xv.length (xv.flatMap Str.row)) G := by rw [← hz, Str.flat]; exact Own.setCell_low o4 (Nat.lt_succ_self _)
      obtain ⟨w6, hw6⟩ : ∃ w6, w6 = w5.alloc (.cells #[.string xk, .int .i64 xo, .slice B4 xv.length d4] 69) := ⟨_, rfl⟩
      have hb6 : Below w5.heap.size w5 w6 := by rw [hw6]; exact (Below.refl _ _).alloc (Nat.le_refl _) _
      have hb06 := below_link hb05 hb6 hb05.size
      have hge : w.heap.size ≤ wo.heap.size := Hbel.out.size
      obtain ⟨G2, hoG, hnG, hsub⟩ := Need.owned (x := ⟨xk, xo, xv⟩) (f := 1) Hwf.out ((o5.below hb6).lower (B' := w.heap.size) (by omega)) n4
      have HoG := Lib.hid hoG
      have HnG := Lib.hid hnG
      have HgG := Lib.hid (show ∀ y ∈ G2, wo.heap.size + 1 ≤ y from fun y hy => (g4 y (hsub y hy)).1)
      have Hrd6 := Lib.hid (rdkN_row (us := [.string xk, .int .i64 xo, .slice B4 xv.length d4]) rfl (show w6.heap[w5.heap.size]? = some (.cells #[.string xk, .int .i64 xo, .slice B4 xv.length d4] 69 (0, 0)) by rw [hw6]; exact heap_alloc_new w5 _))
      have Hr6 := Lib.hid (own_below' Hr0.out hb06)
      have Ho6 := Lib.hid (Ho0.out.below hb06)
      have Hlt6 := Lib.hid (show w.heap.size ≤ w6.heap.size from Nat.le_trans hge hb06.size)
      have Hb06 := Lib.hid (below_link Hbel.out hb06 Hbel.out.size)
      have Hw6 := Lib.hid hw6
      have Hold := Lib.hid (show ∀ y ∈ F, y < wo.heap.size from fun y hy => (Ho0.out.range y hy).2)
      have Hown0 := Lib.hid (show ∀ k, (Value.slice B0 j d0).ownBlock = some k → k < wo.heap.size from fun k hk => (Hr0.out.lt k hk).2)
      clear hown4 hg4 hat4 hb4 h4 o4 n4 g4 hb05 o5 hw6 hb6 hb06 hoG hnG hsub hs3 q0 q1 q2
      go_wp2_with (first | (refine wpList_load_row rfl 69 _ rfl wo.heap.size rfl 69 #[.string xk, .int .i64 xo, .slice B4 xv.length d4] (0, 0) _ h5 Tryz.underlying69 rfl sizeNeed ?_) | (at_builtin; rw [← Hw6.out]; refine wpList_append_rdk rfl (.tmp 22) (.tmp 24) 25 rfl w.heap.size 69 i0 _ 3 48 Tryz.underlying25 hi hz0 hz1 hz2 rfl (by decide) _ j xs rfl Hr6.out (some ⟨w5.heap.size, 0, none⟩) 1 1 [.string xk, .int .i64 xo, .slice B4 xv.length d4] rfl Hrd6.out (by intro u hu; simp at hu; rcases hu with rfl | rfl | rfl <;> rfl) (by unfold maxLen; omega) (by omega) Hlt6.out ?_) | fail)
      intro v7 w7 hown7 hg7 hat7
      have HR7 := Lib.hid (OwnRow.grow hc0 Ho6.out hnd0 hne0 (Need.row_length _) HoG.out HnG.out (fun y hy hyG => by have h1 := Hold.out y hy; have h2 := HgG.out y hyG; omega) (fun y hyG hy => by have h1 := Hown0.out y hy; have h2 := HgG.out y hyG; omega) hown7 hg7 hat7)
      rw [← Hr1.out] at HR7
      have Hb7 := Lib.hid (Hb06.out.grown hg7 Hlt6.out (fun b hb => (Hr6.out.lt b hb).1))
      clear hown7 hg7 hat7 hc0 hnd0 hne0
      go_wp2_with fail
      go_roundw
      case rel => exact ⟨j + 1, by omega, by go_num, HR7.out, Hb7.out⟩
      case measure => simp [intOf]; omega
    · obtain rfl : j = l.length := by omega
      rw [List.take_length] at hc0 ho0
      have HR := Lib.hid (show OwnRow wo w.heap.size 2 69 3 (.slice B0 l.length d0) l.length (l.flatMap Need.row) from ⟨xs, F, hr0, hc0, ho0, hnd0, hne0⟩)
      have Hbel := Lib.hid hbel
      clear hr0 hc0 ho0 hnd0 hne0 hbel
      go_wp2_with fail
      go_ret
      exact ⟨_, rfl, HR.out, Hbel.out⟩
end Go.Proofs.YtcfbkfmkjggcdaaGreatDoor.need
namespace Go.Proofs.YtcfbkfmkjggcdaaGreatDoor.pod
open Go.ChangeShapes Go.WideShapes Go.ChangeAt Go.RowKit ty lab need taint
set_option linter.unusedVariables false
set_option maxRecDepth 100000 in
set_option maxHeartbeats 16000000 in
theorem spec_copyP (x : Pod) (f : Nat) (us : List Value) (w : World) (h : LiesS w f us x.row) (hz : x.wt ≤ 1048576) :
    Calls Tryz.prog 45 #[.agg us.toArray] w fun e w' => AggOut w 3 x.row e w' := by
  obtain ⟨a0, a1, a2, a3, a4, a5, a6⟩ := x
  obtain ⟨A1, c1, A5, c5, A6, c6, rfl, hwf, k1, m1, l1, k5, m5, l5, k6, m6, l6⟩ := Pod.opened h
  unfold Pod.wt at hz
  simp only at hz hwf k1 m1 l1 k5 m5 l5 k6 m6 l6
  obtain ⟨w1, hw1⟩ : ∃ w1, w1 = (w.alloc (.cells #[.string a0, .slice A1 a1.length c1, .int .i64 a2, .int .i64 a3, .int .i64 a4, .slice A5 a5.length c5, .slice A6 a6.length c6] 28)).alloc (.cells #[.string ⟨#[]⟩, .slice none 0 0, .int .i64 0, .int .i64 0, .int .i64 0, .slice none 0 0, .slice none 0 0] 28) := ⟨_, rfl⟩
  have S0 := Lib.hid (show St2 28 w [.string a0, .slice A1 a1.length c1, .int .i64 a2, .int .i64 a3, .int .i64 a4, .slice A5 a5.length c5, .slice A6 a6.length c6] [.string ⟨#[]⟩, .slice none 0 0, .int .i64 0, .int .i64 0, .int .i64 0, .slice none 0 0, .slice none 0 0] w1 by rw [hw1]; exact St2.new)
  have E1 := Lib.hid (show w1.heap.size = w.heap.size + 1 + 1 by rw [hw1]; simp)
  obtain ⟨i1, hi1, hza1, hzb1, hzc1⟩ := info_parts TryzinfoLab
  obtain ⟨_, hk1⟩ := els_at Label.row_length l1
  obtain ⟨hr1, hf1⟩ := rdk_of_els hk1
  have Hr1 := Lib.hid hr1
  have Hf1 := Lib.hid hf1
  clear hk1 hr1 hf1
  have hn1 : a1.length ≤ 1048576 := by omega
  have T5 := Lib.hid (fun w' (hb : Below w.heap.size w w') => spec_copyN a5 f _ w' (l5.below hb) (by omega) (fun j hj => by have h1 := wsum_mem Need.wt hj; have h2 := wt_vals a5[j]; omega))
  have hn5 : a5.length ≤ 1048576 := by omega
  obtain ⟨i6, hi6, hza6, hzb6, hzc6⟩ := info_parts TryzinfITolerance
  obtain ⟨_, hk6⟩ := els_at Tolerance.row_length l6
  obtain ⟨hr6, hf6⟩ := rdk_Tolerance hk6
  have Hr6 := Lib.hid hr6
  have Hf6 := Lib.hid hf6
  clear hk6 hr6 hf6
  have hn6 : a6.length ≤ 1048576 := by omega
  have Hwf := Lib.hid hwf
  have Hw1 := Lib.hid hw1
  clear h hz hwf hw1 k1 m1 l1 k5 m5 l5 k6 m6 l6
  go_enter Tryz.func45, Tryz.ntmps45
  obtain ⟨x1, hx1⟩ : ∃ x, x = w1.alloc (.cells #[] 65) := ⟨_, rfl⟩
  have hbx1 : Below w1.heap.size w1 x1 := by rw [hx1]; exact (Below.refl _ _).alloc (Nat.le_refl _) _
  have Hlit1 := Lib.hid (show x1.ownsRow w1.heap.size 65 2 (.slice (some ⟨w.heap.size + 1 + 1, 0, none⟩) 0 0) 0 [] by rw [← E1.out, hx1]; exact World.ownsRow_lit w1 #[] 0 (Nat.le_refl _) (by simp [maxLen]) rfl)
  have Sx1 := Lib.hid (S0.out.call hbx1)
  have Hbx1 := Lib.hid hbx1
  have Hx1 := Lib.hid hx1
  have Hrd1 := Lib.hid (Hr1.out.below Sx1.out.bel)
  have pc1 : (w1.alloc (.cells #[] 65)).cell? ⟨w.heap.size, 1, none⟩ = some (.slice A1 a1.length c1) := by rw [← Hx1.out]; exact Sx1.out.k0.cell 1 _ rfl
  clear hbx1 hx1
  go_wp2_with (first | (rw [← Hw1.out]; rw [← Hx1.out]; refine wpList_append_rdk rfl (.tmp 3) (.tmp 5) 24 rfl w1.heap.size 65 i1 _ 2 32 Tryz.underlying24 hi1 hza1 hzb1 hzc1 rfl (by decide) _ 0 [] rfl Hlit1.out A1 a1.length c1 (lvals a1) rfl Hrd1.out (lvals_ones _) (by unfold maxLen; omega) (by omega) Hbx1.out.size ?_) | fail)
  intro v1 y1 hown1 hg1 hat1
  try simp only [Nat.zero_add, List.nil_append] at hown1
  have hb1 : Below w1.heap.size w1 y1 := Hbx1.out.grown hg1 Hbx1.out.size (fun b hb => by simp [Value.ownBlock] at hb; have := E1.out; omega)
  obtain ⟨B1, d1, rfl⟩ := own_is_slice hown1
  obtain ⟨F1, o1, n1, g1⟩ := own_lvals hown1 Hf1.out
  clear hown1 hg1 hat1 pc1
  have O1_0 : Og y1 w1.heap.size y1.heap.size 2 (.slice B1 a1.length d1) (.sl 2 a1.length (a1.flatMap Label.row)) F1 := ⟨o1, n1, g1⟩
  have Hlt1 := Lib.hid S0.out.lt
  have Hs1 := Lib.hid (show w1.heap.size ≤ y1.heap.size from hb1.size)
  have S1_0 := S0.out.call hb1
  have p1_0 : (y1).cell? ⟨w.heap.size, 1, none⟩ = some (.slice A1 a1.length c1) := S1_0.k0.cell 1 _ rfl
  have f1_0 := RowE.frozen S1_0.k0 1
  have S1_1 : St2 28 w [.string a0, .slice B1 a1.length d1, .int .i64 a2, .int .i64 a3, .int .i64 a4, .slice A5 a5.length c5, .slice A6 a6.length c6] [.string ⟨#[]⟩, .slice none 0 0, .int .i64 0, .int .i64 0, .int .i64 0, .slice none 0 0, .slice none 0 0] ((y1).setCell ⟨w.heap.size, 1, none⟩ (.slice B1 a1.length d1)) := S1_0.put 1 (.slice B1 a1.length d1)
  have O1_1 := Og.put (j := 1) (u := .slice B1 a1.length d1) O1_0 (show w.heap.size < _ by have := Hlt1.out; omega)
  obtain ⟨z1, hz1⟩ : ∃ z, (y1).setCell ⟨w.heap.size, 1, none⟩ (.slice B1 a1.length d1) = z := ⟨_, rfl⟩
  have hE1 : ((y1).setCell ⟨w.heap.size, 1, none⟩ (.slice B1 a1.length d1)).heap.size = y1.heap.size := by simp only [size_setCell]
  rw [hz1] at S1_1 hE1 O1_1
  have S1 := Lib.hid S1_1
  have HE1 := Lib.hid hE1
  have O1at1 := Lib.hid O1_1
  clear hb1 o1 n1 g1 hE1 S1_0 S1_1 O1_1 O1_0
  have pc5 := S1.out.k0.cell 5 _ rfl
  go_wp2_with fail
  refine (T5.out _ S1.out.bel).mono ?_
  rintro e y5 ⟨v5, rfl, r5, hb5⟩
  obtain ⟨B5, d5, rfl⟩ := r5.is_slice
  obtain ⟨F5, o5, n5, g5⟩ := r5.own
  clear r5 pc5
  have O5_0 : Og y5 z1.heap.size y5.heap.size 3 (.slice B5 a5.length d5) (.sl 3 a5.length (a5.flatMap Need.row)) F5 := ⟨o5, n5, g5⟩
  have Hlt5 := Lib.hid S1.out.lt
  have Hs5 := Lib.hid (show z1.heap.size ≤ y5.heap.size from hb5.size)
  have S5_0 := S1.out.call hb5
  have O1_5_0 := O1at1.out.call hb5
  have p5_0 : (y5).cell? ⟨w.heap.size, 5, none⟩ = some (.slice A5 a5.length c5) := S5_0.k0.cell 5 _ rfl
  have f5_0 := RowE.frozen S5_0.k0 5
  have S5_1 : St2 28 w [.string a0, .slice B1 a1.length d1, .int .i64 a2, .int .i64 a3, .int .i64 a4, .slice B5 a5.length d5, .slice A6 a6.length c6] [.string ⟨#[]⟩, .slice none 0 0, .int .i64 0, .int .i64 0, .int .i64 0, .slice none 0 0, .slice none 0 0] ((y5).setCell ⟨w.heap.size, 5, none⟩ (.slice B5 a5.length d5)) := S5_0.put 5 (.slice B5 a5.length d5)
  have O5_1 := Og.put (j := 5) (u := .slice B5 a5.length d5) O5_0 (show w.heap.size < _ by have := Hlt5.out; omega)
  have O1_5_1 := Og.put (j := 5) (u := .slice B5 a5.length d5) O1_5_0 (show w.heap.size < _ by have := Hlt1.out; omega)
  obtain ⟨z5, hz5⟩ : ∃ z, (y5).setCell ⟨w.heap.size, 5, none⟩ (.slice B5 a5.length d5) = z := ⟨_, rfl⟩
  have hE5 : ((y5).setCell ⟨w.heap.size, 5, none⟩ (.slice B5 a5.length d5)).heap.size = y5.heap.size := by simp only [size_setCell]
  rw [hz5] at S5_1 hE5 O5_1 O1_5_1
  have S5 := Lib.hid S5_1
  have HE5 := Lib.hid hE5
  have O5at5 := Lib.hid O5_1
  have O1at5 := Lib.hid O1_5_1
  clear hb5 o5 n5 g5 hE5 S5_0 S5_1 O5_1 O1_5_1 O5_0 O1_5_0 O1at1
  obtain ⟨x6, hx6⟩ : ∃ x, x = z5.alloc (.cells #[] 86) := ⟨_, rfl⟩
  have hbx6 : Below z5.heap.size z5 x6 := by rw [hx6]; exact (Below.refl _ _).alloc (Nat.le_refl _) _
  have Hlit6 := Lib.hid (show x6.ownsRow z5.heap.size 86 4 (.slice (some ⟨z5.heap.size, 0, none⟩) 0 0) 0 [] by rw [hx6]; exact World.ownsRow_lit z5 #[] 0 (Nat.le_refl _) (by simp [maxLen]) rfl)
  have Sx6 := Lib.hid (S5.out.call hbx6)
  have Hbx6 := Lib.hid hbx6
  have Hx6 := Lib.hid hx6
  have Hrd6 := Lib.hid (Hr6.out.below Sx6.out.bel)
  have pc6 : (z5.alloc (.cells #[] 86)).cell? ⟨w.heap.size, 6, none⟩ = some (.slice A6 a6.length c6) := by rw [← Hx6.out]; exact Sx6.out.k0.cell 6 _ rfl
  clear hbx6 hx6
  go_wp2_with (first | (rw [← Hx6.out]; refine wpList_append_rdk rfl (.tmp 12) (.tmp 14) 26 rfl z5.heap.size 86 i6 _ 4 48 Tryz.underlying26 hi6 hza6 hzb6 hzc6 rfl (by decide) _ 0 [] rfl Hlit6.out A6 a6.length c6 (a6.flatMap Tolerance.cells) rfl Hrd6.out (flt.ones_flat Tolerance.cells_one _) (by unfold maxLen; omega) (by omega) Hbx6.out.size ?_) | fail)
  intro v6 y6 hown6 hg6 hat6
  try simp only [Nat.zero_add, List.nil_append] at hown6
  have hb6 : Below z5.heap.size z5 y6 := Hbx6.out.grown hg6 Hbx6.out.size (fun b hb => by simp [Value.ownBlock] at hb; have := E1.out; omega)
  obtain ⟨B6, d6, rfl⟩ := own_is_slice hown6
  obtain ⟨F6, o6, n6, g6⟩ := own_Tolerance hown6 Hf6.out
  clear hown6 hg6 hat6 pc6
  have O6_0 : Og y6 z5.heap.size y6.heap.size 2 (.slice B6 a6.length d6) (.sl 4 a6.length (a6.flatMap Tolerance.row)) F6 := ⟨o6, n6, g6⟩
  have Hlt6 := Lib.hid S5.out.lt
  have Hs6 := Lib.hid (show z5.heap.size ≤ y6.heap.size from hb6.size)
  have S6_0 := S5.out.call hb6
  have O5_6_0 := O5at5.out.call hb6
  have O1_6_0 := O1at5.out.call hb6
  have p6_0 : (y6).cell? ⟨w.heap.size, 6, none⟩ = some (.slice A6 a6.length c6) := S6_0.k0.cell 6 _ rfl
  have f6_0 := RowE.frozen S6_0.k0 6
  have S6_1 : St2 28 w [.string a0, .slice B1 a1.length d1, .int .i64 a2, .int .i64 a3, .int .i64 a4, .slice B5 a5.length d5, .slice B6 a6.length d6] [.string ⟨#[]⟩, .slice none 0 0, .int .i64 0, .int .i64 0, .int .i64 0, .slice none 0 0, .slice none 0 0] ((y6).setCell ⟨w.heap.size, 6, none⟩ (.slice B6 a6.length d6)) := S6_0.put 6 (.slice B6 a6.length d6)
  have O6_1 := Og.put (j := 6) (u := .slice B6 a6.length d6) O6_0 (show w.heap.size < _ by have := Hlt6.out; omega)
  have O5_6_1 := Og.put (j := 6) (u := .slice B6 a6.length d6) O5_6_0 (show w.heap.size < _ by have := Hlt5.out; omega)
  have O1_6_1 := Og.put (j := 6) (u := .slice B6 a6.length d6) O1_6_0 (show w.heap.size < _ by have := Hlt1.out; omega)
  obtain ⟨z6, hz6⟩ : ∃ z, (y6).setCell ⟨w.heap.size, 6, none⟩ (.slice B6 a6.length d6) = z := ⟨_, rfl⟩
  have hE6 : ((y6).setCell ⟨w.heap.size, 6, none⟩ (.slice B6 a6.length d6)).heap.size = y6.heap.size := by simp only [size_setCell]
  rw [hz6] at S6_1 hE6 O6_1 O5_6_1 O1_6_1
  have S6 := Lib.hid S6_1
  have HE6 := Lib.hid hE6
  have O6at6 := Lib.hid O6_1
  have O5at6 := Lib.hid O5_6_1
  have O1at6 := Lib.hid O1_6_1
  clear hb6 o6 n6 g6 hE6 S6_0 S6_1 O6_1 O5_6_1 O1_6_1 O6_0 O5_6_0 O1_6_0 O5at5 O1at5
  have h52 := S6.out.k0
  have h51 := S6.out.k1
  unfold RowE at h51 h52
  go_wp2_with (first | (refine wpList_load_row rfl 28 _ rfl w.heap.size rfl 28 #[.string a0, .slice B1 a1.length d1, .int .i64 a2, .int .i64 a3, .int .i64 a4, .slice B5 a5.length d5, .slice B6 a6.length d6] (0, 0) _ h52 Tryz.underlying28 rfl sizePod ?_) | (refine wpList_store_row rfl 28 _ _ rfl (w.heap.size + 1) #[.string a0, .slice B1 a1.length d1, .int .i64 a2, .int .i64 a3, .int .i64 a4, .slice B5 a5.length d5, .slice B6 a6.length d6] rfl rfl 28 _ h51 sizePod rfl (by simp [Value.oneCell']) ?_) | fail)
  obtain ⟨F, ho, hnd, _⟩ := Pod.owned (x := ⟨a0, a1, a2, a3, a4, a5, a6⟩) (f := 2) (w := z6.setRow (w.heap.size + 1) #[.string a0, .slice B1 a1.length d1, .int .i64 a2, .int .i64 a3, .int .i64 a4, .slice B5 a5.length d5, .slice B6 a6.length d6]) Hwf.out (O1at6.out.done (f' := 3) (B' := w.heap.size) (c := #[.string a0, .slice B1 a1.length d1, .int .i64 a2, .int .i64 a3, .int .i64 a4, .slice B5 a5.length d5, .slice B6 a6.length d6]) (show w.heap.size + 1 < _ by have := HE1.out; have := Hs1.out; have := Hlt1.out; have := HE5.out; have := Hs5.out; have := Hlt5.out; have := HE6.out; have := Hs6.out; have := Hlt6.out; omega) (by have := HE1.out; have := Hs1.out; have := Hlt1.out; have := HE5.out; have := Hs5.out; have := Hlt5.out; have := HE6.out; have := Hs6.out; have := Hlt6.out; omega) (by decide)) (O5at6.out.done (f' := 3) (B' := w.heap.size) (c := #[.string a0, .slice B1 a1.length d1, .int .i64 a2, .int .i64 a3, .int .i64 a4, .slice B5 a5.length d5, .slice B6 a6.length d6]) (show w.heap.size + 1 < _ by have := HE1.out; have := Hs1.out; have := Hlt1.out; have := HE5.out; have := Hs5.out; have := Hlt5.out; have := HE6.out; have := Hs6.out; have := Hlt6.out; omega) (by have := HE1.out; have := Hs1.out; have := Hlt1.out; have := HE5.out; have := Hs5.out; have := Hlt5.out; have := HE6.out; have := Hs6.out; have := Hlt6.out; omega) (by decide)) (O6at6.out.done (f' := 3) (B' := w.heap.size) (c := #[.string a0, .slice B1 a1.length d1, .int .i64 a2, .int .i64 a3, .int .i64 a4, .slice B5 a5.length d5, .slice B6 a6.length d6]) (show w.heap.size + 1 < _ by have := HE1.out; have := Hs1.out; have := Hlt1.out; have := HE5.out; have := Hs5.out; have := Hlt5.out; have := HE6.out; have := Hs6.out; have := Hlt6.out; omega) (by have := HE1.out; have := Hs1.out; have := Hlt1.out; have := HE5.out; have := Hs5.out; have := Hlt5.out; have := HE6.out; have := Hs6.out; have := Hlt6.out; omega) (by decide)) O1at6.out.nod O5at6.out.nod O6at6.out.nod (O1at6.out.apart O5at6.out (by have := HE1.out; have := Hs1.out; have := Hlt1.out; have := HE5.out; have := Hs5.out; have := Hlt5.out; have := HE6.out; have := Hs6.out; have := Hlt6.out; omega)) (O1at6.out.apart O6at6.out (by have := HE1.out; have := Hs1.out; have := Hlt1.out; have := HE5.out; have := Hs5.out; have := Hlt5.out; have := HE6.out; have := Hs6.out; have := Hlt6.out; omega)) (O5at6.out.apart O6at6.out (by have := HE1.out; have := Hs1.out; have := Hlt1.out; have := HE5.out; have := Hs5.out; have := Hlt5.out; have := HE6.out; have := Hs6.out; have := Hlt6.out; omega))
  refine bodyPost_ret (v := .agg #[.string a0, .slice B1 a1.length d1, .int .i64 a2, .int .i64 a3, .int .i64 a4, .slice B5 a5.length d5, .slice B6 a6.length d6]) ?_ rfl ⟨_, F, rfl, ho, hnd, setRow_below S6.out.bel (by omega) _⟩
  exact results_cell_row rfl _ _ (w.heap.size + 1) _ _ (0, 0) _ rfl (setRow_at h51) Tryz.underlying28 rfl sizePod
end Go.Proofs.YtcfbkfmkjggcdaaGreatDoor.pod
namespace Go.Proofs.YtcfbkfmkjggcdaaGreatDoor.ty
open Go.ChangeShapes Go.WideShapes Go.ChangeAt Go.RowKit
set_option linter.unusedVariables false

theorem mkStrC_nil (A : Option Addr) (c : Nat) (k : Int) (w : World) (h0 : 0 ≤ k) (hk : k ≤ 4611686018427387904) :
    Calls Tryz.prog 135 #[.slice A 0 c, .int .i64 k] w fun e w' => e = .returned (.int .i64 k) ∧ w' = w := by
  go_enter Tryz.func135, Tryz.ntmps135
  go_wp2_with fail
  refine wp_loop_rounds 1 ?_
  rw [rounds_succ]
  go_wp2_with fail
  go_ret
  exact ⟨rfl, rfl⟩
set_option maxRecDepth 100000 in
set_option maxHeartbeats 8000000 in
theorem mkStrC (B : Nat) (v : Value) (l : List ByteArray) (f : Nat) (F : List Cl) (k : Int) (w : World) (hown : OwnC w B (f + 1) v (.sl 1 l.length (l.flatMap Str.row)) F) (hnd : F.Nodup) (h0 : 0 ≤ k) (hk : k + wsum Str.cost l ≤ 4611686018427387904) :
    Calls Tryz.prog 135 #[v, .int .i64 k] w fun e w' => e = .returned (.int .i64 (k + wsum Str.cost l)) ∧ OwnC w' B (f + 1) v (.sl 1 l.length ((mks Str.mark Str.cost l k).flatMap Str.row)) F ∧ KeptC F w w' := by
  obtain ⟨A, c, rfl, h1, h2⟩ := hown.is_slice
  by_cases hn0 : 0 < l.length
  case neg =>
    have : l = [] := List.eq_nil_of_length_eq_zero (by omega)
    subst this
    refine (mkStrC_nil A c k w h0 (by simpa [wsum] using hk)).mono ?_
    rintro e w' ⟨rfl, rfl⟩
    exact ⟨by simp [wsum], by simpa [mks] using hown, KeptC.refl _ _⟩
  obtain ⟨g, bo, rfl, _⟩ := hown.pos hn0
  have HP := Lib.hid hn0
  have hcm : l.length ≤ 9223372036854775807 := by unfold maxLen at h2; omega
  clear hn0
  have Hown := Lib.hid hown
  clear hown
  go_enter Tryz.func135, Tryz.ntmps135
  go_wp2_with fail
  go_loopw [1, 5] (fun a i wr => ∃ (j : Nat), j ≤ l.length ∧ i = .int .i64 j ∧ a = .int .i64 (k + wsum Str.cost (l.take j)) ∧ OwnC wr B (f + 1) (.slice (some ⟨g, bo, none⟩) l.length c) (.sl 1 l.length ((mks Str.mark Str.cost (l.take j) k ++ l.drop j).flatMap Str.row)) F ∧ KeptC F w wr) (fun _ i _ => l.length - (intOf i).toNat)
  case atStart => exact ⟨0, Nat.zero_le _, rfl, by simp [wsum], by simpa [mks] using Hown.out, KeptC.refl _ _⟩
  case round =>
    clear Hown
    obtain ⟨j, hj, rfl, rfl, hown, hkb⟩ := hrel
    by_cases hlt : j < l.length
    · have hdrop : l.drop j = l[j] :: l.drop (j + 1) := List.drop_eq_getElem_cons hlt
      have hnext := wsum_take Str.cost hlt
      have hall := wsum_all Str.cost l (j + 1)
      have hmark := mks_next Str.mark Str.cost hlt k
      rw [hdrop, List.flatMap_append, List.flatMap_cons] at hown
      have Hmark := Lib.hid hmark
      have HL := Lib.hid (show ((mks Str.mark Str.cost (l.take j) k).flatMap Str.row).length = j by rw [flat_length' (sz := 1) Str.row_length, mks_length, List.length_take]; omega)
      have Hnext := Lib.hid hnext
      obtain ⟨a0, hx⟩ : ∃ a0, l[j] = a0 := ⟨l[j], rfl⟩
      rw [hx] at hown Hmark Hnext hnext
      rw [show Str.cost a0 = 1 from rfl] at Hnext hnext
      generalize wsum Str.cost (l.take j) = C0 at *
      have hkk : k + C0 + 1 ≤ 4611686018427387904 := by omega
      clear hmark hnext hall hx hdrop
      obtain ⟨K, hK⟩ : ∃ K, k + C0 = K := ⟨_, rfl⟩
      rw [hK] at hkk Hmark ⊢
      have hK0 : 0 ≤ K := by omega
      have HK := Lib.hid hK
      clear hK
      generalize hLL : (mks Str.mark Str.cost (l.take j) k).flatMap Str.row = L at *
      generalize hRR : (l.drop (j + 1)).flatMap Str.row = R at *
      have hown0 : OwnC wr B (f + 1) (.slice (some ⟨g, bo, none⟩) l.length c) (.sl 1 l.length (mid L [.str a0] R)) F := hown
      clear hown
      cases f with
      | zero =>
        obtain ⟨_, _, _, _, ho, _⟩ := OwnC.field hown0 HP.out hnd HL.out (r := 0) rfl
        exact ho.elim
      | succ f =>
      have HMT := Lib.hid (fun m w hm => lawMark.mark_text m w hm)
      go_wp2_with fail
      refine (HMT.out K _ (by omega)).mono ?_
      rintro e x1 ⟨rfl, hb1⟩
      have on1 := OwnC.below hown0 hb1
      have kn1 := KeptC.trans hkb (KeptC.of_below hb1)
      clear hb1 hown0 hkb
      obtain ⟨o0, b0, ⟨q0, p0⟩, f0⟩ := OwnC.put (r := 0) (d' := .str (lawMark.mt K)) (u' := .string (lawMark.mt K)) on1 HP.out hnd HL.out rfl trivial (fun w' => ownC_str (lawMark.mt_size _ (by omega)))
      have k0 := KeptC.trans kn1 b0
      simp only [Nat.add_zero] at o0 k0 p0 f0 b0
      clear b0 on1 kn1
      have Ho9 : Hid (OwnC (x1.setCell ⟨g, bo + j, none⟩ (.string (lawMark.mt K))) B (f + 1 + 1) (.slice (some ⟨g, bo, none⟩) l.length c) (.sl 1 l.length ((mks Str.mark Str.cost (l.take (j + 1)) k ++ l.drop (j + 1)).flatMap Str.row)) F) := by
        unfold Hid
        rw [Hmark.out, List.flatMap_append, List.flatMap_cons, hLL, hRR]
        exact o0
      have Hkb9 := Lib.hid k0
      clear o0 k0 HMT
      go_wp2_with fail
      go_roundw
      case rel => exact ⟨j + 1, by omega, by go_num, by rw [Hnext.out]; have := HK.out; congr 1; omega, Ho9.out, Hkb9.out⟩
      case measure => simp [intOf]; omega
    · obtain rfl : j = l.length := by omega
      rw [List.take_of_length_le (Nat.le_refl _), List.drop_of_length_le (Nat.le_refl _), List.append_nil] at hown
      have Hown := Lib.hid hown
      have Hkb := Lib.hid hkb
      clear hown hkb
      rw [List.take_of_length_le (Nat.le_refl _)]
      go_wp2_with fail
      go_ret
      exact ⟨rfl, Hown.out, Hkb.out⟩
end Go.Proofs.YtcfbkfmkjggcdaaGreatDoor.ty
namespace Go.Proofs.YtcfbkfmkjggcdaaGreatDoor.ty
open Go.ChangeShapes Go.WideShapes Go.ChangeAt Go.RowKit
set_option linter.unusedVariables false

theorem mkNeedSC_nil (A : Option Addr) (c : Nat) (k : Int) (w : World) (h0 : 0 ≤ k) (hk : k ≤ 4611686018427387904) :
    Calls Tryz.prog 71 #[.slice A 0 c, .int .i64 k] w fun e w' => e = .returned (.int .i64 k) ∧ w' = w := by
  go_enter Tryz.func71, Tryz.ntmps71
  go_wp2_with fail
  refine wp_loop_rounds 1 ?_
  rw [rounds_succ]
  go_wp2_with fail
  go_ret
  exact ⟨rfl, rfl⟩
theorem row_markNeedC (a0 a1 a2) (K : Int) : Need.row (Need.mark (Need.mk a0 a1 a2) K) = [.str (lawMark.mt (K)), .int .i64 (K + 1), .sl 1 a2.length ((mks Str.mark Str.cost a2 (K + 2)).flatMap Str.row)] := by
  unfold Need.mark Need.row
  simp only [mks_length]
set_option maxRecDepth 100000 in
set_option maxHeartbeats 8000000 in
theorem mkNeedSC (B : Nat) (v : Value) (l : List Need) (f : Nat) (F : List Cl) (k : Int) (w : World) (hown : OwnC w B (f + 1) v (.sl 3 l.length (l.flatMap Need.row)) F) (hnd : F.Nodup) (h0 : 0 ≤ k) (hk : k + wsum Need.cost l ≤ 4611686018427387904) :
    Calls Tryz.prog 71 #[v, .int .i64 k] w fun e w' => e = .returned (.int .i64 (k + wsum Need.cost l)) ∧ OwnC w' B (f + 1) v (.sl 3 l.length ((mks Need.mark Need.cost l k).flatMap Need.row)) F ∧ KeptC F w w' := by
  obtain ⟨A, c, rfl, h1, h2⟩ := hown.is_slice
  by_cases hn0 : 0 < l.length
  case neg =>
    have : l = [] := List.eq_nil_of_length_eq_zero (by omega)
    subst this
    refine (mkNeedSC_nil A c k w h0 (by simpa [wsum] using hk)).mono ?_
    rintro e w' ⟨rfl, rfl⟩
    exact ⟨by simp [wsum], by simpa [mks] using hown, KeptC.refl _ _⟩
  obtain ⟨g, bo, rfl, _⟩ := hown.pos hn0
  have HP := Lib.hid hn0
  have hcm : l.length ≤ 9223372036854775807 := by unfold maxLen at h2; omega
  clear hn0
  have Hown := Lib.hid hown
  clear hown
  go_enter Tryz.func71, Tryz.ntmps71
  go_wp2_with fail
  go_loopw [1, 5] (fun a i wr => ∃ (j : Nat), j ≤ l.length ∧ i = .int .i64 j ∧ a = .int .i64 (k + wsum Need.cost (l.take j)) ∧ OwnC wr B (f + 1) (.slice (some ⟨g, bo, none⟩) l.length c) (.sl 3 l.length ((mks Need.mark Need.cost (l.take j) k ++ l.drop j).flatMap Need.row)) F ∧ KeptC F w wr) (fun _ i _ => l.length - (intOf i).toNat)
  case atStart => exact ⟨0, Nat.zero_le _, rfl, by simp [wsum], by simpa [mks] using Hown.out, KeptC.refl _ _⟩
  case round =>
    clear Hown
    obtain ⟨j, hj, rfl, rfl, hown, hkb⟩ := hrel
    by_cases hlt : j < l.length
    · have hdrop : l.drop j = l[j] :: l.drop (j + 1) := List.drop_eq_getElem_cons hlt
      have hnext := wsum_take Need.cost hlt
      have hall := wsum_all Need.cost l (j + 1)
      have hmark := mks_next Need.mark Need.cost hlt k
      rw [hdrop, List.flatMap_append, List.flatMap_cons] at hown
      have Hmark := Lib.hid hmark
      have HL := Lib.hid (show ((mks Need.mark Need.cost (l.take j) k).flatMap Need.row).length = j * 3 by rw [flat_length' Need.row_length, mks_length, List.length_take]; congr 1; omega)
      have Hnext := Lib.hid hnext
      obtain ⟨a0, a1, a2, hx⟩ : ∃ a0 a1 a2, l[j] = Need.mk a0 a1 a2 := ⟨l[j].key, l[j].op, l[j].values, rfl⟩
      rw [hx] at hown Hmark Hnext hnext
      rw [show Need.cost (Need.mk a0 a1 a2) = 2 + wsum Str.cost a2 from rfl] at Hnext hnext
      generalize wsum Need.cost (l.take j) = C0 at *
      have hkk : k + C0 + ((2 + wsum Str.cost a2 : Nat) : Int) ≤ 4611686018427387904 := by omega
      clear hmark hnext hall hx hdrop
      obtain ⟨K, hK⟩ : ∃ K, k + C0 = K := ⟨_, rfl⟩
      rw [hK] at hkk Hmark ⊢
      have hK0 : 0 ≤ K := by omega
      have HK := Lib.hid hK
      clear hK
      generalize hLL : (mks Need.mark Need.cost (l.take j) k).flatMap Need.row = L at *
      generalize hRR : (l.drop (j + 1)).flatMap Need.row = R at *
      have hown0 : OwnC wr B (f + 1) (.slice (some ⟨g, bo, none⟩) l.length c) (.sl 3 l.length (mid L [.str a0, .int .i64 a1, .sl 1 a2.length (a2.flatMap Str.row)] R)) F := hown
      clear hown
      cases f with
      | zero =>
        obtain ⟨_, _, _, _, ho, _⟩ := OwnC.field hown0 HP.out hnd HL.out (r := 0) rfl
        exact ho.elim
      | succ f =>
      have HMT := Lib.hid (fun m w hm => lawMark.mark_text m w hm)
      have e1 : (K + 1) + 1 = K + 2 := by omega
      go_wp2_with fail
      refine (HMT.out (K) _ (by omega)).mono ?_
      rintro e x1 ⟨rfl, hb1⟩
      have on1 := OwnC.below hown0 hb1
      have kn1 := KeptC.trans hkb (KeptC.of_below hb1)
      clear hb1 hown0 hkb
      obtain ⟨o0, b0, ⟨q0, p0⟩, f0⟩ := OwnC.put (r := 0) (d' := .str (lawMark.mt (K))) (u' := .string (lawMark.mt (K))) on1 HP.out hnd HL.out rfl trivial (fun w' => ownC_str (lawMark.mt_size _ (by omega)))
      have k0 := KeptC.trans kn1 b0
      simp only [Nat.add_zero] at o0 k0 p0 f0 b0
      clear b0 on1 kn1
      obtain ⟨o1, b1, ⟨q1, p1⟩, f1⟩ := OwnC.put (r := 1) (d' := .int .i64 (K + 1)) (u' := .int .i64 (K + 1)) o0 HP.out hnd HL.out rfl trivial (fun w' => ownC_int (lawMark.wf_of (by omega) (by omega)))
      have k1 := KeptC.trans k0 b1
      clear b1 o0 k0
      obtain ⟨u2, G2, q2, _, s2, hs2, _, _, hd2, back2⟩ := OwnC.field (r := 2) (d := .sl 1 a2.length (a2.flatMap Str.row)) o1 HP.out hnd HL.out rfl
      have HM2 := Lib.hid (mkStrC B u2 a2 f G2 (K + 2) _ s2 hd2 (by omega) (by omega))
      have Hback2 := Lib.hid back2
      have Hkb2 := Lib.hid k1
      have Hs2 := Lib.hid hs2
      clear s2 hs2 hd2 back2 o1 k1
      go_wp2_with fail
      refine HM2.out.mono ?_
      rintro e x2 ⟨rfl, m2, km2⟩
      have o2 := Hback2.out x2 _ km2 m2
      have k2 := KeptC.trans Hkb2.out (km2.mono Hs2.out)
      clear HM2 Hback2 Hkb2 Hs2 km2 m2 q2 p0 f0 p1 f1
      have Ho9 : Hid (OwnC x2 B (f + 1 + 1) (.slice (some ⟨g, bo, none⟩) l.length c) (.sl 3 l.length ((mks Need.mark Need.cost (l.take (j + 1)) k ++ l.drop (j + 1)).flatMap Need.row)) F) := by
        unfold Hid
        rw [Hmark.out, List.flatMap_append, List.flatMap_cons, hLL, hRR, row_markNeedC]
        exact o2
      have Hkb9 := Lib.hid k2
      clear o2 k2 HMT
      go_wp2_with fail
      go_roundw
      case rel => exact ⟨j + 1, by omega, by go_num, by rw [Hnext.out]; have := HK.out; congr 1; omega, Ho9.out, Hkb9.out⟩
      case measure => simp [intOf]; omega
    · obtain rfl : j = l.length := by omega
      rw [List.take_of_length_le (Nat.le_refl _), List.drop_of_length_le (Nat.le_refl _), List.append_nil] at hown
      have Hown := Lib.hid hown
      have Hkb := Lib.hid hkb
      clear hown hkb
      rw [List.take_of_length_le (Nat.le_refl _)]
      go_wp2_with fail
      go_ret
      exact ⟨rfl, Hown.out, Hkb.out⟩
end Go.Proofs.YtcfbkfmkjggcdaaGreatDoor.ty
