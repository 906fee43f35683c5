/- FnExactListField: the law returns true at every argument. Printed by gen/gen_fieldlaw.py. -/
import Derived.Test.YtangdmjdjiddcaaDoorGA3
import Derived.Test.YtangdmjdjiddcaaDoorGA4
import Derived.Test.YtangdmjdjiddcaaDoorGA8
import Derived.Test.YtangdmjdjiddcaaDoorKidL
import Derived.Test.YtangdmjdjiddcaaDoorTwoBox
import Derived.Test.YtangdmjdjiddcaaDoorEqFault
import Derived.Test.YtangdmjdjiddcaaDoorListFS
import Derived.Test.YtangdmjdjiddcaaDoorListFI
namespace Go.Proofs.YtangdmjdjiddcaaDoor.fnExactListField
open Go.ChangeShapes Go.WideShapes Go.ChangeAt Go.RowKit
open tree field
set_option linter.unusedVariables false

set_option maxRecDepth 100000 in
set_option maxHeartbeats 16000000 in
theorem walk (t : T) (f : Nat) (vs : List Value) (p k : ByteArray) (most : Int) (W : World) (h : LiesS W f vs (row t)) (hp : p.size ≤ maxLen) (hk : k.size ≤ maxLen) (wf0 : (Lit.int .i64 most).wf = true) (hE : ET W) :
    Calls Tryd.prog 7 #[.agg vs.toArray, .string p, .string k, .int .i64 most] W fun e w' => e = .returned (.bool true) ∧ Below W.heap.size W w' := by
  unfold maxLen at hp hk
  obtain ⟨u0, u1, u2, u3, u4, u5, rfl⟩ := six_of (h.1.trans (row_length t))
  obtain ⟨w1, hw1⟩ : ∃ x, x = W.alloc (.cells #[u0, u1, u2, u3, u4, u5] 27) := ⟨_, rfl⟩
  have hb1 : Below W.heap.size W w1 := by subst hw1; exact (Below.refl _ _).alloc (Nat.le_refl _) _
  have hrow : Row6 w1 W.heap.size u0 u1 u2 u3 u4 u5 := by subst hw1; exact Row6.of (heap_alloc_new W _)
  have Hw1 := Lib.hid hw1
  have Hb1 := Lib.hid hb1
  have ARG := Lib.hid hrow
  have Hl := Lib.hid (h.below hb1)
  have BB := Lib.hid (Below.refl w1.heap.size w1)
  have S0 := Lib.hid (show W.heap.size < w1.heap.size by subst hw1; simp)
  have HET := Lib.hid (hE.below hb1)
  clear h hb1 hrow hw1 hE
  by_cases hp1 : 1048576 < p.size
  · go_enter Tryd.func7, Tryd.ntmps7
    go_wp2_with fail
    rw [← Hw1.out]
    go_ret
    exact ⟨rfl, Hb1.out⟩
  by_cases hk1 : 1048576 < k.size
  · go_enter Tryd.func7, Tryd.ntmps7
    go_wp2_with fail
    rw [← Hw1.out]
    go_ret
    exact ⟨rfl, Hb1.out⟩
  have HZ := Lib.hid (sz_tree t _ 1048576 w1 Hl.out ⟨by decide, by decide⟩)
  by_cases hw : (1048576 : Int) < weight t
  · rw [cut_no hw] at HZ
    obtain ⟨p0, p1, p2, p3, p4, p5⟩ := ARG.out
    rw [Hw1.out] at p0 p1 p2 p3 p4 p5
    go_enter Tryd.func7, Tryd.ntmps7
    go_wp2_with fail
    rw [← Hw1.out]
    refine HZ.out.mono ?_
    rintro e w2 ⟨rfl, hb2⟩
    have Hb2 := Lib.hid (below_link Hb1.out hb2 Hb1.out.size)
    clear hb2 p0 p1 p2 p3 p4 p5
    go_wp2_with fail
    go_ret
    exact ⟨rfl, Hb2.out⟩
  rw [cut_yes hw] at HZ
  have hwn : weight t ≤ 1048576 := by omega
  have hps : p.size ≤ 1048576 := by omega
  have hks : k.size ≤ 1048576 := by omega
  have hleft : ¬ (1048576 - (weight t : Int)) < 0 := by omega
  have HT := Lib.hid (fun w (hl : LiesS w f [u0, u1, u2, u3, u4, u5] (row t)) => to_tree t _ w hl hwn)
  have HS := Lib.hid (fun f us w (hl : LiesS w f us (row t)) => spec_list t p k most us w hl hwn hps hks)
  have HI := Lib.hid (fun f us w (hl : LiesS w f us (row t)) (hE : ET w) => impl_list t p k most us w hl hwn hps hks hE)
  have hKw := Nat.le_trans (list_weight t p k most) hwn
  generalize listF t p k most = R at HS HI hKw
  obtain ⟨K, cv, qv⟩ := R
  simp only [LFOut, fv] at HS HI
  have hct : (1 : Int) + topCost t ≤ 4611686018427387904 := by have := topCost_le t; omega
  have hcK : (1 : Int) + costs K ≤ 4611686018427387904 := by have := costs_le' K; have hKw' : K.length + weights K ≤ 1048576 := hKw; omega
  have HEK := Lib.hid (fun f f' v1 v2 w h1 h2 => eq_l (f := f) (f' := f') K v1 v2 w h1 h2)
  have HM := Lib.hid (fun B f vs F w (h : OwnS w B f vs (row t) F) (hnd : F.Nodup) => mark_tree t vs F 1 w h hnd (by decide) hct)
  have HMK := Lib.hid (fun B f v F w (h : Own w B f v (.sl 6 K.length (rows K)) F) (hnd : F.Nodup) => mark_l K v F w h hnd hcK)
  have HHK := Lib.hid (fun f v w (h : Lies w f v (.sl 6 K.length (rows (markTs K 1)))) => held_l K v w h hcK)
  have c0 : (0 : Int) ≤ topCost t := Int.natCast_nonneg _
  have c1 : (0 : Int) ≤ costs K := Int.natCast_nonneg _
  have HE := Lib.hid (fun f f' us xs w (h1 : LiesS w f us (row t)) (h2 : LiesS w f' xs (row t)) => eq_tree t us xs w (h1.deeper (Nat.le_max_left f f')) (h2.deeper (Nat.le_max_right f f')))
  have HF := Lib.hid (fun w => eq_fault cv qv w)
  clear hKw hct hcK hw hwn hps hks
  generalize (1048576 - (weight t : Int)) = left at HZ hleft
  generalize (topCost t : Int) = C0 at HM c0
  generalize (costs K : Int) = C1 at HMK HHK c1
  have n0 : ¬ (1 + C0 < 0) := by omega
  have n1 : ¬ (1 + C1 < 0) := by omega
  go_enter Tryd.func7, Tryd.ntmps7
  obtain ⟨argc0, argc1, argc2, argc3, argc4, argc5⟩ := (ARG.out.below BB.out)
  rw [Hw1.out] at argc0 argc1 argc2 argc3 argc4 argc5
  go_wp2_with fail
  rw [← Hw1.out]
  refine (HZ.out).mono ?_
  rintro e w2 ⟨rfl, hb1⟩
  have BB_2 := Lib.hid (below_link BB.out hb1 BB.out.size)
  clear BB
  have BB := BB_2
  clear BB_2
  have S3 := Lib.hid (show w1.heap.size ≤ w2.heap.size from hb1.size)
  clear argc0 argc1 argc2 argc3 argc4 argc5 hb1
  obtain ⟨argc0, argc1, argc2, argc3, argc4, argc5⟩ := (ARG.out.below BB.out)
  go_wp2_with fail
  refine (HT.out _ (Hl.out.below BB.out)).mono ?_
  rintro e w3 ⟨⟨xus, xF, rfl, xho, xhn⟩, hb4⟩
  have BB_5 := Lib.hid (below_link BB.out hb4 BB.out.size)
  clear BB
  have BB := BB_5
  clear BB_5
  have S6 := Lib.hid (show w2.heap.size ≤ w3.heap.size from hb4.size)
  clear argc0 argc1 argc2 argc3 argc4 argc5 hb4
  obtain ⟨x0, x1, x2, x3, x4, x5, rfl⟩ := six_of (xho.1.trans (row_length _))
  have xone := Lib.hid xho.one
  have xR := Lib.hid (show ∀ x ∈ xF, w2.heap.size ≤ x ∧ x < w3.heap.size from xho.range)
  have xN := Lib.hid xhn
  have x_7 := Lib.hid xho
  clear xho xhn
  go_wp2_with fail
  refine (HS.out _ _ _ x_7.out.lies).mono ?_
  rintro e w4 ⟨⟨af, av, aF, rfl, aho, ahn⟩, hb8⟩
  have x_9 := Lib.hid (x_7.out.below hb8)
  have BB_10 := Lib.hid (below_link BB.out hb8 BB.out.size)
  clear BB
  have BB := BB_10
  clear BB_10
  have S11 := Lib.hid (show w3.heap.size ≤ w4.heap.size from hb8.size)
  clear x_7 hb8
  have aR := Lib.hid (show ∀ x ∈ aF, w3.heap.size ≤ x ∧ x < w4.heap.size from aho.range)
  have aN := Lib.hid ahn
  have a_12 := Lib.hid aho
  clear aho ahn
  clear x_9
  obtain ⟨w5, hw5⟩ : ∃ x, x = w4.alloc (.cells #[.int .i64 cv, .int .i64 0, .string qv] 31) := ⟨_, rfl⟩
  have hb13 : Below w4.heap.size w4 w5 := by subst hw5; exact (Below.refl _ _).alloc (Nat.le_refl _) _
  have S14 := Lib.hid (show w4.heap.size < w5.heap.size by subst hw5; simp)
  have flta_15 := Lib.hid (show RowE 31 w5 w4.heap.size [.int .i64 cv, .int .i64 0, .string qv] by subst hw5; exact RowE.new _ _ _)
  have Hw5 := Lib.hid hw5
  clear hw5
  have a_16 := Lib.hid (a_12.out.below hb13)
  have BB_17 := Lib.hid (below_link BB.out hb13 BB.out.size)
  clear BB
  have BB := BB_17
  clear BB_17
  have S18 := Lib.hid (show w4.heap.size ≤ w5.heap.size from hb13.size)
  clear a_12 hb13
  obtain ⟨argc0, argc1, argc2, argc3, argc4, argc5⟩ := (ARG.out.below BB.out)
  rw [Hw5.out] at argc0 argc1 argc2 argc3 argc4 argc5
  go_wp2_with (first | (refine wpList_store_row rfl 31 _ _ rfl w4.heap.size #[.int .i64 cv, .int .i64 0, .string qv] rfl rfl 31 _ (heap_alloc_new w4 _) sizeFault rfl (by simp [Value.oneCell']) ?_; rw [World.setRow_alloc_new]) | fail)
  rw [← Hw5.out]
  refine (HT.out _ (Hl.out.below BB.out)).mono ?_
  rintro e w6 ⟨⟨bus, bF, rfl, bho, bhn⟩, hb19⟩
  have flta_20 := Lib.hid (flta_15.out.below hb19)
  have a_21 := Lib.hid (a_16.out.below hb19)
  have BB_22 := Lib.hid (below_link BB.out hb19 BB.out.size)
  clear BB
  have BB := BB_22
  clear BB_22
  have S23 := Lib.hid (show w5.heap.size ≤ w6.heap.size from hb19.size)
  clear flta_15 a_16 argc0 argc1 argc2 argc3 argc4 argc5 hb19
  obtain ⟨b0, b1, b2, b3, b4, b5, rfl⟩ := six_of (bho.1.trans (row_length _))
  have bone := Lib.hid bho.one
  have bR := Lib.hid (show ∀ x ∈ bF, w5.heap.size ≤ x ∧ x < w6.heap.size from bho.range)
  have bN := Lib.hid bhn
  have b_24 := Lib.hid bho
  clear bho bhn
  obtain ⟨w7, hw7⟩ : ∃ x, x = w6.alloc (.cells #[b0, b1, b2, b3, b4, b5] 35) := ⟨_, rfl⟩
  have hb25 : Below w6.heap.size w6 w7 := by subst hw7; exact (Below.refl _ _).alloc (Nat.le_refl _) _
  have S26 := Lib.hid (show w6.heap.size < w7.heap.size by subst hw7; simp)
  have row_27 := Lib.hid (show Row6 w7 w6.heap.size b0 b1 b2 b3 b4 b5 by subst hw7; exact Row6.of (heap_alloc_new w6 _))
  have Hw7 := Lib.hid hw7
  clear hw7
  have flta_28 := Lib.hid (flta_20.out.below hb25)
  have a_29 := Lib.hid (a_21.out.below hb25)
  have b_30 := Lib.hid (b_24.out.below hb25)
  have BB_31 := Lib.hid (below_link BB.out hb25 BB.out.size)
  clear BB
  have BB := BB_31
  clear BB_31
  have S32 := Lib.hid (show w6.heap.size ≤ w7.heap.size from hb25.size)
  clear flta_20 a_21 b_24 hb25
  have bhone := bone.out
  obtain ⟨bc0, bc1, bc2, bc3, bc4, bc5⟩ := row_27.out
  rw [Hw7.out] at bc0 bc1 bc2 bc3 bc4 bc5
  go_wp2_with (first | (refine wpList_store_row rfl 35 _ _ rfl w6.heap.size #[b0, b1, b2, b3, b4, b5] rfl rfl 35 _ (heap_alloc_new w6 _) tree_size rfl bhone ?_; rw [World.setRow_alloc_new]) | fail)
  rw [← Hw7.out]
  refine (HI.out _ _ _ b_30.out.lies (HET.out.below BB.out)).mono ?_
  rintro e w8 ⟨⟨gf, gv, gF, rfl, gho, ghn⟩, hb33⟩
  have flta_34 := Lib.hid (flta_28.out.below hb33)
  have b_35 := Lib.hid (row_27.out.below hb33)
  have a_36 := Lib.hid (a_29.out.below hb33)
  have b_37 := Lib.hid (b_30.out.below hb33)
  have BB_38 := Lib.hid (below_link BB.out hb33 BB.out.size)
  clear BB
  have BB := BB_38
  clear BB_38
  have S39 := Lib.hid (show w7.heap.size ≤ w8.heap.size from hb33.size)
  clear flta_28 row_27 a_29 b_30 bc0 bc1 bc2 bc3 bc4 bc5 hb33
  have gR := Lib.hid (show ∀ x ∈ gF, w7.heap.size ≤ x ∧ x < w8.heap.size from gho.range)
  have gN := Lib.hid ghn
  have g_40 := Lib.hid gho
  clear gho ghn
  obtain ⟨w9, hw9⟩ : ∃ x, x = w8.alloc (.cells #[.int .i64 cv, .int .i64 0, .string qv] 31) := ⟨_, rfl⟩
  have hb41 : Below w8.heap.size w8 w9 := by subst hw9; exact (Below.refl _ _).alloc (Nat.le_refl _) _
  have S42 := Lib.hid (show w8.heap.size < w9.heap.size by subst hw9; simp)
  have fltg_43 := Lib.hid (show RowE 31 w9 w8.heap.size [.int .i64 cv, .int .i64 0, .string qv] by subst hw9; exact RowE.new _ _ _)
  have Hw9 := Lib.hid hw9
  clear hw9
  have flta_44 := Lib.hid (flta_34.out.below hb41)
  have b_45 := Lib.hid (b_35.out.below hb41)
  have a_46 := Lib.hid (a_36.out.below hb41)
  have b_47 := Lib.hid (b_37.out.below hb41)
  have g_48 := Lib.hid (g_40.out.below hb41)
  have BB_49 := Lib.hid (below_link BB.out hb41 BB.out.size)
  clear BB
  have BB := BB_49
  clear BB_49
  have S50 := Lib.hid (show w8.heap.size ≤ w9.heap.size from hb41.size)
  clear flta_34 b_35 a_36 b_37 g_40 hb41
  go_wp2_with (first | (refine wpList_store_row rfl 31 _ _ rfl w8.heap.size #[.int .i64 cv, .int .i64 0, .string qv] rfl rfl 31 _ (heap_alloc_new w8 _) sizeFault rfl (by simp [Value.oneCell']) ?_; rw [World.setRow_alloc_new]) | fail)
  rw [← Hw9.out]
  refine (HEK.out _ _ _ _ _ g_48.out.lies a_46.out.lies).mono ?_
  rintro e w10 ⟨rfl, hb51⟩
  have flta_52 := Lib.hid (flta_44.out.below hb51)
  have b_53 := Lib.hid (b_45.out.below hb51)
  have fltg_54 := Lib.hid (fltg_43.out.below hb51)
  have a_55 := Lib.hid (a_46.out.below hb51)
  have b_56 := Lib.hid (b_47.out.below hb51)
  have g_57 := Lib.hid (g_48.out.below hb51)
  have BB_58 := Lib.hid (below_link BB.out hb51 BB.out.size)
  clear BB
  have BB := BB_58
  clear BB_58
  have S59 := Lib.hid (show w9.heap.size ≤ w10.heap.size from hb51.size)
  clear flta_44 b_45 fltg_43 a_46 b_47 g_48 hb51
  have fltgc0 := fltg_54.out.cell 0 _ rfl
  have fltgc1 := fltg_54.out.cell 1 _ rfl
  have fltgc2 := fltg_54.out.cell 2 _ rfl
  have fltac0 := flta_52.out.cell 0 _ rfl
  have fltac1 := flta_52.out.cell 1 _ rfl
  have fltac2 := flta_52.out.cell 2 _ rfl
  go_wp2_with fail
  refine (HF.out _).mono ?_
  rintro e w11 ⟨rfl, hb60⟩
  have flta_61 := Lib.hid (flta_52.out.below hb60)
  have b_62 := Lib.hid (b_53.out.below hb60)
  have fltg_63 := Lib.hid (fltg_54.out.below hb60)
  have a_64 := Lib.hid (a_55.out.below hb60)
  have b_65 := Lib.hid (b_56.out.below hb60)
  have g_66 := Lib.hid (g_57.out.below hb60)
  have BB_67 := Lib.hid (below_link BB.out hb60 BB.out.size)
  clear BB
  have BB := BB_67
  clear BB_67
  have S68 := Lib.hid (show w10.heap.size ≤ w11.heap.size from hb60.size)
  clear flta_52 b_53 fltg_54 a_55 b_56 g_57 fltgc0 fltgc1 fltgc2 fltac0 fltac1 fltac2 hb60
  obtain ⟨bc0, bc1, bc2, bc3, bc4, bc5⟩ := b_62.out
  obtain ⟨argc0, argc1, argc2, argc3, argc4, argc5⟩ := (ARG.out.below BB.out)
  go_wp2_with fail
  go_region_law (go_simp; first | (go_at_call 14; refine (HT.out _ ((Hl.out.below BB.out).below (Below.refl _ _).drew)).mono ?_; rintro e m69 ⟨⟨usm69, Fm69, rfl, hom69, _⟩, hb70⟩; obtain ⟨qm690, qm691, qm692, qm693, qm694, qm695⟩ := (Row6.below (w := w11.drew) (w' := m69) b_62.out hb70)) | (go_at_call 18; refine (HE.out _ _ _ _ _ (b_65.out.lies.below ((Below.refl _ _).drew.trans (hb70.mono (Nat.le_refl _)))) hom69.lies).mono ?_; rintro e w12 ⟨rfl, hb72⟩))
  all_goals
    have hb71 : Below w11.heap.size w11 w12 := below_link ((Below.refl _ _).drew.trans (hb70.mono (Nat.le_refl _))) hb72 hb70.size
    clear hom69 hb70 hb72 qm690 qm691 qm692 qm693 qm694 qm695
    have flta_73 := Lib.hid (flta_61.out.below hb71)
    have b_74 := Lib.hid (b_62.out.below hb71)
    have fltg_75 := Lib.hid (fltg_63.out.below hb71)
    have a_76 := Lib.hid (a_64.out.below hb71)
    have b_77 := Lib.hid (b_65.out.below hb71)
    have g_78 := Lib.hid (g_66.out.below hb71)
    have BB_79 := Lib.hid (below_link BB.out hb71 BB.out.size)
    clear BB
    have BB := BB_79
    clear BB_79
    have S80 := Lib.hid (show w11.heap.size ≤ w12.heap.size from hb71.size)
    clear flta_61 b_62 fltg_63 a_64 b_65 g_66 bc0 bc1 bc2 bc3 bc4 bc5 argc0 argc1 argc2 argc3 argc4 argc5 hb71
    obtain ⟨bc0, bc1, bc2, bc3, bc4, bc5⟩ := b_74.out
    go_wp2_with fail
    refine (HM.out _ _ _ _ _ b_77.out bN.out).mono ?_
    rintro e w13 ⟨rfl, ho82, hk81⟩
    have flta_83 := Lib.hid (flta_73.out.but hk81 (fun hx => by have := S0.out; have := S3.out; have := S6.out; have := S11.out; have := S18.out; have := S14.out; have := S23.out; have := S32.out; have := S26.out; have := S39.out; have := S50.out; have := S42.out; have := S59.out; have := S68.out; have := S80.out; have h1 := bR.out _ hx; omega))
    have b_84 := Lib.hid (b_74.out.but hk81 (fun hx => by have := S0.out; have := S3.out; have := S6.out; have := S11.out; have := S18.out; have := S14.out; have := S23.out; have := S32.out; have := S26.out; have := S39.out; have := S50.out; have := S42.out; have := S59.out; have := S68.out; have := S80.out; have h1 := bR.out _ hx; omega))
    have fltg_85 := Lib.hid (fltg_75.out.but hk81 (fun hx => by have := S0.out; have := S3.out; have := S6.out; have := S11.out; have := S18.out; have := S14.out; have := S23.out; have := S32.out; have := S26.out; have := S39.out; have := S50.out; have := S42.out; have := S59.out; have := S68.out; have := S80.out; have h1 := bR.out _ hx; omega))
    have a_86 := Lib.hid (a_76.out.but hk81 (fun x hy hx => by have := S0.out; have := S3.out; have := S6.out; have := S11.out; have := S18.out; have := S14.out; have := S23.out; have := S32.out; have := S26.out; have := S39.out; have := S50.out; have := S42.out; have := S59.out; have := S68.out; have := S80.out; have h1 := bR.out _ hx; have h2 := aR.out _ hy; omega))
    have b_87 := Lib.hid ho82
    have g_88 := Lib.hid (g_78.out.but hk81 (fun x hy hx => by have := S0.out; have := S3.out; have := S6.out; have := S11.out; have := S18.out; have := S14.out; have := S23.out; have := S32.out; have := S26.out; have := S39.out; have := S50.out; have := S42.out; have := S59.out; have := S68.out; have := S80.out; have h1 := bR.out _ hx; have h2 := gR.out _ hy; omega))
    have BB_89 := Lib.hid (KeptBut.below BB.out hk81 BB.out.size (fun x hx => by have := S0.out; have := S3.out; have := S6.out; have := S11.out; have := S18.out; have := S14.out; have := S23.out; have := S32.out; have := S26.out; have := S39.out; have := S50.out; have := S42.out; have := S59.out; have := S68.out; have := S80.out; have h1 := bR.out _ hx; omega))
    clear BB
    have BB := BB_89
    clear BB_89
    have S90 := Lib.hid (show w12.heap.size ≤ w13.heap.size from hk81.size)
    clear flta_73 b_74 fltg_75 a_76 b_77 g_78 bc0 bc1 bc2 bc3 bc4 bc5 hk81 ho82 
    go_wp2_with fail
    refine (HEK.out _ _ _ _ _ g_88.out.lies a_86.out.lies).mono ?_
    rintro e w14 ⟨rfl, hb91⟩
    have flta_92 := Lib.hid (flta_83.out.below hb91)
    have b_93 := Lib.hid (b_84.out.below hb91)
    have fltg_94 := Lib.hid (fltg_85.out.below hb91)
    have a_95 := Lib.hid (a_86.out.below hb91)
    have b_96 := Lib.hid (b_87.out.below hb91)
    have g_97 := Lib.hid (g_88.out.below hb91)
    have BB_98 := Lib.hid (below_link BB.out hb91 BB.out.size)
    clear BB
    have BB := BB_98
    clear BB_98
    have S99 := Lib.hid (show w13.heap.size ≤ w14.heap.size from hb91.size)
    clear flta_83 b_84 fltg_85 a_86 b_87 g_88 hb91
    have fltgc0 := fltg_94.out.cell 0 _ rfl
    have fltgc1 := fltg_94.out.cell 1 _ rfl
    have fltgc2 := fltg_94.out.cell 2 _ rfl
    have fltac0 := flta_92.out.cell 0 _ rfl
    have fltac1 := flta_92.out.cell 1 _ rfl
    have fltac2 := flta_92.out.cell 2 _ rfl
    go_wp2_with fail
    refine (HF.out _).mono ?_
    rintro e w15 ⟨rfl, hb100⟩
    have flta_101 := Lib.hid (flta_92.out.below hb100)
    have b_102 := Lib.hid (b_93.out.below hb100)
    have fltg_103 := Lib.hid (fltg_94.out.below hb100)
    have a_104 := Lib.hid (a_95.out.below hb100)
    have b_105 := Lib.hid (b_96.out.below hb100)
    have g_106 := Lib.hid (g_97.out.below hb100)
    have BB_107 := Lib.hid (below_link BB.out hb100 BB.out.size)
    clear BB
    have BB := BB_107
    clear BB_107
    have S108 := Lib.hid (show w14.heap.size ≤ w15.heap.size from hb100.size)
    clear flta_92 b_93 fltg_94 a_95 b_96 g_97 fltgc0 fltgc1 fltgc2 fltac0 fltac1 fltac2 hb100
    clear b_102 b_105
    go_wp2_with fail
    refine (HMK.out _ _ _ _ _ g_106.out gN.out).mono ?_
    rintro e w16 ⟨rfl, ho110, hk109⟩
    have flta_111 := Lib.hid (flta_101.out.but hk109 (fun hx => by have := S0.out; have := S3.out; have := S6.out; have := S11.out; have := S18.out; have := S14.out; have := S23.out; have := S32.out; have := S26.out; have := S39.out; have := S50.out; have := S42.out; have := S59.out; have := S68.out; have := S80.out; have := S90.out; have := S99.out; have := S108.out; have h1 := gR.out _ hx; omega))
    have fltg_112 := Lib.hid (fltg_103.out.but hk109 (fun hx => by have := S0.out; have := S3.out; have := S6.out; have := S11.out; have := S18.out; have := S14.out; have := S23.out; have := S32.out; have := S26.out; have := S39.out; have := S50.out; have := S42.out; have := S59.out; have := S68.out; have := S80.out; have := S90.out; have := S99.out; have := S108.out; have h1 := gR.out _ hx; omega))
    have a_113 := Lib.hid (a_104.out.but hk109 (fun x hy hx => by have := S0.out; have := S3.out; have := S6.out; have := S11.out; have := S18.out; have := S14.out; have := S23.out; have := S32.out; have := S26.out; have := S39.out; have := S50.out; have := S42.out; have := S59.out; have := S68.out; have := S80.out; have := S90.out; have := S99.out; have := S108.out; have h1 := gR.out _ hx; have h2 := aR.out _ hy; omega))
    have g_114 := Lib.hid ho110
    have BB_115 := Lib.hid (KeptBut.below BB.out hk109 BB.out.size (fun x hx => by have := S0.out; have := S3.out; have := S6.out; have := S11.out; have := S18.out; have := S14.out; have := S23.out; have := S32.out; have := S26.out; have := S39.out; have := S50.out; have := S42.out; have := S59.out; have := S68.out; have := S80.out; have := S90.out; have := S99.out; have := S108.out; have h1 := gR.out _ hx; omega))
    clear BB
    have BB := BB_115
    clear BB_115
    have S116 := Lib.hid (show w15.heap.size ≤ w16.heap.size from hk109.size)
    clear flta_101 fltg_103 a_104 g_106 hk109 ho110 
    go_wp2_with fail
    refine (HHK.out _ _ _ g_114.out.lies).mono ?_
    rintro e w17 ⟨rfl, hb117⟩
    have flta_118 := Lib.hid (flta_111.out.below hb117)
    have fltg_119 := Lib.hid (fltg_112.out.below hb117)
    have a_120 := Lib.hid (a_113.out.below hb117)
    have g_121 := Lib.hid (g_114.out.below hb117)
    have BB_122 := Lib.hid (below_link BB.out hb117 BB.out.size)
    clear BB
    have BB := BB_122
    clear BB_122
    have S123 := Lib.hid (show w16.heap.size ≤ w17.heap.size from hb117.size)
    clear flta_111 fltg_112 a_113 g_114 hb117
    obtain ⟨argc0, argc1, argc2, argc3, argc4, argc5⟩ := (ARG.out.below BB.out)
    go_wp2_with fail
    refine (HT.out _ (Hl.out.below BB.out)).mono ?_
    rintro e w18 ⟨⟨yus, yF, rfl, yho, yhn⟩, hb124⟩
    have flta_125 := Lib.hid (flta_118.out.below hb124)
    have fltg_126 := Lib.hid (fltg_119.out.below hb124)
    have a_127 := Lib.hid (a_120.out.below hb124)
    have g_128 := Lib.hid (g_121.out.below hb124)
    have BB_129 := Lib.hid (below_link BB.out hb124 BB.out.size)
    clear BB
    have BB := BB_129
    clear BB_129
    have S130 := Lib.hid (show w17.heap.size ≤ w18.heap.size from hb124.size)
    clear flta_118 fltg_119 a_120 g_121 argc0 argc1 argc2 argc3 argc4 argc5 hb124
    obtain ⟨y0, y1, y2, y3, y4, y5, rfl⟩ := six_of (yho.1.trans (row_length _))
    have yone := Lib.hid yho.one
    have yR := Lib.hid (show ∀ x ∈ yF, w17.heap.size ≤ x ∧ x < w18.heap.size from yho.range)
    have yN := Lib.hid yhn
    have y_131 := Lib.hid yho
    clear yho yhn
    go_wp2_with fail
    refine (HI.out _ _ _ y_131.out.lies (HET.out.below BB.out)).mono ?_
    rintro e w19 ⟨⟨hf, hv, hF, rfl, hho, hhn⟩, hb132⟩
    have flta_133 := Lib.hid (flta_125.out.below hb132)
    have fltg_134 := Lib.hid (fltg_126.out.below hb132)
    have a_135 := Lib.hid (a_127.out.below hb132)
    have g_136 := Lib.hid (g_128.out.below hb132)
    have y_137 := Lib.hid (y_131.out.below hb132)
    have BB_138 := Lib.hid (below_link BB.out hb132 BB.out.size)
    clear BB
    have BB := BB_138
    clear BB_138
    have S139 := Lib.hid (show w18.heap.size ≤ w19.heap.size from hb132.size)
    clear flta_125 fltg_126 a_127 g_128 y_131 hb132
    have hR := Lib.hid (show ∀ x ∈ hF, w18.heap.size ≤ x ∧ x < w19.heap.size from hho.range)
    have hN := Lib.hid hhn
    have h_140 := Lib.hid hho
    clear hho hhn
    clear y_137
    obtain ⟨w20, hw20⟩ : ∃ x, x = w19.alloc (.cells #[.int .i64 cv, .int .i64 0, .string qv] 31) := ⟨_, rfl⟩
    have hb141 : Below w19.heap.size w19 w20 := by subst hw20; exact (Below.refl _ _).alloc (Nat.le_refl _) _
    have S142 := Lib.hid (show w19.heap.size < w20.heap.size by subst hw20; simp)
    have flth_143 := Lib.hid (show RowE 31 w20 w19.heap.size [.int .i64 cv, .int .i64 0, .string qv] by subst hw20; exact RowE.new _ _ _)
    have Hw20 := Lib.hid hw20
    clear hw20
    have flta_144 := Lib.hid (flta_133.out.below hb141)
    have fltg_145 := Lib.hid (fltg_134.out.below hb141)
    have a_146 := Lib.hid (a_135.out.below hb141)
    have g_147 := Lib.hid (g_136.out.below hb141)
    have h_148 := Lib.hid (h_140.out.below hb141)
    have BB_149 := Lib.hid (below_link BB.out hb141 BB.out.size)
    clear BB
    have BB := BB_149
    clear BB_149
    have S150 := Lib.hid (show w19.heap.size ≤ w20.heap.size from hb141.size)
    clear flta_133 fltg_134 a_135 g_136 h_140 hb141
    go_wp2_with (first | (refine wpList_store_row rfl 31 _ _ rfl w19.heap.size #[.int .i64 cv, .int .i64 0, .string qv] rfl rfl 31 _ (heap_alloc_new w19 _) sizeFault rfl (by simp [Value.oneCell']) ?_; rw [World.setRow_alloc_new]) | fail)
    rw [← Hw20.out]
    refine (HEK.out _ _ _ _ _ h_148.out.lies a_146.out.lies).mono ?_
    rintro e w21 ⟨rfl, hb151⟩
    have flta_152 := Lib.hid (flta_144.out.below hb151)
    have fltg_153 := Lib.hid (fltg_145.out.below hb151)
    have flth_154 := Lib.hid (flth_143.out.below hb151)
    have a_155 := Lib.hid (a_146.out.below hb151)
    have g_156 := Lib.hid (g_147.out.below hb151)
    have h_157 := Lib.hid (h_148.out.below hb151)
    have BB_158 := Lib.hid (below_link BB.out hb151 BB.out.size)
    clear BB
    have BB := BB_158
    clear BB_158
    have S159 := Lib.hid (show w20.heap.size ≤ w21.heap.size from hb151.size)
    clear flta_144 fltg_145 flth_143 a_146 g_147 h_148 hb151
    have flthc0 := flth_154.out.cell 0 _ rfl
    have flthc1 := flth_154.out.cell 1 _ rfl
    have flthc2 := flth_154.out.cell 2 _ rfl
    have fltac0 := flta_152.out.cell 0 _ rfl
    have fltac1 := flta_152.out.cell 1 _ rfl
    have fltac2 := flta_152.out.cell 2 _ rfl
    go_wp2_with fail
    refine (HF.out _).mono ?_
    rintro e w22 ⟨rfl, hb160⟩
    have flta_161 := Lib.hid (flta_152.out.below hb160)
    have fltg_162 := Lib.hid (fltg_153.out.below hb160)
    have flth_163 := Lib.hid (flth_154.out.below hb160)
    have a_164 := Lib.hid (a_155.out.below hb160)
    have g_165 := Lib.hid (g_156.out.below hb160)
    have h_166 := Lib.hid (h_157.out.below hb160)
    have BB_167 := Lib.hid (below_link BB.out hb160 BB.out.size)
    clear BB
    have BB := BB_167
    clear BB_167
    have S168 := Lib.hid (show w21.heap.size ≤ w22.heap.size from hb160.size)
    clear flta_152 fltg_153 flth_154 a_155 g_156 h_157 flthc0 flthc1 flthc2 fltac0 fltac1 fltac2 hb160
    go_wp2_with fail
    refine (HHK.out _ _ _ g_165.out.lies).mono ?_
    rintro e w23 ⟨rfl, hb169⟩
    have flta_170 := Lib.hid (flta_161.out.below hb169)
    have fltg_171 := Lib.hid (fltg_162.out.below hb169)
    have flth_172 := Lib.hid (flth_163.out.below hb169)
    have a_173 := Lib.hid (a_164.out.below hb169)
    have g_174 := Lib.hid (g_165.out.below hb169)
    have h_175 := Lib.hid (h_166.out.below hb169)
    have BB_176 := Lib.hid (below_link BB.out hb169 BB.out.size)
    clear BB
    have BB := BB_176
    clear BB_176
    have S177 := Lib.hid (show w22.heap.size ≤ w23.heap.size from hb169.size)
    clear flta_161 fltg_162 flth_163 a_164 g_165 h_166 hb169
    go_wp2_with fail
    go_ret
    exact ⟨rfl, below_link Hb1.out BB.out Hb1.out.size⟩
end Go.Proofs.YtangdmjdjiddcaaDoor.fnExactListField
