/- FnExactKidOf: the law returns true at every argument. -/
import Derived.Test.YtangdmjdjiddcaaGA2
import Derived.Test.YtangdmjdjiddcaaGA3
import Derived.Test.YtangdmjdjiddcaaGA4
import Derived.Test.YtangdmjdjiddcaaTrKidS
import Derived.Test.YtangdmjdjiddcaaTrKidI
namespace Go.Proofs.Ytangdmjdjiddcaa.fnExactKidOf
open Go.ChangeShapes Go.WideShapes Go.ChangeAt Go.RowKit
open tree
set_option linter.unusedVariables false

set_option maxRecDepth 100000 in
set_option maxHeartbeats 16000000 in
theorem walk (t : T) (f : Nat) (vs : List Value) (key : ByteArray) (W : World) (h : LiesS W f vs (row t)) (hkey : key.size ≤ maxLen) :
    Calls Try.prog 4 #[.agg vs.toArray, .string key] W fun e w' => e = .returned (.bool true) ∧ Below W.heap.size W w' := by
  unfold maxLen at hkey
  obtain ⟨u0, u1, u2, u3, u4, u5, rfl⟩ := six_of (h.1.trans (row_length t))
  obtain ⟨w1, hw1⟩ : ∃ x, x = W.alloc (.cells #[u0, u1, u2, u3, u4, u5] 27) := ⟨_, rfl⟩
  have hb1 : Below W.heap.size W w1 := by subst hw1; exact (Below.refl _ _).alloc (Nat.le_refl _) _
  have hp : Row6 w1 W.heap.size u0 u1 u2 u3 u4 u5 := by subst hw1; exact Row6.of (heap_alloc_new W _)
  have Hw1 := Lib.hid hw1
  have Hb1 := Lib.hid hb1
  have ARG := Lib.hid hp
  have Hl := Lib.hid (h.below hb1)
  have BB := Lib.hid (Below.refl w1.heap.size w1)
  have S0 := Lib.hid (show W.heap.size < w1.heap.size by subst hw1; simp)
  clear h hb1 hp hw1
  by_cases hk : 1048576 < key.size
  · go_enter Try.func4, Try.ntmps4
    go_wp2_with fail
    rw [← Hw1.out]
    go_ret
    exact ⟨rfl, Hb1.out⟩
  have HZ := Lib.hid (sz_tree t _ 1048576 w1 Hl.out ⟨by decide, by decide⟩)
  by_cases hw : (1048576 : Int) < weight t
  · rw [cut_no hw] at HZ
    obtain ⟨p0, p1, p2, p3, p4, p5⟩ := ARG.out
    rw [Hw1.out] at p0 p1 p2 p3 p4 p5
    go_enter Try.func4, Try.ntmps4
    go_wp2_with fail
    rw [← Hw1.out]
    refine HZ.out.mono ?_
    rintro e w2 ⟨rfl, hb2⟩
    have Hb2 := Lib.hid (below_link Hb1.out hb2 Hb1.out.size)
    clear hb2 p0 p1 p2 p3 p4 p5
    go_wp2_with fail
    go_ret
    exact ⟨rfl, Hb2.out⟩
  rw [cut_yes hw] at HZ
  have hwn : weight t ≤ 1048576 := by omega
  have hleft : ¬ (1048576 - (weight t : Int)) < 0 := by omega
  have hKw := Nat.le_trans (kidOf_weight t key) hwn
  have hct : (1 : Int) + topCost t ≤ 4611686018427387904 := by have := topCost_le t; omega
  have HT := Lib.hid (fun w (hl : LiesS w f [u0, u1, u2, u3, u4, u5] (row t)) => to_tree t _ w hl hwn)
  have HS := Lib.hid (fun f us w (hl : LiesS w f us (row t)) => spec_kid t key us w hl hwn)
  have HI := Lib.hid (fun f us w (hl : LiesS w f us (row t)) => impl_kid t key us w hl hwn)
  generalize kidOf t key = R at HS HI hKw
  obtain ⟨K, b⟩ := R
  have hcK : (1 : Int) + topCost K ≤ 4611686018427387904 := by have := topCost_le K; have hKw' : weight K ≤ 1048576 := hKw; omega
  have HE := Lib.hid (fun f f' us xs w (h1 : LiesS w f us (row t)) (h2 : LiesS w f' xs (row t)) => eq_tree t us xs w (h1.deeper (Nat.le_max_left f f')) (h2.deeper (Nat.le_max_right f f')))
  have HEK := Lib.hid (fun f f' us xs w (h1 : LiesS w f us (row K)) (h2 : LiesS w f' xs (row K)) => eq_tree K us xs w (h1.deeper (Nat.le_max_left f f')) (h2.deeper (Nat.le_max_right f f')))
  have HM := Lib.hid (fun B f vs F w (h : OwnS w B f vs (row t) F) (hnd : F.Nodup) => mark_tree t vs F 1 w h hnd (by decide) hct)
  have HMK := Lib.hid (fun B f vs F w (h : OwnS w B f vs (row K) F) (hnd : F.Nodup) => mark_tree K vs F 1 w h hnd (by decide) hcK)
  have HHK := Lib.hid (fun f vs w (h : LiesS w f vs (row (topT K 1))) => held_tree K vs 1 w h (by decide) hcK)
  have c0 : (0 : Int) ≤ topCost t := Int.natCast_nonneg _
  have c1 : (0 : Int) ≤ topCost K := Int.natCast_nonneg _
  clear hw hwn hKw hct hcK
  generalize (1048576 - (weight t : Int)) = left at HZ hleft
  generalize (topCost t : Int) = C0 at HM c0
  generalize (topCost K : Int) = C1 at HMK HHK c1
  have n0 : ¬ (1 + C0 < 0) := by omega
  have n1 : ¬ (1 + C1 < 0) := by omega
  go_enter Try.func4, Try.ntmps4
  obtain ⟨argc0, argc1, argc2, argc3, argc4, argc5⟩ := (ARG.out.below BB.out)
  rw [Hw1.out] at argc0 argc1 argc2 argc3 argc4 argc5
  go_wp2_with fail
  rw [← Hw1.out]
  refine (HZ.out).mono ?_
  rintro e w2 ⟨rfl, hb1⟩
  have BB_2 := Lib.hid (below_link BB.out hb1 BB.out.size)
  clear BB
  have BB := BB_2
  clear BB_2
  have S3 := Lib.hid (show w1.heap.size ≤ w2.heap.size from hb1.size)
  clear argc0 argc1 argc2 argc3 argc4 argc5 hb1
  obtain ⟨argc0, argc1, argc2, argc3, argc4, argc5⟩ := (ARG.out.below BB.out)
  go_wp2_with fail
  refine (HT.out _ (Hl.out.below BB.out)).mono ?_
  rintro e w3 ⟨⟨xus, xF, rfl, xho, xhn⟩, hb4⟩
  have BB_5 := Lib.hid (below_link BB.out hb4 BB.out.size)
  clear BB
  have BB := BB_5
  clear BB_5
  have S6 := Lib.hid (show w2.heap.size ≤ w3.heap.size from hb4.size)
  clear argc0 argc1 argc2 argc3 argc4 argc5 hb4
  obtain ⟨x0, x1, x2, x3, x4, x5, rfl⟩ := six_of (xho.1.trans (row_length _))
  have xone := Lib.hid xho.one
  have xR := Lib.hid (show ∀ x ∈ xF, w2.heap.size ≤ x ∧ x < w3.heap.size from xho.range)
  have xN := Lib.hid xhn
  have x_7 := Lib.hid xho
  clear xho xhn
  go_wp2_with fail
  refine (HS.out _ _ _ x_7.out.lies).mono ?_
  rintro e w4 ⟨⟨aus, aF, rfl, aho, ahn⟩, hb8⟩
  have x_9 := Lib.hid (x_7.out.below hb8)
  have BB_10 := Lib.hid (below_link BB.out hb8 BB.out.size)
  clear BB
  have BB := BB_10
  clear BB_10
  have S11 := Lib.hid (show w3.heap.size ≤ w4.heap.size from hb8.size)
  clear x_7 hb8
  obtain ⟨a0, a1, a2, a3, a4, a5, rfl⟩ := six_of (aho.1.trans (row_length _))
  have aone := Lib.hid aho.one
  have aR := Lib.hid (show ∀ x ∈ aF, w3.heap.size ≤ x ∧ x < w4.heap.size from aho.range)
  have aN := Lib.hid ahn
  have a_12 := Lib.hid aho
  clear aho ahn
  clear x_9
  obtain ⟨w5, hw5⟩ : ∃ x, x = w4.alloc (.cells #[a0, a1, a2, a3, a4, a5] 31) := ⟨_, rfl⟩
  have hb13 : Below w4.heap.size w4 w5 := by subst hw5; exact (Below.refl _ _).alloc (Nat.le_refl _) _
  have S14 := Lib.hid (show w4.heap.size < w5.heap.size by subst hw5; simp)
  have row_15 := Lib.hid (show Row6 w5 w4.heap.size a0 a1 a2 a3 a4 a5 by subst hw5; exact Row6.of (heap_alloc_new w4 _))
  have Hw5 := Lib.hid hw5
  clear hw5
  have a_16 := Lib.hid (a_12.out.below hb13)
  have BB_17 := Lib.hid (below_link BB.out hb13 BB.out.size)
  clear BB
  have BB := BB_17
  clear BB_17
  have S18 := Lib.hid (show w4.heap.size ≤ w5.heap.size from hb13.size)
  clear a_12 hb13
  have ahone := aone.out
  obtain ⟨argc0, argc1, argc2, argc3, argc4, argc5⟩ := (ARG.out.below BB.out)
  rw [Hw5.out] at argc0 argc1 argc2 argc3 argc4 argc5
  go_wp2_with (first | (refine wpList_store_row rfl 31 _ _ rfl w4.heap.size #[a0, a1, a2, a3, a4, a5] rfl rfl 31 _ (heap_alloc_new w4 _) tree_size rfl ahone ?_; rw [World.setRow_alloc_new]) | fail)
  rw [← Hw5.out]
  refine (HT.out _ (Hl.out.below BB.out)).mono ?_
  rintro e w6 ⟨⟨bus, bF, rfl, bho, bhn⟩, hb19⟩
  have a_20 := Lib.hid (row_15.out.below hb19)
  have a_21 := Lib.hid (a_16.out.below hb19)
  have BB_22 := Lib.hid (below_link BB.out hb19 BB.out.size)
  clear BB
  have BB := BB_22
  clear BB_22
  have S23 := Lib.hid (show w5.heap.size ≤ w6.heap.size from hb19.size)
  clear row_15 a_16 argc0 argc1 argc2 argc3 argc4 argc5 hb19
  obtain ⟨b0, b1, b2, b3, b4, b5, rfl⟩ := six_of (bho.1.trans (row_length _))
  have bone := Lib.hid bho.one
  have bR := Lib.hid (show ∀ x ∈ bF, w5.heap.size ≤ x ∧ x < w6.heap.size from bho.range)
  have bN := Lib.hid bhn
  have b_24 := Lib.hid bho
  clear bho bhn
  obtain ⟨w7, hw7⟩ : ∃ x, x = w6.alloc (.cells #[b0, b1, b2, b3, b4, b5] 31) := ⟨_, rfl⟩
  have hb25 : Below w6.heap.size w6 w7 := by subst hw7; exact (Below.refl _ _).alloc (Nat.le_refl _) _
  have S26 := Lib.hid (show w6.heap.size < w7.heap.size by subst hw7; simp)
  have row_27 := Lib.hid (show Row6 w7 w6.heap.size b0 b1 b2 b3 b4 b5 by subst hw7; exact Row6.of (heap_alloc_new w6 _))
  have Hw7 := Lib.hid hw7
  clear hw7
  have a_28 := Lib.hid (a_20.out.below hb25)
  have a_29 := Lib.hid (a_21.out.below hb25)
  have b_30 := Lib.hid (b_24.out.below hb25)
  have BB_31 := Lib.hid (below_link BB.out hb25 BB.out.size)
  clear BB
  have BB := BB_31
  clear BB_31
  have S32 := Lib.hid (show w6.heap.size ≤ w7.heap.size from hb25.size)
  clear a_20 a_21 b_24 hb25
  have bhone := bone.out
  obtain ⟨bc0, bc1, bc2, bc3, bc4, bc5⟩ := row_27.out
  rw [Hw7.out] at bc0 bc1 bc2 bc3 bc4 bc5
  go_wp2_with (first | (refine wpList_store_row rfl 31 _ _ rfl w6.heap.size #[b0, b1, b2, b3, b4, b5] rfl rfl 31 _ (heap_alloc_new w6 _) tree_size rfl bhone ?_; rw [World.setRow_alloc_new]) | fail)
  rw [← Hw7.out]
  refine (HI.out _ _ _ b_30.out.lies).mono ?_
  rintro e w8 ⟨⟨gus, gF, rfl, gho, ghn⟩, hb33⟩
  have a_34 := Lib.hid (a_28.out.below hb33)
  have b_35 := Lib.hid (row_27.out.below hb33)
  have a_36 := Lib.hid (a_29.out.below hb33)
  have b_37 := Lib.hid (b_30.out.below hb33)
  have BB_38 := Lib.hid (below_link BB.out hb33 BB.out.size)
  clear BB
  have BB := BB_38
  clear BB_38
  have S39 := Lib.hid (show w7.heap.size ≤ w8.heap.size from hb33.size)
  clear a_28 row_27 a_29 b_30 bc0 bc1 bc2 bc3 bc4 bc5 hb33
  obtain ⟨g0, g1, g2, g3, g4, g5, rfl⟩ := six_of (gho.1.trans (row_length _))
  have gone := Lib.hid gho.one
  have gR := Lib.hid (show ∀ x ∈ gF, w7.heap.size ≤ x ∧ x < w8.heap.size from gho.range)
  have gN := Lib.hid ghn
  have g_40 := Lib.hid gho
  clear gho ghn
  obtain ⟨w9, hw9⟩ : ∃ x, x = w8.alloc (.cells #[g0, g1, g2, g3, g4, g5] 31) := ⟨_, rfl⟩
  have hb41 : Below w8.heap.size w8 w9 := by subst hw9; exact (Below.refl _ _).alloc (Nat.le_refl _) _
  have S42 := Lib.hid (show w8.heap.size < w9.heap.size by subst hw9; simp)
  have row_43 := Lib.hid (show Row6 w9 w8.heap.size g0 g1 g2 g3 g4 g5 by subst hw9; exact Row6.of (heap_alloc_new w8 _))
  have Hw9 := Lib.hid hw9
  clear hw9
  have a_44 := Lib.hid (a_34.out.below hb41)
  have b_45 := Lib.hid (b_35.out.below hb41)
  have a_46 := Lib.hid (a_36.out.below hb41)
  have b_47 := Lib.hid (b_37.out.below hb41)
  have g_48 := Lib.hid (g_40.out.below hb41)
  have BB_49 := Lib.hid (below_link BB.out hb41 BB.out.size)
  clear BB
  have BB := BB_49
  clear BB_49
  have S50 := Lib.hid (show w8.heap.size ≤ w9.heap.size from hb41.size)
  clear a_34 b_35 a_36 b_37 g_40 hb41
  have ghone := gone.out
  obtain ⟨gc0, gc1, gc2, gc3, gc4, gc5⟩ := row_43.out
  rw [Hw9.out] at gc0 gc1 gc2 gc3 gc4 gc5
  obtain ⟨ac0, ac1, ac2, ac3, ac4, ac5⟩ := a_44.out
  rw [Hw9.out] at ac0 ac1 ac2 ac3 ac4 ac5
  go_wp2_with (first | (refine wpList_store_row rfl 31 _ _ rfl w8.heap.size #[g0, g1, g2, g3, g4, g5] rfl rfl 31 _ (heap_alloc_new w8 _) tree_size rfl ghone ?_; rw [World.setRow_alloc_new]) | fail)
  rw [← Hw9.out]
  refine (HEK.out _ _ _ _ _ g_48.out.lies a_46.out.lies).mono ?_
  rintro e w10 ⟨rfl, hb51⟩
  have a_52 := Lib.hid (a_44.out.below hb51)
  have b_53 := Lib.hid (b_45.out.below hb51)
  have g_54 := Lib.hid (row_43.out.below hb51)
  have a_55 := Lib.hid (a_46.out.below hb51)
  have b_56 := Lib.hid (b_47.out.below hb51)
  have g_57 := Lib.hid (g_48.out.below hb51)
  have BB_58 := Lib.hid (below_link BB.out hb51 BB.out.size)
  clear BB
  have BB := BB_58
  clear BB_58
  have S59 := Lib.hid (show w9.heap.size ≤ w10.heap.size from hb51.size)
  clear a_44 b_45 row_43 a_46 b_47 g_48 gc0 gc1 gc2 gc3 gc4 gc5 ac0 ac1 ac2 ac3 ac4 ac5 hb51
  obtain ⟨bc0, bc1, bc2, bc3, bc4, bc5⟩ := b_53.out
  obtain ⟨argc0, argc1, argc2, argc3, argc4, argc5⟩ := (ARG.out.below BB.out)
  go_wp2_with fail
  go_region_law (go_simp; first | (go_at_call 9; refine (HT.out _ ((Hl.out.below BB.out).below (Below.refl _ _).drew)).mono ?_; rintro e m60 ⟨⟨usm60, Fm60, rfl, hom60, _⟩, hb61⟩; obtain ⟨qm600, qm601, qm602, qm603, qm604, qm605⟩ := (Row6.below (w := w10.drew) (w' := m60) b_53.out hb61)) | (go_at_call 11; refine (HE.out _ _ _ _ _ (b_56.out.lies.below ((Below.refl _ _).drew.trans (hb61.mono (Nat.le_refl _)))) hom60.lies).mono ?_; rintro e w11 ⟨rfl, hb63⟩))
  all_goals
    have hb62 : Below w10.heap.size w10 w11 := below_link ((Below.refl _ _).drew.trans (hb61.mono (Nat.le_refl _))) hb63 hb61.size
    clear hom60 hb61 hb63 qm600 qm601 qm602 qm603 qm604 qm605
    have a_64 := Lib.hid (a_52.out.below hb62)
    have b_65 := Lib.hid (b_53.out.below hb62)
    have g_66 := Lib.hid (g_54.out.below hb62)
    have a_67 := Lib.hid (a_55.out.below hb62)
    have b_68 := Lib.hid (b_56.out.below hb62)
    have g_69 := Lib.hid (g_57.out.below hb62)
    have BB_70 := Lib.hid (below_link BB.out hb62 BB.out.size)
    clear BB
    have BB := BB_70
    clear BB_70
    have S71 := Lib.hid (show w10.heap.size ≤ w11.heap.size from hb62.size)
    clear a_52 b_53 g_54 a_55 b_56 g_57 bc0 bc1 bc2 bc3 bc4 bc5 argc0 argc1 argc2 argc3 argc4 argc5 hb62
    obtain ⟨bc0, bc1, bc2, bc3, bc4, bc5⟩ := b_65.out
    go_wp2_with fail
    refine (HM.out _ _ _ _ _ b_68.out bN.out).mono ?_
    rintro e w12 ⟨rfl, ho73, hk72⟩
    have a_74 := Lib.hid (a_64.out.but hk72 (fun hx => by have := S0.out; have := S3.out; have := S6.out; have := S11.out; have := S18.out; have := S14.out; have := S23.out; have := S32.out; have := S26.out; have := S39.out; have := S50.out; have := S42.out; have := S59.out; have := S71.out; have h1 := bR.out _ hx; omega))
    have b_75 := Lib.hid (b_65.out.but hk72 (fun hx => by have := S0.out; have := S3.out; have := S6.out; have := S11.out; have := S18.out; have := S14.out; have := S23.out; have := S32.out; have := S26.out; have := S39.out; have := S50.out; have := S42.out; have := S59.out; have := S71.out; have h1 := bR.out _ hx; omega))
    have g_76 := Lib.hid (g_66.out.but hk72 (fun hx => by have := S0.out; have := S3.out; have := S6.out; have := S11.out; have := S18.out; have := S14.out; have := S23.out; have := S32.out; have := S26.out; have := S39.out; have := S50.out; have := S42.out; have := S59.out; have := S71.out; have h1 := bR.out _ hx; omega))
    have a_77 := Lib.hid (a_67.out.but hk72 (fun x hy hx => by have := S0.out; have := S3.out; have := S6.out; have := S11.out; have := S18.out; have := S14.out; have := S23.out; have := S32.out; have := S26.out; have := S39.out; have := S50.out; have := S42.out; have := S59.out; have := S71.out; have h1 := bR.out _ hx; have h2 := aR.out _ hy; omega))
    have b_78 := Lib.hid ho73
    have g_79 := Lib.hid (g_69.out.but hk72 (fun x hy hx => by have := S0.out; have := S3.out; have := S6.out; have := S11.out; have := S18.out; have := S14.out; have := S23.out; have := S32.out; have := S26.out; have := S39.out; have := S50.out; have := S42.out; have := S59.out; have := S71.out; have h1 := bR.out _ hx; have h2 := gR.out _ hy; omega))
    have BB_80 := Lib.hid (KeptBut.below BB.out hk72 BB.out.size (fun x hx => by have := S0.out; have := S3.out; have := S6.out; have := S11.out; have := S18.out; have := S14.out; have := S23.out; have := S32.out; have := S26.out; have := S39.out; have := S50.out; have := S42.out; have := S59.out; have := S71.out; have h1 := bR.out _ hx; omega))
    clear BB
    have BB := BB_80
    clear BB_80
    have S81 := Lib.hid (show w11.heap.size ≤ w12.heap.size from hk72.size)
    clear a_64 b_65 g_66 a_67 b_68 g_69 bc0 bc1 bc2 bc3 bc4 bc5 hk72 ho73 
    obtain ⟨gc0, gc1, gc2, gc3, gc4, gc5⟩ := g_76.out
    obtain ⟨ac0, ac1, ac2, ac3, ac4, ac5⟩ := a_74.out
    go_wp2_with fail
    refine (HEK.out _ _ _ _ _ g_79.out.lies a_77.out.lies).mono ?_
    rintro e w13 ⟨rfl, hb82⟩
    have a_83 := Lib.hid (a_74.out.below hb82)
    have b_84 := Lib.hid (b_75.out.below hb82)
    have g_85 := Lib.hid (g_76.out.below hb82)
    have a_86 := Lib.hid (a_77.out.below hb82)
    have b_87 := Lib.hid (b_78.out.below hb82)
    have g_88 := Lib.hid (g_79.out.below hb82)
    have BB_89 := Lib.hid (below_link BB.out hb82 BB.out.size)
    clear BB
    have BB := BB_89
    clear BB_89
    have S90 := Lib.hid (show w12.heap.size ≤ w13.heap.size from hb82.size)
    clear a_74 b_75 g_76 a_77 b_78 g_79 gc0 gc1 gc2 gc3 gc4 gc5 ac0 ac1 ac2 ac3 ac4 ac5 hb82
    clear b_84 b_87
    obtain ⟨gc0, gc1, gc2, gc3, gc4, gc5⟩ := g_85.out
    go_wp2_with fail
    refine (HMK.out _ _ _ _ _ g_88.out gN.out).mono ?_
    rintro e w14 ⟨rfl, ho92, hk91⟩
    have a_93 := Lib.hid (a_83.out.but hk91 (fun hx => by have := S0.out; have := S3.out; have := S6.out; have := S11.out; have := S18.out; have := S14.out; have := S23.out; have := S32.out; have := S26.out; have := S39.out; have := S50.out; have := S42.out; have := S59.out; have := S71.out; have := S81.out; have := S90.out; have h1 := gR.out _ hx; omega))
    have g_94 := Lib.hid (g_85.out.but hk91 (fun hx => by have := S0.out; have := S3.out; have := S6.out; have := S11.out; have := S18.out; have := S14.out; have := S23.out; have := S32.out; have := S26.out; have := S39.out; have := S50.out; have := S42.out; have := S59.out; have := S71.out; have := S81.out; have := S90.out; have h1 := gR.out _ hx; omega))
    have a_95 := Lib.hid (a_86.out.but hk91 (fun x hy hx => by have := S0.out; have := S3.out; have := S6.out; have := S11.out; have := S18.out; have := S14.out; have := S23.out; have := S32.out; have := S26.out; have := S39.out; have := S50.out; have := S42.out; have := S59.out; have := S71.out; have := S81.out; have := S90.out; have h1 := gR.out _ hx; have h2 := aR.out _ hy; omega))
    have g_96 := Lib.hid ho92
    have BB_97 := Lib.hid (KeptBut.below BB.out hk91 BB.out.size (fun x hx => by have := S0.out; have := S3.out; have := S6.out; have := S11.out; have := S18.out; have := S14.out; have := S23.out; have := S32.out; have := S26.out; have := S39.out; have := S50.out; have := S42.out; have := S59.out; have := S71.out; have := S81.out; have := S90.out; have h1 := gR.out _ hx; omega))
    clear BB
    have BB := BB_97
    clear BB_97
    have S98 := Lib.hid (show w13.heap.size ≤ w14.heap.size from hk91.size)
    clear a_83 g_85 a_86 g_88 gc0 gc1 gc2 gc3 gc4 gc5 hk91 ho92 
    obtain ⟨gc0, gc1, gc2, gc3, gc4, gc5⟩ := g_94.out
    go_wp2_with fail
    refine (HHK.out _ _ _ g_96.out.lies).mono ?_
    rintro e w15 ⟨rfl, hb99⟩
    have a_100 := Lib.hid (a_93.out.below hb99)
    have g_101 := Lib.hid (g_94.out.below hb99)
    have a_102 := Lib.hid (a_95.out.below hb99)
    have g_103 := Lib.hid (g_96.out.below hb99)
    have BB_104 := Lib.hid (below_link BB.out hb99 BB.out.size)
    clear BB
    have BB := BB_104
    clear BB_104
    have S105 := Lib.hid (show w14.heap.size ≤ w15.heap.size from hb99.size)
    clear a_93 g_94 a_95 g_96 gc0 gc1 gc2 gc3 gc4 gc5 hb99
    obtain ⟨argc0, argc1, argc2, argc3, argc4, argc5⟩ := (ARG.out.below BB.out)
    go_wp2_with fail
    refine (HT.out _ (Hl.out.below BB.out)).mono ?_
    rintro e w16 ⟨⟨yus, yF, rfl, yho, yhn⟩, hb106⟩
    have a_107 := Lib.hid (a_100.out.below hb106)
    have g_108 := Lib.hid (g_101.out.below hb106)
    have a_109 := Lib.hid (a_102.out.below hb106)
    have g_110 := Lib.hid (g_103.out.below hb106)
    have BB_111 := Lib.hid (below_link BB.out hb106 BB.out.size)
    clear BB
    have BB := BB_111
    clear BB_111
    have S112 := Lib.hid (show w15.heap.size ≤ w16.heap.size from hb106.size)
    clear a_100 g_101 a_102 g_103 argc0 argc1 argc2 argc3 argc4 argc5 hb106
    obtain ⟨y0, y1, y2, y3, y4, y5, rfl⟩ := six_of (yho.1.trans (row_length _))
    have yone := Lib.hid yho.one
    have yR := Lib.hid (show ∀ x ∈ yF, w15.heap.size ≤ x ∧ x < w16.heap.size from yho.range)
    have yN := Lib.hid yhn
    have y_113 := Lib.hid yho
    clear yho yhn
    go_wp2_with fail
    refine (HI.out _ _ _ y_113.out.lies).mono ?_
    rintro e w17 ⟨⟨hus, hF, rfl, hho, hhn⟩, hb114⟩
    have a_115 := Lib.hid (a_107.out.below hb114)
    have g_116 := Lib.hid (g_108.out.below hb114)
    have a_117 := Lib.hid (a_109.out.below hb114)
    have g_118 := Lib.hid (g_110.out.below hb114)
    have y_119 := Lib.hid (y_113.out.below hb114)
    have BB_120 := Lib.hid (below_link BB.out hb114 BB.out.size)
    clear BB
    have BB := BB_120
    clear BB_120
    have S121 := Lib.hid (show w16.heap.size ≤ w17.heap.size from hb114.size)
    clear a_107 g_108 a_109 g_110 y_113 hb114
    obtain ⟨h0, h1, h2, h3, h4, h5, rfl⟩ := six_of (hho.1.trans (row_length _))
    have hone := Lib.hid hho.one
    have hR := Lib.hid (show ∀ x ∈ hF, w16.heap.size ≤ x ∧ x < w17.heap.size from hho.range)
    have hN := Lib.hid hhn
    have h_122 := Lib.hid hho
    clear hho hhn
    clear y_119
    obtain ⟨w18, hw18⟩ : ∃ x, x = w17.alloc (.cells #[h0, h1, h2, h3, h4, h5] 31) := ⟨_, rfl⟩
    have hb123 : Below w17.heap.size w17 w18 := by subst hw18; exact (Below.refl _ _).alloc (Nat.le_refl _) _
    have S124 := Lib.hid (show w17.heap.size < w18.heap.size by subst hw18; simp)
    have row_125 := Lib.hid (show Row6 w18 w17.heap.size h0 h1 h2 h3 h4 h5 by subst hw18; exact Row6.of (heap_alloc_new w17 _))
    have Hw18 := Lib.hid hw18
    clear hw18
    have a_126 := Lib.hid (a_115.out.below hb123)
    have g_127 := Lib.hid (g_116.out.below hb123)
    have a_128 := Lib.hid (a_117.out.below hb123)
    have g_129 := Lib.hid (g_118.out.below hb123)
    have h_130 := Lib.hid (h_122.out.below hb123)
    have BB_131 := Lib.hid (below_link BB.out hb123 BB.out.size)
    clear BB
    have BB := BB_131
    clear BB_131
    have S132 := Lib.hid (show w17.heap.size ≤ w18.heap.size from hb123.size)
    clear a_115 g_116 a_117 g_118 h_122 hb123
    have hhone := hone.out
    obtain ⟨hc0, hc1, hc2, hc3, hc4, hc5⟩ := row_125.out
    rw [Hw18.out] at hc0 hc1 hc2 hc3 hc4 hc5
    obtain ⟨ac0, ac1, ac2, ac3, ac4, ac5⟩ := a_126.out
    rw [Hw18.out] at ac0 ac1 ac2 ac3 ac4 ac5
    go_wp2_with (first | (refine wpList_store_row rfl 31 _ _ rfl w17.heap.size #[h0, h1, h2, h3, h4, h5] rfl rfl 31 _ (heap_alloc_new w17 _) tree_size rfl hhone ?_; rw [World.setRow_alloc_new]) | fail)
    rw [← Hw18.out]
    refine (HEK.out _ _ _ _ _ h_130.out.lies a_128.out.lies).mono ?_
    rintro e w19 ⟨rfl, hb133⟩
    have a_134 := Lib.hid (a_126.out.below hb133)
    have g_135 := Lib.hid (g_127.out.below hb133)
    have h_136 := Lib.hid (row_125.out.below hb133)
    have a_137 := Lib.hid (a_128.out.below hb133)
    have g_138 := Lib.hid (g_129.out.below hb133)
    have h_139 := Lib.hid (h_130.out.below hb133)
    have BB_140 := Lib.hid (below_link BB.out hb133 BB.out.size)
    clear BB
    have BB := BB_140
    clear BB_140
    have S141 := Lib.hid (show w18.heap.size ≤ w19.heap.size from hb133.size)
    clear a_126 g_127 row_125 a_128 g_129 h_130 hc0 hc1 hc2 hc3 hc4 hc5 ac0 ac1 ac2 ac3 ac4 ac5 hb133
    obtain ⟨gc0, gc1, gc2, gc3, gc4, gc5⟩ := g_135.out
    go_wp2_with fail
    refine (HHK.out _ _ _ g_138.out.lies).mono ?_
    rintro e w20 ⟨rfl, hb142⟩
    have a_143 := Lib.hid (a_134.out.below hb142)
    have g_144 := Lib.hid (g_135.out.below hb142)
    have h_145 := Lib.hid (h_136.out.below hb142)
    have a_146 := Lib.hid (a_137.out.below hb142)
    have g_147 := Lib.hid (g_138.out.below hb142)
    have h_148 := Lib.hid (h_139.out.below hb142)
    have BB_149 := Lib.hid (below_link BB.out hb142 BB.out.size)
    clear BB
    have BB := BB_149
    clear BB_149
    have S150 := Lib.hid (show w19.heap.size ≤ w20.heap.size from hb142.size)
    clear a_134 g_135 h_136 a_137 g_138 h_139 gc0 gc1 gc2 gc3 gc4 gc5 hb142
    go_wp2_with fail
    go_ret
    exact ⟨rfl, below_link Hb1.out BB.out Hb1.out.size⟩
end Go.Proofs.Ytangdmjdjiddcaa.fnExactKidOf
