/- FnExactMapField: the law returns true at every argument. Printed by gen/gen_fieldlaw.py. -/
import Derived.Test.YtangdmjdjiddcaaDoorGA3
import Derived.Test.YtangdmjdjiddcaaDoorGA4
import Derived.Test.YtangdmjdjiddcaaDoorGA8
import Derived.Test.YtangdmjdjiddcaaDoorTwoBox
import Derived.Test.YtangdmjdjiddcaaDoorEqFault
import Derived.Test.YtangdmjdjiddcaaDoorMapFS
import Derived.Test.YtangdmjdjiddcaaDoorMapFI
namespace Go.Proofs.YtangdmjdjiddcaaDoor.fnExactMapField
open Go.ChangeShapes Go.WideShapes Go.ChangeAt Go.RowKit
open tree field
set_option linter.unusedVariables false

set_option maxRecDepth 100000 in
set_option maxHeartbeats 16000000 in
theorem walk (t : T) (f : Nat) (vs : List Value) (p k : ByteArray) (W : World) (h : LiesS W f vs (row t)) (hp : p.size ≤ maxLen) (hk : k.size ≤ maxLen) (hE : ET W) :
    Calls Tryd.prog 8 #[.agg vs.toArray, .string p, .string k] W fun e w' => e = .returned (.bool true) ∧ Below W.heap.size W w' := by
  unfold maxLen at hp hk
  obtain ⟨u0, u1, u2, u3, u4, u5, rfl⟩ := six_of (h.1.trans (row_length t))
  obtain ⟨w1, hw1⟩ : ∃ x, x = W.alloc (.cells #[u0, u1, u2, u3, u4, u5] 27) := ⟨_, rfl⟩
  have hb1 : Below W.heap.size W w1 := by subst hw1; exact (Below.refl _ _).alloc (Nat.le_refl _) _
  have hrow : Row6 w1 W.heap.size u0 u1 u2 u3 u4 u5 := by subst hw1; exact Row6.of (heap_alloc_new W _)
  have Hw1 := Lib.hid hw1
  have Hb1 := Lib.hid hb1
  have ARG := Lib.hid hrow
  have Hl := Lib.hid (h.below hb1)
  have BB := Lib.hid (Below.refl w1.heap.size w1)
  have S0 := Lib.hid (show W.heap.size < w1.heap.size by subst hw1; simp)
  have HET := Lib.hid (hE.below hb1)
  clear h hb1 hrow hw1 hE
  by_cases hp1 : 1048576 < p.size
  · go_enter Tryd.func8, Tryd.ntmps8
    go_wp2_with fail
    rw [← Hw1.out]
    go_ret
    exact ⟨rfl, Hb1.out⟩
  by_cases hk1 : 1048576 < k.size
  · go_enter Tryd.func8, Tryd.ntmps8
    go_wp2_with fail
    rw [← Hw1.out]
    go_ret
    exact ⟨rfl, Hb1.out⟩
  have HZ := Lib.hid (sz_tree t _ 1048576 w1 Hl.out ⟨by decide, by decide⟩)
  by_cases hw : (1048576 : Int) < weight t
  · rw [cut_no hw] at HZ
    obtain ⟨p0, p1, p2, p3, p4, p5⟩ := ARG.out
    rw [Hw1.out] at p0 p1 p2 p3 p4 p5
    go_enter Tryd.func8, Tryd.ntmps8
    go_wp2_with fail
    rw [← Hw1.out]
    refine HZ.out.mono ?_
    rintro e w2 ⟨rfl, hb2⟩
    have Hb2 := Lib.hid (below_link Hb1.out hb2 Hb1.out.size)
    clear hb2 p0 p1 p2 p3 p4 p5
    go_wp2_with fail
    go_ret
    exact ⟨rfl, Hb2.out⟩
  rw [cut_yes hw] at HZ
  have hwn : weight t ≤ 1048576 := by omega
  have hps : p.size ≤ 1048576 := by omega
  have hks : k.size ≤ 1048576 := by omega
  have hleft : ¬ (1048576 - (weight t : Int)) < 0 := by omega
  have HT := Lib.hid (fun w (hl : LiesS w f [u0, u1, u2, u3, u4, u5] (row t)) => to_tree t _ w hl hwn)
  have HS := Lib.hid (fun f us w (hl : LiesS w f us (row t)) => spec_map t p k us w hl hwn hps hks)
  have HI := Lib.hid (fun f us w (hl : LiesS w f us (row t)) (hE : ET w) => impl_map t p k us w hl hwn hps hks hE)
  have hKw := Nat.le_trans (map_weight t p k) (show max 1 (weight t) ≤ 1048576 by omega)
  generalize mapF t p k = R at HS HI hKw
  obtain ⟨K, cv, qv⟩ := R
  simp only [TFOut, fv] at HS HI
  have hct : (1 : Int) + topCost t ≤ 4611686018427387904 := by have := topCost_le t; omega
  have hcK : (1 : Int) + topCost K ≤ 4611686018427387904 := by have := topCost_le K; have hKw' : weight K ≤ 1048576 := hKw; omega
  have HEK := Lib.hid (fun f f' us xs w (h1 : LiesS w f us (row K)) (h2 : LiesS w f' xs (row K)) => eq_tree K us xs w (h1.deeper (Nat.le_max_left f f')) (h2.deeper (Nat.le_max_right f f')))
  have HM := Lib.hid (fun B f vs F w (h : OwnS w B f vs (row t) F) (hnd : F.Nodup) => mark_tree t vs F 1 w h hnd (by decide) hct)
  have HMK := Lib.hid (fun B f vs F w (h : OwnS w B f vs (row K) F) (hnd : F.Nodup) => mark_tree K vs F 1 w h hnd (by decide) hcK)
  have HHK := Lib.hid (fun f vs w (h : LiesS w f vs (row (topT K 1))) => held_tree K vs 1 w h (by decide) hcK)
  have c0 : (0 : Int) ≤ topCost t := Int.natCast_nonneg _
  have c1 : (0 : Int) ≤ topCost K := Int.natCast_nonneg _
  have HE := Lib.hid (fun f f' us xs w (h1 : LiesS w f us (row t)) (h2 : LiesS w f' xs (row t)) => eq_tree t us xs w (h1.deeper (Nat.le_max_left f f')) (h2.deeper (Nat.le_max_right f f')))
  have HF := Lib.hid (fun w => eq_fault cv qv w)
  clear hKw hct hcK hw hwn hps hks
  generalize (1048576 - (weight t : Int)) = left at HZ hleft
  generalize (topCost t : Int) = C0 at HM c0
  generalize (topCost K : Int) = C1 at HMK HHK c1
  have n0 : ¬ (1 + C0 < 0) := by omega
  have n1 : ¬ (1 + C1 < 0) := by omega
  go_enter Tryd.func8, Tryd.ntmps8
  obtain ⟨argc0, argc1, argc2, argc3, argc4, argc5⟩ := (ARG.out.below BB.out)
  rw [Hw1.out] at argc0 argc1 argc2 argc3 argc4 argc5
  go_wp2_with fail
  rw [← Hw1.out]
  refine (HZ.out).mono ?_
  rintro e w2 ⟨rfl, hb1⟩
  have BB_2 := Lib.hid (below_link BB.out hb1 BB.out.size)
  clear BB
  have BB := BB_2
  clear BB_2
  have S3 := Lib.hid (show w1.heap.size ≤ w2.heap.size from hb1.size)
  clear argc0 argc1 argc2 argc3 argc4 argc5 hb1
  obtain ⟨argc0, argc1, argc2, argc3, argc4, argc5⟩ := (ARG.out.below BB.out)
  go_wp2_with fail
  refine (HT.out _ (Hl.out.below BB.out)).mono ?_
  rintro e w3 ⟨⟨xus, xF, rfl, xho, xhn⟩, hb4⟩
  have BB_5 := Lib.hid (below_link BB.out hb4 BB.out.size)
  clear BB
  have BB := BB_5
  clear BB_5
  have S6 := Lib.hid (show w2.heap.size ≤ w3.heap.size from hb4.size)
  clear argc0 argc1 argc2 argc3 argc4 argc5 hb4
  obtain ⟨x0, x1, x2, x3, x4, x5, rfl⟩ := six_of (xho.1.trans (row_length _))
  have xone := Lib.hid xho.one
  have xR := Lib.hid (show ∀ x ∈ xF, w2.heap.size ≤ x ∧ x < w3.heap.size from xho.range)
  have xN := Lib.hid xhn
  have x_7 := Lib.hid xho
  clear xho xhn
  go_wp2_with fail
  refine (HS.out _ _ _ x_7.out.lies).mono ?_
  rintro e w4 ⟨⟨af, aus, aF, rfl, aho, ahn⟩, hb8⟩
  have x_9 := Lib.hid (x_7.out.below hb8)
  have BB_10 := Lib.hid (below_link BB.out hb8 BB.out.size)
  clear BB
  have BB := BB_10
  clear BB_10
  have S11 := Lib.hid (show w3.heap.size ≤ w4.heap.size from hb8.size)
  clear x_7 hb8
  obtain ⟨a0, a1, a2, a3, a4, a5, rfl⟩ := six_of (aho.1.trans (row_length _))
  have aone := Lib.hid aho.one
  have aR := Lib.hid (show ∀ x ∈ aF, w3.heap.size ≤ x ∧ x < w4.heap.size from aho.range)
  have aN := Lib.hid ahn
  have a_12 := Lib.hid aho
  clear aho ahn
  clear x_9
  obtain ⟨w5, hw5⟩ : ∃ x, x = (w4.alloc (.cells #[a0, a1, a2, a3, a4, a5] 35)).alloc (.cells #[.int .i64 cv, .int .i64 0, .string qv] 31) := ⟨_, rfl⟩
  have hb13 : Below w4.heap.size w4 w5 := by subst hw5; exact ((Below.refl _ _).alloc (Nat.le_refl _) _).alloc (by simp) _
  have S14 := Lib.hid (show w4.heap.size + 1 < w5.heap.size by subst hw5; simp)
  have row_15 := Lib.hid (show Row6 w5 w4.heap.size a0 a1 a2 a3 a4 a5 by subst hw5; exact Row6.of (heap_under _ _ _ _ _))
  have flta_16 := Lib.hid (show RowE 31 w5 (w4.heap.size + 1) [.int .i64 cv, .int .i64 0, .string qv] by subst hw5; exact heap_over _ _ _ _ _)
  have Hw5 := Lib.hid hw5
  clear hw5
  have a_17 := Lib.hid (a_12.out.below hb13)
  have BB_18 := Lib.hid (below_link BB.out hb13 BB.out.size)
  clear BB
  have BB := BB_18
  clear BB_18
  have S19 := Lib.hid (show w4.heap.size ≤ w5.heap.size from hb13.size)
  clear a_12 hb13
  have ahone := aone.out
  obtain ⟨argc0, argc1, argc2, argc3, argc4, argc5⟩ := (ARG.out.below BB.out)
  rw [Hw5.out] at argc0 argc1 argc2 argc3 argc4 argc5
  go_wp2_with (first | (refine wpList_store_row rfl 35 _ _ rfl w4.heap.size #[a0, a1, a2, a3, a4, a5] rfl rfl 35 _ (heap_under _ _ _ _ _) tree_size rfl ahone ?_; rw [set_under]) | (refine wpList_store_row rfl 31 _ _ rfl (w4.heap.size + 1) #[.int .i64 cv, .int .i64 0, .string qv] rfl rfl 31 _ (heap_over _ _ _ _ _) sizeFault rfl (by simp [Value.oneCell']) ?_; rw [set_over]) | fail)
  rw [← Hw5.out]
  refine (HT.out _ (Hl.out.below BB.out)).mono ?_
  rintro e w6 ⟨⟨bus, bF, rfl, bho, bhn⟩, hb20⟩
  have a_21 := Lib.hid (row_15.out.below hb20)
  have flta_22 := Lib.hid (flta_16.out.below hb20)
  have a_23 := Lib.hid (a_17.out.below hb20)
  have BB_24 := Lib.hid (below_link BB.out hb20 BB.out.size)
  clear BB
  have BB := BB_24
  clear BB_24
  have S25 := Lib.hid (show w5.heap.size ≤ w6.heap.size from hb20.size)
  clear row_15 flta_16 a_17 argc0 argc1 argc2 argc3 argc4 argc5 hb20
  obtain ⟨b0, b1, b2, b3, b4, b5, rfl⟩ := six_of (bho.1.trans (row_length _))
  have bone := Lib.hid bho.one
  have bR := Lib.hid (show ∀ x ∈ bF, w5.heap.size ≤ x ∧ x < w6.heap.size from bho.range)
  have bN := Lib.hid bhn
  have b_26 := Lib.hid bho
  clear bho bhn
  obtain ⟨w7, hw7⟩ : ∃ x, x = w6.alloc (.cells #[b0, b1, b2, b3, b4, b5] 35) := ⟨_, rfl⟩
  have hb27 : Below w6.heap.size w6 w7 := by subst hw7; exact (Below.refl _ _).alloc (Nat.le_refl _) _
  have S28 := Lib.hid (show w6.heap.size < w7.heap.size by subst hw7; simp)
  have row_29 := Lib.hid (show Row6 w7 w6.heap.size b0 b1 b2 b3 b4 b5 by subst hw7; exact Row6.of (heap_alloc_new w6 _))
  have Hw7 := Lib.hid hw7
  clear hw7
  have a_30 := Lib.hid (a_21.out.below hb27)
  have flta_31 := Lib.hid (flta_22.out.below hb27)
  have a_32 := Lib.hid (a_23.out.below hb27)
  have b_33 := Lib.hid (b_26.out.below hb27)
  have BB_34 := Lib.hid (below_link BB.out hb27 BB.out.size)
  clear BB
  have BB := BB_34
  clear BB_34
  have S35 := Lib.hid (show w6.heap.size ≤ w7.heap.size from hb27.size)
  clear a_21 flta_22 a_23 b_26 hb27
  have bhone := bone.out
  obtain ⟨bc0, bc1, bc2, bc3, bc4, bc5⟩ := row_29.out
  rw [Hw7.out] at bc0 bc1 bc2 bc3 bc4 bc5
  go_wp2_with (first | (refine wpList_store_row rfl 35 _ _ rfl w6.heap.size #[b0, b1, b2, b3, b4, b5] rfl rfl 35 _ (heap_alloc_new w6 _) tree_size rfl bhone ?_; rw [World.setRow_alloc_new]) | fail)
  rw [← Hw7.out]
  refine (HI.out _ _ _ b_33.out.lies (HET.out.below BB.out)).mono ?_
  rintro e w8 ⟨⟨gf, gus, gF, rfl, gho, ghn⟩, hb36⟩
  have a_37 := Lib.hid (a_30.out.below hb36)
  have flta_38 := Lib.hid (flta_31.out.below hb36)
  have b_39 := Lib.hid (row_29.out.below hb36)
  have a_40 := Lib.hid (a_32.out.below hb36)
  have b_41 := Lib.hid (b_33.out.below hb36)
  have BB_42 := Lib.hid (below_link BB.out hb36 BB.out.size)
  clear BB
  have BB := BB_42
  clear BB_42
  have S43 := Lib.hid (show w7.heap.size ≤ w8.heap.size from hb36.size)
  clear a_30 flta_31 row_29 a_32 b_33 bc0 bc1 bc2 bc3 bc4 bc5 hb36
  obtain ⟨g0, g1, g2, g3, g4, g5, rfl⟩ := six_of (gho.1.trans (row_length _))
  have gone := Lib.hid gho.one
  have gR := Lib.hid (show ∀ x ∈ gF, w7.heap.size ≤ x ∧ x < w8.heap.size from gho.range)
  have gN := Lib.hid ghn
  have g_44 := Lib.hid gho
  clear gho ghn
  obtain ⟨w9, hw9⟩ : ∃ x, x = (w8.alloc (.cells #[g0, g1, g2, g3, g4, g5] 35)).alloc (.cells #[.int .i64 cv, .int .i64 0, .string qv] 31) := ⟨_, rfl⟩
  have hb45 : Below w8.heap.size w8 w9 := by subst hw9; exact ((Below.refl _ _).alloc (Nat.le_refl _) _).alloc (by simp) _
  have S46 := Lib.hid (show w8.heap.size + 1 < w9.heap.size by subst hw9; simp)
  have row_47 := Lib.hid (show Row6 w9 w8.heap.size g0 g1 g2 g3 g4 g5 by subst hw9; exact Row6.of (heap_under _ _ _ _ _))
  have fltg_48 := Lib.hid (show RowE 31 w9 (w8.heap.size + 1) [.int .i64 cv, .int .i64 0, .string qv] by subst hw9; exact heap_over _ _ _ _ _)
  have Hw9 := Lib.hid hw9
  clear hw9
  have a_49 := Lib.hid (a_37.out.below hb45)
  have flta_50 := Lib.hid (flta_38.out.below hb45)
  have b_51 := Lib.hid (b_39.out.below hb45)
  have a_52 := Lib.hid (a_40.out.below hb45)
  have b_53 := Lib.hid (b_41.out.below hb45)
  have g_54 := Lib.hid (g_44.out.below hb45)
  have BB_55 := Lib.hid (below_link BB.out hb45 BB.out.size)
  clear BB
  have BB := BB_55
  clear BB_55
  have S56 := Lib.hid (show w8.heap.size ≤ w9.heap.size from hb45.size)
  clear a_37 flta_38 b_39 a_40 b_41 g_44 hb45
  have ghone := gone.out
  obtain ⟨gc0, gc1, gc2, gc3, gc4, gc5⟩ := row_47.out
  rw [Hw9.out] at gc0 gc1 gc2 gc3 gc4 gc5
  obtain ⟨ac0, ac1, ac2, ac3, ac4, ac5⟩ := a_49.out
  rw [Hw9.out] at ac0 ac1 ac2 ac3 ac4 ac5
  go_wp2_with (first | (refine wpList_store_row rfl 35 _ _ rfl w8.heap.size #[g0, g1, g2, g3, g4, g5] rfl rfl 35 _ (heap_under _ _ _ _ _) tree_size rfl ghone ?_; rw [set_under]) | (refine wpList_store_row rfl 31 _ _ rfl (w8.heap.size + 1) #[.int .i64 cv, .int .i64 0, .string qv] rfl rfl 31 _ (heap_over _ _ _ _ _) sizeFault rfl (by simp [Value.oneCell']) ?_; rw [set_over]) | fail)
  rw [← Hw9.out]
  refine (HEK.out _ _ _ _ _ g_54.out.lies a_52.out.lies).mono ?_
  rintro e w10 ⟨rfl, hb57⟩
  have a_58 := Lib.hid (a_49.out.below hb57)
  have flta_59 := Lib.hid (flta_50.out.below hb57)
  have b_60 := Lib.hid (b_51.out.below hb57)
  have g_61 := Lib.hid (row_47.out.below hb57)
  have fltg_62 := Lib.hid (fltg_48.out.below hb57)
  have a_63 := Lib.hid (a_52.out.below hb57)
  have b_64 := Lib.hid (b_53.out.below hb57)
  have g_65 := Lib.hid (g_54.out.below hb57)
  have BB_66 := Lib.hid (below_link BB.out hb57 BB.out.size)
  clear BB
  have BB := BB_66
  clear BB_66
  have S67 := Lib.hid (show w9.heap.size ≤ w10.heap.size from hb57.size)
  clear a_49 flta_50 b_51 row_47 fltg_48 a_52 b_53 g_54 gc0 gc1 gc2 gc3 gc4 gc5 ac0 ac1 ac2 ac3 ac4 ac5 hb57
  have fltgc0 := fltg_62.out.cell 0 _ rfl
  have fltgc1 := fltg_62.out.cell 1 _ rfl
  have fltgc2 := fltg_62.out.cell 2 _ rfl
  have fltac0 := flta_59.out.cell 0 _ rfl
  have fltac1 := flta_59.out.cell 1 _ rfl
  have fltac2 := flta_59.out.cell 2 _ rfl
  go_wp2_with fail
  refine (HF.out _).mono ?_
  rintro e w11 ⟨rfl, hb68⟩
  have a_69 := Lib.hid (a_58.out.below hb68)
  have flta_70 := Lib.hid (flta_59.out.below hb68)
  have b_71 := Lib.hid (b_60.out.below hb68)
  have g_72 := Lib.hid (g_61.out.below hb68)
  have fltg_73 := Lib.hid (fltg_62.out.below hb68)
  have a_74 := Lib.hid (a_63.out.below hb68)
  have b_75 := Lib.hid (b_64.out.below hb68)
  have g_76 := Lib.hid (g_65.out.below hb68)
  have BB_77 := Lib.hid (below_link BB.out hb68 BB.out.size)
  clear BB
  have BB := BB_77
  clear BB_77
  have S78 := Lib.hid (show w10.heap.size ≤ w11.heap.size from hb68.size)
  clear a_58 flta_59 b_60 g_61 fltg_62 a_63 b_64 g_65 fltgc0 fltgc1 fltgc2 fltac0 fltac1 fltac2 hb68
  obtain ⟨bc0, bc1, bc2, bc3, bc4, bc5⟩ := b_71.out
  obtain ⟨argc0, argc1, argc2, argc3, argc4, argc5⟩ := (ARG.out.below BB.out)
  go_wp2_with fail
  go_region_law (go_simp; first | (go_at_call 14; refine (HT.out _ ((Hl.out.below BB.out).below (Below.refl _ _).drew)).mono ?_; rintro e m79 ⟨⟨usm79, Fm79, rfl, hom79, _⟩, hb80⟩; obtain ⟨qm790, qm791, qm792, qm793, qm794, qm795⟩ := (Row6.below (w := w11.drew) (w' := m79) b_71.out hb80)) | (go_at_call 18; refine (HE.out _ _ _ _ _ (b_75.out.lies.below ((Below.refl _ _).drew.trans (hb80.mono (Nat.le_refl _)))) hom79.lies).mono ?_; rintro e w12 ⟨rfl, hb82⟩))
  all_goals
    have hb81 : Below w11.heap.size w11 w12 := below_link ((Below.refl _ _).drew.trans (hb80.mono (Nat.le_refl _))) hb82 hb80.size
    clear hom79 hb80 hb82 qm790 qm791 qm792 qm793 qm794 qm795
    have a_83 := Lib.hid (a_69.out.below hb81)
    have flta_84 := Lib.hid (flta_70.out.below hb81)
    have b_85 := Lib.hid (b_71.out.below hb81)
    have g_86 := Lib.hid (g_72.out.below hb81)
    have fltg_87 := Lib.hid (fltg_73.out.below hb81)
    have a_88 := Lib.hid (a_74.out.below hb81)
    have b_89 := Lib.hid (b_75.out.below hb81)
    have g_90 := Lib.hid (g_76.out.below hb81)
    have BB_91 := Lib.hid (below_link BB.out hb81 BB.out.size)
    clear BB
    have BB := BB_91
    clear BB_91
    have S92 := Lib.hid (show w11.heap.size ≤ w12.heap.size from hb81.size)
    clear a_69 flta_70 b_71 g_72 fltg_73 a_74 b_75 g_76 bc0 bc1 bc2 bc3 bc4 bc5 argc0 argc1 argc2 argc3 argc4 argc5 hb81
    obtain ⟨bc0, bc1, bc2, bc3, bc4, bc5⟩ := b_85.out
    go_wp2_with fail
    refine (HM.out _ _ _ _ _ b_89.out bN.out).mono ?_
    rintro e w13 ⟨rfl, ho94, hk93⟩
    have a_95 := Lib.hid (a_83.out.but hk93 (fun hx => by have := S0.out; have := S3.out; have := S6.out; have := S11.out; have := S19.out; have := S14.out; have := S25.out; have := S35.out; have := S28.out; have := S43.out; have := S56.out; have := S46.out; have := S67.out; have := S78.out; have := S92.out; have h1 := bR.out _ hx; omega))
    have flta_96 := Lib.hid (flta_84.out.but hk93 (fun hx => by have := S0.out; have := S3.out; have := S6.out; have := S11.out; have := S19.out; have := S14.out; have := S25.out; have := S35.out; have := S28.out; have := S43.out; have := S56.out; have := S46.out; have := S67.out; have := S78.out; have := S92.out; have h1 := bR.out _ hx; omega))
    have b_97 := Lib.hid (b_85.out.but hk93 (fun hx => by have := S0.out; have := S3.out; have := S6.out; have := S11.out; have := S19.out; have := S14.out; have := S25.out; have := S35.out; have := S28.out; have := S43.out; have := S56.out; have := S46.out; have := S67.out; have := S78.out; have := S92.out; have h1 := bR.out _ hx; omega))
    have g_98 := Lib.hid (g_86.out.but hk93 (fun hx => by have := S0.out; have := S3.out; have := S6.out; have := S11.out; have := S19.out; have := S14.out; have := S25.out; have := S35.out; have := S28.out; have := S43.out; have := S56.out; have := S46.out; have := S67.out; have := S78.out; have := S92.out; have h1 := bR.out _ hx; omega))
    have fltg_99 := Lib.hid (fltg_87.out.but hk93 (fun hx => by have := S0.out; have := S3.out; have := S6.out; have := S11.out; have := S19.out; have := S14.out; have := S25.out; have := S35.out; have := S28.out; have := S43.out; have := S56.out; have := S46.out; have := S67.out; have := S78.out; have := S92.out; have h1 := bR.out _ hx; omega))
    have a_100 := Lib.hid (a_88.out.but hk93 (fun x hy hx => by have := S0.out; have := S3.out; have := S6.out; have := S11.out; have := S19.out; have := S14.out; have := S25.out; have := S35.out; have := S28.out; have := S43.out; have := S56.out; have := S46.out; have := S67.out; have := S78.out; have := S92.out; have h1 := bR.out _ hx; have h2 := aR.out _ hy; omega))
    have b_101 := Lib.hid ho94
    have g_102 := Lib.hid (g_90.out.but hk93 (fun x hy hx => by have := S0.out; have := S3.out; have := S6.out; have := S11.out; have := S19.out; have := S14.out; have := S25.out; have := S35.out; have := S28.out; have := S43.out; have := S56.out; have := S46.out; have := S67.out; have := S78.out; have := S92.out; have h1 := bR.out _ hx; have h2 := gR.out _ hy; omega))
    have BB_103 := Lib.hid (KeptBut.below BB.out hk93 BB.out.size (fun x hx => by have := S0.out; have := S3.out; have := S6.out; have := S11.out; have := S19.out; have := S14.out; have := S25.out; have := S35.out; have := S28.out; have := S43.out; have := S56.out; have := S46.out; have := S67.out; have := S78.out; have := S92.out; have h1 := bR.out _ hx; omega))
    clear BB
    have BB := BB_103
    clear BB_103
    have S104 := Lib.hid (show w12.heap.size ≤ w13.heap.size from hk93.size)
    clear a_83 flta_84 b_85 g_86 fltg_87 a_88 b_89 g_90 bc0 bc1 bc2 bc3 bc4 bc5 hk93 ho94 
    obtain ⟨gc0, gc1, gc2, gc3, gc4, gc5⟩ := g_98.out
    obtain ⟨ac0, ac1, ac2, ac3, ac4, ac5⟩ := a_95.out
    go_wp2_with fail
    refine (HEK.out _ _ _ _ _ g_102.out.lies a_100.out.lies).mono ?_
    rintro e w14 ⟨rfl, hb105⟩
    have a_106 := Lib.hid (a_95.out.below hb105)
    have flta_107 := Lib.hid (flta_96.out.below hb105)
    have b_108 := Lib.hid (b_97.out.below hb105)
    have g_109 := Lib.hid (g_98.out.below hb105)
    have fltg_110 := Lib.hid (fltg_99.out.below hb105)
    have a_111 := Lib.hid (a_100.out.below hb105)
    have b_112 := Lib.hid (b_101.out.below hb105)
    have g_113 := Lib.hid (g_102.out.below hb105)
    have BB_114 := Lib.hid (below_link BB.out hb105 BB.out.size)
    clear BB
    have BB := BB_114
    clear BB_114
    have S115 := Lib.hid (show w13.heap.size ≤ w14.heap.size from hb105.size)
    clear a_95 flta_96 b_97 g_98 fltg_99 a_100 b_101 g_102 gc0 gc1 gc2 gc3 gc4 gc5 ac0 ac1 ac2 ac3 ac4 ac5 hb105
    have fltgc0 := fltg_110.out.cell 0 _ rfl
    have fltgc1 := fltg_110.out.cell 1 _ rfl
    have fltgc2 := fltg_110.out.cell 2 _ rfl
    have fltac0 := flta_107.out.cell 0 _ rfl
    have fltac1 := flta_107.out.cell 1 _ rfl
    have fltac2 := flta_107.out.cell 2 _ rfl
    go_wp2_with fail
    refine (HF.out _).mono ?_
    rintro e w15 ⟨rfl, hb116⟩
    have a_117 := Lib.hid (a_106.out.below hb116)
    have flta_118 := Lib.hid (flta_107.out.below hb116)
    have b_119 := Lib.hid (b_108.out.below hb116)
    have g_120 := Lib.hid (g_109.out.below hb116)
    have fltg_121 := Lib.hid (fltg_110.out.below hb116)
    have a_122 := Lib.hid (a_111.out.below hb116)
    have b_123 := Lib.hid (b_112.out.below hb116)
    have g_124 := Lib.hid (g_113.out.below hb116)
    have BB_125 := Lib.hid (below_link BB.out hb116 BB.out.size)
    clear BB
    have BB := BB_125
    clear BB_125
    have S126 := Lib.hid (show w14.heap.size ≤ w15.heap.size from hb116.size)
    clear a_106 flta_107 b_108 g_109 fltg_110 a_111 b_112 g_113 fltgc0 fltgc1 fltgc2 fltac0 fltac1 fltac2 hb116
    clear b_119 b_123
    obtain ⟨gc0, gc1, gc2, gc3, gc4, gc5⟩ := g_120.out
    go_wp2_with fail
    refine (HMK.out _ _ _ _ _ g_124.out gN.out).mono ?_
    rintro e w16 ⟨rfl, ho128, hk127⟩
    have a_129 := Lib.hid (a_117.out.but hk127 (fun hx => by have := S0.out; have := S3.out; have := S6.out; have := S11.out; have := S19.out; have := S14.out; have := S25.out; have := S35.out; have := S28.out; have := S43.out; have := S56.out; have := S46.out; have := S67.out; have := S78.out; have := S92.out; have := S104.out; have := S115.out; have := S126.out; have h1 := gR.out _ hx; omega))
    have flta_130 := Lib.hid (flta_118.out.but hk127 (fun hx => by have := S0.out; have := S3.out; have := S6.out; have := S11.out; have := S19.out; have := S14.out; have := S25.out; have := S35.out; have := S28.out; have := S43.out; have := S56.out; have := S46.out; have := S67.out; have := S78.out; have := S92.out; have := S104.out; have := S115.out; have := S126.out; have h1 := gR.out _ hx; omega))
    have g_131 := Lib.hid (g_120.out.but hk127 (fun hx => by have := S0.out; have := S3.out; have := S6.out; have := S11.out; have := S19.out; have := S14.out; have := S25.out; have := S35.out; have := S28.out; have := S43.out; have := S56.out; have := S46.out; have := S67.out; have := S78.out; have := S92.out; have := S104.out; have := S115.out; have := S126.out; have h1 := gR.out _ hx; omega))
    have fltg_132 := Lib.hid (fltg_121.out.but hk127 (fun hx => by have := S0.out; have := S3.out; have := S6.out; have := S11.out; have := S19.out; have := S14.out; have := S25.out; have := S35.out; have := S28.out; have := S43.out; have := S56.out; have := S46.out; have := S67.out; have := S78.out; have := S92.out; have := S104.out; have := S115.out; have := S126.out; have h1 := gR.out _ hx; omega))
    have a_133 := Lib.hid (a_122.out.but hk127 (fun x hy hx => by have := S0.out; have := S3.out; have := S6.out; have := S11.out; have := S19.out; have := S14.out; have := S25.out; have := S35.out; have := S28.out; have := S43.out; have := S56.out; have := S46.out; have := S67.out; have := S78.out; have := S92.out; have := S104.out; have := S115.out; have := S126.out; have h1 := gR.out _ hx; have h2 := aR.out _ hy; omega))
    have g_134 := Lib.hid ho128
    have BB_135 := Lib.hid (KeptBut.below BB.out hk127 BB.out.size (fun x hx => by have := S0.out; have := S3.out; have := S6.out; have := S11.out; have := S19.out; have := S14.out; have := S25.out; have := S35.out; have := S28.out; have := S43.out; have := S56.out; have := S46.out; have := S67.out; have := S78.out; have := S92.out; have := S104.out; have := S115.out; have := S126.out; have h1 := gR.out _ hx; omega))
    clear BB
    have BB := BB_135
    clear BB_135
    have S136 := Lib.hid (show w15.heap.size ≤ w16.heap.size from hk127.size)
    clear a_117 flta_118 g_120 fltg_121 a_122 g_124 gc0 gc1 gc2 gc3 gc4 gc5 hk127 ho128 
    obtain ⟨gc0, gc1, gc2, gc3, gc4, gc5⟩ := g_131.out
    go_wp2_with fail
    refine (HHK.out _ _ _ g_134.out.lies).mono ?_
    rintro e w17 ⟨rfl, hb137⟩
    have a_138 := Lib.hid (a_129.out.below hb137)
    have flta_139 := Lib.hid (flta_130.out.below hb137)
    have g_140 := Lib.hid (g_131.out.below hb137)
    have fltg_141 := Lib.hid (fltg_132.out.below hb137)
    have a_142 := Lib.hid (a_133.out.below hb137)
    have g_143 := Lib.hid (g_134.out.below hb137)
    have BB_144 := Lib.hid (below_link BB.out hb137 BB.out.size)
    clear BB
    have BB := BB_144
    clear BB_144
    have S145 := Lib.hid (show w16.heap.size ≤ w17.heap.size from hb137.size)
    clear a_129 flta_130 g_131 fltg_132 a_133 g_134 gc0 gc1 gc2 gc3 gc4 gc5 hb137
    obtain ⟨argc0, argc1, argc2, argc3, argc4, argc5⟩ := (ARG.out.below BB.out)
    go_wp2_with fail
    refine (HT.out _ (Hl.out.below BB.out)).mono ?_
    rintro e w18 ⟨⟨yus, yF, rfl, yho, yhn⟩, hb146⟩
    have a_147 := Lib.hid (a_138.out.below hb146)
    have flta_148 := Lib.hid (flta_139.out.below hb146)
    have g_149 := Lib.hid (g_140.out.below hb146)
    have fltg_150 := Lib.hid (fltg_141.out.below hb146)
    have a_151 := Lib.hid (a_142.out.below hb146)
    have g_152 := Lib.hid (g_143.out.below hb146)
    have BB_153 := Lib.hid (below_link BB.out hb146 BB.out.size)
    clear BB
    have BB := BB_153
    clear BB_153
    have S154 := Lib.hid (show w17.heap.size ≤ w18.heap.size from hb146.size)
    clear a_138 flta_139 g_140 fltg_141 a_142 g_143 argc0 argc1 argc2 argc3 argc4 argc5 hb146
    obtain ⟨y0, y1, y2, y3, y4, y5, rfl⟩ := six_of (yho.1.trans (row_length _))
    have yone := Lib.hid yho.one
    have yR := Lib.hid (show ∀ x ∈ yF, w17.heap.size ≤ x ∧ x < w18.heap.size from yho.range)
    have yN := Lib.hid yhn
    have y_155 := Lib.hid yho
    clear yho yhn
    go_wp2_with fail
    refine (HI.out _ _ _ y_155.out.lies (HET.out.below BB.out)).mono ?_
    rintro e w19 ⟨⟨hf, hus, hF, rfl, hho, hhn⟩, hb156⟩
    have a_157 := Lib.hid (a_147.out.below hb156)
    have flta_158 := Lib.hid (flta_148.out.below hb156)
    have g_159 := Lib.hid (g_149.out.below hb156)
    have fltg_160 := Lib.hid (fltg_150.out.below hb156)
    have a_161 := Lib.hid (a_151.out.below hb156)
    have g_162 := Lib.hid (g_152.out.below hb156)
    have y_163 := Lib.hid (y_155.out.below hb156)
    have BB_164 := Lib.hid (below_link BB.out hb156 BB.out.size)
    clear BB
    have BB := BB_164
    clear BB_164
    have S165 := Lib.hid (show w18.heap.size ≤ w19.heap.size from hb156.size)
    clear a_147 flta_148 g_149 fltg_150 a_151 g_152 y_155 hb156
    obtain ⟨h0, h1, h2, h3, h4, h5, rfl⟩ := six_of (hho.1.trans (row_length _))
    have hone := Lib.hid hho.one
    have hR := Lib.hid (show ∀ x ∈ hF, w18.heap.size ≤ x ∧ x < w19.heap.size from hho.range)
    have hN := Lib.hid hhn
    have h_166 := Lib.hid hho
    clear hho hhn
    clear y_163
    obtain ⟨w20, hw20⟩ : ∃ x, x = (w19.alloc (.cells #[h0, h1, h2, h3, h4, h5] 35)).alloc (.cells #[.int .i64 cv, .int .i64 0, .string qv] 31) := ⟨_, rfl⟩
    have hb167 : Below w19.heap.size w19 w20 := by subst hw20; exact ((Below.refl _ _).alloc (Nat.le_refl _) _).alloc (by simp) _
    have S168 := Lib.hid (show w19.heap.size + 1 < w20.heap.size by subst hw20; simp)
    have row_169 := Lib.hid (show Row6 w20 w19.heap.size h0 h1 h2 h3 h4 h5 by subst hw20; exact Row6.of (heap_under _ _ _ _ _))
    have flth_170 := Lib.hid (show RowE 31 w20 (w19.heap.size + 1) [.int .i64 cv, .int .i64 0, .string qv] by subst hw20; exact heap_over _ _ _ _ _)
    have Hw20 := Lib.hid hw20
    clear hw20
    have a_171 := Lib.hid (a_157.out.below hb167)
    have flta_172 := Lib.hid (flta_158.out.below hb167)
    have g_173 := Lib.hid (g_159.out.below hb167)
    have fltg_174 := Lib.hid (fltg_160.out.below hb167)
    have a_175 := Lib.hid (a_161.out.below hb167)
    have g_176 := Lib.hid (g_162.out.below hb167)
    have h_177 := Lib.hid (h_166.out.below hb167)
    have BB_178 := Lib.hid (below_link BB.out hb167 BB.out.size)
    clear BB
    have BB := BB_178
    clear BB_178
    have S179 := Lib.hid (show w19.heap.size ≤ w20.heap.size from hb167.size)
    clear a_157 flta_158 g_159 fltg_160 a_161 g_162 h_166 hb167
    have hhone := hone.out
    obtain ⟨hc0, hc1, hc2, hc3, hc4, hc5⟩ := row_169.out
    rw [Hw20.out] at hc0 hc1 hc2 hc3 hc4 hc5
    obtain ⟨ac0, ac1, ac2, ac3, ac4, ac5⟩ := a_171.out
    rw [Hw20.out] at ac0 ac1 ac2 ac3 ac4 ac5
    go_wp2_with (first | (refine wpList_store_row rfl 35 _ _ rfl w19.heap.size #[h0, h1, h2, h3, h4, h5] rfl rfl 35 _ (heap_under _ _ _ _ _) tree_size rfl hhone ?_; rw [set_under]) | (refine wpList_store_row rfl 31 _ _ rfl (w19.heap.size + 1) #[.int .i64 cv, .int .i64 0, .string qv] rfl rfl 31 _ (heap_over _ _ _ _ _) sizeFault rfl (by simp [Value.oneCell']) ?_; rw [set_over]) | fail)
    rw [← Hw20.out]
    refine (HEK.out _ _ _ _ _ h_177.out.lies a_175.out.lies).mono ?_
    rintro e w21 ⟨rfl, hb180⟩
    have a_181 := Lib.hid (a_171.out.below hb180)
    have flta_182 := Lib.hid (flta_172.out.below hb180)
    have g_183 := Lib.hid (g_173.out.below hb180)
    have fltg_184 := Lib.hid (fltg_174.out.below hb180)
    have h_185 := Lib.hid (row_169.out.below hb180)
    have flth_186 := Lib.hid (flth_170.out.below hb180)
    have a_187 := Lib.hid (a_175.out.below hb180)
    have g_188 := Lib.hid (g_176.out.below hb180)
    have h_189 := Lib.hid (h_177.out.below hb180)
    have BB_190 := Lib.hid (below_link BB.out hb180 BB.out.size)
    clear BB
    have BB := BB_190
    clear BB_190
    have S191 := Lib.hid (show w20.heap.size ≤ w21.heap.size from hb180.size)
    clear a_171 flta_172 g_173 fltg_174 row_169 flth_170 a_175 g_176 h_177 hc0 hc1 hc2 hc3 hc4 hc5 ac0 ac1 ac2 ac3 ac4 ac5 hb180
    have flthc0 := flth_186.out.cell 0 _ rfl
    have flthc1 := flth_186.out.cell 1 _ rfl
    have flthc2 := flth_186.out.cell 2 _ rfl
    have fltac0 := flta_182.out.cell 0 _ rfl
    have fltac1 := flta_182.out.cell 1 _ rfl
    have fltac2 := flta_182.out.cell 2 _ rfl
    go_wp2_with fail
    refine (HF.out _).mono ?_
    rintro e w22 ⟨rfl, hb192⟩
    have a_193 := Lib.hid (a_181.out.below hb192)
    have flta_194 := Lib.hid (flta_182.out.below hb192)
    have g_195 := Lib.hid (g_183.out.below hb192)
    have fltg_196 := Lib.hid (fltg_184.out.below hb192)
    have h_197 := Lib.hid (h_185.out.below hb192)
    have flth_198 := Lib.hid (flth_186.out.below hb192)
    have a_199 := Lib.hid (a_187.out.below hb192)
    have g_200 := Lib.hid (g_188.out.below hb192)
    have h_201 := Lib.hid (h_189.out.below hb192)
    have BB_202 := Lib.hid (below_link BB.out hb192 BB.out.size)
    clear BB
    have BB := BB_202
    clear BB_202
    have S203 := Lib.hid (show w21.heap.size ≤ w22.heap.size from hb192.size)
    clear a_181 flta_182 g_183 fltg_184 h_185 flth_186 a_187 g_188 h_189 flthc0 flthc1 flthc2 fltac0 fltac1 fltac2 hb192
    obtain ⟨gc0, gc1, gc2, gc3, gc4, gc5⟩ := g_195.out
    go_wp2_with fail
    refine (HHK.out _ _ _ g_200.out.lies).mono ?_
    rintro e w23 ⟨rfl, hb204⟩
    have a_205 := Lib.hid (a_193.out.below hb204)
    have flta_206 := Lib.hid (flta_194.out.below hb204)
    have g_207 := Lib.hid (g_195.out.below hb204)
    have fltg_208 := Lib.hid (fltg_196.out.below hb204)
    have h_209 := Lib.hid (h_197.out.below hb204)
    have flth_210 := Lib.hid (flth_198.out.below hb204)
    have a_211 := Lib.hid (a_199.out.below hb204)
    have g_212 := Lib.hid (g_200.out.below hb204)
    have h_213 := Lib.hid (h_201.out.below hb204)
    have BB_214 := Lib.hid (below_link BB.out hb204 BB.out.size)
    clear BB
    have BB := BB_214
    clear BB_214
    have S215 := Lib.hid (show w22.heap.size ≤ w23.heap.size from hb204.size)
    clear a_193 flta_194 g_195 fltg_196 h_197 flth_198 a_199 g_200 h_201 gc0 gc1 gc2 gc3 gc4 gc5 hb204
    go_wp2_with fail
    go_ret
    exact ⟨rfl, below_link Hb1.out BB.out Hb1.out.size⟩
end Go.Proofs.YtangdmjdjiddcaaDoor.fnExactMapField
