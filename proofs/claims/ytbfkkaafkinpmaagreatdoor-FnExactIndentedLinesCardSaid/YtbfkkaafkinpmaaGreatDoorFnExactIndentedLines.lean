/- FnExactIndentedLines: the law returns true at every argument. -/
import Derived.Test.YtbfkkaafkinpmaaGreatDoorGLaw
import Derived.Test.YtbfkkaafkinpmaaGreatDoorGMk
import Derived.Test.YtbfkkaafkinpmaaGreatDoorGIndS
import Derived.Test.YtbfkkaafkinpmaaGreatDoorGIndI
namespace Go.Proofs.YtbfkkaafkinpmaaGreatDoor.fnExactIndentedLines
open Go.ChangeShapes Go.WideShapes Go.ChangeAt Go.RowKit
open tree
open rune (Tabs)
open decimal (Pow)
set_option linter.unusedVariables false

set_option maxRecDepth 100000 in
set_option maxHeartbeats 16000000 in
theorem walk (t : T) (f : Nat) (vs : List Value) (W : World) (h : LiesS W f vs (row t)) (hT : Tabs W) (hM : line.MaxL W) (hP : Pow W) :
    Calls Tryz.prog 3 #[.agg vs.toArray] W fun e w' => e = .returned (.bool true) ∧ Below W.heap.size W w' := by
  obtain ⟨u0, u1, u2, u3, u4, u5, rfl⟩ := six_of (h.1.trans (row_length t))
  obtain ⟨w1, hw1⟩ : ∃ x, x = W.alloc (.cells #[u0, u1, u2, u3, u4, u5] 25) := ⟨_, rfl⟩
  have hb1 : Below W.heap.size W w1 := by subst hw1; exact (Below.refl _ _).alloc (Nat.le_refl _) _
  have hp : Row6 w1 W.heap.size u0 u1 u2 u3 u4 u5 := by subst hw1; exact Row6.of (heap_alloc_new W _)
  have Hw1 := Lib.hid hw1
  have Hb1 := Lib.hid hb1
  have ARG := Lib.hid hp
  have Hl := Lib.hid (h.below hb1)
  have BB := Lib.hid (Below.refl w1.heap.size w1)
  have S0 := Lib.hid (show W.heap.size < w1.heap.size by subst hw1; simp)
  have HT0 := Lib.hid (fun w (hb : Below w1.heap.size w1 w) => (hT.below hb1).below hb)
  have HM0 := Lib.hid (fun w (hb : Below w1.heap.size w1 w) => (hM.below hb1).below hb)
  have HP0 := Lib.hid (fun w (hb : Below w1.heap.size w1 w) => (hP.below hb1).below hb)
  have hnums := say.lies_nums _ _ _ W h
  clear h hb1 hp hw1 hT hM hP
  have HZ := Lib.hid (sz_tree t _ 1048576 w1 Hl.out ⟨by decide, by decide⟩)
  by_cases hw : (1048576 : Int) < weight t
  · rw [cut_no hw] at HZ
    obtain ⟨p0, p1, p2, p3, p4, p5⟩ := ARG.out
    rw [Hw1.out] at p0 p1 p2 p3 p4 p5
    go_enter Tryz.func3, Tryz.ntmps3
    go_wp2_with fail
    rw [← Hw1.out]
    refine HZ.out.mono ?_
    rintro e w2 ⟨rfl, hb2⟩
    have Hb2 := Lib.hid (below_link Hb1.out hb2 Hb1.out.size)
    clear hb2 p0 p1 p2 p3 p4 p5
    go_wp2_with fail
    go_ret
    exact ⟨rfl, Hb2.out⟩
  rw [cut_yes hw] at HZ
  have hwn : weight t ≤ 1048576 := by omega
  have hsn : size t ≤ 1099511627776 := by have := size_le_weight t; omega
  have hleft : ¬ (1048576 - (weight t : Int)) < 0 := by omega
  have hct : (1 : Int) + topCost t ≤ 4611686018427387904 := by have := topCost_le t; omega
  have hsm := (ind.rows_small hnums).1
  have HT := Lib.hid (fun w (hl : LiesS w f [u0, u1, u2, u3, u4, u5] (row t)) => to_tree t _ w hl hwn)
  have HS := Lib.hid (fun f us w (hl : LiesS w f us (row t)) => ind.spec_rows f t us w hl hsn)
  have HI := Lib.hid (fun f us w (hb : Below w1.heap.size w1 w) (hl : LiesS w f us (row t)) => ind.impl_rows f t us w hl hsn (HP0.out w hb) (HT0.out w hb) (HM0.out w hb))
  have HE := Lib.hid (fun f f' us xs w (h1 : LiesS w f us (row t)) (h2 : LiesS w f' xs (row t)) => eq_tree t us xs w (h1.deeper (Nat.le_max_left f f')) (h2.deeper (Nat.le_max_right f f')))
  have HM := Lib.hid (fun B f vs F w (h : OwnS w B f vs (row t) F) (hnd : F.Nodup) => mark_tree t vs F 1 w h hnd (by decide) hct)
  generalize ind.rowsT t = L at HS HI hsm
  have EQ := Lib.hid (fun A A' c c' B B' w (h1 : w.ownsRow B 9 1 (.slice A L.length c) L.length (scells L)) (h2 : w.ownsRow B' 9 1 (.slice A' L.length c') L.length (scells L)) => ind.eq_rows A A' c c' B B' L w (by omega) h1 h2)
  have MK := Lib.hid (fun A c B w (h1 : w.ownsRow B 9 1 (.slice A L.length c) L.length (scells L)) => lawStr.mark_any B L.length _ 1 (scells L) w h1 (by decide) (by omega))
  have HD := Lib.hid (fun A c B w (h1 : w.ownsRow B 9 1 (.slice A L.length c) L.length (scells (lawStr.marks 1 L.length))) => ind.held_rows A c B L.length w (by omega) h1)
  have c0 : (0 : Int) ≤ topCost t := Int.natCast_nonneg _
  clear hw hwn hct hsn hnums
  generalize (1048576 - (weight t : Int)) = left at HZ hleft
  generalize (topCost t : Int) = C0 at HM c0
  have n0 : ¬ (1 + C0 < 0) := by omega
  go_enter Tryz.func3, Tryz.ntmps3
  obtain ⟨argc0, argc1, argc2, argc3, argc4, argc5⟩ := (ARG.out.below BB.out)
  rw [Hw1.out] at argc0 argc1 argc2 argc3 argc4 argc5
  go_wp2_with fail
  rw [← Hw1.out]
  refine (HZ.out).mono ?_
  rintro e w2 ⟨rfl, hb1⟩
  have BB_2 := Lib.hid (below_link BB.out hb1 BB.out.size)
  clear BB
  have BB := BB_2
  clear BB_2
  have S3 := Lib.hid (show w1.heap.size ≤ w2.heap.size from hb1.size)
  clear argc0 argc1 argc2 argc3 argc4 argc5 hb1
  obtain ⟨argc0, argc1, argc2, argc3, argc4, argc5⟩ := (ARG.out.below BB.out)
  go_wp2_with fail
  refine (HT.out _ (Hl.out.below BB.out)).mono ?_
  rintro e w3 ⟨⟨xus, xF, rfl, xho, xhn⟩, hb4⟩
  have BB_5 := Lib.hid (below_link BB.out hb4 BB.out.size)
  clear BB
  have BB := BB_5
  clear BB_5
  have S6 := Lib.hid (show w2.heap.size ≤ w3.heap.size from hb4.size)
  clear argc0 argc1 argc2 argc3 argc4 argc5 hb4
  obtain ⟨x0, x1, x2, x3, x4, x5, rfl⟩ := six_of (xho.1.trans (row_length _))
  have xone := Lib.hid xho.one
  have xR := Lib.hid (show ∀ x ∈ xF, w2.heap.size ≤ x ∧ x < w3.heap.size from xho.range)
  have xN := Lib.hid xhn
  have x_7 := Lib.hid xho
  clear xho xhn
  go_wp2_with fail
  refine (HS.out _ _ _ x_7.out.lies).mono ?_
  rintro e w4 ⟨av, rfl, ao, hb8⟩
  obtain ⟨aA, ac, rfl⟩ := own_is_slice ao
  have x_9 := Lib.hid (x_7.out.below hb8)
  have BB_10 := Lib.hid (below_link BB.out hb8 BB.out.size)
  clear BB
  have BB := BB_10
  clear BB_10
  have S11 := Lib.hid (show w3.heap.size ≤ w4.heap.size from hb8.size)
  clear x_7 hb8
  have aR := Lib.hid (show ∀ y, (Value.slice aA L.length ac).ownBlock = some y → w3.heap.size ≤ y ∧ y < w4.heap.size from ao.lt)
  have a_12 := Lib.hid ao
  clear ao
  clear x_9
  obtain ⟨argc0, argc1, argc2, argc3, argc4, argc5⟩ := (ARG.out.below BB.out)
  go_wp2_with fail
  refine (HT.out _ (Hl.out.below BB.out)).mono ?_
  rintro e w5 ⟨⟨bus, bF, rfl, bho, bhn⟩, hb13⟩
  have a_14 := Lib.hid (own_below' a_12.out hb13)
  clear a_12
  have BB_15 := Lib.hid (below_link BB.out hb13 BB.out.size)
  clear BB
  have BB := BB_15
  clear BB_15
  have S16 := Lib.hid (show w4.heap.size ≤ w5.heap.size from hb13.size)
  clear argc0 argc1 argc2 argc3 argc4 argc5 hb13
  obtain ⟨b0, b1, b2, b3, b4, b5, rfl⟩ := six_of (bho.1.trans (row_length _))
  have bone := Lib.hid bho.one
  have bR := Lib.hid (show ∀ x ∈ bF, w4.heap.size ≤ x ∧ x < w5.heap.size from bho.range)
  have bN := Lib.hid bhn
  have b_17 := Lib.hid bho
  clear bho bhn
  obtain ⟨w6, hw6⟩ : ∃ x, x = w5.alloc (.cells #[b0, b1, b2, b3, b4, b5] 30) := ⟨_, rfl⟩
  have hb18 : Below w5.heap.size w5 w6 := by subst hw6; exact (Below.refl _ _).alloc (Nat.le_refl _) _
  have S19 := Lib.hid (show w5.heap.size < w6.heap.size by subst hw6; simp)
  have row_20 := Lib.hid (show Row6 w6 w5.heap.size b0 b1 b2 b3 b4 b5 by subst hw6; exact Row6.of (heap_alloc_new w5 _))
  have Hw6 := Lib.hid hw6
  clear hw6
  have a_21 := Lib.hid (own_below' a_14.out hb18)
  clear a_14
  have b_22 := Lib.hid (b_17.out.below hb18)
  have BB_23 := Lib.hid (below_link BB.out hb18 BB.out.size)
  clear BB
  have BB := BB_23
  clear BB_23
  have S24 := Lib.hid (show w5.heap.size ≤ w6.heap.size from hb18.size)
  clear b_17 hb18
  have bhone := bone.out
  obtain ⟨bc0, bc1, bc2, bc3, bc4, bc5⟩ := row_20.out
  rw [Hw6.out] at bc0 bc1 bc2 bc3 bc4 bc5
  go_wp2_with (first | (refine wpList_store_row rfl 30 _ _ rfl w5.heap.size #[b0, b1, b2, b3, b4, b5] rfl rfl 30 _ (heap_alloc_new w5 _) tree_size rfl bhone ?_; rw [World.setRow_alloc_new]) | fail)
  rw [← Hw6.out]
  refine (HI.out _ _ _ BB.out b_22.out.lies).mono ?_
  rintro e w7 ⟨gv, rfl, go, hb25⟩
  obtain ⟨gA, gc, rfl⟩ := own_is_slice go
  have a_26 := Lib.hid (own_below' a_21.out hb25)
  clear a_21
  have b_27 := Lib.hid (row_20.out.below hb25)
  have b_28 := Lib.hid (b_22.out.below hb25)
  have BB_29 := Lib.hid (below_link BB.out hb25 BB.out.size)
  clear BB
  have BB := BB_29
  clear BB_29
  have S30 := Lib.hid (show w6.heap.size ≤ w7.heap.size from hb25.size)
  clear row_20 b_22 bc0 bc1 bc2 bc3 bc4 bc5 hb25
  have gR := Lib.hid (show ∀ y, (Value.slice gA L.length gc).ownBlock = some y → w6.heap.size ≤ y ∧ y < w7.heap.size from go.lt)
  have g_31 := Lib.hid go
  clear go
  go_wp2_with fail
  refine (EQ.out _ _ _ _ _ _ _ g_31.out a_26.out).mono ?_
  rintro e w8 ⟨rfl, hb32⟩
  have a_33 := Lib.hid (own_below' a_26.out hb32)
  have g_34 := Lib.hid (own_below' g_31.out hb32)
  clear a_26 g_31
  have b_35 := Lib.hid (b_27.out.below hb32)
  have b_36 := Lib.hid (b_28.out.below hb32)
  have BB_37 := Lib.hid (below_link BB.out hb32 BB.out.size)
  clear BB
  have BB := BB_37
  clear BB_37
  have S38 := Lib.hid (show w7.heap.size ≤ w8.heap.size from hb32.size)
  clear b_27 b_28 hb32
  obtain ⟨bc0, bc1, bc2, bc3, bc4, bc5⟩ := b_35.out
  obtain ⟨argc0, argc1, argc2, argc3, argc4, argc5⟩ := (ARG.out.below BB.out)
  go_wp2_with fail
  go_region_law (go_simp; first | (go_at_call 7; refine (HT.out _ ((Hl.out.below BB.out).below (Below.refl _ _).drew)).mono ?_; rintro e m39 ⟨⟨usm39, Fm39, rfl, hom39, _⟩, hb40⟩; obtain ⟨qm390, qm391, qm392, qm393, qm394, qm395⟩ := (Row6.below (w := w8.drew) (w' := m39) b_35.out hb40)) | (go_at_call 10; refine (HE.out _ _ _ _ _ (b_36.out.lies.below ((Below.refl _ _).drew.trans (hb40.mono (Nat.le_refl _)))) hom39.lies).mono ?_; rintro e w9 ⟨rfl, hb42⟩))
  all_goals
    have hb41 : Below w8.heap.size w8 w9 := below_link ((Below.refl _ _).drew.trans (hb40.mono (Nat.le_refl _))) hb42 hb40.size
    clear hom39 hb40 hb42 qm390 qm391 qm392 qm393 qm394 qm395
    have a_43 := Lib.hid (own_below' a_33.out hb41)
    have g_44 := Lib.hid (own_below' g_34.out hb41)
    clear a_33 g_34
    have b_45 := Lib.hid (b_35.out.below hb41)
    have b_46 := Lib.hid (b_36.out.below hb41)
    have BB_47 := Lib.hid (below_link BB.out hb41 BB.out.size)
    clear BB
    have BB := BB_47
    clear BB_47
    have S48 := Lib.hid (show w8.heap.size ≤ w9.heap.size from hb41.size)
    clear b_35 b_36 bc0 bc1 bc2 bc3 bc4 bc5 argc0 argc1 argc2 argc3 argc4 argc5 hb41
    obtain ⟨bc0, bc1, bc2, bc3, bc4, bc5⟩ := b_45.out
    go_wp2_with fail
    refine (HM.out _ _ _ _ _ b_46.out bN.out).mono ?_
    rintro e w10 ⟨rfl, ho50, hk49⟩
    have b_51 := Lib.hid (b_45.out.but hk49 (fun hx => by have := S0.out; have := S3.out; have := S6.out; have := S11.out; have := S16.out; have := S24.out; have := S19.out; have := S30.out; have := S38.out; have := S48.out; have h1 := bR.out _ hx; omega))
    have b_52 := Lib.hid ho50
    have BB_53 := Lib.hid (KeptBut.below BB.out hk49 BB.out.size (fun x hx => by have := S0.out; have := S3.out; have := S6.out; have := S11.out; have := S16.out; have := S24.out; have := S19.out; have := S30.out; have := S38.out; have := S48.out; have h1 := bR.out _ hx; omega))
    clear BB
    have BB := BB_53
    clear BB_53
    have S54 := Lib.hid (show w9.heap.size ≤ w10.heap.size from hk49.size)
    have a_55 := Lib.hid (ind.own_butF a_43.out hk49 (fun y hy hx => by have := S0.out; have := S3.out; have := S6.out; have := S11.out; have := S16.out; have := S24.out; have := S19.out; have := S30.out; have := S38.out; have := S48.out; have := S54.out; have h1 := bR.out _ hx; have h2 := aR.out _ hy; omega))
    have g_56 := Lib.hid (ind.own_butF g_44.out hk49 (fun y hy hx => by have := S0.out; have := S3.out; have := S6.out; have := S11.out; have := S16.out; have := S24.out; have := S19.out; have := S30.out; have := S38.out; have := S48.out; have := S54.out; have h1 := bR.out _ hx; have h2 := gR.out _ hy; omega))
    clear b_45 b_46 bc0 bc1 bc2 bc3 bc4 bc5 hk49 ho50 
    clear a_43 g_44
    go_wp2_with fail
    refine (EQ.out _ _ _ _ _ _ _ g_56.out a_55.out).mono ?_
    rintro e w11 ⟨rfl, hb57⟩
    have a_58 := Lib.hid (own_below' a_55.out hb57)
    have g_59 := Lib.hid (own_below' g_56.out hb57)
    clear a_55 g_56
    have b_60 := Lib.hid (b_51.out.below hb57)
    have b_61 := Lib.hid (b_52.out.below hb57)
    have BB_62 := Lib.hid (below_link BB.out hb57 BB.out.size)
    clear BB
    have BB := BB_62
    clear BB_62
    have S63 := Lib.hid (show w10.heap.size ≤ w11.heap.size from hb57.size)
    clear b_51 b_52 hb57
    clear b_60 b_61
    go_wp2_with fail
    refine (MK.out _ _ _ _ g_59.out).mono ?_
    rintro e w12 ⟨rfl, ho65, hg64⟩
    have a_67 := Lib.hid (ind.own_grown a_58.out hg64 (fun y hy hx => by have := S0.out; have := S3.out; have := S6.out; have := S11.out; have := S16.out; have := S24.out; have := S19.out; have := S30.out; have := S38.out; have := S48.out; have := S54.out; have := S63.out; have h1 := gR.out _ hx; have h2 := aR.out _ hy; omega))
    have gm_68 := Lib.hid ho65
    have BB_69 := Lib.hid (BB.out.grown hg64 BB.out.size (fun x hx => by have := S0.out; have := S3.out; have := S6.out; have := S11.out; have := S16.out; have := S24.out; have := S19.out; have := S30.out; have := S38.out; have := S48.out; have := S54.out; have := S63.out; have h1 := gR.out _ hx; omega))
    clear BB
    have BB := BB_69
    clear BB_69
    have S70 := Lib.hid (show w11.heap.size ≤ w12.heap.size from hg64.size)
    clear a_58 g_59 hg64 ho65
    go_wp2_with fail
    refine (HD.out _ _ _ _ gm_68.out).mono ?_
    rintro e w13 ⟨rfl, hb71⟩
    have a_72 := Lib.hid (own_below' a_67.out hb71)
    have g_73 := Lib.hid (own_below' gm_68.out hb71)
    clear a_67 gm_68
    have BB_74 := Lib.hid (below_link BB.out hb71 BB.out.size)
    clear BB
    have BB := BB_74
    clear BB_74
    have S75 := Lib.hid (show w12.heap.size ≤ w13.heap.size from hb71.size)
    clear  hb71
    obtain ⟨argc0, argc1, argc2, argc3, argc4, argc5⟩ := (ARG.out.below BB.out)
    go_wp2_with fail
    refine (HT.out _ (Hl.out.below BB.out)).mono ?_
    rintro e w14 ⟨⟨yus, yF, rfl, yho, yhn⟩, hb76⟩
    have a_77 := Lib.hid (own_below' a_72.out hb76)
    have g_78 := Lib.hid (own_below' g_73.out hb76)
    clear a_72 g_73
    have BB_79 := Lib.hid (below_link BB.out hb76 BB.out.size)
    clear BB
    have BB := BB_79
    clear BB_79
    have S80 := Lib.hid (show w13.heap.size ≤ w14.heap.size from hb76.size)
    clear argc0 argc1 argc2 argc3 argc4 argc5 hb76
    obtain ⟨y0, y1, y2, y3, y4, y5, rfl⟩ := six_of (yho.1.trans (row_length _))
    have yone := Lib.hid yho.one
    have yR := Lib.hid (show ∀ x ∈ yF, w13.heap.size ≤ x ∧ x < w14.heap.size from yho.range)
    have yN := Lib.hid yhn
    have y_81 := Lib.hid yho
    clear yho yhn
    go_wp2_with fail
    refine (HI.out _ _ _ BB.out y_81.out.lies).mono ?_
    rintro e w15 ⟨hv, rfl, ho, hb82⟩
    obtain ⟨hA, hc, rfl⟩ := own_is_slice ho
    have a_83 := Lib.hid (own_below' a_77.out hb82)
    have g_84 := Lib.hid (own_below' g_78.out hb82)
    clear a_77 g_78
    have y_85 := Lib.hid (y_81.out.below hb82)
    have BB_86 := Lib.hid (below_link BB.out hb82 BB.out.size)
    clear BB
    have BB := BB_86
    clear BB_86
    have S87 := Lib.hid (show w14.heap.size ≤ w15.heap.size from hb82.size)
    clear y_81 hb82
    have hR := Lib.hid (show ∀ y, (Value.slice hA L.length hc).ownBlock = some y → w14.heap.size ≤ y ∧ y < w15.heap.size from ho.lt)
    have h_88 := Lib.hid ho
    clear ho
    clear y_85
    go_wp2_with fail
    refine (EQ.out _ _ _ _ _ _ _ h_88.out a_83.out).mono ?_
    rintro e w16 ⟨rfl, hb89⟩
    have a_90 := Lib.hid (own_below' a_83.out hb89)
    have g_91 := Lib.hid (own_below' g_84.out hb89)
    have h_92 := Lib.hid (own_below' h_88.out hb89)
    clear a_83 g_84 h_88
    have BB_93 := Lib.hid (below_link BB.out hb89 BB.out.size)
    clear BB
    have BB := BB_93
    clear BB_93
    have S94 := Lib.hid (show w15.heap.size ≤ w16.heap.size from hb89.size)
    clear  hb89
    go_wp2_with fail
    refine (HD.out _ _ _ _ g_91.out).mono ?_
    rintro e w17 ⟨rfl, hb95⟩
    have a_96 := Lib.hid (own_below' a_90.out hb95)
    have g_97 := Lib.hid (own_below' g_91.out hb95)
    have h_98 := Lib.hid (own_below' h_92.out hb95)
    clear a_90 g_91 h_92
    have BB_99 := Lib.hid (below_link BB.out hb95 BB.out.size)
    clear BB
    have BB := BB_99
    clear BB_99
    have S100 := Lib.hid (show w16.heap.size ≤ w17.heap.size from hb95.size)
    clear  hb95
    go_wp2_with fail
    go_ret
    exact ⟨rfl, below_link Hb1.out BB.out Hb1.out.size⟩
end Go.Proofs.YtbfkkaafkinpmaaGreatDoor.fnExactIndentedLines
