/- FnExactListTree: the law returns true at every argument. -/
import Derived.Test.YtllfhnlhfnimbaaGA1
import Derived.Test.YtllfhnlhfnimbaaGA2
import Derived.Test.YtllfhnlhfnimbaaGA3
import Derived.Test.YtllfhnlhfnimbaaTrMakeS
import Derived.Test.YtllfhnlhfnimbaaTrListI
namespace Go.Proofs.Ytllfhnlhfnimbaa.fnExactListTree
open Go.ChangeShapes Go.WideShapes Go.ChangeAt Go.RowKit
open tree
set_option linter.unusedVariables false

theorem weight_list (kids : List T) : weight (listT kids) = kids.length + weights kids := by
  unfold listT
  rw [weight]
  have e : (⟨#[]⟩ : ByteArray).size = 0 := rfl
  show (⟨#[]⟩ : ByteArray).size + (0 + 0) + (kids.length + weights kids) = _
  rw [e]
  omega
theorem eq_list {f f' : Nat} (kids : List T) (A1 A2 : Option Addr) (c1 c2 : Nat) (w : World) (h1 : Lies w f (.slice A1 kids.length c1) (.sl 6 kids.length (rows kids))) (h2 : Lies w f' (.slice A2 kids.length c2) (.sl 6 kids.length (rows kids))) :
    Calls Try.prog 18 #[.slice A1 kids.length c1, .slice A2 kids.length c2] w fun e w' => e = .returned (.bool true) ∧ Below w.heap.size w w' := by
  obtain ⟨B1, d1, e1, g1, g2, n1, hn1, k1⟩ := kids_of_lies (h1.deeper (Nat.le_max_left f f'))
  obtain ⟨B2, d2, e2, g3, g4, n2, hn2, k2⟩ := kids_of_lies (h2.deeper (Nat.le_max_right f f'))
  injection e1 with e1 _ e1'
  injection e2 with e2 _ e2'
  subst e1 e1' e2 e2'
  obtain rfl : n1 = n2 := by omega
  exact eq_kids n1 A1 A2 c1 c2 kids w g1 g2 g3 g4 k1 k2
theorem to_list {f : Nat} (kids : List T) (A : Option Addr) (c : Nat) (w : World) (hc : kids.length ≤ c) (hm : c ≤ maxLen) (h : KidsAt w f A kids) (hw : kids.length + weights kids ≤ 1048576) :
    Calls Try.prog 16 #[.slice A kids.length c] w fun e w' => (∃ A' c' F, e = .returned (.slice A' kids.length c') ∧ Own w' w.heap.size (f + 2 + 1) (.slice A' kids.length c') (.sl 6 kids.length (rows kids)) F ∧ F.Nodup) ∧ Below w.heap.size w w' := by
  refine (to_kids f A c kids w hc hm h hw).mono ?_
  rintro e w' ⟨A', c', rfl, ho, hb⟩
  obtain ⟨F, h1, h2, _⟩ := ho.own
  exact ⟨⟨A', c', F, rfl, h1, h2⟩, hb⟩

set_option maxRecDepth 100000 in
set_option maxHeartbeats 16000000 in
theorem walk (kids : List T) (f : Nat) (A : Option Addr) (c : Nat) (W : World) (h : Lies W f (.slice A kids.length c) (.sl 6 kids.length (rows kids))) :
    Calls Try.prog 4 #[.slice A kids.length c] W fun e w' => e = .returned (.bool true) ∧ Below W.heap.size W w' := by
  obtain ⟨A', c', e', hc, hm, f, rfl, hk⟩ := kids_of_lies h
  injection e' with e1 _ e2
  subst e1 e2
  obtain ⟨w1, hw1⟩ : ∃ x, x = W := ⟨_, rfl⟩
  have Hw1 := Lib.hid hw1
  have Hb1 := Lib.hid (show Below W.heap.size W w1 by subst hw1; exact Below.refl _ _)
  rw [← hw1] at hk ⊢
  have Hl := Lib.hid hk
  have BB := Lib.hid (Below.refl w1.heap.size w1)
  have S0 := Lib.hid (show w1.heap.size < w1.heap.size + 1 by omega)
  clear h hk hw1
  have HZ := Lib.hid (sz_kids f A c kids 1048576 w1 hc hm Hl.out ⟨by decide, by decide⟩)
  by_cases hw : (1048576 : Int) < ((kids.length + weights kids : Nat) : Int)
  · rw [cut_no hw] at HZ
    go_enter Try.func4, Try.ntmps4
    go_wp2_with fail
    refine HZ.out.mono ?_
    rintro e w2 ⟨rfl, hb2⟩
    have Hb2 := Lib.hid hb2
    clear hb2
    go_wp2_with fail
    go_ret
    exact ⟨rfl, Hb2.out⟩
  rw [cut_yes hw] at HZ
  have hwn : kids.length + weights kids ≤ 1048576 := by omega
  have hleft : ¬ (1048576 - ((kids.length + weights kids : Nat) : Int)) < 0 := by omega
  have hct : (1 : Int) + costs kids ≤ 4611686018427387904 := by
    have h1 := topCost_le (listT kids)
    have h2 := weight_list kids
    have h3 : costs kids ≤ 5 * (kids.length + weights kids) := by
      have : ∀ l : List T, costs l ≤ 5 * (l.length + weights l) := by
        intro l
        induction l with
        | nil => simp [costs]
        | cons a r ih =>
          rw [costs, weights, List.length_cons]
          have := cost_le a
          omega
      exact this kids
    omega
  have hcK : (1 : Int) + topCost (listT kids) ≤ 4611686018427387904 := by have := topCost_le (listT kids); have := weight_list kids; omega
  have HT := Lib.hid (fun w (hl : KidsAt w f A kids) => to_list kids A c w hc hm hl hwn)
  have HS := Lib.hid (fun f A c w (hl : Lies w (f + 1) (.slice A kids.length c) (.sl 6 kids.length (rows kids))) => spec_list kids A c w hl hwn)
  have HI := Lib.hid (fun f A c w (hl : Lies w (f + 1) (.slice A kids.length c) (.sl 6 kids.length (rows kids))) => impl_list kids A c w hl hwn)
  have HEL := Lib.hid (fun f f' A1 A2 c1 c2 w h1 h2 => eq_list (f := f) (f' := f') kids A1 A2 c1 c2 w h1 h2)
  have HM := Lib.hid (fun f B v F w (h : Own w B (f + 1) v (.sl 6 kids.length (rows kids)) F) (hnd : F.Nodup) => mark_kids f B v kids F 1 w h hnd (by decide) hct)
  obtain ⟨K, hK⟩ : ∃ K, listT kids = K := ⟨_, rfl⟩
  rw [hK] at HS HI hcK
  have HEK := Lib.hid (fun f f' us xs w (h1 : LiesS w f us (row K)) (h2 : LiesS w f' xs (row K)) => eq_tree K us xs w (h1.deeper (Nat.le_max_left f f')) (h2.deeper (Nat.le_max_right f f')))
  have HMK := Lib.hid (fun B f vs F w (h : OwnS w B f vs (row K) F) (hnd : F.Nodup) => mark_tree K vs F 1 w h hnd (by decide) hcK)
  have HHK := Lib.hid (fun f vs w (h : LiesS w f vs (row (topT K 1))) => held_tree K vs 1 w h (by decide) hcK)
  have c0 : (0 : Int) ≤ costs kids := Int.natCast_nonneg _
  have c1 : (0 : Int) ≤ topCost K := Int.natCast_nonneg _
  clear hw hwn hct hcK hK hc hm
  generalize (1048576 - ((kids.length + weights kids : Nat) : Int)) = left at HZ hleft
  generalize (costs kids : Int) = C0 at HM c0
  generalize (topCost K : Int) = C1 at HMK HHK c1
  have n0 : ¬ (1 + C0 < 0) := by omega
  have n1 : ¬ (1 + C1 < 0) := by omega
  go_enter Try.func4, Try.ntmps4
  go_wp2_with fail
  refine (HZ.out).mono ?_
  rintro e w2 ⟨rfl, hb1⟩
  have BB_2 := Lib.hid (below_link BB.out hb1 BB.out.size)
  clear BB
  have BB := BB_2
  clear BB_2
  have S3 := Lib.hid (show w1.heap.size ≤ w2.heap.size from hb1.size)
  clear  hb1
  go_wp2_with fail
  refine (HT.out _ (Hl.out.below BB.out)).mono ?_
  rintro e w3 ⟨⟨xA, xc, xF, rfl, xho, xhn⟩, hb4⟩
  have BB_5 := Lib.hid (below_link BB.out hb4 BB.out.size)
  clear BB
  have BB := BB_5
  clear BB_5
  have S6 := Lib.hid (show w2.heap.size ≤ w3.heap.size from hb4.size)
  clear  hb4
  have xR := Lib.hid (show ∀ x ∈ xF, w2.heap.size ≤ x ∧ x < w3.heap.size from xho.range)
  have xN := Lib.hid xhn
  have x_7 := Lib.hid xho
  clear xho xhn
  go_wp2_with fail
  refine (HS.out _ _ _ _ x_7.out.lies).mono ?_
  rintro e w4 ⟨⟨aus, aF, rfl, aho, ahn⟩, hb8⟩
  have x_9 := Lib.hid (x_7.out.below hb8)
  have BB_10 := Lib.hid (below_link BB.out hb8 BB.out.size)
  clear BB
  have BB := BB_10
  clear BB_10
  have S11 := Lib.hid (show w3.heap.size ≤ w4.heap.size from hb8.size)
  clear x_7 hb8
  obtain ⟨a0, a1, a2, a3, a4, a5, rfl⟩ := six_of (aho.1.trans (row_length _))
  have aone := Lib.hid aho.one
  have aR := Lib.hid (show ∀ x ∈ aF, w3.heap.size ≤ x ∧ x < w4.heap.size from aho.range)
  have aN := Lib.hid ahn
  have a_12 := Lib.hid aho
  clear aho ahn
  clear x_9
  obtain ⟨w5, hw5⟩ : ∃ x, x = w4.alloc (.cells #[a0, a1, a2, a3, a4, a5] 29) := ⟨_, rfl⟩
  have hb13 : Below w4.heap.size w4 w5 := by subst hw5; exact (Below.refl _ _).alloc (Nat.le_refl _) _
  have S14 := Lib.hid (show w4.heap.size < w5.heap.size by subst hw5; simp)
  have row_15 := Lib.hid (show Row6 w5 w4.heap.size a0 a1 a2 a3 a4 a5 by subst hw5; exact Row6.of (heap_alloc_new w4 _))
  have Hw5 := Lib.hid hw5
  clear hw5
  have a_16 := Lib.hid (a_12.out.below hb13)
  have BB_17 := Lib.hid (below_link BB.out hb13 BB.out.size)
  clear BB
  have BB := BB_17
  clear BB_17
  have S18 := Lib.hid (show w4.heap.size ≤ w5.heap.size from hb13.size)
  clear a_12 hb13
  have ahone := aone.out
  go_wp2_with (first | (refine wpList_store_row rfl 29 _ _ rfl w4.heap.size #[a0, a1, a2, a3, a4, a5] rfl rfl 29 _ (heap_alloc_new w4 _) tree_size rfl ahone ?_; rw [World.setRow_alloc_new]) | fail)
  rw [← Hw5.out]
  refine (HT.out _ (Hl.out.below BB.out)).mono ?_
  rintro e w6 ⟨⟨bA, bc, bF, rfl, bho, bhn⟩, hb19⟩
  have a_20 := Lib.hid (row_15.out.below hb19)
  have a_21 := Lib.hid (a_16.out.below hb19)
  have BB_22 := Lib.hid (below_link BB.out hb19 BB.out.size)
  clear BB
  have BB := BB_22
  clear BB_22
  have S23 := Lib.hid (show w5.heap.size ≤ w6.heap.size from hb19.size)
  clear row_15 a_16 hb19
  have bR := Lib.hid (show ∀ x ∈ bF, w5.heap.size ≤ x ∧ x < w6.heap.size from bho.range)
  have bN := Lib.hid bhn
  have b_24 := Lib.hid bho
  clear bho bhn
  go_wp2_with fail
  refine (HI.out _ _ _ _ b_24.out.lies).mono ?_
  rintro e w7 ⟨⟨gus, gF, rfl, gho, ghn⟩, hb25⟩
  have a_26 := Lib.hid (a_20.out.below hb25)
  have a_27 := Lib.hid (a_21.out.below hb25)
  have b_28 := Lib.hid (b_24.out.below hb25)
  have BB_29 := Lib.hid (below_link BB.out hb25 BB.out.size)
  clear BB
  have BB := BB_29
  clear BB_29
  have S30 := Lib.hid (show w6.heap.size ≤ w7.heap.size from hb25.size)
  clear a_20 a_21 b_24 hb25
  obtain ⟨g0, g1, g2, g3, g4, g5, rfl⟩ := six_of (gho.1.trans (row_length _))
  have gone := Lib.hid gho.one
  have gR := Lib.hid (show ∀ x ∈ gF, w6.heap.size ≤ x ∧ x < w7.heap.size from gho.range)
  have gN := Lib.hid ghn
  have g_31 := Lib.hid gho
  clear gho ghn
  obtain ⟨w8, hw8⟩ : ∃ x, x = w7.alloc (.cells #[g0, g1, g2, g3, g4, g5] 29) := ⟨_, rfl⟩
  have hb32 : Below w7.heap.size w7 w8 := by subst hw8; exact (Below.refl _ _).alloc (Nat.le_refl _) _
  have S33 := Lib.hid (show w7.heap.size < w8.heap.size by subst hw8; simp)
  have row_34 := Lib.hid (show Row6 w8 w7.heap.size g0 g1 g2 g3 g4 g5 by subst hw8; exact Row6.of (heap_alloc_new w7 _))
  have Hw8 := Lib.hid hw8
  clear hw8
  have a_35 := Lib.hid (a_26.out.below hb32)
  have a_36 := Lib.hid (a_27.out.below hb32)
  have b_37 := Lib.hid (b_28.out.below hb32)
  have g_38 := Lib.hid (g_31.out.below hb32)
  have BB_39 := Lib.hid (below_link BB.out hb32 BB.out.size)
  clear BB
  have BB := BB_39
  clear BB_39
  have S40 := Lib.hid (show w7.heap.size ≤ w8.heap.size from hb32.size)
  clear a_26 a_27 b_28 g_31 hb32
  have ghone := gone.out
  obtain ⟨gc0, gc1, gc2, gc3, gc4, gc5⟩ := row_34.out
  rw [Hw8.out] at gc0 gc1 gc2 gc3 gc4 gc5
  obtain ⟨ac0, ac1, ac2, ac3, ac4, ac5⟩ := a_35.out
  rw [Hw8.out] at ac0 ac1 ac2 ac3 ac4 ac5
  go_wp2_with (first | (refine wpList_store_row rfl 29 _ _ rfl w7.heap.size #[g0, g1, g2, g3, g4, g5] rfl rfl 29 _ (heap_alloc_new w7 _) tree_size rfl ghone ?_; rw [World.setRow_alloc_new]) | fail)
  rw [← Hw8.out]
  refine (HEK.out _ _ _ _ _ g_38.out.lies a_36.out.lies).mono ?_
  rintro e w9 ⟨rfl, hb41⟩
  have a_42 := Lib.hid (a_35.out.below hb41)
  have g_43 := Lib.hid (row_34.out.below hb41)
  have a_44 := Lib.hid (a_36.out.below hb41)
  have b_45 := Lib.hid (b_37.out.below hb41)
  have g_46 := Lib.hid (g_38.out.below hb41)
  have BB_47 := Lib.hid (below_link BB.out hb41 BB.out.size)
  clear BB
  have BB := BB_47
  clear BB_47
  have S48 := Lib.hid (show w8.heap.size ≤ w9.heap.size from hb41.size)
  clear a_35 row_34 a_36 b_37 g_38 gc0 gc1 gc2 gc3 gc4 gc5 ac0 ac1 ac2 ac3 ac4 ac5 hb41
  go_wp2_with fail
  refine (HT.out _ (Hl.out.below BB.out)).mono ?_
  rintro e w10 ⟨⟨zA, zc, zF, rfl, zho, zhn⟩, hb49⟩
  have a_50 := Lib.hid (a_42.out.below hb49)
  have g_51 := Lib.hid (g_43.out.below hb49)
  have a_52 := Lib.hid (a_44.out.below hb49)
  have b_53 := Lib.hid (b_45.out.below hb49)
  have g_54 := Lib.hid (g_46.out.below hb49)
  have BB_55 := Lib.hid (below_link BB.out hb49 BB.out.size)
  clear BB
  have BB := BB_55
  clear BB_55
  have S56 := Lib.hid (show w9.heap.size ≤ w10.heap.size from hb49.size)
  clear a_42 g_43 a_44 b_45 g_46 hb49
  have zR := Lib.hid (show ∀ x ∈ zF, w9.heap.size ≤ x ∧ x < w10.heap.size from zho.range)
  have zN := Lib.hid zhn
  have z_57 := Lib.hid zho
  clear zho zhn
  go_wp2_with fail
  refine (HEL.out _ _ _ _ _ _ _ b_53.out.lies z_57.out.lies).mono ?_
  rintro e w11 ⟨rfl, hb58⟩
  have a_59 := Lib.hid (a_50.out.below hb58)
  have g_60 := Lib.hid (g_51.out.below hb58)
  have a_61 := Lib.hid (a_52.out.below hb58)
  have b_62 := Lib.hid (b_53.out.below hb58)
  have g_63 := Lib.hid (g_54.out.below hb58)
  have z_64 := Lib.hid (z_57.out.below hb58)
  have BB_65 := Lib.hid (below_link BB.out hb58 BB.out.size)
  clear BB
  have BB := BB_65
  clear BB_65
  have S66 := Lib.hid (show w10.heap.size ≤ w11.heap.size from hb58.size)
  clear a_50 g_51 a_52 b_53 g_54 z_57 hb58
  clear z_64
  go_wp2_with fail
  refine (HM.out _ _ _ _ _ b_62.out bN.out).mono ?_
  rintro e w12 ⟨rfl, ho68, hk67⟩
  have a_69 := Lib.hid (a_59.out.but hk67 (fun hx => by have := S0.out; have := S3.out; have := S6.out; have := S11.out; have := S18.out; have := S14.out; have := S23.out; have := S30.out; have := S40.out; have := S33.out; have := S48.out; have := S56.out; have := S66.out; have h1 := bR.out _ hx; omega))
  have g_70 := Lib.hid (g_60.out.but hk67 (fun hx => by have := S0.out; have := S3.out; have := S6.out; have := S11.out; have := S18.out; have := S14.out; have := S23.out; have := S30.out; have := S40.out; have := S33.out; have := S48.out; have := S56.out; have := S66.out; have h1 := bR.out _ hx; omega))
  have a_71 := Lib.hid (a_61.out.but hk67 (fun x hy hx => by have := S0.out; have := S3.out; have := S6.out; have := S11.out; have := S18.out; have := S14.out; have := S23.out; have := S30.out; have := S40.out; have := S33.out; have := S48.out; have := S56.out; have := S66.out; have h1 := bR.out _ hx; have h2 := aR.out _ hy; omega))
  have b_72 := Lib.hid ho68
  have g_73 := Lib.hid (g_63.out.but hk67 (fun x hy hx => by have := S0.out; have := S3.out; have := S6.out; have := S11.out; have := S18.out; have := S14.out; have := S23.out; have := S30.out; have := S40.out; have := S33.out; have := S48.out; have := S56.out; have := S66.out; have h1 := bR.out _ hx; have h2 := gR.out _ hy; omega))
  have BB_74 := Lib.hid (KeptBut.below BB.out hk67 BB.out.size (fun x hx => by have := S0.out; have := S3.out; have := S6.out; have := S11.out; have := S18.out; have := S14.out; have := S23.out; have := S30.out; have := S40.out; have := S33.out; have := S48.out; have := S56.out; have := S66.out; have h1 := bR.out _ hx; omega))
  clear BB
  have BB := BB_74
  clear BB_74
  have S75 := Lib.hid (show w11.heap.size ≤ w12.heap.size from hk67.size)
  clear a_59 g_60 a_61 b_62 g_63 hk67 ho68 
  obtain ⟨gc0, gc1, gc2, gc3, gc4, gc5⟩ := g_70.out
  obtain ⟨ac0, ac1, ac2, ac3, ac4, ac5⟩ := a_69.out
  go_wp2_with fail
  refine (HEK.out _ _ _ _ _ g_73.out.lies a_71.out.lies).mono ?_
  rintro e w13 ⟨rfl, hb76⟩
  have a_77 := Lib.hid (a_69.out.below hb76)
  have g_78 := Lib.hid (g_70.out.below hb76)
  have a_79 := Lib.hid (a_71.out.below hb76)
  have b_80 := Lib.hid (b_72.out.below hb76)
  have g_81 := Lib.hid (g_73.out.below hb76)
  have BB_82 := Lib.hid (below_link BB.out hb76 BB.out.size)
  clear BB
  have BB := BB_82
  clear BB_82
  have S83 := Lib.hid (show w12.heap.size ≤ w13.heap.size from hb76.size)
  clear a_69 g_70 a_71 b_72 g_73 gc0 gc1 gc2 gc3 gc4 gc5 ac0 ac1 ac2 ac3 ac4 ac5 hb76
  clear b_80
  obtain ⟨gc0, gc1, gc2, gc3, gc4, gc5⟩ := g_78.out
  go_wp2_with fail
  refine (HMK.out _ _ _ _ _ g_81.out gN.out).mono ?_
  rintro e w14 ⟨rfl, ho85, hk84⟩
  have a_86 := Lib.hid (a_77.out.but hk84 (fun hx => by have := S0.out; have := S3.out; have := S6.out; have := S11.out; have := S18.out; have := S14.out; have := S23.out; have := S30.out; have := S40.out; have := S33.out; have := S48.out; have := S56.out; have := S66.out; have := S75.out; have := S83.out; have h1 := gR.out _ hx; omega))
  have g_87 := Lib.hid (g_78.out.but hk84 (fun hx => by have := S0.out; have := S3.out; have := S6.out; have := S11.out; have := S18.out; have := S14.out; have := S23.out; have := S30.out; have := S40.out; have := S33.out; have := S48.out; have := S56.out; have := S66.out; have := S75.out; have := S83.out; have h1 := gR.out _ hx; omega))
  have a_88 := Lib.hid (a_79.out.but hk84 (fun x hy hx => by have := S0.out; have := S3.out; have := S6.out; have := S11.out; have := S18.out; have := S14.out; have := S23.out; have := S30.out; have := S40.out; have := S33.out; have := S48.out; have := S56.out; have := S66.out; have := S75.out; have := S83.out; have h1 := gR.out _ hx; have h2 := aR.out _ hy; omega))
  have g_89 := Lib.hid ho85
  have BB_90 := Lib.hid (KeptBut.below BB.out hk84 BB.out.size (fun x hx => by have := S0.out; have := S3.out; have := S6.out; have := S11.out; have := S18.out; have := S14.out; have := S23.out; have := S30.out; have := S40.out; have := S33.out; have := S48.out; have := S56.out; have := S66.out; have := S75.out; have := S83.out; have h1 := gR.out _ hx; omega))
  clear BB
  have BB := BB_90
  clear BB_90
  have S91 := Lib.hid (show w13.heap.size ≤ w14.heap.size from hk84.size)
  clear a_77 g_78 a_79 g_81 gc0 gc1 gc2 gc3 gc4 gc5 hk84 ho85 
  obtain ⟨gc0, gc1, gc2, gc3, gc4, gc5⟩ := g_87.out
  go_wp2_with fail
  refine (HHK.out _ _ _ g_89.out.lies).mono ?_
  rintro e w15 ⟨rfl, hb92⟩
  have a_93 := Lib.hid (a_86.out.below hb92)
  have g_94 := Lib.hid (g_87.out.below hb92)
  have a_95 := Lib.hid (a_88.out.below hb92)
  have g_96 := Lib.hid (g_89.out.below hb92)
  have BB_97 := Lib.hid (below_link BB.out hb92 BB.out.size)
  clear BB
  have BB := BB_97
  clear BB_97
  have S98 := Lib.hid (show w14.heap.size ≤ w15.heap.size from hb92.size)
  clear a_86 g_87 a_88 g_89 gc0 gc1 gc2 gc3 gc4 gc5 hb92
  go_wp2_with fail
  refine (HT.out _ (Hl.out.below BB.out)).mono ?_
  rintro e w16 ⟨⟨yA, yc, yF, rfl, yho, yhn⟩, hb99⟩
  have a_100 := Lib.hid (a_93.out.below hb99)
  have g_101 := Lib.hid (g_94.out.below hb99)
  have a_102 := Lib.hid (a_95.out.below hb99)
  have g_103 := Lib.hid (g_96.out.below hb99)
  have BB_104 := Lib.hid (below_link BB.out hb99 BB.out.size)
  clear BB
  have BB := BB_104
  clear BB_104
  have S105 := Lib.hid (show w15.heap.size ≤ w16.heap.size from hb99.size)
  clear a_93 g_94 a_95 g_96 hb99
  have yR := Lib.hid (show ∀ x ∈ yF, w15.heap.size ≤ x ∧ x < w16.heap.size from yho.range)
  have yN := Lib.hid yhn
  have y_106 := Lib.hid yho
  clear yho yhn
  go_wp2_with fail
  refine (HI.out _ _ _ _ y_106.out.lies).mono ?_
  rintro e w17 ⟨⟨hus, hF, rfl, hho, hhn⟩, hb107⟩
  have a_108 := Lib.hid (a_100.out.below hb107)
  have g_109 := Lib.hid (g_101.out.below hb107)
  have a_110 := Lib.hid (a_102.out.below hb107)
  have g_111 := Lib.hid (g_103.out.below hb107)
  have y_112 := Lib.hid (y_106.out.below hb107)
  have BB_113 := Lib.hid (below_link BB.out hb107 BB.out.size)
  clear BB
  have BB := BB_113
  clear BB_113
  have S114 := Lib.hid (show w16.heap.size ≤ w17.heap.size from hb107.size)
  clear a_100 g_101 a_102 g_103 y_106 hb107
  obtain ⟨h0, h1, h2, h3, h4, h5, rfl⟩ := six_of (hho.1.trans (row_length _))
  have hone := Lib.hid hho.one
  have hR := Lib.hid (show ∀ x ∈ hF, w16.heap.size ≤ x ∧ x < w17.heap.size from hho.range)
  have hN := Lib.hid hhn
  have h_115 := Lib.hid hho
  clear hho hhn
  clear y_112
  obtain ⟨w18, hw18⟩ : ∃ x, x = w17.alloc (.cells #[h0, h1, h2, h3, h4, h5] 29) := ⟨_, rfl⟩
  have hb116 : Below w17.heap.size w17 w18 := by subst hw18; exact (Below.refl _ _).alloc (Nat.le_refl _) _
  have S117 := Lib.hid (show w17.heap.size < w18.heap.size by subst hw18; simp)
  have row_118 := Lib.hid (show Row6 w18 w17.heap.size h0 h1 h2 h3 h4 h5 by subst hw18; exact Row6.of (heap_alloc_new w17 _))
  have Hw18 := Lib.hid hw18
  clear hw18
  have a_119 := Lib.hid (a_108.out.below hb116)
  have g_120 := Lib.hid (g_109.out.below hb116)
  have a_121 := Lib.hid (a_110.out.below hb116)
  have g_122 := Lib.hid (g_111.out.below hb116)
  have h_123 := Lib.hid (h_115.out.below hb116)
  have BB_124 := Lib.hid (below_link BB.out hb116 BB.out.size)
  clear BB
  have BB := BB_124
  clear BB_124
  have S125 := Lib.hid (show w17.heap.size ≤ w18.heap.size from hb116.size)
  clear a_108 g_109 a_110 g_111 h_115 hb116
  have hhone := hone.out
  obtain ⟨hc0, hc1, hc2, hc3, hc4, hc5⟩ := row_118.out
  rw [Hw18.out] at hc0 hc1 hc2 hc3 hc4 hc5
  obtain ⟨ac0, ac1, ac2, ac3, ac4, ac5⟩ := a_119.out
  rw [Hw18.out] at ac0 ac1 ac2 ac3 ac4 ac5
  go_wp2_with (first | (refine wpList_store_row rfl 29 _ _ rfl w17.heap.size #[h0, h1, h2, h3, h4, h5] rfl rfl 29 _ (heap_alloc_new w17 _) tree_size rfl hhone ?_; rw [World.setRow_alloc_new]) | fail)
  rw [← Hw18.out]
  refine (HEK.out _ _ _ _ _ h_123.out.lies a_121.out.lies).mono ?_
  rintro e w19 ⟨rfl, hb126⟩
  have a_127 := Lib.hid (a_119.out.below hb126)
  have g_128 := Lib.hid (g_120.out.below hb126)
  have h_129 := Lib.hid (row_118.out.below hb126)
  have a_130 := Lib.hid (a_121.out.below hb126)
  have g_131 := Lib.hid (g_122.out.below hb126)
  have h_132 := Lib.hid (h_123.out.below hb126)
  have BB_133 := Lib.hid (below_link BB.out hb126 BB.out.size)
  clear BB
  have BB := BB_133
  clear BB_133
  have S134 := Lib.hid (show w18.heap.size ≤ w19.heap.size from hb126.size)
  clear a_119 g_120 row_118 a_121 g_122 h_123 hc0 hc1 hc2 hc3 hc4 hc5 ac0 ac1 ac2 ac3 ac4 ac5 hb126
  obtain ⟨gc0, gc1, gc2, gc3, gc4, gc5⟩ := g_128.out
  go_wp2_with fail
  refine (HHK.out _ _ _ g_131.out.lies).mono ?_
  rintro e w20 ⟨rfl, hb135⟩
  have a_136 := Lib.hid (a_127.out.below hb135)
  have g_137 := Lib.hid (g_128.out.below hb135)
  have h_138 := Lib.hid (h_129.out.below hb135)
  have a_139 := Lib.hid (a_130.out.below hb135)
  have g_140 := Lib.hid (g_131.out.below hb135)
  have h_141 := Lib.hid (h_132.out.below hb135)
  have BB_142 := Lib.hid (below_link BB.out hb135 BB.out.size)
  clear BB
  have BB := BB_142
  clear BB_142
  have S143 := Lib.hid (show w19.heap.size ≤ w20.heap.size from hb135.size)
  clear a_127 g_128 h_129 a_130 g_131 h_132 gc0 gc1 gc2 gc3 gc4 gc5 hb135
  go_wp2_with fail
  go_ret
  exact ⟨rfl, BB.out⟩
end Go.Proofs.Ytllfhnlhfnimbaa.fnExactListTree
