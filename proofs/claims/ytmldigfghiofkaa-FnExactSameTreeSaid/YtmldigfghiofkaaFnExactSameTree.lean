/- FnExactSameTree: the law returns true at every argument. -/
import Derived.Test.YtmldigfghiofkaaTrSz
import Derived.Test.YtmldigfghiofkaaTrTo
import Derived.Test.YtmldigfghiofkaaTrEq
import Derived.Test.YtmldigfghiofkaaTrSameS
import Derived.Test.YtmldigfghiofkaaTrSameI
import Derived.Deep.RegionHeld3
namespace Go.Proofs.Ytmldigfghiofkaa.fnExactSameTree
open Go.ChangeShapes Go.WideShapes Go.ChangeAt Go.RowKit
open tree
set_option linter.unusedVariables false

set_option maxRecDepth 100000 in
set_option maxHeartbeats 16000000 in
theorem walk (s : T) (e : Nat) (zs : List Value) (t : T) (f : Nat) (vs : List Value) (W : World) (g : LiesS W e zs (row s)) (h : LiesS W f vs (row t)) :
    Calls Try.prog 5 #[.agg zs.toArray, .agg vs.toArray] W fun e w' => e = .returned (.bool true) ∧ Below W.heap.size W w' := by
  obtain ⟨u0, u1, u2, u3, u4, u5, rfl⟩ := six_of (g.1.trans (row_length s))
  obtain ⟨v0, v1, v2, v3, v4, v5, rfl⟩ := six_of (h.1.trans (row_length t))
  obtain ⟨w1, hw1⟩ : ∃ x, x = (W.alloc (.cells #[u0, u1, u2, u3, u4, u5] 25)).alloc (.cells #[v0, v1, v2, v3, v4, v5] 25) := ⟨_, rfl⟩
  have hb1 : Below W.heap.size W w1 := by subst hw1; exact ((Below.refl _ _).alloc (Nat.le_refl _) _).alloc (by simp) _
  have hp : Row6 w1 W.heap.size u0 u1 u2 u3 u4 u5 := by subst hw1; exact Row6.below (Row6.of (heap_alloc_new W _)) ((Below.refl _ _).alloc (Nat.le_refl _) _)
  have hq : Row6 w1 (W.heap.size + 1) v0 v1 v2 v3 v4 v5 := by
    subst hw1
    have h := Row6.of (heap_alloc_new (W.alloc (.cells #[u0, u1, u2, u3, u4, u5] 25)) (.cells #[v0, v1, v2, v3, v4, v5] 25))
    rw [World.size_alloc] at h
    exact h
  have Hw1 := Lib.hid hw1
  have Hb1 := Lib.hid hb1
  have ARG := Lib.hid hp
  have BRG := Lib.hid hq
  have Gl := Lib.hid (g.below hb1)
  have Hl := Lib.hid (h.below hb1)
  have BB := Lib.hid (Below.refl w1.heap.size w1)
  have S0 := Lib.hid (show W.heap.size + 1 < w1.heap.size by subst hw1; simp)
  clear g h hb1 hp hq hw1
  have GZ := Lib.hid (sz_tree s _ 1048576 w1 Gl.out ⟨by decide, by decide⟩)
  by_cases gw : (1048576 : Int) < weight s
  · rw [cut_no gw] at GZ
    obtain ⟨p0, p1, p2, p3, p4, p5⟩ := ARG.out
    rw [Hw1.out] at p0 p1 p2 p3 p4 p5
    go_enter Try.func5, Try.ntmps5
    go_wp2_with fail
    rw [← Hw1.out]
    refine GZ.out.mono ?_
    rintro e w2 ⟨rfl, hb2⟩
    have Hb2 := Lib.hid (below_link Hb1.out hb2 Hb1.out.size)
    clear hb2 p0 p1 p2 p3 p4 p5
    go_wp2_with fail
    go_ret
    exact ⟨rfl, Hb2.out⟩
  rw [cut_yes gw] at GZ
  have gwn : weight s ≤ 1048576 := by omega
  have gleft : ¬ (1048576 - (weight s : Int)) < 0 := by omega
  have HZ := Lib.hid (fun w' (hb : Below w1.heap.size w1 w') => sz_tree t _ (1048576 - (weight s : Int)) w' (Hl.out.below hb) ⟨by omega, by omega⟩)
  by_cases hw : (1048576 - (weight s : Int)) < weight t
  · rw [cut_no hw] at HZ
    obtain ⟨p0, p1, p2, p3, p4, p5⟩ := ARG.out
    rw [Hw1.out] at p0 p1 p2 p3 p4 p5
    clear hw
    generalize (1048576 - (weight s : Int)) = left at GZ HZ gleft
    go_enter Try.func5, Try.ntmps5
    go_wp2_with fail
    rw [← Hw1.out]
    refine GZ.out.mono ?_
    rintro e w2 ⟨rfl, hb2⟩
    have Hb2 := Lib.hid (below_link Hb1.out hb2 Hb1.out.size)
    have BB2 := Lib.hid hb2
    obtain ⟨q0, q1, q2, q3, q4, q5⟩ := BRG.out.below hb2
    clear hb2 p0 p1 p2 p3 p4 p5
    go_wp2_with fail
    refine (HZ.out w2 BB2.out).mono ?_
    rintro e w3 ⟨rfl, hb3⟩
    have Hb3 := Lib.hid (below_link Hb2.out hb3 Hb2.out.size)
    clear hb3 q0 q1 q2 q3 q4 q5
    go_wp2_with fail
    go_ret
    exact ⟨rfl, Hb3.out⟩
  rw [cut_yes hw] at HZ
  have hwn : weight t ≤ 1048576 := by omega
  have hleft : ¬ (1048576 - (weight s : Int) - (weight t : Int)) < 0 := by omega
  have gsn : size s ≤ 1099511627776 := by have := size_le_weight s; omega
  have GT := Lib.hid (fun w (hl : LiesS w e [u0, u1, u2, u3, u4, u5] (row s)) => to_tree s _ w hl gwn)
  have HT := Lib.hid (fun w (hl : LiesS w f [v0, v1, v2, v3, v4, v5] (row t)) => to_tree t _ w hl hwn)
  have HS := Lib.hid (fun f f' us xs w (h1 : LiesS w f us (row s)) (h2 : LiesS w f' xs (row t)) => spec_same (max f f') s t us xs w (h1.deeper (Nat.le_max_left f f')) (h2.deeper (Nat.le_max_right f f')))
  have HI := Lib.hid (fun f f' us xs w (h1 : LiesS w f us (row s)) (h2 : LiesS w f' xs (row t)) => impl_same f f' s t us xs w h1 h2 gsn)
  have GE := Lib.hid (fun f f' us xs w (h1 : LiesS w f us (row s)) (h2 : LiesS w f' xs (row s)) => eq_tree s us xs w (h1.deeper (Nat.le_max_left f f')) (h2.deeper (Nat.le_max_right f f')))
  have HE := Lib.hid (fun f f' us xs w (h1 : LiesS w f us (row t)) (h2 : LiesS w f' xs (row t)) => eq_tree t us xs w (h1.deeper (Nat.le_max_left f f')) (h2.deeper (Nat.le_max_right f f')))
  clear hw hwn gw gwn gsn
  generalize same s t = R at HS HI
  generalize (1048576 - (weight s : Int) - (weight t : Int)) = left2 at HZ hleft
  generalize (1048576 - (weight s : Int)) = left at GZ HZ gleft
  go_enter Try.func5, Try.ntmps5
  obtain ⟨argc0, argc1, argc2, argc3, argc4, argc5⟩ := (ARG.out.below BB.out)
  rw [Hw1.out] at argc0 argc1 argc2 argc3 argc4 argc5
  go_wp2_with fail
  rw [← Hw1.out]
  refine (GZ.out).mono ?_
  rintro e w2 ⟨rfl, hb1⟩
  have BB_2 := Lib.hid (below_link BB.out hb1 BB.out.size)
  clear BB
  have BB := BB_2
  clear BB_2
  have S3 := Lib.hid (show w1.heap.size ≤ w2.heap.size from hb1.size)
  clear argc0 argc1 argc2 argc3 argc4 argc5 hb1
  obtain ⟨brgc0, brgc1, brgc2, brgc3, brgc4, brgc5⟩ := (BRG.out.below BB.out)
  go_wp2_with fail
  refine (HZ.out _ BB.out).mono ?_
  rintro e w3 ⟨rfl, hb4⟩
  have BB_5 := Lib.hid (below_link BB.out hb4 BB.out.size)
  clear BB
  have BB := BB_5
  clear BB_5
  have S6 := Lib.hid (show w2.heap.size ≤ w3.heap.size from hb4.size)
  clear brgc0 brgc1 brgc2 brgc3 brgc4 brgc5 hb4
  go_wp2_with fail
  have KS := Lib.hid (show ∀ w', Below w1.heap.size w1 w' → Below w1.heap.size w1 w' ∧ w'.cell? ⟨W.heap.size, 0, none⟩ = some u0 ∧ w'.cell? ⟨W.heap.size, 1, none⟩ = some u1 ∧ w'.cell? ⟨W.heap.size, 2, none⟩ = some u2 ∧ w'.cell? ⟨W.heap.size, 3, none⟩ = some u3 ∧ w'.cell? ⟨W.heap.size, 4, none⟩ = some u4 ∧ w'.cell? ⟨W.heap.size, 5, none⟩ = some u5 ∧ w'.cell? ⟨W.heap.size + 1, 0, none⟩ = some v0 ∧ w'.cell? ⟨W.heap.size + 1, 1, none⟩ = some v1 ∧ w'.cell? ⟨W.heap.size + 1, 2, none⟩ = some v2 ∧ w'.cell? ⟨W.heap.size + 1, 3, none⟩ = some v3 ∧ w'.cell? ⟨W.heap.size + 1, 4, none⟩ = some v4 ∧ w'.cell? ⟨W.heap.size + 1, 5, none⟩ = some v5 from fun w' hb => by
    obtain ⟨p0, p1, p2, p3, p4, p5⟩ := ARG.out.below hb
    obtain ⟨q0, q1, q2, q3, q4, q5⟩ := BRG.out.below hb
    exact ⟨hb, p0, p1, p2, p3, p4, p5, q0, q1, q2, q3, q4, q5⟩)
  have B0 := Lib.hid (BB.out.trans ((Below.refl _ _).drew.mono BB.out.size))
  refine wp_region_held_drew (S := (fun w' => Below w1.heap.size w1 w' ∧ w'.cell? ⟨W.heap.size, 0, none⟩ = some u0 ∧ w'.cell? ⟨W.heap.size, 1, none⟩ = some u1 ∧ w'.cell? ⟨W.heap.size, 2, none⟩ = some u2 ∧ w'.cell? ⟨W.heap.size, 3, none⟩ = some u3 ∧ w'.cell? ⟨W.heap.size, 4, none⟩ = some u4 ∧ w'.cell? ⟨W.heap.size, 5, none⟩ = some u5 ∧ w'.cell? ⟨W.heap.size + 1, 0, none⟩ = some v0 ∧ w'.cell? ⟨W.heap.size + 1, 1, none⟩ = some v1 ∧ w'.cell? ⟨W.heap.size + 1, 2, none⟩ = some v2 ∧ w'.cell? ⟨W.heap.size + 1, 3, none⟩ = some v3 ∧ w'.cell? ⟨W.heap.size + 1, 4, none⟩ = some v4 ∧ w'.cell? ⟨W.heap.size + 1, 5, none⟩ = some v5)) (by kernel_rfl) ?_ (fun hHeld => ?_)
  · first | exact KS.out _ hxC | exact KS.out _ hxB | exact KS.out _ hxA | exact KS.out _ B0.out
  refine wpAnyH_take (i := 0) (v := ?_) rfl (by kernel_rfl) (by kernel_rfl) (by kernel_rfl) (fun _ _ _ h => h) (Or.inl ⟨by rfl, ?_⟩) (by assumption) ?_
  rotate_left
  · intro w' hSw
    try dsimp only at hSw
    go_simp
    try with_reducible rfl
  try simp only [Act.put, List.setIfInBounds_toArray, List.set_cons_zero, List.set_cons_succ, List.getElem_toArray, List.getElem_cons_zero, List.getElem_cons_succ]
  refine wpAnyH_take (i := 2) (v := ?_) rfl (by kernel_rfl) (by kernel_rfl) (by kernel_rfl) (fun _ _ _ h => h) (Or.inl ⟨by rfl, ?_⟩) (by assumption) ?_
  rotate_left
  · intro w' hSw
    try dsimp only at hSw
    go_simp
    try with_reducible rfl
  try simp only [Act.put, List.setIfInBounds_toArray, List.set_cons_zero, List.set_cons_succ, List.getElem_toArray, List.getElem_cons_zero, List.getElem_cons_succ]
  refine wpAnyH_ready (rs := [1]) (by kernel_rfl) (by simp) ?_
  refine AllReadyH.cons rfl (fun K hK => ?_) ?_
  · go_simp
    go_at_call 13
    refine (GT.out _ (Gl.out.below hHeld.1)).mono ?_
    rintro e wA ⟨⟨usA, FA, rfl, hoA, _⟩, hbA⟩
    have hxA := below_link hHeld.1 hbA hHeld.1.size
    refine hK.out _ _ ?_ (fun hHeld => ?_)
    · first | exact KS.out _ hxC | exact KS.out _ hxB | exact KS.out _ hxA | exact KS.out _ B0.out
    clear hK K
    try simp only [Act.put, List.setIfInBounds_toArray, List.set_cons_zero, List.set_cons_succ, List.getElem_toArray, List.getElem_cons_zero, List.getElem_cons_succ]
    refine wpAnyH_ready (rs := [3]) (by kernel_rfl) (by simp) ?_
    refine AllReadyH.cons rfl (fun K hK => ?_) ?_
    · go_simp
      go_at_call 13
      refine (HT.out _ (Hl.out.below hHeld.1)).mono ?_
      rintro e wB ⟨⟨usB, FB, rfl, hoB, _⟩, hbB⟩
      have hxB := below_link hHeld.1 hbB hHeld.1.size
      refine hK.out _ _ ?_ (fun hHeld => ?_)
      · first | exact KS.out _ hxC | exact KS.out _ hxB | exact KS.out _ hxA | exact KS.out _ B0.out
      clear hK K
      try simp only [Act.put, List.setIfInBounds_toArray, List.set_cons_zero, List.set_cons_succ, List.getElem_toArray, List.getElem_cons_zero, List.getElem_cons_succ]
      refine wpAnyH_ready (rs := [4]) (by kernel_rfl) (by simp) ?_
      refine AllReadyH.cons rfl (fun K hK => ?_) ?_
      · go_simp
        go_at_call 18
        refine (HS.out _ _ _ _ _ (hoA.lies.below hbB) hoB.lies).mono ?_
        rintro e w4 ⟨rfl, hbC⟩
        have hxC := below_link hHeld.1 hbC hHeld.1.size
        refine hK.out _ _ ?_ (fun hHeld => ?_)
        · first | exact KS.out _ hxC | exact KS.out _ hxB | exact KS.out _ hxA | exact KS.out _ B0.out
        clear hK K
        try simp only [Act.put, List.setIfInBounds_toArray, List.set_cons_zero, List.set_cons_succ, List.getElem_toArray, List.getElem_cons_zero, List.getElem_cons_succ]
        refine wpAnyH_take (i := 5) (v := ?_) rfl (by kernel_rfl) (by kernel_rfl) (by kernel_rfl) (fun _ _ _ h => h) (Or.inl ⟨by rfl, ?_⟩) (by assumption) ?_
        rotate_left
        · intro w' hSw
          try dsimp only at hSw
          go_simp
          try with_reducible rfl
        try simp only [Act.put, List.setIfInBounds_toArray, List.set_cons_zero, List.set_cons_succ, List.getElem_toArray, List.getElem_cons_zero, List.getElem_cons_succ]
        refine wpAnyH_done (by kernel_rfl) ?_ _
        have BBn := Lib.hid hHeld.1
        have S1 := Lib.hid (show W.heap.size + 1 < w4.heap.size by have := S0.out; have := hHeld.1.size; omega)
        clear BB hHeld hbA hbB hbC hxA hxB hxC hoA hoB KS B0
        have BB := BBn
        clear BBn
        obtain ⟨argc0, argc1, argc2, argc3, argc4, argc5⟩ := (ARG.out.below BB.out)
        go_wp2_with fail
        refine (GT.out _ (Gl.out.below BB.out)).mono ?_
        rintro e w5 ⟨⟨xus, xF, rfl, xho, xhn⟩, hb7⟩
        have BB_8 := Lib.hid (below_link BB.out hb7 BB.out.size)
        clear BB
        have BB := BB_8
        clear BB_8
        have S9 := Lib.hid (show w4.heap.size ≤ w5.heap.size from hb7.size)
        clear argc0 argc1 argc2 argc3 argc4 argc5 hb7
        obtain ⟨x0, x1, x2, x3, x4, x5, rfl⟩ := six_of (xho.1.trans (row_length _))
        have xone := Lib.hid xho.one
        have xR := Lib.hid (show ∀ x ∈ xF, w4.heap.size ≤ x ∧ x < w5.heap.size from xho.range)
        have xN := Lib.hid xhn
        have x_10 := Lib.hid xho
        clear xho xhn
        obtain ⟨w6, hw6⟩ : ∃ x, x = w5.alloc (.cells #[x0, x1, x2, x3, x4, x5] 30) := ⟨_, rfl⟩
        have hb11 : Below w5.heap.size w5 w6 := by subst hw6; exact (Below.refl _ _).alloc (Nat.le_refl _) _
        have S12 := Lib.hid (show w5.heap.size < w6.heap.size by subst hw6; simp)
        have row_13 := Lib.hid (show Row6 w6 w5.heap.size x0 x1 x2 x3 x4 x5 by subst hw6; exact Row6.of (heap_alloc_new w5 _))
        have Hw6 := Lib.hid hw6
        clear hw6
        have x_14 := Lib.hid (x_10.out.below hb11)
        have BB_15 := Lib.hid (below_link BB.out hb11 BB.out.size)
        clear BB
        have BB := BB_15
        clear BB_15
        have S16 := Lib.hid (show w5.heap.size ≤ w6.heap.size from hb11.size)
        clear x_10 hb11
        have xhone := xone.out
        obtain ⟨brgc0, brgc1, brgc2, brgc3, brgc4, brgc5⟩ := (BRG.out.below BB.out)
        rw [Hw6.out] at brgc0 brgc1 brgc2 brgc3 brgc4 brgc5
        go_wp2_with (first | (refine wpList_store_row rfl 30 _ _ rfl w5.heap.size #[x0, x1, x2, x3, x4, x5] rfl rfl 30 _ (heap_alloc_new w5 _) tree_size rfl xhone ?_; rw [World.setRow_alloc_new]) | fail)
        rw [← Hw6.out]
        refine (HT.out _ (Hl.out.below BB.out)).mono ?_
        rintro e w7 ⟨⟨yus, yF, rfl, yho, yhn⟩, hb17⟩
        have x_18 := Lib.hid (row_13.out.below hb17)
        have x_19 := Lib.hid (x_14.out.below hb17)
        have BB_20 := Lib.hid (below_link BB.out hb17 BB.out.size)
        clear BB
        have BB := BB_20
        clear BB_20
        have S21 := Lib.hid (show w6.heap.size ≤ w7.heap.size from hb17.size)
        clear row_13 x_14 brgc0 brgc1 brgc2 brgc3 brgc4 brgc5 hb17
        obtain ⟨y0, y1, y2, y3, y4, y5, rfl⟩ := six_of (yho.1.trans (row_length _))
        have yone := Lib.hid yho.one
        have yR := Lib.hid (show ∀ x ∈ yF, w6.heap.size ≤ x ∧ x < w7.heap.size from yho.range)
        have yN := Lib.hid yhn
        have y_22 := Lib.hid yho
        clear yho yhn
        obtain ⟨w8, hw8⟩ : ∃ x, x = w7.alloc (.cells #[y0, y1, y2, y3, y4, y5] 30) := ⟨_, rfl⟩
        have hb23 : Below w7.heap.size w7 w8 := by subst hw8; exact (Below.refl _ _).alloc (Nat.le_refl _) _
        have S24 := Lib.hid (show w7.heap.size < w8.heap.size by subst hw8; simp)
        have row_25 := Lib.hid (show Row6 w8 w7.heap.size y0 y1 y2 y3 y4 y5 by subst hw8; exact Row6.of (heap_alloc_new w7 _))
        have Hw8 := Lib.hid hw8
        clear hw8
        have x_26 := Lib.hid (x_18.out.below hb23)
        have x_27 := Lib.hid (x_19.out.below hb23)
        have y_28 := Lib.hid (y_22.out.below hb23)
        have BB_29 := Lib.hid (below_link BB.out hb23 BB.out.size)
        clear BB
        have BB := BB_29
        clear BB_29
        have S30 := Lib.hid (show w7.heap.size ≤ w8.heap.size from hb23.size)
        clear x_18 x_19 y_22 hb23
        have yhone := yone.out
        obtain ⟨xc0, xc1, xc2, xc3, xc4, xc5⟩ := x_26.out
        rw [Hw8.out] at xc0 xc1 xc2 xc3 xc4 xc5
        obtain ⟨yc0, yc1, yc2, yc3, yc4, yc5⟩ := row_25.out
        rw [Hw8.out] at yc0 yc1 yc2 yc3 yc4 yc5
        go_wp2_with (first | (refine wpList_store_row rfl 30 _ _ rfl w7.heap.size #[y0, y1, y2, y3, y4, y5] rfl rfl 30 _ (heap_alloc_new w7 _) tree_size rfl yhone ?_; rw [World.setRow_alloc_new]) | fail)
        rw [← Hw8.out]
        refine (HI.out _ _ _ _ _ x_27.out.lies y_28.out.lies).mono ?_
        rintro e w9 ⟨rfl, hb31⟩
        have x_32 := Lib.hid (x_26.out.below hb31)
        have y_33 := Lib.hid (row_25.out.below hb31)
        have x_34 := Lib.hid (x_27.out.below hb31)
        have y_35 := Lib.hid (y_28.out.below hb31)
        have BB_36 := Lib.hid (below_link BB.out hb31 BB.out.size)
        clear BB
        have BB := BB_36
        clear BB_36
        have S37 := Lib.hid (show w8.heap.size ≤ w9.heap.size from hb31.size)
        clear x_26 row_25 x_27 y_28 xc0 xc1 xc2 xc3 xc4 xc5 yc0 yc1 yc2 yc3 yc4 yc5 hb31
        obtain ⟨xc0, xc1, xc2, xc3, xc4, xc5⟩ := x_32.out
        obtain ⟨argc0, argc1, argc2, argc3, argc4, argc5⟩ := (ARG.out.below BB.out)
        go_wp2_with fail
        go_region_law (go_simp; first | (go_at_call 13; refine (GT.out _ ((Gl.out.below BB.out).below (Below.refl _ _).drew)).mono ?_; rintro e m38 ⟨⟨usm38, Fm38, rfl, hom38, _⟩, hb39⟩; obtain ⟨qm380, qm381, qm382, qm383, qm384, qm385⟩ := (Row6.below (w := w9.drew) (w' := m38) x_32.out hb39)) | (go_at_call 15; refine (GE.out _ _ _ _ _ (x_34.out.lies.below ((Below.refl _ _).drew.trans (hb39.mono (Nat.le_refl _)))) hom38.lies).mono ?_; rintro e w10 ⟨rfl, hb41⟩))
        all_goals
          have hb40 : Below w9.heap.size w9 w10 := below_link ((Below.refl _ _).drew.trans (hb39.mono (Nat.le_refl _))) hb41 hb39.size
          clear hom38 hb39 hb41 qm380 qm381 qm382 qm383 qm384 qm385
          have x_42 := Lib.hid (x_32.out.below hb40)
          have y_43 := Lib.hid (y_33.out.below hb40)
          have x_44 := Lib.hid (x_34.out.below hb40)
          have y_45 := Lib.hid (y_35.out.below hb40)
          have BB_46 := Lib.hid (below_link BB.out hb40 BB.out.size)
          clear BB
          have BB := BB_46
          clear BB_46
          have S47 := Lib.hid (show w9.heap.size ≤ w10.heap.size from hb40.size)
          clear x_32 y_33 x_34 y_35 xc0 xc1 xc2 xc3 xc4 xc5 argc0 argc1 argc2 argc3 argc4 argc5 hb40
          obtain ⟨yc0, yc1, yc2, yc3, yc4, yc5⟩ := y_43.out
          obtain ⟨brgc0, brgc1, brgc2, brgc3, brgc4, brgc5⟩ := (BRG.out.below BB.out)
          go_wp2_with fail
          go_region_law (go_simp; first | (go_at_call 13; refine (HT.out _ ((Hl.out.below BB.out).below (Below.refl _ _).drew)).mono ?_; rintro e m48 ⟨⟨usm48, Fm48, rfl, hom48, _⟩, hb49⟩; obtain ⟨qm480, qm481, qm482, qm483, qm484, qm485⟩ := (Row6.below (w := w10.drew) (w' := m48) y_43.out hb49)) | (go_at_call 15; refine (HE.out _ _ _ _ _ (y_45.out.lies.below ((Below.refl _ _).drew.trans (hb49.mono (Nat.le_refl _)))) hom48.lies).mono ?_; rintro e w11 ⟨rfl, hb51⟩))
          all_goals
            have hb50 : Below w10.heap.size w10 w11 := below_link ((Below.refl _ _).drew.trans (hb49.mono (Nat.le_refl _))) hb51 hb49.size
            clear hom48 hb49 hb51 qm480 qm481 qm482 qm483 qm484 qm485
            have x_52 := Lib.hid (x_42.out.below hb50)
            have y_53 := Lib.hid (y_43.out.below hb50)
            have x_54 := Lib.hid (x_44.out.below hb50)
            have y_55 := Lib.hid (y_45.out.below hb50)
            have BB_56 := Lib.hid (below_link BB.out hb50 BB.out.size)
            clear BB
            have BB := BB_56
            clear BB_56
            have S57 := Lib.hid (show w10.heap.size ≤ w11.heap.size from hb50.size)
            clear x_42 y_43 x_44 y_45 yc0 yc1 yc2 yc3 yc4 yc5 brgc0 brgc1 brgc2 brgc3 brgc4 brgc5 hb50
            go_wp2_with fail
            go_ret
            exact ⟨rfl, below_link Hb1.out BB.out Hb1.out.size⟩
      exact AllReadyH.nil
    exact AllReadyH.nil
  exact AllReadyH.nil
end Go.Proofs.Ytmldigfghiofkaa.fnExactSameTree
