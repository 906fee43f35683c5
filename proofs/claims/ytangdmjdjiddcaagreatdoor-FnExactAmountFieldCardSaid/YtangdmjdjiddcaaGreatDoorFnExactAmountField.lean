/- FnExactAmountField: the law returns true at every argument. Printed by gen/gen_fieldlaw.py. -/
import Derived.Test.YtangdmjdjiddcaaGreatDoorGA3
import Derived.Test.YtangdmjdjiddcaaGreatDoorGA4
import Derived.Test.YtangdmjdjiddcaaGreatDoorGA5
import Derived.Test.YtangdmjdjiddcaaGreatDoorEqFault
import Derived.Test.YtangdmjdjiddcaaGreatDoorAmountFS
import Derived.Test.YtangdmjdjiddcaaGreatDoorAmountFI
namespace Go.Proofs.YtangdmjdjiddcaaGreatDoor.fnExactAmountField
open Go.ChangeShapes Go.WideShapes Go.ChangeAt Go.RowKit
open tree field
set_option linter.unusedVariables false

set_option maxRecDepth 100000 in
set_option maxHeartbeats 16000000 in
theorem walk (t : T) (f : Nat) (vs : List Value) (p k : ByteArray) (W : World) (h : LiesS W f vs (row t)) (hp : p.size ≤ maxLen) (hk : k.size ≤ maxLen) (hE : ET W) (hPw : decimal.Pow W) (hRg : readnum.ErrVar W "strconv.ErrRange") (hSx : readnum.ErrVar W "strconv.ErrSyntax") :
    Calls Tryz.prog 4 #[.agg vs.toArray, .string p, .string k] W fun e w' => e = .returned (.bool true) ∧ Below W.heap.size W w' := by
  unfold maxLen at hp hk
  obtain ⟨u0, u1, u2, u3, u4, u5, rfl⟩ := six_of (h.1.trans (row_length t))
  obtain ⟨w1, hw1⟩ : ∃ x, x = W.alloc (.cells #[u0, u1, u2, u3, u4, u5] 43) := ⟨_, rfl⟩
  have hb1 : Below W.heap.size W w1 := by subst hw1; exact (Below.refl _ _).alloc (Nat.le_refl _) _
  have hrow : Row6 w1 W.heap.size u0 u1 u2 u3 u4 u5 := by subst hw1; exact Row6.of (heap_alloc_new W _)
  have Hw1 := Lib.hid hw1
  have Hb1 := Lib.hid hb1
  have ARG := Lib.hid hrow
  have Hl := Lib.hid (h.below hb1)
  have BB := Lib.hid (Below.refl w1.heap.size w1)
  have S0 := Lib.hid (show W.heap.size < w1.heap.size by subst hw1; simp)
  have HET := Lib.hid (hE.below hb1)
  have HPW := Lib.hid (hPw.below hb1)
  have HRG := Lib.hid (hRg.below hb1)
  have HSX := Lib.hid (hSx.below hb1)
  clear h hb1 hrow hw1 hE hPw hRg hSx
  by_cases hp1 : 1048576 < p.size
  · go_enter Tryz.func4, Tryz.ntmps4
    go_wp2_with fail
    rw [← Hw1.out]
    go_ret
    exact ⟨rfl, Hb1.out⟩
  by_cases hk1 : 1048576 < k.size
  · go_enter Tryz.func4, Tryz.ntmps4
    go_wp2_with fail
    rw [← Hw1.out]
    go_ret
    exact ⟨rfl, Hb1.out⟩
  have HZ := Lib.hid (sz_tree t _ 1048576 w1 Hl.out ⟨by decide, by decide⟩)
  by_cases hw : (1048576 : Int) < weight t
  · rw [cut_no hw] at HZ
    obtain ⟨p0, p1, p2, p3, p4, p5⟩ := ARG.out
    rw [Hw1.out] at p0 p1 p2 p3 p4 p5
    go_enter Tryz.func4, Tryz.ntmps4
    go_wp2_with fail
    rw [← Hw1.out]
    refine HZ.out.mono ?_
    rintro e w2 ⟨rfl, hb2⟩
    have Hb2 := Lib.hid (below_link Hb1.out hb2 Hb1.out.size)
    clear hb2 p0 p1 p2 p3 p4 p5
    go_wp2_with fail
    go_ret
    exact ⟨rfl, Hb2.out⟩
  rw [cut_yes hw] at HZ
  have hwn : weight t ≤ 1048576 := by omega
  have hps : p.size ≤ 1048576 := by omega
  have hks : k.size ≤ 1048576 := by omega
  have hleft : ¬ (1048576 - (weight t : Int)) < 0 := by omega
  have HT := Lib.hid (fun w (hl : LiesS w f [u0, u1, u2, u3, u4, u5] (row t)) => to_tree t _ w hl hwn)
  have HS := Lib.hid (fun f us w (hl : LiesS w f us (row t)) => spec_amount t p k us w hl hwn hps hks)
  have HI := Lib.hid (fun f us w (hl : LiesS w f us (row t)) (hE : ET w) (hPw : decimal.Pow w) (hRg : readnum.ErrVar w "strconv.ErrRange") (hSx : readnum.ErrVar w "strconv.ErrSyntax") => impl_amount t p k us w hl hwn hps hks hE hPw hRg hSx)
  generalize amountF t p k = R at HS HI
  obtain ⟨sv, cv, qv⟩ := R
  simp only [fv] at HS HI
  have HE := Lib.hid (fun f f' us xs w (h1 : LiesS w f us (row t)) (h2 : LiesS w f' xs (row t)) => eq_tree t us xs w (h1.deeper (Nat.le_max_left f f')) (h2.deeper (Nat.le_max_right f f')))
  have HF := Lib.hid (fun w => eq_fault cv qv w)
  clear hw hwn hps hks
  generalize (1048576 - (weight t : Int)) = left at HZ hleft
  go_enter Tryz.func4, Tryz.ntmps4
  obtain ⟨argc0, argc1, argc2, argc3, argc4, argc5⟩ := (ARG.out.below BB.out)
  rw [Hw1.out] at argc0 argc1 argc2 argc3 argc4 argc5
  go_wp2_with fail
  rw [← Hw1.out]
  refine (HZ.out).mono ?_
  rintro e w2 ⟨rfl, hb1⟩
  have BB_2 := Lib.hid (below_link BB.out hb1 BB.out.size)
  clear BB
  have BB := BB_2
  clear BB_2
  have S3 := Lib.hid (show w1.heap.size ≤ w2.heap.size from hb1.size)
  clear argc0 argc1 argc2 argc3 argc4 argc5 hb1
  obtain ⟨argc0, argc1, argc2, argc3, argc4, argc5⟩ := (ARG.out.below BB.out)
  go_wp2_with fail
  refine (HT.out _ (Hl.out.below BB.out)).mono ?_
  rintro e w3 ⟨⟨xus, xF, rfl, xho, xhn⟩, hb4⟩
  have BB_5 := Lib.hid (below_link BB.out hb4 BB.out.size)
  clear BB
  have BB := BB_5
  clear BB_5
  have S6 := Lib.hid (show w2.heap.size ≤ w3.heap.size from hb4.size)
  clear argc0 argc1 argc2 argc3 argc4 argc5 hb4
  obtain ⟨x0, x1, x2, x3, x4, x5, rfl⟩ := six_of (xho.1.trans (row_length _))
  have xone := Lib.hid xho.one
  have xR := Lib.hid (show ∀ x ∈ xF, w2.heap.size ≤ x ∧ x < w3.heap.size from xho.range)
  have xN := Lib.hid xhn
  have x_7 := Lib.hid xho
  clear xho xhn
  go_wp2_with fail
  refine (HS.out _ _ _ x_7.out.lies).mono ?_
  rintro e w4 ⟨rfl, hb8⟩
  have x_9 := Lib.hid (x_7.out.below hb8)
  have BB_10 := Lib.hid (below_link BB.out hb8 BB.out.size)
  clear BB
  have BB := BB_10
  clear BB_10
  have S11 := Lib.hid (show w3.heap.size ≤ w4.heap.size from hb8.size)
  clear x_7 hb8
  clear x_9
  obtain ⟨w5, hw5⟩ : ∃ x, x = w4.alloc (.cells #[.int .i64 cv, .int .i64 0, .string qv] 31) := ⟨_, rfl⟩
  have hb12 : Below w4.heap.size w4 w5 := by subst hw5; exact (Below.refl _ _).alloc (Nat.le_refl _) _
  have S13 := Lib.hid (show w4.heap.size < w5.heap.size by subst hw5; simp)
  have flta_14 := Lib.hid (show RowE 31 w5 w4.heap.size [.int .i64 cv, .int .i64 0, .string qv] by subst hw5; exact RowE.new _ _ _)
  have Hw5 := Lib.hid hw5
  clear hw5
  have BB_15 := Lib.hid (below_link BB.out hb12 BB.out.size)
  clear BB
  have BB := BB_15
  clear BB_15
  have S16 := Lib.hid (show w4.heap.size ≤ w5.heap.size from hb12.size)
  clear  hb12
  obtain ⟨argc0, argc1, argc2, argc3, argc4, argc5⟩ := (ARG.out.below BB.out)
  rw [Hw5.out] at argc0 argc1 argc2 argc3 argc4 argc5
  go_wp2_with (first | (refine wpList_store_row rfl 31 _ _ rfl w4.heap.size #[.int .i64 cv, .int .i64 0, .string qv] rfl rfl 31 _ (heap_alloc_new w4 _) sizeFault rfl (by simp [Value.oneCell']) ?_; rw [World.setRow_alloc_new]) | fail)
  rw [← Hw5.out]
  refine (HT.out _ (Hl.out.below BB.out)).mono ?_
  rintro e w6 ⟨⟨bus, bF, rfl, bho, bhn⟩, hb17⟩
  have flta_18 := Lib.hid (flta_14.out.below hb17)
  have BB_19 := Lib.hid (below_link BB.out hb17 BB.out.size)
  clear BB
  have BB := BB_19
  clear BB_19
  have S20 := Lib.hid (show w5.heap.size ≤ w6.heap.size from hb17.size)
  clear flta_14 argc0 argc1 argc2 argc3 argc4 argc5 hb17
  obtain ⟨b0, b1, b2, b3, b4, b5, rfl⟩ := six_of (bho.1.trans (row_length _))
  have bone := Lib.hid bho.one
  have bR := Lib.hid (show ∀ x ∈ bF, w5.heap.size ≤ x ∧ x < w6.heap.size from bho.range)
  have bN := Lib.hid bhn
  have b_21 := Lib.hid bho
  clear bho bhn
  obtain ⟨w7, hw7⟩ : ∃ x, x = w6.alloc (.cells #[b0, b1, b2, b3, b4, b5] 27) := ⟨_, rfl⟩
  have hb22 : Below w6.heap.size w6 w7 := by subst hw7; exact (Below.refl _ _).alloc (Nat.le_refl _) _
  have S23 := Lib.hid (show w6.heap.size < w7.heap.size by subst hw7; simp)
  have row_24 := Lib.hid (show Row6 w7 w6.heap.size b0 b1 b2 b3 b4 b5 by subst hw7; exact Row6.of (heap_alloc_new w6 _))
  have Hw7 := Lib.hid hw7
  clear hw7
  have flta_25 := Lib.hid (flta_18.out.below hb22)
  have b_26 := Lib.hid (b_21.out.below hb22)
  have BB_27 := Lib.hid (below_link BB.out hb22 BB.out.size)
  clear BB
  have BB := BB_27
  clear BB_27
  have S28 := Lib.hid (show w6.heap.size ≤ w7.heap.size from hb22.size)
  clear flta_18 b_21 hb22
  have bhone := bone.out
  obtain ⟨bc0, bc1, bc2, bc3, bc4, bc5⟩ := row_24.out
  rw [Hw7.out] at bc0 bc1 bc2 bc3 bc4 bc5
  go_wp2_with (first | (refine wpList_store_row rfl 27 _ _ rfl w6.heap.size #[b0, b1, b2, b3, b4, b5] rfl rfl 27 _ (heap_alloc_new w6 _) tree_size rfl bhone ?_; rw [World.setRow_alloc_new]) | fail)
  rw [← Hw7.out]
  refine (HI.out _ _ _ b_26.out.lies (HET.out.below BB.out) (HPW.out.below BB.out) (HRG.out.below BB.out) (HSX.out.below BB.out)).mono ?_
  rintro e w8 ⟨rfl, hb29⟩
  have flta_30 := Lib.hid (flta_25.out.below hb29)
  have b_31 := Lib.hid (row_24.out.below hb29)
  have b_32 := Lib.hid (b_26.out.below hb29)
  have BB_33 := Lib.hid (below_link BB.out hb29 BB.out.size)
  clear BB
  have BB := BB_33
  clear BB_33
  have S34 := Lib.hid (show w7.heap.size ≤ w8.heap.size from hb29.size)
  clear flta_25 row_24 b_26 bc0 bc1 bc2 bc3 bc4 bc5 hb29
  obtain ⟨w9, hw9⟩ : ∃ x, x = w8.alloc (.cells #[.int .i64 cv, .int .i64 0, .string qv] 31) := ⟨_, rfl⟩
  have hb35 : Below w8.heap.size w8 w9 := by subst hw9; exact (Below.refl _ _).alloc (Nat.le_refl _) _
  have S36 := Lib.hid (show w8.heap.size < w9.heap.size by subst hw9; simp)
  have fltg_37 := Lib.hid (show RowE 31 w9 w8.heap.size [.int .i64 cv, .int .i64 0, .string qv] by subst hw9; exact RowE.new _ _ _)
  have Hw9 := Lib.hid hw9
  clear hw9
  have flta_38 := Lib.hid (flta_30.out.below hb35)
  have b_39 := Lib.hid (b_31.out.below hb35)
  have b_40 := Lib.hid (b_32.out.below hb35)
  have BB_41 := Lib.hid (below_link BB.out hb35 BB.out.size)
  clear BB
  have BB := BB_41
  clear BB_41
  have S42 := Lib.hid (show w8.heap.size ≤ w9.heap.size from hb35.size)
  clear flta_30 b_31 b_32 hb35
  have fltgc0 := fltg_37.out.cell 0 _ rfl
  rw [Hw9.out] at fltgc0
  have fltgc1 := fltg_37.out.cell 1 _ rfl
  rw [Hw9.out] at fltgc1
  have fltgc2 := fltg_37.out.cell 2 _ rfl
  rw [Hw9.out] at fltgc2
  have fltac0 := flta_38.out.cell 0 _ rfl
  rw [Hw9.out] at fltac0
  have fltac1 := flta_38.out.cell 1 _ rfl
  rw [Hw9.out] at fltac1
  have fltac2 := flta_38.out.cell 2 _ rfl
  rw [Hw9.out] at fltac2
  go_wp2_with (first | (refine wpList_store_row rfl 31 _ _ rfl w8.heap.size #[.int .i64 cv, .int .i64 0, .string qv] rfl rfl 31 _ (heap_alloc_new w8 _) sizeFault rfl (by simp [Value.oneCell']) ?_; rw [World.setRow_alloc_new]) | fail)
  rw [← Hw9.out]
  refine (HF.out _).mono ?_
  rintro e w10 ⟨rfl, hb43⟩
  have flta_44 := Lib.hid (flta_38.out.below hb43)
  have b_45 := Lib.hid (b_39.out.below hb43)
  have fltg_46 := Lib.hid (fltg_37.out.below hb43)
  have b_47 := Lib.hid (b_40.out.below hb43)
  have BB_48 := Lib.hid (below_link BB.out hb43 BB.out.size)
  clear BB
  have BB := BB_48
  clear BB_48
  have S49 := Lib.hid (show w9.heap.size ≤ w10.heap.size from hb43.size)
  clear flta_38 b_39 fltg_37 b_40 fltgc0 fltgc1 fltgc2 fltac0 fltac1 fltac2 hb43
  obtain ⟨bc0, bc1, bc2, bc3, bc4, bc5⟩ := b_45.out
  obtain ⟨argc0, argc1, argc2, argc3, argc4, argc5⟩ := (ARG.out.below BB.out)
  go_wp2_with fail
  go_region_law (go_simp; first | (go_at_call 17; refine (HT.out _ ((Hl.out.below BB.out).below (Below.refl _ _).drew)).mono ?_; rintro e m50 ⟨⟨usm50, Fm50, rfl, hom50, _⟩, hb51⟩; obtain ⟨qm500, qm501, qm502, qm503, qm504, qm505⟩ := (Row6.below (w := w10.drew) (w' := m50) b_45.out hb51)) | (go_at_call 19; refine (HE.out _ _ _ _ _ (b_47.out.lies.below ((Below.refl _ _).drew.trans (hb51.mono (Nat.le_refl _)))) hom50.lies).mono ?_; rintro e w11 ⟨rfl, hb53⟩))
  all_goals
    have hb52 : Below w10.heap.size w10 w11 := below_link ((Below.refl _ _).drew.trans (hb51.mono (Nat.le_refl _))) hb53 hb51.size
    clear hom50 hb51 hb53 qm500 qm501 qm502 qm503 qm504 qm505
    have flta_54 := Lib.hid (flta_44.out.below hb52)
    have b_55 := Lib.hid (b_45.out.below hb52)
    have fltg_56 := Lib.hid (fltg_46.out.below hb52)
    have b_57 := Lib.hid (b_47.out.below hb52)
    have BB_58 := Lib.hid (below_link BB.out hb52 BB.out.size)
    clear BB
    have BB := BB_58
    clear BB_58
    have S59 := Lib.hid (show w10.heap.size ≤ w11.heap.size from hb52.size)
    clear flta_44 b_45 fltg_46 b_47 bc0 bc1 bc2 bc3 bc4 bc5 argc0 argc1 argc2 argc3 argc4 argc5 hb52
    go_wp2_with fail
    go_ret
    exact ⟨rfl, below_link Hb1.out BB.out Hb1.out.size⟩
end Go.Proofs.YtangdmjdjiddcaaGreatDoor.fnExactAmountField
