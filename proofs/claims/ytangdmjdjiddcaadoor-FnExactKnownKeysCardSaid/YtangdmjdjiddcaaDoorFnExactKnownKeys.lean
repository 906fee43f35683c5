/- FnExactKnownKeys: the law returns true at every argument. Printed by gen/gen_fieldlaw.py. -/
import Derived.Test.YtangdmjdjiddcaaDoorGA3
import Derived.Test.YtangdmjdjiddcaaDoorGA4
import Derived.Test.YtangdmjdjiddcaaDoorGA5
import Derived.Test.YtangdmjdjiddcaaDoorEqFault
import Derived.Test.YtangdmjdjiddcaaDoorKnownS
import Derived.Test.YtangdmjdjiddcaaDoorKnownI
namespace Go.Proofs.YtangdmjdjiddcaaDoor.fnExactKnownKeys
open Go.ChangeShapes Go.WideShapes Go.ChangeAt Go.RowKit
open tree field
set_option linter.unusedVariables false

theorem to_strs (l : List ByteArray) (A : Option Addr) (c : Nat) (w : World) (hl : l.length ≤ 1048576) (h : Rd w A l.length (scells l)) :
    Calls Tryd.prog 15 #[.slice A l.length c] w fun e w' => (∃ g, e = .returned (.slice (some ⟨g, 0, none⟩) l.length l.length) ∧ Rd w' (some ⟨g, 0, none⟩) l.length (scells l)) ∧ Below w.heap.size w w' :=
  (lawStr.to_any A l.length c l w hl rfl h).mono fun e w' h => by
    obtain ⟨g, rfl, h1, h2⟩ := h
    obtain ⟨A', c', e', _, _, hr⟩ := Rd.of_own h1
    injection e' with e1 _ _
    subst e1
    exact ⟨⟨g, rfl, hr⟩, h2⟩
theorem eq_strs (l : List ByteArray) (A1 A2 : Option Addr) (c1 c2 : Nat) (w : World) (hl : l.length ≤ 1048576) (h1 : Rd w A1 l.length (scells l)) (h2 : Rd w A2 l.length (scells l)) :
    Calls Tryd.prog 19 #[.slice A1 l.length c1, .slice A2 l.length c2] w fun e w' => e = .returned (.bool true) ∧ Below w.heap.size w w' :=
  (lawStr.eq_yes A1 A2 l.length c1 c2 l w (by unfold maxLen; omega) rfl h1 h2).mono fun e w' h => by
    obtain ⟨rfl, n, rfl⟩ := h
    exact ⟨rfl, below_drewN (Below.refl _ _) n⟩
set_option maxRecDepth 100000 in
set_option maxHeartbeats 16000000 in
theorem walk (t : T) (f : Nat) (vs : List Value) (p : ByteArray) (l : List ByteArray) (A : Option Addr) (c : Nat) (W : World) (h : LiesS W f vs (row t)) (hp : p.size ≤ maxLen) (hc : l.length ≤ c) (hcm : c ≤ maxLen) (hks : ∀ x ∈ l, x.size ≤ maxLen) (hr : Rd W A l.length (scells l)) (hE : ET W) :
    Calls Tryd.prog 4 #[.agg vs.toArray, .string p, .slice A l.length c] W fun e w' => e = .returned (.bool true) ∧ Below W.heap.size W w' := by
  unfold maxLen at hp
  have hlm : l.length ≤ 9223372036854775807 := by unfold maxLen at hcm; omega
  obtain ⟨u0, u1, u2, u3, u4, u5, rfl⟩ := six_of (h.1.trans (row_length t))
  obtain ⟨w1, hw1⟩ : ∃ x, x = W.alloc (.cells #[u0, u1, u2, u3, u4, u5] 27) := ⟨_, rfl⟩
  have hb1 : Below W.heap.size W w1 := by subst hw1; exact (Below.refl _ _).alloc (Nat.le_refl _) _
  have hrow : Row6 w1 W.heap.size u0 u1 u2 u3 u4 u5 := by subst hw1; exact Row6.of (heap_alloc_new W _)
  have Hw1 := Lib.hid hw1
  have Hb1 := Lib.hid hb1
  have ARG := Lib.hid hrow
  have Hl := Lib.hid (h.below hb1)
  have Hr := Lib.hid (hr.below hb1)
  have HET := Lib.hid (hE.below hb1)
  have BB := Lib.hid (Below.refl w1.heap.size w1)
  have S0 := Lib.hid (show W.heap.size < w1.heap.size by subst hw1; simp)
  clear h hb1 hrow hw1 hr hE
  by_cases hp1 : 1048576 < p.size
  · go_enter Tryd.func4, Tryd.ntmps4
    go_wp2_with fail
    rw [← Hw1.out]
    go_ret
    exact ⟨rfl, Hb1.out⟩
  have HZ := Lib.hid (sz_tree t _ 1048576 w1 Hl.out ⟨by decide, by decide⟩)
  by_cases hw : (1048576 : Int) < weight t
  · rw [cut_no hw] at HZ
    obtain ⟨p0, p1, p2, p3, p4, p5⟩ := ARG.out
    rw [Hw1.out] at p0 p1 p2 p3 p4 p5
    go_enter Tryd.func4, Tryd.ntmps4
    go_wp2_with fail
    rw [← Hw1.out]
    refine HZ.out.mono ?_
    rintro e w2 ⟨rfl, hb2⟩
    have Hb2 := Lib.hid (below_link Hb1.out hb2 Hb1.out.size)
    clear hb2 p0 p1 p2 p3 p4 p5
    go_wp2_with fail
    go_ret
    exact ⟨rfl, Hb2.out⟩
  rw [cut_yes hw] at HZ
  have hwn : weight t ≤ 1048576 := by omega
  have hps : p.size ≤ 1048576 := by omega
  have hleft : ¬ (1048576 - (weight t : Int)) < 0 := by omega
  have HZ2 := Lib.hid (fun w (hb : Below w1.heap.size w1 w) => (show Calls Tryd.prog 12 #[.slice A l.length c, .int .i64 (1048576 - (weight t : Int))] w (fun e w' => e = .returned (.int .i64 (cutW (1048576 - (weight t : Int)) (l.length + weightK l))) ∧ Below w.heap.size w w') from (sz_keys A c l (1048576 - (weight t : Int)) w hc hcm (Hr.out.below hb) hks ⟨by omega, by omega⟩).mono (fun e w' h => ⟨h.1, by rw [h.2]; exact Below.refl _ _⟩)))
  by_cases hw2 : (1048576 - (weight t : Int)) < ((l.length + weightK l : Nat) : Int)
  · rw [cut_no hw2] at HZ2
    obtain ⟨p0, p1, p2, p3, p4, p5⟩ := ARG.out
    rw [Hw1.out] at p0 p1 p2 p3 p4 p5
    generalize (1048576 - (weight t : Int)) = left at HZ HZ2 hleft
    go_enter Tryd.func4, Tryd.ntmps4
    go_wp2_with fail
    rw [← Hw1.out]
    refine HZ.out.mono ?_
    rintro e w2 ⟨rfl, hb2⟩
    have Hb2 := Lib.hid (below_link Hb1.out hb2 Hb1.out.size)
    have HZ3 := Lib.hid (HZ2.out _ hb2)
    clear hb2 p0 p1 p2 p3 p4 p5 HZ2
    go_wp2_with fail
    refine HZ3.out.mono ?_
    rintro e w3 ⟨rfl, hb3⟩
    have Hb3 := Lib.hid (below_link Hb2.out hb3 Hb2.out.size)
    clear hb3
    go_wp2_with fail
    go_ret
    exact ⟨rfl, Hb3.out⟩
  rw [cut_yes hw2] at HZ2
  have hln : l.length ≤ 1048576 := by omega
  have hleft2 : ¬ (1048576 - (weight t : Int) - ((l.length + weightK l : Nat) : Int)) < 0 := by omega
  have HT := Lib.hid (fun w (hl : LiesS w f [u0, u1, u2, u3, u4, u5] (row t)) => to_tree t _ w hl hwn)
  have HTS := Lib.hid (fun A c w (hr : Rd w A l.length (scells l)) => to_strs l A c w hln hr)
  have HES := Lib.hid (fun A1 A2 c1 c2 w h1 h2 => eq_strs l A1 A2 c1 c2 w hln h1 h2)
  have HS := Lib.hid (fun f us A c w (hl : LiesS w f us (row t)) (hr : Rd w A l.length (scells l)) => spec_known t p l A c us w hl hwn hps (by unfold maxLen; omega) hr)
  have HI := Lib.hid (fun f us A c w (hl : LiesS w f us (row t)) (hr : Rd w A l.length (scells l)) (hE : ET w) => impl_known t p l A c us w hl hwn hps hln hr hE)
  generalize knownF t p l = R at HS HI
  obtain ⟨cv, qv⟩ := R
  simp only [fv] at HS HI
  have HE := Lib.hid (fun f f' us xs w (h1 : LiesS w f us (row t)) (h2 : LiesS w f' xs (row t)) => eq_tree t us xs w (h1.deeper (Nat.le_max_left f f')) (h2.deeper (Nat.le_max_right f f')))
  have HF := Lib.hid (fun w => eq_fault cv qv w)
  clear hw hw2 hwn hps hln hlm hc hcm hks
  generalize (1048576 - (weight t : Int) - ((l.length + weightK l : Nat) : Int)) = left2 at HZ2 hleft2
  generalize (1048576 - (weight t : Int)) = left at HZ HZ2 hleft
  generalize scells l = sl at Hr HTS HES HS HI
  go_enter Tryd.func4, Tryd.ntmps4
  obtain ⟨argc0, argc1, argc2, argc3, argc4, argc5⟩ := (ARG.out.below BB.out)
  rw [Hw1.out] at argc0 argc1 argc2 argc3 argc4 argc5
  go_wp2_with fail
  rw [← Hw1.out]
  refine (HZ.out).mono ?_
  rintro e w2 ⟨rfl, hb1⟩
  have BB_2 := Lib.hid (below_link BB.out hb1 BB.out.size)
  clear BB
  have BB := BB_2
  clear BB_2
  have S3 := Lib.hid (show w1.heap.size ≤ w2.heap.size from hb1.size)
  clear argc0 argc1 argc2 argc3 argc4 argc5 hb1
  go_wp2_with fail
  refine (HZ2.out _ BB.out).mono ?_
  rintro e w3 ⟨rfl, hb4⟩
  have BB_5 := Lib.hid (below_link BB.out hb4 BB.out.size)
  clear BB
  have BB := BB_5
  clear BB_5
  have S6 := Lib.hid (show w2.heap.size ≤ w3.heap.size from hb4.size)
  clear  hb4
  obtain ⟨argc0, argc1, argc2, argc3, argc4, argc5⟩ := (ARG.out.below BB.out)
  go_wp2_with fail
  refine (HT.out _ (Hl.out.below BB.out)).mono ?_
  rintro e w4 ⟨⟨xus, xF, rfl, xho, xhn⟩, hb7⟩
  have BB_8 := Lib.hid (below_link BB.out hb7 BB.out.size)
  clear BB
  have BB := BB_8
  clear BB_8
  have S9 := Lib.hid (show w3.heap.size ≤ w4.heap.size from hb7.size)
  clear argc0 argc1 argc2 argc3 argc4 argc5 hb7
  obtain ⟨x0, x1, x2, x3, x4, x5, rfl⟩ := six_of (xho.1.trans (row_length _))
  have xone := Lib.hid xho.one
  have xR := Lib.hid (show ∀ x ∈ xF, w3.heap.size ≤ x ∧ x < w4.heap.size from xho.range)
  have xN := Lib.hid xhn
  have x_10 := Lib.hid xho
  clear xho xhn
  go_wp2_with fail
  refine (HTS.out _ _ _ (Hr.out.below BB.out)).mono ?_
  rintro e w5 ⟨⟨rg, rfl, rr⟩, hb11⟩
  have x_12 := Lib.hid (x_10.out.below hb11)
  have BB_13 := Lib.hid (below_link BB.out hb11 BB.out.size)
  clear BB
  have BB := BB_13
  clear BB_13
  have S14 := Lib.hid (show w4.heap.size ≤ w5.heap.size from hb11.size)
  clear x_10 hb11
  have r_15 := Lib.hid rr
  clear rr
  go_wp2_with fail
  refine (HS.out _ _ _ _ _ x_12.out.lies r_15.out).mono ?_
  rintro e w6 ⟨rfl, hb16⟩
  have x_17 := Lib.hid (x_12.out.below hb16)
  have r_18 := Lib.hid (r_15.out.below hb16)
  have BB_19 := Lib.hid (below_link BB.out hb16 BB.out.size)
  clear BB
  have BB := BB_19
  clear BB_19
  have S20 := Lib.hid (show w5.heap.size ≤ w6.heap.size from hb16.size)
  clear x_12 r_15 hb16
  clear x_17 r_18
  obtain ⟨w7, hw7⟩ : ∃ x, x = w6.alloc (.cells #[.int .i64 cv, .int .i64 0, .string qv] 31) := ⟨_, rfl⟩
  have hb21 : Below w6.heap.size w6 w7 := by subst hw7; exact (Below.refl _ _).alloc (Nat.le_refl _) _
  have S22 := Lib.hid (show w6.heap.size < w7.heap.size by subst hw7; simp)
  have flta_23 := Lib.hid (show RowE 31 w7 w6.heap.size [.int .i64 cv, .int .i64 0, .string qv] by subst hw7; exact RowE.new _ _ _)
  have Hw7 := Lib.hid hw7
  clear hw7
  have BB_24 := Lib.hid (below_link BB.out hb21 BB.out.size)
  clear BB
  have BB := BB_24
  clear BB_24
  have S25 := Lib.hid (show w6.heap.size ≤ w7.heap.size from hb21.size)
  clear  hb21
  obtain ⟨argc0, argc1, argc2, argc3, argc4, argc5⟩ := (ARG.out.below BB.out)
  rw [Hw7.out] at argc0 argc1 argc2 argc3 argc4 argc5
  go_wp2_with (first | (refine wpList_store_row rfl 31 _ _ rfl w6.heap.size #[.int .i64 cv, .int .i64 0, .string qv] rfl rfl 31 _ (heap_alloc_new w6 _) sizeFault rfl (by simp [Value.oneCell']) ?_; rw [World.setRow_alloc_new]) | fail)
  rw [← Hw7.out]
  refine (HT.out _ (Hl.out.below BB.out)).mono ?_
  rintro e w8 ⟨⟨bus, bF, rfl, bho, bhn⟩, hb26⟩
  have flta_27 := Lib.hid (flta_23.out.below hb26)
  have BB_28 := Lib.hid (below_link BB.out hb26 BB.out.size)
  clear BB
  have BB := BB_28
  clear BB_28
  have S29 := Lib.hid (show w7.heap.size ≤ w8.heap.size from hb26.size)
  clear flta_23 argc0 argc1 argc2 argc3 argc4 argc5 hb26
  obtain ⟨b0, b1, b2, b3, b4, b5, rfl⟩ := six_of (bho.1.trans (row_length _))
  have bone := Lib.hid bho.one
  have bR := Lib.hid (show ∀ x ∈ bF, w7.heap.size ≤ x ∧ x < w8.heap.size from bho.range)
  have bN := Lib.hid bhn
  have b_30 := Lib.hid bho
  clear bho bhn
  obtain ⟨w9, hw9⟩ : ∃ x, x = w8.alloc (.cells #[b0, b1, b2, b3, b4, b5] 35) := ⟨_, rfl⟩
  have hb31 : Below w8.heap.size w8 w9 := by subst hw9; exact (Below.refl _ _).alloc (Nat.le_refl _) _
  have S32 := Lib.hid (show w8.heap.size < w9.heap.size by subst hw9; simp)
  have row_33 := Lib.hid (show Row6 w9 w8.heap.size b0 b1 b2 b3 b4 b5 by subst hw9; exact Row6.of (heap_alloc_new w8 _))
  have Hw9 := Lib.hid hw9
  clear hw9
  have flta_34 := Lib.hid (flta_27.out.below hb31)
  have b_35 := Lib.hid (b_30.out.below hb31)
  have BB_36 := Lib.hid (below_link BB.out hb31 BB.out.size)
  clear BB
  have BB := BB_36
  clear BB_36
  have S37 := Lib.hid (show w8.heap.size ≤ w9.heap.size from hb31.size)
  clear flta_27 b_30 hb31
  have bhone := bone.out
  go_wp2_with (first | (refine wpList_store_row rfl 35 _ _ rfl w8.heap.size #[b0, b1, b2, b3, b4, b5] rfl rfl 35 _ (heap_alloc_new w8 _) tree_size rfl bhone ?_; rw [World.setRow_alloc_new]) | fail)
  rw [← Hw9.out]
  refine (HTS.out _ _ _ (Hr.out.below BB.out)).mono ?_
  rintro e w10 ⟨⟨dg, rfl, dr⟩, hb38⟩
  have flta_39 := Lib.hid (flta_34.out.below hb38)
  have b_40 := Lib.hid (row_33.out.below hb38)
  have b_41 := Lib.hid (b_35.out.below hb38)
  have BB_42 := Lib.hid (below_link BB.out hb38 BB.out.size)
  clear BB
  have BB := BB_42
  clear BB_42
  have S43 := Lib.hid (show w9.heap.size ≤ w10.heap.size from hb38.size)
  clear flta_34 row_33 b_35 hb38
  have d_44 := Lib.hid dr
  clear dr
  obtain ⟨bc0, bc1, bc2, bc3, bc4, bc5⟩ := b_40.out
  go_wp2_with fail
  refine (HI.out _ _ _ _ _ b_41.out.lies d_44.out (HET.out.below BB.out)).mono ?_
  rintro e w11 ⟨rfl, hb45⟩
  have flta_46 := Lib.hid (flta_39.out.below hb45)
  have b_47 := Lib.hid (b_40.out.below hb45)
  have b_48 := Lib.hid (b_41.out.below hb45)
  have d_49 := Lib.hid (d_44.out.below hb45)
  have BB_50 := Lib.hid (below_link BB.out hb45 BB.out.size)
  clear BB
  have BB := BB_50
  clear BB_50
  have S51 := Lib.hid (show w10.heap.size ≤ w11.heap.size from hb45.size)
  clear flta_39 b_40 b_41 d_44 bc0 bc1 bc2 bc3 bc4 bc5 hb45
  obtain ⟨w12, hw12⟩ : ∃ x, x = w11.alloc (.cells #[.int .i64 cv, .int .i64 0, .string qv] 31) := ⟨_, rfl⟩
  have hb52 : Below w11.heap.size w11 w12 := by subst hw12; exact (Below.refl _ _).alloc (Nat.le_refl _) _
  have S53 := Lib.hid (show w11.heap.size < w12.heap.size by subst hw12; simp)
  have fltg_54 := Lib.hid (show RowE 31 w12 w11.heap.size [.int .i64 cv, .int .i64 0, .string qv] by subst hw12; exact RowE.new _ _ _)
  have Hw12 := Lib.hid hw12
  clear hw12
  have flta_55 := Lib.hid (flta_46.out.below hb52)
  have b_56 := Lib.hid (b_47.out.below hb52)
  have b_57 := Lib.hid (b_48.out.below hb52)
  have d_58 := Lib.hid (d_49.out.below hb52)
  have BB_59 := Lib.hid (below_link BB.out hb52 BB.out.size)
  clear BB
  have BB := BB_59
  clear BB_59
  have S60 := Lib.hid (show w11.heap.size ≤ w12.heap.size from hb52.size)
  clear flta_46 b_47 b_48 d_49 hb52
  have fltgc0 := fltg_54.out.cell 0 _ rfl
  rw [Hw12.out] at fltgc0
  have fltgc1 := fltg_54.out.cell 1 _ rfl
  rw [Hw12.out] at fltgc1
  have fltgc2 := fltg_54.out.cell 2 _ rfl
  rw [Hw12.out] at fltgc2
  have fltac0 := flta_55.out.cell 0 _ rfl
  rw [Hw12.out] at fltac0
  have fltac1 := flta_55.out.cell 1 _ rfl
  rw [Hw12.out] at fltac1
  have fltac2 := flta_55.out.cell 2 _ rfl
  rw [Hw12.out] at fltac2
  go_wp2_with (first | (refine wpList_store_row rfl 31 _ _ rfl w11.heap.size #[.int .i64 cv, .int .i64 0, .string qv] rfl rfl 31 _ (heap_alloc_new w11 _) sizeFault rfl (by simp [Value.oneCell']) ?_; rw [World.setRow_alloc_new]) | fail)
  rw [← Hw12.out]
  refine (HF.out _).mono ?_
  rintro e w13 ⟨rfl, hb61⟩
  have flta_62 := Lib.hid (flta_55.out.below hb61)
  have b_63 := Lib.hid (b_56.out.below hb61)
  have fltg_64 := Lib.hid (fltg_54.out.below hb61)
  have b_65 := Lib.hid (b_57.out.below hb61)
  have d_66 := Lib.hid (d_58.out.below hb61)
  have BB_67 := Lib.hid (below_link BB.out hb61 BB.out.size)
  clear BB
  have BB := BB_67
  clear BB_67
  have S68 := Lib.hid (show w12.heap.size ≤ w13.heap.size from hb61.size)
  clear flta_55 b_56 fltg_54 b_57 d_58 fltgc0 fltgc1 fltgc2 fltac0 fltac1 fltac2 hb61
  obtain ⟨bc0, bc1, bc2, bc3, bc4, bc5⟩ := b_63.out
  obtain ⟨argc0, argc1, argc2, argc3, argc4, argc5⟩ := (ARG.out.below BB.out)
  go_wp2_with fail
  go_region_law (go_simp; first | (go_at_call 14; refine (HT.out _ ((Hl.out.below BB.out).below (Below.refl _ _).drew)).mono ?_; rintro e m69 ⟨⟨usm69, Fm69, rfl, hom69, _⟩, hb70⟩; obtain ⟨qm690, qm691, qm692, qm693, qm694, qm695⟩ := (Row6.below (w := w13.drew) (w' := m69) b_63.out hb70)) | (go_at_call 18; refine (HE.out _ _ _ _ _ (b_65.out.lies.below ((Below.refl _ _).drew.trans (hb70.mono (Nat.le_refl _)))) hom69.lies).mono ?_; rintro e w14 ⟨rfl, hb72⟩))
  all_goals
    have hb71 : Below w13.heap.size w13 w14 := below_link ((Below.refl _ _).drew.trans (hb70.mono (Nat.le_refl _))) hb72 hb70.size
    clear hom69 hb70 hb72 qm690 qm691 qm692 qm693 qm694 qm695
    have flta_73 := Lib.hid (flta_62.out.below hb71)
    have b_74 := Lib.hid (b_63.out.below hb71)
    have fltg_75 := Lib.hid (fltg_64.out.below hb71)
    have b_76 := Lib.hid (b_65.out.below hb71)
    have d_77 := Lib.hid (d_66.out.below hb71)
    have BB_78 := Lib.hid (below_link BB.out hb71 BB.out.size)
    clear BB
    have BB := BB_78
    clear BB_78
    have S79 := Lib.hid (show w13.heap.size ≤ w14.heap.size from hb71.size)
    clear flta_62 b_63 fltg_64 b_65 d_66 bc0 bc1 bc2 bc3 bc4 bc5 argc0 argc1 argc2 argc3 argc4 argc5 hb71
    go_wp2_with fail
    refine (HTS.out _ _ _ (Hr.out.below BB.out)).mono ?_
    rintro e w15 ⟨⟨eg, rfl, er⟩, hb80⟩
    have flta_81 := Lib.hid (flta_73.out.below hb80)
    have b_82 := Lib.hid (b_74.out.below hb80)
    have fltg_83 := Lib.hid (fltg_75.out.below hb80)
    have b_84 := Lib.hid (b_76.out.below hb80)
    have d_85 := Lib.hid (d_77.out.below hb80)
    have BB_86 := Lib.hid (below_link BB.out hb80 BB.out.size)
    clear BB
    have BB := BB_86
    clear BB_86
    have S87 := Lib.hid (show w14.heap.size ≤ w15.heap.size from hb80.size)
    clear flta_73 b_74 fltg_75 b_76 d_77 hb80
    have e_88 := Lib.hid er
    clear er
    go_wp2_with fail
    refine (HES.out _ _ _ _ _ d_85.out e_88.out).mono ?_
    rintro e w16 ⟨rfl, hb89⟩
    have flta_90 := Lib.hid (flta_81.out.below hb89)
    have b_91 := Lib.hid (b_82.out.below hb89)
    have fltg_92 := Lib.hid (fltg_83.out.below hb89)
    have b_93 := Lib.hid (b_84.out.below hb89)
    have d_94 := Lib.hid (d_85.out.below hb89)
    have e_95 := Lib.hid (e_88.out.below hb89)
    have BB_96 := Lib.hid (below_link BB.out hb89 BB.out.size)
    clear BB
    have BB := BB_96
    clear BB_96
    have S97 := Lib.hid (show w15.heap.size ≤ w16.heap.size from hb89.size)
    clear flta_81 b_82 fltg_83 b_84 d_85 e_88 hb89
    go_wp2_with fail
    go_ret
    exact ⟨rfl, below_link Hb1.out BB.out Hb1.out.size⟩
end Go.Proofs.YtangdmjdjiddcaaDoor.fnExactKnownKeys
