/- FnExactIndentedText: the law returns true at every tree. -/
import Derived.Test.YtbfkkaafkinpmaaGreatDoorGLaw
import Derived.Test.YtbfkkaafkinpmaaGreatDoorIndTxS
import Derived.Test.YtbfkkaafkinpmaaGreatDoorIndTxI
namespace Go.Proofs.YtbfkkaafkinpmaaGreatDoor.fnExactIndentedText
open Go.ChangeShapes Go.WideShapes Go.ChangeAt Go.RowKit
open tree
open rune (Tabs)
open decimal (Pow)
set_option linter.unusedVariables false

set_option maxRecDepth 100000 in
set_option maxHeartbeats 4000000 in
theorem walk (t : T) (f : Nat) (vs : List Value) (W : World) (h : LiesS W f vs (row t)) (hT : Tabs W) (hM : line.MaxL W) (hP : Pow W) :
    Calls Tryz.prog 4 #[.agg vs.toArray] W fun e w' => e = .returned (.bool true) ∧ Below W.heap.size W w' := by
  obtain ⟨u0, u1, u2, u3, u4, u5, rfl⟩ := six_of (h.1.trans (row_length t))
  obtain ⟨W1, hW1⟩ : ∃ W1, W1 = W.alloc (.cells #[u0, u1, u2, u3, u4, u5] 25) := ⟨_, rfl⟩
  have hb1 : Below W.heap.size W W1 := by subst hW1; exact (Below.refl _ _).alloc (Nat.le_refl _) _
  have hp : Row6 W1 W.heap.size u0 u1 u2 u3 u4 u5 := by subst hW1; exact Row6.of (heap_alloc_new W _)
  have HW1 := Lib.hid hW1
  have Hb1 := Lib.hid hb1
  have Hp1 := Lib.hid hp
  have Hl1 := Lib.hid (h.below hb1)
  clear h hb1 hp hW1
  have HT0 := Lib.hid hT
  have HP0 := Lib.hid hP
  have HM0 := Lib.hid hM
  clear hT hP hM
  have HZ := Lib.hid (sz_tree t _ 1048576 W1 Hl1.out ⟨by decide, by decide⟩)
  by_cases hw : (1048576 : Int) < weight t
  · rw [cut_no hw] at HZ
    obtain ⟨p0, p1, p2, p3, p4, p5⟩ := Hp1.out
    rw [HW1.out] at p0 p1 p2 p3 p4 p5
    go_enter Tryz.func4, Tryz.ntmps4
    go_wp2_with fail
    rw [← HW1.out]
    refine HZ.out.mono ?_
    rintro e w1 ⟨rfl, hb2⟩
    have Hb2 := Lib.hid (below_link Hb1.out hb2 Hb1.out.size)
    clear hb2 p0 p1 p2 p3 p4 p5
    go_wp2_with fail
    go_ret
    exact ⟨rfl, Hb2.out⟩
  · rw [cut_yes hw] at HZ
    have hwn : weight t ≤ 1048576 := by omega
    have hsn : size t ≤ 1099511627776 := by have := size_le_weight t; omega
    have hleft : ¬ (1048576 - (weight t : Int)) < 0 := by omega
    have HT := Lib.hid (fun w (hl : LiesS w f [u0, u1, u2, u3, u4, u5] (row t)) => to_tree t _ w hl hwn)
    have HS := Lib.hid (fun f us w (hl : LiesS w f us (row t)) => ind.spec_indent f t us w hl hsn)
    have HI := Lib.hid (fun f us w (hb : Below W.heap.size W w) (hl : LiesS w f us (row t)) => ind.impl_indent f t us w hl hsn (HP0.out.below hb) (HT0.out.below hb) (HM0.out.below hb))
    have HE := Lib.hid (fun f us xs w (h1 : LiesS w f us (row t)) (h2 : LiesS w f xs (row t)) => eq_tree t us xs w h1 h2)
    clear hw hwn
    generalize (1048576 - (weight t : Int)) = left at HZ hleft
    generalize ind.textI t = R at HS HI
    have eR : (!(R.toList == R.toList)) = false := by simp
    obtain ⟨p0, p1, p2, p3, p4, p5⟩ := Hp1.out
    rw [HW1.out] at p0 p1 p2 p3 p4 p5
    go_enter Tryz.func4, Tryz.ntmps4
    go_wp2_with fail
    rw [← HW1.out]
    refine HZ.out.mono ?_
    rintro e w2 ⟨rfl, hb2⟩
    have Hb2 := Lib.hid (below_link Hb1.out hb2 Hb1.out.size)
    have Hl2 := Lib.hid (Hl1.out.below hb2)
    have Hp2 := Lib.hid (Hp1.out.below hb2)
    clear hb2 p0 p1 p2 p3 p4 p5 HZ Hb1 Hl1 Hp1 HW1
    obtain ⟨p0, p1, p2, p3, p4, p5⟩ := Hp2.out
    go_wp2_with fail
    refine (HT.out w2 Hl2.out).mono ?_
    rintro e w3 ⟨⟨us, F, rfl, ho, _⟩, hb3⟩
    have Hb3 := Lib.hid (below_link Hb2.out hb3 Hb2.out.size)
    have Hl3 := Lib.hid (Hl2.out.below hb3)
    have Hp3 := Lib.hid (Hp2.out.below hb3)
    have hl := ho.lies
    clear hb3 p0 p1 p2 p3 p4 p5 Hb2 Hl2 Hp2 ho
    go_wp2_with fail
    refine (HS.out _ _ _ hl).mono ?_
    rintro e w4 ⟨rfl, hb4⟩
    have Hb4 := Lib.hid (below_link Hb3.out hb4 Hb3.out.size)
    have Hl4 := Lib.hid (Hl3.out.below hb4)
    have Hp4 := Lib.hid (Hp3.out.below hb4)
    clear hb4 hl Hb3 Hl3 Hp3 HS
    obtain ⟨p0, p1, p2, p3, p4, p5⟩ := Hp4.out
    go_wp2_with fail
    refine (HT.out w4 Hl4.out).mono ?_
    rintro e w5 ⟨⟨xs, F, rfl, ho, _⟩, hb5⟩
    have Hb5 := Lib.hid (below_link Hb4.out hb5 Hb4.out.size)
    have Hl5 := Lib.hid (Hl4.out.below hb5)
    have Hp5 := Lib.hid (Hp4.out.below hb5)
    have hl := ho.lies
    have hone := ho.one
    clear hb5 p0 p1 p2 p3 p4 p5 Hb4 Hl4 Hp4 ho
    obtain ⟨x0, x1, x2, x3, x4, x5, rfl⟩ := six_of (hl.1.trans (row_length t))
    obtain ⟨w6, hw6⟩ : ∃ w6, w6 = w5.alloc (.cells #[x0, x1, x2, x3, x4, x5] 30) := ⟨_, rfl⟩
    have hb6 : Below w5.heap.size w5 w6 := by subst hw6; exact (Below.refl _ _).alloc (Nat.le_refl _) _
    have hq : Row6 w6 w5.heap.size x0 x1 x2 x3 x4 x5 := by subst hw6; exact Row6.of (heap_alloc_new w5 _)
    have Hw6 := Lib.hid hw6
    have Hb6 := Lib.hid (below_link Hb5.out hb6 Hb5.out.size)
    have Hl6 := Lib.hid (Hl5.out.below hb6)
    have Hp6 := Lib.hid (Hp5.out.below hb6)
    have Hx6 := Lib.hid (hl.below hb6)
    have Hq6 := Lib.hid hq
    clear hb6 hq hl hw6 Hb5 Hl5 Hp5
    obtain ⟨q0, q1, q2, q3, q4, q5⟩ := Hq6.out
    rw [Hw6.out] at q0 q1 q2 q3 q4 q5
    go_wp2_with (first | (refine wpList_store_row rfl 30 _ _ rfl w5.heap.size #[x0, x1, x2, x3, x4, x5] rfl rfl 30 _ (heap_alloc_new w5 _) tree_size rfl hone ?_; rw [World.setRow_alloc_new]) | fail)
    rw [← Hw6.out]
    refine (HI.out _ _ _ Hb6.out Hx6.out).mono ?_
    rintro e w7 ⟨rfl, hb7⟩
    have Hb7 := Lib.hid (below_link Hb6.out hb7 Hb6.out.size)
    have Hl7 := Lib.hid (Hl6.out.below hb7)
    have Hx7 := Lib.hid (Hx6.out.below hb7)
    have Hp7 := Lib.hid (Hp6.out.below hb7)
    have Hq7 := Lib.hid (Hq6.out.below hb7)
    clear hb7 q0 q1 q2 q3 q4 q5 Hb6 Hl6 Hp6 Hx6 Hq6 Hw6 HI
    obtain ⟨p0, p1, p2, p3, p4, p5⟩ := Hp7.out
    obtain ⟨q0, q1, q2, q3, q4, q5⟩ := Hq7.out
    go_wp2_with fail
    have Hg := Lib.hid (show W.heap.size < w7.heap.size from World.block_lt_of_cell? _ _ p0)
    go_region_law (go_simp; first | (go_at_call 7; refine (HT.out _ (Hl7.out.below (Below.refl _ _).drew)).mono ?_; rintro e w8 ⟨⟨us8, F8, rfl, ho8, _⟩, hb8⟩; have hq8 := (Row6.below (w := w7.drew) (w' := w8) ⟨q0, q1, q2, q3, q4, q5⟩ hb8); obtain ⟨r0, r1, r2, r3, r4, r5⟩ := hq8) | (go_at_call 10; refine (HE.out _ _ _ _ ((Hx7.out.below ((Below.refl _ _).drew.trans (hb8.mono (Nat.le_refl _)))).deeper (Nat.le_max_left _ _)) (ho8.lies.deeper (Nat.le_max_right _ _))).mono ?_; rintro e w9 ⟨rfl, hb9⟩))
    all_goals
      go_wp2_with fail
      go_ret
      exact ⟨rfl, below_link (below_link Hb7.out ((Below.refl _ _).drew.trans (hb8.mono (Nat.le_refl _))) Hb7.out.size) hb9 (Nat.le_trans Hb7.out.size hb8.size)⟩
end Go.Proofs.YtbfkkaafkinpmaaGreatDoor.fnExactIndentedText
