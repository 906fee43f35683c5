/- FnExactReadScalar: the law returns true at every argument. -/
import Derived.Test.YtegpcjkcejijpaaGreatDoorGLaw
import Derived.Test.YtegpcjkcejijpaaGreatDoorGLeaf
import Derived.Test.YtegpcjkcejijpaaGreatDoorGRs
import Derived.Test.YtegpcjkcejijpaaGreatDoorGRi
namespace Go.Proofs.YtegpcjkcejijpaaGreatDoor.fnExactReadScalar
open Go.ChangeShapes Go.WideShapes Go.ChangeAt Go.RowKit
open tree
set_option linter.unusedVariables false

set_option maxRecDepth 100000 in
set_option maxHeartbeats 8000000 in
theorem walk (s : ByteArray) (W : World) (hs : s.size ≤ maxLen) (hT : rune.Tabs W) (hE : readq.ErrVar W "strconv.ErrSyntax") (hR : whole.ErrVar W "strconv.ErrRange") (hM : line.MaxL W) :
    Calls Tryz.prog 6 #[.string s] W fun e w' => e = .returned (.bool true) ∧ Below W.heap.size W w' := by
  have ms := hs
  unfold maxLen at ms
  by_cases ls : 1048576 < s.size
  · clear hT hE hR hM
    go_enter Tryz.func6, Tryz.ntmps6
    go_wp2_with fail
    go_ret
    exact ⟨rfl, Below.refl _ _⟩
  have hs9 : s.size ≤ 1048576 := by omega
  have lf := line.out_leaf s
  have HS := Lib.hid (fun w => line.leaf_own lf (line.spec_rs s w hs9))
  have HI := Lib.hid (fun w (hb : Below W.heap.size W w) => line.leaf_own lf (line.impl_rs s w hs9 (hT.below hb) (hE.below hb) (hR.below hb) (hM.below hb)))
  have hcost : (1 : Int) + topCost (line.outT (line.scalarF s)) ≤ 4611686018427387904 := line.leaf_cost lf
  clear hs lf hT hE hR hM
  generalize line.outT (line.scalarF s) = t at HS HI hcost
  generalize (line.scalarF s).isSome = bb at HS HI
  have HE := Lib.hid (fun f us xs w (h1 : LiesS w f us (row t)) (h2 : LiesS w f xs (row t)) => eq_tree t us xs w h1 h2)
  have HM := Lib.hid (fun B f vs F w (h : OwnS w B f vs (row t) F) (hnd : F.Nodup) => mark_tree t vs F 1 w h hnd (by decide) hcost)
  have HH := Lib.hid (fun f vs w (h : LiesS w f vs (row (topT t 1))) => held_tree t vs 1 w h (by decide) hcost)
  have hc0 : (0 : Int) ≤ topCost t := Int.natCast_nonneg _
  clear hcost
  generalize (topCost t : Int) = C0 at HM HH hc0
  have hneg : ¬ (1 + C0 < 0) := by omega
  go_enter Tryz.func6, Tryz.ntmps6
  go_wp2_with fail
  refine (HS.out _).mono ?_
  rintro e w1 ⟨⟨f0, us, F0, rfl, ho0, _⟩, hb1⟩
  obtain ⟨a0, a1, a2, a3, a4, a5, rfl⟩ := six_of (ho0.1.trans (row_length t))
  have hone0 := ho0.one
  obtain ⟨w2, hw2⟩ : ∃ w2, w2 = w1.alloc (.cells #[a0, a1, a2, a3, a4, a5] 34) := ⟨_, rfl⟩
  have hb12 : Below w1.heap.size w1 w2 := by subst hw2; exact (Below.refl _ _).alloc (Nat.le_refl _) _
  have P0 := Lib.hid (show Row6 w2 w1.heap.size a0 a1 a2 a3 a4 a5 by subst hw2; exact Row6.of (heap_alloc_new w1 _))
  have O0 := Lib.hid (ho0.below hb12)
  have B2 := Lib.hid (below_link hb1 hb12 hb1.size)
  have S2 := Lib.hid (show w1.heap.size < w2.heap.size by subst hw2; simp)
  have SW := Lib.hid (show W.heap.size ≤ w2.heap.size from B2.out.size)
  have Hw2 := Lib.hid hw2
  clear HS ho0 hb1 hb12 hw2
  go_wp2_with (first | (refine wpList_store_row rfl 34 _ _ rfl w1.heap.size #[a0, a1, a2, a3, a4, a5] rfl rfl 34 _ (heap_alloc_new w1 _) tree_size rfl hone0 ?_; rw [World.setRow_alloc_new]) | fail)
  rw [← Hw2.out]
  refine (HI.out _ B2.out).mono ?_
  rintro e w3 ⟨⟨f1, vs, F1, rfl, ho1, hn1⟩, hb3⟩
  obtain ⟨g0, g1, g2, g3, g4, g5, rfl⟩ := six_of (ho1.1.trans (row_length t))
  have hone1 := ho1.one
  obtain ⟨w4, hw4⟩ : ∃ w4, w4 = w3.alloc (.cells #[g0, g1, g2, g3, g4, g5] 34) := ⟨_, rfl⟩
  have hb34 : Below w3.heap.size w3 w4 := by subst hw4; exact (Below.refl _ _).alloc (Nat.le_refl _) _
  have hb24 := below_link hb3 hb34 hb3.size
  have P1 := Lib.hid (show Row6 w4 w3.heap.size g0 g1 g2 g3 g4 g5 by subst hw4; exact Row6.of (heap_alloc_new w3 _))
  have P0' := Lib.hid (P0.out.below hb24)
  have O0' := Lib.hid (O0.out.below hb24)
  have O1 := Lib.hid (ho1.below hb34)
  have R1 := Lib.hid ho1.range
  have R0 := Lib.hid O0.out.range
  have N1 := Lib.hid hn1
  have B4 := Lib.hid (below_link B2.out hb24 B2.out.size)
  have S3 := Lib.hid (show w2.heap.size ≤ w3.heap.size from hb3.size)
  have Hw4 := Lib.hid hw4
  clear ho1 hn1 hb3 hb34 hb24 hw4 P0 O0 B2
  obtain ⟨p0, p1, p2, p3, p4, p5⟩ := P0'.out
  obtain ⟨q0, q1, q2, q3, q4, q5⟩ := P1.out
  rw [Hw4.out] at p0 p1 p2 p3 p4 p5 q0 q1 q2 q3 q4 q5
  go_wp2_with (first | (refine wpList_store_row rfl 34 _ _ rfl w3.heap.size #[g0, g1, g2, g3, g4, g5] rfl rfl 34 _ (heap_alloc_new w3 _) tree_size rfl hone1 ?_; rw [World.setRow_alloc_new]) | fail)
  rw [← Hw4.out]
  refine (HE.out (max f0 f1) _ _ _ (O1.out.lies.deeper (Nat.le_max_right _ _)) (O0'.out.lies.deeper (Nat.le_max_left _ _))).mono ?_
  rintro e w5 ⟨rfl, hb5⟩
  have Q0 := Lib.hid (P0'.out.below hb5)
  have Q1 := Lib.hid (P1.out.below hb5)
  have O0 := Lib.hid (O0'.out.below hb5)
  have O1' := Lib.hid (O1.out.below hb5)
  have B5 := Lib.hid (below_link B4.out hb5 B4.out.size)
  clear hb5 p0 p1 p2 p3 p4 p5 q0 q1 q2 q3 q4 q5 P0' P1 O0' O1 B4 Hw4 hone1 hone0 Hw2
  obtain ⟨q0, q1, q2, q3, q4, q5⟩ := Q1.out
  go_wp2_with fail
  refine (HM.out _ _ _ _ _ O1'.out N1.out).mono ?_
  rintro e w6 ⟨rfl, ho6, hk6⟩
  have hF1 : w3.heap.size ∉ F1 := fun hx => by have := (R1.out _ hx).2; omega
  have hF0 : w1.heap.size ∉ F1 := fun hx => by have := (R1.out _ hx).1; have := S2.out; omega
  have P0 := Lib.hid (Q0.out.but hk6 hF0)
  have P1 := Lib.hid (Q1.out.but hk6 hF1)
  have O0' := Lib.hid (O0.out.but hk6 (fun x hx hy => by have h1 := (R0.out x hx).2; have h2 := (R1.out x hy).1; omega))
  have M1 := Lib.hid ho6
  have B6 := Lib.hid (KeptBut.below B5.out hk6 B5.out.size (fun x hx => by have h1 := (R1.out x hx).1; have h2 := SW.out; omega))
  clear ho6 hk6 hF1 hF0 Q0 Q1 O0 O1' B5 HM q0 q1 q2 q3 q4 q5
  obtain ⟨q0, q1, q2, q3, q4, q5⟩ := P1.out
  go_wp2_with fail
  refine (HH.out _ _ _ M1.out.lies).mono ?_
  rintro e w7 ⟨rfl, hb7⟩
  have Q0 := Lib.hid (P0.out.below hb7)
  have Q1 := Lib.hid (P1.out.below hb7)
  have O0 := Lib.hid (O0'.out.below hb7)
  have M2 := Lib.hid (M1.out.below hb7)
  have B7 := Lib.hid (below_link B6.out hb7 B6.out.size)
  clear hb7 q0 q1 q2 q3 q4 q5 P0 P1 O0' M1 B6
  go_wp2_with fail
  refine (HI.out _ B7.out).mono ?_
  rintro e w8 ⟨⟨f2, xs, F2, rfl, ho2, _⟩, hb8⟩
  obtain ⟨x0, x1, x2, x3, x4, x5, rfl⟩ := six_of (ho2.1.trans (row_length t))
  have hone2 := ho2.one
  obtain ⟨w9, hw9⟩ : ∃ w9, w9 = w8.alloc (.cells #[x0, x1, x2, x3, x4, x5] 34) := ⟨_, rfl⟩
  have hb89 : Below w8.heap.size w8 w9 := by subst hw9; exact (Below.refl _ _).alloc (Nat.le_refl _) _
  have hb79 := below_link hb8 hb89 hb8.size
  have P2 := Lib.hid (show Row6 w9 w8.heap.size x0 x1 x2 x3 x4 x5 by subst hw9; exact Row6.of (heap_alloc_new w8 _))
  have P0 := Lib.hid (Q0.out.below hb79)
  have P1 := Lib.hid (Q1.out.below hb79)
  have O0' := Lib.hid (O0.out.below hb79)
  have O2 := Lib.hid (ho2.below hb89)
  have M3 := Lib.hid (M2.out.below hb79)
  have B9 := Lib.hid (below_link B7.out hb79 B7.out.size)
  have Hw9 := Lib.hid hw9
  clear ho2 hb8 hb89 hb79 hw9 Q0 Q1 O0 M2 B7 HI
  obtain ⟨p0, p1, p2, p3, p4, p5⟩ := P0.out
  obtain ⟨r0, r1, r2, r3, r4, r5⟩ := P2.out
  rw [Hw9.out] at p0 p1 p2 p3 p4 p5 r0 r1 r2 r3 r4 r5
  go_wp2_with (first | (refine wpList_store_row rfl 34 _ _ rfl w8.heap.size #[x0, x1, x2, x3, x4, x5] rfl rfl 34 _ (heap_alloc_new w8 _) tree_size rfl hone2 ?_; rw [World.setRow_alloc_new]) | fail)
  rw [← Hw9.out]
  refine (HE.out (max f0 f2) _ _ _ (O2.out.lies.deeper (Nat.le_max_right _ _)) (O0'.out.lies.deeper (Nat.le_max_left _ _))).mono ?_
  rintro e w10 ⟨rfl, hb10⟩
  have Q1 := Lib.hid (P1.out.below hb10)
  have M4 := Lib.hid (M3.out.below hb10)
  have B10 := Lib.hid (below_link B9.out hb10 B9.out.size)
  clear hb10 p0 p1 p2 p3 p4 p5 r0 r1 r2 r3 r4 r5 P0 P1 P2 O0' O2 M3 B9 Hw9 hone2 HE
  obtain ⟨q0, q1, q2, q3, q4, q5⟩ := Q1.out
  go_wp2_with fail
  refine (HH.out _ _ _ M4.out.lies).mono ?_
  rintro e w11 ⟨rfl, hb11⟩
  have B11 := Lib.hid (below_link B10.out hb11 B10.out.size)
  clear hb11 q0 q1 q2 q3 q4 q5 Q1 M4 B10 HH
  go_wp2_with fail
  go_ret
  exact ⟨rfl, B11.out⟩
end Go.Proofs.YtegpcjkcejijpaaGreatDoor.fnExactReadScalar
