/- impl.ScalarSame. -/
import Derived.Test.YtegpcjkcejijpaaGreatDoorGLeaf
import Derived.Test.YtegpcjkcejijpaaGreatDoorGRi
import Derived.Test.YtegpcjkcejijpaaGreatDoorGSmI
import Derived.Test.YtegpcjkcejijpaaGreatDoorSsM
namespace Go.Proofs.YtegpcjkcejijpaaGreatDoor.line
open Go.ChangeShapes Go.WideShapes Go.ChangeAt Go.RowKit tree
set_option linter.unusedVariables false

set_option maxRecDepth 100000 in
set_option maxHeartbeats 8000000 in
theorem impl_ss (a b : ByteArray) (w : World) (ha : a.size ≤ 1048576) (hb9 : b.size ≤ 1048576) (hT : rune.Tabs w) (hE : readq.ErrVar w "strconv.ErrSyntax") (hR : whole.ErrVar w "strconv.ErrRange") (hM : MaxL w) :
    Calls Tryz.prog 24 #[.string a, .string b] w fun e w' => e = .returned (.bool (sameF a b)) ∧ Below w.heap.size w w' := by
  have HA := Lib.hid (fun w2 (hb : Below w.heap.size w w2) => impl_rs a w2 ha (hT.below hb) (hE.below hb) (hR.below hb) (hM.below hb))
  have HB := Lib.hid (fun w2 (hb : Below w.heap.size w w2) => impl_rs b w2 hb9 (hT.below hb) (hE.below hb) (hR.below hb) (hM.below hb))
  have la := out_leaf a
  have lb := out_leaf b
  have hres : sameF a b = ((scalarF a).isSome && ((scalarF b).isSome && same (outT (scalarF a)) (outT (scalarF b)))) := rfl
  unfold RsOut at HA HB
  rw [hres]
  generalize outT (scalarF a) = ta at HA la
  generalize outT (scalarF b) = tb at HB lb
  generalize (scalarF a).isSome = ba at HA
  generalize (scalarF b).isSome = bb at HB
  have lsz : size ta ≤ 1099511627776 := by rw [la.eq]; simp [leafT, size, sizes]
  have HE := Lib.hid (fun w2 => impl_same 1 1 ta tb _ _ w2 (own_of_leaf (B := 0) la).lies (own_of_leaf (B := 0) lb).lies lsz)
  generalize same ta tb = r at HE
  generalize ta.kind = k0 at HA HE
  generalize ta.flag = f0 at HA HE
  generalize ta.num = n0 at HA HE
  generalize ta.text = x0 at HA HE
  generalize tb.kind = k1 at HB HE
  generalize tb.flag = f1 at HB HE
  generalize tb.num = n1 at HB HE
  generalize tb.text = x1 at HB HE
  clear la lb lsz hres hT hE hR hM
  go_enter Tryz.func24, Tryz.ntmps24
  go_wp2_with fail
  refine (HA.out _ (Below.refl _ _)).mono ?_
  rintro e w1 ⟨rfl, hb1⟩
  obtain ⟨w2, hw2⟩ : ∃ w2, w2 = w1.alloc (.cells #[.int .i64 k0, .bool f0, .int .i64 n0, .string x0, .slice none 0 0, .slice none 0 0] 34) := ⟨_, rfl⟩
  have hb12 : Below w1.heap.size w1 w2 := by subst hw2; exact (Below.refl _ _).alloc (Nat.le_refl _) _
  have P0 := Lib.hid (show Row6 w2 w1.heap.size (.int .i64 k0) (.bool f0) (.int .i64 n0) (.string x0) (.slice none 0 0) (.slice none 0 0) by subst hw2; exact Row6.of (heap_alloc_new w1 _))
  have B2 := Lib.hid (below_link hb1 hb12 hb1.size)
  have Hw2 := Lib.hid hw2
  clear HA hb1 hb12 hw2
  have hone0 : (#[.int .i64 k0, .bool f0, .int .i64 n0, .string x0, .slice none 0 0, .slice none 0 0] : Array Value).all (·.oneCell') = true := by simp [Value.oneCell']
  go_wp2_with (first | (refine wpList_store_row rfl 34 _ _ rfl w1.heap.size #[.int .i64 k0, .bool f0, .int .i64 n0, .string x0, .slice none 0 0, .slice none 0 0] rfl rfl 34 _ (heap_alloc_new w1 _) tree_size' rfl hone0 ?_; rw [World.setRow_alloc_new]) | fail)
  rw [← Hw2.out]
  refine (HB.out _ B2.out).mono ?_
  rintro e w3 ⟨rfl, hb3⟩
  obtain ⟨w4, hw4⟩ : ∃ w4, w4 = w3.alloc (.cells #[.int .i64 k1, .bool f1, .int .i64 n1, .string x1, .slice none 0 0, .slice none 0 0] 34) := ⟨_, rfl⟩
  have hb34 : Below w3.heap.size w3 w4 := by subst hw4; exact (Below.refl _ _).alloc (Nat.le_refl _) _
  have hb24 := below_link hb3 hb34 hb3.size
  have P1 := Lib.hid (show Row6 w4 w3.heap.size (.int .i64 k1) (.bool f1) (.int .i64 n1) (.string x1) (.slice none 0 0) (.slice none 0 0) by subst hw4; exact Row6.of (heap_alloc_new w3 _))
  have P0' := Lib.hid (P0.out.below hb24)
  have B4 := Lib.hid (below_link B2.out hb24 B2.out.size)
  have Hw4 := Lib.hid hw4
  clear HB hb3 hb34 hb24 hw4 P0 B2 Hw2
  obtain ⟨p0, p1, p2, p3, p4, p5⟩ := P0'.out
  obtain ⟨q0, q1, q2, q3, q4, q5⟩ := P1.out
  rw [Hw4.out] at p0 p1 p2 p3 p4 p5 q0 q1 q2 q3 q4 q5
  have hone1 : (#[.int .i64 k1, .bool f1, .int .i64 n1, .string x1, .slice none 0 0, .slice none 0 0] : Array Value).all (·.oneCell') = true := by simp [Value.oneCell']
  have B4' : Hid (Below w.heap.size w (w3.alloc (.cells #[.int .i64 k1, .bool f1, .int .i64 n1, .string x1, .slice none 0 0, .slice none 0 0] 34))) := by unfold Hid; rw [← Hw4.out]; exact B4.out
  cases ba with
  | false =>
    go_wp2_with (first | (refine wpList_store_row rfl 34 _ _ rfl w3.heap.size #[.int .i64 k1, .bool f1, .int .i64 n1, .string x1, .slice none 0 0, .slice none 0 0] rfl rfl 34 _ (heap_alloc_new w3 _) tree_size' rfl hone1 ?_; rw [World.setRow_alloc_new]) | fail)
    go_ret
    exact ⟨rfl, B4'.out⟩
  | true =>
    cases bb with
    | false =>
      go_wp2_with (first | (refine wpList_store_row rfl 34 _ _ rfl w3.heap.size #[.int .i64 k1, .bool f1, .int .i64 n1, .string x1, .slice none 0 0, .slice none 0 0] rfl rfl 34 _ (heap_alloc_new w3 _) tree_size' rfl hone1 ?_; rw [World.setRow_alloc_new]) | fail)
      go_ret
      exact ⟨rfl, B4'.out⟩
    | true =>
      go_wp2_with (first | (refine wpList_store_row rfl 34 _ _ rfl w3.heap.size #[.int .i64 k1, .bool f1, .int .i64 n1, .string x1, .slice none 0 0, .slice none 0 0] rfl rfl 34 _ (heap_alloc_new w3 _) tree_size' rfl hone1 ?_; rw [World.setRow_alloc_new]) | fail)
      rw [← Hw4.out]
      refine (HE.out _).mono ?_
      rintro e w5 ⟨rfl, hb5⟩
      have B5 := Lib.hid (below_link B4.out hb5 B4.out.size)
      clear hb5 HE
      go_wp2_with fail
      go_ret
      exact ⟨rfl, B5.out⟩
end Go.Proofs.YtegpcjkcejijpaaGreatDoor.line
