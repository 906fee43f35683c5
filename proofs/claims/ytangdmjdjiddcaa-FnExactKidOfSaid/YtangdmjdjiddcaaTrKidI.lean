/- impl.KidOf: kidAt, then the copy. -/
import Derived.Test.YtangdmjdjiddcaaKidOut
import Derived.Test.YtangdmjdjiddcaaKidAtI
import Derived.Test.YtangdmjdjiddcaaGA6
namespace Go.Proofs.Ytangdmjdjiddcaa.tree
open Go.ChangeShapes Go.WideShapes Go.ChangeAt Go.RowKit
set_option linter.unusedVariables false

set_option maxRecDepth 100000 in
set_option maxHeartbeats 4000000 in
theorem impl_kid {f : Nat} (t : T) (key : ByteArray) (vs : List Value) (w : World) (h : LiesS w f vs (row t)) (hw : weight t ≤ 1048576) :
    Calls Try.prog 10 #[.agg vs.toArray, .string key] w fun e w' => KidOut w.heap.size (f + 3) (kidOf t key) e w' ∧ Below w.heap.size w w' := by
  obtain ⟨u0, u1, u2, u3, u4, u5, rfl⟩ := six_of (h.1.trans (row_length t))
  obtain ⟨w1, hw1⟩ : ∃ w1, w1 = (w.alloc (.cells #[u0, u1, u2, u3, u4, u5] 31)).alloc (.cells #[.int .i64 0, .bool false, .int .i64 0, .string ⟨#[]⟩, .slice none 0 0, .slice none 0 0] 31) := ⟨_, rfl⟩
  have hb1 : Below w.heap.size w w1 := by subst hw1; exact ((Below.refl _ _).alloc (Nat.le_refl _) _).alloc (by simp) _
  have h10 : w1.heap[w.heap.size]? = some (.cells #[u0, u1, u2, u3, u4, u5] 31 (0, 0)) := by
    subst hw1
    rw [Below.heap_alloc _ _ _ (by simp)]
    exact heap_alloc_new w _
  have h11 : w1.heap[w.heap.size + 1]? = some (.cells #[.int .i64 0, .bool false, .int .i64 0, .string ⟨#[]⟩, .slice none 0 0, .slice none 0 0] 31 (0, 0)) := by
    subst hw1
    have h := heap_alloc_new (w.alloc (.cells #[u0, u1, u2, u3, u4, u5] 31)) (.cells #[.int .i64 0, .bool false, .int .i64 0, .string ⟨#[]⟩, .slice none 0 0, .slice none 0 0] 31)
    simpa using h
  have HK := Lib.hid (impl_kidAt t key _ w1 (h.below hb1))
  have hwk := kidOf_weight t key
  have H11 := Lib.hid h11
  have Hb1 := Lib.hid hb1
  have Hw1 := Lib.hid hw1
  obtain ⟨p0, p1, p2, p3, p4, p5⟩ := Row6.of h10
  rw [Hw1.out] at p0 p1 p2 p3 p4 p5
  obtain ⟨R, hR⟩ : ∃ R, kidOf t key = R := ⟨_, rfl⟩
  rw [hR] at hwk HK ⊢
  have Hno := Lib.hid (show R.2 = false → R.1 = zero from by rw [← hR]; unfold kidOf; split <;> simp)
  obtain ⟨K, b⟩ := R
  have Hwk := Lib.hid (show weight K ≤ 1048576 by simp only at hwk; omega)
  clear h h10 h11 hb1 hw1 hR hw hwk
  have hz1 : (#[.int .i64 0, .bool false, .int .i64 0, .string ⟨#[]⟩, .slice none 0 0, .slice none 0 0] : Array Value).all (·.oneCell') = true := by simp [Value.oneCell']
  go_enter Try.func10, Try.ntmps10
  go_wp2_with fail
  rw [← Hw1.out]
  refine HK.out.mono ?_
  rintro e w2 ⟨⟨f2, us, hf2, rfl, hl⟩, hb2⟩
  obtain ⟨x0, x1, x2, x3, x4, x5, rfl⟩ := six_of (hl.1.trans (row_length _))
  have hone : (#[x0, x1, x2, x3, x4, x5] : Array Value).all (·.oneCell') = true := by simpa using LiesS.ones hl
  obtain ⟨w3, hw3⟩ : ∃ w3, w3 = w2.alloc (.cells #[x0, x1, x2, x3, x4, x5] 31) := ⟨_, rfl⟩
  have hb3 : Below w2.heap.size w2 w3 := by subst hw3; exact (Below.refl _ _).alloc (Nat.le_refl _) _
  have h21 := heap_kept hb3 (heap_lt (heap_kept hb2 (heap_lt H11.out) H11.out)) (heap_kept hb2 (heap_lt H11.out) H11.out)
  have H21 := Lib.hid h21
  have hkid : w3.heap[w2.heap.size]? = some (.cells #[x0, x1, x2, x3, x4, x5] 31 (0, 0)) := by subst hw3; exact heap_alloc_new w2 _
  have Hkid := Lib.hid hkid
  have Hb2 := Lib.hid (below_link Hb1.out hb2 Hb1.out.size)
  have Hb3 := Lib.hid (below_link Hb2.out hb3 Hb2.out.size)
  have Hl := Lib.hid (hl.below hb3)
  have Hw3 := Lib.hid hw3
  have Hf2 := Lib.hid hf2
  clear HK hb2 hb3 p0 p1 p2 p3 p4 p5 Hw1 h21 hkid hl hw3 hf2 H11
  cases b with
  | false =>
    have hK : K = zero := Hno.out rfl
    subst hK
    go_wp2_with (first | (refine wpList_store_row rfl 31 _ _ rfl w2.heap.size #[x0, x1, x2, x3, x4, x5] rfl rfl 31 _ (heap_alloc_new w2 _) tree_size' rfl hone ?_; rw [World.setRow_alloc_new]) | (rw [← Hw3.out]; refine wpList_store_row rfl 31 _ _ rfl (w.heap.size + 1) #[.int .i64 0, .bool false, .int .i64 0, .string ⟨#[]⟩, .slice none 0 0, .slice none 0 0] rfl rfl 31 _ H21.out tree_size' rfl hz1 ?_) | fail)
    refine bodyPost_ret (v := .tuple #[.agg #[.int .i64 0, .bool false, .int .i64 0, .string ⟨#[]⟩, .slice none 0 0, .slice none 0 0], .bool false]) ?_ rfl ⟨⟨_, [], rfl, (own_zero _), List.nodup_nil⟩, setRow_below Hb3.out (by omega) _⟩
    exact ret_tree2 rfl rfl rfl rfl (setRow_at H21.out)
  | true =>
    have HC := Lib.hid (impl_copy _ K _ w3 Hl.out Hwk.out)
    obtain ⟨p0, p1, p2, p3, p4, p5⟩ := Row6.of Hkid.out
    rw [Hw3.out] at p0 p1 p2 p3 p4 p5
    go_wp2_with (first | (refine wpList_store_row rfl 31 _ _ rfl w2.heap.size #[x0, x1, x2, x3, x4, x5] rfl rfl 31 _ (heap_alloc_new w2 _) tree_size' rfl hone ?_; rw [World.setRow_alloc_new]) | fail)
    rw [← Hw3.out]
    refine HC.out.mono ?_
    rintro e w4 ⟨⟨us, F, rfl, ho, hnd⟩, hb4⟩
    obtain ⟨y0, y1, y2, y3, y4, y5, rfl⟩ := six_of (ho.1.trans (row_length _))
    have hone2 := ho.one
    have h41 := heap_kept hb4 (heap_lt H21.out) H21.out
    have H41 := Lib.hid h41
    have Ho := Lib.hid ho
    have Hb4 := Lib.hid (below_link Hb3.out hb4 Hb3.out.size)
    have Hlt := Lib.hid (heap_lt H21.out)
    clear HC ho hb4 p0 p1 p2 p3 p4 p5 h41
    go_wp2_with (first | (refine wpList_store_row rfl 31 _ _ rfl (w.heap.size + 1) #[y0, y1, y2, y3, y4, y5] rfl rfl 31 _ H41.out tree_size' rfl hone2 ?_) | fail)
    have ho3 : OwnS (w4.setRow (w.heap.size + 1) #[y0, y1, y2, y3, y4, y5]) w.heap.size (f + 3) [y0, y1, y2, y3, y4, y5] (row K) F := ((OwnS.kept (fun y hy => by
      have h3 := (Ho.out.range y hy).1
      have h4 := Hlt.out
      simp only [World.setRow, Array.getElem?_modify]
      rw [if_neg (by omega)]) Ho.out).lower (by have := Hlt.out; omega)).deeper (by have := Hf2.out; omega)
    refine bodyPost_ret (v := .tuple #[.agg #[y0, y1, y2, y3, y4, y5], .bool true]) ?_ rfl ⟨⟨_, F, rfl, ho3, hnd⟩, setRow_below Hb4.out (by omega) _⟩
    exact ret_tree2 rfl rfl rfl rfl (setRow_at H41.out)
end Go.Proofs.Ytangdmjdjiddcaa.tree
