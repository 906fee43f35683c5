/- impl.kidAt: the very kid. -/
import Derived.Test.YtangdmjdjiddcaaDoorKidRet
import Derived.Test.YtangdmjdjiddcaaDoorGA7
namespace Go.Proofs.YtangdmjdjiddcaaDoor.tree
open Go.ChangeShapes Go.WideShapes Go.ChangeAt Go.RowKit
set_option linter.unusedVariables false

set_option maxRecDepth 100000 in
set_option maxHeartbeats 4000000 in
theorem impl_kidAt {f : Nat} (t : T) (key : ByteArray) (vs : List Value) (w : World) (h : LiesS w f vs (row t)) :
    Calls Tryd.prog 69 #[.agg vs.toArray, .string key] w fun e w' => KidAtOut (f + 1) (kidOf t key) e w' ∧ Below w.heap.size w w' := by
  obtain ⟨k, fl, n, s, ks, kids⟩ := t
  have hcopy := h
  obtain ⟨A1, c1, A2, c2, rfl, _, _, _, hc1, hc2, hr, _, hc3, hc4, f', rfl, hk⟩ := open_tree h
  unfold maxLen at hc2 hc4
  obtain ⟨w1, hw1⟩ : ∃ w1, w1 = (w.alloc (.cells #[.int .i64 k, .bool fl, .int .i64 n, .string s, .slice A1 ks.length c1, .slice A2 kids.length c2] 35)).alloc (.cells #[.int .i64 0, .bool false, .int .i64 0, .string ⟨#[]⟩, .slice none 0 0, .slice none 0 0] 35) := ⟨_, rfl⟩
  have hb1 : Below w.heap.size w w1 := by subst hw1; exact ((Below.refl _ _).alloc (Nat.le_refl _) _).alloc (by simp) _
  have h10 : w1.heap[w.heap.size]? = some (.cells #[.int .i64 k, .bool fl, .int .i64 n, .string s, .slice A1 ks.length c1, .slice A2 kids.length c2] 35 (0, 0)) := by
    subst hw1
    rw [Below.heap_alloc _ _ _ (by simp)]
    exact heap_alloc_new w _
  have h11 : w1.heap[w.heap.size + 1]? = some (.cells #[.int .i64 0, .bool false, .int .i64 0, .string ⟨#[]⟩, .slice none 0 0, .slice none 0 0] 35 (0, 0)) := by
    subst hw1
    have h := heap_alloc_new (w.alloc (.cells #[.int .i64 k, .bool fl, .int .i64 n, .string s, .slice A1 ks.length c1, .slice A2 kids.length c2] 35)) (.cells #[.int .i64 0, .bool false, .int .i64 0, .string ⟨#[]⟩, .slice none 0 0, .slice none 0 0] 35)
    simpa using h
  have HK := Lib.hid (impl_key _ key _ w1 (hcopy.below hb1))
  have H10 := Lib.hid h10
  have H11 := Lib.hid h11
  have Hb1 := Lib.hid hb1
  have Hw1 := Lib.hid hw1
  have Hk := Lib.hid hk
  obtain ⟨p0, p1, p2, p3, p4, p5⟩ := Row6.of h10
  rw [Hw1.out] at p0 p1 p2 p3 p4 p5
  obtain ⟨R, hR⟩ : ∃ R, kidOf (.mk k fl n s ks kids) key = R := ⟨_, rfl⟩
  rw [hR]
  have HR := Lib.hid hR
  obtain ⟨K, hK⟩ : ∃ K, keyAt (.mk k fl n s ks kids) key = K := ⟨_, rfl⟩
  rw [hK] at HK
  have Hkey := Lib.hid hK
  clear hcopy h hr hk h10 h11 hb1 hw1 hR hK
  go_enter Tryd.func69, Tryd.ntmps69
  go_wp2_with fail
  rw [← Hw1.out]
  refine HK.out.mono ?_
  rintro e w2 ⟨rfl, hb2⟩
  have h20 := heap_kept hb2 (heap_lt H10.out) H10.out
  have h21 := heap_kept hb2 (heap_lt H11.out) H11.out
  have Hb2 := Lib.hid (below_link Hb1.out hb2 Hb1.out.size)
  clear HK hb2 p0 p1 p2 p3 p4 p5 Hw1
  obtain ⟨p0, p1, p2, p3, p4, p5⟩ := Row6.of h20
  have hz1 : (#[.int .i64 0, .bool false, .int .i64 0, .string ⟨#[]⟩, .slice none 0 0, .slice none 0 0] : Array Value).all (·.oneCell') = true := by simp [Value.oneCell']
  by_cases hno : K < 0 ∨ ks.length ≠ kids.length
  · have Hend := Lib.hid (show R = (zero, false) by
      rw [← HR.out]
      unfold kidOf
      rw [if_neg (by rw [Hkey.out]; simp only [T.keys, T.kids]; omega)])
    have H21 := Lib.hid h21
    have hlen2 : ¬ K < 0 → ((ks.length : Int) != kids.length) = true := fun h => by rw [bne_iff_ne]; omega
    have Hlen2 := Lib.hid hlen2
    clear hlen2 hno Hkey HR Hk
    by_cases h0 : K < 0
    · go_wp2_with (first | (refine wpList_store_row rfl 35 _ _ rfl (w.heap.size + 1) #[.int .i64 0, .bool false, .int .i64 0, .string ⟨#[]⟩, .slice none 0 0, .slice none 0 0] rfl rfl 35 _ h21 tree_size' rfl hz1 ?_) | fail)
      have e := Hend.out
      subst e
      refine bodyPost_ret (v := .tuple #[.agg #[.int .i64 0, .bool false, .int .i64 0, .string ⟨#[]⟩, .slice none 0 0, .slice none 0 0], .bool false]) ?_ rfl ⟨⟨1, _, by omega, rfl, (own_zero (B := 0) 0).lies⟩, setRow_below Hb2.out (by omega) _⟩
      exact ret_tree2 rfl rfl rfl rfl (setRow_at H21.out)
    · have hl := Hlen2.out h0
      go_wp2_with (first | (refine wpList_store_row rfl 35 _ _ rfl (w.heap.size + 1) #[.int .i64 0, .bool false, .int .i64 0, .string ⟨#[]⟩, .slice none 0 0, .slice none 0 0] rfl rfl 35 _ h21 tree_size' rfl hz1 ?_) | fail)
      have e := Hend.out
      subst e
      refine bodyPost_ret (v := .tuple #[.agg #[.int .i64 0, .bool false, .int .i64 0, .string ⟨#[]⟩, .slice none 0 0, .slice none 0 0], .bool false]) ?_ rfl ⟨⟨1, _, by omega, rfl, (own_zero (B := 0) 0).lies⟩, setRow_below Hb2.out (by omega) _⟩
      exact ret_tree2 rfl rfl rfl rfl (setRow_at H21.out)
  · have hK0 : 0 ≤ K := by omega
    have hlen : ks.length = kids.length := by omega
    have hend : R = (kids.getD K.toNat zero, true) := by
      rw [← HR.out]
      unfold kidOf
      rw [if_pos (by rw [Hkey.out]; exact ⟨hK0, hlen⟩), Hkey.out]
      rfl
    have hi : K.toNat < kids.length := by
      have hk1 := Hkey.out
      unfold keyAt at hk1
      split at hk1
      · rcases keyFrom_cases key ks 0 with ⟨h1, _⟩ | ⟨i, h1, h2, _⟩
        · have : keyFrom key ks 0 = K := hk1
          omega
        · have h3 := (List.getElem?_eq_some_iff.1 h2).1
          have : keyFrom key ks 0 = K := hk1
          omega
      · omega
    obtain ⟨i, rfl⟩ := Int.eq_ofNat_of_zero_le hK0
    rw [Int.toNat_natCast] at hi hend
    obtain ⟨g, o, rfl, hg, hkid⟩ := Hk.out (by omega)
    obtain ⟨u0, u1, u2, u3, u4, u5, hsix, hls⟩ := hkid i kids[i] (List.getElem?_eq_getElem hi)
    obtain ⟨q0, q1, q2, q3, q4, q5⟩ := hsix.block (Hb2.out.block g hg)
    have Hend := Lib.hid (show R = (kids[i], true) by rw [hend]; simp [List.getD, hi])
    have hl : ((ks.length : Int) == kids.length) = true := by rw [hlen]; simp
    have hone : (#[u0, u1, u2, u3, u4, u5] : Array Value).all (·.oneCell') = true := by simpa using LiesS.ones hls
    have H21 := Lib.hid h21
    have Hls := Lib.hid hls
    clear hno hkid hls hsix hg HR Hkey Hk hend hK0 h21 h20
    generalize kids[i] = x at Hls Hend
    go_wp2_with (first | (refine wpList_store_row rfl 35 _ _ rfl (w.heap.size + 1) #[u0, u1, u2, u3, u4, u5] rfl rfl 35 _ H21.out tree_size' rfl hone ?_) | fail)
    have e := Hend.out
    subst e
    refine bodyPost_ret (v := .tuple #[.agg #[u0, u1, u2, u3, u4, u5], .bool true]) ?_ rfl ⟨⟨f', _, by omega, rfl, Hls.out.below (setRow_below Hb2.out (by omega) _)⟩, setRow_below Hb2.out (by omega) _⟩
    exact ret_tree2 rfl rfl rfl rfl (setRow_at H21.out)
end Go.Proofs.YtangdmjdjiddcaaDoor.tree
