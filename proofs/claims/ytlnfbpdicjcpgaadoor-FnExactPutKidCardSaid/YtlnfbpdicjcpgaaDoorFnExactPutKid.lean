/- FnExactPutKid: the law returns true at every argument. -/
import Derived.Test.YtlnfbpdicjcpgaaDoorGLaw
import Derived.Test.YtlnfbpdicjcpgaaDoorTrHeld
import Derived.Test.YtlnfbpdicjcpgaaDoorPutS
import Derived.Test.YtlnfbpdicjcpgaaDoorPutJ
import Derived.Deep.RegionHeld3
import Derived.Deep.CutRange
import Derived.Test.YtlnfbpdicjcpgaaDoorDrawTree
namespace Go.Proofs.YtlnfbpdicjcpgaaDoor.fnExactPutKid
open Go.ChangeShapes Go.WideShapes Go.ChangeAt Go.RowKit
open tree
open rune (Tabs)
set_option linter.unusedVariables false

theorem put_weight {t kid : T} {key : ByteArray} (h : weight t ≤ 1048576) : weight (putKid t key kid).1 ≤ 1048576 := by
  unfold putKid
  split
  · rename_i hc
    have h1 := ok_weight _ hc.2.2.2.2
    have h2 := hc.2.2.2.1
    show weight (putT t key kid) ≤ _
    omega
  · exact h
set_option maxRecDepth 100000 in
set_option maxHeartbeats 16000000 in
theorem walk (s : T) (e : Nat) (zs : List Value) (key : ByteArray) (t : T) (f : Nat) (vs : List Value) (W : World) (g : LiesS W e zs (row s)) (hkey : key.size ≤ maxLen) (h : LiesS W f vs (row t)) (hT : Tabs W) :
    Calls Tryd.prog 3 #[.agg zs.toArray, .string key, .agg vs.toArray] W fun e w' => e = .returned (.bool true) ∧ Below W.heap.size W w' := by
  unfold maxLen at hkey
  obtain ⟨u0, u1, u2, u3, u4, u5, rfl⟩ := six_of (g.1.trans (row_length s))
  obtain ⟨v0, v1, v2, v3, v4, v5, rfl⟩ := six_of (h.1.trans (row_length t))
  obtain ⟨w1, hw1⟩ : ∃ x, x = (W.alloc (.cells #[u0, u1, u2, u3, u4, u5] 25)).alloc (.cells #[v0, v1, v2, v3, v4, v5] 25) := ⟨_, rfl⟩
  have hb1 : Below W.heap.size W w1 := by subst hw1; exact ((Below.refl _ _).alloc (Nat.le_refl _) _).alloc (by simp) _
  have hp : Row6 w1 W.heap.size u0 u1 u2 u3 u4 u5 := by subst hw1; exact Row6.below (Row6.of (heap_alloc_new W _)) ((Below.refl _ _).alloc (Nat.le_refl _) _)
  have hq : Row6 w1 (W.heap.size + 1) v0 v1 v2 v3 v4 v5 := by
    subst hw1
    have h := Row6.of (heap_alloc_new (W.alloc (.cells #[u0, u1, u2, u3, u4, u5] 25)) (.cells #[v0, v1, v2, v3, v4, v5] 25))
    rw [World.size_alloc] at h
    exact h
  have Hw1 := Lib.hid hw1
  have Hb1 := Lib.hid hb1
  have ARG := Lib.hid hp
  have BRG := Lib.hid hq
  have Gl := Lib.hid (g.below hb1)
  have Hl := Lib.hid (h.below hb1)
  have HTb := Lib.hid (hT.below hb1)
  have BB := Lib.hid (Below.refl w1.heap.size w1)
  have S0 := Lib.hid (show W.heap.size + 1 < w1.heap.size by subst hw1; simp)
  clear g h hb1 hp hq hw1 hT
  by_cases hk : 1048576 < key.size
  · go_enter Tryd.func3, Tryd.ntmps3
    go_wp2_with fail
    rw [← Hw1.out]
    go_ret
    exact ⟨rfl, Hb1.out⟩
  have GZ := Lib.hid (sz_tree s _ 1048576 w1 Gl.out ⟨by decide, by decide⟩)
  by_cases gw : (1048576 : Int) < weight s
  · rw [cut_no gw] at GZ
    obtain ⟨p0, p1, p2, p3, p4, p5⟩ := ARG.out
    rw [Hw1.out] at p0 p1 p2 p3 p4 p5
    go_enter Tryd.func3, Tryd.ntmps3
    go_wp2_with fail
    rw [← Hw1.out]
    refine GZ.out.mono ?_
    rintro e w2 ⟨rfl, hb2⟩
    have Hb2 := Lib.hid (below_link Hb1.out hb2 Hb1.out.size)
    clear hb2 p0 p1 p2 p3 p4 p5
    go_wp2_with fail
    go_ret
    exact ⟨rfl, Hb2.out⟩
  rw [cut_yes gw] at GZ
  have gwn : weight s ≤ 1048576 := by omega
  have gleft : ¬ (1048576 - (weight s : Int)) < 0 := by omega
  have HZ := Lib.hid (fun w' (hb : Below w1.heap.size w1 w') => sz_tree t _ (1048576 - (weight s : Int)) w' (Hl.out.below hb) ⟨by omega, by omega⟩)
  by_cases hw : (1048576 - (weight s : Int)) < weight t
  · rw [cut_no hw] at HZ
    obtain ⟨p0, p1, p2, p3, p4, p5⟩ := ARG.out
    rw [Hw1.out] at p0 p1 p2 p3 p4 p5
    clear hw
    generalize (1048576 - (weight s : Int)) = left at GZ HZ gleft
    go_enter Tryd.func3, Tryd.ntmps3
    go_wp2_with fail
    rw [← Hw1.out]
    refine GZ.out.mono ?_
    rintro e w2 ⟨rfl, hb2⟩
    have Hb2 := Lib.hid (below_link Hb1.out hb2 Hb1.out.size)
    have BB2 := Lib.hid hb2
    obtain ⟨q0, q1, q2, q3, q4, q5⟩ := BRG.out.below hb2
    clear hb2 p0 p1 p2 p3 p4 p5
    go_wp2_with fail
    refine (HZ.out w2 BB2.out).mono ?_
    rintro e w3 ⟨rfl, hb3⟩
    have Hb3 := Lib.hid (below_link Hb2.out hb3 Hb2.out.size)
    clear hb3 q0 q1 q2 q3 q4 q5
    go_wp2_with fail
    go_ret
    exact ⟨rfl, Hb3.out⟩
  rw [cut_yes hw] at HZ
  have hwn : weight t ≤ 1048576 := by omega
  have hleft : ¬ (1048576 - (weight s : Int) - (weight t : Int)) < 0 := by omega
  have GT := Lib.hid (fun w (hl : LiesS w e [u0, u1, u2, u3, u4, u5] (row s)) => to_tree s _ w hl gwn)
  have HT := Lib.hid (fun w (hl : LiesS w f [v0, v1, v2, v3, v4, v5] (row t)) => to_tree t _ w hl hwn)
  have HS := Lib.hid (fun f f' us xs w (h1 : LiesS w f us (row s)) (h2 : LiesS w f' xs (row t)) => spec_put (f := max f f') s key t us xs w (h1.deeper (Nat.le_max_left f f')) (h2.deeper (Nat.le_max_right f f')) (by unfold maxLen; omega) gwn hwn)
  have HI := Lib.hid (fun B f F f' us xs w (h1 : OwnS w B f us (row s) F) (hn : F.Nodup) (h2 : LiesS w f' xs (row t)) (hb : Below w1.heap.size w1 w) => impl_put s key t us xs w h1 hn h2 (by omega) gwn hwn (HTb.out.below hb))
  have GE := Lib.hid (fun f f' us xs w (h1 : LiesS w f us (row s)) (h2 : LiesS w f' xs (row s)) => eq_tree s us xs w (h1.deeper (Nat.le_max_left f f')) (h2.deeper (Nat.le_max_right f f')))
  have HE := Lib.hid (fun f f' us xs w (h1 : LiesS w f us (row t)) (h2 : LiesS w f' xs (row t)) => eq_tree t us xs w (h1.deeper (Nat.le_max_left f f')) (h2.deeper (Nat.le_max_right f f')))
  have hKw := put_weight (t := s) (kid := t) (key := key) gwn
  generalize putKid s key t = R at HS HI hKw
  obtain ⟨KT, b⟩ := R
  have hcS : (1 : Int) + topCost s + topCost t ≤ 4611686018427387904 := by have := topCost_le s; have := topCost_le t; omega
  have hcK : (1 : Int) + topCost KT ≤ 4611686018427387904 := by have := topCost_le KT; have hKw' : weight KT ≤ 1048576 := hKw; omega
  have HEK := Lib.hid (fun f f' us xs w (h1 : LiesS w f us (row KT)) (h2 : LiesS w f' xs (row KT)) => eq_tree KT us xs w (h1.deeper (Nat.le_max_left f f')) (h2.deeper (Nat.le_max_right f f')))
  have c0 : (0 : Int) ≤ topCost s := Int.natCast_nonneg _
  have c1 : (0 : Int) ≤ topCost KT := Int.natCast_nonneg _
  have c2 : (0 : Int) ≤ topCost t := Int.natCast_nonneg _
  have HM := Lib.hid (fun B f vs F w (h : OwnS w B f vs (row s) F) (hnd : F.Nodup) => mark_tree s vs F 1 w h hnd (by decide) (by omega))
  have HM2 := Lib.hid (fun B f vs F w (h : OwnS w B f vs (row t) F) (hnd : F.Nodup) => mark_tree t vs F (1 + topCost s) w h hnd (by omega) (by omega))
  have HMK := Lib.hid (fun B f vs F w (h : OwnS w B f vs (row KT) F) (hnd : F.Nodup) => mark_tree KT vs F 1 w h hnd (by decide) hcK)
  have HHK := Lib.hid (fun f vs w (h : LiesS w f vs (row (topT KT 1))) => held_tree KT vs 1 w h (by decide) hcK)
  have eb : (b != b) = false := by simp
  clear hw gw hwn gwn hKw hcS hcK
  generalize (1048576 - (weight s : Int) - (weight t : Int)) = left2 at HZ hleft
  generalize (1048576 - (weight s : Int)) = left at GZ HZ gleft
  generalize (topCost s : Int) = C0 at HM HM2 c0
  generalize (topCost KT : Int) = C1 at HMK HHK c1
  generalize (topCost t : Int) = C2 at HM2 c2
  have n0 : ¬ (1 + C0 + C2 < 0) := by omega
  have n1 : ¬ (1 + C1 < 0) := by omega
  go_enter Tryd.func3, Tryd.ntmps3
  obtain ⟨argc0, argc1, argc2, argc3, argc4, argc5⟩ := (ARG.out.below BB.out)
  rw [Hw1.out] at argc0 argc1 argc2 argc3 argc4 argc5
  go_wp2_with fail
  rw [← Hw1.out]
  refine (GZ.out).mono ?_
  rintro e w2 ⟨rfl, hb1⟩
  have BB_2 := Lib.hid (below_link BB.out hb1 BB.out.size)
  clear BB
  have BB := BB_2
  clear BB_2
  have S3 := Lib.hid (show w1.heap.size ≤ w2.heap.size from hb1.size)
  clear argc0 argc1 argc2 argc3 argc4 argc5 hb1
  obtain ⟨brgc0, brgc1, brgc2, brgc3, brgc4, brgc5⟩ := (BRG.out.below BB.out)
  go_wp2_with fail
  refine (HZ.out _ BB.out).mono ?_
  rintro e w3 ⟨rfl, hb4⟩
  have BB_5 := Lib.hid (below_link BB.out hb4 BB.out.size)
  clear BB
  have BB := BB_5
  clear BB_5
  have S6 := Lib.hid (show w2.heap.size ≤ w3.heap.size from hb4.size)
  clear brgc0 brgc1 brgc2 brgc3 brgc4 brgc5 hb4
  have KS := Lib.hid (show ∀ w', Below w1.heap.size w1 w' → Below w1.heap.size w1 w' ∧ w'.cell? ⟨W.heap.size, 0, none⟩ = some u0 ∧ w'.cell? ⟨W.heap.size, 1, none⟩ = some u1 ∧ w'.cell? ⟨W.heap.size, 2, none⟩ = some u2 ∧ w'.cell? ⟨W.heap.size, 3, none⟩ = some u3 ∧ w'.cell? ⟨W.heap.size, 4, none⟩ = some u4 ∧ w'.cell? ⟨W.heap.size, 5, none⟩ = some u5 ∧ w'.cell? ⟨W.heap.size + 1, 0, none⟩ = some v0 ∧ w'.cell? ⟨W.heap.size + 1, 1, none⟩ = some v1 ∧ w'.cell? ⟨W.heap.size + 1, 2, none⟩ = some v2 ∧ w'.cell? ⟨W.heap.size + 1, 3, none⟩ = some v3 ∧ w'.cell? ⟨W.heap.size + 1, 4, none⟩ = some v4 ∧ w'.cell? ⟨W.heap.size + 1, 5, none⟩ = some v5 from fun w' hb => by
    obtain ⟨p0, p1, p2, p3, p4, p5⟩ := ARG.out.below hb
    obtain ⟨q0, q1, q2, q3, q4, q5⟩ := BRG.out.below hb
    exact ⟨hb, p0, p1, p2, p3, p4, p5, q0, q1, q2, q3, q4, q5⟩)
  go_upto_region 10 with fail
  go_cut [8, 9] from 32 to 40 (fun sA sB wx => Hid (∃ (X : Nat) (us : List Value) (F : List Nat) (fK : Nat), sA = .pointer (some ⟨X, 0, none⟩) ∧ sB = .bool b ∧ wx.heap[X]? = some (.cells us.toArray 29 (0, 0)) ∧ OwnS wx w3.heap.size fK us (row KT) F ∧ F.Nodup ∧ X ∉ F ∧ w3.heap.size ≤ X ∧ Below w3.heap.size w3 wx))
  case first =>
    have B0 := Lib.hid (BB.out.trans ((Below.refl w3.heap.size w3).drew.mono BB.out.size))
    have hbo : Below w3.heap.size w3 w3.drew := (Below.refl _ _).drew
    have hso := hbo.size
    refine wp_region_held_drew (S := (fun w' => Below w1.heap.size w1 w' ∧ w'.cell? ⟨W.heap.size, 0, none⟩ = some u0 ∧ w'.cell? ⟨W.heap.size, 1, none⟩ = some u1 ∧ w'.cell? ⟨W.heap.size, 2, none⟩ = some u2 ∧ w'.cell? ⟨W.heap.size, 3, none⟩ = some u3 ∧ w'.cell? ⟨W.heap.size, 4, none⟩ = some u4 ∧ w'.cell? ⟨W.heap.size, 5, none⟩ = some u5 ∧ w'.cell? ⟨W.heap.size + 1, 0, none⟩ = some v0 ∧ w'.cell? ⟨W.heap.size + 1, 1, none⟩ = some v1 ∧ w'.cell? ⟨W.heap.size + 1, 2, none⟩ = some v2 ∧ w'.cell? ⟨W.heap.size + 1, 3, none⟩ = some v3 ∧ w'.cell? ⟨W.heap.size + 1, 4, none⟩ = some v4 ∧ w'.cell? ⟨W.heap.size + 1, 5, none⟩ = some v5)) (by kernel_rfl) ?_ (fun hHeld => ?_)
    · first | exact KS.out _ B0.out
    refine wpAnyH_take (i := 0) (v := ?_) rfl (by kernel_rfl) (by kernel_rfl) (by kernel_rfl) (fun _ _ _ h => h) (Or.inl ⟨by rfl, ?_⟩) (by assumption) ?_
    rotate_left
    · intro w' hSw
      try dsimp only at hSw
      go_simp
      try with_reducible rfl
    try simp only [Act.put, List.setIfInBounds_toArray, List.set_cons_zero, List.set_cons_succ, List.getElem_toArray, List.getElem_cons_zero, List.getElem_cons_succ]
    refine wpAnyH_take (i := 2) (v := ?_) rfl (by kernel_rfl) (by kernel_rfl) (by kernel_rfl) (fun _ _ _ h => h) (Or.inl ⟨by rfl, ?_⟩) (by assumption) ?_
    rotate_left
    · intro w' hSw
      try dsimp only at hSw
      go_simp
      try with_reducible rfl
    try simp only [Act.put, List.setIfInBounds_toArray, List.set_cons_zero, List.set_cons_succ, List.getElem_toArray, List.getElem_cons_zero, List.getElem_cons_succ]
    refine wpAnyH_take (i := 3) (v := ?_) rfl (by kernel_rfl) (by kernel_rfl) (by kernel_rfl) (fun _ _ _ h => h) (Or.inl ⟨by rfl, ?_⟩) (by assumption) ?_
    rotate_left
    · intro w' hSw
      try dsimp only at hSw
      go_simp
      try with_reducible rfl
    try simp only [Act.put, List.setIfInBounds_toArray, List.set_cons_zero, List.set_cons_succ, List.getElem_toArray, List.getElem_cons_zero, List.getElem_cons_succ]
    refine wpAnyH_ready (rs := [1, 9]) (by kernel_rfl) (by simp) ?_
    refine AllReadyH.cons rfl (fun K hK => ?_) ?_
    · go_simp
      go_at_call 8
      refine (GT.out _ (Gl.out.below hHeld.1)).mono ?_
      rintro e wA ⟨⟨usA, FA, rfl, oA, hnA⟩, hbn⟩
      have hxn := below_link hHeld.1 hbn hHeld.1.size
      have hbo := below_link hbo hbn hbo.size
      have hso := hbo.size
      refine hK.out _ _ ?_ (fun hHeld => ?_)
      · first | exact KS.out _ hxn | exact KS.out _ B0.out
      clear hK K
      try simp only [Act.put, List.setIfInBounds_toArray, List.set_cons_zero, List.set_cons_succ, List.getElem_toArray, List.getElem_cons_zero, List.getElem_cons_succ]
      refine wpAnyH_ready (rs := [4, 9]) (by kernel_rfl) (by simp) ?_
      refine AllReadyH.cons rfl (fun K hK => ?_) ?_
      · go_simp
        go_at_call 8
        refine (HT.out _ (Hl.out.below hHeld.1)).mono ?_
        rintro e wB ⟨⟨usB, FB, rfl, hoB, _⟩, hbn⟩
        have hxn := below_link hHeld.1 hbn hHeld.1.size
        have hbo := below_link hbo hbn hbo.size
        have oA := oA.below hbn
        have lB := hoB.lies
        have hso := hbo.size
        refine hK.out _ _ ?_ (fun hHeld => ?_)
        · first | exact KS.out _ hxn | exact KS.out _ B0.out
        clear hK K
        try simp only [Act.put, List.setIfInBounds_toArray, List.set_cons_zero, List.set_cons_succ, List.getElem_toArray, List.getElem_cons_zero, List.getElem_cons_succ]
        refine wpAnyH_ready (rs := [5, 9]) (by kernel_rfl) (by simp) ?_
        refine AllReadyH.cons rfl (fun K hK => ?_) ?_
        · go_simp
          go_at_call 7
          refine (HS.out _ _ _ _ _ oA.lies lB).mono ?_
          rintro e wC ⟨⟨usK, FK, rfl, hoK, hnK⟩, hbn⟩
          have hxn := below_link hHeld.1 hbn hHeld.1.size
          have hbo := below_link hbo hbn hbo.size
          obtain ⟨x0, x1, x2, x3, x4, x5, rfl⟩ := six_of (hoK.1.trans (row_length _))
          have hone := hoK.one
          have hKB : w3.heap.size ≤ (World.heap wB).size := hso
          have hso := hbo.size
          refine hK.out _ _ ?_ (fun hHeld => ?_)
          · first | exact KS.out _ hxn | exact KS.out _ B0.out
          clear hK K
          try simp only [Act.put, List.setIfInBounds_toArray, List.set_cons_zero, List.set_cons_succ, List.getElem_toArray, List.getElem_cons_zero, List.getElem_cons_succ]
          refine wpAnyH_take (i := 6) (v := ?_) rfl (by kernel_rfl) (by kernel_rfl) (by kernel_rfl) (fun _ _ _ h => h) (Or.inl ⟨by rfl, ?_⟩) (by assumption) ?_
          rotate_left
          · intro w' hSw
            try dsimp only at hSw
            go_simp
            try with_reducible rfl
          try simp only [Act.put, List.setIfInBounds_toArray, List.set_cons_zero, List.set_cons_succ, List.getElem_toArray, List.getElem_cons_zero, List.getElem_cons_succ]
          refine wpAnyH_take (i := 7) (v := ?_) rfl (by kernel_rfl) (by kernel_rfl) (by kernel_rfl) (fun _ _ _ h => h) (Or.inl ⟨by rfl, ?_⟩) (by assumption) ?_
          rotate_left
          · intro w' hSw
            try dsimp only at hSw
            go_simp
            try with_reducible rfl
          try simp only [Act.put, List.setIfInBounds_toArray, List.set_cons_zero, List.set_cons_succ, List.getElem_toArray, List.getElem_cons_zero, List.getElem_cons_succ]
          refine wpAnyH_take (i := 8) (v := ?_) rfl (by kernel_rfl) (by kernel_rfl) (by kernel_rfl) (fun _ _ _ h => h) (Or.inl ⟨by rfl, ?_⟩) (by assumption) ?_
          rotate_left
          · intro w' hSw
            try dsimp only at hSw
            go_simp
            try with_reducible rfl
          try simp only [Act.put, List.setIfInBounds_toArray, List.set_cons_zero, List.set_cons_succ, List.getElem_toArray, List.getElem_cons_zero, List.getElem_cons_succ]
          refine wpAnyH_ready (rs := [9]) (by kernel_rfl) (by simp) ?_
          refine AllReadyH.cons rfl (fun K hK => ?_) ?_
          · go_simp
            obtain ⟨X, hXe⟩ : ∃ X, X = (World.heap wC).size := ⟨_, rfl⟩
            have hz : (World.heap (World.alloc wC (.cells #[.int .i64 0, .bool false, .int .i64 0, .string ⟨#[]⟩, .slice none 0 0, .slice none 0 0] 29)))[X]? = some (.cells #[.int .i64 0, .bool false, .int .i64 0, .string ⟨#[]⟩, .slice none 0 0, .slice none 0 0] 29 (0, 0)) := by rw [hXe]; exact heap_alloc_new wC _
            have hba : Below (World.heap wC).size wC (World.alloc wC (.cells #[.int .i64 0, .bool false, .int .i64 0, .string ⟨#[]⟩, .slice none 0 0, .slice none 0 0] 29)) := (show Below (World.heap wC).size wC (World.alloc wC (.cells #[.int .i64 0, .bool false, .int .i64 0, .string ⟨#[]⟩, .slice none 0 0, .slice none 0 0] 29)) from (Below.refl _ _).alloc (Nat.le_refl _) _)
            have hxn := below_link hHeld.1 hba hHeld.1.size
            have hX : w1.heap.size ≤ X := by rw [hXe]; exact hHeld.1.size
            have hXo : w3.heap.size ≤ X := by rw [hXe]; exact hso
            have hbo := below_link hbo hba hbo.size
            have hXF : X ∉ FK := fun hin => by have := (hoK.range _ hin).2; omega
            have hoK := hoK.below hba
            have hXlt : X < (World.heap (World.alloc wC (.cells #[.int .i64 0, .bool false, .int .i64 0, .string ⟨#[]⟩, .slice none 0 0, .slice none 0 0] 29))).size := heap_lt hz
            refine hK.out _ _ ?_ (fun hHeld => ?_)
            · first | exact KS.out _ hxn | exact KS.out _ B0.out
            clear hK K
            try simp only [Act.put, List.setIfInBounds_toArray, List.set_cons_zero, List.set_cons_succ, List.getElem_toArray, List.getElem_cons_zero, List.getElem_cons_succ]
            rw [← hXe]
            clear hXe
            generalize World.alloc wC (.cells #[.int .i64 0, .bool false, .int .i64 0, .string ⟨#[]⟩, .slice none 0 0, .slice none 0 0] 29) = wz at *
            have hso := hbo.size
            refine wpAnyH_ready (rs := [10]) (by kernel_rfl) (by simp) ?_
            refine AllReadyH.cons rfl (fun K hK => ?_) ?_
            · refine step_store_row rfl 29 _ _ rfl X #[x0, x1, x2, x3, x4, x5] rfl rfl 29 _ hz tree_size' rfl hone ?_
              have hxn : Below w1.heap.size w1 (World.setRow wz X #[x0, x1, x2, x3, x4, x5]) := setRow_below hHeld.1 hX _
              have E1 := Lib.hid (setRow_at (c := #[x0, x1, x2, x3, x4, x5]) hz)
              have E2 := Lib.hid ((OwnS.kept (w' := World.setRow wz X #[x0, x1, x2, x3, x4, x5]) (fun y hy => by have h8 : y ≠ X := fun e => hXF (by rw [← e]; exact hy); simp only [World.setRow, Array.getElem?_modify]; rw [if_neg (fun e => h8 e.symm)]) hoK).lower hKB)
              have E3 := Lib.hid hXF
              have E4 := Lib.hid hXo
              have E5 := Lib.hid (setRow_below hbo hXo #[x0, x1, x2, x3, x4, x5])
              have E6 := Lib.hid hnK
              refine hK.out _ _ ?_ (fun hHeld => ?_)
              · first | exact KS.out _ hxn | exact KS.out _ B0.out
              clear hK K
              try simp only [Act.put, List.setIfInBounds_toArray, List.set_cons_zero, List.set_cons_succ, List.getElem_toArray, List.getElem_cons_zero, List.getElem_cons_succ]
              refine wpAnyH_take (i := 11) (v := ?_) rfl (by kernel_rfl) (by kernel_rfl) (by kernel_rfl) (fun _ _ _ h => h) (Or.inl ⟨by rfl, ?_⟩) (by assumption) ?_
              rotate_left
              · intro w' hSw
                try dsimp only at hSw
                go_simp
                try with_reducible rfl
              try simp only [Act.put, List.setIfInBounds_toArray, List.set_cons_zero, List.set_cons_succ, List.getElem_toArray, List.getElem_cons_zero, List.getElem_cons_succ]
              refine wpAnyH_done (by kernel_rfl) ?_ _
              go_wp2_with fail
              go_meet
              exact Lib.hid ⟨X, [x0, x1, x2, x3, x4, x5], FK, _, rfl, rfl, E1.out, E2.out, E6.out, E3.out, E4.out, E5.out⟩
            exact AllReadyH.nil
          exact AllReadyH.nil
        refine AllReadyH.cons rfl (fun K hK => ?_) ?_
        · go_simp
          obtain ⟨X, hXe⟩ : ∃ X, X = (World.heap wB).size := ⟨_, rfl⟩
          have hz : (World.heap (World.alloc wB (.cells #[.int .i64 0, .bool false, .int .i64 0, .string ⟨#[]⟩, .slice none 0 0, .slice none 0 0] 29)))[X]? = some (.cells #[.int .i64 0, .bool false, .int .i64 0, .string ⟨#[]⟩, .slice none 0 0, .slice none 0 0] 29 (0, 0)) := by rw [hXe]; exact heap_alloc_new wB _
          have hba : Below (World.heap wB).size wB (World.alloc wB (.cells #[.int .i64 0, .bool false, .int .i64 0, .string ⟨#[]⟩, .slice none 0 0, .slice none 0 0] 29)) := (show Below (World.heap wB).size wB (World.alloc wB (.cells #[.int .i64 0, .bool false, .int .i64 0, .string ⟨#[]⟩, .slice none 0 0, .slice none 0 0] 29)) from (Below.refl _ _).alloc (Nat.le_refl _) _)
          have hxn := below_link hHeld.1 hba hHeld.1.size
          have hX : w1.heap.size ≤ X := by rw [hXe]; exact hHeld.1.size
          have hXo : w3.heap.size ≤ X := by rw [hXe]; exact hso
          have hbo := below_link hbo hba hbo.size
          have oA := oA.below hba
          have lB := lB.below hba
          have hXlt : X < (World.heap (World.alloc wB (.cells #[.int .i64 0, .bool false, .int .i64 0, .string ⟨#[]⟩, .slice none 0 0, .slice none 0 0] 29))).size := heap_lt hz
          refine hK.out _ _ ?_ (fun hHeld => ?_)
          · first | exact KS.out _ hxn | exact KS.out _ B0.out
          clear hK K
          try simp only [Act.put, List.setIfInBounds_toArray, List.set_cons_zero, List.set_cons_succ, List.getElem_toArray, List.getElem_cons_zero, List.getElem_cons_succ]
          rw [← hXe]
          clear hXe
          generalize World.alloc wB (.cells #[.int .i64 0, .bool false, .int .i64 0, .string ⟨#[]⟩, .slice none 0 0, .slice none 0 0] 29) = wz at *
          have hso := hbo.size
          refine wpAnyH_ready (rs := [5]) (by kernel_rfl) (by simp) ?_
          refine AllReadyH.cons rfl (fun K hK => ?_) ?_
          · go_simp
            go_at_call 7
            refine (HS.out _ _ _ _ _ oA.lies lB).mono ?_
            rintro e wC ⟨⟨usK, FK, rfl, hoK, hnK⟩, hbn⟩
            have hxn := below_link hHeld.1 hbn hHeld.1.size
            have hbo := below_link hbo hbn hbo.size
            have hz := heap_kept hbn (heap_lt hz) hz
            obtain ⟨x0, x1, x2, x3, x4, x5, rfl⟩ := six_of (hoK.1.trans (row_length _))
            have hone := hoK.one
            have hKB : w3.heap.size ≤ (World.heap wz).size := hso
            have hXF : X ∉ FK := fun hin => by have := (hoK.range _ hin).1; have := hXlt; omega
            have hso := hbo.size
            have hXlt : X < wC.heap.size := heap_lt hz
            refine hK.out _ _ ?_ (fun hHeld => ?_)
            · first | exact KS.out _ hxn | exact KS.out _ B0.out
            clear hK K
            try simp only [Act.put, List.setIfInBounds_toArray, List.set_cons_zero, List.set_cons_succ, List.getElem_toArray, List.getElem_cons_zero, List.getElem_cons_succ]
            refine wpAnyH_take (i := 6) (v := ?_) rfl (by kernel_rfl) (by kernel_rfl) (by kernel_rfl) (fun _ _ _ h => h) (Or.inl ⟨by rfl, ?_⟩) (by assumption) ?_
            rotate_left
            · intro w' hSw
              try dsimp only at hSw
              go_simp
              try with_reducible rfl
            try simp only [Act.put, List.setIfInBounds_toArray, List.set_cons_zero, List.set_cons_succ, List.getElem_toArray, List.getElem_cons_zero, List.getElem_cons_succ]
            refine wpAnyH_take (i := 7) (v := ?_) rfl (by kernel_rfl) (by kernel_rfl) (by kernel_rfl) (fun _ _ _ h => h) (Or.inl ⟨by rfl, ?_⟩) (by assumption) ?_
            rotate_left
            · intro w' hSw
              try dsimp only at hSw
              go_simp
              try with_reducible rfl
            try simp only [Act.put, List.setIfInBounds_toArray, List.set_cons_zero, List.set_cons_succ, List.getElem_toArray, List.getElem_cons_zero, List.getElem_cons_succ]
            refine wpAnyH_take (i := 8) (v := ?_) rfl (by kernel_rfl) (by kernel_rfl) (by kernel_rfl) (fun _ _ _ h => h) (Or.inl ⟨by rfl, ?_⟩) (by assumption) ?_
            rotate_left
            · intro w' hSw
              try dsimp only at hSw
              go_simp
              try with_reducible rfl
            try simp only [Act.put, List.setIfInBounds_toArray, List.set_cons_zero, List.set_cons_succ, List.getElem_toArray, List.getElem_cons_zero, List.getElem_cons_succ]
            refine wpAnyH_ready (rs := [10]) (by kernel_rfl) (by simp) ?_
            refine AllReadyH.cons rfl (fun K hK => ?_) ?_
            · refine step_store_row rfl 29 _ _ rfl X #[x0, x1, x2, x3, x4, x5] rfl rfl 29 _ hz tree_size' rfl hone ?_
              have hxn : Below w1.heap.size w1 (World.setRow wC X #[x0, x1, x2, x3, x4, x5]) := setRow_below hHeld.1 hX _
              have E1 := Lib.hid (setRow_at (c := #[x0, x1, x2, x3, x4, x5]) hz)
              have E2 := Lib.hid ((OwnS.kept (w' := World.setRow wC X #[x0, x1, x2, x3, x4, x5]) (fun y hy => by have h8 : y ≠ X := fun e => hXF (by rw [← e]; exact hy); simp only [World.setRow, Array.getElem?_modify]; rw [if_neg (fun e => h8 e.symm)]) hoK).lower hKB)
              have E3 := Lib.hid hXF
              have E4 := Lib.hid hXo
              have E5 := Lib.hid (setRow_below hbo hXo #[x0, x1, x2, x3, x4, x5])
              have E6 := Lib.hid hnK
              refine hK.out _ _ ?_ (fun hHeld => ?_)
              · first | exact KS.out _ hxn | exact KS.out _ B0.out
              clear hK K
              try simp only [Act.put, List.setIfInBounds_toArray, List.set_cons_zero, List.set_cons_succ, List.getElem_toArray, List.getElem_cons_zero, List.getElem_cons_succ]
              refine wpAnyH_take (i := 11) (v := ?_) rfl (by kernel_rfl) (by kernel_rfl) (by kernel_rfl) (fun _ _ _ h => h) (Or.inl ⟨by rfl, ?_⟩) (by assumption) ?_
              rotate_left
              · intro w' hSw
                try dsimp only at hSw
                go_simp
                try with_reducible rfl
              try simp only [Act.put, List.setIfInBounds_toArray, List.set_cons_zero, List.set_cons_succ, List.getElem_toArray, List.getElem_cons_zero, List.getElem_cons_succ]
              refine wpAnyH_done (by kernel_rfl) ?_ _
              go_wp2_with fail
              go_meet
              exact Lib.hid ⟨X, [x0, x1, x2, x3, x4, x5], FK, _, rfl, rfl, E1.out, E2.out, E6.out, E3.out, E4.out, E5.out⟩
            exact AllReadyH.nil
          exact AllReadyH.nil
        exact AllReadyH.nil
      refine AllReadyH.cons rfl (fun K hK => ?_) ?_
      · go_simp
        obtain ⟨X, hXe⟩ : ∃ X, X = (World.heap wA).size := ⟨_, rfl⟩
        have hz : (World.heap (World.alloc wA (.cells #[.int .i64 0, .bool false, .int .i64 0, .string ⟨#[]⟩, .slice none 0 0, .slice none 0 0] 29)))[X]? = some (.cells #[.int .i64 0, .bool false, .int .i64 0, .string ⟨#[]⟩, .slice none 0 0, .slice none 0 0] 29 (0, 0)) := by rw [hXe]; exact heap_alloc_new wA _
        have hba : Below (World.heap wA).size wA (World.alloc wA (.cells #[.int .i64 0, .bool false, .int .i64 0, .string ⟨#[]⟩, .slice none 0 0, .slice none 0 0] 29)) := (show Below (World.heap wA).size wA (World.alloc wA (.cells #[.int .i64 0, .bool false, .int .i64 0, .string ⟨#[]⟩, .slice none 0 0, .slice none 0 0] 29)) from (Below.refl _ _).alloc (Nat.le_refl _) _)
        have hxn := below_link hHeld.1 hba hHeld.1.size
        have hX : w1.heap.size ≤ X := by rw [hXe]; exact hHeld.1.size
        have hXo : w3.heap.size ≤ X := by rw [hXe]; exact hso
        have hbo := below_link hbo hba hbo.size
        have oA := oA.below hba
        have hXlt : X < (World.heap (World.alloc wA (.cells #[.int .i64 0, .bool false, .int .i64 0, .string ⟨#[]⟩, .slice none 0 0, .slice none 0 0] 29))).size := heap_lt hz
        refine hK.out _ _ ?_ (fun hHeld => ?_)
        · first | exact KS.out _ hxn | exact KS.out _ B0.out
        clear hK K
        try simp only [Act.put, List.setIfInBounds_toArray, List.set_cons_zero, List.set_cons_succ, List.getElem_toArray, List.getElem_cons_zero, List.getElem_cons_succ]
        rw [← hXe]
        clear hXe
        generalize World.alloc wA (.cells #[.int .i64 0, .bool false, .int .i64 0, .string ⟨#[]⟩, .slice none 0 0, .slice none 0 0] 29) = wz at *
        have hso := hbo.size
        refine wpAnyH_ready (rs := [4]) (by kernel_rfl) (by simp) ?_
        refine AllReadyH.cons rfl (fun K hK => ?_) ?_
        · go_simp
          go_at_call 8
          refine (HT.out _ (Hl.out.below hHeld.1)).mono ?_
          rintro e wB ⟨⟨usB, FB, rfl, hoB, _⟩, hbn⟩
          have hxn := below_link hHeld.1 hbn hHeld.1.size
          have hbo := below_link hbo hbn hbo.size
          have hz := heap_kept hbn (heap_lt hz) hz
          have oA := oA.below hbn
          have lB := hoB.lies
          have hso := hbo.size
          have hXlt : X < wB.heap.size := heap_lt hz
          refine hK.out _ _ ?_ (fun hHeld => ?_)
          · first | exact KS.out _ hxn | exact KS.out _ B0.out
          clear hK K
          try simp only [Act.put, List.setIfInBounds_toArray, List.set_cons_zero, List.set_cons_succ, List.getElem_toArray, List.getElem_cons_zero, List.getElem_cons_succ]
          refine wpAnyH_ready (rs := [5]) (by kernel_rfl) (by simp) ?_
          refine AllReadyH.cons rfl (fun K hK => ?_) ?_
          · go_simp
            go_at_call 7
            refine (HS.out _ _ _ _ _ oA.lies lB).mono ?_
            rintro e wC ⟨⟨usK, FK, rfl, hoK, hnK⟩, hbn⟩
            have hxn := below_link hHeld.1 hbn hHeld.1.size
            have hbo := below_link hbo hbn hbo.size
            have hz := heap_kept hbn (heap_lt hz) hz
            obtain ⟨x0, x1, x2, x3, x4, x5, rfl⟩ := six_of (hoK.1.trans (row_length _))
            have hone := hoK.one
            have hKB : w3.heap.size ≤ (World.heap wB).size := hso
            have hXF : X ∉ FK := fun hin => by have := (hoK.range _ hin).1; have := hXlt; omega
            have hso := hbo.size
            have hXlt : X < wC.heap.size := heap_lt hz
            refine hK.out _ _ ?_ (fun hHeld => ?_)
            · first | exact KS.out _ hxn | exact KS.out _ B0.out
            clear hK K
            try simp only [Act.put, List.setIfInBounds_toArray, List.set_cons_zero, List.set_cons_succ, List.getElem_toArray, List.getElem_cons_zero, List.getElem_cons_succ]
            refine wpAnyH_take (i := 6) (v := ?_) rfl (by kernel_rfl) (by kernel_rfl) (by kernel_rfl) (fun _ _ _ h => h) (Or.inl ⟨by rfl, ?_⟩) (by assumption) ?_
            rotate_left
            · intro w' hSw
              try dsimp only at hSw
              go_simp
              try with_reducible rfl
            try simp only [Act.put, List.setIfInBounds_toArray, List.set_cons_zero, List.set_cons_succ, List.getElem_toArray, List.getElem_cons_zero, List.getElem_cons_succ]
            refine wpAnyH_take (i := 7) (v := ?_) rfl (by kernel_rfl) (by kernel_rfl) (by kernel_rfl) (fun _ _ _ h => h) (Or.inl ⟨by rfl, ?_⟩) (by assumption) ?_
            rotate_left
            · intro w' hSw
              try dsimp only at hSw
              go_simp
              try with_reducible rfl
            try simp only [Act.put, List.setIfInBounds_toArray, List.set_cons_zero, List.set_cons_succ, List.getElem_toArray, List.getElem_cons_zero, List.getElem_cons_succ]
            refine wpAnyH_take (i := 8) (v := ?_) rfl (by kernel_rfl) (by kernel_rfl) (by kernel_rfl) (fun _ _ _ h => h) (Or.inl ⟨by rfl, ?_⟩) (by assumption) ?_
            rotate_left
            · intro w' hSw
              try dsimp only at hSw
              go_simp
              try with_reducible rfl
            try simp only [Act.put, List.setIfInBounds_toArray, List.set_cons_zero, List.set_cons_succ, List.getElem_toArray, List.getElem_cons_zero, List.getElem_cons_succ]
            refine wpAnyH_ready (rs := [10]) (by kernel_rfl) (by simp) ?_
            refine AllReadyH.cons rfl (fun K hK => ?_) ?_
            · refine step_store_row rfl 29 _ _ rfl X #[x0, x1, x2, x3, x4, x5] rfl rfl 29 _ hz tree_size' rfl hone ?_
              have hxn : Below w1.heap.size w1 (World.setRow wC X #[x0, x1, x2, x3, x4, x5]) := setRow_below hHeld.1 hX _
              have E1 := Lib.hid (setRow_at (c := #[x0, x1, x2, x3, x4, x5]) hz)
              have E2 := Lib.hid ((OwnS.kept (w' := World.setRow wC X #[x0, x1, x2, x3, x4, x5]) (fun y hy => by have h8 : y ≠ X := fun e => hXF (by rw [← e]; exact hy); simp only [World.setRow, Array.getElem?_modify]; rw [if_neg (fun e => h8 e.symm)]) hoK).lower hKB)
              have E3 := Lib.hid hXF
              have E4 := Lib.hid hXo
              have E5 := Lib.hid (setRow_below hbo hXo #[x0, x1, x2, x3, x4, x5])
              have E6 := Lib.hid hnK
              refine hK.out _ _ ?_ (fun hHeld => ?_)
              · first | exact KS.out _ hxn | exact KS.out _ B0.out
              clear hK K
              try simp only [Act.put, List.setIfInBounds_toArray, List.set_cons_zero, List.set_cons_succ, List.getElem_toArray, List.getElem_cons_zero, List.getElem_cons_succ]
              refine wpAnyH_take (i := 11) (v := ?_) rfl (by kernel_rfl) (by kernel_rfl) (by kernel_rfl) (fun _ _ _ h => h) (Or.inl ⟨by rfl, ?_⟩) (by assumption) ?_
              rotate_left
              · intro w' hSw
                try dsimp only at hSw
                go_simp
                try with_reducible rfl
              try simp only [Act.put, List.setIfInBounds_toArray, List.set_cons_zero, List.set_cons_succ, List.getElem_toArray, List.getElem_cons_zero, List.getElem_cons_succ]
              refine wpAnyH_done (by kernel_rfl) ?_ _
              go_wp2_with fail
              go_meet
              exact Lib.hid ⟨X, [x0, x1, x2, x3, x4, x5], FK, _, rfl, rfl, E1.out, E2.out, E6.out, E3.out, E4.out, E5.out⟩
            exact AllReadyH.nil
          exact AllReadyH.nil
        exact AllReadyH.nil
      exact AllReadyH.nil
    refine AllReadyH.cons rfl (fun K hK => ?_) ?_
    · go_simp
      obtain ⟨X, hXe⟩ : ∃ X, X = (World.heap w3).size := ⟨_, rfl⟩
      have hz : (World.heap (World.drew (World.alloc w3 (.cells #[.int .i64 0, .bool false, .int .i64 0, .string ⟨#[]⟩, .slice none 0 0, .slice none 0 0] 29))))[X]? = some (.cells #[.int .i64 0, .bool false, .int .i64 0, .string ⟨#[]⟩, .slice none 0 0, .slice none 0 0] 29 (0, 0)) := by rw [hXe]; exact heap_alloc_new w3 _
      have hba : Below (World.heap w3.drew).size w3.drew (World.drew (World.alloc w3 (.cells #[.int .i64 0, .bool false, .int .i64 0, .string ⟨#[]⟩, .slice none 0 0, .slice none 0 0] 29))) := (show Below (World.heap w3.drew).size w3.drew (World.alloc w3.drew (.cells #[.int .i64 0, .bool false, .int .i64 0, .string ⟨#[]⟩, .slice none 0 0, .slice none 0 0] 29)) from (Below.refl _ _).alloc (Nat.le_refl _) _)
      have hxn := below_link hHeld.1 hba hHeld.1.size
      have hX : w1.heap.size ≤ X := by rw [hXe]; exact hHeld.1.size
      have hXo : w3.heap.size ≤ X := by rw [hXe]; exact hso
      have hbo := below_link hbo hba hbo.size
      have hXlt : X < (World.heap (World.drew (World.alloc w3 (.cells #[.int .i64 0, .bool false, .int .i64 0, .string ⟨#[]⟩, .slice none 0 0, .slice none 0 0] 29)))).size := heap_lt hz
      refine hK.out _ _ ?_ (fun hHeld => ?_)
      · first | exact KS.out _ hxn | exact KS.out _ B0.out
      clear hK K
      try simp only [Act.put, List.setIfInBounds_toArray, List.set_cons_zero, List.set_cons_succ, List.getElem_toArray, List.getElem_cons_zero, List.getElem_cons_succ]
      rw [← hXe]
      clear hXe
      generalize World.drew (World.alloc w3 (.cells #[.int .i64 0, .bool false, .int .i64 0, .string ⟨#[]⟩, .slice none 0 0, .slice none 0 0] 29)) = wz at *
      have hso := hbo.size
      refine wpAnyH_ready (rs := [1]) (by kernel_rfl) (by simp) ?_
      refine AllReadyH.cons rfl (fun K hK => ?_) ?_
      · go_simp
        go_at_call 8
        refine (GT.out _ (Gl.out.below hHeld.1)).mono ?_
        rintro e wA ⟨⟨usA, FA, rfl, oA, hnA⟩, hbn⟩
        have hxn := below_link hHeld.1 hbn hHeld.1.size
        have hbo := below_link hbo hbn hbo.size
        have hz := heap_kept hbn (heap_lt hz) hz
        have hso := hbo.size
        have hXlt : X < wA.heap.size := heap_lt hz
        refine hK.out _ _ ?_ (fun hHeld => ?_)
        · first | exact KS.out _ hxn | exact KS.out _ B0.out
        clear hK K
        try simp only [Act.put, List.setIfInBounds_toArray, List.set_cons_zero, List.set_cons_succ, List.getElem_toArray, List.getElem_cons_zero, List.getElem_cons_succ]
        refine wpAnyH_ready (rs := [4]) (by kernel_rfl) (by simp) ?_
        refine AllReadyH.cons rfl (fun K hK => ?_) ?_
        · go_simp
          go_at_call 8
          refine (HT.out _ (Hl.out.below hHeld.1)).mono ?_
          rintro e wB ⟨⟨usB, FB, rfl, hoB, _⟩, hbn⟩
          have hxn := below_link hHeld.1 hbn hHeld.1.size
          have hbo := below_link hbo hbn hbo.size
          have hz := heap_kept hbn (heap_lt hz) hz
          have oA := oA.below hbn
          have lB := hoB.lies
          have hso := hbo.size
          have hXlt : X < wB.heap.size := heap_lt hz
          refine hK.out _ _ ?_ (fun hHeld => ?_)
          · first | exact KS.out _ hxn | exact KS.out _ B0.out
          clear hK K
          try simp only [Act.put, List.setIfInBounds_toArray, List.set_cons_zero, List.set_cons_succ, List.getElem_toArray, List.getElem_cons_zero, List.getElem_cons_succ]
          refine wpAnyH_ready (rs := [5]) (by kernel_rfl) (by simp) ?_
          refine AllReadyH.cons rfl (fun K hK => ?_) ?_
          · go_simp
            go_at_call 7
            refine (HS.out _ _ _ _ _ oA.lies lB).mono ?_
            rintro e wC ⟨⟨usK, FK, rfl, hoK, hnK⟩, hbn⟩
            have hxn := below_link hHeld.1 hbn hHeld.1.size
            have hbo := below_link hbo hbn hbo.size
            have hz := heap_kept hbn (heap_lt hz) hz
            obtain ⟨x0, x1, x2, x3, x4, x5, rfl⟩ := six_of (hoK.1.trans (row_length _))
            have hone := hoK.one
            have hKB : w3.heap.size ≤ (World.heap wB).size := hso
            have hXF : X ∉ FK := fun hin => by have := (hoK.range _ hin).1; have := hXlt; omega
            have hso := hbo.size
            have hXlt : X < wC.heap.size := heap_lt hz
            refine hK.out _ _ ?_ (fun hHeld => ?_)
            · first | exact KS.out _ hxn | exact KS.out _ B0.out
            clear hK K
            try simp only [Act.put, List.setIfInBounds_toArray, List.set_cons_zero, List.set_cons_succ, List.getElem_toArray, List.getElem_cons_zero, List.getElem_cons_succ]
            refine wpAnyH_take (i := 6) (v := ?_) rfl (by kernel_rfl) (by kernel_rfl) (by kernel_rfl) (fun _ _ _ h => h) (Or.inl ⟨by rfl, ?_⟩) (by assumption) ?_
            rotate_left
            · intro w' hSw
              try dsimp only at hSw
              go_simp
              try with_reducible rfl
            try simp only [Act.put, List.setIfInBounds_toArray, List.set_cons_zero, List.set_cons_succ, List.getElem_toArray, List.getElem_cons_zero, List.getElem_cons_succ]
            refine wpAnyH_take (i := 7) (v := ?_) rfl (by kernel_rfl) (by kernel_rfl) (by kernel_rfl) (fun _ _ _ h => h) (Or.inl ⟨by rfl, ?_⟩) (by assumption) ?_
            rotate_left
            · intro w' hSw
              try dsimp only at hSw
              go_simp
              try with_reducible rfl
            try simp only [Act.put, List.setIfInBounds_toArray, List.set_cons_zero, List.set_cons_succ, List.getElem_toArray, List.getElem_cons_zero, List.getElem_cons_succ]
            refine wpAnyH_take (i := 8) (v := ?_) rfl (by kernel_rfl) (by kernel_rfl) (by kernel_rfl) (fun _ _ _ h => h) (Or.inl ⟨by rfl, ?_⟩) (by assumption) ?_
            rotate_left
            · intro w' hSw
              try dsimp only at hSw
              go_simp
              try with_reducible rfl
            try simp only [Act.put, List.setIfInBounds_toArray, List.set_cons_zero, List.set_cons_succ, List.getElem_toArray, List.getElem_cons_zero, List.getElem_cons_succ]
            refine wpAnyH_ready (rs := [10]) (by kernel_rfl) (by simp) ?_
            refine AllReadyH.cons rfl (fun K hK => ?_) ?_
            · refine step_store_row rfl 29 _ _ rfl X #[x0, x1, x2, x3, x4, x5] rfl rfl 29 _ hz tree_size' rfl hone ?_
              have hxn : Below w1.heap.size w1 (World.setRow wC X #[x0, x1, x2, x3, x4, x5]) := setRow_below hHeld.1 hX _
              have E1 := Lib.hid (setRow_at (c := #[x0, x1, x2, x3, x4, x5]) hz)
              have E2 := Lib.hid ((OwnS.kept (w' := World.setRow wC X #[x0, x1, x2, x3, x4, x5]) (fun y hy => by have h8 : y ≠ X := fun e => hXF (by rw [← e]; exact hy); simp only [World.setRow, Array.getElem?_modify]; rw [if_neg (fun e => h8 e.symm)]) hoK).lower hKB)
              have E3 := Lib.hid hXF
              have E4 := Lib.hid hXo
              have E5 := Lib.hid (setRow_below hbo hXo #[x0, x1, x2, x3, x4, x5])
              have E6 := Lib.hid hnK
              refine hK.out _ _ ?_ (fun hHeld => ?_)
              · first | exact KS.out _ hxn | exact KS.out _ B0.out
              clear hK K
              try simp only [Act.put, List.setIfInBounds_toArray, List.set_cons_zero, List.set_cons_succ, List.getElem_toArray, List.getElem_cons_zero, List.getElem_cons_succ]
              refine wpAnyH_take (i := 11) (v := ?_) rfl (by kernel_rfl) (by kernel_rfl) (by kernel_rfl) (fun _ _ _ h => h) (Or.inl ⟨by rfl, ?_⟩) (by assumption) ?_
              rotate_left
              · intro w' hSw
                try dsimp only at hSw
                go_simp
                try with_reducible rfl
              try simp only [Act.put, List.setIfInBounds_toArray, List.set_cons_zero, List.set_cons_succ, List.getElem_toArray, List.getElem_cons_zero, List.getElem_cons_succ]
              refine wpAnyH_done (by kernel_rfl) ?_ _
              go_wp2_with fail
              go_meet
              exact Lib.hid ⟨X, [x0, x1, x2, x3, x4, x5], FK, _, rfl, rfl, E1.out, E2.out, E6.out, E3.out, E4.out, E5.out⟩
            exact AllReadyH.nil
          exact AllReadyH.nil
        exact AllReadyH.nil
      exact AllReadyH.nil
    exact AllReadyH.nil
  case rest =>
    obtain ⟨w4, hw4⟩ : ∃ x, x = wc := ⟨_, rfl⟩
    subst hw4
    obtain ⟨aX, aus, aF, af, rfl, rfl, az, aho, ahn, aXF, aXo, ahb⟩ := hcut.out
    clear hcut
    obtain ⟨a0, a1, a2, a3, a4, a5, rfl⟩ := six_of (aho.1.trans (row_length _))
    have BB_7 := Lib.hid (below_link BB.out ahb BB.out.size)
    clear BB
    have BB := BB_7
    clear BB_7
    have S8 := Lib.hid (show w3.heap.size ≤ w4.heap.size from ahb.size)
    have S9 := Lib.hid (show aX < w4.heap.size from heap_lt az)
    have S10 := Lib.hid aXo
    have row_11 := Lib.hid (show Row6 w4 aX a0 a1 a2 a3 a4 a5 from Row6.of az)
    have aone := Lib.hid aho.one
    have aR := Lib.hid (show ∀ x ∈ aF, w3.heap.size ≤ x ∧ x < w4.heap.size from aho.range)
    have aN := Lib.hid ahn
    have a_12 := Lib.hid aho
    clear  az aho ahn aXF aXo ahb
    obtain ⟨argc0, argc1, argc2, argc3, argc4, argc5⟩ := (ARG.out.below BB.out)
    go_wp2_with fail
    refine (GT.out _ (Gl.out.below BB.out)).mono ?_
    rintro e w5 ⟨⟨xus, xF, rfl, xho, xhn⟩, hb13⟩
    have a_14 := Lib.hid (row_11.out.below hb13)
    have a_15 := Lib.hid (a_12.out.below hb13)
    have BB_16 := Lib.hid (below_link BB.out hb13 BB.out.size)
    clear BB
    have BB := BB_16
    clear BB_16
    have S17 := Lib.hid (show w4.heap.size ≤ w5.heap.size from hb13.size)
    clear row_11 a_12 argc0 argc1 argc2 argc3 argc4 argc5 hb13
    obtain ⟨x0, x1, x2, x3, x4, x5, rfl⟩ := six_of (xho.1.trans (row_length _))
    have xone := Lib.hid xho.one
    have xR := Lib.hid (show ∀ x ∈ xF, w4.heap.size ≤ x ∧ x < w5.heap.size from xho.range)
    have xN := Lib.hid xhn
    have x_18 := Lib.hid xho
    clear xho xhn
    obtain ⟨w6, hw6⟩ : ∃ x, x = w5.alloc (.cells #[x0, x1, x2, x3, x4, x5] 29) := ⟨_, rfl⟩
    have hb19 : Below w5.heap.size w5 w6 := by subst hw6; exact (Below.refl _ _).alloc (Nat.le_refl _) _
    have S20 := Lib.hid (show w5.heap.size < w6.heap.size by subst hw6; simp)
    have row_21 := Lib.hid (show Row6 w6 w5.heap.size x0 x1 x2 x3 x4 x5 by subst hw6; exact Row6.of (heap_alloc_new w5 _))
    have Hw6 := Lib.hid hw6
    clear hw6
    have a_22 := Lib.hid (a_14.out.below hb19)
    have a_23 := Lib.hid (a_15.out.below hb19)
    have x_24 := Lib.hid (x_18.out.below hb19)
    have BB_25 := Lib.hid (below_link BB.out hb19 BB.out.size)
    clear BB
    have BB := BB_25
    clear BB_25
    have S26 := Lib.hid (show w5.heap.size ≤ w6.heap.size from hb19.size)
    clear a_14 a_15 x_18 hb19
    have xhone := xone.out
    obtain ⟨brgc0, brgc1, brgc2, brgc3, brgc4, brgc5⟩ := (BRG.out.below BB.out)
    rw [Hw6.out] at brgc0 brgc1 brgc2 brgc3 brgc4 brgc5
    go_wp2_with (first | (refine wpList_store_row rfl 29 _ _ rfl w5.heap.size #[x0, x1, x2, x3, x4, x5] rfl rfl 29 _ (heap_alloc_new w5 _) tree_size rfl xhone ?_; rw [World.setRow_alloc_new]) | fail)
    rw [← Hw6.out]
    refine (HT.out _ (Hl.out.below BB.out)).mono ?_
    rintro e w7 ⟨⟨yus, yF, rfl, yho, yhn⟩, hb27⟩
    have a_28 := Lib.hid (a_22.out.below hb27)
    have x_29 := Lib.hid (row_21.out.below hb27)
    have a_30 := Lib.hid (a_23.out.below hb27)
    have x_31 := Lib.hid (x_24.out.below hb27)
    have BB_32 := Lib.hid (below_link BB.out hb27 BB.out.size)
    clear BB
    have BB := BB_32
    clear BB_32
    have S33 := Lib.hid (show w6.heap.size ≤ w7.heap.size from hb27.size)
    clear a_22 row_21 a_23 x_24 brgc0 brgc1 brgc2 brgc3 brgc4 brgc5 hb27
    obtain ⟨y0, y1, y2, y3, y4, y5, rfl⟩ := six_of (yho.1.trans (row_length _))
    have yone := Lib.hid yho.one
    have yR := Lib.hid (show ∀ x ∈ yF, w6.heap.size ≤ x ∧ x < w7.heap.size from yho.range)
    have yN := Lib.hid yhn
    have y_34 := Lib.hid yho
    clear yho yhn
    obtain ⟨w8, hw8⟩ : ∃ x, x = w7.alloc (.cells #[y0, y1, y2, y3, y4, y5] 29) := ⟨_, rfl⟩
    have hb35 : Below w7.heap.size w7 w8 := by subst hw8; exact (Below.refl _ _).alloc (Nat.le_refl _) _
    have S36 := Lib.hid (show w7.heap.size < w8.heap.size by subst hw8; simp)
    have row_37 := Lib.hid (show Row6 w8 w7.heap.size y0 y1 y2 y3 y4 y5 by subst hw8; exact Row6.of (heap_alloc_new w7 _))
    have Hw8 := Lib.hid hw8
    clear hw8
    have a_38 := Lib.hid (a_28.out.below hb35)
    have x_39 := Lib.hid (x_29.out.below hb35)
    have a_40 := Lib.hid (a_30.out.below hb35)
    have x_41 := Lib.hid (x_31.out.below hb35)
    have y_42 := Lib.hid (y_34.out.below hb35)
    have BB_43 := Lib.hid (below_link BB.out hb35 BB.out.size)
    clear BB
    have BB := BB_43
    clear BB_43
    have S44 := Lib.hid (show w7.heap.size ≤ w8.heap.size from hb35.size)
    clear a_28 x_29 a_30 x_31 y_34 hb35
    have yhone := yone.out
    obtain ⟨xc0, xc1, xc2, xc3, xc4, xc5⟩ := x_39.out
    rw [Hw8.out] at xc0 xc1 xc2 xc3 xc4 xc5
    obtain ⟨yc0, yc1, yc2, yc3, yc4, yc5⟩ := row_37.out
    rw [Hw8.out] at yc0 yc1 yc2 yc3 yc4 yc5
    go_wp2_with (first | (refine wpList_store_row rfl 29 _ _ rfl w7.heap.size #[y0, y1, y2, y3, y4, y5] rfl rfl 29 _ (heap_alloc_new w7 _) tree_size rfl yhone ?_; rw [World.setRow_alloc_new]) | fail)
    rw [← Hw8.out]
    refine (HI.out _ _ _ _ _ _ _ x_41.out xN.out y_42.out.lies BB.out).mono ?_
    rintro e w9 ⟨⟨gf, gus, gF, rfl, gho, ghn⟩, hb45⟩
    have a_46 := Lib.hid (a_38.out.below hb45)
    have x_47 := Lib.hid (x_39.out.below hb45)
    have y_48 := Lib.hid (row_37.out.below hb45)
    have a_49 := Lib.hid (a_40.out.below hb45)
    have x_50 := Lib.hid (x_41.out.below hb45)
    have y_51 := Lib.hid (y_42.out.below hb45)
    have BB_52 := Lib.hid (below_link BB.out hb45 BB.out.size)
    clear BB
    have BB := BB_52
    clear BB_52
    have S53 := Lib.hid (show w8.heap.size ≤ w9.heap.size from hb45.size)
    clear a_38 x_39 row_37 a_40 x_41 y_42 xc0 xc1 xc2 xc3 xc4 xc5 yc0 yc1 yc2 yc3 yc4 yc5 hb45
    obtain ⟨g0, g1, g2, g3, g4, g5, rfl⟩ := six_of (gho.1.trans (row_length _))
    have gone := Lib.hid gho.one
    have gR := Lib.hid (show ∀ x ∈ gF, w8.heap.size ≤ x ∧ x < w9.heap.size from gho.range)
    have gN := Lib.hid ghn
    have g_54 := Lib.hid gho
    clear gho ghn
    obtain ⟨w10, hw10⟩ : ∃ x, x = w9.alloc (.cells #[g0, g1, g2, g3, g4, g5] 29) := ⟨_, rfl⟩
    have hb55 : Below w9.heap.size w9 w10 := by subst hw10; exact (Below.refl _ _).alloc (Nat.le_refl _) _
    have S56 := Lib.hid (show w9.heap.size < w10.heap.size by subst hw10; simp)
    have row_57 := Lib.hid (show Row6 w10 w9.heap.size g0 g1 g2 g3 g4 g5 by subst hw10; exact Row6.of (heap_alloc_new w9 _))
    have Hw10 := Lib.hid hw10
    clear hw10
    have a_58 := Lib.hid (a_46.out.below hb55)
    have x_59 := Lib.hid (x_47.out.below hb55)
    have y_60 := Lib.hid (y_48.out.below hb55)
    have a_61 := Lib.hid (a_49.out.below hb55)
    have x_62 := Lib.hid (x_50.out.below hb55)
    have y_63 := Lib.hid (y_51.out.below hb55)
    have g_64 := Lib.hid (g_54.out.below hb55)
    have BB_65 := Lib.hid (below_link BB.out hb55 BB.out.size)
    clear BB
    have BB := BB_65
    clear BB_65
    have S66 := Lib.hid (show w9.heap.size ≤ w10.heap.size from hb55.size)
    clear a_46 x_47 y_48 a_49 x_50 y_51 g_54 hb55
    have ghone := gone.out
    obtain ⟨gc0, gc1, gc2, gc3, gc4, gc5⟩ := row_57.out
    rw [Hw10.out] at gc0 gc1 gc2 gc3 gc4 gc5
    obtain ⟨ac0, ac1, ac2, ac3, ac4, ac5⟩ := a_58.out
    rw [Hw10.out] at ac0 ac1 ac2 ac3 ac4 ac5
    go_wp2_with (first | (refine wpList_store_row rfl 29 _ _ rfl w9.heap.size #[g0, g1, g2, g3, g4, g5] rfl rfl 29 _ (heap_alloc_new w9 _) tree_size rfl ghone ?_; rw [World.setRow_alloc_new]) | fail)
    rw [← Hw10.out]
    refine (HEK.out _ _ _ _ _ g_64.out.lies a_61.out.lies).mono ?_
    rintro e w11 ⟨rfl, hb67⟩
    have a_68 := Lib.hid (a_58.out.below hb67)
    have x_69 := Lib.hid (x_59.out.below hb67)
    have y_70 := Lib.hid (y_60.out.below hb67)
    have g_71 := Lib.hid (row_57.out.below hb67)
    have a_72 := Lib.hid (a_61.out.below hb67)
    have x_73 := Lib.hid (x_62.out.below hb67)
    have y_74 := Lib.hid (y_63.out.below hb67)
    have g_75 := Lib.hid (g_64.out.below hb67)
    have BB_76 := Lib.hid (below_link BB.out hb67 BB.out.size)
    clear BB
    have BB := BB_76
    clear BB_76
    have S77 := Lib.hid (show w10.heap.size ≤ w11.heap.size from hb67.size)
    clear a_58 x_59 y_60 row_57 a_61 x_62 y_63 g_64 gc0 gc1 gc2 gc3 gc4 gc5 ac0 ac1 ac2 ac3 ac4 ac5 hb67
    go_upto_region 16 with fail
    go_cut [65] from 61 to 65 (fun sA wx => sA = .bool false ∧ Hid (Below w11.heap.size w11 wx))
    case first =>
      obtain ⟨xc0, xc1, xc2, xc3, xc4, xc5⟩ := x_69.out
      obtain ⟨argc0, argc1, argc2, argc3, argc4, argc5⟩ := (ARG.out.below BB.out)
      go_wp2_with fail
      go_region_law (go_simp; first | (go_at_call 8; refine (GT.out _ ((Gl.out.below BB.out).below (Below.refl _ _).drew)).mono ?_; rintro e wm78 ⟨⟨usm78, Fm78, rfl, hom78, _⟩, hb79⟩; obtain ⟨qm780, qm781, qm782, qm783, qm784, qm785⟩ := (Row6.below (w := w11.drew) (w' := wm78) x_69.out hb79)) | (go_at_call 10; refine (GE.out _ _ _ _ _ (x_73.out.lies.below ((Below.refl _ _).drew.trans (hb79.mono (Nat.le_refl _)))) hom78.lies).mono ?_; rintro e wvm78 ⟨rfl, hb80⟩))
      all_goals
        have Hbz := Lib.hid (show Below w11.heap.size w11 wvm78 from below_link ((Below.refl _ _).drew.trans (hb79.mono (Nat.le_refl _))) hb80 hb79.size)
        clear hb79 hb80 qm780 qm781 qm782 qm783 qm784 qm785
        go_wp2_with fail
        go_meet
        exact ⟨rfl, Hbz⟩
    case rest =>
      obtain ⟨w12, hw12⟩ : ∃ x, x = wc := ⟨_, rfl⟩
      subst hw12
      obtain ⟨rfl, hb81h⟩ := hcut
      have hb81 := hb81h.out
      clear hb81h
      have a_82 := Lib.hid (a_68.out.below hb81)
      have x_83 := Lib.hid (x_69.out.below hb81)
      have y_84 := Lib.hid (y_70.out.below hb81)
      have g_85 := Lib.hid (g_71.out.below hb81)
      have a_86 := Lib.hid (a_72.out.below hb81)
      have x_87 := Lib.hid (x_73.out.below hb81)
      have y_88 := Lib.hid (y_74.out.below hb81)
      have g_89 := Lib.hid (g_75.out.below hb81)
      have BB_90 := Lib.hid (below_link BB.out hb81 BB.out.size)
      clear BB
      have BB := BB_90
      clear BB_90
      have S91 := Lib.hid (show w11.heap.size ≤ w12.heap.size from hb81.size)
      clear a_68 x_69 y_70 g_71 a_72 x_73 y_74 g_75 hb81
      go_upto_region 18 with fail
      go_cut [70] from 66 to 70 (fun sA wx => sA = .bool false ∧ Hid (Below w12.heap.size w12 wx))
      case first =>
        obtain ⟨yc0, yc1, yc2, yc3, yc4, yc5⟩ := y_84.out
        obtain ⟨brgc0, brgc1, brgc2, brgc3, brgc4, brgc5⟩ := (BRG.out.below BB.out)
        go_wp2_with fail
        go_region_law (go_simp; first | (go_at_call 8; refine (HT.out _ ((Hl.out.below BB.out).below (Below.refl _ _).drew)).mono ?_; rintro e wm92 ⟨⟨usm92, Fm92, rfl, hom92, _⟩, hb93⟩; obtain ⟨qm920, qm921, qm922, qm923, qm924, qm925⟩ := (Row6.below (w := w12.drew) (w' := wm92) y_84.out hb93)) | (go_at_call 10; refine (HE.out _ _ _ _ _ (y_88.out.lies.below ((Below.refl _ _).drew.trans (hb93.mono (Nat.le_refl _)))) hom92.lies).mono ?_; rintro e wvm92 ⟨rfl, hb94⟩))
        all_goals
          have Hbz := Lib.hid (show Below w12.heap.size w12 wvm92 from below_link ((Below.refl _ _).drew.trans (hb93.mono (Nat.le_refl _))) hb94 hb93.size)
          clear hb93 hb94 qm920 qm921 qm922 qm923 qm924 qm925
          go_wp2_with fail
          go_meet
          exact ⟨rfl, Hbz⟩
      case rest =>
        obtain ⟨w13, hw13⟩ : ∃ x, x = wc := ⟨_, rfl⟩
        subst hw13
        obtain ⟨rfl, hb95h⟩ := hcut
        have hb95 := hb95h.out
        clear hb95h
        have a_96 := Lib.hid (a_82.out.below hb95)
        have x_97 := Lib.hid (x_83.out.below hb95)
        have y_98 := Lib.hid (y_84.out.below hb95)
        have g_99 := Lib.hid (g_85.out.below hb95)
        have a_100 := Lib.hid (a_86.out.below hb95)
        have x_101 := Lib.hid (x_87.out.below hb95)
        have y_102 := Lib.hid (y_88.out.below hb95)
        have g_103 := Lib.hid (g_89.out.below hb95)
        have BB_104 := Lib.hid (below_link BB.out hb95 BB.out.size)
        clear BB
        have BB := BB_104
        clear BB_104
        have S105 := Lib.hid (show w12.heap.size ≤ w13.heap.size from hb95.size)
        clear a_82 x_83 y_84 g_85 a_86 x_87 y_88 g_89 hb95
        obtain ⟨xc0, xc1, xc2, xc3, xc4, xc5⟩ := x_97.out
        go_wp2_with fail
        refine (HM.out _ _ _ _ _ x_101.out xN.out).mono ?_
        rintro e w14 ⟨rfl, ho107, hk106⟩
        have a_108 := Lib.hid (a_96.out.but hk106 (fun hx => by have := S0.out; have := S3.out; have := S6.out; have := S8.out; have := S9.out; have := S10.out; have := S17.out; have := S26.out; have := S20.out; have := S33.out; have := S44.out; have := S36.out; have := S53.out; have := S66.out; have := S56.out; have := S77.out; have := S91.out; have := S105.out; have h1 := xR.out _ hx; omega))
        have x_109 := Lib.hid (x_97.out.but hk106 (fun hx => by have := S0.out; have := S3.out; have := S6.out; have := S8.out; have := S9.out; have := S10.out; have := S17.out; have := S26.out; have := S20.out; have := S33.out; have := S44.out; have := S36.out; have := S53.out; have := S66.out; have := S56.out; have := S77.out; have := S91.out; have := S105.out; have h1 := xR.out _ hx; omega))
        have y_110 := Lib.hid (y_98.out.but hk106 (fun hx => by have := S0.out; have := S3.out; have := S6.out; have := S8.out; have := S9.out; have := S10.out; have := S17.out; have := S26.out; have := S20.out; have := S33.out; have := S44.out; have := S36.out; have := S53.out; have := S66.out; have := S56.out; have := S77.out; have := S91.out; have := S105.out; have h1 := xR.out _ hx; omega))
        have g_111 := Lib.hid (g_99.out.but hk106 (fun hx => by have := S0.out; have := S3.out; have := S6.out; have := S8.out; have := S9.out; have := S10.out; have := S17.out; have := S26.out; have := S20.out; have := S33.out; have := S44.out; have := S36.out; have := S53.out; have := S66.out; have := S56.out; have := S77.out; have := S91.out; have := S105.out; have h1 := xR.out _ hx; omega))
        have a_112 := Lib.hid (a_100.out.but hk106 (fun x hy hx => by have := S0.out; have := S3.out; have := S6.out; have := S8.out; have := S9.out; have := S10.out; have := S17.out; have := S26.out; have := S20.out; have := S33.out; have := S44.out; have := S36.out; have := S53.out; have := S66.out; have := S56.out; have := S77.out; have := S91.out; have := S105.out; have h1 := xR.out _ hx; have h2 := aR.out _ hy; omega))
        have x_113 := Lib.hid ho107
        have y_114 := Lib.hid (y_102.out.but hk106 (fun x hy hx => by have := S0.out; have := S3.out; have := S6.out; have := S8.out; have := S9.out; have := S10.out; have := S17.out; have := S26.out; have := S20.out; have := S33.out; have := S44.out; have := S36.out; have := S53.out; have := S66.out; have := S56.out; have := S77.out; have := S91.out; have := S105.out; have h1 := xR.out _ hx; have h2 := yR.out _ hy; omega))
        have g_115 := Lib.hid (g_103.out.but hk106 (fun x hy hx => by have := S0.out; have := S3.out; have := S6.out; have := S8.out; have := S9.out; have := S10.out; have := S17.out; have := S26.out; have := S20.out; have := S33.out; have := S44.out; have := S36.out; have := S53.out; have := S66.out; have := S56.out; have := S77.out; have := S91.out; have := S105.out; have h1 := xR.out _ hx; have h2 := gR.out _ hy; omega))
        have BB_116 := Lib.hid (KeptBut.below BB.out hk106 BB.out.size (fun x hx => by have := S0.out; have := S3.out; have := S6.out; have := S8.out; have := S9.out; have := S10.out; have := S17.out; have := S26.out; have := S20.out; have := S33.out; have := S44.out; have := S36.out; have := S53.out; have := S66.out; have := S56.out; have := S77.out; have := S91.out; have := S105.out; have h1 := xR.out _ hx; omega))
        clear BB
        have BB := BB_116
        clear BB_116
        have S117 := Lib.hid (show w13.heap.size ≤ w14.heap.size from hk106.size)
        clear a_96 x_97 y_98 g_99 a_100 x_101 y_102 g_103 xc0 xc1 xc2 xc3 xc4 xc5 hk106 ho107 
        obtain ⟨yc0, yc1, yc2, yc3, yc4, yc5⟩ := y_110.out
        go_wp2_with fail
        refine (HM2.out _ _ _ _ _ y_114.out yN.out).mono ?_
        rintro e w15 ⟨rfl, ho119, hk118⟩
        have a_120 := Lib.hid (a_108.out.but hk118 (fun hx => by have := S0.out; have := S3.out; have := S6.out; have := S8.out; have := S9.out; have := S10.out; have := S17.out; have := S26.out; have := S20.out; have := S33.out; have := S44.out; have := S36.out; have := S53.out; have := S66.out; have := S56.out; have := S77.out; have := S91.out; have := S105.out; have := S117.out; have h1 := yR.out _ hx; omega))
        have x_121 := Lib.hid (x_109.out.but hk118 (fun hx => by have := S0.out; have := S3.out; have := S6.out; have := S8.out; have := S9.out; have := S10.out; have := S17.out; have := S26.out; have := S20.out; have := S33.out; have := S44.out; have := S36.out; have := S53.out; have := S66.out; have := S56.out; have := S77.out; have := S91.out; have := S105.out; have := S117.out; have h1 := yR.out _ hx; omega))
        have y_122 := Lib.hid (y_110.out.but hk118 (fun hx => by have := S0.out; have := S3.out; have := S6.out; have := S8.out; have := S9.out; have := S10.out; have := S17.out; have := S26.out; have := S20.out; have := S33.out; have := S44.out; have := S36.out; have := S53.out; have := S66.out; have := S56.out; have := S77.out; have := S91.out; have := S105.out; have := S117.out; have h1 := yR.out _ hx; omega))
        have g_123 := Lib.hid (g_111.out.but hk118 (fun hx => by have := S0.out; have := S3.out; have := S6.out; have := S8.out; have := S9.out; have := S10.out; have := S17.out; have := S26.out; have := S20.out; have := S33.out; have := S44.out; have := S36.out; have := S53.out; have := S66.out; have := S56.out; have := S77.out; have := S91.out; have := S105.out; have := S117.out; have h1 := yR.out _ hx; omega))
        have a_124 := Lib.hid (a_112.out.but hk118 (fun x hy hx => by have := S0.out; have := S3.out; have := S6.out; have := S8.out; have := S9.out; have := S10.out; have := S17.out; have := S26.out; have := S20.out; have := S33.out; have := S44.out; have := S36.out; have := S53.out; have := S66.out; have := S56.out; have := S77.out; have := S91.out; have := S105.out; have := S117.out; have h1 := yR.out _ hx; have h2 := aR.out _ hy; omega))
        have x_125 := Lib.hid (x_113.out.but hk118 (fun x hy hx => by have := S0.out; have := S3.out; have := S6.out; have := S8.out; have := S9.out; have := S10.out; have := S17.out; have := S26.out; have := S20.out; have := S33.out; have := S44.out; have := S36.out; have := S53.out; have := S66.out; have := S56.out; have := S77.out; have := S91.out; have := S105.out; have := S117.out; have h1 := yR.out _ hx; have h2 := xR.out _ hy; omega))
        have y_126 := Lib.hid ho119
        have g_127 := Lib.hid (g_115.out.but hk118 (fun x hy hx => by have := S0.out; have := S3.out; have := S6.out; have := S8.out; have := S9.out; have := S10.out; have := S17.out; have := S26.out; have := S20.out; have := S33.out; have := S44.out; have := S36.out; have := S53.out; have := S66.out; have := S56.out; have := S77.out; have := S91.out; have := S105.out; have := S117.out; have h1 := yR.out _ hx; have h2 := gR.out _ hy; omega))
        have BB_128 := Lib.hid (KeptBut.below BB.out hk118 BB.out.size (fun x hx => by have := S0.out; have := S3.out; have := S6.out; have := S8.out; have := S9.out; have := S10.out; have := S17.out; have := S26.out; have := S20.out; have := S33.out; have := S44.out; have := S36.out; have := S53.out; have := S66.out; have := S56.out; have := S77.out; have := S91.out; have := S105.out; have := S117.out; have h1 := yR.out _ hx; omega))
        clear BB
        have BB := BB_128
        clear BB_128
        have S129 := Lib.hid (show w14.heap.size ≤ w15.heap.size from hk118.size)
        clear a_108 x_109 y_110 g_111 a_112 x_113 y_114 g_115 yc0 yc1 yc2 yc3 yc4 yc5 hk118 ho119 
        obtain ⟨gc0, gc1, gc2, gc3, gc4, gc5⟩ := g_123.out
        obtain ⟨ac0, ac1, ac2, ac3, ac4, ac5⟩ := a_120.out
        go_wp2_with fail
        refine (HEK.out _ _ _ _ _ g_127.out.lies a_124.out.lies).mono ?_
        rintro e w16 ⟨rfl, hb130⟩
        have a_131 := Lib.hid (a_120.out.below hb130)
        have x_132 := Lib.hid (x_121.out.below hb130)
        have y_133 := Lib.hid (y_122.out.below hb130)
        have g_134 := Lib.hid (g_123.out.below hb130)
        have a_135 := Lib.hid (a_124.out.below hb130)
        have x_136 := Lib.hid (x_125.out.below hb130)
        have y_137 := Lib.hid (y_126.out.below hb130)
        have g_138 := Lib.hid (g_127.out.below hb130)
        have BB_139 := Lib.hid (below_link BB.out hb130 BB.out.size)
        clear BB
        have BB := BB_139
        clear BB_139
        have S140 := Lib.hid (show w15.heap.size ≤ w16.heap.size from hb130.size)
        clear a_120 x_121 y_122 g_123 a_124 x_125 y_126 g_127 gc0 gc1 gc2 gc3 gc4 gc5 ac0 ac1 ac2 ac3 ac4 ac5 hb130
        clear x_132 x_136
        clear y_133 y_137
        obtain ⟨gc0, gc1, gc2, gc3, gc4, gc5⟩ := g_134.out
        go_wp2_with fail
        refine (HMK.out _ _ _ _ _ g_138.out gN.out).mono ?_
        rintro e w17 ⟨rfl, ho142, hk141⟩
        have a_143 := Lib.hid (a_131.out.but hk141 (fun hx => by have := S0.out; have := S3.out; have := S6.out; have := S8.out; have := S9.out; have := S10.out; have := S17.out; have := S26.out; have := S20.out; have := S33.out; have := S44.out; have := S36.out; have := S53.out; have := S66.out; have := S56.out; have := S77.out; have := S91.out; have := S105.out; have := S117.out; have := S129.out; have := S140.out; have h1 := gR.out _ hx; omega))
        have g_144 := Lib.hid (g_134.out.but hk141 (fun hx => by have := S0.out; have := S3.out; have := S6.out; have := S8.out; have := S9.out; have := S10.out; have := S17.out; have := S26.out; have := S20.out; have := S33.out; have := S44.out; have := S36.out; have := S53.out; have := S66.out; have := S56.out; have := S77.out; have := S91.out; have := S105.out; have := S117.out; have := S129.out; have := S140.out; have h1 := gR.out _ hx; omega))
        have a_145 := Lib.hid (a_135.out.but hk141 (fun x hy hx => by have := S0.out; have := S3.out; have := S6.out; have := S8.out; have := S9.out; have := S10.out; have := S17.out; have := S26.out; have := S20.out; have := S33.out; have := S44.out; have := S36.out; have := S53.out; have := S66.out; have := S56.out; have := S77.out; have := S91.out; have := S105.out; have := S117.out; have := S129.out; have := S140.out; have h1 := gR.out _ hx; have h2 := aR.out _ hy; omega))
        have g_146 := Lib.hid ho142
        have BB_147 := Lib.hid (KeptBut.below BB.out hk141 BB.out.size (fun x hx => by have := S0.out; have := S3.out; have := S6.out; have := S8.out; have := S9.out; have := S10.out; have := S17.out; have := S26.out; have := S20.out; have := S33.out; have := S44.out; have := S36.out; have := S53.out; have := S66.out; have := S56.out; have := S77.out; have := S91.out; have := S105.out; have := S117.out; have := S129.out; have := S140.out; have h1 := gR.out _ hx; omega))
        clear BB
        have BB := BB_147
        clear BB_147
        have S148 := Lib.hid (show w16.heap.size ≤ w17.heap.size from hk141.size)
        clear a_131 g_134 a_135 g_138 gc0 gc1 gc2 gc3 gc4 gc5 hk141 ho142 
        obtain ⟨gc0, gc1, gc2, gc3, gc4, gc5⟩ := g_144.out
        go_wp2_with fail
        refine (HHK.out _ _ _ g_146.out.lies).mono ?_
        rintro e w18 ⟨rfl, hb149⟩
        have a_150 := Lib.hid (a_143.out.below hb149)
        have g_151 := Lib.hid (g_144.out.below hb149)
        have a_152 := Lib.hid (a_145.out.below hb149)
        have g_153 := Lib.hid (g_146.out.below hb149)
        have BB_154 := Lib.hid (below_link BB.out hb149 BB.out.size)
        clear BB
        have BB := BB_154
        clear BB_154
        have S155 := Lib.hid (show w17.heap.size ≤ w18.heap.size from hb149.size)
        clear a_143 g_144 a_145 g_146 gc0 gc1 gc2 gc3 gc4 gc5 hb149
        go_upto_region 33 with fail
        go_cut [17, 18] from 101 to 109 (fun sA sB wx => Hid (∃ (X : Nat) (us : List Value) (F : List Nat) (fK : Nat), sA = .pointer (some ⟨X, 0, none⟩) ∧ sB = .bool b ∧ wx.heap[X]? = some (.cells us.toArray 29 (0, 0)) ∧ OwnS wx w18.heap.size fK us (row KT) F ∧ F.Nodup ∧ X ∉ F ∧ w18.heap.size ≤ X ∧ Below w18.heap.size w18 wx))
        case first =>
          have B0 := Lib.hid (BB.out.trans ((Below.refl w18.heap.size w18).drew.mono BB.out.size))
          have hbo : Below w18.heap.size w18 w18.drew := (Below.refl _ _).drew
          have hso := hbo.size
          refine wp_region_held_drew (S := (fun w' => Below w1.heap.size w1 w' ∧ w'.cell? ⟨W.heap.size, 0, none⟩ = some u0 ∧ w'.cell? ⟨W.heap.size, 1, none⟩ = some u1 ∧ w'.cell? ⟨W.heap.size, 2, none⟩ = some u2 ∧ w'.cell? ⟨W.heap.size, 3, none⟩ = some u3 ∧ w'.cell? ⟨W.heap.size, 4, none⟩ = some u4 ∧ w'.cell? ⟨W.heap.size, 5, none⟩ = some u5 ∧ w'.cell? ⟨W.heap.size + 1, 0, none⟩ = some v0 ∧ w'.cell? ⟨W.heap.size + 1, 1, none⟩ = some v1 ∧ w'.cell? ⟨W.heap.size + 1, 2, none⟩ = some v2 ∧ w'.cell? ⟨W.heap.size + 1, 3, none⟩ = some v3 ∧ w'.cell? ⟨W.heap.size + 1, 4, none⟩ = some v4 ∧ w'.cell? ⟨W.heap.size + 1, 5, none⟩ = some v5)) (by kernel_rfl) ?_ (fun hHeld => ?_)
          · first | exact KS.out _ B0.out
          refine wpAnyH_take (i := 0) (v := ?_) rfl (by kernel_rfl) (by kernel_rfl) (by kernel_rfl) (fun _ _ _ h => h) (Or.inl ⟨by rfl, ?_⟩) (by assumption) ?_
          rotate_left
          · intro w' hSw
            try dsimp only at hSw
            go_simp
            try with_reducible rfl
          try simp only [Act.put, List.setIfInBounds_toArray, List.set_cons_zero, List.set_cons_succ, List.getElem_toArray, List.getElem_cons_zero, List.getElem_cons_succ]
          refine wpAnyH_take (i := 2) (v := ?_) rfl (by kernel_rfl) (by kernel_rfl) (by kernel_rfl) (fun _ _ _ h => h) (Or.inl ⟨by rfl, ?_⟩) (by assumption) ?_
          rotate_left
          · intro w' hSw
            try dsimp only at hSw
            go_simp
            try with_reducible rfl
          try simp only [Act.put, List.setIfInBounds_toArray, List.set_cons_zero, List.set_cons_succ, List.getElem_toArray, List.getElem_cons_zero, List.getElem_cons_succ]
          refine wpAnyH_take (i := 3) (v := ?_) rfl (by kernel_rfl) (by kernel_rfl) (by kernel_rfl) (fun _ _ _ h => h) (Or.inl ⟨by rfl, ?_⟩) (by assumption) ?_
          rotate_left
          · intro w' hSw
            try dsimp only at hSw
            go_simp
            try with_reducible rfl
          try simp only [Act.put, List.setIfInBounds_toArray, List.set_cons_zero, List.set_cons_succ, List.getElem_toArray, List.getElem_cons_zero, List.getElem_cons_succ]
          refine wpAnyH_ready (rs := [1, 9]) (by kernel_rfl) (by simp) ?_
          refine AllReadyH.cons rfl (fun K hK => ?_) ?_
          · go_simp
            go_at_call 8
            refine (GT.out _ (Gl.out.below hHeld.1)).mono ?_
            rintro e wA ⟨⟨usA, FA, rfl, oA, hnA⟩, hbn⟩
            have hxn := below_link hHeld.1 hbn hHeld.1.size
            have hbo := below_link hbo hbn hbo.size
            have hso := hbo.size
            refine hK.out _ _ ?_ (fun hHeld => ?_)
            · first | exact KS.out _ hxn | exact KS.out _ B0.out
            clear hK K
            try simp only [Act.put, List.setIfInBounds_toArray, List.set_cons_zero, List.set_cons_succ, List.getElem_toArray, List.getElem_cons_zero, List.getElem_cons_succ]
            refine wpAnyH_ready (rs := [4, 9]) (by kernel_rfl) (by simp) ?_
            refine AllReadyH.cons rfl (fun K hK => ?_) ?_
            · go_simp
              go_at_call 8
              refine (HT.out _ (Hl.out.below hHeld.1)).mono ?_
              rintro e wB ⟨⟨usB, FB, rfl, hoB, _⟩, hbn⟩
              have hxn := below_link hHeld.1 hbn hHeld.1.size
              have hbo := below_link hbo hbn hbo.size
              have oA := oA.below hbn
              have lB := hoB.lies
              have hso := hbo.size
              refine hK.out _ _ ?_ (fun hHeld => ?_)
              · first | exact KS.out _ hxn | exact KS.out _ B0.out
              clear hK K
              try simp only [Act.put, List.setIfInBounds_toArray, List.set_cons_zero, List.set_cons_succ, List.getElem_toArray, List.getElem_cons_zero, List.getElem_cons_succ]
              refine wpAnyH_ready (rs := [5, 9]) (by kernel_rfl) (by simp) ?_
              refine AllReadyH.cons rfl (fun K hK => ?_) ?_
              · go_simp
                go_at_call 9
                refine (HI.out _ _ _ _ _ _ _ oA hnA lB hHeld.1).mono ?_
                rintro e wC ⟨⟨gK, usK, FK, rfl, hoK, hnK⟩, hbn⟩
                have hxn := below_link hHeld.1 hbn hHeld.1.size
                have hbo := below_link hbo hbn hbo.size
                obtain ⟨x0, x1, x2, x3, x4, x5, rfl⟩ := six_of (hoK.1.trans (row_length _))
                have hone := hoK.one
                have hKB : w18.heap.size ≤ (World.heap wB).size := hso
                have hso := hbo.size
                refine hK.out _ _ ?_ (fun hHeld => ?_)
                · first | exact KS.out _ hxn | exact KS.out _ B0.out
                clear hK K
                try simp only [Act.put, List.setIfInBounds_toArray, List.set_cons_zero, List.set_cons_succ, List.getElem_toArray, List.getElem_cons_zero, List.getElem_cons_succ]
                refine wpAnyH_take (i := 6) (v := ?_) rfl (by kernel_rfl) (by kernel_rfl) (by kernel_rfl) (fun _ _ _ h => h) (Or.inl ⟨by rfl, ?_⟩) (by assumption) ?_
                rotate_left
                · intro w' hSw
                  try dsimp only at hSw
                  go_simp
                  try with_reducible rfl
                try simp only [Act.put, List.setIfInBounds_toArray, List.set_cons_zero, List.set_cons_succ, List.getElem_toArray, List.getElem_cons_zero, List.getElem_cons_succ]
                refine wpAnyH_take (i := 7) (v := ?_) rfl (by kernel_rfl) (by kernel_rfl) (by kernel_rfl) (fun _ _ _ h => h) (Or.inl ⟨by rfl, ?_⟩) (by assumption) ?_
                rotate_left
                · intro w' hSw
                  try dsimp only at hSw
                  go_simp
                  try with_reducible rfl
                try simp only [Act.put, List.setIfInBounds_toArray, List.set_cons_zero, List.set_cons_succ, List.getElem_toArray, List.getElem_cons_zero, List.getElem_cons_succ]
                refine wpAnyH_take (i := 8) (v := ?_) rfl (by kernel_rfl) (by kernel_rfl) (by kernel_rfl) (fun _ _ _ h => h) (Or.inl ⟨by rfl, ?_⟩) (by assumption) ?_
                rotate_left
                · intro w' hSw
                  try dsimp only at hSw
                  go_simp
                  try with_reducible rfl
                try simp only [Act.put, List.setIfInBounds_toArray, List.set_cons_zero, List.set_cons_succ, List.getElem_toArray, List.getElem_cons_zero, List.getElem_cons_succ]
                refine wpAnyH_ready (rs := [9]) (by kernel_rfl) (by simp) ?_
                refine AllReadyH.cons rfl (fun K hK => ?_) ?_
                · go_simp
                  obtain ⟨X, hXe⟩ : ∃ X, X = (World.heap wC).size := ⟨_, rfl⟩
                  have hz : (World.heap (World.alloc wC (.cells #[.int .i64 0, .bool false, .int .i64 0, .string ⟨#[]⟩, .slice none 0 0, .slice none 0 0] 29)))[X]? = some (.cells #[.int .i64 0, .bool false, .int .i64 0, .string ⟨#[]⟩, .slice none 0 0, .slice none 0 0] 29 (0, 0)) := by rw [hXe]; exact heap_alloc_new wC _
                  have hba : Below (World.heap wC).size wC (World.alloc wC (.cells #[.int .i64 0, .bool false, .int .i64 0, .string ⟨#[]⟩, .slice none 0 0, .slice none 0 0] 29)) := (show Below (World.heap wC).size wC (World.alloc wC (.cells #[.int .i64 0, .bool false, .int .i64 0, .string ⟨#[]⟩, .slice none 0 0, .slice none 0 0] 29)) from (Below.refl _ _).alloc (Nat.le_refl _) _)
                  have hxn := below_link hHeld.1 hba hHeld.1.size
                  have hX : w1.heap.size ≤ X := by rw [hXe]; exact hHeld.1.size
                  have hXo : w18.heap.size ≤ X := by rw [hXe]; exact hso
                  have hbo := below_link hbo hba hbo.size
                  have hXF : X ∉ FK := fun hin => by have := (hoK.range _ hin).2; omega
                  have hoK := hoK.below hba
                  have hXlt : X < (World.heap (World.alloc wC (.cells #[.int .i64 0, .bool false, .int .i64 0, .string ⟨#[]⟩, .slice none 0 0, .slice none 0 0] 29))).size := heap_lt hz
                  refine hK.out _ _ ?_ (fun hHeld => ?_)
                  · first | exact KS.out _ hxn | exact KS.out _ B0.out
                  clear hK K
                  try simp only [Act.put, List.setIfInBounds_toArray, List.set_cons_zero, List.set_cons_succ, List.getElem_toArray, List.getElem_cons_zero, List.getElem_cons_succ]
                  rw [← hXe]
                  clear hXe
                  generalize World.alloc wC (.cells #[.int .i64 0, .bool false, .int .i64 0, .string ⟨#[]⟩, .slice none 0 0, .slice none 0 0] 29) = wz at *
                  have hso := hbo.size
                  refine wpAnyH_ready (rs := [10]) (by kernel_rfl) (by simp) ?_
                  refine AllReadyH.cons rfl (fun K hK => ?_) ?_
                  · refine step_store_row rfl 29 _ _ rfl X #[x0, x1, x2, x3, x4, x5] rfl rfl 29 _ hz tree_size' rfl hone ?_
                    have hxn : Below w1.heap.size w1 (World.setRow wz X #[x0, x1, x2, x3, x4, x5]) := setRow_below hHeld.1 hX _
                    have E1 := Lib.hid (setRow_at (c := #[x0, x1, x2, x3, x4, x5]) hz)
                    have E2 := Lib.hid ((OwnS.kept (w' := World.setRow wz X #[x0, x1, x2, x3, x4, x5]) (fun y hy => by have h8 : y ≠ X := fun e => hXF (by rw [← e]; exact hy); simp only [World.setRow, Array.getElem?_modify]; rw [if_neg (fun e => h8 e.symm)]) hoK).lower hKB)
                    have E3 := Lib.hid hXF
                    have E4 := Lib.hid hXo
                    have E5 := Lib.hid (setRow_below hbo hXo #[x0, x1, x2, x3, x4, x5])
                    have E6 := Lib.hid hnK
                    refine hK.out _ _ ?_ (fun hHeld => ?_)
                    · first | exact KS.out _ hxn | exact KS.out _ B0.out
                    clear hK K
                    try simp only [Act.put, List.setIfInBounds_toArray, List.set_cons_zero, List.set_cons_succ, List.getElem_toArray, List.getElem_cons_zero, List.getElem_cons_succ]
                    refine wpAnyH_take (i := 11) (v := ?_) rfl (by kernel_rfl) (by kernel_rfl) (by kernel_rfl) (fun _ _ _ h => h) (Or.inl ⟨by rfl, ?_⟩) (by assumption) ?_
                    rotate_left
                    · intro w' hSw
                      try dsimp only at hSw
                      go_simp
                      try with_reducible rfl
                    try simp only [Act.put, List.setIfInBounds_toArray, List.set_cons_zero, List.set_cons_succ, List.getElem_toArray, List.getElem_cons_zero, List.getElem_cons_succ]
                    refine wpAnyH_done (by kernel_rfl) ?_ _
                    go_wp2_with fail
                    go_meet
                    exact Lib.hid ⟨X, [x0, x1, x2, x3, x4, x5], FK, _, rfl, rfl, E1.out, E2.out, E6.out, E3.out, E4.out, E5.out⟩
                  exact AllReadyH.nil
                exact AllReadyH.nil
              refine AllReadyH.cons rfl (fun K hK => ?_) ?_
              · go_simp
                obtain ⟨X, hXe⟩ : ∃ X, X = (World.heap wB).size := ⟨_, rfl⟩
                have hz : (World.heap (World.alloc wB (.cells #[.int .i64 0, .bool false, .int .i64 0, .string ⟨#[]⟩, .slice none 0 0, .slice none 0 0] 29)))[X]? = some (.cells #[.int .i64 0, .bool false, .int .i64 0, .string ⟨#[]⟩, .slice none 0 0, .slice none 0 0] 29 (0, 0)) := by rw [hXe]; exact heap_alloc_new wB _
                have hba : Below (World.heap wB).size wB (World.alloc wB (.cells #[.int .i64 0, .bool false, .int .i64 0, .string ⟨#[]⟩, .slice none 0 0, .slice none 0 0] 29)) := (show Below (World.heap wB).size wB (World.alloc wB (.cells #[.int .i64 0, .bool false, .int .i64 0, .string ⟨#[]⟩, .slice none 0 0, .slice none 0 0] 29)) from (Below.refl _ _).alloc (Nat.le_refl _) _)
                have hxn := below_link hHeld.1 hba hHeld.1.size
                have hX : w1.heap.size ≤ X := by rw [hXe]; exact hHeld.1.size
                have hXo : w18.heap.size ≤ X := by rw [hXe]; exact hso
                have hbo := below_link hbo hba hbo.size
                have oA := oA.below hba
                have lB := lB.below hba
                have hXlt : X < (World.heap (World.alloc wB (.cells #[.int .i64 0, .bool false, .int .i64 0, .string ⟨#[]⟩, .slice none 0 0, .slice none 0 0] 29))).size := heap_lt hz
                refine hK.out _ _ ?_ (fun hHeld => ?_)
                · first | exact KS.out _ hxn | exact KS.out _ B0.out
                clear hK K
                try simp only [Act.put, List.setIfInBounds_toArray, List.set_cons_zero, List.set_cons_succ, List.getElem_toArray, List.getElem_cons_zero, List.getElem_cons_succ]
                rw [← hXe]
                clear hXe
                generalize World.alloc wB (.cells #[.int .i64 0, .bool false, .int .i64 0, .string ⟨#[]⟩, .slice none 0 0, .slice none 0 0] 29) = wz at *
                have hso := hbo.size
                refine wpAnyH_ready (rs := [5]) (by kernel_rfl) (by simp) ?_
                refine AllReadyH.cons rfl (fun K hK => ?_) ?_
                · go_simp
                  go_at_call 9
                  refine (HI.out _ _ _ _ _ _ _ oA hnA lB hHeld.1).mono ?_
                  rintro e wC ⟨⟨gK, usK, FK, rfl, hoK, hnK⟩, hbn⟩
                  have hxn := below_link hHeld.1 hbn hHeld.1.size
                  have hbo := below_link hbo hbn hbo.size
                  have hz := heap_kept hbn (heap_lt hz) hz
                  obtain ⟨x0, x1, x2, x3, x4, x5, rfl⟩ := six_of (hoK.1.trans (row_length _))
                  have hone := hoK.one
                  have hKB : w18.heap.size ≤ (World.heap wz).size := hso
                  have hXF : X ∉ FK := fun hin => by have := (hoK.range _ hin).1; have := hXlt; omega
                  have hso := hbo.size
                  have hXlt : X < wC.heap.size := heap_lt hz
                  refine hK.out _ _ ?_ (fun hHeld => ?_)
                  · first | exact KS.out _ hxn | exact KS.out _ B0.out
                  clear hK K
                  try simp only [Act.put, List.setIfInBounds_toArray, List.set_cons_zero, List.set_cons_succ, List.getElem_toArray, List.getElem_cons_zero, List.getElem_cons_succ]
                  refine wpAnyH_take (i := 6) (v := ?_) rfl (by kernel_rfl) (by kernel_rfl) (by kernel_rfl) (fun _ _ _ h => h) (Or.inl ⟨by rfl, ?_⟩) (by assumption) ?_
                  rotate_left
                  · intro w' hSw
                    try dsimp only at hSw
                    go_simp
                    try with_reducible rfl
                  try simp only [Act.put, List.setIfInBounds_toArray, List.set_cons_zero, List.set_cons_succ, List.getElem_toArray, List.getElem_cons_zero, List.getElem_cons_succ]
                  refine wpAnyH_take (i := 7) (v := ?_) rfl (by kernel_rfl) (by kernel_rfl) (by kernel_rfl) (fun _ _ _ h => h) (Or.inl ⟨by rfl, ?_⟩) (by assumption) ?_
                  rotate_left
                  · intro w' hSw
                    try dsimp only at hSw
                    go_simp
                    try with_reducible rfl
                  try simp only [Act.put, List.setIfInBounds_toArray, List.set_cons_zero, List.set_cons_succ, List.getElem_toArray, List.getElem_cons_zero, List.getElem_cons_succ]
                  refine wpAnyH_take (i := 8) (v := ?_) rfl (by kernel_rfl) (by kernel_rfl) (by kernel_rfl) (fun _ _ _ h => h) (Or.inl ⟨by rfl, ?_⟩) (by assumption) ?_
                  rotate_left
                  · intro w' hSw
                    try dsimp only at hSw
                    go_simp
                    try with_reducible rfl
                  try simp only [Act.put, List.setIfInBounds_toArray, List.set_cons_zero, List.set_cons_succ, List.getElem_toArray, List.getElem_cons_zero, List.getElem_cons_succ]
                  refine wpAnyH_ready (rs := [10]) (by kernel_rfl) (by simp) ?_
                  refine AllReadyH.cons rfl (fun K hK => ?_) ?_
                  · refine step_store_row rfl 29 _ _ rfl X #[x0, x1, x2, x3, x4, x5] rfl rfl 29 _ hz tree_size' rfl hone ?_
                    have hxn : Below w1.heap.size w1 (World.setRow wC X #[x0, x1, x2, x3, x4, x5]) := setRow_below hHeld.1 hX _
                    have E1 := Lib.hid (setRow_at (c := #[x0, x1, x2, x3, x4, x5]) hz)
                    have E2 := Lib.hid ((OwnS.kept (w' := World.setRow wC X #[x0, x1, x2, x3, x4, x5]) (fun y hy => by have h8 : y ≠ X := fun e => hXF (by rw [← e]; exact hy); simp only [World.setRow, Array.getElem?_modify]; rw [if_neg (fun e => h8 e.symm)]) hoK).lower hKB)
                    have E3 := Lib.hid hXF
                    have E4 := Lib.hid hXo
                    have E5 := Lib.hid (setRow_below hbo hXo #[x0, x1, x2, x3, x4, x5])
                    have E6 := Lib.hid hnK
                    refine hK.out _ _ ?_ (fun hHeld => ?_)
                    · first | exact KS.out _ hxn | exact KS.out _ B0.out
                    clear hK K
                    try simp only [Act.put, List.setIfInBounds_toArray, List.set_cons_zero, List.set_cons_succ, List.getElem_toArray, List.getElem_cons_zero, List.getElem_cons_succ]
                    refine wpAnyH_take (i := 11) (v := ?_) rfl (by kernel_rfl) (by kernel_rfl) (by kernel_rfl) (fun _ _ _ h => h) (Or.inl ⟨by rfl, ?_⟩) (by assumption) ?_
                    rotate_left
                    · intro w' hSw
                      try dsimp only at hSw
                      go_simp
                      try with_reducible rfl
                    try simp only [Act.put, List.setIfInBounds_toArray, List.set_cons_zero, List.set_cons_succ, List.getElem_toArray, List.getElem_cons_zero, List.getElem_cons_succ]
                    refine wpAnyH_done (by kernel_rfl) ?_ _
                    go_wp2_with fail
                    go_meet
                    exact Lib.hid ⟨X, [x0, x1, x2, x3, x4, x5], FK, _, rfl, rfl, E1.out, E2.out, E6.out, E3.out, E4.out, E5.out⟩
                  exact AllReadyH.nil
                exact AllReadyH.nil
              exact AllReadyH.nil
            refine AllReadyH.cons rfl (fun K hK => ?_) ?_
            · go_simp
              obtain ⟨X, hXe⟩ : ∃ X, X = (World.heap wA).size := ⟨_, rfl⟩
              have hz : (World.heap (World.alloc wA (.cells #[.int .i64 0, .bool false, .int .i64 0, .string ⟨#[]⟩, .slice none 0 0, .slice none 0 0] 29)))[X]? = some (.cells #[.int .i64 0, .bool false, .int .i64 0, .string ⟨#[]⟩, .slice none 0 0, .slice none 0 0] 29 (0, 0)) := by rw [hXe]; exact heap_alloc_new wA _
              have hba : Below (World.heap wA).size wA (World.alloc wA (.cells #[.int .i64 0, .bool false, .int .i64 0, .string ⟨#[]⟩, .slice none 0 0, .slice none 0 0] 29)) := (show Below (World.heap wA).size wA (World.alloc wA (.cells #[.int .i64 0, .bool false, .int .i64 0, .string ⟨#[]⟩, .slice none 0 0, .slice none 0 0] 29)) from (Below.refl _ _).alloc (Nat.le_refl _) _)
              have hxn := below_link hHeld.1 hba hHeld.1.size
              have hX : w1.heap.size ≤ X := by rw [hXe]; exact hHeld.1.size
              have hXo : w18.heap.size ≤ X := by rw [hXe]; exact hso
              have hbo := below_link hbo hba hbo.size
              have oA := oA.below hba
              have hXlt : X < (World.heap (World.alloc wA (.cells #[.int .i64 0, .bool false, .int .i64 0, .string ⟨#[]⟩, .slice none 0 0, .slice none 0 0] 29))).size := heap_lt hz
              refine hK.out _ _ ?_ (fun hHeld => ?_)
              · first | exact KS.out _ hxn | exact KS.out _ B0.out
              clear hK K
              try simp only [Act.put, List.setIfInBounds_toArray, List.set_cons_zero, List.set_cons_succ, List.getElem_toArray, List.getElem_cons_zero, List.getElem_cons_succ]
              rw [← hXe]
              clear hXe
              generalize World.alloc wA (.cells #[.int .i64 0, .bool false, .int .i64 0, .string ⟨#[]⟩, .slice none 0 0, .slice none 0 0] 29) = wz at *
              have hso := hbo.size
              refine wpAnyH_ready (rs := [4]) (by kernel_rfl) (by simp) ?_
              refine AllReadyH.cons rfl (fun K hK => ?_) ?_
              · go_simp
                go_at_call 8
                refine (HT.out _ (Hl.out.below hHeld.1)).mono ?_
                rintro e wB ⟨⟨usB, FB, rfl, hoB, _⟩, hbn⟩
                have hxn := below_link hHeld.1 hbn hHeld.1.size
                have hbo := below_link hbo hbn hbo.size
                have hz := heap_kept hbn (heap_lt hz) hz
                have oA := oA.below hbn
                have lB := hoB.lies
                have hso := hbo.size
                have hXlt : X < wB.heap.size := heap_lt hz
                refine hK.out _ _ ?_ (fun hHeld => ?_)
                · first | exact KS.out _ hxn | exact KS.out _ B0.out
                clear hK K
                try simp only [Act.put, List.setIfInBounds_toArray, List.set_cons_zero, List.set_cons_succ, List.getElem_toArray, List.getElem_cons_zero, List.getElem_cons_succ]
                refine wpAnyH_ready (rs := [5]) (by kernel_rfl) (by simp) ?_
                refine AllReadyH.cons rfl (fun K hK => ?_) ?_
                · go_simp
                  go_at_call 9
                  refine (HI.out _ _ _ _ _ _ _ oA hnA lB hHeld.1).mono ?_
                  rintro e wC ⟨⟨gK, usK, FK, rfl, hoK, hnK⟩, hbn⟩
                  have hxn := below_link hHeld.1 hbn hHeld.1.size
                  have hbo := below_link hbo hbn hbo.size
                  have hz := heap_kept hbn (heap_lt hz) hz
                  obtain ⟨x0, x1, x2, x3, x4, x5, rfl⟩ := six_of (hoK.1.trans (row_length _))
                  have hone := hoK.one
                  have hKB : w18.heap.size ≤ (World.heap wB).size := hso
                  have hXF : X ∉ FK := fun hin => by have := (hoK.range _ hin).1; have := hXlt; omega
                  have hso := hbo.size
                  have hXlt : X < wC.heap.size := heap_lt hz
                  refine hK.out _ _ ?_ (fun hHeld => ?_)
                  · first | exact KS.out _ hxn | exact KS.out _ B0.out
                  clear hK K
                  try simp only [Act.put, List.setIfInBounds_toArray, List.set_cons_zero, List.set_cons_succ, List.getElem_toArray, List.getElem_cons_zero, List.getElem_cons_succ]
                  refine wpAnyH_take (i := 6) (v := ?_) rfl (by kernel_rfl) (by kernel_rfl) (by kernel_rfl) (fun _ _ _ h => h) (Or.inl ⟨by rfl, ?_⟩) (by assumption) ?_
                  rotate_left
                  · intro w' hSw
                    try dsimp only at hSw
                    go_simp
                    try with_reducible rfl
                  try simp only [Act.put, List.setIfInBounds_toArray, List.set_cons_zero, List.set_cons_succ, List.getElem_toArray, List.getElem_cons_zero, List.getElem_cons_succ]
                  refine wpAnyH_take (i := 7) (v := ?_) rfl (by kernel_rfl) (by kernel_rfl) (by kernel_rfl) (fun _ _ _ h => h) (Or.inl ⟨by rfl, ?_⟩) (by assumption) ?_
                  rotate_left
                  · intro w' hSw
                    try dsimp only at hSw
                    go_simp
                    try with_reducible rfl
                  try simp only [Act.put, List.setIfInBounds_toArray, List.set_cons_zero, List.set_cons_succ, List.getElem_toArray, List.getElem_cons_zero, List.getElem_cons_succ]
                  refine wpAnyH_take (i := 8) (v := ?_) rfl (by kernel_rfl) (by kernel_rfl) (by kernel_rfl) (fun _ _ _ h => h) (Or.inl ⟨by rfl, ?_⟩) (by assumption) ?_
                  rotate_left
                  · intro w' hSw
                    try dsimp only at hSw
                    go_simp
                    try with_reducible rfl
                  try simp only [Act.put, List.setIfInBounds_toArray, List.set_cons_zero, List.set_cons_succ, List.getElem_toArray, List.getElem_cons_zero, List.getElem_cons_succ]
                  refine wpAnyH_ready (rs := [10]) (by kernel_rfl) (by simp) ?_
                  refine AllReadyH.cons rfl (fun K hK => ?_) ?_
                  · refine step_store_row rfl 29 _ _ rfl X #[x0, x1, x2, x3, x4, x5] rfl rfl 29 _ hz tree_size' rfl hone ?_
                    have hxn : Below w1.heap.size w1 (World.setRow wC X #[x0, x1, x2, x3, x4, x5]) := setRow_below hHeld.1 hX _
                    have E1 := Lib.hid (setRow_at (c := #[x0, x1, x2, x3, x4, x5]) hz)
                    have E2 := Lib.hid ((OwnS.kept (w' := World.setRow wC X #[x0, x1, x2, x3, x4, x5]) (fun y hy => by have h8 : y ≠ X := fun e => hXF (by rw [← e]; exact hy); simp only [World.setRow, Array.getElem?_modify]; rw [if_neg (fun e => h8 e.symm)]) hoK).lower hKB)
                    have E3 := Lib.hid hXF
                    have E4 := Lib.hid hXo
                    have E5 := Lib.hid (setRow_below hbo hXo #[x0, x1, x2, x3, x4, x5])
                    have E6 := Lib.hid hnK
                    refine hK.out _ _ ?_ (fun hHeld => ?_)
                    · first | exact KS.out _ hxn | exact KS.out _ B0.out
                    clear hK K
                    try simp only [Act.put, List.setIfInBounds_toArray, List.set_cons_zero, List.set_cons_succ, List.getElem_toArray, List.getElem_cons_zero, List.getElem_cons_succ]
                    refine wpAnyH_take (i := 11) (v := ?_) rfl (by kernel_rfl) (by kernel_rfl) (by kernel_rfl) (fun _ _ _ h => h) (Or.inl ⟨by rfl, ?_⟩) (by assumption) ?_
                    rotate_left
                    · intro w' hSw
                      try dsimp only at hSw
                      go_simp
                      try with_reducible rfl
                    try simp only [Act.put, List.setIfInBounds_toArray, List.set_cons_zero, List.set_cons_succ, List.getElem_toArray, List.getElem_cons_zero, List.getElem_cons_succ]
                    refine wpAnyH_done (by kernel_rfl) ?_ _
                    go_wp2_with fail
                    go_meet
                    exact Lib.hid ⟨X, [x0, x1, x2, x3, x4, x5], FK, _, rfl, rfl, E1.out, E2.out, E6.out, E3.out, E4.out, E5.out⟩
                  exact AllReadyH.nil
                exact AllReadyH.nil
              exact AllReadyH.nil
            exact AllReadyH.nil
          refine AllReadyH.cons rfl (fun K hK => ?_) ?_
          · go_simp
            obtain ⟨X, hXe⟩ : ∃ X, X = (World.heap w18).size := ⟨_, rfl⟩
            have hz : (World.heap (World.drew (World.alloc w18 (.cells #[.int .i64 0, .bool false, .int .i64 0, .string ⟨#[]⟩, .slice none 0 0, .slice none 0 0] 29))))[X]? = some (.cells #[.int .i64 0, .bool false, .int .i64 0, .string ⟨#[]⟩, .slice none 0 0, .slice none 0 0] 29 (0, 0)) := by rw [hXe]; exact heap_alloc_new w18 _
            have hba : Below (World.heap w18.drew).size w18.drew (World.drew (World.alloc w18 (.cells #[.int .i64 0, .bool false, .int .i64 0, .string ⟨#[]⟩, .slice none 0 0, .slice none 0 0] 29))) := (show Below (World.heap w18.drew).size w18.drew (World.alloc w18.drew (.cells #[.int .i64 0, .bool false, .int .i64 0, .string ⟨#[]⟩, .slice none 0 0, .slice none 0 0] 29)) from (Below.refl _ _).alloc (Nat.le_refl _) _)
            have hxn := below_link hHeld.1 hba hHeld.1.size
            have hX : w1.heap.size ≤ X := by rw [hXe]; exact hHeld.1.size
            have hXo : w18.heap.size ≤ X := by rw [hXe]; exact hso
            have hbo := below_link hbo hba hbo.size
            have hXlt : X < (World.heap (World.drew (World.alloc w18 (.cells #[.int .i64 0, .bool false, .int .i64 0, .string ⟨#[]⟩, .slice none 0 0, .slice none 0 0] 29)))).size := heap_lt hz
            refine hK.out _ _ ?_ (fun hHeld => ?_)
            · first | exact KS.out _ hxn | exact KS.out _ B0.out
            clear hK K
            try simp only [Act.put, List.setIfInBounds_toArray, List.set_cons_zero, List.set_cons_succ, List.getElem_toArray, List.getElem_cons_zero, List.getElem_cons_succ]
            rw [← hXe]
            clear hXe
            generalize World.drew (World.alloc w18 (.cells #[.int .i64 0, .bool false, .int .i64 0, .string ⟨#[]⟩, .slice none 0 0, .slice none 0 0] 29)) = wz at *
            have hso := hbo.size
            refine wpAnyH_ready (rs := [1]) (by kernel_rfl) (by simp) ?_
            refine AllReadyH.cons rfl (fun K hK => ?_) ?_
            · go_simp
              go_at_call 8
              refine (GT.out _ (Gl.out.below hHeld.1)).mono ?_
              rintro e wA ⟨⟨usA, FA, rfl, oA, hnA⟩, hbn⟩
              have hxn := below_link hHeld.1 hbn hHeld.1.size
              have hbo := below_link hbo hbn hbo.size
              have hz := heap_kept hbn (heap_lt hz) hz
              have hso := hbo.size
              have hXlt : X < wA.heap.size := heap_lt hz
              refine hK.out _ _ ?_ (fun hHeld => ?_)
              · first | exact KS.out _ hxn | exact KS.out _ B0.out
              clear hK K
              try simp only [Act.put, List.setIfInBounds_toArray, List.set_cons_zero, List.set_cons_succ, List.getElem_toArray, List.getElem_cons_zero, List.getElem_cons_succ]
              refine wpAnyH_ready (rs := [4]) (by kernel_rfl) (by simp) ?_
              refine AllReadyH.cons rfl (fun K hK => ?_) ?_
              · go_simp
                go_at_call 8
                refine (HT.out _ (Hl.out.below hHeld.1)).mono ?_
                rintro e wB ⟨⟨usB, FB, rfl, hoB, _⟩, hbn⟩
                have hxn := below_link hHeld.1 hbn hHeld.1.size
                have hbo := below_link hbo hbn hbo.size
                have hz := heap_kept hbn (heap_lt hz) hz
                have oA := oA.below hbn
                have lB := hoB.lies
                have hso := hbo.size
                have hXlt : X < wB.heap.size := heap_lt hz
                refine hK.out _ _ ?_ (fun hHeld => ?_)
                · first | exact KS.out _ hxn | exact KS.out _ B0.out
                clear hK K
                try simp only [Act.put, List.setIfInBounds_toArray, List.set_cons_zero, List.set_cons_succ, List.getElem_toArray, List.getElem_cons_zero, List.getElem_cons_succ]
                refine wpAnyH_ready (rs := [5]) (by kernel_rfl) (by simp) ?_
                refine AllReadyH.cons rfl (fun K hK => ?_) ?_
                · go_simp
                  go_at_call 9
                  refine (HI.out _ _ _ _ _ _ _ oA hnA lB hHeld.1).mono ?_
                  rintro e wC ⟨⟨gK, usK, FK, rfl, hoK, hnK⟩, hbn⟩
                  have hxn := below_link hHeld.1 hbn hHeld.1.size
                  have hbo := below_link hbo hbn hbo.size
                  have hz := heap_kept hbn (heap_lt hz) hz
                  obtain ⟨x0, x1, x2, x3, x4, x5, rfl⟩ := six_of (hoK.1.trans (row_length _))
                  have hone := hoK.one
                  have hKB : w18.heap.size ≤ (World.heap wB).size := hso
                  have hXF : X ∉ FK := fun hin => by have := (hoK.range _ hin).1; have := hXlt; omega
                  have hso := hbo.size
                  have hXlt : X < wC.heap.size := heap_lt hz
                  refine hK.out _ _ ?_ (fun hHeld => ?_)
                  · first | exact KS.out _ hxn | exact KS.out _ B0.out
                  clear hK K
                  try simp only [Act.put, List.setIfInBounds_toArray, List.set_cons_zero, List.set_cons_succ, List.getElem_toArray, List.getElem_cons_zero, List.getElem_cons_succ]
                  refine wpAnyH_take (i := 6) (v := ?_) rfl (by kernel_rfl) (by kernel_rfl) (by kernel_rfl) (fun _ _ _ h => h) (Or.inl ⟨by rfl, ?_⟩) (by assumption) ?_
                  rotate_left
                  · intro w' hSw
                    try dsimp only at hSw
                    go_simp
                    try with_reducible rfl
                  try simp only [Act.put, List.setIfInBounds_toArray, List.set_cons_zero, List.set_cons_succ, List.getElem_toArray, List.getElem_cons_zero, List.getElem_cons_succ]
                  refine wpAnyH_take (i := 7) (v := ?_) rfl (by kernel_rfl) (by kernel_rfl) (by kernel_rfl) (fun _ _ _ h => h) (Or.inl ⟨by rfl, ?_⟩) (by assumption) ?_
                  rotate_left
                  · intro w' hSw
                    try dsimp only at hSw
                    go_simp
                    try with_reducible rfl
                  try simp only [Act.put, List.setIfInBounds_toArray, List.set_cons_zero, List.set_cons_succ, List.getElem_toArray, List.getElem_cons_zero, List.getElem_cons_succ]
                  refine wpAnyH_take (i := 8) (v := ?_) rfl (by kernel_rfl) (by kernel_rfl) (by kernel_rfl) (fun _ _ _ h => h) (Or.inl ⟨by rfl, ?_⟩) (by assumption) ?_
                  rotate_left
                  · intro w' hSw
                    try dsimp only at hSw
                    go_simp
                    try with_reducible rfl
                  try simp only [Act.put, List.setIfInBounds_toArray, List.set_cons_zero, List.set_cons_succ, List.getElem_toArray, List.getElem_cons_zero, List.getElem_cons_succ]
                  refine wpAnyH_ready (rs := [10]) (by kernel_rfl) (by simp) ?_
                  refine AllReadyH.cons rfl (fun K hK => ?_) ?_
                  · refine step_store_row rfl 29 _ _ rfl X #[x0, x1, x2, x3, x4, x5] rfl rfl 29 _ hz tree_size' rfl hone ?_
                    have hxn : Below w1.heap.size w1 (World.setRow wC X #[x0, x1, x2, x3, x4, x5]) := setRow_below hHeld.1 hX _
                    have E1 := Lib.hid (setRow_at (c := #[x0, x1, x2, x3, x4, x5]) hz)
                    have E2 := Lib.hid ((OwnS.kept (w' := World.setRow wC X #[x0, x1, x2, x3, x4, x5]) (fun y hy => by have h8 : y ≠ X := fun e => hXF (by rw [← e]; exact hy); simp only [World.setRow, Array.getElem?_modify]; rw [if_neg (fun e => h8 e.symm)]) hoK).lower hKB)
                    have E3 := Lib.hid hXF
                    have E4 := Lib.hid hXo
                    have E5 := Lib.hid (setRow_below hbo hXo #[x0, x1, x2, x3, x4, x5])
                    have E6 := Lib.hid hnK
                    refine hK.out _ _ ?_ (fun hHeld => ?_)
                    · first | exact KS.out _ hxn | exact KS.out _ B0.out
                    clear hK K
                    try simp only [Act.put, List.setIfInBounds_toArray, List.set_cons_zero, List.set_cons_succ, List.getElem_toArray, List.getElem_cons_zero, List.getElem_cons_succ]
                    refine wpAnyH_take (i := 11) (v := ?_) rfl (by kernel_rfl) (by kernel_rfl) (by kernel_rfl) (fun _ _ _ h => h) (Or.inl ⟨by rfl, ?_⟩) (by assumption) ?_
                    rotate_left
                    · intro w' hSw
                      try dsimp only at hSw
                      go_simp
                      try with_reducible rfl
                    try simp only [Act.put, List.setIfInBounds_toArray, List.set_cons_zero, List.set_cons_succ, List.getElem_toArray, List.getElem_cons_zero, List.getElem_cons_succ]
                    refine wpAnyH_done (by kernel_rfl) ?_ _
                    go_wp2_with fail
                    go_meet
                    exact Lib.hid ⟨X, [x0, x1, x2, x3, x4, x5], FK, _, rfl, rfl, E1.out, E2.out, E6.out, E3.out, E4.out, E5.out⟩
                  exact AllReadyH.nil
                exact AllReadyH.nil
              exact AllReadyH.nil
            exact AllReadyH.nil
          exact AllReadyH.nil
        case rest =>
          obtain ⟨w19, hw19⟩ : ∃ x, x = wc := ⟨_, rfl⟩
          subst hw19
          obtain ⟨hX, hus, hF, hf, rfl, rfl, hz, hho, hhn, hXF, hXo, hhb⟩ := hcut.out
          clear hcut
          obtain ⟨h0, h1, h2, h3, h4, h5, rfl⟩ := six_of (hho.1.trans (row_length _))
          have a_156 := Lib.hid (a_150.out.below hhb)
          have g_157 := Lib.hid (g_151.out.below hhb)
          have a_158 := Lib.hid (a_152.out.below hhb)
          have g_159 := Lib.hid (g_153.out.below hhb)
          have BB_160 := Lib.hid (below_link BB.out hhb BB.out.size)
          clear BB
          have BB := BB_160
          clear BB_160
          have S161 := Lib.hid (show w18.heap.size ≤ w19.heap.size from hhb.size)
          have S162 := Lib.hid (show hX < w19.heap.size from heap_lt hz)
          have S163 := Lib.hid hXo
          have row_164 := Lib.hid (show Row6 w19 hX h0 h1 h2 h3 h4 h5 from Row6.of hz)
          have hone := Lib.hid hho.one
          have hR := Lib.hid (show ∀ x ∈ hF, w18.heap.size ≤ x ∧ x < w19.heap.size from hho.range)
          have hN := Lib.hid hhn
          have h_165 := Lib.hid hho
          clear a_150 g_151 a_152 g_153 hz hho hhn hXF hXo hhb
          obtain ⟨hc0, hc1, hc2, hc3, hc4, hc5⟩ := row_164.out
          obtain ⟨ac0, ac1, ac2, ac3, ac4, ac5⟩ := a_156.out
          go_wp2_with fail
          refine (HEK.out _ _ _ _ _ h_165.out.lies a_158.out.lies).mono ?_
          rintro e w20 ⟨rfl, hb166⟩
          have a_167 := Lib.hid (a_156.out.below hb166)
          have g_168 := Lib.hid (g_157.out.below hb166)
          have h_169 := Lib.hid (row_164.out.below hb166)
          have a_170 := Lib.hid (a_158.out.below hb166)
          have g_171 := Lib.hid (g_159.out.below hb166)
          have h_172 := Lib.hid (h_165.out.below hb166)
          have BB_173 := Lib.hid (below_link BB.out hb166 BB.out.size)
          clear BB
          have BB := BB_173
          clear BB_173
          have S174 := Lib.hid (show w19.heap.size ≤ w20.heap.size from hb166.size)
          clear a_156 g_157 row_164 a_158 g_159 h_165 hc0 hc1 hc2 hc3 hc4 hc5 ac0 ac1 ac2 ac3 ac4 ac5 hb166
          obtain ⟨gc0, gc1, gc2, gc3, gc4, gc5⟩ := g_168.out
          go_wp2_with fail
          refine (HHK.out _ _ _ g_171.out.lies).mono ?_
          rintro e w21 ⟨rfl, hb175⟩
          have a_176 := Lib.hid (a_167.out.below hb175)
          have g_177 := Lib.hid (g_168.out.below hb175)
          have h_178 := Lib.hid (h_169.out.below hb175)
          have a_179 := Lib.hid (a_170.out.below hb175)
          have g_180 := Lib.hid (g_171.out.below hb175)
          have h_181 := Lib.hid (h_172.out.below hb175)
          have BB_182 := Lib.hid (below_link BB.out hb175 BB.out.size)
          clear BB
          have BB := BB_182
          clear BB_182
          have S183 := Lib.hid (show w20.heap.size ≤ w21.heap.size from hb175.size)
          clear a_167 g_168 h_169 a_170 g_171 h_172 gc0 gc1 gc2 gc3 gc4 gc5 hb175
          go_wp2_with fail
          go_ret
          exact ⟨rfl, below_link Hb1.out BB.out Hb1.out.size⟩
end Go.Proofs.YtlnfbpdicjcpgaaDoor.fnExactPutKid
