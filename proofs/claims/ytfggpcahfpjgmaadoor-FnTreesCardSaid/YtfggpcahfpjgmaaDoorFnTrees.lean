/- FnTrees: for every byte slice the law returns true. Printed by gen/gen_fntrees.py. -/
import Derived.Test.YtfggpcahfpjgmaaDoorDrawPut
import Derived.Test.YtfggpcahfpjgmaaDoorTreesM
import Derived.Test.YtfggpcahfpjgmaaDoorGPi
import Derived.Test.YtfggpcahfpjgmaaDoorTrKidI
import Derived.Test.YtfggpcahfpjgmaaDoorTrKeyI
import Derived.Test.YtfggpcahfpjgmaaDoorGSz
import Derived.Test.YtfggpcahfpjgmaaDoorGTo
import Derived.Test.YtfggpcahfpjgmaaDoorTrSameS
import Derived.Deep.RegionHeld3
import Derived.StillTailTactics
namespace Go.Proofs.YtfggpcahfpjgmaaDoor.fnTrees
open Go.ChangeShapes Go.WideShapes Go.ChangeAt Go.RowKit tree
open rune (Tabs)
set_option linter.unusedVariables false

theorem put_no {t kid : T} {key : ByteArray} (h : ¬ (t.kind = 6 ∧ Ok t ∧ Ok (putT t key kid))) : putKid t key kid = (t, false) := by unfold putKid; rw [if_neg h]
theorem put_yes {t kid : T} {key : ByteArray} (h : t.kind = 6 ∧ Ok t ∧ Ok (putT t key kid)) : putKid t key kid = (putT t key kid, true) := by unfold putKid; rw [if_pos h]
theorem two_rows {w : World} {U V : Array Value} : ((w.alloc (.cells zeroRow 27)).alloc (.cells zeroRow 27)).heap[w.heap.size]? = some (.cells zeroRow 27 (0, 0)) ∧ ((w.alloc (.cells zeroRow 27)).alloc (.cells zeroRow 27)).heap[w.heap.size + 1]? = some (.cells zeroRow 27 (0, 0)) := by
  refine ⟨by rw [Below.heap_alloc _ _ _ (by simp)]; exact heap_alloc_new w _, ?_⟩
  have h := heap_alloc_new (w.alloc (.cells zeroRow 27)) (.cells zeroRow 27)
  rw [World.size_alloc] at h
  exact h
set_option maxRecDepth 1000000 in
set_option maxHeartbeats 16000000 in
theorem walk (A : Option Addr) (len cap : Nat) (zs : List Int) (W : World) (hr : IsRow .u8 W A len cap zs) (hT : Tabs W) :
    Calls Tryd.prog 3 #[.slice A len cap] W fun e w' => e = .returned (.bool true) ∧ Below W.heap.size W w' := by
  have hm := hr.le
  have hB := Lib.hid (lawBig.any A len cap W hm)
  unfold maxLen at hm
  by_cases h1 : 1048576 < len
  · clear hr hT
    go_enter Tryd.func3, Tryd.ntmps3
    go_wp2_with fail
    refine hB.out.mono ?_
    rintro e w1 ⟨rfl, rfl⟩
    go_wp2_with fail
    go_ret
    exact ⟨rfl, Below.refl _ _⟩
  have HD := Lib.hid (drawPut_any A len cap zs W hr (by omega))
  have HT := Lib.hid (fun w1 (hb : Below W.heap.size W w1) => hT.below hb)
  clear hr hT
  go_enter Tryd.func3, Tryd.ntmps3
  go_wp2_with fail
  refine hB.out.mono ?_
  rintro e w1 ⟨rfl, rfl⟩
  clear hB
  go_wp2_with fail
  refine HD.out.mono ?_
  rintro e w1 ⟨t, key, kid, us, vs, f, F, f2, G, hwt, hkz, hwk, rfl, ho, hnd, ho2, hb1⟩
  obtain ⟨k, fl, n, s, ks, kids⟩ := t
  obtain ⟨A1, c1, A2, c2, rfl, wk, wn, ws, hc1, hc2, hrd, hksz, hc3, hc4, f', rfl, hkid⟩ := open_tree ho.lies
  obtain ⟨y0, y1, y2, y3, y4, y5, rfl⟩ := six_of (ho2.1.trans (row_length _))
  unfold maxLen at hc2 hc4
  have hz3 := (two_rows (w := w1) (U := #[]) (V := #[])).1
  have hz5 : (((w1.alloc (.cells zeroRow 27)).alloc (.cells zeroRow 27)).setRow w1.heap.size #[.int .i64 k, .bool fl, .int .i64 n, .string s, .slice A1 ks.length c1, .slice A2 kids.length c2]).heap[w1.heap.size + 1]? = some (.cells zeroRow 27 (0, 0)) := (row_other (by omega)).trans (two_rows (w := w1) (U := #[]) (V := #[])).2
  obtain ⟨w2, hw2⟩ : ∃ w2, w2 = (((w1.alloc (.cells zeroRow 27)).alloc (.cells zeroRow 27)).setRow w1.heap.size #[.int .i64 k, .bool fl, .int .i64 n, .string s, .slice A1 ks.length c1, .slice A2 kids.length c2]).setRow (w1.heap.size + 1) #[y0, y1, y2, y3, y4, y5] := ⟨_, rfl⟩
  have hb12 : Below w1.heap.size w1 w2 := by rw [hw2]; exact setRow_below (setRow_below (((Below.refl _ _).alloc (Nat.le_refl _) _).alloc (by simp) _) (Nat.le_refl _) _) (Nat.le_succ _) _
  have h3 : w2.heap[w1.heap.size]? = some (.cells #[.int .i64 k, .bool fl, .int .i64 n, .string s, .slice A1 ks.length c1, .slice A2 kids.length c2] 27 (0, 0)) := by rw [hw2]; exact (row_other (by omega)).trans (setRow_at hz3)
  have h5 : w2.heap[w1.heap.size + 1]? = some (.cells #[y0, y1, y2, y3, y4, y5] 27 (0, 0)) := by rw [hw2]; exact setRow_at hz5
  have hone := ho.one
  have hone2 := ho2.one
  have Hb2 := Lib.hid (below_link hb1 hb12 hb1.size)
  have HLU := Lib.hid (ho.lies.below hb12)
  have HLY := Lib.hid (ho2.lies.below hb12)
  have Hrd := Lib.hid (hrd.below hb12)
  have Hkid := Lib.hid (hkid.below hb12)
  have HI := Lib.hid (impl_put (T.mk k fl n s ks kids) key kid _ _ w2 (ho.below hb12) hnd (ho2.lies.below hb12) (by omega) (by omega) (by omega) (HT.out _ Hb2.out))
  have P3 := Lib.hid h3
  have P5 := Lib.hid h5
  have Hw2 := Lib.hid hw2
  obtain ⟨p0, p1, p2, p3, p4, p5⟩ := Row6.of h3
  obtain ⟨q0, q1, q2, q3, q4, q5⟩ := Row6.of h5
  rw [hw2] at p0 p1 p2 p3 p4 p5 q0 q1 q2 q3 q4 q5
  clear ho hnd ho2 hb1 hb12 h3 h5 hw2 hrd hkid hksz wk wn ws
  by_cases hp : (T.mk k fl n s ks kids).kind = 6 ∧ Ok (T.mk k fl n s ks kids) ∧ Ok (putT (T.mk k fl n s ks kids) key kid)
  · rw [put_yes hp] at HI
    have hg := put_good hp
    have hwo := put_weight (t := (T.mk k fl n s ks kids)) (kid := kid) (key := key) hg.len
    have Hln := Lib.hid (show ks.length = kids.length from hg.len)
    generalize putT (T.mk k fl n s ks kids) key kid = out at HI hg hwo
    obtain ⟨ko, fo, no, so, kso, kidso⟩ := out
    have hwo2 : weight (T.mk ko fo no so kso kidso) ≤ 1048576 := by omega
    have Hg := Lib.hid hg
    clear hp hwo hg
    go_wp2_with (first | (refine wpList_store_row rfl 27 _ _ rfl w1.heap.size #[.int .i64 k, .bool fl, .int .i64 n, .string s, .slice A1 ks.length c1, .slice A2 kids.length c2] rfl rfl 27 _ hz3 tree_size' rfl hone ?_) | (refine wpList_store_row rfl 27 _ _ rfl (w1.heap.size + 1) #[y0, y1, y2, y3, y4, y5] rfl rfl 27 _ hz5 tree_size' rfl hone2 ?_) | fail)
    rw [← Hw2.out]
    refine HI.out.mono ?_
    rintro e w3 ⟨⟨g9, us6, F6, rfl, ho6, hn6⟩, hb3⟩
    obtain ⟨A3, c3, A4, c4, rfl, _, _, _, hd1, hd2, hrd6, _, hd3, hd4, f6, rfl, _⟩ := open_tree ho6.lies
    unfold maxLen at hd2 hd4
    obtain ⟨w4, hw4⟩ : ∃ w4, w4 = w3.alloc (.cells #[.int .i64 ko, .bool fo, .int .i64 no, .string so, .slice A3 kso.length c3, .slice A4 kidso.length c4] 27) := ⟨_, rfl⟩
    have hb34 : Below w3.heap.size w3 w4 := by rw [hw4]; exact (Below.refl _ _).alloc (Nat.le_refl _) _
    have hb24 := below_link hb3 hb34 hb3.size
    have h6 : w4.heap[w3.heap.size]? = some (.cells #[.int .i64 ko, .bool fo, .int .i64 no, .string so, .slice A3 kso.length c3, .slice A4 kidso.length c4] 27 (0, 0)) := by rw [hw4]; exact heap_alloc_new w3 _
    have P6 := Lib.hid h6
    have P3' := Lib.hid (heap_kept hb24 (heap_lt P3.out) P3.out)
    have P5' := Lib.hid (heap_kept hb24 (heap_lt P5.out) P5.out)
    have HLU' := Lib.hid (HLU.out.below hb24)
    have HLY' := Lib.hid (HLY.out.below hb24)
    have HLX := Lib.hid (ho6.lies.below hb34)
    have Hrd' := Lib.hid (Hrd.out.below hb24)
    have Hkid' := Lib.hid (Hkid.out.below hb24)
    have Hrx := Lib.hid (hrd6.below hb34)
    have Hb4 := Lib.hid (below_link Hb2.out hb24 Hb2.out.size)
    have hone6 := ho6.one
    have HK := Lib.hid (impl_kid (T.mk ko fo no so kso kidso) key _ w4 HLX.out hwo2)
    rw [Hg.out.got] at HK
    have Hw4 := Lib.hid hw4
    clear HI hb3 hb34 hb24 ho6 hn6 hrd6 hw4 hz3 hz5 hone hone2 P3 P5 HLU HLY Hrd Hkid Hb2 Hw2 p0 p1 p2 p3 p4 p5 q0 q1 q2 q3 q4 q5
    obtain ⟨p0, p1, p2, p3, p4, p5⟩ := Row6.of h6
    rw [Hw4.out] at p0 p1 p2 p3 p4 p5
    clear h6
    go_wp2_with (first | (refine wpList_store_row rfl 27 _ _ rfl w3.heap.size #[.int .i64 ko, .bool fo, .int .i64 no, .string so, .slice A3 kso.length c3, .slice A4 kidso.length c4] rfl rfl 27 _ (heap_alloc_new w3 _) tree_size' rfl hone6 ?_; rw [World.setRow_alloc_new]) | fail)
    rw [← Hw4.out]
    refine HK.out.mono ?_
    rintro e w5 ⟨⟨us8, F8, rfl, ho8, _⟩, hb5⟩
    obtain ⟨v0, v1, v2, v3, v4, v5, rfl⟩ := six_of (ho8.1.trans (row_length _))
    obtain ⟨w6, hw6⟩ : ∃ w6, w6 = w5.alloc (.cells #[v0, v1, v2, v3, v4, v5] 27) := ⟨_, rfl⟩
    have hb56 : Below w5.heap.size w5 w6 := by rw [hw6]; exact (Below.refl _ _).alloc (Nat.le_refl _) _
    have hb46 := below_link hb5 hb56 hb5.size
    have h8 : w6.heap[w5.heap.size]? = some (.cells #[v0, v1, v2, v3, v4, v5] 27 (0, 0)) := by rw [hw6]; exact heap_alloc_new w5 _
    have P8 := Lib.hid h8
    have P6' := heap_kept hb46 (heap_lt P6.out) P6.out
    have P3 := Lib.hid (heap_kept hb46 (heap_lt P3'.out) P3'.out)
    have P5 := Lib.hid (heap_kept hb46 (heap_lt P5'.out) P5'.out)
    have HLU := Lib.hid (HLU'.out.below hb46)
    have HLY := Lib.hid (HLY'.out.below hb46)
    have HLX' := Lib.hid (HLX.out.below hb46)
    have HLV := Lib.hid (ho8.lies.below hb56)
    have Hrd := Lib.hid (Hrd'.out.below hb46)
    have Hkid := Lib.hid (Hkid'.out.below hb46)
    have Hrx' := Lib.hid (Hrx.out.below hb46)
    have Hb6 := Lib.hid (below_link Hb4.out hb46 Hb4.out.size)
    have hone8 := ho8.one
    obtain ⟨j, hj1, hj2, hj3⟩ := Hg.out.at_
    have HKe := Lib.hid (impl_key (T.mk ko fo no so kso kidso) key _ w6 HLX'.out)
    rw [hj1] at HKe
    have Hw6 := Lib.hid hw6
    clear HK hb5 hb56 hb46 ho8 hw6 hone6 P3' P5' P6 HLU' HLY' HLX Hrd' Hkid' Hrx Hb4 Hw4 p0 p1 p2 p3 p4 p5 h8 hj1
    have P6 := Lib.hid P6'
    obtain ⟨p0, p1, p2, p3, p4, p5⟩ := Row6.of P6'
    rw [Hw6.out] at p0 p1 p2 p3 p4 p5
    clear P6'
    go_wp2_with (first | (refine wpList_store_row rfl 27 _ _ rfl w5.heap.size #[v0, v1, v2, v3, v4, v5] rfl rfl 27 _ (heap_alloc_new w5 _) tree_size' rfl hone8 ?_; rw [World.setRow_alloc_new]) | fail)
    rw [← Hw6.out]
    refine HKe.out.mono ?_
    rintro e w7 ⟨rfl, hb7⟩
    have R3 := Lib.hid (heap_kept hb7 (heap_lt P3.out) P3.out)
    have R5 := Lib.hid (heap_kept hb7 (heap_lt P5.out) P5.out)
    have R6 := Lib.hid (heap_kept hb7 (heap_lt P6.out) P6.out)
    have R8 := Lib.hid (heap_kept hb7 (heap_lt P8.out) P8.out)
    have LU := Lib.hid (HLU.out.below hb7)
    have LY := Lib.hid (HLY.out.below hb7)
    have LX := Lib.hid (HLX'.out.below hb7)
    have LV := Lib.hid (HLV.out.below hb7)
    have RD := Lib.hid (Hrd.out.below hb7)
    have KD := Lib.hid (Hkid.out.below hb7)
    have RX := Lib.hid (Hrx'.out.below hb7)
    have Hb7 := Lib.hid (below_link Hb6.out hb7 Hb6.out.size)
    clear HKe hb7 P3 P5 P6 P8 HLU HLY HLX' HLV Hrd Hkid Hrx' Hb6 Hw6 p0 p1 p2 p3 p4 p5 hone8
    generalize w1.heap.size = g3 at R3 R5
    generalize w3.heap.size = g6 at R6
    generalize w5.heap.size = g8 at R8
    go_wp2_with fail
    go_loopw [11] (fun i wr => ∃ m : Nat, m ≤ ks.length ∧ i = .int .i64 m ∧ Hid (Below w7.heap.size w7 wr)) (fun i _ => ks.length - (intOf i).toNat)
    case atStart => exact ⟨0, Nat.zero_le _, rfl, Below.refl _ _⟩
    case round =>
      obtain ⟨m, hm9, rfl, hbr⟩ := hrel
      obtain ⟨p0, p1, p2, p3, p4, p5⟩ := Row6.of (heap_kept hbr.out (heap_lt R3.out) R3.out)
      by_cases hlt : m < ks.length
      · have hr0 : m < ks.length ∧ m < kids.length := by have := Hln.out; omega
        obtain ⟨g1, o1, rfl, hg1, hcell⟩ := RD.out.2 (by omega)
        obtain ⟨g2, o2, rfl, hg2, hkc⟩ := KD.out (by omega)
        obtain ⟨kk, hkk⟩ : ∃ kk, ks[m]? = some kk := ⟨_, List.getElem?_eq_getElem hr0.1⟩
        obtain ⟨kx, hkx⟩ : ∃ kx, kids[m]? = some kx := ⟨_, List.getElem?_eq_getElem hr0.2⟩
        obtain ⟨yy, hyy1, hyy2⟩ := Hg.out.rest m kk kx hkk hkx
        obtain ⟨u0, u1, u2, u3, u4, u5, hsix, hlk⟩ := hkc m kx hkx
        have hcl : w7.cell? ⟨g1, o1 + m, none⟩ = some (.string kk) := hcell m (by omega) _ (by rw [scells_get ks m hr0.1]; rw [List.getElem?_eq_getElem hr0.1] at hkk; injection hkk with hkk; rw [hkk])
        have HS : Hid (∀ w', Below w7.heap.size w7 w' → Below w7.heap.size w7 w' ∧ w'.cell? ⟨g6, 0, none⟩ = some (.int .i64 ko) ∧ w'.cell? ⟨g6, 1, none⟩ = some (.bool fo) ∧ w'.cell? ⟨g6, 2, none⟩ = some (.int .i64 no) ∧ w'.cell? ⟨g6, 3, none⟩ = some (.string so) ∧ w'.cell? ⟨g6, 4, none⟩ = some (.slice A3 kso.length c3) ∧ w'.cell? ⟨g6, 5, none⟩ = some (.slice A4 kidso.length c4) ∧
            w'.cell? ⟨g3, 4, none⟩ = some (.slice (some ⟨g1, o1, none⟩) ks.length c1) ∧ w'.cell? ⟨g1, o1 + m, none⟩ = some (.string kk)) := fun w' hb => by
          obtain ⟨a0, a1, a2, a3, a4, a5⟩ := Row6.of (heap_kept hb (heap_lt R6.out) R6.out)
          obtain ⟨_, _, _, _, b4, _⟩ := Row6.of (heap_kept hb (heap_lt R3.out) R3.out)
          exact ⟨hb, a0, a1, a2, a3, a4, a5, b4, (World.cell?_of_block (hb.block _ hg1)).trans hcl⟩
        have HKo := Lib.hid (fun w' (hb : Below w7.heap.size w7 w') => impl_kid (T.mk ko fo no so kso kidso) kk _ w' (LX.out.below hb) hwo2)
        rw [hyy1] at HKo
        have Hsix := Lib.hid hsix
        have Hlk := Lib.hid hlk
        have Hg2 := Lib.hid hg2
        have Hyy := Lib.hid hyy2
        obtain ⟨wd, hwd⟩ : ∃ wd, wd = wr.drew := ⟨_, rfl⟩
        have Hbd := Lib.hid (show Below w7.heap.size w7 wd by rw [hwd]; exact hbr.out.trans ((Below.refl _ _).drew))
        have hmlt : (m : Int) < ks.length := by omega
        have hmk : (m : Int) < kids.length := by omega
        clear hr0 hg1 hcell hkc hsix hlk hcl hyy1 hyy2 hg2 hkk hkx hbr
        go_upto_region 12 with fail
        refine wp_region_held_drew (S := (fun w' => Below w7.heap.size w7 w' ∧ w'.cell? ⟨g6, 0, none⟩ = some (.int .i64 ko) ∧ w'.cell? ⟨g6, 1, none⟩ = some (.bool fo) ∧ w'.cell? ⟨g6, 2, none⟩ = some (.int .i64 no) ∧ w'.cell? ⟨g6, 3, none⟩ = some (.string so) ∧ w'.cell? ⟨g6, 4, none⟩ = some (.slice A3 kso.length c3) ∧ w'.cell? ⟨g6, 5, none⟩ = some (.slice A4 kidso.length c4) ∧ w'.cell? ⟨g3, 4, none⟩ = some (.slice (some ⟨g1, o1, none⟩) ks.length c1) ∧ w'.cell? ⟨g1, o1 + m, none⟩ = some (.string kk))) (by kernel_rfl) ?_ (fun hHeld => ?_)
        · rw [← hwd]; exact HS.out _ Hbd.out
        rw [← hwd] at hHeld ⊢
        clear hwd
        refine wpAnyH_take (i := 0) (v := ?_) rfl (by kernel_rfl) (by kernel_rfl) (by kernel_rfl) (fun _ _ _ h => h) (Or.inl ⟨by rfl, ?_⟩) (by assumption) ?_
        rotate_left
        · intro w' hSw
          try dsimp only at hSw
          go_simp
          try with_reducible rfl
        try simp only [Act.put, List.setIfInBounds_toArray, List.set_cons_zero, List.set_cons_succ, List.getElem_toArray, List.getElem_cons_zero, List.getElem_cons_succ]
        refine wpAnyH_take (i := 1) (v := ?_) rfl (by kernel_rfl) (by kernel_rfl) (by kernel_rfl) (fun _ _ _ h => h) (Or.inl ⟨by rfl, ?_⟩) (by assumption) ?_
        rotate_left
        · intro w' hSw
          try dsimp only at hSw
          go_simp
          try with_reducible rfl
        try simp only [Act.put, List.setIfInBounds_toArray, List.set_cons_zero, List.set_cons_succ, List.getElem_toArray, List.getElem_cons_zero, List.getElem_cons_succ]
        refine wpAnyH_take (i := 2) (v := ?_) rfl (by kernel_rfl) (by kernel_rfl) (by kernel_rfl) (fun _ _ _ h => h) (Or.inl ⟨by rfl, ?_⟩) (by assumption) ?_
        rotate_left
        · intro w' hSw
          try dsimp only at hSw
          go_simp
          try with_reducible rfl
        try simp only [Act.put, List.setIfInBounds_toArray, List.set_cons_zero, List.set_cons_succ, List.getElem_toArray, List.getElem_cons_zero, List.getElem_cons_succ]
        refine wpAnyH_take (i := 3) (v := ?_) rfl (by kernel_rfl) (by kernel_rfl) (by kernel_rfl) (fun _ _ _ h => h) (Or.inl ⟨by rfl, ?_⟩) (by assumption) ?_
        rotate_left
        · intro w' hSw
          try dsimp only at hSw
          go_simp
          try with_reducible rfl
        try simp only [Act.put, List.setIfInBounds_toArray, List.set_cons_zero, List.set_cons_succ, List.getElem_toArray, List.getElem_cons_zero, List.getElem_cons_succ]
        refine wpAnyH_take (i := 4) (v := ?_) rfl (by kernel_rfl) (by kernel_rfl) (by kernel_rfl) (fun _ _ _ h => h) (Or.inl ⟨by rfl, ?_⟩) (by assumption) ?_
        rotate_left
        · intro w' hSw
          try dsimp only at hSw
          go_simp
          try with_reducible rfl
        try simp only [Act.put, List.setIfInBounds_toArray, List.set_cons_zero, List.set_cons_succ, List.getElem_toArray, List.getElem_cons_zero, List.getElem_cons_succ]
        refine wpAnyH_take (i := 5) (v := ?_) rfl (by kernel_rfl) (by kernel_rfl) (by kernel_rfl) (fun _ _ _ h => h) (Or.inl ⟨by rfl, ?_⟩) (by assumption) ?_
        rotate_left
        · intro w' hSw
          try dsimp only at hSw
          go_simp
          try with_reducible rfl
        try simp only [Act.put, List.setIfInBounds_toArray, List.set_cons_zero, List.set_cons_succ, List.getElem_toArray, List.getElem_cons_zero, List.getElem_cons_succ]
        refine wpAnyH_ready (rs := [6, 10]) (by kernel_rfl) (by simp) ?_
        refine AllReadyH.cons rfl (fun K hK => ?_) ?_
        · go_simp
          go_at_call 8
          refine (HKo.out _ (Hbd.out)).mono ?_
          rintro e w8 ⟨⟨us9, F9, rfl, ho9, _⟩, hb8⟩
          obtain ⟨q0, q1, q2, q3, q4, q5, rfl⟩ := six_of (ho9.1.trans (row_length _))
          have Hb8 := Lib.hid (below_link (Hbd.out) hb8 (Hbd.out).size)
          have Ho9 := Lib.hid ho9
          have hone9 := ho9.one
          clear ho9 hb8
          refine hK.out _ _ ?_ (fun hHeld => ?_)
          · (first | exact HS.out _ Hbd.out | exact HS.out _ (Hbd.out.alloc Hbd.out.size _) | exact HS.out _ Hb8.out | exact HS.out _ (Hb8.out.alloc Hb8.out.size _) | exact HS.out _ (setRow_below (Hb8.out.alloc Hb8.out.size _) Hb8.out.size _) | exact HS.out _ (setRow_below Hb8.out Hbd.out.size _))
          clear hK K
          try simp only [Act.put, List.setIfInBounds_toArray, List.set_cons_zero, List.set_cons_succ, List.getElem_toArray, List.getElem_cons_zero, List.getElem_cons_succ]
          refine wpAnyH_take (i := 7) (v := ?_) rfl (by kernel_rfl) (by kernel_rfl) (by kernel_rfl) (fun _ _ _ h => h) (Or.inl ⟨by rfl, ?_⟩) (by assumption) ?_
          rotate_left
          · intro w' hSw
            try dsimp only at hSw
            go_simp
            try with_reducible rfl
          try simp only [Act.put, List.setIfInBounds_toArray, List.set_cons_zero, List.set_cons_succ, List.getElem_toArray, List.getElem_cons_zero, List.getElem_cons_succ]
          refine wpAnyH_take (i := 8) (v := ?_) rfl (by kernel_rfl) (by kernel_rfl) (by kernel_rfl) (fun _ _ _ h => h) (Or.inl ⟨by rfl, ?_⟩) (by assumption) ?_
          rotate_left
          · intro w' hSw
            try dsimp only at hSw
            go_simp
            try with_reducible rfl
          try simp only [Act.put, List.setIfInBounds_toArray, List.set_cons_zero, List.set_cons_succ, List.getElem_toArray, List.getElem_cons_zero, List.getElem_cons_succ]
          refine wpAnyH_take (i := 9) (v := ?_) rfl (by kernel_rfl) (by kernel_rfl) (by kernel_rfl) (fun _ _ _ h => h) (Or.inl ⟨by rfl, ?_⟩) (by assumption) ?_
          rotate_left
          · intro w' hSw
            try dsimp only at hSw
            go_simp
            try with_reducible rfl
          try simp only [Act.put, List.setIfInBounds_toArray, List.set_cons_zero, List.set_cons_succ, List.getElem_toArray, List.getElem_cons_zero, List.getElem_cons_succ]
          refine wpAnyH_ready (rs := [10]) (by kernel_rfl) (by simp) ?_
          refine AllReadyH.cons rfl (fun K hK => ?_) ?_
          · go_simp
            refine hK.out _ _ ?_ (fun hHeld => ?_)
            · (first | exact HS.out _ Hbd.out | exact HS.out _ (Hbd.out.alloc Hbd.out.size _) | exact HS.out _ Hb8.out | exact HS.out _ (Hb8.out.alloc Hb8.out.size _) | exact HS.out _ (setRow_below (Hb8.out.alloc Hb8.out.size _) Hb8.out.size _) | exact HS.out _ (setRow_below Hb8.out Hbd.out.size _))
            clear hK K
            try simp only [Act.put, List.setIfInBounds_toArray, List.set_cons_zero, List.set_cons_succ, List.getElem_toArray, List.getElem_cons_zero, List.getElem_cons_succ]
            refine wpAnyH_ready (rs := [11]) (by kernel_rfl) (by simp) ?_
            refine AllReadyH.cons rfl (fun K hK => ?_) ?_
            · refine step_store_row rfl 27 _ _ rfl w8.heap.size #[q0, q1, q2, q3, q4, q5] rfl rfl 27 _ (heap_alloc_new w8 _) tree_size' rfl hone9 ?_
              refine hK.out _ _ ?_ (fun hHeld => ?_)
              · (first | exact HS.out _ Hbd.out | exact HS.out _ (Hbd.out.alloc Hbd.out.size _) | exact HS.out _ Hb8.out | exact HS.out _ (Hb8.out.alloc Hb8.out.size _) | exact HS.out _ (setRow_below (Hb8.out.alloc Hb8.out.size _) Hb8.out.size _) | exact HS.out _ (setRow_below Hb8.out Hbd.out.size _))
              clear hK K
              try simp only [Act.put, List.getElem_toArray, List.getElem_cons_zero, List.getElem_cons_succ]
              refine wpAnyH_take (i := 12) (v := ?_) rfl (by kernel_rfl) (by kernel_rfl) (by kernel_rfl) (fun _ _ _ h => h) (Or.inl ⟨by rfl, ?_⟩) (by assumption) ?_
              rotate_left
              · intro w' hSw
                try dsimp only at hSw
                go_simp
                try with_reducible rfl
              try simp only [Act.put, List.setIfInBounds_toArray, List.set_cons_zero, List.set_cons_succ, List.getElem_toArray, List.getElem_cons_zero, List.getElem_cons_succ]
              obtain ⟨wq, hwq⟩ : ∃ wq, wq = (w8.alloc (.cells zeroRow 27)).setRow w8.heap.size #[q0, q1, q2, q3, q4, q5] := ⟨_, rfl⟩
              have Hbq := Lib.hid (show Below w7.heap.size w7 wq by rw [hwq]; exact setRow_below (Hb8.out.alloc Hb8.out.size _) Hb8.out.size _)
              have Hq := Lib.hid (show wq.heap[w8.heap.size]? = some (.cells #[q0, q1, q2, q3, q4, q5] 27 (0, 0)) by rw [hwq]; exact setRow_at (heap_alloc_new w8 _))
              have Hwq := Lib.hid hwq
              have Hlq := Lib.hid (show LiesS wq (f6 + 1 + 3) [q0, q1, q2, q3, q4, q5] (row yy) from by
                refine (OwnS.kept (fun x hx => ?_) Ho9.out).lies
                have hx1 := (Ho9.out.range x hx).1
                have hx2 := (Ho9.out.range x hx).2
                rw [hwq]; exact (row_other (by omega)).trans (Below.heap_alloc _ _ _ hx2))
              clear hwq
              refine wpAnyH_done (by kernel_rfl) ?_ _
              rw [← Hwq.out]
              generalize w8.heap.size = gb at Hq
              clear Hwq
              have HSm := Lib.hid (fun w' (hb : Below wq.heap.size wq w') => spec_same (max (f6 + 1 + 3) f') yy kx [q0, q1, q2, q3, q4, q5] [u0, u1, u2, u3, u4, u5] w' ((Hlq.out.below hb).deeper (Nat.le_max_left _ _)) ((Hlk.out.below (below_link Hbq.out hb Hbq.out.size)).deeper (Nat.le_max_right _ _)))
              have HK2 : Hid (∀ w', Below wq.heap.size wq w' → (fun w' => Below wq.heap.size wq w' ∧ w'.cell? ⟨gb, 0, none⟩ = some q0 ∧ w'.cell? ⟨gb, 1, none⟩ = some q1 ∧ w'.cell? ⟨gb, 2, none⟩ = some q2 ∧ w'.cell? ⟨gb, 3, none⟩ = some q3 ∧ w'.cell? ⟨gb, 4, none⟩ = some q4 ∧ w'.cell? ⟨gb, 5, none⟩ = some q5 ∧ w'.cell? ⟨g3, 4, none⟩ = some (.slice (some ⟨g1, o1, none⟩) ks.length c1) ∧ w'.cell? ⟨g3, 5, none⟩ = some (.slice (some ⟨g2, o2, none⟩) kids.length c2) ∧ w'.cell? ⟨g1, o1 + m, none⟩ = some (.string kk) ∧ w'.cell? ⟨g2, o2 + m * 6, none⟩ = some u0 ∧ w'.cell? ⟨g2, o2 + m * 6 + 1, none⟩ = some u1 ∧ w'.cell? ⟨g2, o2 + m * 6 + 2, none⟩ = some u2 ∧ w'.cell? ⟨g2, o2 + m * 6 + 3, none⟩ = some u3 ∧ w'.cell? ⟨g2, o2 + m * 6 + 4, none⟩ = some u4 ∧ w'.cell? ⟨g2, o2 + m * 6 + 5, none⟩ = some u5) w') := fun w' hb => by
                have hb7 := below_link Hbq.out hb Hbq.out.size
                obtain ⟨r0, r1, r2, r3, r4, r5⟩ := Row6.of (heap_kept hb (heap_lt Hq.out) Hq.out)
                obtain ⟨_, _, _, _, b4, b5⟩ := Row6.of (heap_kept hb7 (heap_lt R3.out) R3.out)
                obtain ⟨_, _, _, _, _, _, _, _, cq⟩ := HS.out w' hb7
                obtain ⟨d0, d1, d2, d3, d4, d5⟩ := Hsix.out.block (hb7.block _ Hg2.out)
                exact ⟨hb, r0, r1, r2, r3, r4, r5, b4, b5, cq, d0, d1, d2, d3, d4, d5⟩
              clear HKo HS Hsix Hg2 R5 R6 R8 LU LY LX LV RD KD RX Hb7 HT Hg Ho9 hone9 hwt hwk hkz hwo2 Hlk Hlq Hq hHeld
              by_cases hc : kk = key
              · have hne2 : (kk.toList == key.toList) = true := by rw [hc]; simp
                clear hc
                go_upto_region 13 with fail
                refine wp_region_held_drew (S := (fun w' => Below wq.heap.size wq w' ∧ w'.cell? ⟨gb, 0, none⟩ = some q0 ∧ w'.cell? ⟨gb, 1, none⟩ = some q1 ∧ w'.cell? ⟨gb, 2, none⟩ = some q2 ∧ w'.cell? ⟨gb, 3, none⟩ = some q3 ∧ w'.cell? ⟨gb, 4, none⟩ = some q4 ∧ w'.cell? ⟨gb, 5, none⟩ = some q5 ∧ w'.cell? ⟨g3, 4, none⟩ = some (.slice (some ⟨g1, o1, none⟩) ks.length c1) ∧ w'.cell? ⟨g3, 5, none⟩ = some (.slice (some ⟨g2, o2, none⟩) kids.length c2) ∧ w'.cell? ⟨g1, o1 + m, none⟩ = some (.string kk) ∧ w'.cell? ⟨g2, o2 + m * 6, none⟩ = some u0 ∧ w'.cell? ⟨g2, o2 + m * 6 + 1, none⟩ = some u1 ∧ w'.cell? ⟨g2, o2 + m * 6 + 2, none⟩ = some u2 ∧ w'.cell? ⟨g2, o2 + m * 6 + 3, none⟩ = some u3 ∧ w'.cell? ⟨g2, o2 + m * 6 + 4, none⟩ = some u4 ∧ w'.cell? ⟨g2, o2 + m * 6 + 5, none⟩ = some u5)) (by kernel_rfl) ?_ (fun hHeld => ?_)
                · exact HK2.out _ (Below.refl _ _).drew
                have Hbz := Lib.hid (show Below wq.heap.size wq wq.drew from (Below.refl _ _).drew)
                generalize wq.drew = wz at hHeld Hbz ⊢
                refine wpAnyH_take (i := 0) (v := ?_) rfl (by kernel_rfl) (by kernel_rfl) (by kernel_rfl) (fun _ _ _ h => h) (Or.inl ⟨by rfl, ?_⟩) (by assumption) ?_
                rotate_left
                · intro w' hSw
                  try dsimp only at hSw
                  go_simp
                  try with_reducible rfl
                try simp only [Act.put, List.setIfInBounds_toArray, List.set_cons_zero, List.set_cons_succ, List.getElem_toArray, List.getElem_cons_zero, List.getElem_cons_succ]
                refine wpAnyH_take (i := 1) (v := ?_) rfl (by kernel_rfl) (by kernel_rfl) (by kernel_rfl) (fun _ _ _ h => h) (Or.inl ⟨by rfl, ?_⟩) (by assumption) ?_
                rotate_left
                · intro w' hSw
                  try dsimp only at hSw
                  go_simp
                  try with_reducible rfl
                try simp only [Act.put, List.setIfInBounds_toArray, List.set_cons_zero, List.set_cons_succ, List.getElem_toArray, List.getElem_cons_zero, List.getElem_cons_succ]
                refine wpAnyH_take (i := 2) (v := ?_) rfl (by kernel_rfl) (by kernel_rfl) (by kernel_rfl) (fun _ _ _ h => h) (Or.inl ⟨by rfl, ?_⟩) (by assumption) ?_
                rotate_left
                · intro w' hSw
                  try dsimp only at hSw
                  go_simp
                  try with_reducible rfl
                try simp only [Act.put, List.setIfInBounds_toArray, List.set_cons_zero, List.set_cons_succ, List.getElem_toArray, List.getElem_cons_zero, List.getElem_cons_succ]
                refine wpAnyH_take (i := 3) (v := ?_) rfl (by kernel_rfl) (by kernel_rfl) (by kernel_rfl) (fun _ _ _ h => h) (Or.inl ⟨by rfl, ?_⟩) (by assumption) ?_
                rotate_left
                · intro w' hSw
                  try dsimp only at hSw
                  go_simp
                  try with_reducible rfl
                try simp only [Act.put, List.setIfInBounds_toArray, List.set_cons_zero, List.set_cons_succ, List.getElem_toArray, List.getElem_cons_zero, List.getElem_cons_succ]
                refine wpAnyH_take (i := 4) (v := ?_) rfl (by kernel_rfl) (by kernel_rfl) (by kernel_rfl) (fun _ _ _ h => h) (Or.inl ⟨by rfl, ?_⟩) (by assumption) ?_
                rotate_left
                · intro w' hSw
                  try dsimp only at hSw
                  go_simp
                  try with_reducible rfl
                try simp only [Act.put, List.setIfInBounds_toArray, List.set_cons_zero, List.set_cons_succ, List.getElem_toArray, List.getElem_cons_zero, List.getElem_cons_succ]
                refine wpAnyH_take (i := 5) (v := ?_) rfl (by kernel_rfl) (by kernel_rfl) (by kernel_rfl) (fun _ _ _ h => h) (Or.inl ⟨by rfl, ?_⟩) (by assumption) ?_
                rotate_left
                · intro w' hSw
                  try dsimp only at hSw
                  go_simp
                  try with_reducible rfl
                try simp only [Act.put, List.setIfInBounds_toArray, List.set_cons_zero, List.set_cons_succ, List.getElem_toArray, List.getElem_cons_zero, List.getElem_cons_succ]
                refine wpAnyH_take (i := 6) (v := ?_) rfl (by kernel_rfl) (by kernel_rfl) (by kernel_rfl) (fun _ _ _ h => h) (Or.inl ⟨by rfl, ?_⟩) (by assumption) ?_
                rotate_left
                · intro w' hSw
                  try dsimp only at hSw
                  go_simp
                  try with_reducible rfl
                try simp only [Act.put, List.setIfInBounds_toArray, List.set_cons_zero, List.set_cons_succ, List.getElem_toArray, List.getElem_cons_zero, List.getElem_cons_succ]
                refine wpAnyH_take (i := 7) (v := ?_) rfl (by kernel_rfl) (by kernel_rfl) (by kernel_rfl) (fun _ _ _ h => h) (Or.inl ⟨by rfl, ?_⟩) (by assumption) ?_
                rotate_left
                · intro w' hSw
                  try dsimp only at hSw
                  go_simp
                  try with_reducible rfl
                try simp only [Act.put, List.setIfInBounds_toArray, List.set_cons_zero, List.set_cons_succ, List.getElem_toArray, List.getElem_cons_zero, List.getElem_cons_succ]
                refine wpAnyH_take (i := 8) (v := ?_) rfl (by kernel_rfl) (by kernel_rfl) (by kernel_rfl) (fun _ _ _ h => h) (Or.inl ⟨by rfl, ?_⟩) (by assumption) ?_
                rotate_left
                · intro w' hSw
                  try dsimp only at hSw
                  go_simp
                  try with_reducible rfl
                try simp only [Act.put, List.setIfInBounds_toArray, List.set_cons_zero, List.set_cons_succ, List.getElem_toArray, List.getElem_cons_zero, List.getElem_cons_succ]
                refine wpAnyH_take (i := 9) (v := .bool false) rfl (by kernel_rfl) (by kernel_rfl) (by kernel_rfl) (fun _ _ _ h => h) (Or.inl ⟨by rfl, ?_⟩) (by assumption) ?_
                · intro w' hSw
                  clear hSw
                  go_simp
                  try (first | rfl | simp [hne2])
                try simp only [Act.put, List.setIfInBounds_toArray, List.set_cons_zero, List.set_cons_succ, List.getElem_toArray, List.getElem_cons_zero, List.getElem_cons_succ]
                refine wpAnyH_take (i := 10) (v := ?_) rfl (by kernel_rfl) (by kernel_rfl) (by kernel_rfl) (fun _ _ _ h => h) (Or.inl ⟨by rfl, ?_⟩) (by assumption) ?_
                rotate_left
                · intro w' hSw
                  try dsimp only at hSw
                  go_simp
                  try with_reducible rfl
                try simp only [Act.put, List.setIfInBounds_toArray, List.set_cons_zero, List.set_cons_succ, List.getElem_toArray, List.getElem_cons_zero, List.getElem_cons_succ]
                refine wpAnyH_take (i := 11) (v := undef) rfl (by kernel_rfl) (by kernel_rfl) (by kernel_rfl) (fun _ _ _ h => h) (Or.inr ⟨by rfl, rfl⟩) (by assumption) ?_
                try simp only [Act.put, List.setIfInBounds_toArray, List.set_cons_zero, List.set_cons_succ, List.getElem_toArray, List.getElem_cons_zero, List.getElem_cons_succ]
                refine wpAnyH_take (i := 12) (v := undef) rfl (by kernel_rfl) (by kernel_rfl) (by kernel_rfl) (fun _ _ _ h => h) (Or.inr ⟨by rfl, rfl⟩) (by assumption) ?_
                try simp only [Act.put, List.setIfInBounds_toArray, List.set_cons_zero, List.set_cons_succ, List.getElem_toArray, List.getElem_cons_zero, List.getElem_cons_succ]
                refine wpAnyH_take (i := 13) (v := undef) rfl (by kernel_rfl) (by kernel_rfl) (by kernel_rfl) (fun _ _ _ h => h) (Or.inr ⟨by rfl, rfl⟩) (by assumption) ?_
                try simp only [Act.put, List.setIfInBounds_toArray, List.set_cons_zero, List.set_cons_succ, List.getElem_toArray, List.getElem_cons_zero, List.getElem_cons_succ]
                refine wpAnyH_take (i := 14) (v := undef) rfl (by kernel_rfl) (by kernel_rfl) (by kernel_rfl) (fun _ _ _ h => h) (Or.inr ⟨by rfl, rfl⟩) (by assumption) ?_
                try simp only [Act.put, List.setIfInBounds_toArray, List.set_cons_zero, List.set_cons_succ, List.getElem_toArray, List.getElem_cons_zero, List.getElem_cons_succ]
                refine wpAnyH_take (i := 15) (v := undef) rfl (by kernel_rfl) (by kernel_rfl) (by kernel_rfl) (fun _ _ _ h => h) (Or.inr ⟨by rfl, rfl⟩) (by assumption) ?_
                try simp only [Act.put, List.setIfInBounds_toArray, List.set_cons_zero, List.set_cons_succ, List.getElem_toArray, List.getElem_cons_zero, List.getElem_cons_succ]
                refine wpAnyH_take (i := 16) (v := undef) rfl (by kernel_rfl) (by kernel_rfl) (by kernel_rfl) (fun _ _ _ h => h) (Or.inr ⟨by rfl, rfl⟩) (by assumption) ?_
                try simp only [Act.put, List.setIfInBounds_toArray, List.set_cons_zero, List.set_cons_succ, List.getElem_toArray, List.getElem_cons_zero, List.getElem_cons_succ]
                refine wpAnyH_take (i := 17) (v := undef) rfl (by kernel_rfl) (by kernel_rfl) (by kernel_rfl) (fun _ _ _ h => h) (Or.inr ⟨by rfl, rfl⟩) (by assumption) ?_
                try simp only [Act.put, List.setIfInBounds_toArray, List.set_cons_zero, List.set_cons_succ, List.getElem_toArray, List.getElem_cons_zero, List.getElem_cons_succ]
                refine wpAnyH_take (i := 18) (v := undef) rfl (by kernel_rfl) (by kernel_rfl) (by kernel_rfl) (fun _ _ _ h => h) (Or.inr ⟨by rfl, rfl⟩) (by assumption) ?_
                try simp only [Act.put, List.setIfInBounds_toArray, List.set_cons_zero, List.set_cons_succ, List.getElem_toArray, List.getElem_cons_zero, List.getElem_cons_succ]
                refine wpAnyH_take (i := 19) (v := ?_) rfl (by kernel_rfl) (by kernel_rfl) (by kernel_rfl) (fun _ _ _ h => h) (Or.inl ⟨by rfl, ?_⟩) (by assumption) ?_
                rotate_left
                · intro w' hSw
                  try dsimp only at hSw
                  go_simp
                  try with_reducible rfl
                try simp only [Act.put, List.setIfInBounds_toArray, List.set_cons_zero, List.set_cons_succ, List.getElem_toArray, List.getElem_cons_zero, List.getElem_cons_succ]
                refine wpAnyH_take (i := 20) (v := ?_) rfl (by kernel_rfl) (by kernel_rfl) (by kernel_rfl) (fun _ _ _ h => h) (Or.inl ⟨by rfl, ?_⟩) (by assumption) ?_
                rotate_left
                · intro w' hSw
                  try dsimp only at hSw
                  go_simp
                  try with_reducible rfl
                try simp only [Act.put, List.setIfInBounds_toArray, List.set_cons_zero, List.set_cons_succ, List.getElem_toArray, List.getElem_cons_zero, List.getElem_cons_succ]
                refine wpAnyH_done (by kernel_rfl) ?_ _
                have Hend := Lib.hid (below_link Hbq.out Hbz.out Hbq.out.size)
                clear hHeld HK2 HSm
                go_wp2_with fail
                go_roundw
                case rel => exact ⟨m + 1, by omega, by go_num, Hend.out⟩
                case measure => simp [intOf]; omega
              · have hne2 : (kk.toList == key.toList) = false := by
                  rw [beq_eq_false_iff_ne]
                  intro e
                  apply hc
                  rw [ByteArray.toList_eq, ByteArray.toList_eq] at e
                  exact ByteArray.ext (Array.ext' e)
                rw [show same yy kx = true by rw [Hyy.out hc]; exact same_refl _] at HSm
                clear hc
                go_upto_region 13 with fail
                refine wp_region_held_drew (S := (fun w' => Below wq.heap.size wq w' ∧ w'.cell? ⟨gb, 0, none⟩ = some q0 ∧ w'.cell? ⟨gb, 1, none⟩ = some q1 ∧ w'.cell? ⟨gb, 2, none⟩ = some q2 ∧ w'.cell? ⟨gb, 3, none⟩ = some q3 ∧ w'.cell? ⟨gb, 4, none⟩ = some q4 ∧ w'.cell? ⟨gb, 5, none⟩ = some q5 ∧ w'.cell? ⟨g3, 4, none⟩ = some (.slice (some ⟨g1, o1, none⟩) ks.length c1) ∧ w'.cell? ⟨g3, 5, none⟩ = some (.slice (some ⟨g2, o2, none⟩) kids.length c2) ∧ w'.cell? ⟨g1, o1 + m, none⟩ = some (.string kk) ∧ w'.cell? ⟨g2, o2 + m * 6, none⟩ = some u0 ∧ w'.cell? ⟨g2, o2 + m * 6 + 1, none⟩ = some u1 ∧ w'.cell? ⟨g2, o2 + m * 6 + 2, none⟩ = some u2 ∧ w'.cell? ⟨g2, o2 + m * 6 + 3, none⟩ = some u3 ∧ w'.cell? ⟨g2, o2 + m * 6 + 4, none⟩ = some u4 ∧ w'.cell? ⟨g2, o2 + m * 6 + 5, none⟩ = some u5)) (by kernel_rfl) ?_ (fun hHeld => ?_)
                · exact HK2.out _ (Below.refl _ _).drew
                have Hbz := Lib.hid (show Below wq.heap.size wq wq.drew from (Below.refl _ _).drew)
                generalize wq.drew = wz at hHeld Hbz ⊢
                refine wpAnyH_take (i := 0) (v := ?_) rfl (by kernel_rfl) (by kernel_rfl) (by kernel_rfl) (fun _ _ _ h => h) (Or.inl ⟨by rfl, ?_⟩) (by assumption) ?_
                rotate_left
                · intro w' hSw
                  try dsimp only at hSw
                  go_simp
                  try with_reducible rfl
                try simp only [Act.put, List.setIfInBounds_toArray, List.set_cons_zero, List.set_cons_succ, List.getElem_toArray, List.getElem_cons_zero, List.getElem_cons_succ]
                refine wpAnyH_take (i := 1) (v := ?_) rfl (by kernel_rfl) (by kernel_rfl) (by kernel_rfl) (fun _ _ _ h => h) (Or.inl ⟨by rfl, ?_⟩) (by assumption) ?_
                rotate_left
                · intro w' hSw
                  try dsimp only at hSw
                  go_simp
                  try with_reducible rfl
                try simp only [Act.put, List.setIfInBounds_toArray, List.set_cons_zero, List.set_cons_succ, List.getElem_toArray, List.getElem_cons_zero, List.getElem_cons_succ]
                refine wpAnyH_take (i := 2) (v := ?_) rfl (by kernel_rfl) (by kernel_rfl) (by kernel_rfl) (fun _ _ _ h => h) (Or.inl ⟨by rfl, ?_⟩) (by assumption) ?_
                rotate_left
                · intro w' hSw
                  try dsimp only at hSw
                  go_simp
                  try with_reducible rfl
                try simp only [Act.put, List.setIfInBounds_toArray, List.set_cons_zero, List.set_cons_succ, List.getElem_toArray, List.getElem_cons_zero, List.getElem_cons_succ]
                refine wpAnyH_take (i := 3) (v := ?_) rfl (by kernel_rfl) (by kernel_rfl) (by kernel_rfl) (fun _ _ _ h => h) (Or.inl ⟨by rfl, ?_⟩) (by assumption) ?_
                rotate_left
                · intro w' hSw
                  try dsimp only at hSw
                  go_simp
                  try with_reducible rfl
                try simp only [Act.put, List.setIfInBounds_toArray, List.set_cons_zero, List.set_cons_succ, List.getElem_toArray, List.getElem_cons_zero, List.getElem_cons_succ]
                refine wpAnyH_take (i := 4) (v := ?_) rfl (by kernel_rfl) (by kernel_rfl) (by kernel_rfl) (fun _ _ _ h => h) (Or.inl ⟨by rfl, ?_⟩) (by assumption) ?_
                rotate_left
                · intro w' hSw
                  try dsimp only at hSw
                  go_simp
                  try with_reducible rfl
                try simp only [Act.put, List.setIfInBounds_toArray, List.set_cons_zero, List.set_cons_succ, List.getElem_toArray, List.getElem_cons_zero, List.getElem_cons_succ]
                refine wpAnyH_take (i := 5) (v := ?_) rfl (by kernel_rfl) (by kernel_rfl) (by kernel_rfl) (fun _ _ _ h => h) (Or.inl ⟨by rfl, ?_⟩) (by assumption) ?_
                rotate_left
                · intro w' hSw
                  try dsimp only at hSw
                  go_simp
                  try with_reducible rfl
                try simp only [Act.put, List.setIfInBounds_toArray, List.set_cons_zero, List.set_cons_succ, List.getElem_toArray, List.getElem_cons_zero, List.getElem_cons_succ]
                refine wpAnyH_take (i := 6) (v := ?_) rfl (by kernel_rfl) (by kernel_rfl) (by kernel_rfl) (fun _ _ _ h => h) (Or.inl ⟨by rfl, ?_⟩) (by assumption) ?_
                rotate_left
                · intro w' hSw
                  try dsimp only at hSw
                  go_simp
                  try with_reducible rfl
                try simp only [Act.put, List.setIfInBounds_toArray, List.set_cons_zero, List.set_cons_succ, List.getElem_toArray, List.getElem_cons_zero, List.getElem_cons_succ]
                refine wpAnyH_take (i := 7) (v := ?_) rfl (by kernel_rfl) (by kernel_rfl) (by kernel_rfl) (fun _ _ _ h => h) (Or.inl ⟨by rfl, ?_⟩) (by assumption) ?_
                rotate_left
                · intro w' hSw
                  try dsimp only at hSw
                  go_simp
                  try with_reducible rfl
                try simp only [Act.put, List.setIfInBounds_toArray, List.set_cons_zero, List.set_cons_succ, List.getElem_toArray, List.getElem_cons_zero, List.getElem_cons_succ]
                refine wpAnyH_take (i := 8) (v := ?_) rfl (by kernel_rfl) (by kernel_rfl) (by kernel_rfl) (fun _ _ _ h => h) (Or.inl ⟨by rfl, ?_⟩) (by assumption) ?_
                rotate_left
                · intro w' hSw
                  try dsimp only at hSw
                  go_simp
                  try with_reducible rfl
                try simp only [Act.put, List.setIfInBounds_toArray, List.set_cons_zero, List.set_cons_succ, List.getElem_toArray, List.getElem_cons_zero, List.getElem_cons_succ]
                refine wpAnyH_take (i := 9) (v := .bool true) rfl (by kernel_rfl) (by kernel_rfl) (by kernel_rfl) (fun _ _ _ h => h) (Or.inl ⟨by rfl, ?_⟩) (by assumption) ?_
                · intro w' hSw
                  clear hSw
                  go_simp
                  try (first | rfl | simp [hne2])
                try simp only [Act.put, List.setIfInBounds_toArray, List.set_cons_zero, List.set_cons_succ, List.getElem_toArray, List.getElem_cons_zero, List.getElem_cons_succ]
                refine wpAnyH_take (i := 10) (v := ?_) rfl (by kernel_rfl) (by kernel_rfl) (by kernel_rfl) (fun _ _ _ h => h) (Or.inl ⟨by rfl, ?_⟩) (by assumption) ?_
                rotate_left
                · intro w' hSw
                  try dsimp only at hSw
                  go_simp
                  try with_reducible rfl
                try simp only [Act.put, List.setIfInBounds_toArray, List.set_cons_zero, List.set_cons_succ, List.getElem_toArray, List.getElem_cons_zero, List.getElem_cons_succ]
                refine wpAnyH_take (i := 11) (v := ?_) rfl (by kernel_rfl) (by kernel_rfl) (by kernel_rfl) (fun _ _ _ h => h) (Or.inl ⟨by rfl, ?_⟩) (by assumption) ?_
                rotate_left
                · intro w' hSw
                  try dsimp only at hSw
                  go_simp
                  try with_reducible rfl
                try simp only [Act.put, List.setIfInBounds_toArray, List.set_cons_zero, List.set_cons_succ, List.getElem_toArray, List.getElem_cons_zero, List.getElem_cons_succ]
                refine wpAnyH_take (i := 12) (v := ?_) rfl (by kernel_rfl) (by kernel_rfl) (by kernel_rfl) (fun _ _ _ h => h) (Or.inl ⟨by rfl, ?_⟩) (by assumption) ?_
                rotate_left
                · intro w' hSw
                  try dsimp only at hSw
                  go_simp
                  try with_reducible rfl
                try simp only [Act.put, List.setIfInBounds_toArray, List.set_cons_zero, List.set_cons_succ, List.getElem_toArray, List.getElem_cons_zero, List.getElem_cons_succ]
                refine wpAnyH_take (i := 13) (v := ?_) rfl (by kernel_rfl) (by kernel_rfl) (by kernel_rfl) (fun _ _ _ h => h) (Or.inl ⟨by rfl, ?_⟩) (by assumption) ?_
                rotate_left
                · intro w' hSw
                  try dsimp only at hSw
                  go_simp
                  try with_reducible rfl
                try simp only [Act.put, List.setIfInBounds_toArray, List.set_cons_zero, List.set_cons_succ, List.getElem_toArray, List.getElem_cons_zero, List.getElem_cons_succ]
                refine wpAnyH_take (i := 14) (v := ?_) rfl (by kernel_rfl) (by kernel_rfl) (by kernel_rfl) (fun _ _ _ h => h) (Or.inl ⟨by rfl, ?_⟩) (by assumption) ?_
                rotate_left
                · intro w' hSw
                  try dsimp only at hSw
                  go_simp
                  try with_reducible rfl
                try simp only [Act.put, List.setIfInBounds_toArray, List.set_cons_zero, List.set_cons_succ, List.getElem_toArray, List.getElem_cons_zero, List.getElem_cons_succ]
                refine wpAnyH_take (i := 15) (v := ?_) rfl (by kernel_rfl) (by kernel_rfl) (by kernel_rfl) (fun _ _ _ h => h) (Or.inl ⟨by rfl, ?_⟩) (by assumption) ?_
                rotate_left
                · intro w' hSw
                  try dsimp only at hSw
                  go_simp
                  try with_reducible rfl
                try simp only [Act.put, List.setIfInBounds_toArray, List.set_cons_zero, List.set_cons_succ, List.getElem_toArray, List.getElem_cons_zero, List.getElem_cons_succ]
                refine wpAnyH_take (i := 16) (v := ?_) rfl (by kernel_rfl) (by kernel_rfl) (by kernel_rfl) (fun _ _ _ h => h) (Or.inl ⟨by rfl, ?_⟩) (by assumption) ?_
                rotate_left
                · intro w' hSw
                  try dsimp only at hSw
                  go_simp
                  try with_reducible rfl
                try simp only [Act.put, List.setIfInBounds_toArray, List.set_cons_zero, List.set_cons_succ, List.getElem_toArray, List.getElem_cons_zero, List.getElem_cons_succ]
                refine wpAnyH_ready (rs := [17]) (by kernel_rfl) (by simp) ?_
                refine AllReadyH.cons rfl (fun K hK => ?_) ?_
                · go_simp
                  go_at_call 7
                  refine (HSm.out _ Hbz.out).mono ?_
                  rintro e w10 ⟨rfl, hb10⟩
                  have Hb10 := Lib.hid (below_link Hbz.out hb10 Hbz.out.size)
                  clear hb10
                  refine hK.out _ _ ?_ (fun hHeld => ?_)
                  · exact HK2.out _ Hb10.out
                  clear hK K
                  try simp only [Act.put, List.setIfInBounds_toArray, List.set_cons_zero, List.set_cons_succ, List.getElem_toArray, List.getElem_cons_zero, List.getElem_cons_succ]
                  refine wpAnyH_take (i := 18) (v := ?_) rfl (by kernel_rfl) (by kernel_rfl) (by kernel_rfl) (fun _ _ _ h => h) (Or.inl ⟨by rfl, ?_⟩) (by assumption) ?_
                  rotate_left
                  · intro w' hSw
                    try dsimp only at hSw
                    go_simp
                    try with_reducible rfl
                  try simp only [Act.put, List.setIfInBounds_toArray, List.set_cons_zero, List.set_cons_succ, List.getElem_toArray, List.getElem_cons_zero, List.getElem_cons_succ]
                  refine wpAnyH_take (i := 19) (v := ?_) rfl (by kernel_rfl) (by kernel_rfl) (by kernel_rfl) (fun _ _ _ h => h) (Or.inl ⟨by rfl, ?_⟩) (by assumption) ?_
                  rotate_left
                  · intro w' hSw
                    try dsimp only at hSw
                    go_simp
                    try with_reducible rfl
                  try simp only [Act.put, List.setIfInBounds_toArray, List.set_cons_zero, List.set_cons_succ, List.getElem_toArray, List.getElem_cons_zero, List.getElem_cons_succ]
                  refine wpAnyH_take (i := 20) (v := ?_) rfl (by kernel_rfl) (by kernel_rfl) (by kernel_rfl) (fun _ _ _ h => h) (Or.inl ⟨by rfl, ?_⟩) (by assumption) ?_
                  rotate_left
                  · intro w' hSw
                    try dsimp only at hSw
                    go_simp
                    try with_reducible rfl
                  try simp only [Act.put, List.setIfInBounds_toArray, List.set_cons_zero, List.set_cons_succ, List.getElem_toArray, List.getElem_cons_zero, List.getElem_cons_succ]
                  refine wpAnyH_done (by kernel_rfl) ?_ _
                  have Hend := Lib.hid (below_link Hbq.out Hb10.out Hbq.out.size)
                  clear hHeld HK2 HSm
                  go_wp2_with fail
                  go_roundw
                  case rel => exact ⟨m + 1, by omega, by go_num, Hend.out⟩
                  case measure => simp [intOf]; omega
                exact AllReadyH.nil
            exact AllReadyH.nil
          exact AllReadyH.nil
        refine AllReadyH.cons rfl (fun K hK => ?_) ?_
        · go_simp
          refine hK.out _ _ ?_ (fun hHeld => ?_)
          · (first | exact HS.out _ Hbd.out | exact HS.out _ (Hbd.out.alloc Hbd.out.size _) | exact HS.out _ Hb8.out | exact HS.out _ (Hb8.out.alloc Hb8.out.size _) | exact HS.out _ (setRow_below (Hb8.out.alloc Hb8.out.size _) Hb8.out.size _) | exact HS.out _ (setRow_below Hb8.out Hbd.out.size _))
          clear hK K
          try simp only [Act.put, List.setIfInBounds_toArray, List.set_cons_zero, List.set_cons_succ, List.getElem_toArray, List.getElem_cons_zero, List.getElem_cons_succ]
          refine wpAnyH_ready (rs := [6]) (by kernel_rfl) (by simp) ?_
          refine AllReadyH.cons rfl (fun K hK => ?_) ?_
          · go_simp
            go_at_call 8
            refine (HKo.out _ (Hbd.out.alloc Hbd.out.size _)).mono ?_
            rintro e w8 ⟨⟨us9, F9, rfl, ho9, _⟩, hb8⟩
            obtain ⟨q0, q1, q2, q3, q4, q5, rfl⟩ := six_of (ho9.1.trans (row_length _))
            have Hb8 := Lib.hid (below_link (Hbd.out.alloc Hbd.out.size _) hb8 (Hbd.out.alloc Hbd.out.size _).size)
            have Ho9 := Lib.hid ho9
            have hone9 := ho9.one
            have Hrz := Lib.hid (heap_kept hb8 (by simp) (heap_alloc_new wd (.cells zeroRow 27)))
            have Hlo := Lib.hid (show wd.heap.size < (wd.alloc (.cells zeroRow 27)).heap.size by simp)
            clear ho9 hb8
            refine hK.out _ _ ?_ (fun hHeld => ?_)
            · (first | exact HS.out _ Hbd.out | exact HS.out _ (Hbd.out.alloc Hbd.out.size _) | exact HS.out _ Hb8.out | exact HS.out _ (Hb8.out.alloc Hb8.out.size _) | exact HS.out _ (setRow_below (Hb8.out.alloc Hb8.out.size _) Hb8.out.size _) | exact HS.out _ (setRow_below Hb8.out Hbd.out.size _))
            clear hK K
            try simp only [Act.put, List.setIfInBounds_toArray, List.set_cons_zero, List.set_cons_succ, List.getElem_toArray, List.getElem_cons_zero, List.getElem_cons_succ]
            refine wpAnyH_take (i := 7) (v := ?_) rfl (by kernel_rfl) (by kernel_rfl) (by kernel_rfl) (fun _ _ _ h => h) (Or.inl ⟨by rfl, ?_⟩) (by assumption) ?_
            rotate_left
            · intro w' hSw
              try dsimp only at hSw
              go_simp
              try with_reducible rfl
            try simp only [Act.put, List.setIfInBounds_toArray, List.set_cons_zero, List.set_cons_succ, List.getElem_toArray, List.getElem_cons_zero, List.getElem_cons_succ]
            refine wpAnyH_take (i := 8) (v := ?_) rfl (by kernel_rfl) (by kernel_rfl) (by kernel_rfl) (fun _ _ _ h => h) (Or.inl ⟨by rfl, ?_⟩) (by assumption) ?_
            rotate_left
            · intro w' hSw
              try dsimp only at hSw
              go_simp
              try with_reducible rfl
            try simp only [Act.put, List.setIfInBounds_toArray, List.set_cons_zero, List.set_cons_succ, List.getElem_toArray, List.getElem_cons_zero, List.getElem_cons_succ]
            refine wpAnyH_take (i := 9) (v := ?_) rfl (by kernel_rfl) (by kernel_rfl) (by kernel_rfl) (fun _ _ _ h => h) (Or.inl ⟨by rfl, ?_⟩) (by assumption) ?_
            rotate_left
            · intro w' hSw
              try dsimp only at hSw
              go_simp
              try with_reducible rfl
            try simp only [Act.put, List.setIfInBounds_toArray, List.set_cons_zero, List.set_cons_succ, List.getElem_toArray, List.getElem_cons_zero, List.getElem_cons_succ]
            refine wpAnyH_ready (rs := [11]) (by kernel_rfl) (by simp) ?_
            refine AllReadyH.cons rfl (fun K hK => ?_) ?_
            · refine step_store_row rfl 27 _ _ rfl wd.heap.size #[q0, q1, q2, q3, q4, q5] rfl rfl 27 _ Hrz.out tree_size' rfl hone9 ?_
              refine hK.out _ _ ?_ (fun hHeld => ?_)
              · (first | exact HS.out _ Hbd.out | exact HS.out _ (Hbd.out.alloc Hbd.out.size _) | exact HS.out _ Hb8.out | exact HS.out _ (Hb8.out.alloc Hb8.out.size _) | exact HS.out _ (setRow_below (Hb8.out.alloc Hb8.out.size _) Hb8.out.size _) | exact HS.out _ (setRow_below Hb8.out Hbd.out.size _))
              clear hK K
              try simp only [Act.put, List.getElem_toArray, List.getElem_cons_zero, List.getElem_cons_succ]
              refine wpAnyH_take (i := 12) (v := ?_) rfl (by kernel_rfl) (by kernel_rfl) (by kernel_rfl) (fun _ _ _ h => h) (Or.inl ⟨by rfl, ?_⟩) (by assumption) ?_
              rotate_left
              · intro w' hSw
                try dsimp only at hSw
                go_simp
                try with_reducible rfl
              try simp only [Act.put, List.setIfInBounds_toArray, List.set_cons_zero, List.set_cons_succ, List.getElem_toArray, List.getElem_cons_zero, List.getElem_cons_succ]
              obtain ⟨wq, hwq⟩ : ∃ wq, wq = w8.setRow wd.heap.size #[q0, q1, q2, q3, q4, q5] := ⟨_, rfl⟩
              have Hbq := Lib.hid (show Below w7.heap.size w7 wq by rw [hwq]; exact setRow_below Hb8.out Hbd.out.size _)
              have Hq := Lib.hid (show wq.heap[wd.heap.size]? = some (.cells #[q0, q1, q2, q3, q4, q5] 27 (0, 0)) by rw [hwq]; exact setRow_at Hrz.out)
              have Hwq := Lib.hid hwq
              have Hlq := Lib.hid (show LiesS wq (f6 + 1 + 3) [q0, q1, q2, q3, q4, q5] (row yy) from by
                refine (OwnS.kept (fun x hx => ?_) Ho9.out).lies
                have hx1 := (Ho9.out.range x hx).1
                have hx2 := (Ho9.out.range x hx).2
                have hx0 : wd.heap.size < x := Nat.lt_of_lt_of_le Hlo.out hx1; rw [hwq]; exact row_other (by omega))
              clear hwq
              refine wpAnyH_done (by kernel_rfl) ?_ _
              rw [← Hwq.out]
              generalize wd.heap.size = gb at Hq
              clear Hwq
              have HSm := Lib.hid (fun w' (hb : Below wq.heap.size wq w') => spec_same (max (f6 + 1 + 3) f') yy kx [q0, q1, q2, q3, q4, q5] [u0, u1, u2, u3, u4, u5] w' ((Hlq.out.below hb).deeper (Nat.le_max_left _ _)) ((Hlk.out.below (below_link Hbq.out hb Hbq.out.size)).deeper (Nat.le_max_right _ _)))
              have HK2 : Hid (∀ w', Below wq.heap.size wq w' → (fun w' => Below wq.heap.size wq w' ∧ w'.cell? ⟨gb, 0, none⟩ = some q0 ∧ w'.cell? ⟨gb, 1, none⟩ = some q1 ∧ w'.cell? ⟨gb, 2, none⟩ = some q2 ∧ w'.cell? ⟨gb, 3, none⟩ = some q3 ∧ w'.cell? ⟨gb, 4, none⟩ = some q4 ∧ w'.cell? ⟨gb, 5, none⟩ = some q5 ∧ w'.cell? ⟨g3, 4, none⟩ = some (.slice (some ⟨g1, o1, none⟩) ks.length c1) ∧ w'.cell? ⟨g3, 5, none⟩ = some (.slice (some ⟨g2, o2, none⟩) kids.length c2) ∧ w'.cell? ⟨g1, o1 + m, none⟩ = some (.string kk) ∧ w'.cell? ⟨g2, o2 + m * 6, none⟩ = some u0 ∧ w'.cell? ⟨g2, o2 + m * 6 + 1, none⟩ = some u1 ∧ w'.cell? ⟨g2, o2 + m * 6 + 2, none⟩ = some u2 ∧ w'.cell? ⟨g2, o2 + m * 6 + 3, none⟩ = some u3 ∧ w'.cell? ⟨g2, o2 + m * 6 + 4, none⟩ = some u4 ∧ w'.cell? ⟨g2, o2 + m * 6 + 5, none⟩ = some u5) w') := fun w' hb => by
                have hb7 := below_link Hbq.out hb Hbq.out.size
                obtain ⟨r0, r1, r2, r3, r4, r5⟩ := Row6.of (heap_kept hb (heap_lt Hq.out) Hq.out)
                obtain ⟨_, _, _, _, b4, b5⟩ := Row6.of (heap_kept hb7 (heap_lt R3.out) R3.out)
                obtain ⟨_, _, _, _, _, _, _, _, cq⟩ := HS.out w' hb7
                obtain ⟨d0, d1, d2, d3, d4, d5⟩ := Hsix.out.block (hb7.block _ Hg2.out)
                exact ⟨hb, r0, r1, r2, r3, r4, r5, b4, b5, cq, d0, d1, d2, d3, d4, d5⟩
              clear HKo HS Hsix Hg2 R5 R6 R8 LU LY LX LV RD KD RX Hb7 HT Hg Ho9 hone9 hwt hwk hkz hwo2 Hlk Hlq Hq hHeld
              by_cases hc : kk = key
              · have hne2 : (kk.toList == key.toList) = true := by rw [hc]; simp
                clear hc
                go_upto_region 13 with fail
                refine wp_region_held_drew (S := (fun w' => Below wq.heap.size wq w' ∧ w'.cell? ⟨gb, 0, none⟩ = some q0 ∧ w'.cell? ⟨gb, 1, none⟩ = some q1 ∧ w'.cell? ⟨gb, 2, none⟩ = some q2 ∧ w'.cell? ⟨gb, 3, none⟩ = some q3 ∧ w'.cell? ⟨gb, 4, none⟩ = some q4 ∧ w'.cell? ⟨gb, 5, none⟩ = some q5 ∧ w'.cell? ⟨g3, 4, none⟩ = some (.slice (some ⟨g1, o1, none⟩) ks.length c1) ∧ w'.cell? ⟨g3, 5, none⟩ = some (.slice (some ⟨g2, o2, none⟩) kids.length c2) ∧ w'.cell? ⟨g1, o1 + m, none⟩ = some (.string kk) ∧ w'.cell? ⟨g2, o2 + m * 6, none⟩ = some u0 ∧ w'.cell? ⟨g2, o2 + m * 6 + 1, none⟩ = some u1 ∧ w'.cell? ⟨g2, o2 + m * 6 + 2, none⟩ = some u2 ∧ w'.cell? ⟨g2, o2 + m * 6 + 3, none⟩ = some u3 ∧ w'.cell? ⟨g2, o2 + m * 6 + 4, none⟩ = some u4 ∧ w'.cell? ⟨g2, o2 + m * 6 + 5, none⟩ = some u5)) (by kernel_rfl) ?_ (fun hHeld => ?_)
                · exact HK2.out _ (Below.refl _ _).drew
                have Hbz := Lib.hid (show Below wq.heap.size wq wq.drew from (Below.refl _ _).drew)
                generalize wq.drew = wz at hHeld Hbz ⊢
                refine wpAnyH_take (i := 0) (v := ?_) rfl (by kernel_rfl) (by kernel_rfl) (by kernel_rfl) (fun _ _ _ h => h) (Or.inl ⟨by rfl, ?_⟩) (by assumption) ?_
                rotate_left
                · intro w' hSw
                  try dsimp only at hSw
                  go_simp
                  try with_reducible rfl
                try simp only [Act.put, List.setIfInBounds_toArray, List.set_cons_zero, List.set_cons_succ, List.getElem_toArray, List.getElem_cons_zero, List.getElem_cons_succ]
                refine wpAnyH_take (i := 1) (v := ?_) rfl (by kernel_rfl) (by kernel_rfl) (by kernel_rfl) (fun _ _ _ h => h) (Or.inl ⟨by rfl, ?_⟩) (by assumption) ?_
                rotate_left
                · intro w' hSw
                  try dsimp only at hSw
                  go_simp
                  try with_reducible rfl
                try simp only [Act.put, List.setIfInBounds_toArray, List.set_cons_zero, List.set_cons_succ, List.getElem_toArray, List.getElem_cons_zero, List.getElem_cons_succ]
                refine wpAnyH_take (i := 2) (v := ?_) rfl (by kernel_rfl) (by kernel_rfl) (by kernel_rfl) (fun _ _ _ h => h) (Or.inl ⟨by rfl, ?_⟩) (by assumption) ?_
                rotate_left
                · intro w' hSw
                  try dsimp only at hSw
                  go_simp
                  try with_reducible rfl
                try simp only [Act.put, List.setIfInBounds_toArray, List.set_cons_zero, List.set_cons_succ, List.getElem_toArray, List.getElem_cons_zero, List.getElem_cons_succ]
                refine wpAnyH_take (i := 3) (v := ?_) rfl (by kernel_rfl) (by kernel_rfl) (by kernel_rfl) (fun _ _ _ h => h) (Or.inl ⟨by rfl, ?_⟩) (by assumption) ?_
                rotate_left
                · intro w' hSw
                  try dsimp only at hSw
                  go_simp
                  try with_reducible rfl
                try simp only [Act.put, List.setIfInBounds_toArray, List.set_cons_zero, List.set_cons_succ, List.getElem_toArray, List.getElem_cons_zero, List.getElem_cons_succ]
                refine wpAnyH_take (i := 4) (v := ?_) rfl (by kernel_rfl) (by kernel_rfl) (by kernel_rfl) (fun _ _ _ h => h) (Or.inl ⟨by rfl, ?_⟩) (by assumption) ?_
                rotate_left
                · intro w' hSw
                  try dsimp only at hSw
                  go_simp
                  try with_reducible rfl
                try simp only [Act.put, List.setIfInBounds_toArray, List.set_cons_zero, List.set_cons_succ, List.getElem_toArray, List.getElem_cons_zero, List.getElem_cons_succ]
                refine wpAnyH_take (i := 5) (v := ?_) rfl (by kernel_rfl) (by kernel_rfl) (by kernel_rfl) (fun _ _ _ h => h) (Or.inl ⟨by rfl, ?_⟩) (by assumption) ?_
                rotate_left
                · intro w' hSw
                  try dsimp only at hSw
                  go_simp
                  try with_reducible rfl
                try simp only [Act.put, List.setIfInBounds_toArray, List.set_cons_zero, List.set_cons_succ, List.getElem_toArray, List.getElem_cons_zero, List.getElem_cons_succ]
                refine wpAnyH_take (i := 6) (v := ?_) rfl (by kernel_rfl) (by kernel_rfl) (by kernel_rfl) (fun _ _ _ h => h) (Or.inl ⟨by rfl, ?_⟩) (by assumption) ?_
                rotate_left
                · intro w' hSw
                  try dsimp only at hSw
                  go_simp
                  try with_reducible rfl
                try simp only [Act.put, List.setIfInBounds_toArray, List.set_cons_zero, List.set_cons_succ, List.getElem_toArray, List.getElem_cons_zero, List.getElem_cons_succ]
                refine wpAnyH_take (i := 7) (v := ?_) rfl (by kernel_rfl) (by kernel_rfl) (by kernel_rfl) (fun _ _ _ h => h) (Or.inl ⟨by rfl, ?_⟩) (by assumption) ?_
                rotate_left
                · intro w' hSw
                  try dsimp only at hSw
                  go_simp
                  try with_reducible rfl
                try simp only [Act.put, List.setIfInBounds_toArray, List.set_cons_zero, List.set_cons_succ, List.getElem_toArray, List.getElem_cons_zero, List.getElem_cons_succ]
                refine wpAnyH_take (i := 8) (v := ?_) rfl (by kernel_rfl) (by kernel_rfl) (by kernel_rfl) (fun _ _ _ h => h) (Or.inl ⟨by rfl, ?_⟩) (by assumption) ?_
                rotate_left
                · intro w' hSw
                  try dsimp only at hSw
                  go_simp
                  try with_reducible rfl
                try simp only [Act.put, List.setIfInBounds_toArray, List.set_cons_zero, List.set_cons_succ, List.getElem_toArray, List.getElem_cons_zero, List.getElem_cons_succ]
                refine wpAnyH_take (i := 9) (v := .bool false) rfl (by kernel_rfl) (by kernel_rfl) (by kernel_rfl) (fun _ _ _ h => h) (Or.inl ⟨by rfl, ?_⟩) (by assumption) ?_
                · intro w' hSw
                  clear hSw
                  go_simp
                  try (first | rfl | simp [hne2])
                try simp only [Act.put, List.setIfInBounds_toArray, List.set_cons_zero, List.set_cons_succ, List.getElem_toArray, List.getElem_cons_zero, List.getElem_cons_succ]
                refine wpAnyH_take (i := 10) (v := ?_) rfl (by kernel_rfl) (by kernel_rfl) (by kernel_rfl) (fun _ _ _ h => h) (Or.inl ⟨by rfl, ?_⟩) (by assumption) ?_
                rotate_left
                · intro w' hSw
                  try dsimp only at hSw
                  go_simp
                  try with_reducible rfl
                try simp only [Act.put, List.setIfInBounds_toArray, List.set_cons_zero, List.set_cons_succ, List.getElem_toArray, List.getElem_cons_zero, List.getElem_cons_succ]
                refine wpAnyH_take (i := 11) (v := undef) rfl (by kernel_rfl) (by kernel_rfl) (by kernel_rfl) (fun _ _ _ h => h) (Or.inr ⟨by rfl, rfl⟩) (by assumption) ?_
                try simp only [Act.put, List.setIfInBounds_toArray, List.set_cons_zero, List.set_cons_succ, List.getElem_toArray, List.getElem_cons_zero, List.getElem_cons_succ]
                refine wpAnyH_take (i := 12) (v := undef) rfl (by kernel_rfl) (by kernel_rfl) (by kernel_rfl) (fun _ _ _ h => h) (Or.inr ⟨by rfl, rfl⟩) (by assumption) ?_
                try simp only [Act.put, List.setIfInBounds_toArray, List.set_cons_zero, List.set_cons_succ, List.getElem_toArray, List.getElem_cons_zero, List.getElem_cons_succ]
                refine wpAnyH_take (i := 13) (v := undef) rfl (by kernel_rfl) (by kernel_rfl) (by kernel_rfl) (fun _ _ _ h => h) (Or.inr ⟨by rfl, rfl⟩) (by assumption) ?_
                try simp only [Act.put, List.setIfInBounds_toArray, List.set_cons_zero, List.set_cons_succ, List.getElem_toArray, List.getElem_cons_zero, List.getElem_cons_succ]
                refine wpAnyH_take (i := 14) (v := undef) rfl (by kernel_rfl) (by kernel_rfl) (by kernel_rfl) (fun _ _ _ h => h) (Or.inr ⟨by rfl, rfl⟩) (by assumption) ?_
                try simp only [Act.put, List.setIfInBounds_toArray, List.set_cons_zero, List.set_cons_succ, List.getElem_toArray, List.getElem_cons_zero, List.getElem_cons_succ]
                refine wpAnyH_take (i := 15) (v := undef) rfl (by kernel_rfl) (by kernel_rfl) (by kernel_rfl) (fun _ _ _ h => h) (Or.inr ⟨by rfl, rfl⟩) (by assumption) ?_
                try simp only [Act.put, List.setIfInBounds_toArray, List.set_cons_zero, List.set_cons_succ, List.getElem_toArray, List.getElem_cons_zero, List.getElem_cons_succ]
                refine wpAnyH_take (i := 16) (v := undef) rfl (by kernel_rfl) (by kernel_rfl) (by kernel_rfl) (fun _ _ _ h => h) (Or.inr ⟨by rfl, rfl⟩) (by assumption) ?_
                try simp only [Act.put, List.setIfInBounds_toArray, List.set_cons_zero, List.set_cons_succ, List.getElem_toArray, List.getElem_cons_zero, List.getElem_cons_succ]
                refine wpAnyH_take (i := 17) (v := undef) rfl (by kernel_rfl) (by kernel_rfl) (by kernel_rfl) (fun _ _ _ h => h) (Or.inr ⟨by rfl, rfl⟩) (by assumption) ?_
                try simp only [Act.put, List.setIfInBounds_toArray, List.set_cons_zero, List.set_cons_succ, List.getElem_toArray, List.getElem_cons_zero, List.getElem_cons_succ]
                refine wpAnyH_take (i := 18) (v := undef) rfl (by kernel_rfl) (by kernel_rfl) (by kernel_rfl) (fun _ _ _ h => h) (Or.inr ⟨by rfl, rfl⟩) (by assumption) ?_
                try simp only [Act.put, List.setIfInBounds_toArray, List.set_cons_zero, List.set_cons_succ, List.getElem_toArray, List.getElem_cons_zero, List.getElem_cons_succ]
                refine wpAnyH_take (i := 19) (v := ?_) rfl (by kernel_rfl) (by kernel_rfl) (by kernel_rfl) (fun _ _ _ h => h) (Or.inl ⟨by rfl, ?_⟩) (by assumption) ?_
                rotate_left
                · intro w' hSw
                  try dsimp only at hSw
                  go_simp
                  try with_reducible rfl
                try simp only [Act.put, List.setIfInBounds_toArray, List.set_cons_zero, List.set_cons_succ, List.getElem_toArray, List.getElem_cons_zero, List.getElem_cons_succ]
                refine wpAnyH_take (i := 20) (v := ?_) rfl (by kernel_rfl) (by kernel_rfl) (by kernel_rfl) (fun _ _ _ h => h) (Or.inl ⟨by rfl, ?_⟩) (by assumption) ?_
                rotate_left
                · intro w' hSw
                  try dsimp only at hSw
                  go_simp
                  try with_reducible rfl
                try simp only [Act.put, List.setIfInBounds_toArray, List.set_cons_zero, List.set_cons_succ, List.getElem_toArray, List.getElem_cons_zero, List.getElem_cons_succ]
                refine wpAnyH_done (by kernel_rfl) ?_ _
                have Hend := Lib.hid (below_link Hbq.out Hbz.out Hbq.out.size)
                clear hHeld HK2 HSm
                go_wp2_with fail
                go_roundw
                case rel => exact ⟨m + 1, by omega, by go_num, Hend.out⟩
                case measure => simp [intOf]; omega
              · have hne2 : (kk.toList == key.toList) = false := by
                  rw [beq_eq_false_iff_ne]
                  intro e
                  apply hc
                  rw [ByteArray.toList_eq, ByteArray.toList_eq] at e
                  exact ByteArray.ext (Array.ext' e)
                rw [show same yy kx = true by rw [Hyy.out hc]; exact same_refl _] at HSm
                clear hc
                go_upto_region 13 with fail
                refine wp_region_held_drew (S := (fun w' => Below wq.heap.size wq w' ∧ w'.cell? ⟨gb, 0, none⟩ = some q0 ∧ w'.cell? ⟨gb, 1, none⟩ = some q1 ∧ w'.cell? ⟨gb, 2, none⟩ = some q2 ∧ w'.cell? ⟨gb, 3, none⟩ = some q3 ∧ w'.cell? ⟨gb, 4, none⟩ = some q4 ∧ w'.cell? ⟨gb, 5, none⟩ = some q5 ∧ w'.cell? ⟨g3, 4, none⟩ = some (.slice (some ⟨g1, o1, none⟩) ks.length c1) ∧ w'.cell? ⟨g3, 5, none⟩ = some (.slice (some ⟨g2, o2, none⟩) kids.length c2) ∧ w'.cell? ⟨g1, o1 + m, none⟩ = some (.string kk) ∧ w'.cell? ⟨g2, o2 + m * 6, none⟩ = some u0 ∧ w'.cell? ⟨g2, o2 + m * 6 + 1, none⟩ = some u1 ∧ w'.cell? ⟨g2, o2 + m * 6 + 2, none⟩ = some u2 ∧ w'.cell? ⟨g2, o2 + m * 6 + 3, none⟩ = some u3 ∧ w'.cell? ⟨g2, o2 + m * 6 + 4, none⟩ = some u4 ∧ w'.cell? ⟨g2, o2 + m * 6 + 5, none⟩ = some u5)) (by kernel_rfl) ?_ (fun hHeld => ?_)
                · exact HK2.out _ (Below.refl _ _).drew
                have Hbz := Lib.hid (show Below wq.heap.size wq wq.drew from (Below.refl _ _).drew)
                generalize wq.drew = wz at hHeld Hbz ⊢
                refine wpAnyH_take (i := 0) (v := ?_) rfl (by kernel_rfl) (by kernel_rfl) (by kernel_rfl) (fun _ _ _ h => h) (Or.inl ⟨by rfl, ?_⟩) (by assumption) ?_
                rotate_left
                · intro w' hSw
                  try dsimp only at hSw
                  go_simp
                  try with_reducible rfl
                try simp only [Act.put, List.setIfInBounds_toArray, List.set_cons_zero, List.set_cons_succ, List.getElem_toArray, List.getElem_cons_zero, List.getElem_cons_succ]
                refine wpAnyH_take (i := 1) (v := ?_) rfl (by kernel_rfl) (by kernel_rfl) (by kernel_rfl) (fun _ _ _ h => h) (Or.inl ⟨by rfl, ?_⟩) (by assumption) ?_
                rotate_left
                · intro w' hSw
                  try dsimp only at hSw
                  go_simp
                  try with_reducible rfl
                try simp only [Act.put, List.setIfInBounds_toArray, List.set_cons_zero, List.set_cons_succ, List.getElem_toArray, List.getElem_cons_zero, List.getElem_cons_succ]
                refine wpAnyH_take (i := 2) (v := ?_) rfl (by kernel_rfl) (by kernel_rfl) (by kernel_rfl) (fun _ _ _ h => h) (Or.inl ⟨by rfl, ?_⟩) (by assumption) ?_
                rotate_left
                · intro w' hSw
                  try dsimp only at hSw
                  go_simp
                  try with_reducible rfl
                try simp only [Act.put, List.setIfInBounds_toArray, List.set_cons_zero, List.set_cons_succ, List.getElem_toArray, List.getElem_cons_zero, List.getElem_cons_succ]
                refine wpAnyH_take (i := 3) (v := ?_) rfl (by kernel_rfl) (by kernel_rfl) (by kernel_rfl) (fun _ _ _ h => h) (Or.inl ⟨by rfl, ?_⟩) (by assumption) ?_
                rotate_left
                · intro w' hSw
                  try dsimp only at hSw
                  go_simp
                  try with_reducible rfl
                try simp only [Act.put, List.setIfInBounds_toArray, List.set_cons_zero, List.set_cons_succ, List.getElem_toArray, List.getElem_cons_zero, List.getElem_cons_succ]
                refine wpAnyH_take (i := 4) (v := ?_) rfl (by kernel_rfl) (by kernel_rfl) (by kernel_rfl) (fun _ _ _ h => h) (Or.inl ⟨by rfl, ?_⟩) (by assumption) ?_
                rotate_left
                · intro w' hSw
                  try dsimp only at hSw
                  go_simp
                  try with_reducible rfl
                try simp only [Act.put, List.setIfInBounds_toArray, List.set_cons_zero, List.set_cons_succ, List.getElem_toArray, List.getElem_cons_zero, List.getElem_cons_succ]
                refine wpAnyH_take (i := 5) (v := ?_) rfl (by kernel_rfl) (by kernel_rfl) (by kernel_rfl) (fun _ _ _ h => h) (Or.inl ⟨by rfl, ?_⟩) (by assumption) ?_
                rotate_left
                · intro w' hSw
                  try dsimp only at hSw
                  go_simp
                  try with_reducible rfl
                try simp only [Act.put, List.setIfInBounds_toArray, List.set_cons_zero, List.set_cons_succ, List.getElem_toArray, List.getElem_cons_zero, List.getElem_cons_succ]
                refine wpAnyH_take (i := 6) (v := ?_) rfl (by kernel_rfl) (by kernel_rfl) (by kernel_rfl) (fun _ _ _ h => h) (Or.inl ⟨by rfl, ?_⟩) (by assumption) ?_
                rotate_left
                · intro w' hSw
                  try dsimp only at hSw
                  go_simp
                  try with_reducible rfl
                try simp only [Act.put, List.setIfInBounds_toArray, List.set_cons_zero, List.set_cons_succ, List.getElem_toArray, List.getElem_cons_zero, List.getElem_cons_succ]
                refine wpAnyH_take (i := 7) (v := ?_) rfl (by kernel_rfl) (by kernel_rfl) (by kernel_rfl) (fun _ _ _ h => h) (Or.inl ⟨by rfl, ?_⟩) (by assumption) ?_
                rotate_left
                · intro w' hSw
                  try dsimp only at hSw
                  go_simp
                  try with_reducible rfl
                try simp only [Act.put, List.setIfInBounds_toArray, List.set_cons_zero, List.set_cons_succ, List.getElem_toArray, List.getElem_cons_zero, List.getElem_cons_succ]
                refine wpAnyH_take (i := 8) (v := ?_) rfl (by kernel_rfl) (by kernel_rfl) (by kernel_rfl) (fun _ _ _ h => h) (Or.inl ⟨by rfl, ?_⟩) (by assumption) ?_
                rotate_left
                · intro w' hSw
                  try dsimp only at hSw
                  go_simp
                  try with_reducible rfl
                try simp only [Act.put, List.setIfInBounds_toArray, List.set_cons_zero, List.set_cons_succ, List.getElem_toArray, List.getElem_cons_zero, List.getElem_cons_succ]
                refine wpAnyH_take (i := 9) (v := .bool true) rfl (by kernel_rfl) (by kernel_rfl) (by kernel_rfl) (fun _ _ _ h => h) (Or.inl ⟨by rfl, ?_⟩) (by assumption) ?_
                · intro w' hSw
                  clear hSw
                  go_simp
                  try (first | rfl | simp [hne2])
                try simp only [Act.put, List.setIfInBounds_toArray, List.set_cons_zero, List.set_cons_succ, List.getElem_toArray, List.getElem_cons_zero, List.getElem_cons_succ]
                refine wpAnyH_take (i := 10) (v := ?_) rfl (by kernel_rfl) (by kernel_rfl) (by kernel_rfl) (fun _ _ _ h => h) (Or.inl ⟨by rfl, ?_⟩) (by assumption) ?_
                rotate_left
                · intro w' hSw
                  try dsimp only at hSw
                  go_simp
                  try with_reducible rfl
                try simp only [Act.put, List.setIfInBounds_toArray, List.set_cons_zero, List.set_cons_succ, List.getElem_toArray, List.getElem_cons_zero, List.getElem_cons_succ]
                refine wpAnyH_take (i := 11) (v := ?_) rfl (by kernel_rfl) (by kernel_rfl) (by kernel_rfl) (fun _ _ _ h => h) (Or.inl ⟨by rfl, ?_⟩) (by assumption) ?_
                rotate_left
                · intro w' hSw
                  try dsimp only at hSw
                  go_simp
                  try with_reducible rfl
                try simp only [Act.put, List.setIfInBounds_toArray, List.set_cons_zero, List.set_cons_succ, List.getElem_toArray, List.getElem_cons_zero, List.getElem_cons_succ]
                refine wpAnyH_take (i := 12) (v := ?_) rfl (by kernel_rfl) (by kernel_rfl) (by kernel_rfl) (fun _ _ _ h => h) (Or.inl ⟨by rfl, ?_⟩) (by assumption) ?_
                rotate_left
                · intro w' hSw
                  try dsimp only at hSw
                  go_simp
                  try with_reducible rfl
                try simp only [Act.put, List.setIfInBounds_toArray, List.set_cons_zero, List.set_cons_succ, List.getElem_toArray, List.getElem_cons_zero, List.getElem_cons_succ]
                refine wpAnyH_take (i := 13) (v := ?_) rfl (by kernel_rfl) (by kernel_rfl) (by kernel_rfl) (fun _ _ _ h => h) (Or.inl ⟨by rfl, ?_⟩) (by assumption) ?_
                rotate_left
                · intro w' hSw
                  try dsimp only at hSw
                  go_simp
                  try with_reducible rfl
                try simp only [Act.put, List.setIfInBounds_toArray, List.set_cons_zero, List.set_cons_succ, List.getElem_toArray, List.getElem_cons_zero, List.getElem_cons_succ]
                refine wpAnyH_take (i := 14) (v := ?_) rfl (by kernel_rfl) (by kernel_rfl) (by kernel_rfl) (fun _ _ _ h => h) (Or.inl ⟨by rfl, ?_⟩) (by assumption) ?_
                rotate_left
                · intro w' hSw
                  try dsimp only at hSw
                  go_simp
                  try with_reducible rfl
                try simp only [Act.put, List.setIfInBounds_toArray, List.set_cons_zero, List.set_cons_succ, List.getElem_toArray, List.getElem_cons_zero, List.getElem_cons_succ]
                refine wpAnyH_take (i := 15) (v := ?_) rfl (by kernel_rfl) (by kernel_rfl) (by kernel_rfl) (fun _ _ _ h => h) (Or.inl ⟨by rfl, ?_⟩) (by assumption) ?_
                rotate_left
                · intro w' hSw
                  try dsimp only at hSw
                  go_simp
                  try with_reducible rfl
                try simp only [Act.put, List.setIfInBounds_toArray, List.set_cons_zero, List.set_cons_succ, List.getElem_toArray, List.getElem_cons_zero, List.getElem_cons_succ]
                refine wpAnyH_take (i := 16) (v := ?_) rfl (by kernel_rfl) (by kernel_rfl) (by kernel_rfl) (fun _ _ _ h => h) (Or.inl ⟨by rfl, ?_⟩) (by assumption) ?_
                rotate_left
                · intro w' hSw
                  try dsimp only at hSw
                  go_simp
                  try with_reducible rfl
                try simp only [Act.put, List.setIfInBounds_toArray, List.set_cons_zero, List.set_cons_succ, List.getElem_toArray, List.getElem_cons_zero, List.getElem_cons_succ]
                refine wpAnyH_ready (rs := [17]) (by kernel_rfl) (by simp) ?_
                refine AllReadyH.cons rfl (fun K hK => ?_) ?_
                · go_simp
                  go_at_call 7
                  refine (HSm.out _ Hbz.out).mono ?_
                  rintro e w10 ⟨rfl, hb10⟩
                  have Hb10 := Lib.hid (below_link Hbz.out hb10 Hbz.out.size)
                  clear hb10
                  refine hK.out _ _ ?_ (fun hHeld => ?_)
                  · exact HK2.out _ Hb10.out
                  clear hK K
                  try simp only [Act.put, List.setIfInBounds_toArray, List.set_cons_zero, List.set_cons_succ, List.getElem_toArray, List.getElem_cons_zero, List.getElem_cons_succ]
                  refine wpAnyH_take (i := 18) (v := ?_) rfl (by kernel_rfl) (by kernel_rfl) (by kernel_rfl) (fun _ _ _ h => h) (Or.inl ⟨by rfl, ?_⟩) (by assumption) ?_
                  rotate_left
                  · intro w' hSw
                    try dsimp only at hSw
                    go_simp
                    try with_reducible rfl
                  try simp only [Act.put, List.setIfInBounds_toArray, List.set_cons_zero, List.set_cons_succ, List.getElem_toArray, List.getElem_cons_zero, List.getElem_cons_succ]
                  refine wpAnyH_take (i := 19) (v := ?_) rfl (by kernel_rfl) (by kernel_rfl) (by kernel_rfl) (fun _ _ _ h => h) (Or.inl ⟨by rfl, ?_⟩) (by assumption) ?_
                  rotate_left
                  · intro w' hSw
                    try dsimp only at hSw
                    go_simp
                    try with_reducible rfl
                  try simp only [Act.put, List.setIfInBounds_toArray, List.set_cons_zero, List.set_cons_succ, List.getElem_toArray, List.getElem_cons_zero, List.getElem_cons_succ]
                  refine wpAnyH_take (i := 20) (v := ?_) rfl (by kernel_rfl) (by kernel_rfl) (by kernel_rfl) (fun _ _ _ h => h) (Or.inl ⟨by rfl, ?_⟩) (by assumption) ?_
                  rotate_left
                  · intro w' hSw
                    try dsimp only at hSw
                    go_simp
                    try with_reducible rfl
                  try simp only [Act.put, List.setIfInBounds_toArray, List.set_cons_zero, List.set_cons_succ, List.getElem_toArray, List.getElem_cons_zero, List.getElem_cons_succ]
                  refine wpAnyH_done (by kernel_rfl) ?_ _
                  have Hend := Lib.hid (below_link Hbq.out Hb10.out Hbq.out.size)
                  clear hHeld HK2 HSm
                  go_wp2_with fail
                  go_roundw
                  case rel => exact ⟨m + 1, by omega, by go_num, Hend.out⟩
                  case measure => simp [intOf]; omega
                exact AllReadyH.nil
            exact AllReadyH.nil
          exact AllReadyH.nil
        exact AllReadyH.nil
      · obtain rfl : m = ks.length := by omega
        have hokO := Hg.out.ok
        have hszO : size (T.mk ko fo no so kso kidso) ≤ 1099511627776 := by have := hokO.2.1; omega
        have HO1 := Lib.hid (fun w' (hb : Below w7.heap.size w7 w') => spec_okay _ (T.mk ko fo no so kso kidso) _ w' (LX.out.below hb) hszO)
        have HO2 := Lib.hid (fun w' (hb : Below w7.heap.size w7 w') => impl_okay _ (T.mk ko fo no so kso kidso) _ w' (LX.out.below hb) hszO (HT.out w' (below_link Hb7.out hb Hb7.out.size)))
        rw [show dec (Ok (T.mk ko fo no so kso kidso)) = true by unfold dec; simp [hokO]] at HO1 HO2
        have HSm : Hid (∀ w', Below w7.heap.size w7 w' → Calls Tryd.prog 7 #[.agg #[v0, v1, v2, v3, v4, v5], .agg #[y0, y1, y2, y3, y4, y5]] w' fun e w9 => e = .returned (.bool true) ∧ Below w'.heap.size w' w9) := fun w' hb => by
          have h := spec_same (max (f6 + 1 + 3) f2) kid kid [v0, v1, v2, v3, v4, v5] [y0, y1, y2, y3, y4, y5] w' ((LV.out.below hb).deeper (Nat.le_max_left _ _)) ((LY.out.below hb).deeper (Nat.le_max_right _ _))
          rw [same_refl] at h
          exact h
        have hj4 : j < kso.length := hj2
        obtain ⟨g4, o4, rfl, hg4, hcell⟩ := RX.out.2 (by omega)
        have hcl : w7.cell? ⟨g4, o4 + j, none⟩ = some (.string key) := hcell j (by omega) _ (by
          have h : kso[j]? = some key := hj3
          rw [List.getElem?_eq_getElem hj4] at h
          injection h with h
          rw [scells_get kso j hj4, h])
        have Hcl := Lib.hid hcl
        have Hg4 := Lib.hid hg4
        have hkk : (key.toList == key.toList) = true := by simp
        have hjn : ¬ (j : Int) < 0 := by omega
        have hj0 : (0 : Int) ≤ (j : Int) := by omega
        clear hokO hszO hcell hcl hg4 hj2 hj3 p0 p1 p2 p3 p4 p5
        obtain ⟨p0, p1, p2, p3, p4, p5⟩ := Row6.of (heap_kept hbr.out (heap_lt R6.out) R6.out)
        obtain ⟨r0, r1, r2, r3, r4, r5⟩ := Row6.of (heap_kept hbr.out (heap_lt R3.out) R3.out)
        go_wp2_with fail
        refine (HO1.out _ hbr.out).mono ?_
        rintro e w8 ⟨rfl, hb8⟩
        have Hb8 := Lib.hid (below_link hbr.out hb8 hbr.out.size)
        clear HO1 hb8 p0 p1 p2 p3 p4 p5 r0 r1 r2 r3 r4 r5 hbr
        obtain ⟨p0, p1, p2, p3, p4, p5⟩ := Row6.of (heap_kept Hb8.out (heap_lt R6.out) R6.out)
        go_wp2_with fail
        refine (HO2.out _ Hb8.out).mono ?_
        rintro e w9 ⟨rfl, hb9⟩
        have Hb9 := Lib.hid (below_link Hb8.out hb9 Hb8.out.size)
        clear HO2 hb9 p0 p1 p2 p3 p4 p5 Hb8
        obtain ⟨p0, p1, p2, p3, p4, p5⟩ := Row6.of (heap_kept Hb9.out (heap_lt R8.out) R8.out)
        obtain ⟨q0, q1, q2, q3, q4, q5⟩ := Row6.of (heap_kept Hb9.out (heap_lt R5.out) R5.out)
        go_wp2_with fail
        refine (HSm.out _ Hb9.out).mono ?_
        rintro e w10 ⟨rfl, hb10⟩
        have Hb10 := Lib.hid (below_link Hb9.out hb10 Hb9.out.size)
        clear HSm hb10 p0 p1 p2 p3 p4 p5 q0 q1 q2 q3 q4 q5 Hb9
        obtain ⟨p0, p1, p2, p3, p4, p5⟩ := Row6.of (heap_kept Hb10.out (heap_lt R6.out) R6.out)
        have hcl : w10.cell? ⟨g4, o4 + j, none⟩ = some (.string key) := (World.cell?_of_block (Hb10.out.block _ Hg4.out)).trans Hcl.out
        go_wp2_with fail
        go_ret
        exact ⟨rfl, below_link Hb7.out Hb10.out Hb7.out.size⟩
  · rw [put_no hp] at HI
    clear hp
    go_wp2_with (first | (refine wpList_store_row rfl 27 _ _ rfl w1.heap.size #[.int .i64 k, .bool fl, .int .i64 n, .string s, .slice A1 ks.length c1, .slice A2 kids.length c2] rfl rfl 27 _ hz3 tree_size' rfl hone ?_) | (refine wpList_store_row rfl 27 _ _ rfl (w1.heap.size + 1) #[y0, y1, y2, y3, y4, y5] rfl rfl 27 _ hz5 tree_size' rfl hone2 ?_) | fail)
    rw [← Hw2.out]
    refine HI.out.mono ?_
    rintro e w3 ⟨⟨g9, us6, F6, rfl, ho6, hn6⟩, hb3⟩
    obtain ⟨x0, x1, x2, x3, x4, x5, rfl⟩ := six_of (ho6.1.trans (row_length _))
    obtain ⟨w4, hw4⟩ : ∃ w4, w4 = w3.alloc (.cells #[x0, x1, x2, x3, x4, x5] 27) := ⟨_, rfl⟩
    have hb34 : Below w3.heap.size w3 w4 := by rw [hw4]; exact (Below.refl _ _).alloc (Nat.le_refl _) _
    have hb24 := below_link hb3 hb34 hb3.size
    have h6 : w4.heap[w3.heap.size]? = some (.cells #[x0, x1, x2, x3, x4, x5] 27 (0, 0)) := by rw [hw4]; exact heap_alloc_new w3 _
    have h3 := heap_kept hb24 (heap_lt P3.out) P3.out
    have HS := Lib.hid (spec_same (max g9 (f' + 1)) (T.mk k fl n s ks kids) (T.mk k fl n s ks kids) _ _ w4 ((ho6.lies.below hb34).deeper (Nat.le_max_left _ _)) ((HLU.out.below hb24).deeper (Nat.le_max_right _ _)))
    rw [same_refl] at HS
    have Hb4 := Lib.hid (below_link Hb2.out hb24 Hb2.out.size)
    have hone6 := ho6.one
    have Hw4 := Lib.hid hw4
    clear HI hb3 hb34 hb24 ho6 hn6 hw4 hz3 hz5 hone hone2 HLU HLY Hrd Hkid Hb2 Hw2 p0 p1 p2 p3 p4 p5 q0 q1 q2 q3 q4 q5
    obtain ⟨p0, p1, p2, p3, p4, p5⟩ := Row6.of h6
    obtain ⟨q0, q1, q2, q3, q4, q5⟩ := Row6.of h3
    rw [Hw4.out] at p0 p1 p2 p3 p4 p5 q0 q1 q2 q3 q4 q5
    clear h6 h3
    go_wp2_with (first | (refine wpList_store_row rfl 27 _ _ rfl w3.heap.size #[x0, x1, x2, x3, x4, x5] rfl rfl 27 _ (heap_alloc_new w3 _) tree_size' rfl hone6 ?_; rw [World.setRow_alloc_new]) | fail)
    rw [← Hw4.out]
    refine HS.out.mono ?_
    rintro e w5 ⟨rfl, hb5⟩
    have Hb5 := Lib.hid (below_link Hb4.out hb5 Hb4.out.size)
    clear HS hb5 p0 p1 p2 p3 p4 p5 q0 q1 q2 q3 q4 q5
    go_wp2_with fail
    go_ret
    exact ⟨rfl, Hb5.out⟩
end Go.Proofs.YtfggpcahfpjgmaaDoor.fnTrees
