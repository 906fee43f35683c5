/- FnScalars: for every byte slice the law returns true. -/
import Derived.Test.YtegpcjkcejijpaaGreatDoorGAny
import Derived.Test.YtegpcjkcejijpaaGreatDoorGBk
import Derived.Test.YtegpcjkcejijpaaGreatDoorSctI
import Derived.Test.YtegpcjkcejijpaaGreatDoorGSz
import Derived.Test.YtegpcjkcejijpaaGreatDoorInlI
import Derived.Test.YtegpcjkcejijpaaGreatDoorSsI
import Derived.Test.YtegpcjkcejijpaaGreatDoorGPl
import Derived.Test.YtegpcjkcejijpaaGreatDoorGLeaf
namespace Go.Proofs.YtegpcjkcejijpaaGreatDoor.fnScalars
open Go.ChangeShapes Go.WideShapes Go.ChangeAt Go.RowKit tree
set_option linter.unusedVariables false

theorem plain_a : line.plainF ⟨#[97]⟩ = true := by
  refine line.plain_iff.2 ⟨by decide, by decide, ?_, by decide, by decide, by decide, ?_, ?_, by decide⟩
  · exact draw.runes_ascii rfl
  · intro k hk
    have h : ∀ m : Fin 1, ¬ line.odd (at_ ⟨#[97]⟩ m.val) ∧ ¬ line.ends ⟨#[97]⟩ m.val := by
      unfold line.ends
      decide
    exact h ⟨k, hk⟩
  · intro h
    have := h 0 (by decide)
    unfold line.figB at this
    exact absurd this.2 (by decide)
theorem key_a : line.keyT ⟨#[97]⟩ = ⟨#[97]⟩ := by unfold line.keyT; rw [if_pos plain_a]
set_option maxRecDepth 1000000 in
set_option maxHeartbeats 8000000 in
theorem walk (A : Option Addr) (len cap : Nat) (zs : List Int) (W : World) (hr : IsRow .u8 W A len cap zs) (hT : rune.Tabs W) (hE : readq.ErrVar W "strconv.ErrSyntax") (hR : whole.ErrVar W "strconv.ErrRange") (hM : line.MaxL W) (hP : decimal.Pow W) :
    Calls Tryz.prog 4 #[.slice A len cap] W fun e w' => e = .returned (.bool true) ∧ Below W.heap.size W w' := by
  have hm := hr.le
  have hB := Lib.hid (lawBig.any A len cap W hm)
  unfold maxLen at hm
  by_cases h1 : 1048576 < len
  · clear hr hT hE hR hM hP
    go_enter Tryz.func4, Tryz.ntmps4
    go_wp2_with fail
    refine hB.out.mono ?_
    rintro e w1 ⟨rfl, rfl⟩
    go_wp2_with fail
    go_ret
    exact ⟨rfl, Below.refl _ _⟩
  have HD := Lib.hid (drawSc_any A len cap zs W hr (by omega))
  have HT := Lib.hid (fun w1 (hb : Below W.heap.size W w1) => hT.below hb)
  have HE := Lib.hid (fun w1 (hb : Below W.heap.size W w1) => hE.below hb)
  have HRg := Lib.hid (fun w1 (hb : Below W.heap.size W w1) => hR.below hb)
  have HM := Lib.hid (fun w1 (hb : Below W.heap.size W w1) => hM.below hb)
  have HP := Lib.hid (fun w1 (hb : Below W.heap.size W w1) => hP.below hb)
  clear hr hT hE hR hM hP
  go_enter Tryz.func4, Tryz.ntmps4
  go_wp2_with fail
  refine hB.out.mono ?_
  rintro e w1 ⟨rfl, rfl⟩
  clear hB
  go_wp2_with fail
  refine HD.out.mono ?_
  rintro e w1 ⟨t, us, f, F, hwt, rfl, ho, hnd, hb1⟩
  obtain ⟨k, fl, n, s, ks, kids⟩ := t
  obtain ⟨A1, c1, A2, c2, rfl, wk, wn, ws, hc1, hc2, hrd, hks, hc3, hc4, f', rfl, hkid⟩ := open_tree ho.lies
  unfold maxLen at hc4
  obtain ⟨w2, hw2⟩ : ∃ w2, w2 = w1.alloc (.cells #[.int .i64 k, .bool fl, .int .i64 n, .string s, .slice A1 ks.length c1, .slice A2 kids.length c2] 34) := ⟨_, rfl⟩
  have hb12 : Below w1.heap.size w1 w2 := by rw [hw2]; exact (Below.refl _ _).alloc (Nat.le_refl _) _
  have P2 := Lib.hid (show w2.heap[w1.heap.size]? = some (.cells #[.int .i64 k, .bool fl, .int .i64 n, .string s, .slice A1 ks.length c1, .slice A2 kids.length c2] 34 (0, 0)) by rw [hw2]; exact heap_alloc_new w1 _)
  have hone := ho.one
  have hl2 := ho.lies.below hb12
  have Hl2 := Lib.hid hl2
  have hsz : size (T.mk k fl n s ks kids) ≤ 1099511627776 := by have := size_le_weight (T.mk k fl n s ks kids); omega
  have Hb2 := Lib.hid (below_link hb1 hb12 hb1.size)
  have HI := Lib.hid (line.impl_sct _ _ _ w2 hl2 hsz (HT.out _ Hb2.out) (HM.out _ Hb2.out) (HP.out _ Hb2.out))
  have HO := Lib.hid (fun w3 (hb : Below w2.heap.size w2 w3) => spec_okay _ _ _ w3 (hl2.below hb) hsz)
  have Hw2 := Lib.hid hw2
  have hbn := i64_bd wn
  have HKa := Lib.hid (fun w3 (hb : Below W.heap.size W w3) => line.impl_kt ⟨#[97]⟩ w3 (by decide) (HT.out w3 hb) (HM.out w3 hb))
  rw [key_a] at HKa
  have Hhb := Lib.hid hb1
  obtain ⟨p0, p1, p2, p3, p4, p5⟩ := Row6.of P2.out
  rw [hw2] at p0 p1 p2 p3 p4 p5
  have Hlt := Lib.hid (heap_lt P2.out)
  by_cases hgood : Ok (T.mk k fl n s ks kids) ∧ kids = []
  · obtain ⟨hok, hk0⟩ := hgood
    obtain ⟨sx, hg⟩ := line.sc_good (t := (T.mk k fl n s ks kids)) hok hk0 hbn.1 hbn.2
    have e1 : line.tellS (T.mk k fl n s ks kids) = sx := by unfold line.tellS; rw [hg.tell]; rfl
    have e2 : (line.tellF (T.mk k fl n s ks kids)).isSome = true := by rw [hg.tell]; rfl
    rw [e1, e2] at HI
    rw [show dec (Ok (T.mk k fl n s ks kids)) = true by unfold dec; simp [hok]] at HO
    have hkl : ¬ 0 < kids.length := by rw [hk0]; exact Nat.lt_irrefl 0
    have hle := hg.le
    have hs400 : s.size ≤ 400 := by
      have := hok.2.2
      rw [Shape] at this
      exact this.2.1.1
    have HS : Hid (∀ w3, Below W.heap.size W w3 → Calls Tryz.prog 21 #[.string sx] w3 fun e w' => e = .returned (.tuple #[.agg #[.int .i64 k, .bool fl, .int .i64 n, .string s, .slice none 0 0, .slice none 0 0], .bool true]) ∧ Below w3.heap.size w3 w') := fun w3 hb => by
      have h := line.impl_rs sx w3 (by omega) (HT.out w3 hb) (HE.out w3 hb) (HRg.out w3 hb) (HM.out w3 hb)
      rw [hg.back] at h
      exact h
    have z1 : (⟨#[32, 32]⟩ ++ sx : ByteArray).size = sx.size + 2 := by rw [ByteArray.size_append]; show 2 + sx.size = _; omega
    have z2 : (⟨#[32, 32]⟩ ++ sx ++ ⟨#[32, 35, 32, 115, 97, 105, 100]⟩ : ByteArray).size = sx.size + 9 := by rw [ByteArray.size_append, z1]; rfl
    have HN : Hid (∀ w3, Below W.heap.size W w3 → Calls Tryz.prog 22 #[.string (⟨#[32, 32]⟩ ++ sx ++ ⟨#[32, 35, 32, 115, 97, 105, 100]⟩)] w3 fun e w' => e = .returned (.tuple #[.agg #[.int .i64 k, .bool fl, .int .i64 n, .string s, .slice none 0 0, .slice none 0 0], .bool true]) ∧ Below w3.heap.size w3 w') := fun w3 hb => by
      have h := line.impl_inl (⟨#[32, 32]⟩ ++ sx ++ ⟨#[32, 35, 32, 115, 97, 105, 100]⟩) w3 (by omega) (HT.out w3 hb) (HE.out w3 hb) (HRg.out w3 hb) (HM.out w3 hb)
      rw [hg.inl _ [32, 115, 97, 105, 100] (by simp [ByteArray.data_append])] at h
      exact h
    have lf := line.scalar_leaf sx _ hg.back
    have HSame : Hid (∀ w3, Below w2.heap.size w2 w3 → Calls Tryz.prog 23 #[.agg #[.int .i64 k, .bool fl, .int .i64 n, .string s, .slice none 0 0, .slice none 0 0], .agg #[.int .i64 k, .bool fl, .int .i64 n, .string s, .slice A1 ks.length c1, .slice A2 kids.length c2]] w3 fun e w' => e = .returned (.bool true) ∧ Below w3.heap.size w3 w') := fun w3 hb => by
      have h := spec_same (max 1 (f' + 1)) (T.mk k fl n s ks kids) (T.mk k fl n s ks kids) _ _ w3 ((line.own_of_leaf (w := w3) (B := 0) lf).lies.deeper (Nat.le_max_left _ _)) ((hl2.below hb).deeper (Nat.le_max_right _ _))
      rw [same_refl] at h
      exact h
    have HSs : Hid (∀ w3, Below W.heap.size W w3 → Calls Tryz.prog 24 #[.string sx, .string sx] w3 fun e w' => e = .returned (.bool true) ∧ Below w3.heap.size w3 w') := fun w3 hb => by
      have h := line.impl_ss sx sx w3 (by omega) (by omega) (HT.out w3 hb) (HE.out w3 hb) (HRg.out w3 hb) (HM.out w3 hb)
      have e : line.sameF sx sx = true := by
        unfold line.sameF
        rw [hg.back]
        show same _ _ = true
        exact same_refl _
      rw [e] at h
      exact h
    have HPl := Lib.hid (fun w3 => line.spec_plain s w3 (by omega))
    have Hpl := Lib.hid (show k = 4 → line.plainF s = true → sx = s from hg.plain)
    have hc1' : ¬ 9223372036854775807 < 2 + sx.size := by omega
    have hc2' : ¬ 9223372036854775807 < (⟨#[32, 32]⟩ ++ sx : ByteArray).size + 7 := by omega
    have hone1 : (#[.int .i64 k, .bool fl, .int .i64 n, .string s, .slice none 0 0, .slice none 0 0] : Array Value).all (·.oneCell') = true := by simp [Value.oneCell']
    clear e1 e2 hok hg lf HT HE HRg HM HP hl2 hkid hrd hks ho hwt hw2 hb12 hb1 HKa hk0 hbn hsz
    go_wp2_with (first | (refine wpList_store_row rfl 34 _ _ rfl w1.heap.size #[.int .i64 k, .bool fl, .int .i64 n, .string s, .slice A1 ks.length c1, .slice A2 kids.length c2] rfl rfl 34 _ (heap_alloc_new w1 _) tree_size' rfl hone ?_; rw [World.setRow_alloc_new]) | fail)
    rw [← Hw2.out]
    refine HI.out.mono ?_
    rintro e w3 ⟨rfl, hb3⟩
    have hb23 := hb3
    have Hb23 := Lib.hid hb3
    have Hb3 := Lib.hid (below_link Hb2.out hb3 Hb2.out.size)
    have P3 := Lib.hid (heap_kept hb3 Hlt.out P2.out)
    clear HI hb3 p0 p1 p2 p3 p4 p5 Hw2
    obtain ⟨p0, p1, p2, p3, p4, p5⟩ := Row6.of P3.out
    go_wp2_with fail
    refine (HO.out w3 hb23).mono ?_
    rintro e w4 ⟨rfl, hb4⟩
    have Hb24 := Lib.hid (below_link Hb23.out hb4 Hb23.out.size)
    have Hb4 := Lib.hid (below_link Hb3.out hb4 Hb3.out.size)
    have P4 := Lib.hid (heap_kept hb4 (heap_lt P3.out) P3.out)
    clear HO hb4 hb23 p0 p1 p2 p3 p4 p5 Hb3 Hb23 P3
    obtain ⟨p0, p1, p2, p3, p4, p5⟩ := Row6.of P4.out
    go_wp2_with fail
    refine (HS.out w4 Hb4.out).mono ?_
    rintro e w5 ⟨rfl, hb5⟩
    obtain ⟨w6, hw6⟩ : ∃ w6, w6 = w5.alloc (.cells #[.int .i64 k, .bool fl, .int .i64 n, .string s, .slice none 0 0, .slice none 0 0] 34) := ⟨_, rfl⟩
    have hb56 : Below w5.heap.size w5 w6 := by rw [hw6]; exact (Below.refl _ _).alloc (Nat.le_refl _) _
    have hb46 := below_link hb5 hb56 hb5.size
    have Q6 := Lib.hid (show w6.heap[w5.heap.size]? = some (.cells #[.int .i64 k, .bool fl, .int .i64 n, .string s, .slice none 0 0, .slice none 0 0] 34 (0, 0)) by rw [hw6]; exact heap_alloc_new w5 _)
    have Hb26 := Lib.hid (below_link Hb24.out hb46 Hb24.out.size)
    have Hb6 := Lib.hid (below_link Hb4.out hb46 Hb4.out.size)
    have P6 := Lib.hid (heap_kept hb46 (heap_lt P4.out) P4.out)
    have Hw6 := Lib.hid hw6
    clear HS hb5 hb56 hb46 hw6 p0 p1 p2 p3 p4 p5 Hb4 Hb24 P4
    go_wp2_with (first | (refine wpList_store_row rfl 34 _ _ rfl w5.heap.size #[.int .i64 k, .bool fl, .int .i64 n, .string s, .slice none 0 0, .slice none 0 0] rfl rfl 34 _ (heap_alloc_new w5 _) tree_size' rfl hone1 ?_; rw [World.setRow_alloc_new]) | fail)
    rw [← Hw6.out]
    refine (HN.out w6 Hb6.out).mono ?_
    rintro e w7 ⟨rfl, hb7⟩
    obtain ⟨w8, hw8⟩ : ∃ w8, w8 = w7.alloc (.cells #[.int .i64 k, .bool fl, .int .i64 n, .string s, .slice none 0 0, .slice none 0 0] 34) := ⟨_, rfl⟩
    have hb78 : Below w7.heap.size w7 w8 := by rw [hw8]; exact (Below.refl _ _).alloc (Nat.le_refl _) _
    have hb68 := below_link hb7 hb78 hb7.size
    have R8 := Lib.hid (show w8.heap[w7.heap.size]? = some (.cells #[.int .i64 k, .bool fl, .int .i64 n, .string s, .slice none 0 0, .slice none 0 0] 34 (0, 0)) by rw [hw8]; exact heap_alloc_new w7 _)
    have Hb28 := Lib.hid (below_link Hb26.out hb68 Hb26.out.size)
    have Hb8 := Lib.hid (below_link Hb6.out hb68 Hb6.out.size)
    have P8 := Lib.hid (heap_kept hb68 (heap_lt P6.out) P6.out)
    have Q8 := Lib.hid (heap_kept hb68 (heap_lt Q6.out) Q6.out)
    have Hw8 := Lib.hid hw8
    clear HN hb7 hb78 hb68 hw8 Hb6 Hb26 P6 Q6 Hw6
    obtain ⟨p0, p1, p2, p3, p4, p5⟩ := Row6.of P8.out
    obtain ⟨q0, q1, q2, q3, q4, q5⟩ := Row6.of Q8.out
    rw [Hw8.out] at p0 p1 p2 p3 p4 p5 q0 q1 q2 q3 q4 q5
    go_wp2_with (first | (refine wpList_store_row rfl 34 _ _ rfl w7.heap.size #[.int .i64 k, .bool fl, .int .i64 n, .string s, .slice none 0 0, .slice none 0 0] rfl rfl 34 _ (heap_alloc_new w7 _) tree_size' rfl hone1 ?_; rw [World.setRow_alloc_new]) | fail)
    rw [← Hw8.out]
    refine (HSame.out w8 Hb28.out).mono ?_
    rintro e w9 ⟨rfl, hb9⟩
    have Hb29 := Lib.hid (below_link Hb28.out hb9 Hb28.out.size)
    have Hb9 := Lib.hid (below_link Hb8.out hb9 Hb8.out.size)
    have P9 := Lib.hid (heap_kept hb9 (heap_lt P8.out) P8.out)
    have R9 := Lib.hid (heap_kept hb9 (heap_lt R8.out) R8.out)
    clear hb9 p0 p1 p2 p3 p4 p5 q0 q1 q2 q3 q4 q5 Hb8 Hb28 P8 Q8 R8 Hw8
    obtain ⟨p0, p1, p2, p3, p4, p5⟩ := Row6.of P9.out
    obtain ⟨q0, q1, q2, q3, q4, q5⟩ := Row6.of R9.out
    go_wp2_with fail
    refine (HSame.out w9 Hb29.out).mono ?_
    rintro e w10 ⟨rfl, hb10⟩
    have Hb10 := Lib.hid (below_link Hb9.out hb10 Hb9.out.size)
    have P10 := Lib.hid (heap_kept hb10 (heap_lt P9.out) P9.out)
    clear HSame hb10 p0 p1 p2 p3 p4 p5 q0 q1 q2 q3 q4 q5 Hb9 Hb29 P9 R9
    go_wp2_with fail
    refine (HSs.out w10 Hb10.out).mono ?_
    rintro e w11 ⟨rfl, hb11⟩
    have Hb11 := Lib.hid (below_link Hb10.out hb11 Hb10.out.size)
    have P11 := Lib.hid (heap_kept hb11 (heap_lt P10.out) P10.out)
    clear HSs hb11 Hb10 P10
    obtain ⟨p0, p1, p2, p3, p4, p5⟩ := Row6.of P11.out
    by_cases h4 : k = 4
    · subst h4
      have hpl := Hpl.out rfl
      cases hp : line.plainF s with
      | false =>
        rw [hp] at HPl
        clear hp hpl
        go_wp2_with fail
        refine (HPl.out _).mono ?_
        rintro e w12 ⟨rfl, hb12⟩
        have Hb12 := Lib.hid (below_link Hb11.out hb12 Hb11.out.size)
        have P12 := Lib.hid (heap_kept hb12 (heap_lt P11.out) P11.out)
        clear HPl hb12 Hb11 P11 p0 p1 p2 p3 p4 p5
        obtain ⟨p0, p1, p2, p3, p4, p5⟩ := Row6.of P12.out
        go_wp2_with fail
        go_ret
        exact ⟨rfl, Hb12.out⟩
      | true =>
        rw [hp] at HPl
        obtain rfl := hpl hp
        clear hp hpl
        go_wp2_with fail
        refine (HPl.out _).mono ?_
        rintro e w12 ⟨rfl, hb12⟩
        have Hb12 := Lib.hid (below_link Hb11.out hb12 Hb11.out.size)
        have P12 := Lib.hid (heap_kept hb12 (heap_lt P11.out) P11.out)
        clear HPl hb12 Hb11 P11 p0 p1 p2 p3 p4 p5
        obtain ⟨p0, p1, p2, p3, p4, p5⟩ := Row6.of P12.out
        have hss : (sx.toList == sx.toList) = true := by simp
        go_wp2_with fail
        go_ret
        exact ⟨rfl, Hb12.out⟩
    · have h4b : (k != 4) = true := bne_iff_ne.2 h4
      go_wp2_with fail
      go_ret
      exact ⟨rfl, Hb11.out⟩
  · have ht : line.tellF (T.mk k fl n s ks kids) = none := line.tell_no hgood
    have e1 : line.tellS (T.mk k fl n s ks kids) = ⟨#[]⟩ := by unfold line.tellS; rw [ht]; rfl
    have e2 : (line.tellF (T.mk k fl n s ks kids)).isSome = false := by rw [ht]; rfl
    rw [e1, e2] at HI
    have hb9 : dec (Ok (T.mk k fl n s ks kids)) = false ∨ (dec (Ok (T.mk k fl n s ks kids)) = true ∧ 0 < kids.length) := by
      by_cases h : Ok (T.mk k fl n s ks kids)
      · right
        refine ⟨by unfold dec; simp [h], ?_⟩
        cases kids with
        | nil => exact absurd ⟨h, rfl⟩ hgood
        | cons a r => exact Nat.succ_pos _
      · left; unfold dec; simp [h]
    generalize dec (Ok (T.mk k fl n s ks kids)) = bk at HO hb9
    clear e1 e2 ht hgood HT HE HRg HM HP hl2 hkid hrd hks ho hwt hw2 hb12 hb1 hbn hsz
    rcases hb9 with rfl | ⟨rfl, hkl⟩
    all_goals
      go_wp2_with (first | (refine wpList_store_row rfl 34 _ _ rfl w1.heap.size #[.int .i64 k, .bool fl, .int .i64 n, .string s, .slice A1 ks.length c1, .slice A2 kids.length c2] rfl rfl 34 _ (heap_alloc_new w1 _) tree_size' rfl hone ?_; rw [World.setRow_alloc_new]) | fail)
      rw [← Hw2.out]
      refine HI.out.mono ?_
      rintro e w3 ⟨rfl, hb3⟩
      have hb23 := hb3
      have Hb3 := Lib.hid (below_link Hb2.out hb3 Hb2.out.size)
      have P3 := Lib.hid (heap_kept hb3 Hlt.out P2.out)
      clear HI hb3 p0 p1 p2 p3 p4 p5 Hw2
      obtain ⟨p0, p1, p2, p3, p4, p5⟩ := Row6.of P3.out
      go_wp2_with fail
      refine (HO.out w3 hb23).mono ?_
      rintro e w4 ⟨rfl, hb4⟩
      have Hb4 := Lib.hid (below_link Hb3.out hb4 Hb3.out.size)
      have P4 := Lib.hid (heap_kept hb4 (heap_lt P3.out) P3.out)
      clear HO hb4 hb23 p0 p1 p2 p3 p4 p5 Hb3 P3
      obtain ⟨p0, p1, p2, p3, p4, p5⟩ := Row6.of P4.out
      go_wp2_with fail
      refine (HKa.out w4 Hb4.out).mono ?_
      rintro e w5 ⟨rfl, hb5⟩
      have Hb5 := Lib.hid (below_link Hb4.out hb5 Hb4.out.size)
      clear HKa hb5 Hb4
      go_wp2_with fail
      go_ret
      exact ⟨rfl, Hb5.out⟩
end Go.Proofs.YtegpcjkcejijpaaGreatDoor.fnScalars
