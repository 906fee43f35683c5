/- FnPowers: for every byte slice the law returns true, where the library's table and sentinels hold what their texts lay. -/
import Derived.Test.YtmknkpoihnpnkaaDoorDrawPow
import Derived.Test.YtmknkpoihnpnkaaDoorPowI
import Derived.Test.YtmknkpoihnpnkaaDoorMulS
import Derived.Test.YtmknkpoihnpnkaaDoorIntTextI
import Derived.Test.YtmknkpoihnpnkaaDoorReadIntI
import Derived.Test.YtmknkpoihnpnkaaDoorNumTop
import Derived.Test.YtmknkpoihnpnkaaDoorBigL
namespace Go.Proofs.YtmknkpoihnpnkaaDoor.fnPowers
open Go.ChangeShapes Go.WideShapes Go.ChangeAt Go.RowKit
set_option linter.unusedVariables false

/-- ReadInt on the numeral of k: k itself, if it is not negative. -/
theorem read_text (k : Int) (h0 : -9223372036854775808 ≤ k) (h1 : k ≤ 9223372036854775807) (w : World) (hE : readnum.ErrVar w "strconv.ErrSyntax") (hR : readnum.ErrVar w "strconv.ErrRange") (hP : decimal.Pow w) :
    Calls Tryd.prog 13 #[.string ⟨(Lib.itoa k).toArray⟩] w fun e w' => e = .returned (.tuple #[.int .i64 (if 0 ≤ k then k else 0), .bool (decide (0 ≤ k))]) ∧ Below w.heap.size w w' := by
  by_cases hk : 0 ≤ k
  · obtain ⟨n, rfl, hn, hl⟩ := readnum.pos_yes k hk h1
    rw [if_pos hk, decide_eq_true hk]
    exact readnum.int_yes _ w n (by omega) hP hn
  · have hno := readnum.neg_no 9223372036854775807 k (by omega)
    have hl := readnum.neg_len k (by omega) h0
    have h := readnum.int_any ⟨(Lib.itoa k).toArray⟩ w (by omega) hE hR hP
    rw [readnum.no_res hno, readnum.no_flag hno] at h
    rw [if_neg hk, decide_eq_false hk]
    exact h
theorem read_top (w : World) (hP : decimal.Pow w) :
    Calls Tryd.prog 13 #[.string ⟨#[57, 50, 50, 51, 51, 55, 50, 48, 51, 54, 56, 53, 52, 55, 55, 53, 56, 48, 55]⟩] w fun e w' => e = .returned (.tuple #[.int .i64 9223372036854775807, .bool true]) ∧ Below w.heap.size w w' :=
  readnum.int_yes _ w 9223372036854775807 (by decide) hP readnum.top_yes
theorem read_above (w : World) (hE : readnum.ErrVar w "strconv.ErrSyntax") (hR : readnum.ErrVar w "strconv.ErrRange") (hP : decimal.Pow w) :
    Calls Tryd.prog 13 #[.string ⟨#[57, 50, 50, 51, 51, 55, 50, 48, 51, 54, 56, 53, 52, 55, 55, 53, 56, 48, 56]⟩] w fun e w' => e = .returned (.tuple #[.int .i64 0, .bool false]) ∧ Below w.heap.size w w' := by
  have h := readnum.int_any ⟨#[57, 50, 50, 51, 51, 55, 50, 48, 51, 54, 56, 53, 52, 55, 55, 53, 56, 48, 56]⟩ w (by decide) hE hR hP
  rw [readnum.no_res readnum.above_no, readnum.no_flag readnum.above_no] at h
  exact h

/-- What the first part of the law leaves: both powers, and the product that ties them. -/
theorem tie (b n : Int) (x y : Int) (h0 : 0 ≤ n) (h1 : n < 100) (hx : arith.pow2F b n = some x) (hy : arith.pow2F b (n + 1) = some y) : arith.mulF x b = some y ∧ (-9223372036854775808 ≤ x ∧ x ≤ 9223372036854775807) := by
  obtain ⟨k, rfl⟩ := Int.eq_ofNat_of_zero_le h0
  have hb : 0 ≤ b := by
    rcases Int.lt_or_le b 0 with h | h
    · rw [arith.pow2_no (by omega)] at hx; cases hx
    · exact h
  rw [arith.pow2_yes hb (by omega)] at hx
  have e : ((k : Int) + 1) = ((k + 1 : Nat) : Int) := by omega
  rw [e, arith.pow2_yes hb (by omega), arith.pow_some hx] at hy
  have := arith.pow_bd hx
  exact ⟨hy, by omega, by omega⟩

set_option maxRecDepth 100000 in
set_option maxHeartbeats 4000000 in
theorem walk (A : Option Addr) (len cap : Nat) (zs : List Int) (W : World) (hr : IsRow .u8 W A len cap zs) (hP : decimal.Pow W) (hR : readnum.ErrVar W "strconv.ErrRange") (hE : readnum.ErrVar W "strconv.ErrSyntax") :
    Calls Tryd.prog 3 #[.slice A len cap] W fun e w' => e = .returned (.bool true) ∧ Below W.heap.size W w' := by
  have hm := hr.le
  have hB := Lib.hid (lawBig.any A len cap W hm)
  unfold maxLen at hm
  by_cases h1 : 1048576 < len
  · clear hr hP hR hE
    go_enter Tryd.func3, Tryd.ntmps3
    go_wp2_with fail
    refine hB.out.mono ?_
    rintro e w1 ⟨rfl, rfl⟩
    go_wp2_with fail
    go_ret
    exact ⟨rfl, Below.refl _ _⟩
  have HD := Lib.hid (draw.pow_any A len cap zs W hr (by omega))
  have HK := Lib.hid (fun w h => draw.text_any A len cap zs w h (by omega))
  have Hr := Lib.hid hr
  have HP := Lib.hid hP
  have HR := Lib.hid hR
  have HE := Lib.hid hE
  clear hr hP hR hE
  go_enter Tryd.func3, Tryd.ntmps3
  go_wp2_with fail
  refine hB.out.mono ?_
  rintro e w1 ⟨rfl, rfl⟩
  clear hB
  go_wp2_with fail
  refine HD.out.mono ?_
  clear HD
  rintro e w1 ⟨b, n, hb, hn, rfl, hb1⟩
  have H1 := Lib.hid (fun w => arith.impl_pow b n w hb ⟨by omega, by omega⟩)
  have H2 := Lib.hid (fun w => arith.impl_pow b (n + 1) w hb ⟨by omega, by omega⟩)
  have T := Lib.hid (fun x y => tie b n x y)
  have HM := Lib.hid (fun x w h => arith.spec_mul x b w h hb)
  have HB := Lib.hid hb1
  clear hb1 hb
  generalize arith.pow2F b n = o1 at H1 T
  generalize arith.pow2F b (n + 1) = o2 at H2 T
  cases o1 with
  | none =>
    rw [arith.two_none] at H1
    unfold arith.two at H2
    go_wp2_with fail
    refine (H1.out _).mono ?_
    rintro e w2 ⟨rfl, rfl⟩
    go_wp2_with fail
    refine (H2.out _).mono ?_
    rintro e w2 ⟨rfl, rfl⟩
    clear H1 H2 T HM
    go_wp2_with fail
    refine (HK.out w1 (Hr.out.below HB.out)).mono ?_
    rintro e w2 ⟨k, hk, rfl, hb2⟩
    have hk0 : -9223372036854775808 ≤ k ∧ k ≤ 9223372036854775807 := hk
    have HB2 := Lib.hid (HB.out.trans (hb2.mono HB.out.size))
    clear hk hb2 HB
    have HT := Lib.hid (inttext.impl_any k w2 hk0.1 hk0.2 (HP.out.below HB2.out))
    go_wp2_with fail
    refine HT.out.mono ?_
    clear HT
    rintro e w3 ⟨rfl, hb3⟩
    have HB3 := Lib.hid (HB2.out.trans (hb3.mono HB2.out.size))
    clear hb3 HB2
    have HT := Lib.hid (read_text k hk0.1 hk0.2 w3 (HE.out.below HB3.out) (HR.out.below HB3.out) (HP.out.below HB3.out))
    go_wp2_with fail
    refine HT.out.mono ?_
    clear HT
    rintro e w4 ⟨rfl, hb4⟩
    have HB4 := Lib.hid (HB3.out.trans (hb4.mono HB3.out.size))
    clear hb4 HB3
    have HT := Lib.hid (read_top w4 (HP.out.below HB4.out))
    by_cases hkp : 0 ≤ k
    · rw [if_pos hkp, decide_eq_true hkp]
      have hkd : decide (0 ≤ k) = true := decide_eq_true hkp
      go_wp2_with fail
      refine HT.out.mono ?_
      clear HT
      rintro e w5 ⟨rfl, hb5⟩
      have HB5 := Lib.hid (HB4.out.trans (hb5.mono HB4.out.size))
      clear hb5 HB4
      have HT := Lib.hid (read_above w5 (HE.out.below HB5.out) (HR.out.below HB5.out) (HP.out.below HB5.out))
      go_wp2_with fail
      refine HT.out.mono ?_
      clear HT
      rintro e w6 ⟨rfl, hb6⟩
      have HB6 := Lib.hid (HB5.out.trans (hb6.mono HB5.out.size))
      clear hb6 HB5
      go_wp2_with fail
      go_ret
      exact ⟨rfl, HB6.out⟩
    · rw [if_neg hkp, decide_eq_false hkp]
      have hkd : decide (0 ≤ k) = false := decide_eq_false hkp
      go_wp2_with fail
      refine HT.out.mono ?_
      clear HT
      rintro e w5 ⟨rfl, hb5⟩
      have HB5 := Lib.hid (HB4.out.trans (hb5.mono HB4.out.size))
      clear hb5 HB4
      have HT := Lib.hid (read_above w5 (HE.out.below HB5.out) (HR.out.below HB5.out) (HP.out.below HB5.out))
      go_wp2_with fail
      refine HT.out.mono ?_
      clear HT
      rintro e w6 ⟨rfl, hb6⟩
      have HB6 := Lib.hid (HB5.out.trans (hb6.mono HB5.out.size))
      clear hb6 HB5
      go_wp2_with fail
      go_ret
      exact ⟨rfl, HB6.out⟩
  | some x =>
    rw [arith.two_some] at H1
    cases o2 with
    | none =>
      rw [arith.two_none] at H2
      go_wp2_with fail
      refine (H1.out _).mono ?_
      rintro e w2 ⟨rfl, rfl⟩
      go_wp2_with fail
      refine (H2.out _).mono ?_
      rintro e w2 ⟨rfl, rfl⟩
      clear H1 H2 T HM
      go_wp2_with fail
      refine (HK.out w1 (Hr.out.below HB.out)).mono ?_
      rintro e w2 ⟨k, hk, rfl, hb2⟩
      have hk0 : -9223372036854775808 ≤ k ∧ k ≤ 9223372036854775807 := hk
      have HB2 := Lib.hid (HB.out.trans (hb2.mono HB.out.size))
      clear hk hb2 HB
      have HT := Lib.hid (inttext.impl_any k w2 hk0.1 hk0.2 (HP.out.below HB2.out))
      go_wp2_with fail
      refine HT.out.mono ?_
      clear HT
      rintro e w3 ⟨rfl, hb3⟩
      have HB3 := Lib.hid (HB2.out.trans (hb3.mono HB2.out.size))
      clear hb3 HB2
      have HT := Lib.hid (read_text k hk0.1 hk0.2 w3 (HE.out.below HB3.out) (HR.out.below HB3.out) (HP.out.below HB3.out))
      go_wp2_with fail
      refine HT.out.mono ?_
      clear HT
      rintro e w4 ⟨rfl, hb4⟩
      have HB4 := Lib.hid (HB3.out.trans (hb4.mono HB3.out.size))
      clear hb4 HB3
      have HT := Lib.hid (read_top w4 (HP.out.below HB4.out))
      by_cases hkp : 0 ≤ k
      · rw [if_pos hkp, decide_eq_true hkp]
        have hkd : decide (0 ≤ k) = true := decide_eq_true hkp
        go_wp2_with fail
        refine HT.out.mono ?_
        clear HT
        rintro e w5 ⟨rfl, hb5⟩
        have HB5 := Lib.hid (HB4.out.trans (hb5.mono HB4.out.size))
        clear hb5 HB4
        have HT := Lib.hid (read_above w5 (HE.out.below HB5.out) (HR.out.below HB5.out) (HP.out.below HB5.out))
        go_wp2_with fail
        refine HT.out.mono ?_
        clear HT
        rintro e w6 ⟨rfl, hb6⟩
        have HB6 := Lib.hid (HB5.out.trans (hb6.mono HB5.out.size))
        clear hb6 HB5
        go_wp2_with fail
        go_ret
        exact ⟨rfl, HB6.out⟩
      · rw [if_neg hkp, decide_eq_false hkp]
        have hkd : decide (0 ≤ k) = false := decide_eq_false hkp
        go_wp2_with fail
        refine HT.out.mono ?_
        clear HT
        rintro e w5 ⟨rfl, hb5⟩
        have HB5 := Lib.hid (HB4.out.trans (hb5.mono HB4.out.size))
        clear hb5 HB4
        have HT := Lib.hid (read_above w5 (HE.out.below HB5.out) (HR.out.below HB5.out) (HP.out.below HB5.out))
        go_wp2_with fail
        refine HT.out.mono ?_
        clear HT
        rintro e w6 ⟨rfl, hb6⟩
        have HB6 := Lib.hid (HB5.out.trans (hb6.mono HB5.out.size))
        clear hb6 HB5
        go_wp2_with fail
        go_ret
        exact ⟨rfl, HB6.out⟩
    | some y =>
      rw [arith.two_some] at H2
      by_cases hn0 : n < 0
      · go_wp2_with fail
        refine (H1.out _).mono ?_
        rintro e w2 ⟨rfl, rfl⟩
        go_wp2_with fail
        refine (H2.out _).mono ?_
        rintro e w2 ⟨rfl, rfl⟩
        clear H1 H2 T HM
        go_wp2_with fail
        refine (HK.out w1 (Hr.out.below HB.out)).mono ?_
        rintro e w2 ⟨k, hk, rfl, hb2⟩
        have hk0 : -9223372036854775808 ≤ k ∧ k ≤ 9223372036854775807 := hk
        have HB2 := Lib.hid (HB.out.trans (hb2.mono HB.out.size))
        clear hk hb2 HB
        have HT := Lib.hid (inttext.impl_any k w2 hk0.1 hk0.2 (HP.out.below HB2.out))
        go_wp2_with fail
        refine HT.out.mono ?_
        clear HT
        rintro e w3 ⟨rfl, hb3⟩
        have HB3 := Lib.hid (HB2.out.trans (hb3.mono HB2.out.size))
        clear hb3 HB2
        have HT := Lib.hid (read_text k hk0.1 hk0.2 w3 (HE.out.below HB3.out) (HR.out.below HB3.out) (HP.out.below HB3.out))
        go_wp2_with fail
        refine HT.out.mono ?_
        clear HT
        rintro e w4 ⟨rfl, hb4⟩
        have HB4 := Lib.hid (HB3.out.trans (hb4.mono HB3.out.size))
        clear hb4 HB3
        have HT := Lib.hid (read_top w4 (HP.out.below HB4.out))
        by_cases hkp : 0 ≤ k
        · rw [if_pos hkp, decide_eq_true hkp]
          have hkd : decide (0 ≤ k) = true := decide_eq_true hkp
          go_wp2_with fail
          refine HT.out.mono ?_
          clear HT
          rintro e w5 ⟨rfl, hb5⟩
          have HB5 := Lib.hid (HB4.out.trans (hb5.mono HB4.out.size))
          clear hb5 HB4
          have HT := Lib.hid (read_above w5 (HE.out.below HB5.out) (HR.out.below HB5.out) (HP.out.below HB5.out))
          go_wp2_with fail
          refine HT.out.mono ?_
          clear HT
          rintro e w6 ⟨rfl, hb6⟩
          have HB6 := Lib.hid (HB5.out.trans (hb6.mono HB5.out.size))
          clear hb6 HB5
          go_wp2_with fail
          go_ret
          exact ⟨rfl, HB6.out⟩
        · rw [if_neg hkp, decide_eq_false hkp]
          have hkd : decide (0 ≤ k) = false := decide_eq_false hkp
          go_wp2_with fail
          refine HT.out.mono ?_
          clear HT
          rintro e w5 ⟨rfl, hb5⟩
          have HB5 := Lib.hid (HB4.out.trans (hb5.mono HB4.out.size))
          clear hb5 HB4
          have HT := Lib.hid (read_above w5 (HE.out.below HB5.out) (HR.out.below HB5.out) (HP.out.below HB5.out))
          go_wp2_with fail
          refine HT.out.mono ?_
          clear HT
          rintro e w6 ⟨rfl, hb6⟩
          have HB6 := Lib.hid (HB5.out.trans (hb6.mono HB5.out.size))
          clear hb6 HB5
          go_wp2_with fail
          go_ret
          exact ⟨rfl, HB6.out⟩
      by_cases hn1 : 100 ≤ n
      · go_wp2_with fail
        refine (H1.out _).mono ?_
        rintro e w2 ⟨rfl, rfl⟩
        go_wp2_with fail
        refine (H2.out _).mono ?_
        rintro e w2 ⟨rfl, rfl⟩
        clear H1 H2 T HM
        go_wp2_with fail
        refine (HK.out w1 (Hr.out.below HB.out)).mono ?_
        rintro e w2 ⟨k, hk, rfl, hb2⟩
        have hk0 : -9223372036854775808 ≤ k ∧ k ≤ 9223372036854775807 := hk
        have HB2 := Lib.hid (HB.out.trans (hb2.mono HB.out.size))
        clear hk hb2 HB
        have HT := Lib.hid (inttext.impl_any k w2 hk0.1 hk0.2 (HP.out.below HB2.out))
        go_wp2_with fail
        refine HT.out.mono ?_
        clear HT
        rintro e w3 ⟨rfl, hb3⟩
        have HB3 := Lib.hid (HB2.out.trans (hb3.mono HB2.out.size))
        clear hb3 HB2
        have HT := Lib.hid (read_text k hk0.1 hk0.2 w3 (HE.out.below HB3.out) (HR.out.below HB3.out) (HP.out.below HB3.out))
        go_wp2_with fail
        refine HT.out.mono ?_
        clear HT
        rintro e w4 ⟨rfl, hb4⟩
        have HB4 := Lib.hid (HB3.out.trans (hb4.mono HB3.out.size))
        clear hb4 HB3
        have HT := Lib.hid (read_top w4 (HP.out.below HB4.out))
        by_cases hkp : 0 ≤ k
        · rw [if_pos hkp, decide_eq_true hkp]
          have hkd : decide (0 ≤ k) = true := decide_eq_true hkp
          go_wp2_with fail
          refine HT.out.mono ?_
          clear HT
          rintro e w5 ⟨rfl, hb5⟩
          have HB5 := Lib.hid (HB4.out.trans (hb5.mono HB4.out.size))
          clear hb5 HB4
          have HT := Lib.hid (read_above w5 (HE.out.below HB5.out) (HR.out.below HB5.out) (HP.out.below HB5.out))
          go_wp2_with fail
          refine HT.out.mono ?_
          clear HT
          rintro e w6 ⟨rfl, hb6⟩
          have HB6 := Lib.hid (HB5.out.trans (hb6.mono HB5.out.size))
          clear hb6 HB5
          go_wp2_with fail
          go_ret
          exact ⟨rfl, HB6.out⟩
        · rw [if_neg hkp, decide_eq_false hkp]
          have hkd : decide (0 ≤ k) = false := decide_eq_false hkp
          go_wp2_with fail
          refine HT.out.mono ?_
          clear HT
          rintro e w5 ⟨rfl, hb5⟩
          have HB5 := Lib.hid (HB4.out.trans (hb5.mono HB4.out.size))
          clear hb5 HB4
          have HT := Lib.hid (read_above w5 (HE.out.below HB5.out) (HR.out.below HB5.out) (HP.out.below HB5.out))
          go_wp2_with fail
          refine HT.out.mono ?_
          clear HT
          rintro e w6 ⟨rfl, hb6⟩
          have HB6 := Lib.hid (HB5.out.trans (hb6.mono HB5.out.size))
          clear hb6 HB5
          go_wp2_with fail
          go_ret
          exact ⟨rfl, HB6.out⟩
      have ht := T.out x y (by omega) (by omega) rfl rfl
      have HX := Lib.hid (HM.out x w1 ht.2)
      rw [ht.1, arith.two_some] at HX
      clear ht T HM
      go_wp2_with fail
      refine (H1.out _).mono ?_
      rintro e w2 ⟨rfl, rfl⟩
      go_wp2_with fail
      refine (H2.out _).mono ?_
      rintro e w2 ⟨rfl, rfl⟩
      clear H1 H2
      go_wp2_with fail
      refine HX.out.mono ?_
      rintro e w2 ⟨rfl, rfl⟩
      clear HX
      go_wp2_with fail
      refine (HK.out w1 (Hr.out.below HB.out)).mono ?_
      rintro e w2 ⟨k, hk, rfl, hb2⟩
      have hk0 : -9223372036854775808 ≤ k ∧ k ≤ 9223372036854775807 := hk
      have HB2 := Lib.hid (HB.out.trans (hb2.mono HB.out.size))
      clear hk hb2 HB
      have HT := Lib.hid (inttext.impl_any k w2 hk0.1 hk0.2 (HP.out.below HB2.out))
      go_wp2_with fail
      refine HT.out.mono ?_
      clear HT
      rintro e w3 ⟨rfl, hb3⟩
      have HB3 := Lib.hid (HB2.out.trans (hb3.mono HB2.out.size))
      clear hb3 HB2
      have HT := Lib.hid (read_text k hk0.1 hk0.2 w3 (HE.out.below HB3.out) (HR.out.below HB3.out) (HP.out.below HB3.out))
      go_wp2_with fail
      refine HT.out.mono ?_
      clear HT
      rintro e w4 ⟨rfl, hb4⟩
      have HB4 := Lib.hid (HB3.out.trans (hb4.mono HB3.out.size))
      clear hb4 HB3
      have HT := Lib.hid (read_top w4 (HP.out.below HB4.out))
      by_cases hkp : 0 ≤ k
      · rw [if_pos hkp, decide_eq_true hkp]
        have hkd : decide (0 ≤ k) = true := decide_eq_true hkp
        go_wp2_with fail
        refine HT.out.mono ?_
        clear HT
        rintro e w5 ⟨rfl, hb5⟩
        have HB5 := Lib.hid (HB4.out.trans (hb5.mono HB4.out.size))
        clear hb5 HB4
        have HT := Lib.hid (read_above w5 (HE.out.below HB5.out) (HR.out.below HB5.out) (HP.out.below HB5.out))
        go_wp2_with fail
        refine HT.out.mono ?_
        clear HT
        rintro e w6 ⟨rfl, hb6⟩
        have HB6 := Lib.hid (HB5.out.trans (hb6.mono HB5.out.size))
        clear hb6 HB5
        go_wp2_with fail
        go_ret
        exact ⟨rfl, HB6.out⟩
      · rw [if_neg hkp, decide_eq_false hkp]
        have hkd : decide (0 ≤ k) = false := decide_eq_false hkp
        go_wp2_with fail
        refine HT.out.mono ?_
        clear HT
        rintro e w5 ⟨rfl, hb5⟩
        have HB5 := Lib.hid (HB4.out.trans (hb5.mono HB4.out.size))
        clear hb5 HB4
        have HT := Lib.hid (read_above w5 (HE.out.below HB5.out) (HR.out.below HB5.out) (HP.out.below HB5.out))
        go_wp2_with fail
        refine HT.out.mono ?_
        clear HT
        rintro e w6 ⟨rfl, hb6⟩
        have HB6 := Lib.hid (HB5.out.trans (hb6.mono HB5.out.size))
        clear hb6 HB5
        go_wp2_with fail
        go_ret
        exact ⟨rfl, HB6.out⟩
end Go.Proofs.YtmknkpoihnpnkaaDoor.fnPowers
