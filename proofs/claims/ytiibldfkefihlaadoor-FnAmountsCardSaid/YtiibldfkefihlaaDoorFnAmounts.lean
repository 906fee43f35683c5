/- FnAmounts: for every byte slice the law returns true, where the library's table and sentinels hold what their texts lay. -/
import Derived.Test.YtiibldfkefihlaaDoorDrawAmtText
import Derived.Test.YtiibldfkefihlaaDoorNormI
import Derived.Test.YtiibldfkefihlaaDoorOrdI
import Derived.Test.YtiibldfkefihlaaDoorAmountBack
import Derived.Test.YtiibldfkefihlaaDoorBigL
namespace Go.Proofs.YtiibldfkefihlaaDoor.fnAmounts
open Go.ChangeShapes Go.WideShapes Go.ChangeAt Go.RowKit
set_option linter.unusedVariables false

theorem text_1500 : amount.textF 1500 = ⟨#[49, 53, 48, 48, 109]⟩ := by
  have e : Lib.itoa 1500 = [49, 53, 48, 48] := by simp [Lib.itoa, Lib.decDigits]
  rw [amount.text_odd (by decide) (by decide), e]
  exact bytes_append [49, 53, 48, 48] [109]
theorem milli_size (n : Int) (h0 : 0 ≤ n) (h1 : n ≤ 9223372036854775807) : (⟨(Lib.itoa n).toArray⟩ ++ ⟨#[109]⟩ : ByteArray).size ≤ maxLen := by
  obtain ⟨u, rfl⟩ := Int.eq_ofNat_of_zero_le h0
  have := amount.itoa_len u (by omega)
  rw [bytes_append _ [109]]
  show (Lib.itoa (u : Int) ++ [109]).toArray.size ≤ maxLen
  rw [List.size_toArray, List.length_append]
  unfold maxLen
  simp only [List.length_cons, List.length_nil]
  omega

set_option maxRecDepth 100000 in
set_option maxHeartbeats 16000000 in
theorem walk (A : Option Addr) (len cap : Nat) (zs : List Int) (W : World) (hr : IsRow .u8 W A len cap zs) (hP : decimal.Pow W) (hR : readnum.ErrVar W "strconv.ErrRange") (hE : readnum.ErrVar W "strconv.ErrSyntax") :
    Calls Tryd.prog 3 #[.slice A len cap] W fun e w' => e = .returned (.bool true) ∧ Below W.heap.size W w' := by
  have hm := hr.le
  have hB := Lib.hid (lawBig.any A len cap W hm)
  unfold maxLen at hm
  by_cases h1 : 1048576 < len
  · clear hr hP hR hE
    go_enter Tryd.func3, Tryd.ntmps3
    go_wp2_with fail
    refine hB.out.mono ?_
    rintro e w1 ⟨rfl, rfl⟩
    go_wp2_with fail
    go_ret
    exact ⟨rfl, Below.refl _ _⟩
  have HD := Lib.hid (draw.amountText_any A len cap zs W hr (by omega))
  have HT := Lib.hid (fun n w1 h0 h1 (hb : Below W.heap.size W w1) => amount.impl_text n w1 h0 h1 (hP.below hb))
  have HR := Lib.hid (fun s w1 hs (hb : Below W.heap.size W w1) => amount.impl_read s w1 hs (hE.below hb) (hR.below hb) (hP.below hb))
  have HN := Lib.hid (fun s w1 hs (hb : Below W.heap.size W w1) => amount.impl_norm s w1 hs (hE.below hb) (hR.below hb) (hP.below hb))
  have HO := Lib.hid (fun s t w1 hs ht (hb : Below W.heap.size W w1) => amount.impl_ord s t w1 hs ht (hE.below hb) (hR.below hb) (hP.below hb))
  have HI := Lib.hid (fun n w1 h0 h1 (hb : Below W.heap.size W w1) => inttext.impl_any n w1 h0 h1 (hP.below hb))
  clear hr hP hR hE
  go_enter Tryd.func3, Tryd.ntmps3
  go_wp2_with fail
  refine hB.out.mono ?_
  rintro e w1 ⟨rfl, rfl⟩
  clear hB
  go_wp2_with fail
  refine HD.out.mono ?_
  rintro e w1 ⟨n, hn, rfl, hb1⟩
  clear HD
  have b0 := hn.1
  have b1 := hn.2
  clear hn
  by_cases h0 : n < 0
  · have H1 := Lib.hid (fun w hb => HT.out n w b0 b1 hb)
    rw [amount.text_neg h0] at H1
    have H2 := Lib.hid (fun w hb => HT.out 1500 w (by decide) (by decide) hb)
    rw [text_1500] at H2
    clear HT HR HN HO HI
    go_wp2_with fail
    refine (H1.out _ hb1).mono ?_
    rintro e w2 ⟨rfl, hb2⟩
    have hb12 := hb1.trans (hb2.mono hb1.size)
    clear H1 hb1 hb2
    go_wp2_with fail
    refine (H2.out _ hb12).mono ?_
    rintro e w3 ⟨rfl, hb3⟩
    have hb13 := hb12.trans (hb3.mono hb12.size)
    clear H2 hb12 hb3
    go_wp2_with fail
    go_ret
    exact ⟨rfl, hb13⟩
  have hs := amount.text_size n b1
  have hl := amount.room_one n (by omega) b1
  have hz := milli_size n (by omega) b1
  have H1 := Lib.hid (fun w hb => HT.out n w b0 b1 hb)
  have H2 := Lib.hid (fun w hb => HR.out (amount.textF n) w (by unfold maxLen; omega) hb)
  rw [amount.read_text n (by omega) b1] at H2
  have H3 := Lib.hid (fun w hb => HN.out (amount.textF n) w (by unfold maxLen; omega) hb)
  rw [amount.norm_text n (by omega) b1] at H3
  have H4 := Lib.hid (fun w hb => HO.out (amount.textF n) (⟨(Lib.itoa n).toArray⟩ ++ ⟨#[109]⟩) w (by unfold maxLen; omega) hz hb)
  rw [amount.ord_text n (by omega) b1] at H4
  have H5 := Lib.hid (fun w hb => HI.out n w b0 b1 hb)
  clear HT HR HN HO HI hz
  generalize amount.textF n = s at H1 H2 H3 H4 hs
  go_wp2_with fail
  refine (H1.out _ hb1).mono ?_
  rintro e w2 ⟨rfl, hb2⟩
  have hb12 := hb1.trans (hb2.mono hb1.size)
  clear H1 hb1 hb2
  go_wp2_with fail
  refine (H2.out _ hb12).mono ?_
  rintro e w3 ⟨rfl, hb3⟩
  have hb13 := hb12.trans (hb3.mono hb12.size)
  clear H2 hb12 hb3
  go_wp2_with fail
  refine (H3.out _ hb13).mono ?_
  rintro e w4 ⟨rfl, hb4⟩
  have hb14 := hb13.trans (hb4.mono hb13.size)
  clear H3 hb13 hb4
  go_wp2_with fail
  refine (H5.out _ hb14).mono ?_
  rintro e w5 ⟨rfl, hb5⟩
  have hb15 := hb14.trans (hb5.mono hb14.size)
  clear H5 hb14 hb5
  go_wp2_with fail
  refine (H4.out _ hb15).mono ?_
  rintro e w6 ⟨rfl, hb6⟩
  have hb16 := hb15.trans (hb6.mono hb15.size)
  clear H4 hb15 hb6
  go_wp2_with fail
  go_ret
  exact ⟨rfl, hb16⟩
end Go.Proofs.YtiibldfkefihlaaDoor.fnAmounts
