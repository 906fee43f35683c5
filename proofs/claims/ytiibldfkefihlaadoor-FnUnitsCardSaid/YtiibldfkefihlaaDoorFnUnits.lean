/- FnUnits: for every byte slice the law returns true, where the library's table and sentinels hold what their texts lay. -/
import Derived.Test.YtiibldfkefihlaaDoorDrawReadAmt
import Derived.Test.YtiibldfkefihlaaDoorReadAmtI
import Derived.Test.YtiibldfkefihlaaDoorReadAmtS
import Derived.Test.YtiibldfkefihlaaDoorAmountBack
import Derived.Test.YtiibldfkefihlaaDoorSufI
import Derived.Test.YtiibldfkefihlaaDoorBigL
namespace Go.Proofs.YtiibldfkefihlaaDoor.fnUnits
open Go.ChangeShapes Go.WideShapes Go.ChangeAt Go.RowKit
set_option linter.unusedVariables false

theorem read_split (l sf : List UInt8) (hd : ∀ c ∈ l, split.dig c = true) (h0 : split.ld sf = 0) (hl : l.length + sf.length ≤ 40) : amount.readF ⟨(l ++ sf).toArray⟩ = amount.readG ⟨l.toArray⟩ ⟨sf.toArray⟩ := by
  have hlead : split.lead ⟨(l ++ sf).toArray⟩ = l.length := by
    show split.ld (l ++ sf) = _
    rw [split.ld_app _ _ hd, h0, Nat.add_zero]
  have h1 : split.fst ⟨(l ++ sf).toArray⟩ = ⟨l.toArray⟩ := by
    refine split.mk_eq ?_
    rw [split.fst_list, hlead]
    show (l ++ sf).take _ = _
    rw [List.take_left']
    rfl
  have h2 : split.snd ⟨(l ++ sf).toArray⟩ = ⟨sf.toArray⟩ := by
    refine split.mk_eq ?_
    rw [split.snd_list, hlead]
    show (l ++ sf).drop _ = _
    rw [List.drop_left']
    rfl
  rw [amount.read_short (by show ¬ 40 < (l ++ sf).toArray.size; rw [List.size_toArray, List.length_append]; omega), h1, h2]
theorem dec_top : Lib.decDigits 9223372036854775807 = [57, 50, 50, 51, 51, 55, 50, 48, 51, 54, 56, 53, 52, 55, 55, 53, 56, 48, 55] := readnum.top_dec
theorem c0 : amount.readF ⟨#[53, 48, 48, 109]⟩ = (500, 0) := by
  have e : Lib.decDigits 500 = [53, 48, 48] := by simp [Lib.decDigits]
  have h := amount.read_num 500 [109] 1 (by decide) (by decide) (by decide) (by decide) (by decide)
  rw [e] at h
  exact h
theorem c1 : amount.readF ⟨#[50, 71, 105]⟩ = (2147483648000, 0) := by
  have e : Lib.decDigits 2 = [50] := by simp [Lib.decDigits]
  have h := amount.read_num 2 [71, 105] 1073741824000 (by decide) (by decide) (by decide) (by decide) (by decide)
  rw [e] at h
  exact h
theorem c2 : amount.readF ⟨#[49, 107]⟩ = (1000000, 0) := by
  have e : Lib.decDigits 1 = [49] := by simp [Lib.decDigits]
  have h := amount.read_num 1 [107] 1000000 (by decide) (by decide) (by decide) (by decide) (by decide)
  rw [e] at h
  exact h
theorem c3 : amount.readF ⟨#[57, 50, 50, 51, 51, 55, 50, 48, 51, 54, 56, 53, 52, 55, 55, 53, 56, 48, 56, 109]⟩ = (0, 2) := by
  have h := read_split [57, 50, 50, 51, 51, 55, 50, 48, 51, 54, 56, 53, 52, 55, 55, 53, 56, 48, 56] [109] (by decide) (by decide) (by decide)
  rw [amount.g_far (u := 1) (by decide) (by decide) (readnum.no_flag readnum.above_no)] at h
  exact h
theorem c4 : amount.readF ⟨#[57, 50, 50, 51, 51, 55, 50, 48, 51, 54, 56, 53, 52, 55, 55, 53, 56, 48, 55, 109]⟩ = (9223372036854775807, 0) := by
  have h := amount.read_num 9223372036854775807 [109] 1 (by decide) (by decide) (by decide) (by decide) (by decide)
  rw [dec_top] at h
  exact h
theorem c5 : amount.readF ⟨#[49, 46, 53]⟩ = (0, 1) := by
  have h := read_split [49] [46, 53] (by decide) (by decide) (by decide)
  rw [amount.g_unit (by decide)] at h
  exact h
theorem call_at {s : ByteArray} {x c : Int} (h : amount.readF s = (x, c)) (hs : s.size ≤ maxLen) (w : World) (hE : readnum.ErrVar w "strconv.ErrSyntax") (hR : readnum.ErrVar w "strconv.ErrRange") (hP : decimal.Pow w) :
    Calls Tryd.prog 12 #[.string s] w fun e w' => e = .returned (.tuple #[.int .i64 x, .int .i64 c]) ∧ Below w.heap.size w w' := by
  have := amount.impl_read s w hs hE hR hP
  rw [h] at this
  exact this

set_option maxRecDepth 100000 in
set_option maxHeartbeats 16000000 in
theorem walk (A : Option Addr) (len cap : Nat) (zs : List Int) (W : World) (hr : IsRow .u8 W A len cap zs) (hP : decimal.Pow W) (hR : readnum.ErrVar W "strconv.ErrRange") (hE : readnum.ErrVar W "strconv.ErrSyntax") :
    Calls Tryd.prog 4 #[.slice A len cap] W fun e w' => e = .returned (.bool true) ∧ Below W.heap.size W w' := by
  have hm := hr.le
  have hB := Lib.hid (lawBig.any A len cap W hm)
  unfold maxLen at hm
  by_cases h1 : 1048576 < len
  · clear hr hP hR hE
    go_enter Tryd.func4, Tryd.ntmps4
    go_wp2_with fail
    refine hB.out.mono ?_
    rintro e w1 ⟨rfl, rfl⟩
    go_wp2_with fail
    go_ret
    exact ⟨rfl, Below.refl _ _⟩
  have H0 := Lib.hid (fun w1 (hb : Below W.heap.size W w1) => call_at c0 (by unfold maxLen; decide) w1 (hE.below hb) (hR.below hb) (hP.below hb))
  have H1 := Lib.hid (fun w1 (hb : Below W.heap.size W w1) => call_at c1 (by unfold maxLen; decide) w1 (hE.below hb) (hR.below hb) (hP.below hb))
  have H2 := Lib.hid (fun w1 (hb : Below W.heap.size W w1) => call_at c2 (by unfold maxLen; decide) w1 (hE.below hb) (hR.below hb) (hP.below hb))
  have H3 := Lib.hid (fun w1 (hb : Below W.heap.size W w1) => call_at c3 (by unfold maxLen; decide) w1 (hE.below hb) (hR.below hb) (hP.below hb))
  have H4 := Lib.hid (fun w1 (hb : Below W.heap.size W w1) => call_at c4 (by unfold maxLen; decide) w1 (hE.below hb) (hR.below hb) (hP.below hb))
  have H5 := Lib.hid (fun w1 (hb : Below W.heap.size W w1) => call_at c5 (by unfold maxLen; decide) w1 (hE.below hb) (hR.below hb) (hP.below hb))
  have HD := Lib.hid (fun w h => draw.readAmount_any A len cap zs w h (by omega))
  have HI := Lib.hid (fun s w1 hs (hb : Below W.heap.size W w1) => amount.impl_read s w1 hs (hE.below hb) (hR.below hb) (hP.below hb))
  have Hr := Lib.hid hr
  clear hr hP hR hE
  go_enter Tryd.func4, Tryd.ntmps4
  go_wp2_with fail
  refine hB.out.mono ?_
  rintro e w1 ⟨rfl, rfl⟩
  clear hB
  have hb0 := Below.refl W.heap.size W
  go_wp2_with fail
  refine (H0.out _ hb0).mono ?_
  rintro e w1 ⟨rfl, q1⟩
  have hb1 := hb0.trans (q1.mono hb0.size)
  clear H0 hb0 q1
  go_wp2_with fail
  refine (H1.out _ hb1).mono ?_
  rintro e w2 ⟨rfl, q2⟩
  have hb2 := hb1.trans (q2.mono hb1.size)
  clear H1 hb1 q2
  go_wp2_with fail
  refine (H2.out _ hb2).mono ?_
  rintro e w3 ⟨rfl, q3⟩
  have hb3 := hb2.trans (q3.mono hb2.size)
  clear H2 hb2 q3
  go_wp2_with fail
  refine (H3.out _ hb3).mono ?_
  rintro e w4 ⟨rfl, q4⟩
  have hb4 := hb3.trans (q4.mono hb3.size)
  clear H3 hb3 q4
  go_wp2_with fail
  refine (H4.out _ hb4).mono ?_
  rintro e w5 ⟨rfl, q5⟩
  have hb5 := hb4.trans (q5.mono hb4.size)
  clear H4 hb4 q5
  go_wp2_with fail
  refine (H5.out _ hb5).mono ?_
  rintro e w6 ⟨rfl, q6⟩
  have hb6 := hb5.trans (q6.mono hb5.size)
  clear H5 hb5 q6
  go_wp2_with fail
  refine (HD.out _ (Hr.out.below hb6)).mono ?_
  rintro e w7 ⟨s, hs, rfl, q7⟩
  have hb7 := hb6.trans (q7.mono hb6.size)
  have hs2 : s.size ≤ maxLen := by unfold maxLen; omega
  have K1 := Lib.hid (fun w hb => HI.out s w hs2 hb)
  have K2 := Lib.hid (fun w => amount.spec_read s w hs2)
  have K3 := Lib.hid (fun w => split.impl_any s w hs2)
  have hj := split.join s
  have z1 := split.fst_size s
  have z2 := split.snd_size s
  have z3 := split.lead_le s
  generalize (amount.readF s).1 = x at K1 K2
  generalize (amount.readF s).2 = c at K1 K2
  generalize split.fst s = f at K3 hj z1
  generalize split.snd s = r at K3 hj z2
  have hsum : ¬ 9223372036854775807 < f.size + r.size := by omega
  have hsum2 : ¬ 9223372036854775807 < s.size := by omega
  clear HD HI Hr hb6 q7 hs2 z1 z2 z3
  go_wp2_with fail
  refine (K1.out _ hb7).mono ?_
  rintro e w8 ⟨rfl, q8⟩
  have hb8 := hb7.trans (q8.mono hb7.size)
  clear K1 hb7 q8
  go_wp2_with fail
  refine (K2.out _).mono ?_
  rintro e w9 ⟨rfl, q9⟩
  have hb9 := hb8.trans (q9.mono hb8.size)
  clear K2 hb8 q9
  go_wp2_with fail
  refine (K3.out _).mono ?_
  rintro e w10 ⟨rfl, q10⟩
  have hb10 := hb9.trans (q10.mono hb9.size)
  clear K3 hb9 q10
  go_wp2_with fail
  refine (suf.impl_any _).mono ?_
  rintro e w11 ⟨v, rfl, hv, q11⟩
  obtain ⟨A0, c0, rfl, hn0, hc0, hr0⟩ := Rd.of_own hv
  have hb11 := hb10.trans (q11.mono hb10.size)
  clear hv hr0 hb10 q11
  go_wp2_with fail
  go_ret
  exact ⟨rfl, hb11⟩
end Go.Proofs.YtiibldfkefihlaaDoor.fnUnits
