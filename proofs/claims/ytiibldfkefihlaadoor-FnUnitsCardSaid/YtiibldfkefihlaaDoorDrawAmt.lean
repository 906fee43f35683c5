/- Drawn quantities: l03Text. -/
import Derived.Test.YtiibldfkefihlaaDoorDrawStr
import Derived.Test.YtiibldfkefihlaaDoorDrawNum
import Derived.Test.YtiibldfkefihlaaDoorSufS
import Derived.Test.YtiibldfkefihlaaDoorDecimalS
import Derived.Test.YtiibldfkefihlaaDoorNum
namespace Go.Proofs.YtiibldfkefihlaaDoor.draw
open Go.ChangeShapes Go.WideShapes Go.ChangeAt Go.RowKit
set_option linter.unusedVariables false

def lits : List ByteArray := [⟨#[]⟩, ⟨#[109]⟩, ⟨#[75, 105]⟩, ⟨#[48, 49]⟩, ⟨#[49, 32]⟩, ⟨#[45, 49]⟩, ⟨#[49, 46, 53]⟩, ⟨#[49, 101, 51]⟩, ⟨#[49, 75]⟩, ⟨#[49, 109, 105]⟩, ⟨#[57, 50, 50, 51, 51, 55, 50, 48, 51, 54, 56, 53, 52, 55, 55, 53, 56, 48, 55, 109]⟩, ⟨#[57, 50, 50, 51, 51, 55, 50, 48, 51, 54, 56, 53, 52, 55, 55, 53, 56, 48, 56, 109]⟩, ⟨#[57, 50, 50, 51, 51, 55, 50, 48, 51, 54, 56, 53, 52, 55, 55, 53, 56, 48, 55]⟩, ⟨#[57, 50, 50, 51, 51, 55, 50, 48, 51, 54, 56, 53, 52, 55, 55, 53]⟩, ⟨#[57, 50, 50, 51, 51, 55, 50, 48, 51, 54, 56, 53, 52, 55, 55, 54]⟩, ⟨#[56, 84, 105]⟩, ⟨#[56, 51, 56, 56, 54, 48, 56, 84, 105]⟩, ⟨#[56, 55, 57, 54, 48, 57, 51, 71, 105]⟩, ⟨#[48, 48, 109]⟩, ⟨#[48, 109]⟩, ⟨#[48]⟩]
theorem lits_size : ∀ x ∈ lits, x.size ≤ 100 := by decide
theorem texts_size : ∀ x ∈ unit.texts, x.size ≤ 2 := by decide
theorem le_two (t x : ByteArray) (a : Nat) (ht : t.size = a) (h : a + x.size ≤ 100) : (t ++ x).size ≤ 100 := by
  rw [ByteArray.size_append, ht]
  exact h
theorem dec_size (n : Int) (h0 : 0 ≤ n) (h1 : n ≤ 9223372036854775807) : (Lib.itoa n).length ≤ 19 := by
  obtain ⟨u, rfl⟩ := Int.eq_ofNat_of_zero_le h0
  rw [num.itoa_nat]
  exact num.dec_len 18 u (by omega)

set_option maxRecDepth 100000 in
set_option maxHeartbeats 16000000 in
theorem text3_any (c : Nat) (A : Option Addr) (len cap : Nat) (z : Nat → Int) (w : World) (hc : Cur w c A len cap z) :
    Calls Tryd.prog 25 #[.pointer (some ⟨c, 0, none⟩)] w (GotS (fun s => s.size ≤ 100) c A len cap z w) := by
  have H8 := Lib.hid (below_any c A len cap z 8 w hc (by decide) (by decide))
  clear hc
  go_enter Tryd.func25, Tryd.ntmps25
  go_wp2_with fail
  refine H8.out.mono ?_
  rintro e w1 ⟨x, hx, rfl, hc1, hg1⟩
  have Hg1 := Lib.hid hg1
  clear H8 hg1
  by_cases h0 : x = 0
  · subst h0
    have hlt := hc1.lt
    have HP := Lib.hid (pickS_any c A len cap z w1.heap.size 21 (.slice (some ⟨w1.heap.size, 0, none⟩) 21 21) lits _ (cur_alloc hc1 (.cells (scells lits).toArray 9)) (by decide) (by decide) rfl hlt (World.ownsRow_lit w1 (scells lits).toArray 21 (Nat.le_refl _) (by simp [maxLen]) rfl))
    clear hc1 hlt hx
    go_wp2_with fail
    refine HP.out.mono ?_
    rintro e w2 ⟨x, hx, rfl, hc2, hg2⟩
    have Hs := Lib.hid (lits_size x hx)
    have Hc2 := Lib.hid hc2
    have Hg2 := Lib.hid (grown_trans Hg1.out (grown_trans (grown_alloc _ _ _) hg2))
    clear hx hc2 hg2 HP Hg1
    go_wp2_with fail
    go_ret
    exact ⟨x, Hs.out, rfl, Hc2.out, Hg2.out⟩
  have e0 : (x == 0) = false := beq_eq_false_iff_ne.2 h0
  by_cases h1 : x = 1
  · subst h1
    have hlt := hc1.lt
    have HP := Lib.hid (pick_any c A len cap z w1.heap.size 4 4 [19, 39, 40, 41] _ (cur_alloc hc1 _) (by decide) (by decide) rfl hlt (heap_alloc_new w1 _))
    clear hc1 hlt hx
    go_wp2_with fail
    refine HP.out.mono ?_
    rintro e w2 ⟨x, hx, rfl, hc2, hg2⟩
    have hx0 : 0 ≤ x ∧ x ≤ 41 := by simp at hx; omega
    obtain ⟨n, rfl⟩ := Int.eq_ofNat_of_zero_le hx0.1
    have hn : n ≤ 41 := by omega
    have Hg2 := Lib.hid (grown_trans Hg1.out (grown_trans (grown_alloc _ _ _) hg2))
    have HL := Lib.hid (long_any n w2 (by omega))
    clear hx hx0 hg2 HP Hg1
    go_wp2_with fail
    refine HL.out.mono ?_
    rintro e w3 ⟨t, ht, rfl, hb3⟩
    have hc3 := hc2.below hb3 hc2.lt
    have Hg3 := Lib.hid (grown_trans Hg2.out (grown_of_below hb3 (some c)))
    clear HL hc2 hb3 Hg2
    go_wp2_with fail
    refine (suf.spec_any _).mono ?_
    rintro e w4 ⟨v, rfl, hown, hb4⟩
    have hc4 := hc3.below hb4 hc3.lt
    have HP := Lib.hid (pickS_any c A len cap z _ 10 v unit.texts w4 hc4 (by decide) (by decide) rfl hc3.lt hown)
    have Hg4 := Lib.hid (grown_trans Hg3.out (grown_of_below hb4 (some c)))
    clear hc3 hb4 hc4 hown Hg3
    go_wp2_with fail
    refine HP.out.mono ?_
    rintro e w5 ⟨x, hx, rfl, hc5, hg5⟩
    have hxs := texts_size x hx
    have Hc5 := Lib.hid hc5
    have Hg5 := Lib.hid (grown_trans Hg4.out hg5)
    clear HP hx hc5 hg5 Hg4
    have hsum : ¬ 9223372036854775807 < t.size + x.size := by omega
    go_wp2_with fail
    go_ret
    exact ⟨_, le_two _ _ (t.size) rfl (by omega), rfl, Hc5.out, Hg5.out⟩
  have e1 : (x == 1) = false := beq_eq_false_iff_ne.2 h1
  by_cases h2 : x = 2
  · subst h2
    have HA := Lib.hid (below_any c A len cap z 5 w1 hc1 (by decide) (by decide))
    clear hc1
    go_wp2_with fail
    refine HA.out.mono ?_
    rintro e w2 ⟨a, ha, rfl, hc2, hg2⟩
    have HB := Lib.hid (below_any c A len cap z 2 w2 hc2 (by decide) (by decide))
    have Hg2 := Lib.hid (grown_trans Hg1.out hg2)
    clear hg2 hc2 HA Hg1
    go_wp2_with fail
    refine HB.out.mono ?_
    rintro e w3 ⟨b, hb, rfl, hc3, hg3⟩
    have Hg3 := Lib.hid (grown_trans Hg2.out hg3)
    clear hg3 HB Hg2
    have hb2 : b = 0 ∨ b = 1 := by omega
    rcases hb2 with rfl | rfl
    · clear hb
      have hdl := dec_size (1024 * (1 + a)) (by omega) (by omega)
      have HD := Lib.hid (decimal.spec_any (1024 * (1 + a)) w3 (by omega) (by omega))
      go_wp2_with fail
      refine HD.out.mono ?_
      rintro e w4 ⟨rfl, hb4⟩
      have hc4 := hc3.below hb4 hc3.lt
      have Hg4 := Lib.hid (grown_trans Hg3.out (grown_of_below hb4 (some c)))
      clear HD hc3 hb4 Hg3
      go_wp2_with fail
      refine (suf.spec_any _).mono ?_
      rintro e w5 ⟨v, rfl, hown, hb5⟩
      have hc5 := hc4.below hb5 hc4.lt
      have HP := Lib.hid (pickS_any c A len cap z _ 10 v unit.texts w5 hc5 (by decide) (by decide) rfl hc4.lt hown)
      have Hg5 := Lib.hid (grown_trans Hg4.out (grown_of_below hb5 (some c)))
      clear hc4 hb5 hc5 hown Hg4
      go_wp2_with fail
      refine HP.out.mono ?_
      rintro e w6 ⟨x, hx, rfl, hc6, hg6⟩
      have hxs := texts_size x hx
      have Hc6 := Lib.hid hc6
      have Hg6 := Lib.hid (grown_trans Hg5.out hg6)
      clear HP hx hc6 hg6 Hg5
      have hsum : ¬ 9223372036854775807 < (Lib.itoa (1024 * (1 + a))).length + x.size := by omega
      go_wp2_with fail
      go_ret
      exact ⟨_, le_two _ _ ((Lib.itoa (1024 * (1 + a))).length) rfl (by omega), rfl, Hc6.out, Hg6.out⟩
    · clear hb
      have hdl := dec_size (1024 * (1 + a) * 1024) (by omega) (by omega)
      have HD := Lib.hid (decimal.spec_any (1024 * (1 + a) * 1024) w3 (by omega) (by omega))
      go_wp2_with fail
      refine HD.out.mono ?_
      rintro e w4 ⟨rfl, hb4⟩
      have hc4 := hc3.below hb4 hc3.lt
      have Hg4 := Lib.hid (grown_trans Hg3.out (grown_of_below hb4 (some c)))
      clear HD hc3 hb4 Hg3
      go_wp2_with fail
      refine (suf.spec_any _).mono ?_
      rintro e w5 ⟨v, rfl, hown, hb5⟩
      have hc5 := hc4.below hb5 hc4.lt
      have HP := Lib.hid (pickS_any c A len cap z _ 10 v unit.texts w5 hc5 (by decide) (by decide) rfl hc4.lt hown)
      have Hg5 := Lib.hid (grown_trans Hg4.out (grown_of_below hb5 (some c)))
      clear hc4 hb5 hc5 hown Hg4
      go_wp2_with fail
      refine HP.out.mono ?_
      rintro e w6 ⟨x, hx, rfl, hc6, hg6⟩
      have hxs := texts_size x hx
      have Hc6 := Lib.hid hc6
      have Hg6 := Lib.hid (grown_trans Hg5.out hg6)
      clear HP hx hc6 hg6 Hg5
      have hsum : ¬ 9223372036854775807 < (Lib.itoa (1024 * (1 + a) * 1024)).length + x.size := by omega
      go_wp2_with fail
      go_ret
      exact ⟨_, le_two _ _ ((Lib.itoa (1024 * (1 + a) * 1024)).length) rfl (by omega), rfl, Hc6.out, Hg6.out⟩
  have e2 : (x == 2) = false := beq_eq_false_iff_ne.2 h2
  have HA := Lib.hid (below_any c A len cap z 3000 w1 hc1 (by decide) (by decide))
  clear hc1
  go_wp2_with fail
  refine HA.out.mono ?_
  rintro e w2 ⟨a, ha, rfl, hc2, hg2⟩
  have Hg2 := Lib.hid (grown_trans Hg1.out hg2)
  clear hg2 HA Hg1
  have hdl := dec_size a (by omega) (by omega)
  have HD := Lib.hid (decimal.spec_any a w2 (by omega) (by omega))
  go_wp2_with fail
  refine HD.out.mono ?_
  rintro e w3 ⟨rfl, hb3⟩
  have hc3 := hc2.below hb3 hc2.lt
  have Hg3 := Lib.hid (grown_trans Hg2.out (grown_of_below hb3 (some c)))
  clear HD hc2 hb3 Hg2
  go_wp2_with fail
  refine (suf.spec_any _).mono ?_
  rintro e w4 ⟨v, rfl, hown, hb4⟩
  have hc4 := hc3.below hb4 hc3.lt
  have HP := Lib.hid (pickS_any c A len cap z _ 10 v unit.texts w4 hc4 (by decide) (by decide) rfl hc3.lt hown)
  have Hg4 := Lib.hid (grown_trans Hg3.out (grown_of_below hb4 (some c)))
  clear hc3 hb4 hc4 hown Hg3
  go_wp2_with fail
  refine HP.out.mono ?_
  rintro e w5 ⟨x, hx, rfl, hc5, hg5⟩
  have hxs := texts_size x hx
  have Hc5 := Lib.hid hc5
  have Hg5 := Lib.hid (grown_trans Hg4.out hg5)
  clear HP hx hc5 hg5 Hg4
  have hsum : ¬ 9223372036854775807 < (Lib.itoa a).length + x.size := by omega
  go_wp2_with fail
  go_ret
  exact ⟨_, le_two _ _ ((Lib.itoa a).length) rfl (by omega), rfl, Hc5.out, Hg5.out⟩
end Go.Proofs.YtiibldfkefihlaaDoor.draw
