/- impl.kindAt, impl.ReadVar. -/
import Derived.Test.YtfpnhpocjelmfaaVarM
import Derived.Test.YtfpnhpocjelmfaaRows
import Derived.ProofKit
import Derived.OpenShut
namespace Go.Proofs.Ytfpnhpocjelmfaa.varint
open Go.ChangeShapes Go.WideShapes Go.ChangeAt Go.RowKit
set_option linter.unusedVariables false

theorem kind_out (s : ByteArray) (a : Int) (w : World) (hs : s.size ≤ maxLen) (h : a < 0 ∨ (s.size : Int) ≤ a) :
    Calls Try.prog 32 #[.string s, .int .i64 a] w fun e w' => e = .returned (.int .i64 0) ∧ w = w' := by
  unfold maxLen at hs
  by_cases h1 : a < 0
  · go_enter Try.func32, Try.ntmps32
    go_wp2
    all_goals go_ret
    all_goals exact ⟨rfl, rfl⟩
  · have h2 : (s.size : Int) ≤ a := by omega
    go_enter Try.func32, Try.ntmps32
    go_wp2
    all_goals go_ret
    all_goals exact ⟨rfl, rfl⟩
set_option maxRecDepth 100000 in
theorem kind_in (s : ByteArray) (k : Nat) (a : Int) (w : World) (hs : s.size ≤ maxLen) (ha : a = (k : Int)) (hk : k < s.size) (c : Int)
    (hc : (128 ≤ at_ s k ∧ c = 1) ∨ (at_ s k < 128 ∧ at_ s k ≠ 0 ∧ c = 2) ∨ (at_ s k = 0 ∧ c = 3)) :
    Calls Try.prog 32 #[.string s, .int .i64 a] w fun e w' => e = .returned (.int .i64 c) ∧ w = w' := by
  subst ha
  unfold maxLen at hs
  have e := at_eq s k hk
  have hb := at_bd s k
  rcases hc with ⟨h1, rfl⟩ | ⟨h1, h2, rfl⟩ | ⟨h1, rfl⟩
  · go_enter Try.func32, Try.ntmps32
    go_wp2
    all_goals go_ret
    all_goals exact ⟨rfl, rfl⟩
  · have h3 : (at_ s k == 0) = false := by simpa using h2
    go_enter Try.func32, Try.ntmps32
    go_wp2
    all_goals go_ret
    all_goals exact ⟨rfl, rfl⟩
  · have h3 : (at_ s k == 0) = true := by simpa using h1
    go_enter Try.func32, Try.ntmps32
    go_wp2
    all_goals go_ret
    all_goals exact ⟨rfl, rfl⟩

theorem u8_and127 (x : Int) (h0 : 0 ≤ x) (h1 : x < 256) : bits .and .u8 x 127 = x % 128 := bits_mask .u8 8 (by decide) wraps_u8 7 (by decide) x h0 h1
def pair (r : Int × Int) : Value := .tuple #[.int .i64 r.1, .int .i64 r.2]

set_option maxRecDepth 100000 in
theorem impl_read (s : ByteArray) (a : Int) (w : World) (hs : s.size ≤ maxLen) (ha : -9223372036854775808 ≤ a ∧ a ≤ 9223372036854775807) :
    Calls Try.prog 15 #[.string s, .int .i64 a] w fun e w' => e = .returned (pair (readF s a)) ∧ Below w.heap.size w w' := by
  have hm := hs
  unfold maxLen at hm
  have HO := Lib.hid (fun a w => kind_out s a w hs)
  have HI := Lib.hid (fun k a w => kind_in s k a w hs)
  go_enter Try.func15, Try.ntmps15
  go_wp2_with fail
  go_loop [6, 9] (fun v j => ∃ i : Nat, i ≤ 9 ∧ j = .int .i64 i ∧ v = .int .i64 (val s a.toNat i) ∧ (0 < i → 0 ≤ a ∧ a + i ≤ s.size) ∧ Hid (∀ p : Nat, a = (p : Int) → readF s a = look s p (9 - i) i)) (fun _ j => 9 - (intOf j).toNat)
  case atStart => exact ⟨0, Nat.zero_le _, rfl, rfl, fun h => absurd h (by omega), fun p hp => by rw [hp]; exact readF_nat s p⟩
  case round =>
    obtain ⟨i, hi, rfl, rfl, hpos, hr⟩ := hrel
    by_cases h9 : i < 9
    case neg =>
      obtain rfl : i = 9 := by omega
      have hp := hpos (by decide)
      obtain ⟨p, rfl⟩ := Int.eq_ofNat_of_zero_le hp.1
      have Hr : Hid (readF s p = (0, -1)) := hr.out p rfl
      clear hr hpos hp HO HI
      go_wp2_with fail
      go_ret2
      exact ⟨by rw [Hr.out]; rfl, Below.refl _ _⟩
    by_cases hin : 0 ≤ a ∧ a + i < s.size
    case neg =>
      have Hr : Hid (readF s a = (0, -1)) := by
        by_cases h0 : a < 0
        · exact readF_neg h0
        · obtain ⟨p, rfl⟩ := Int.eq_ofNat_of_zero_le (by omega : 0 ≤ a)
          exact (hr.out p rfl).trans (look_out _ (by omega))
      have K := Lib.hid (fun w => HO.out (a + i) w (by omega))
      have hb2 : -9223372036854775808 ≤ a + i ∧ a + i ≤ 9223372036854775807 := by omega
      clear hr hpos HO HI hin
      go_wp2_with fail
      refine (K.out _).mono ?_
      rintro e w1 ⟨rfl, rfl⟩
      go_wp2_with fail
      go_ret2
      exact ⟨by rw [Hr.out]; rfl, Below.refl _ _⟩
    obtain ⟨p, rfl⟩ := Int.eq_ofNat_of_zero_le hin.1
    have hpi : p + i < s.size := by omega
    have hr2 := hr.out p rfl
    obtain ⟨f, hf⟩ : ∃ f, 9 - i = f + 1 := ⟨8 - i, by omega⟩
    rw [hf] at hr2
    have hbd := at_bd s (p + i)
    have eat := at_eq s (p + i) hpi
    have eand := u8_and127 (at_ s (p + i)) hbd.1 hbd.2
    have esh : (7 * (i : Int)).toNat = 7 * i := by omega
    have eor := val_or s p i h9
    obtain ⟨r0, r1, r2, r3⟩ := val_room s p i h9
    have etn : (p : Int).toNat = p := Int.toNat_natCast p
    clear hr hpos HO hin
    by_cases hmore : 128 ≤ at_ s (p + i)
    · have K := Lib.hid (fun w => HI.out (p + i) ((p : Int) + i) w (by omega) hpi 1 (.inl ⟨hmore, rfl⟩))
      rw [look_more hpi (by omega)] at hr2
      have Hr2 := Lib.hid hr2
      clear hr2 HI
      go_wp2_with fail
      refine (K.out _).mono ?_
      rintro e w1 ⟨rfl, rfl⟩
      clear K
      go_wp2_with fail
      go_round
      case rel => exact ⟨i + 1, by omega, by go_num, rfl, fun _ => by omega, fun p2 hp2 => by
        obtain rfl : p2 = p := by omega
        have : 9 - (i + 1) = f := by omega
        rw [this]
        exact Hr2.out⟩
      case measure => simp [intOf]; omega
    by_cases hz : at_ s (p + i) = 0
    · have K := Lib.hid (fun w => HI.out (p + i) ((p : Int) + i) w (by omega) hpi 3 (.inr (.inr ⟨hz, rfl⟩)))
      by_cases h0 : 0 < i
      · rw [look_long hpi h0 hz] at hr2
        have Hr2 := Lib.hid hr2
        clear hr2 HI
        go_wp2_with fail
        refine (K.out _).mono ?_
        rintro e w1 ⟨rfl, rfl⟩
        clear K
        go_wp2_with fail
        go_ret2
        exact ⟨by rw [Hr2.out]; rfl, Below.refl _ _⟩
      · rw [look_last hpi (by omega) (by omega)] at hr2
        have Hr2 := Lib.hid hr2
        clear hr2 HI hz
        go_wp2_with fail
        refine (K.out _).mono ?_
        rintro e w1 ⟨rfl, rfl⟩
        clear K
        go_wp2_with fail
        go_ret2
        exact ⟨by rw [Hr2.out]; rfl, Below.refl _ _⟩
    · have K := Lib.hid (fun w => HI.out (p + i) ((p : Int) + i) w (by omega) hpi 2 (.inr (.inl ⟨by omega, hz, rfl⟩)))
      rw [look_last hpi (by omega) (by omega)] at hr2
      have Hr2 := Lib.hid hr2
      clear hr2 HI
      go_wp2_with fail
      refine (K.out _).mono ?_
      rintro e w1 ⟨rfl, rfl⟩
      clear K
      go_wp2_with fail
      go_ret2
      exact ⟨by rw [Hr2.out]; rfl, Below.refl _ _⟩
end Go.Proofs.Ytfpnhpocjelmfaa.varint
