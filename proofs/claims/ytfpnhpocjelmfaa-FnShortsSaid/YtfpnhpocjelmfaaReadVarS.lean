/- spec.ReadVar. -/
import Derived.Test.YtfpnhpocjelmfaaVarM
import Derived.Test.YtfpnhpocjelmfaaInS
namespace Go.Proofs.Ytfpnhpocjelmfaa.varint
open Go.ChangeShapes Go.WideShapes Go.ChangeAt Go.RowKit
set_option linter.unusedVariables false

def pairS (r : Int × Int) : Value := .tuple #[.int .i64 r.1, .int .i64 r.2]

theorem spec_read_out (s : ByteArray) (a : Int) (w : World) (hs : s.size ≤ maxLen) (h : a < 0 ∨ (s.size : Int) - 1 < a) :
    Calls Try.prog 26 #[.string s, .int .i64 a] w fun e w' => e = .returned (.tuple #[.int .i64 0, .int .i64 (-1)]) ∧ Below w.heap.size w w' := by
  unfold maxLen at hs
  have HI := Lib.hid (arith.in_no a 0 ((s.size : Int) - 1) w h)
  clear h
  go_enter Try.func26, Try.ntmps26
  go_wp2_with fail
  refine HI.out.mono ?_
  rintro e w1 ⟨rfl, rfl⟩
  go_wp2_with fail
  go_ret2
  exact ⟨rfl, Below.refl _ _⟩

set_option maxRecDepth 100000 in
theorem spec_read_in (s : ByteArray) (p : Nat) (w : World) (hs : s.size ≤ maxLen) (hp : p < s.size) :
    Calls Try.prog 26 #[.string s, .int .i64 p] w fun e w' => e = .returned (pairS (look s p 9 0)) ∧ Below w.heap.size w w' := by
  unfold maxLen at hs
  have HI := Lib.hid (arith.in_yes p 0 ((s.size : Int) - 1) w (by omega) (by omega))
  generalize hres : look s p 9 0 = res
  have Hres := Lib.hid hres
  clear hres
  go_enter Try.func26, Try.ntmps26
  go_wp2_with fail
  refine HI.out.mono ?_
  rintro e w1 ⟨rfl, rfl⟩
  clear HI
  go_wp2_with fail
  go_loop [6, 7] (fun v j => ∃ i : Nat, i ≤ 9 ∧ j = .int .i64 i ∧ v = .int .i64 (val s p i) ∧ p + i ≤ s.size ∧ Hid (res = look s p (9 - i) i)) (fun _ j => 9 - (intOf j).toNat)
  case atStart => exact ⟨0, Nat.zero_le _, rfl, rfl, by omega, Hres.out.symm⟩
  case round =>
    clear Hres
    obtain ⟨i, hi, rfl, rfl, hpos, hr⟩ := hrel
    by_cases h9 : i < 9
    case neg =>
      obtain rfl : i = 9 := by omega
      have Hr : Hid (res = (0, -1)) := hr.out
      clear hr
      go_wp2_with fail
      go_ret2
      exact ⟨by rw [Hr.out]; rfl, Below.refl _ _⟩
    by_cases hpi : p + i < s.size
    case neg =>
      have Hr : Hid (res = (0, -1)) := hr.out.trans (look_out _ hpi)
      clear hr
      go_wp2_with fail
      go_ret2
      exact ⟨by rw [Hr.out]; rfl, Below.refl _ _⟩
    have hr2 := hr.out
    obtain ⟨f, hf⟩ : ∃ f, 9 - i = f + 1 := ⟨8 - i, by omega⟩
    rw [hf] at hr2
    have hbd := at_bd s (p + i)
    have eat := at_eq s (p + i) hpi
    have esh : (7 * (i : Int)).toNat = 7 * i := by omega
    have emod : (at_ s (p + i)).tmod 128 = at_ s (p + i) % 128 := Int.tmod_eq_emod_of_nonneg (by omega)
    have euw : IntKind.u64.wrap (i : Int) = (i : Int) := IntWalk.u64_in _ (by omega)
    have euw2 : IntKind.u64.wrap (7 * (i : Int)) = 7 * (i : Int) := IntWalk.u64_in _ (by omega)
    obtain ⟨r0, r1, r2, r3⟩ := val_room s p i h9
    have eadd := (val_succ s p i).symm
    clear hr
    by_cases hmore : 128 ≤ at_ s (p + i)
    · rw [look_more hpi (by omega)] at hr2
      have Hr2 := Lib.hid hr2
      clear hr2
      go_wp2_with fail
      go_round
      case rel => exact ⟨i + 1, by omega, by go_num, rfl, by omega, by
        have : 9 - (i + 1) = f := by omega
        rw [this]
        exact Hr2.out⟩
      case measure => simp [intOf]; omega
    by_cases hz : 0 < i ∧ at_ s (p + i) = 0
    · rw [look_long hpi hz.1 hz.2] at hr2
      have Hr2 := Lib.hid hr2
      have h0 := hz.1
      have h1 : (at_ s (p + i) == 0) = true := by simpa using hz.2
      clear hr2 hz
      go_wp2_with fail
      go_ret2
      exact ⟨by rw [Hr2.out]; rfl, Below.refl _ _⟩
    · rw [look_last hpi (by omega) hz] at hr2
      have Hr2 := Lib.hid hr2
      clear hr2
      by_cases h0 : 0 < i
      · have h1 : (at_ s (p + i) == 0) = false := by simp; omega
        clear hz
        go_wp2_with fail
        go_ret2
        exact ⟨by rw [Hr2.out]; rfl, Below.refl _ _⟩
      · clear hz
        go_wp2_with fail
        go_ret2
        exact ⟨by rw [Hr2.out]; rfl, Below.refl _ _⟩
theorem spec_read (s : ByteArray) (a : Int) (w : World) (hs : s.size ≤ maxLen) :
    Calls Try.prog 26 #[.string s, .int .i64 a] w fun e w' => e = .returned (pairS (readF s a)) ∧ Below w.heap.size w w' := by
  by_cases h : 0 ≤ a ∧ a < s.size
  · obtain ⟨p, rfl⟩ := Int.eq_ofNat_of_zero_le h.1
    rw [readF_nat]
    exact spec_read_in s p w hs (by omega)
  · rw [readF_out h]
    exact spec_read_out s a w hs (by omega)
end Go.Proofs.Ytfpnhpocjelmfaa.varint
