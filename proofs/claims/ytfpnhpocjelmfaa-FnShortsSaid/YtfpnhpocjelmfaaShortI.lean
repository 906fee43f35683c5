/- impl.ShortText, impl.ReadShort. -/
import Derived.Test.YtfpnhpocjelmfaaShortM
import Derived.Test.YtfpnhpocjelmfaaVarI
import Derived.Test.YtfpnhpocjelmfaaReadVarI
namespace Go.Proofs.Ytfpnhpocjelmfaa.short
open Go.ChangeShapes Go.WideShapes Go.ChangeAt Go.RowKit
open varint
set_option linter.unusedVariables false

theorem impl_short (s : ByteArray) (w : World) (hs : s.size ≤ maxLen) (hsz : s.size ≤ 9223372036854775000) :
    Calls Try.prog 19 #[.string s] w fun e w' => e = .returned (.string (shortF s)) ∧ Below w.heap.size w w' := by
  have HV := Lib.hid (fun w => varint.impl_any (s.size : Int) w (by omega))
  have h9 := varF_size (n := (s.size : Int)) (by omega)
  generalize hF : shortF s = F
  unfold shortF at hF
  generalize varF (s.size : Int) = v at HV h9 hF
  have HF := Lib.hid hF
  have hsum : ¬ 9223372036854775807 < v.size + s.size := by omega
  clear hF
  go_enter Try.func19, Try.ntmps19
  go_wp2_with fail
  refine (HV.out _).mono ?_
  rintro e w1 ⟨rfl, hb⟩
  clear HV
  go_wp2_with fail
  go_ret
  exact ⟨by rw [← HF.out]; rfl, hb⟩

theorem impl_read (s : ByteArray) (a : Int) (w : World) (hs : s.size ≤ maxLen) (ha : -9223372036854775808 ≤ a ∧ a ≤ 9223372036854775807) :
    Calls Try.prog 18 #[.string s, .int .i64 a] w fun e w' => e = .returned (.tuple #[.string (readS s a).1, .int .i64 (readS s a).2]) ∧ Below w.heap.size w w' := by
  have hm := hs
  unfold maxLen at hm
  have HV := Lib.hid (fun w => varint.impl_read s a w hs ha)
  unfold varint.pair at HV
  generalize hF : readS s a = F
  unfold readS at hF
  have hbd := readF_bd s a
  generalize readF s a = r at HV hF hbd
  obtain ⟨n, t⟩ := r
  have hbd2 : (n = 0 ∧ t = -1) ∨ (0 ≤ n ∧ n ≤ 9223372036854775807 ∧ 0 < t ∧ t ≤ s.size) := by
    rcases hbd with h | h
    · injection h with h1 h2; exact .inl ⟨h1, h2⟩
    · exact .inr h
  have HN : Hid ((t < 0 ∨ s.size - t < n) → F = (⟨#[]⟩, -1)) := fun h => hF.symm.trans (rest_no h)
  have HY : Hid (¬ (t < 0 ∨ s.size - t < n) → F = (s.extract t.toNat (t + n).toNat, t + n)) := fun h => hF.symm.trans (rest_yes h)
  clear hF hbd
  by_cases h1 : t < 0
  · have Hr := Lib.hid (HN.out (.inl h1))
    clear HN HY hbd2
    go_enter Try.func18, Try.ntmps18
    go_wp2_with fail
    refine (HV.out _).mono ?_
    rintro e w1 ⟨rfl, hb⟩
    clear HV
    go_wp2_with fail
    go_ret2
    exact ⟨by rw [Hr.out]; rfl, hb⟩
  have h3 : 0 ≤ n ∧ n ≤ 9223372036854775807 ∧ 0 < t ∧ t ≤ s.size := by omega
  by_cases h2 : s.size - t < n
  · have Hr := Lib.hid (HN.out (.inr h2))
    clear HN HY hbd2
    go_enter Try.func18, Try.ntmps18
    go_wp2_with fail
    refine (HV.out _).mono ?_
    rintro e w1 ⟨rfl, hb⟩
    clear HV
    go_wp2_with fail
    go_ret2
    exact ⟨by rw [Hr.out]; rfl, hb⟩
  · have Hr := Lib.hid (HY.out (by omega))
    obtain ⟨u, rfl⟩ := Int.eq_ofNat_of_zero_le (by omega : 0 ≤ t)
    obtain ⟨k, rfl⟩ := Int.eq_ofNat_of_zero_le h3.1
    obtain ⟨m, hm2⟩ : ∃ m, u + k = m := ⟨_, rfl⟩
    have ec : (u : Int) + (k : Int) = (m : Int) := by omega
    have hum : u ≤ m := by omega
    have hms : m ≤ s.size := by omega
    have e1 : ((u : Int)).toNat = u := by omega
    have e2 : ((m : Int)).toNat = m := by omega
    have hr2 := Hr.out
    rw [ec, e1, e2] at hr2
    have Hr2 := Lib.hid hr2
    clear HN HY hbd2 Hr hr2 hm2 e1 e2
    go_enter Try.func18, Try.ntmps18
    go_wp2_with fail
    refine (HV.out _).mono ?_
    rintro e w1 ⟨rfl, hb⟩
    clear HV
    go_wp2_with fail
    go_ret2
    exact ⟨by rw [Hr2.out]; rfl, hb⟩
end Go.Proofs.Ytfpnhpocjelmfaa.short
