/- spec.ItemOf. -/
import Derived.Test.YtnaeanhcmpmojaaDoorIndS
import Derived.Test.YtnaeanhcmpmojaaDoorPlainM
namespace Go.Proofs.YtnaeanhcmpmojaaDoor.line
open Go.ChangeShapes Go.WideShapes Go.ChangeAt Go.RowKit
set_option linter.unusedVariables false

theorem dash_size {s : ByteArray} (h : s.data.toList = [45]) : s.size = 1 := by rw [← len_list, h]; rfl
theorem spec_item (s : ByteArray) (w : World) (hs : s.size ≤ 1048576) :
    Calls Tryd.prog 25 #[.string s] w fun e w' => e = .returned (.tuple #[.string (itemOf s).1, .int .i64 (itemOf s).2.1, .bool (itemOf s).2.2]) ∧ w = w' := by
  obtain ⟨R, hR⟩ : ∃ R, itemOf s = R := ⟨_, rfl⟩
  rw [hR]
  have HR := Lib.hid hR
  clear hR
  by_cases c0 : s.data.toList = [45]
  · have he : (s.toList == [45]) = true := by rw [ByteArray.toList_eq, c0]; rfl
    have H : Hid (R = (⟨#[]⟩, 0, true)) := by unfold Hid; rw [← HR.out]; exact if_pos c0
    clear HR c0
    go_enter Tryd.func25, Tryd.ntmps25
    go_wp2_with fail
    go_ret3
    exact ⟨by rw [H.out]; rfl, rfl⟩
  have he : (s.toList == [45]) = false := by rw [ByteArray.toList_eq, beq_eq_false_iff_ne]; exact c0
  by_cases c1 : 1 < s.size ∧ at_ s 0 = 45 ∧ at_ s 1 = 32
  · have H : Hid (R = (s.extract (1 + ind (s.extract 1 s.size)) s.size, ((1 + ind (s.extract 1 s.size) : Nat) : Int), true)) := by unfold Hid; rw [← HR.out]; unfold itemOf; rw [if_neg c0, if_pos c1]
    have hl := ind_le (s.extract 1 s.size)
    have hz := size_ex s 1 s.size (Nat.le_refl _)
    have HI := Lib.hid (spec_ind (s.extract 1 s.size) w (by rw [hz]; unfold maxLen; omega))
    generalize ind (s.extract 1 s.size) = k at HI H hl
    rw [hz] at hl
    obtain ⟨c1, c2, c3⟩ := c1
    have h0 := at_eq s 0 (by omega)
    have h1 := at_eq s 1 c1
    rw [c2] at h0
    rw [c3] at h1
    have hk : 1 + k ≤ s.size := by omega
    have hn : ¬ s.size < 2 := by omega
    clear HR c0 c2 c3 hz
    go_enter Tryd.func25, Tryd.ntmps25
    go_wp2_with fail
    refine HI.out.mono ?_
    rintro e w1 ⟨rfl, rfl⟩
    clear HI
    go_wp2_with fail
    go_ret3
    exact ⟨by rw [H.out]; rfl, rfl⟩
  have H : Hid (R = (⟨#[]⟩, 0, false)) := by unfold Hid; rw [← HR.out]; unfold itemOf; rw [if_neg c0, if_neg c1]
  clear HR c0
  by_cases d1 : s.size < 2
  · clear c1
    go_enter Tryd.func25, Tryd.ntmps25
    go_wp2_with fail
    go_ret3
    exact ⟨by rw [H.out]; rfl, rfl⟩
  have h0 := at_eq s 0 (by omega)
  have h1 := at_eq s 1 (by omega)
  by_cases d2 : at_ s 0 = 45
  · have d3 : (at_ s 1 != 32) = true := by rw [bne, beq_eq_false_iff_ne.2 (fun e => c1 ⟨by omega, d2, e⟩)]; rfl
    rw [d2] at h0
    clear c1 d2
    go_enter Tryd.func25, Tryd.ntmps25
    go_wp2_with fail
    go_ret3
    exact ⟨by rw [H.out]; rfl, rfl⟩
  · have d3 : (at_ s 0 != 45) = true := by rw [bne, beq_eq_false_iff_ne.2 d2]; rfl
    clear c1 d2
    go_enter Tryd.func25, Tryd.ntmps25
    go_wp2_with fail
    go_ret3
    exact ⟨by rw [H.out]; rfl, rfl⟩
end Go.Proofs.YtnaeanhcmpmojaaDoor.line
