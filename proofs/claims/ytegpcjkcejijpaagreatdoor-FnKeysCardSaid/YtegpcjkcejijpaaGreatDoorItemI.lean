/- impl.ItemOf. -/
import Derived.Test.YtegpcjkcejijpaaGreatDoorGBare
import Derived.Test.YtegpcjkcejijpaaGreatDoorGLine
namespace Go.Proofs.YtegpcjkcejijpaaGreatDoor.line
open Go.ChangeShapes Go.WideShapes Go.ChangeAt Go.RowKit
set_option linter.unusedVariables false

theorem pre_two (s : ByteArray) (b c : UInt8) : Lib.hasPrefix s.data.toList [b, c] = decide (1 < s.size ∧ at_ s 0 = (b.toNat : Int) ∧ at_ s 1 = (c.toNat : Int)) := by
  have h := occ_two s 0 b c
  unfold Lib.occAt at h
  rw [List.drop_zero] at h
  unfold Lib.hasPrefix
  rw [Bool.eq_iff_iff, h, decide_eq_true_iff]
theorem isp_from {s : ByteArray} (h1 : 1 < s.size) (h2 : at_ s 1 = 32) : ind (s.extract 1 s.size) = 1 + ind (s.extract 2 s.size) := by
  have z1 := size_ex s 1 s.size (Nat.le_refl _)
  have z2 := size_ex s 2 s.size (Nat.le_refl _)
  have l2 := ind_le (s.extract 2 s.size)
  have hat1 : ∀ k, 1 + k < s.size → at_ (s.extract 1 s.size) k = at_ s (1 + k) := fun k h => at_ex s 1 s.size k (Nat.le_refl _) h
  have hat2 : ∀ k, 2 + k < s.size → at_ (s.extract 2 s.size) k = at_ s (2 + k) := fun k h => at_ex s 2 s.size k (Nat.le_refl _) h
  have hgo : ∀ k, k ≤ 1 + ind (s.extract 2 s.size) → k ≤ ind (s.extract 1 s.size) := by
    intro k
    induction k with
    | zero => intro _; exact Nat.zero_le _
    | succ k ih =>
      intro hk
      refine ind_go (ih (by omega)) (by omega) ?_
      rw [hat1 k (by omega)]
      cases k with
      | zero => exact h2
      | succ k =>
        have := ind_is (s := s.extract 2 s.size) (k := k) (by omega)
        rw [hat2 k (by omega)] at this
        rw [← this]
        congr 1
        omega
  refine ind_end (hgo _ (Nat.le_refl _)) ?_
  by_cases c : ind (s.extract 2 s.size) < (s.extract 2 s.size).size
  · right
    have := ind_stop c
    rw [hat2 _ (by omega)] at this
    rw [hat1 _ (by omega)]
    intro e
    apply this
    rw [← e]
    congr 1
    omega
  · left; omega
theorem trimL_two (s : ByteArray) (k : Nat) (h : 2 + k ≤ s.size) : (s.extract 2 s.size).extract k (s.size - 2) = s.extract (1 + (1 + k)) s.size := by
  apply ByteArray.ext
  apply Array.ext'
  simp only [ByteArray.data_extract, Array.toList_extract, List.extract_eq_take_drop]
  rw [List.drop_take, List.take_take, List.drop_drop]
  congr 1
  · omega
  · congr 1
    omega
theorem impl_item (s : ByteArray) (w : World) (hs : s.size ≤ 1048576) :
    Calls Tryz.prog 17 #[.string s] w fun e w' => e = .returned (.tuple #[.string (itemOf s).1, .int .i64 (itemOf s).2.1, .bool (itemOf s).2.2]) ∧ w = w' := by
  obtain ⟨R, hR⟩ : ∃ R, itemOf s = R := ⟨_, rfl⟩
  rw [hR]
  have HR := Lib.hid hR
  clear hR
  by_cases c0 : s.data.toList = [45]
  · have he : (s.toList == [45]) = true := by rw [ByteArray.toList_eq, c0]; rfl
    have H : Hid (R = (⟨#[]⟩, 0, true)) := by unfold Hid; rw [← HR.out]; exact if_pos c0
    clear HR c0
    go_enter Tryz.func17, Tryz.ntmps17
    go_wp2_with fail
    go_ret3
    exact ⟨by rw [H.out]; rfl, rfl⟩
  have he : (s.toList == [45]) = false := by rw [ByteArray.toList_eq, beq_eq_false_iff_ne]; exact c0
  have HP : Hid (∀ w, Calls Tryz.prog 50 #[.string s, .string ⟨#[45, 32]⟩] w fun e w' => e = .returned (.bool (decide (1 < s.size ∧ at_ s 0 = 45 ∧ at_ s 1 = 32))) ∧ w' = w) := by
    intro w
    have h := Tryz.strings_HasPrefix s ⟨#[45, 32]⟩ w
    rw [show (⟨#[45, 32]⟩ : ByteArray).data.toList = [45, 32] from rfl, pre_two] at h
    exact h
  by_cases c1 : 1 < s.size ∧ at_ s 0 = 45 ∧ at_ s 1 = 32
  · have H : Hid (R = (s.extract (1 + ind (s.extract 1 s.size)) s.size, ((1 + ind (s.extract 1 s.size) : Nat) : Int), true)) := by unfold Hid; rw [← HR.out]; unfold itemOf; rw [if_neg c0, if_pos c1]
    rw [decide_eq_true c1] at HP
    have HI := Lib.hid (impl_without (s.extract 2 s.size) w)
    have hz := size_ex s 2 s.size (Nat.le_refl _)
    have hl := ind_le (s.extract 2 s.size)
    have hzt := trimL_size (s.extract 2 s.size)
    have ht : trimL (s.extract 2 s.size) = s.extract (1 + (1 + ind (s.extract 2 s.size))) s.size := by
      have := trimL_two s (ind (s.extract 2 s.size)) (by omega)
      rw [← this]; unfold trimL; rw [hz]
    rw [isp_from c1.1 c1.2.2, ← ht] at H
    generalize trimL (s.extract 2 s.size) = t at HI H hzt
    generalize ind (s.extract 2 s.size) = k at H hl hzt
    rw [hz] at hl hzt
    have c2 : 2 ≤ s.size := by omega
    clear HR c0 hz ht c1
    go_enter Tryz.func17, Tryz.ntmps17
    go_wp2_with fail
    refine (HP.out _).mono ?_
    rintro e w1 ⟨rfl, rfl⟩
    clear HP
    go_wp2_with fail
    refine HI.out.mono ?_
    rintro e w1 ⟨rfl, rfl⟩
    clear HI
    go_wp2_with fail
    go_ret3
    have e : ((s.size : Int) - ((s.size - 2 - k : Nat) : Int)) = ((1 + (1 + k) : Nat) : Int) := by omega
    exact ⟨by rw [H.out]; show Ending.returned (.tuple #[.string t, .int .i64 ((s.size : Int) - ((s.size - 2 - k : Nat) : Int)), .bool true]) = _; rw [e], rfl⟩
  have H : Hid (R = (⟨#[]⟩, 0, false)) := by unfold Hid; rw [← HR.out]; unfold itemOf; rw [if_neg c0, if_neg c1]
  rw [decide_eq_false c1] at HP
  clear HR c0 c1
  go_enter Tryz.func17, Tryz.ntmps17
  go_wp2_with fail
  refine (HP.out _).mono ?_
  rintro e w1 ⟨rfl, rfl⟩
  clear HP
  go_wp2_with fail
  go_ret3
  exact ⟨by rw [H.out]; rfl, rfl⟩
end Go.Proofs.YtegpcjkcejijpaaGreatDoor.line
