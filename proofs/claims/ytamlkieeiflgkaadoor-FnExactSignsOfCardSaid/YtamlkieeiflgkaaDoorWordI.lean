/- impl.wordAt. -/
import Derived.Test.YtamlkieeiflgkaaDoorSignB
import Derived.Test.YtamlkieeiflgkaaDoorShelf
import Derived.WalkSpells
namespace Go.Proofs.YtamlkieeiflgkaaDoor.sign
open Go.ChangeShapes Go.WideShapes Go.ChangeAt Go.RowKit
set_option linter.unusedVariables false

theorem drop_list (s : ByteArray) (p : Nat) : (s.extract p s.size).data.toList = s.data.toList.drop p := by
  rw [ByteArray.data_extract, Array.toList_extract, List.extract_eq_take_drop]
  apply List.take_of_length_le
  simp
theorem pre_any (s : ByteArray) (p : Nat) (l : List UInt8) (hp : p ≤ s.size) (w : World) :
    Calls Tryd.prog 38 #[.string (s.extract p s.size), .string ⟨l.toArray⟩] w fun e w' => e = .returned (.bool (decide (Told s p l))) ∧ w = w' := by
  refine (Tryd.strings_HasPrefix _ _ w).mono ?_
  rintro e w' ⟨rfl, rfl⟩
  refine ⟨?_, rfl⟩
  have h : Lib.hasPrefix (s.extract p s.size).data.toList l = decide (Told s p l) := by
    rw [drop_list]
    unfold Lib.hasPrefix
    by_cases c : Told s p l
    · rw [decide_eq_true c]
      exact List.isPrefixOf_iff_prefix.2 ((told_iff s p l hp).1 c)
    · rw [decide_eq_false c]
      cases e : l.isPrefixOf (s.data.toList.drop p) with
      | false => rfl
      | true => exact absurd ((told_iff s p l hp).2 (List.isPrefixOf_iff_prefix.1 e)) c
  show Ending.returned (.bool (Lib.hasPrefix (s.extract p s.size).data.toList l)) = _
  rw [h]
def wordV (s : ByteArray) (p : Nat) : Int × Int := if (wordK s p).1 = 0 then (0, -1) else ((wordK s p).1, ((p + (wordK s p).2 : Nat) : Int))

/-- What is known behind k words. -/
def Seen (s : ByteArray) (p k : Nat) : Prop := (k = 0) ∨ (k = 1 ∧ ¬ Told s p trueW) ∨ (k = 2 ∧ ¬ Told s p trueW ∧ ¬ Told s p falseW) ∨ (k = 3 ∧ ¬ Told s p trueW ∧ ¬ Told s p falseW ∧ ¬ Told s p nullW)
theorem arr0 (w : World) : (Instr.index 76 (.agg #[.string ⟨#[116, 114, 117, 101]⟩, .string ⟨#[102, 97, 108, 115, 101]⟩, .string ⟨#[110, 117, 108, 108]⟩]) (.int .i64 0)).run Tryd.prog w = .ok (.string ⟨#[116, 114, 117, 101]⟩) w := by kernel_rfl
theorem arr1 (w : World) : (Instr.index 76 (.agg #[.string ⟨#[116, 114, 117, 101]⟩, .string ⟨#[102, 97, 108, 115, 101]⟩, .string ⟨#[110, 117, 108, 108]⟩]) (.int .i64 1)).run Tryd.prog w = .ok (.string ⟨#[102, 97, 108, 115, 101]⟩) w := by kernel_rfl
theorem arr2 (w : World) : (Instr.index 76 (.agg #[.string ⟨#[116, 114, 117, 101]⟩, .string ⟨#[102, 97, 108, 115, 101]⟩, .string ⟨#[110, 117, 108, 108]⟩]) (.int .i64 2)).run Tryd.prog w = .ok (.string ⟨#[110, 117, 108, 108]⟩) w := by kernel_rfl
set_option maxHeartbeats 4000000 in
set_option maxRecDepth 100000 in
theorem word_at (s : ByteArray) (p : Nat) (w : World) (hs : s.size ≤ 1048576) (hp : p ≤ s.size) :
    Calls Tryd.prog 48 #[.string s, .int .i64 p] w fun e w' => e = .returned (.tuple #[.int .i64 (wordV s p).1, .int .i64 (wordV s p).2]) ∧ w = w' := by
  have H1 : Hid (∀ w, Calls Tryd.prog 38 #[.string (s.extract p s.size), .string ⟨#[116, 114, 117, 101]⟩] w fun e w' => e = .returned (.bool (decide (Told s p trueW))) ∧ w = w') := fun w => pre_any s p trueW hp w
  have H2 : Hid (∀ w, Calls Tryd.prog 38 #[.string (s.extract p s.size), .string ⟨#[102, 97, 108, 115, 101]⟩] w fun e w' => e = .returned (.bool (decide (Told s p falseW))) ∧ w = w') := fun w => pre_any s p falseW hp w
  have H3 : Hid (∀ w, Calls Tryd.prog 38 #[.string (s.extract p s.size), .string ⟨#[110, 117, 108, 108]⟩] w fun e w' => e = .returned (.bool (decide (Told s p nullW))) ∧ w = w') := fun w => pre_any s p nullW hp w
  obtain ⟨R, hR⟩ : ∃ R, wordV s p = R := ⟨_, rfl⟩
  rw [hR]
  have HR := Lib.hid hR
  clear hR
  go_enter Tryd.func48, Tryd.ntmps48
  go_wp2_with fail
  go_loop [9] (fun i => ∃ k : Nat, i = .int .i64 k ∧ Hid (Seen s p k)) (fun i => 3 - (intOf i).toNat)
  case atStart => exact ⟨0, rfl, .inl rfl⟩
  case round =>
    obtain ⟨k, rfl, hk⟩ := hrel
    rcases hk.out with rfl | ⟨rfl, n1⟩ | ⟨rfl, n1, n2⟩ | ⟨rfl, n1, n2, n3⟩
    · by_cases c : Told s p trueW
      · have hx := arr0
        simp only [decide_eq_true c] at H1
        have HRv : Hid (R = (9, (p : Int) + 4)) := by unfold Hid; rw [← HR.out]; unfold wordV; rw [word_true c]; rfl
        have hle : p + 4 ≤ s.size := c.1
        clear HR hk c H2 H3 
        go_wp2_with fail
        refine (H1.out _).mono ?_
        rintro e w1 ⟨rfl, rfl⟩
        go_wp2_with fail
        go_ret2
        exact ⟨by rw [HRv.out]; rfl, rfl⟩
      · have hx := arr0
        simp only [decide_eq_false c] at H1
        have Hn : Hid (Seen s p 1) := .inr (.inl ⟨rfl, c⟩)
        clear hk c H2 H3 
        go_wp2_with fail
        refine (H1.out _).mono ?_
        rintro e w1 ⟨rfl, rfl⟩
        go_wp2_with fail
        go_round
        case rel => exact ⟨1, rfl, Hn⟩
        case measure => simp [intOf]
    · by_cases c : Told s p falseW
      · have hx := arr1
        simp only [decide_eq_true c] at H2
        have HRv : Hid (R = (10, (p : Int) + 5)) := by unfold Hid; rw [← HR.out]; unfold wordV; rw [word_false n1 c]; rfl
        have hle : p + 5 ≤ s.size := c.1
        clear HR hk c H1 H3 n1
        go_wp2_with fail
        refine (H2.out _).mono ?_
        rintro e w1 ⟨rfl, rfl⟩
        go_wp2_with fail
        go_ret2
        exact ⟨by rw [HRv.out]; rfl, rfl⟩
      · have hx := arr1
        simp only [decide_eq_false c] at H2
        have Hn : Hid (Seen s p 2) := .inr (.inr (.inl ⟨rfl, n1, c⟩))
        clear hk c H1 H3 n1
        go_wp2_with fail
        refine (H2.out _).mono ?_
        rintro e w1 ⟨rfl, rfl⟩
        go_wp2_with fail
        go_round
        case rel => exact ⟨2, rfl, Hn⟩
        case measure => simp [intOf]
    · by_cases c : Told s p nullW
      · have hx := arr2
        simp only [decide_eq_true c] at H3
        have HRv : Hid (R = (11, (p : Int) + 4)) := by unfold Hid; rw [← HR.out]; unfold wordV; rw [word_null n1 n2 c]; rfl
        have hle : p + 4 ≤ s.size := c.1
        clear HR hk c H1 H2 n1 n2
        go_wp2_with fail
        refine (H3.out _).mono ?_
        rintro e w1 ⟨rfl, rfl⟩
        go_wp2_with fail
        go_ret2
        exact ⟨by rw [HRv.out]; rfl, rfl⟩
      · have hx := arr2
        simp only [decide_eq_false c] at H3
        have Hn : Hid (Seen s p 3) := .inr (.inr (.inr ⟨rfl, n1, n2, c⟩))
        clear hk c H1 H2 n1 n2
        go_wp2_with fail
        refine (H3.out _).mono ?_
        rintro e w1 ⟨rfl, rfl⟩
        go_wp2_with fail
        go_round
        case rel => exact ⟨3, rfl, Hn⟩
        case measure => simp [intOf]
    · have HRv : Hid (R = (0, -1)) := by unfold Hid; rw [← HR.out]; unfold wordV; rw [word_no n1 n2 n3]; rfl
      clear HR hk n1 n2 n3 H1 H2 H3
      go_wp2_with fail
      go_ret2
      exact ⟨by rw [HRv.out]; rfl, rfl⟩
end Go.Proofs.YtamlkieeiflgkaaDoor.sign
