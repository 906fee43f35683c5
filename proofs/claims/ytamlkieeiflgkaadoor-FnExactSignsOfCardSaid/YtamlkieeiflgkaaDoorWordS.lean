/- spec.l09Word. -/
import Derived.Test.YtamlkieeiflgkaaDoorSignB
import Derived.WalkSpells
namespace Go.Proofs.YtamlkieeiflgkaaDoor.sign
open Go.ChangeShapes Go.WideShapes Go.ChangeAt Go.RowKit
set_option linter.unusedVariables false

theorem word_any (s : ByteArray) (p : Nat) (l : List UInt8) (n : Nat) (w : World) (hs : s.size ≤ 1048576) (hp : p ≤ s.size) (hn : (⟨l.toArray⟩ : ByteArray).size = n) (hn9 : n ≤ 9) :
    Calls Tryd.prog 47 #[.string s, .int .i64 p, .string ⟨l.toArray⟩] w fun e w' => e = .returned (.bool (decide (Told s p l))) ∧ w = w' := by
  have hl : l.length = n := by rw [← hn]; show _ = l.toArray.size; rw [List.size_toArray]
  have hT : Told s p l ↔ p + n ≤ s.size ∧ s.extract p (p + n) = ⟨l.toArray⟩ := by unfold Told; rw [hl]
  obtain ⟨B, hB⟩ : ∃ B : ByteArray, B = ⟨l.toArray⟩ := ⟨_, rfl⟩
  rw [← hB] at hn hT ⊢
  clear hB hl
  obtain ⟨m, hm⟩ : ∃ m : Nat, m = p + n := ⟨_, rfl⟩
  have ec : (p : Int) + (n : Int) = (m : Int) := by omega
  have hpm : p ≤ m := by omega
  have hwm : IntKind.i64.wrap (m : Int) = (m : Int) := IntWalk.i64_in _ (by omega)
  rw [← hm] at hT
  clear hm
  by_cases h : m ≤ s.size
  · by_cases h2 : s.extract p m = B
    · rw [decide_eq_true (hT.2 ⟨h, h2⟩)]
      have hx : (B.toList == B.toList) = true := by simp
      clear hT
      go_enter Tryd.func47, Tryd.ntmps47
      go_wp2_with fail
      go_ret
      exact ⟨rfl, rfl⟩
    · rw [decide_eq_false (fun e => h2 (hT.1 e).2)]
      have hx : ((s.extract p m).toList == B.toList) = false := by
        rw [beq_eq_false_iff_ne, ByteArray.toList_eq, ByteArray.toList_eq]
        intro e
        exact h2 (ByteArray.ext (Array.ext' e))
      clear hT h2
      go_enter Tryd.func47, Tryd.ntmps47
      go_wp2_with fail
      go_ret
      exact ⟨rfl, rfl⟩
  · rw [decide_eq_false (fun e => h (hT.1 e).1)]
    have h' : s.size < m := by omega
    clear hT h
    go_enter Tryd.func47, Tryd.ntmps47
    go_wp2_with fail
    go_ret
    exact ⟨rfl, rfl⟩
end Go.Proofs.YtamlkieeiflgkaaDoor.sign
