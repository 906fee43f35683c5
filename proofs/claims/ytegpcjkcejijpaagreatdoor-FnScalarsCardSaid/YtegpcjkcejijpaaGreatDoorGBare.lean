/- Merged: BareI WoI. -/
import Derived.Test.YtegpcjkcejijpaaGreatDoorGLine
import Derived.Test.YtegpcjkcejijpaaGreatDoorShelf
namespace Go.Proofs.YtegpcjkcejijpaaGreatDoor.line
open Go.ChangeShapes Go.WideShapes Go.ChangeAt Go.RowKit
set_option linter.unusedVariables false

theorem impl_close (s : ByteArray) (i : Nat) (w : World) (hs : s.size ≤ 1048576) (hi : i ≤ s.size) :
    Calls Tryz.prog 154 #[.string s, .int .i64 i] w fun e w' => e = .returned (.int .i64 (cq s i)) ∧ w = w' := by
  go_enter Tryz.func154, Tryz.ntmps154
  go_wp2_with fail
  go_loop [1] (fun i' => ∃ k : Nat, i' = .int .i64 k ∧ k ≤ s.size + 1 ∧ Hid (cq s k = cq s i)) (fun i' => s.size + 1 - (intOf i').toNat)
  case atStart => exact ⟨i, rfl, by omega, rfl⟩
  case round =>
    obtain ⟨k, rfl, hk, hc⟩ := hrel
    by_cases hlt : k < s.size
    · have hat := at_eq s k hlt
      by_cases c1 : at_ s k = 34
      · have HR : Hid (cq s i = k) := by unfold Hid; rw [← hc.out]; exact cq_end (.inr c1)
        rw [c1] at hat
        clear hc c1
        go_wp2_with fail
        go_ret
        exact ⟨by rw [HR.out]; rfl, rfl⟩
      have b1 : (at_ s k != 34) = true := by rw [bne, beq_eq_false_iff_ne.2 c1]; rfl
      by_cases c2 : at_ s k = 92
      · have HR : Hid (cq s (k + 2) = cq s i) := by unfold Hid; rw [← hc.out]; exact (cq_skip hlt c2).symm
        rw [c2] at hat
        clear hc c1 c2 b1
        go_wp2_with fail
        go_round
        case rel => exact ⟨k + 2, by go_num, by omega, HR⟩
        case measure => simp [intOf]; omega
      · have HR : Hid (cq s (k + 1) = cq s i) := by unfold Hid; rw [← hc.out]; exact (cq_on hlt c2 c1).symm
        have b2 : (at_ s k == 92) = false := beq_eq_false_iff_ne.2 c2
        clear hc c1 c2
        go_wp2_with fail
        go_round
        case rel => exact ⟨k + 1, by go_num, by omega, HR⟩
        case measure => simp [intOf]; omega
    · have HR : Hid (cq s i = k) := by unfold Hid; rw [← hc.out]; exact cq_end (.inl (by omega))
      clear hc
      go_wp2_with fail
      go_ret
      exact ⟨by rw [HR.out]; rfl, rfl⟩

theorem fresh_not {s : ByteArray} {p : Nat} (h1 : at_ s p ≠ 32) : ¬ fresh s (p + 1) := by
  rintro (h | h)
  · omega
  · exact h1 h
set_option maxHeartbeats 4000000 in
set_option maxRecDepth 100000 in
theorem impl_com (s : ByteArray) (w : World) (hs : s.size ≤ 1048576) :
    Calls Tryz.prog 114 #[.string s] w fun e w' => e = .returned (.int .i64 (com s)) ∧ w = w' := by
  go_enter Tryz.func114, Tryz.ntmps114
  go_wp2_with fail
  go_loop [3] (fun i => ∃ n : Nat, i = .int .i64 n ∧ n ≤ s.size + 2 ∧ Hid (cmt s n false = com s)) (fun i => s.size + 2 - (intOf i).toNat)
  case atStart => exact ⟨0, rfl, by omega, rfl⟩
  case round =>
    obtain ⟨n, rfl, hn, hc⟩ := hrel
    by_cases hlt : n < s.size
    · have hat := at_eq s n hlt
      have hQ : Hid (∀ w, Calls Tryz.prog 154 #[.string s, .int .i64 ((n : Int) + 1)] w fun e w' => e = .returned (.int .i64 (cq s (n + 1))) ∧ w = w') := by
        intro w
        have := impl_close s (n + 1) w hs (by omega)
        simpa using this
      have hq := cq_le s _ (n + 1) (Nat.le_refl _) (by omega)
      have hqq : Hid (cmt s (n + 1) true = cmt s (cq s (n + 1) + 1) false) := cmt_cq s _ (n + 1) (Nat.le_refl _)
      generalize cq s (n + 1) = q at hQ hq hqq
      have hcase : (fresh s n ∧ at_ s n = 34) ∨ (fresh s n ∧ at_ s n = 35) ∨ (fresh s n ∧ at_ s n ≠ 34 ∧ at_ s n ≠ 35) ∨ (¬ fresh s n) := by
        by_cases h0 : fresh s n
        · by_cases h1 : at_ s n = 34
          · exact .inl ⟨h0, h1⟩
          by_cases h2 : at_ s n = 35
          · exact .inr (.inl ⟨h0, h2⟩)
          · exact .inr (.inr (.inl ⟨h0, h1, h2⟩))
        · exact .inr (.inr (.inr h0))
      rcases hcase with ⟨h0, h1⟩ | ⟨h0, h1⟩ | ⟨h0, h1, h2⟩ | h0
      · have HR : Hid (cmt s (q + 1) false = com s) := by unfold Hid; rw [← hc.out, cmt_open hlt h0 h1]; exact hqq.out.symm
        clear hc hqq
        rw [h1] at hat
        rcases h0 with rfl | h0
        · clear h1
          go_wp2_with fail
          refine (hQ.out _).mono ?_
          rintro e w1 ⟨rfl, rfl⟩
          clear hQ
          go_wp2_with fail
          go_round
          case rel => exact ⟨q + 1, by go_num, by omega, HR⟩
          case measure => simp [intOf] <;> omega
        · obtain rfl | ⟨p, rfl⟩ : n = 0 ∨ ∃ p, n = p + 1 := by
            cases n with
            | zero => exact .inl rfl
            | succ p => exact .inr ⟨p, rfl⟩
          · exfalso; simp at h0; omega
          have hp : p < s.size := by omega
          have hat2 := at_eq s p hp
          have h3 : at_ s p = 32 := by simpa using h0
          rw [h3] at hat2
          clear h1 h0 h3
          go_wp2_with fail
          refine (hQ.out _).mono ?_
          rintro e w1 ⟨rfl, rfl⟩
          clear hQ
          go_wp2_with fail
          go_round
          case rel => exact ⟨q + 1, by go_num, by omega, HR⟩
          case measure => simp [intOf] <;> omega
      · have HR : Hid (com s = n) := by unfold Hid; rw [← hc.out, cmt_here hlt h0 h1]
        clear hc hqq hQ
        rw [h1] at hat
        rcases h0 with rfl | h0
        · clear h1
          go_wp2_with fail
          go_ret
          exact ⟨by rw [HR.out]; rfl, rfl⟩
        · obtain rfl | ⟨p, rfl⟩ : n = 0 ∨ ∃ p, n = p + 1 := by
            cases n with
            | zero => exact .inl rfl
            | succ p => exact .inr ⟨p, rfl⟩
          · exfalso; simp at h0; omega
          have hp : p < s.size := by omega
          have hat2 := at_eq s p hp
          have h3 : at_ s p = 32 := by simpa using h0
          rw [h3] at hat2
          clear h1 h0 h3
          go_wp2_with fail
          go_ret
          exact ⟨by rw [HR.out]; rfl, rfl⟩
      · have HR : Hid (cmt s (n + 1) false = com s) := by unfold Hid; rw [← hc.out, cmt_on hlt (fun h => h1 h.2) (fun h => h2 h.2)]
        clear hc hqq hQ
        have b1 : (at_ s n == 34) = false := beq_eq_false_iff_ne.2 h1
        have b2 : (at_ s n == 35) = false := beq_eq_false_iff_ne.2 h2
        rcases h0 with rfl | h0
        · clear h1 h2
          go_wp2_with fail
          go_round
          case rel => exact ⟨1, by go_num, by omega, HR⟩
          case measure => simp [intOf] <;> omega
        · obtain rfl | ⟨p, rfl⟩ : n = 0 ∨ ∃ p, n = p + 1 := by
            cases n with
            | zero => exact .inl rfl
            | succ p => exact .inr ⟨p, rfl⟩
          · have h3 : at_ s 0 = 32 := by simpa using h0
            clear h0 h1 h2 b1 b2
            rw [h3] at hat
            clear h3
            go_wp2_with fail
            go_round
            case rel => exact ⟨1, by go_num, by omega, HR⟩
            case measure => simp [intOf] <;> omega
          have hp : p < s.size := by omega
          have hat2 := at_eq s p hp
          have h3 : at_ s p = 32 := by simpa using h0
          rw [h3] at hat2
          clear h1 h0 h3 h2
          go_wp2_with fail
          go_round
          case rel => exact ⟨p + 2, by go_num, by omega, HR⟩
          case measure => simp [intOf] <;> omega
      · have HR : Hid (cmt s (n + 1) false = com s) := by unfold Hid; rw [← hc.out, cmt_on hlt (fun h => h0 h.1) (fun h => h0 h.1)]
        clear hc hqq hQ
        obtain rfl | ⟨p, rfl⟩ : n = 0 ∨ ∃ p, n = p + 1 := by
          cases n with
          | zero => exact .inl rfl
          | succ p => exact .inr ⟨p, rfl⟩
        · exact absurd (.inl rfl) h0
        have hp : p < s.size := by omega
        have hat2 := at_eq s p hp
        have h3 : (at_ s p != 32) = true := by
          rw [bne, beq_eq_false_iff_ne.2 (fun e => h0 (.inr (by simpa using e)))]; rfl
        clear h0
        go_wp2_with fail
        go_round
        case rel => exact ⟨p + 2, by go_num, by omega, HR⟩
        case measure => simp [intOf] <;> omega
    · have HR : Hid (com s = s.size) := by unfold Hid; rw [← hc.out]; exact cmt_out (by omega)
      clear hc
      go_wp2_with fail
      go_ret
      exact ⟨by rw [HR.out]; rfl, rfl⟩
theorem impl_bare (s : ByteArray) (w : World) (hs : s.size ≤ 1048576) :
    Calls Tryz.prog 59 #[.string s] w fun e w' => e = .returned (.string (bare s)) ∧ w = w' := by
  have HC := Lib.hid (impl_com s w hs)
  have hl := com_le s
  have HT := Lib.hid (Tryz.strings_TrimRight_one (s.extract 0 (com s)) 32 (by decide) w (by rw [size_ex _ _ _ hl]; omega))
  rw [trimR_is s (com s) hl] at HT
  have Hb : Hid (s.extract 0 (rt s (com s)) = bare s) := rfl
  generalize s.extract 0 (rt s (com s)) = b at HT Hb
  generalize com s = c at HC HT hl
  go_enter Tryz.func59, Tryz.ntmps59
  go_wp2_with fail
  refine HC.out.mono ?_
  rintro e w1 ⟨rfl, rfl⟩
  clear HC
  go_wp2_with fail
  refine HT.out.mono ?_
  rintro e w1 ⟨rfl, rfl⟩
  clear HT
  go_wp2_with fail
  go_ret
  exact ⟨by rw [← Hb.out]; rfl, rfl⟩
end Go.Proofs.YtegpcjkcejijpaaGreatDoor.line
namespace Go.Proofs.YtegpcjkcejijpaaGreatDoor.line
open Go.ChangeShapes Go.WideShapes Go.ChangeAt Go.RowKit
set_option linter.unusedVariables false

theorem impl_without (s : ByteArray) (w : World) :
    Calls Tryz.prog 48 #[.string s] w fun e w' => e = .returned (.string (trimL s)) ∧ w = w' := by
  have HT := Lib.hid (Tryz.strings_TrimLeft_one s 32 (by decide) w)
  rw [← trimL_is] at HT
  go_enter Tryz.func48, Tryz.ntmps48
  go_wp2_with fail
  refine HT.out.mono ?_
  rintro e w1 ⟨rfl, rfl⟩
  clear HT
  go_wp2_with fail
  go_ret
  exact ⟨rfl, rfl⟩
end Go.Proofs.YtegpcjkcejijpaaGreatDoor.line
