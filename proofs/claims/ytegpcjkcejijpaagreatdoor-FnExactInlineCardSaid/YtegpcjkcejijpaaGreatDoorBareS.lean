/- spec.BareLine. -/
import Derived.Test.YtegpcjkcejijpaaGreatDoorGLine
import Derived.Test.YtegpcjkcejijpaaGreatDoorRows
namespace Go.Proofs.YtegpcjkcejijpaaGreatDoor.line
open Go.ChangeShapes Go.WideShapes Go.ChangeAt Go.RowKit
set_option linter.unusedVariables false

theorem fresh_no {s : ByteArray} {k : Nat} (h0 : ¬ k = 0) (h1 : at_ s (k - 1) ≠ 32) : ¬ fresh s k := by
  rintro (h | h)
  · exact h0 h
  · exact h1 h
/-- How far the reading of the line has come. -/
def At (s : ByteArray) (n e : Nat) (q : Bool) : Prop := (e = s.size ∧ n ≤ s.size + 1 ∧ cmt s n q = com s) ∨ (e = com s ∧ e ≤ n ∧ n ≤ s.size + 1 ∧ e ≤ s.size)
set_option maxHeartbeats 8000000 in
set_option maxRecDepth 100000 in
theorem spec_bare (s : ByteArray) (w : World) (hs : s.size ≤ 1048576) :
    Calls Tryz.prog 77 #[.string s] w fun e w' => e = .returned (.string (bare s)) ∧ w = w' := by
  go_enter Tryz.func77, Tryz.ntmps77
  go_wp2_with fail
  go_loop [3, 4, 5] (fun e q i => ∃ (n m : Nat) (b : Bool), i = .int .i64 n ∧ e = .int .i64 m ∧ q = .bool b ∧ n ≤ s.size + 1 ∧ m ≤ s.size ∧ Hid (At s n m b)) (fun e q i => s.size + 1 - (intOf i).toNat)
  case atStart => exact ⟨0, s.size, false, rfl, rfl, rfl, by omega, Nat.le_refl _, .inl ⟨rfl, by omega, rfl⟩⟩
  case round =>
    obtain ⟨n, m, b, rfl, rfl, rfl, hn, hm, hA⟩ := hrel
    by_cases hlt : n < m
    · have hA2 : Hid (m = s.size ∧ cmt s n b = com s) := by
        rcases hA.out with ⟨h1, _, h2⟩ | ⟨h1, h2, _⟩
        · exact ⟨h1, h2⟩
        · omega
      obtain rfl : m = s.size := hA2.out.1
      have HC : Hid (cmt s n b = com s) := hA2.out.2
      clear hA hA2
      have hat := at_eq s n hlt
      have hz : ∃ (f : Bool), Hid (f = decide (fresh s n)) ∧ ((n = 0 ∧ f = true) ∨ (∃ p : Nat, n = p + 1 ∧ p < s.size ∧ (at_ s p == 32) = f)) := by
        by_cases h0 : n = 0
        · exact ⟨true, (decide_eq_true (.inl h0)).symm, .inl ⟨h0, rfl⟩⟩
        · refine ⟨at_ s (n - 1) == 32, ?_, .inr ⟨n - 1, by omega, by omega, rfl⟩⟩
          by_cases h1 : at_ s (n - 1) = 32
          · rw [beq_iff_eq.2 h1]; exact (decide_eq_true (.inr h1)).symm
          · rw [beq_eq_false_iff_ne.2 h1]; exact (decide_eq_false (fresh_no h0 h1)).symm
      obtain ⟨f, Hf, hz⟩ := hz
      have hcase : ∃ n' m' b', Hid (n' ≤ s.size ∧ n < n' + 1 ∧ m' ≤ s.size ∧ At s (n' + 1) m' b') ∧ ((b = true ∧ at_ s n = 92 ∧ n' = n + 1 ∧ m' = s.size ∧ b' = true) ∨ (b = true ∧ at_ s n = 34 ∧ n' = n ∧ m' = s.size ∧ b' = false) ∨ (b = true ∧ (at_ s n == 92) = false ∧ (at_ s n == 34) = false ∧ n' = n ∧ m' = s.size ∧ b' = true) ∨
          (b = false ∧ at_ s n = 34 ∧ f = true ∧ n' = n ∧ m' = s.size ∧ b' = true) ∨ (b = false ∧ at_ s n = 34 ∧ f = false ∧ n' = n ∧ m' = s.size ∧ b' = false) ∨ (b = false ∧ at_ s n = 35 ∧ f = true ∧ n' = n ∧ m' = n ∧ b' = false) ∨ (b = false ∧ at_ s n = 35 ∧ f = false ∧ n' = n ∧ m' = s.size ∧ b' = false) ∨ (b = false ∧ (at_ s n == 34) = false ∧ (at_ s n == 35) = false ∧ n' = n ∧ m' = s.size ∧ b' = false)) := by
        have hc := HC.out
        have hfr := Hf.out
        cases b with
        | true =>
          by_cases c1 : at_ s n = 92
          · exact ⟨n + 1, s.size, true, ⟨by omega, by omega, Nat.le_refl _, .inl ⟨rfl, by omega, by rw [← hc, cmt_skip hlt c1]⟩⟩, .inl ⟨rfl, c1, rfl, rfl, rfl⟩⟩
          by_cases c2 : at_ s n = 34
          · exact ⟨n, s.size, false, ⟨by omega, by omega, Nat.le_refl _, .inl ⟨rfl, by omega, by rw [← hc, cmt_shut hlt c2]⟩⟩, .inr (.inl ⟨rfl, c2, rfl, rfl, rfl⟩)⟩
          · exact ⟨n, s.size, true, ⟨by omega, by omega, Nat.le_refl _, .inl ⟨rfl, by omega, by rw [← hc, cmt_in hlt c1 c2]⟩⟩, .inr (.inr (.inl ⟨rfl, beq_eq_false_iff_ne.2 c1, beq_eq_false_iff_ne.2 c2, rfl, rfl, rfl⟩))⟩
        | false =>
          by_cases c0 : fresh s n
          · rw [decide_eq_true c0] at hfr
            by_cases c1 : at_ s n = 34
            · exact ⟨n, s.size, true, ⟨by omega, by omega, Nat.le_refl _, .inl ⟨rfl, by omega, by rw [← hc, cmt_open hlt c0 c1]⟩⟩, .inr (.inr (.inr (.inl ⟨rfl, c1, hfr, rfl, rfl, rfl⟩)))⟩
            by_cases c2 : at_ s n = 35
            · exact ⟨n, n, false, ⟨by omega, by omega, by omega, .inr ⟨by rw [← hc, cmt_here hlt c0 c2], by omega, by omega, by omega⟩⟩, .inr (.inr (.inr (.inr (.inr (.inl ⟨rfl, c2, hfr, rfl, rfl, rfl⟩)))))⟩
            · exact ⟨n, s.size, false, ⟨by omega, by omega, Nat.le_refl _, .inl ⟨rfl, by omega, by rw [← hc, cmt_on hlt (fun h => c1 h.2) (fun h => c2 h.2)]⟩⟩, .inr (.inr (.inr (.inr (.inr (.inr (.inr ⟨rfl, beq_eq_false_iff_ne.2 c1, beq_eq_false_iff_ne.2 c2, rfl, rfl, rfl⟩))))))⟩
          · rw [decide_eq_false c0] at hfr
            have hon : At s (n + 1) s.size false := .inl ⟨rfl, by omega, by rw [← hc, cmt_on hlt (fun h => c0 h.1) (fun h => c0 h.1)]⟩
            by_cases c1 : at_ s n = 34
            · exact ⟨n, s.size, false, ⟨by omega, by omega, Nat.le_refl _, hon⟩, .inr (.inr (.inr (.inr (.inl ⟨rfl, c1, hfr, rfl, rfl, rfl⟩))))⟩
            by_cases c2 : at_ s n = 35
            · exact ⟨n, s.size, false, ⟨by omega, by omega, Nat.le_refl _, hon⟩, .inr (.inr (.inr (.inr (.inr (.inr (.inl ⟨rfl, c2, hfr, rfl, rfl, rfl⟩))))))⟩
            · exact ⟨n, s.size, false, ⟨by omega, by omega, Nat.le_refl _, hon⟩, .inr (.inr (.inr (.inr (.inr (.inr (.inr ⟨rfl, beq_eq_false_iff_ne.2 c1, beq_eq_false_iff_ne.2 c2, rfl, rfl, rfl⟩))))))⟩
      obtain ⟨n', m', b', HN, hcase⟩ := hcase
      clear Hf HC
      rcases hz with ⟨rfl, rfl⟩ | ⟨p, rfl, hp, hfp⟩
      · rcases hcase with ⟨rfl, c1, rfl, rfl, rfl⟩ | ⟨rfl, c1, rfl, rfl, rfl⟩ | ⟨rfl, c1, c2, rfl, rfl, rfl⟩ | ⟨rfl, c1, _, rfl, rfl, rfl⟩ | ⟨_, _, c, _⟩ | ⟨rfl, c1, _, rfl, rfl, rfl⟩ | ⟨_, _, c, _⟩ | ⟨rfl, c1, c2, rfl, rfl, rfl⟩
        · rw [c1] at hat
          clear c1
          go_wp2_with fail
          go_round
          case rel => exact ⟨2, s.size, true, by go_num, rfl, rfl, by have := HN.out.1; omega, HN.out.2.2.1, HN.out.2.2.2⟩
          case measure => simp [intOf] <;> omega
        · rw [c1] at hat
          clear c1
          go_wp2_with fail
          go_round
          case rel => exact ⟨1, s.size, false, by go_num, rfl, rfl, by have := HN.out.1; omega, HN.out.2.2.1, HN.out.2.2.2⟩
          case measure => simp [intOf] <;> omega
        · have c3 : (at_ s (0) != 34) = true := by rw [bne, c2]; rfl
          go_wp2_with fail
          go_round
          case rel => exact ⟨1, s.size, true, by go_num, rfl, rfl, by have := HN.out.1; omega, HN.out.2.2.1, HN.out.2.2.2⟩
          case measure => simp [intOf] <;> omega
        · rw [c1] at hat
          clear c1
          go_wp2_with fail
          go_round
          case rel => exact ⟨1, s.size, true, by go_num, rfl, rfl, by have := HN.out.1; omega, HN.out.2.2.1, HN.out.2.2.2⟩
          case measure => simp [intOf] <;> omega
        · cases c
        · rw [c1] at hat
          clear c1
          go_wp2_with fail
          go_round
          case rel => exact ⟨1, 0, false, by go_num, rfl, rfl, by have := HN.out.1; omega, HN.out.2.2.1, HN.out.2.2.2⟩
          case measure => simp [intOf] <;> omega
        · cases c
        · go_wp2_with fail
          go_round
          case rel => exact ⟨1, s.size, false, by go_num, rfl, rfl, by have := HN.out.1; omega, HN.out.2.2.1, HN.out.2.2.2⟩
          case measure => simp [intOf] <;> omega
      · have hat2 := at_eq s p hp
        rcases hcase with ⟨rfl, c1, rfl, rfl, rfl⟩ | ⟨rfl, c1, rfl, rfl, rfl⟩ | ⟨rfl, c1, c2, rfl, rfl, rfl⟩ | ⟨rfl, c1, rfl, rfl, rfl, rfl⟩ | ⟨rfl, c1, rfl, rfl, rfl, rfl⟩ | ⟨rfl, c1, rfl, rfl, rfl, rfl⟩ | ⟨rfl, c1, rfl, rfl, rfl, rfl⟩ | ⟨rfl, c1, c2, rfl, rfl, rfl⟩
        · rw [c1] at hat
          clear c1
          go_wp2_with fail
          go_round
          case rel => exact ⟨p + 1 + 2, s.size, true, by go_num, rfl, rfl, by have := HN.out.1; omega, HN.out.2.2.1, HN.out.2.2.2⟩
          case measure => simp [intOf] <;> omega
        · rw [c1] at hat
          clear c1
          go_wp2_with fail
          go_round
          case rel => exact ⟨p + 1 + 1, s.size, false, by go_num, rfl, rfl, by have := HN.out.1; omega, HN.out.2.2.1, HN.out.2.2.2⟩
          case measure => simp [intOf] <;> omega
        · have c3 : (at_ s (p + 1) != 34) = true := by rw [bne, c2]; rfl
          go_wp2_with fail
          go_round
          case rel => exact ⟨p + 1 + 1, s.size, true, by go_num, rfl, rfl, by have := HN.out.1; omega, HN.out.2.2.1, HN.out.2.2.2⟩
          case measure => simp [intOf] <;> omega
        · rw [c1] at hat
          clear c1
          go_wp2_with fail
          go_round
          case rel => exact ⟨p + 1 + 1, s.size, true, by go_num, rfl, rfl, by have := HN.out.1; omega, HN.out.2.2.1, HN.out.2.2.2⟩
          case measure => simp [intOf] <;> omega
        · rw [c1] at hat
          clear c1
          go_wp2_with fail
          go_round
          case rel => exact ⟨p + 1 + 1, s.size, false, by go_num, rfl, rfl, by have := HN.out.1; omega, HN.out.2.2.1, HN.out.2.2.2⟩
          case measure => simp [intOf] <;> omega
        · rw [c1] at hat
          clear c1
          go_wp2_with fail
          go_round
          case rel => exact ⟨p + 1 + 1, p + 1, false, by go_num, rfl, rfl, by have := HN.out.1; omega, HN.out.2.2.1, HN.out.2.2.2⟩
          case measure => simp [intOf] <;> omega
        · rw [c1] at hat
          clear c1
          go_wp2_with fail
          go_round
          case rel => exact ⟨p + 1 + 1, s.size, false, by go_num, rfl, rfl, by have := HN.out.1; omega, HN.out.2.2.1, HN.out.2.2.2⟩
          case measure => simp [intOf] <;> omega
        · go_wp2_with fail
          go_round
          case rel => exact ⟨p + 1 + 1, s.size, false, by go_num, rfl, rfl, by have := HN.out.1; omega, HN.out.2.2.1, HN.out.2.2.2⟩
          case measure => simp [intOf] <;> omega
    · have HR : Hid (m = com s) := by
        rcases hA.out with ⟨h1, h0, h2⟩ | ⟨h1, _⟩
        · have h3 : com s = s.size := by rw [← h2]; exact cmt_out (by omega)
          exact h1.trans h3.symm
        · exact h1
      clear hA
      go_wp2_with fail
      go_loop [3] (fun e => ∃ k : Nat, e = .int .i64 k ∧ k ≤ s.size ∧ Hid (rt s k = rt s (com s))) (fun e => (intOf e).toNat)
      case atStart => exact ⟨m, rfl, hm, by unfold Hid; rw [HR.out]⟩
      case round =>
        obtain ⟨k, rfl, hk, hr⟩ := hrel
        by_cases h0 : k = 0
        · have Hb : Hid (s.extract 0 k = bare s) := by unfold Hid bare; rw [← hr.out, rt_end (.inl h0)]
          subst h0
          clear hr HR
          have e0 : Hid (ByteArray.empty = s.extract 0 0) := by unfold Hid; apply ByteArray.ext; simp
          go_wp2_with fail
          go_ret
          exact ⟨by rw [← Hb.out]; exact ret_str e0.out, rfl⟩
        · obtain ⟨p, rfl⟩ : ∃ p, k = p + 1 := ⟨k - 1, by omega⟩
          have hp : p < s.size := by omega
          have hat := at_eq s p hp
          by_cases c1 : at_ s p = 32
          · have Hg : Hid (rt s p = rt s (com s)) := by unfold Hid; rw [← hr.out]; exact (rt_go (s := s) (n := p + 1) (by omega) c1).symm
            rw [c1] at hat
            clear hr HR c1 h0
            go_wp2_with fail
            go_round
            case rel => exact ⟨p, by go_num, by omega, Hg⟩
            case measure => simp [intOf]
          · have Hb : Hid (s.extract 0 (p + 1) = bare s) := by unfold Hid bare; rw [← hr.out, rt_end (n := p + 1) (.inr (by simpa using c1))]
            have c2 : (at_ s p == 32) = false := by simpa using c1
            clear hr HR c1 h0
            go_wp2_with fail
            go_ret
            exact ⟨by rw [← Hb.out]; rfl, rfl⟩
end Go.Proofs.YtegpcjkcejijpaaGreatDoor.line
