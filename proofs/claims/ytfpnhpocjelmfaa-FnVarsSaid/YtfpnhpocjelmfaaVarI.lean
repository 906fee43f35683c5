/- impl.VarText. -/
import Derived.Test.YtfpnhpocjelmfaaVarM
import Derived.Test.YtfpnhpocjelmfaaByteInfo
namespace Go.Proofs.Ytfpnhpocjelmfaa.varint
open Go.ChangeShapes Go.WideShapes Go.ChangeAt Go.RowKit
set_option linter.unusedVariables false

theorem and127 (m : Nat) (h : (m : Int) ≤ 9223372036854775807) : bits .and .i64 (m : Int) 127 = (m : Int) % 128 :=
  bits_mask .i64 63 (by decide) (fun n h0 h1 => IntWalk.i64_in n (by have e : (2 : Int) ^ 63 = 9223372036854775808 := by decide
                                                                     omega)) 7 (by decide) m (by omega) (by have e : (2 : Int) ^ 63 = 9223372036854775808 := by decide
                                                                                                            omega)
theorem or128_all : ∀ g : Fin 128, bits .or .i64 (g.val : Int) 128 = 128 + (g.val : Int) := by decide +kernel
theorem or128 (m : Nat) : bits .or .i64 ((m : Int) % 128) 128 = 128 + (m : Int) % 128 := by
  have h := or128_all ⟨m % 128, by omega⟩
  simpa using h

theorem impl_neg (n : Int) (w : World) (h : n < 0) :
    Calls Try.prog 14 #[.int .i64 n] w fun e w' => e = .returned (.string ⟨#[]⟩) ∧ w = w' := by
  go_enter Try.func14, Try.ntmps14
  go_wp2
  go_ret
  exact ⟨rfl, rfl⟩

theorem impl_nat (N : Nat) (w : World) (hN : (N : Int) ≤ 9223372036854775807) :
    Calls Try.prog 14 #[.int .i64 N] w fun e w' => e = .returned (.string ⟨(varL N).toArray⟩) ∧ Below w.heap.size w w' := by
  obtain ⟨i0, hi, hz0, hz1, hz2⟩ := info_parts binfo.Tryinfo
  have H9 := Lib.hid (varL_nine hN)
  go_enter Try.func14, Try.ntmps14
  go_wp2_with (first | (at_make; refine wpList_make_own _ rfl _ _ 22 rfl w.heap.size 5 i0 (.int .u8 0) 1 Try.underlying22 hi hz0 hz1 _ _ _ 9 rfl rfl (by omega) ?c1 ?c2 ?c3 ?_) | fail)
  case c1 => rw [hz2]; omega
  case c2 => unfold maxLen; omega
  case c3 => exact Nat.le_refl _
  intro w1 hown1 hg1
  have hb1 : Below w.heap.size w w1 := (Below.refl _ _).grown hg1 (Nat.le_refl _) (fun k hk => by cases hk)
  clear hg1
  go_wp2_with fail
  go_loopw [0, 3] (fun i v wr => ∃ (m : Nat) (l : List UInt8), i = .int .i64 m ∧ (m : Int) ≤ 9223372036854775807 ∧ Hid (l ++ varL m = varL N) ∧ wr.ownsRow w.heap.size 5 1 v l.length (bcells l) ∧ Below w.heap.size w wr) (fun i _ _ => (intOf i).toNat)
  case atStart => exact ⟨N, [], rfl, hN, List.nil_append _, hown1, hb1⟩
  case round =>
    clear hown1 hb1 hN
    obtain ⟨m, l, rfl, hm, hj, hown, hbel⟩ := hrel
    have hlen : l.length ≤ 8 := by
      have h1 := congrArg List.length hj.out
      rw [List.length_append] at h1
      have := H9.out
      have := varL_pos m
      omega
    by_cases hlt : m < 128
    · have Hend : Hid (varL N = l ++ [UInt8.ofNat m]) := by
        have := hj.out
        rw [varL_small hlt] at this
        exact this.symm
      have e1 : IntKind.u8.wrap (m : Int) = (m : Int) := by rw [IntKind.wrap_u8]; omega
      clear hj
      go_wp2_with (first | (at_builtin; refine wpList_append_own _ rfl (.tmp 18) (.tmp 21) 22 rfl w.heap.size 5 i0 (.int .u8 0) 1 1 Try.underlying22 hi hz0 hz1 hz2 rfl (by decide) _ l.length _ rfl (hown.alloc _) ⟨wr.heap.size, 0, none⟩ 1 1 [.int .u8 (m : Int)] rfl rfl (by exact lit_cells _ _ _) (binfo.one_cell _) (by unfold maxLen; omega) (by omega) (by have := hbel.size; simp; omega) ?_) | fail)
      intro v2 w2 hown2 hg2 _
      have hbel2 : Below w.heap.size w w2 := (hbel.alloc hbel.size _).grown hg2 (by have := hbel.size; simp; omega) (fun b hb => (hown.lt b hb).1)
      rw [binfo.snoc l m _ rfl (by omega), ← Hend.out] at hown2
      have hconv := binfo.conv (l := varL N) (n := l.length + 1) (by rw [Hend.out]; simp) hown2
      clear hown hown2 hbel hg2 Hend
      go_wp2_with fail
      go_ret
      exact ⟨rfl, hbel2⟩
    · have Hgo : Hid (l ++ [UInt8.ofNat (128 + m % 128)] ++ varL (m / 128) = varL N) := by
        have := hj.out
        rw [varL_big hlt] at this
        unfold Hid
        rw [List.append_assoc]
        exact this
      have e1 := and127 m hm
      have e2 := or128 m
      have e3 : IntKind.u8.wrap (128 + (m : Int) % 128) = 128 + (m : Int) % 128 := by rw [IntKind.wrap_u8]; omega
      clear hj
      go_wp2_with (first | (at_builtin; refine wpList_append_own _ rfl (.tmp 9) (.tmp 14) 22 rfl w.heap.size 5 i0 (.int .u8 0) 1 1 Try.underlying22 hi hz0 hz1 hz2 rfl (by decide) _ l.length _ rfl (hown.alloc _) ⟨wr.heap.size, 0, none⟩ 1 1 [.int .u8 (128 + (m : Int) % 128)] rfl rfl (by exact lit_cells _ _ _) (binfo.one_cell _) (by unfold maxLen; omega) (by omega) (by have := hbel.size; simp; omega) ?_) | fail)
      intro v2 w2 hown2 hg2 _
      have hbel2 : Below w.heap.size w w2 := (hbel.alloc hbel.size _).grown hg2 (by have := hbel.size; simp; omega) (fun b hb => (hown.lt b hb).1)
      rw [binfo.snoc l (128 + m % 128) _ (by omega) (by omega)] at hown2
      clear hown hbel hg2 e1 e2 e3
      go_wp2_with fail
      go_roundw
      case rel => exact ⟨m / 128, l ++ [UInt8.ofNat (128 + m % 128)], by go_num, by omega, Hgo.out, by rw [List.length_append]; exact hown2, hbel2⟩
      case measure => simp [intOf]; omega

theorem impl_any (n : Int) (w : World) (hn : n ≤ 9223372036854775807) :
    Calls Try.prog 14 #[.int .i64 n] w fun e w' => e = .returned (.string (varF n)) ∧ Below w.heap.size w w' := by
  by_cases h : n < 0
  · rw [varF_neg h]
    refine (impl_neg n w h).mono ?_
    rintro e w' ⟨rfl, rfl⟩
    exact ⟨rfl, Below.refl _ _⟩
  · obtain ⟨u, rfl⟩ := Int.eq_ofNat_of_zero_le (by omega : 0 ≤ n)
    rw [varF_nat]
    exact impl_nat u w hn
end Go.Proofs.Ytfpnhpocjelmfaa.varint
