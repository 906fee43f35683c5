/- spec.VarText. -/
import Derived.Test.YtfpnhpocjelmfaaVarM
import Derived.Test.YtfpnhpocjelmfaaByteInfo
namespace Go.Proofs.Ytfpnhpocjelmfaa.varint
open Go.ChangeShapes Go.WideShapes Go.ChangeAt Go.RowKit
set_option linter.unusedVariables false

theorem spec_any (n : Int) (w : World) (hn : -9223372036854775808 ≤ n ∧ n ≤ 9223372036854775807) :
    Calls Try.prog 24 #[.int .i64 n] w fun e w' => e = .returned (.string (varF n)) ∧ Below w.heap.size w w' := by
  obtain ⟨i0, hi, hz0, hz1, hz2⟩ := info_parts binfo.Tryinfo
  have H9 : Hid (∀ N : Nat, n = (N : Int) → (varL N).length ≤ 9) := fun N h => varL_nine (by omega)
  have HF : Hid (∀ N : Nat, n = (N : Int) → varF n = ⟨(varL N).toArray⟩) := fun N h => by rw [h]; exact varF_nat N
  have HG : Hid (n < 0 → varF n = ⟨#[]⟩) := varF_neg
  go_enter Try.func24, Try.ntmps24
  go_wp2_with fail
  have hown1 : (w.alloc (.cells #[] 5)).ownsRow w.heap.size 5 1 (.slice (some ⟨w.heap.size, 0, none⟩) 0 0) 0 (bcells []) := World.ownsRow_lit w #[] 0 (Nat.le_refl _) (by simp [maxLen]) rfl
  have hb1 : Below w.heap.size w (w.alloc (.cells #[] 5)) := (Below.refl _ _).alloc (Nat.le_refl _) _
  go_loopw [0, 3] (fun i v wr => ∃ (x : Int) (l : List UInt8), i = .int .i64 x ∧ x ≤ 9223372036854775807 ∧ -9223372036854775808 ≤ x ∧ (x < 0 → n < 0) ∧ Hid (∀ m : Nat, x = (m : Int) → ∃ N : Nat, n = (N : Int) ∧ l ++ varL m = varL N) ∧ wr.ownsRow w.heap.size 5 1 v l.length (bcells l) ∧ Below w.heap.size w wr) (fun i _ _ => (intOf i).toNat)
  case atStart => exact ⟨n, [], rfl, hn.2, hn.1, fun h => h, fun m hm => ⟨m, hm, List.nil_append _⟩, hown1, hb1⟩
  case round =>
    clear hown1 hb1 hn
    obtain ⟨x, l, rfl, hm, hm2, hneg, hj, hown, hbel⟩ := hrel
    by_cases hx : x < 0
    · have hn := hneg hx
      have Hf := Lib.hid (HG.out hn)
      clear hneg hown hj
      go_wp2_with fail
      go_ret
      exact ⟨by rw [Hf.out]; rfl, hbel⟩
    obtain ⟨m, rfl⟩ := Int.eq_ofNat_of_zero_le (by omega : 0 ≤ x)
    obtain ⟨N, hnN, hjj⟩ := hj.out m rfl
    have hlen : l.length ≤ 8 := by
      have h1 := congrArg List.length hjj
      rw [List.length_append] at h1
      have := H9.out N hnN
      have := varL_pos m
      omega
    have HnN := Lib.hid hnN
    have Hres := Lib.hid (HF.out N hnN)
    clear hj hneg hnN
    by_cases hlt : m < 128
    · have Hend : Hid (varL N = l ++ [UInt8.ofNat m]) := by
        rw [varL_small hlt] at hjj
        exact hjj.symm
      have e1 : IntKind.u8.wrap (m : Int) = (m : Int) := by rw [IntKind.wrap_u8]; omega
      clear hjj
      go_wp2_with (first | (at_builtin; refine wpList_append_own _ rfl (.tmp 18) (.tmp 21) 22 rfl w.heap.size 5 i0 (.int .u8 0) 1 1 Try.underlying22 hi hz0 hz1 hz2 rfl (by decide) _ l.length _ rfl (hown.alloc _) ⟨wr.heap.size, 0, none⟩ 1 1 [.int .u8 (m : Int)] rfl rfl (by exact lit_cells _ _ _) (binfo.one_cell _) (by unfold maxLen; omega) (by omega) (by have := hbel.size; simp; omega) ?_) | fail)
      intro v2 w2 hown2 hg2 _
      have hbel2 : Below w.heap.size w w2 := (hbel.alloc hbel.size _).grown hg2 (by have := hbel.size; simp; omega) (fun b hb => (hown.lt b hb).1)
      rw [binfo.snoc l m _ rfl (by omega), ← Hend.out] at hown2
      have hconv := binfo.conv (l := varL N) (n := l.length + 1) (by rw [Hend.out]; simp) hown2
      clear hown hown2 hbel hg2 Hend
      go_wp2_with fail
      go_ret
      exact ⟨by rw [Hres.out]; rfl, hbel2⟩
    · have Hgo : Hid (l ++ [UInt8.ofNat (128 + m % 128)] ++ varL (m / 128) = varL N) := by
        rw [varL_big hlt] at hjj
        unfold Hid
        rw [List.append_assoc]
        exact hjj
      have Hnext : Hid (∀ m2 : Nat, (m : Int) / 128 = (m2 : Int) → ∃ N : Nat, n = (N : Int) ∧ (l ++ [UInt8.ofNat (128 + m % 128)]) ++ varL m2 = varL N) := fun m2 hm2 => by
        obtain rfl : m2 = m / 128 := by omega
        exact ⟨N, HnN.out, Hgo.out⟩
      have e1 : (m : Int).tmod 128 = (m : Int) % 128 := Int.tmod_eq_emod_of_nonneg (by omega)
      have e2 : (m : Int).tdiv 128 = (m : Int) / 128 := Int.tdiv_eq_ediv_of_nonneg (by omega)
      have e3 : IntKind.u8.wrap (128 + (m : Int) % 128) = 128 + (m : Int) % 128 := by rw [IntKind.wrap_u8]; omega
      clear hjj
      go_wp2_with (first | (at_builtin; refine wpList_append_own _ rfl (.tmp 7) (.tmp 12) 22 rfl w.heap.size 5 i0 (.int .u8 0) 1 1 Try.underlying22 hi hz0 hz1 hz2 rfl (by decide) _ l.length _ rfl (hown.alloc _) ⟨wr.heap.size, 0, none⟩ 1 1 [.int .u8 (128 + (m : Int) % 128)] rfl rfl (by exact lit_cells _ _ _) (binfo.one_cell _) (by unfold maxLen; omega) (by omega) (by have := hbel.size; simp; omega) ?_) | fail)
      intro v2 w2 hown2 hg2 _
      have hbel2 : Below w.heap.size w w2 := (hbel.alloc hbel.size _).grown hg2 (by have := hbel.size; simp; omega) (fun b hb => (hown.lt b hb).1)
      rw [binfo.snoc l (128 + m % 128) _ (by omega) (by omega)] at hown2
      clear hown hbel hg2 e1 e3
      go_wp2_with fail
      go_roundw
      case rel => exact ⟨(m : Int) / 128, l ++ [UInt8.ofNat (128 + m % 128)], by go_num, by omega, by omega, fun h => by omega, Hnext, by rw [List.length_append]; exact hown2, hbel2⟩
      case measure => simp [intOf]; omega
end Go.Proofs.Ytfpnhpocjelmfaa.varint
