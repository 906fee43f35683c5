/- impl.widthOk, impl.FixedText. -/
import Derived.Test.YtljahpngngmecaaDoorFixM
import Derived.Test.YtljahpngngmecaaDoorByteInfo
namespace Go.Proofs.YtljahpngngmecaaDoor.fixed
open Go.ChangeShapes Go.WideShapes Go.ChangeAt Go.RowKit
set_option linter.unusedVariables false

theorem width_yes (w : Int) (W : World) (h1 : 1 ≤ w) (h2 : w ≤ 8) :
    Calls Tryd.prog 40 #[.int .i64 w] W fun e w' => e = .returned (.bool true) ∧ W = w' := by
  go_enter Tryd.func40, Tryd.ntmps40
  go_wp2
  all_goals go_ret
  all_goals exact ⟨rfl, rfl⟩
theorem width_no (w : Int) (W : World) (h : w < 1 ∨ 8 < w) :
    Calls Tryd.prog 40 #[.int .i64 w] W fun e w' => e = .returned (.bool false) ∧ W = w' := by
  by_cases h1 : w < 1
  · go_enter Tryd.func40, Tryd.ntmps40
    go_wp2
    all_goals go_ret
    all_goals exact ⟨rfl, rfl⟩
  · have h2 : 8 < w := by omega
    have hd : decide (w ≤ 8) = false := by simp; omega
    go_enter Tryd.func40, Tryd.ntmps40
    go_wp2
    all_goals go_ret
    all_goals exact ⟨rfl, rfl⟩

theorem impl_no (n w : Int) (W : World) (h : n < 0 ∨ w < 1 ∨ 8 < w) :
    Calls Tryd.prog 26 #[.int .i64 n, .int .i64 w] W fun e w' => e = .returned (.string ⟨#[]⟩) ∧ Below W.heap.size W w' := by
  by_cases h0 : n < 0
  · go_enter Tryd.func26, Tryd.ntmps26
    go_wp2_with fail
    go_ret
    exact ⟨rfl, Below.refl _ _⟩
  · have HI := Lib.hid (fun W => width_no w W (by omega))
    clear h
    go_enter Tryd.func26, Tryd.ntmps26
    go_wp2_with fail
    refine (HI.out _).mono ?_
    rintro e w1 ⟨rfl, rfl⟩
    go_wp2_with fail
    go_ret
    exact ⟨rfl, Below.refl _ _⟩

theorem nat_pow_cast (k : Nat) : ((2 ^ k : Nat) : Int) = 2 ^ k := by simp
theorem div_cast (N k : Nat) : (N : Int) / 2 ^ k = ((N / 2 ^ k : Nat) : Int) := by rw [Int.natCast_ediv, nat_pow_cast]
theorem over_iff (N k : Nat) : 255 < N / 2 ^ (8 * k) ↔ ¬ N < 2 ^ (8 * (k + 1)) := by
  rw [nat_eight, Nat.not_lt]
  exact Nat.le_div_iff_mul_le (Nat.two_pow_pos (8 * k))

theorem set_mid (l : List UInt8) (m : Nat) (b : UInt8) : (l ++ List.replicate (m + 1) (0 : UInt8)).set l.length b = (l ++ [b]) ++ List.replicate m 0 := by
  simp [List.set_append, List.replicate_succ]
theorem byte_lt (N k : Nat) : (UInt8.ofNat (N / 2 ^ (8 * k) % 256)).toNat = N / 2 ^ (8 * k) % 256 := by simp

set_option maxRecDepth 100000 in
theorem impl_in (N k : Nat) (W : World) (hN : (N : Int) ≤ 9223372036854775807) (h2 : k < 8) :
    Calls Tryd.prog 26 #[.int .i64 N, .int .i64 ((k : Int) + 1)] W fun e w' => e = .returned (.string (fixF N ((k + 1 : Nat) : Int))) ∧ Below W.heap.size W w' := by
  obtain ⟨i0, hi, hz0, hz1, hz2⟩ := info_parts binfo.Trydinfo
  have HI := Lib.hid (fun W => width_yes ((k : Int) + 1) W (by omega) (by omega))
  generalize hF : fixF N ((k + 1 : Nat) : Int) = F
  have esh : (8 * (k : Int)).toNat = 8 * k := by omega
  have edv := div_cast N (8 * k)
  by_cases hov : 255 < N / 2 ^ (8 * k)
  · have Hr : Hid (F = ⟨#[]⟩) := hF.symm.trans (fix_over ((over_iff N k).1 hov))
    clear hF
    have hle : N / 2 ^ (8 * k) ≤ N := Nat.div_le_self _ _
    generalize N / 2 ^ (8 * k) = q at hov edv hle
    go_enter Tryd.func26, Tryd.ntmps26
    go_wp2_with fail
    refine (HI.out _).mono ?_
    rintro e w1 ⟨rfl, rfl⟩
    go_wp2_with fail
    go_ret
    exact ⟨by rw [Hr.out]; rfl, Below.refl _ _⟩
  have hfit : N < 2 ^ (8 * (k + 1)) := by
    rcases Nat.lt_or_ge N (2 ^ (8 * (k + 1))) with h | h
    · exact h
    · exact absurd ((over_iff N k).2 (by omega)) hov
  have Hr : Hid (F = ⟨(fixL N (k + 1)).toArray⟩) := hF.symm.trans (fix_yes (by omega) (by omega) hfit)
  clear hfit hF
  have hov2 : N / 2 ^ (8 * k) ≤ 255 := by omega
  generalize N / 2 ^ (8 * k) = q at hov hov2 edv
  go_enter Tryd.func26, Tryd.ntmps26
  go_wp2_with fail
  refine (HI.out _).mono ?_
  rintro e w1 ⟨rfl, rfl⟩
  clear HI
  go_wp2_with (first | (at_make; refine wpList_make_full _ rfl _ _ 22 rfl W.heap.size 5 i0 (.int .u8 0) 1 Tryd.underlying22 hi hz0 hz1 .i64 .i64 ((k : Int) + 1) ((k : Int) + 1) (k + 1) rfl rfl (by omega) (by omega) (by rw [hz2]; omega) (by unfold maxLen; omega) (by simp) ?_) | fail)
  intro w1 hown1 hg1
  have hb1 : Below W.heap.size W w1 := (Below.refl _ _).grown hg1 (Nat.le_refl _) (fun b hb => by cases hb)
  have Hown : Hid (w1.ownsRow W.heap.size 5 1 (.slice (some ⟨W.heap.size, 0, none⟩) (k + 1) (k + 1)) (k + 1) (bcells (fixL N 0 ++ List.replicate (k + 1) 0))) := by
    have e : bcells (fixL N 0 ++ List.replicate (k + 1) (0 : UInt8)) = (madeCells #[.int .u8 0] (k + 1)).toList := by rw [toList_madeCells_one]; simp [bcells, fixL]
    unfold Hid
    rw [e]
    simpa using hown1
  have Hb1 := Lib.hid hb1
  clear hown1 hb1 hg1 edv hov hov2 esh
  go_wp2_with fail
  go_loopw [26] (fun j wr => ∃ i m : Nat, i + m = k + 1 ∧ j = .int .i64 i ∧ wr.ownsRow W.heap.size 5 1 (.slice (some ⟨W.heap.size, 0, none⟩) (k + 1) (k + 1)) (k + 1) (bcells (fixL N i ++ List.replicate m 0)) ∧ Below W.heap.size W wr) (fun j _ => k + 1 - (intOf j).toNat)
  case atStart => exact ⟨0, k + 1, by omega, rfl, Hown.out, Hb1.out⟩
  case round =>
    clear Hown Hb1
    obtain ⟨i, m, him, rfl, hown, hbel⟩ := hrel
    by_cases hlt : i < k + 1
    · obtain ⟨m, rfl⟩ : ∃ m', m = m' + 1 := ⟨m - 1, by omega⟩
      have hd := hown.cellAt i (by omega)
      have hf := hown.frozenAt i
      have hln : i < (bcells (fixL N i ++ List.replicate (m + 1) 0)).length := by have := hown.1; omega
      rw [List.getElem?_eq_getElem hln] at hd
      have hst := hown.stored i (.int .u8 ((N / 2 ^ (8 * i) % 256 : Nat) : Int))
      have e : (bcells (fixL N i ++ List.replicate (m + 1) 0)).set i (.int .u8 ((N / 2 ^ (8 * i) % 256 : Nat) : Int)) = bcells (fixL N (i + 1) ++ List.replicate m 0) := by
        have h1 := set_mid (fixL N i) m (UInt8.ofNat (N / 2 ^ (8 * i) % 256))
        rw [fixL_length] at h1
        rw [fixL_succ, ← h1]
        unfold bcells
        rw [List.map_set, byte_lt]
      rw [e] at hst
      have esh : (8 * (i : Int)).toNat = 8 * i := by omega
      have e3 : IntKind.u8.wrap ((N : Int) / 2 ^ (8 * i)) = ((N / 2 ^ (8 * i) % 256 : Nat) : Int) := by
        rw [div_cast]
        generalize N / 2 ^ (8 * i) = d
        rw [IntKind.wrap_u8]; omega
      have hq : 0 ≤ (N : Int) / 2 ^ (8 * i) ∧ (N : Int) / 2 ^ (8 * i) ≤ 9223372036854775807 := by
        rw [div_cast]
        have : N / 2 ^ (8 * i) ≤ N := Nat.div_le_self _ _
        generalize N / 2 ^ (8 * i) = d at this ⊢
        omega
      generalize N / 2 ^ (8 * i) % 256 = q at hst e3
      have Hown2 := Lib.hid hst.1
      have Hbel2 : Hid (Below W.heap.size W (wr.setCell ⟨W.heap.size, i, none⟩ (.int .u8 (q : Int)))) := hbel.setCell (Nat.le_refl _) _
      clear hst hown hbel e
      generalize (bcells (fixL N i ++ List.replicate (m + 1) 0))[i] = old at hd
      clear hln
      go_wp2_with fail
      go_roundw
      case rel => exact ⟨i + 1, m, by omega, by go_num, Hown2.out, Hbel2.out⟩
      case measure => simp [intOf]; omega
    · obtain rfl : i = k + 1 := by omega
      obtain rfl : m = 0 := by omega
      rw [List.replicate_zero, List.append_nil] at hown
      have hconv := binfo.conv (fixL_length N (k + 1)) hown
      clear hown
      go_wp2_with fail
      go_ret
      exact ⟨by rw [Hr.out]; rfl, hbel⟩
theorem impl_any (n w : Int) (W : World) (hn : n ≤ 9223372036854775807) :
    Calls Tryd.prog 26 #[.int .i64 n, .int .i64 w] W fun e w' => e = .returned (.string (fixF n w)) ∧ Below W.heap.size W w' := by
  by_cases h : n < 0 ∨ w < 1 ∨ 8 < w
  · rw [fix_no (by omega)]
    exact impl_no n w W h
  · obtain ⟨u, rfl⟩ := Int.eq_ofNat_of_zero_le (by omega : 0 ≤ n)
    obtain ⟨k, hk⟩ := Int.eq_ofNat_of_zero_le (by omega : 0 ≤ w - 1)
    obtain rfl : w = (k : Int) + 1 := by omega
    exact impl_in u k W hn (by omega)
end Go.Proofs.YtljahpngngmecaaDoor.fixed
