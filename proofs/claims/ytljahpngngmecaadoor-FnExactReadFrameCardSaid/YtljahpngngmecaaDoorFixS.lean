/- spec.FixedText. -/
import Derived.Test.YtljahpngngmecaaDoorFixM
import Derived.Test.YtljahpngngmecaaDoorByteInfo
import Derived.Test.YtljahpngngmecaaDoorInS
namespace Go.Proofs.YtljahpngngmecaaDoor.fixed
open Go.ChangeShapes Go.WideShapes Go.ChangeAt Go.RowKit
set_option linter.unusedVariables false

theorem spec_no (n w : Int) (W : World) (h : n < 0 ∨ w < 1 ∨ 8 < w) :
    Calls Tryd.prog 46 #[.int .i64 n, .int .i64 w] W fun e w' => e = .returned (.string ⟨#[]⟩) ∧ Below W.heap.size W w' := by
  by_cases h0 : n < 0
  · go_enter Tryd.func46, Tryd.ntmps46
    go_wp2_with fail
    go_ret
    exact ⟨rfl, Below.refl _ _⟩
  · have HI := Lib.hid (fun W => arith.in_no w 1 8 W (by omega))
    clear h
    go_enter Tryd.func46, Tryd.ntmps46
    go_wp2_with fail
    refine (HI.out _).mono ?_
    rintro e w1 ⟨rfl, rfl⟩
    go_wp2_with fail
    go_ret
    exact ⟨rfl, Below.refl _ _⟩

set_option maxRecDepth 100000 in
theorem spec_in (N w : Nat) (W : World) (hN : (N : Int) ≤ 9223372036854775807) (h1 : 1 ≤ w) (h2 : w ≤ 8) :
    Calls Tryd.prog 46 #[.int .i64 N, .int .i64 w] W fun e w' => e = .returned (.string (fixF N w)) ∧ Below W.heap.size W w' := by
  obtain ⟨i0, hi, hz0, hz1, hz2⟩ := info_parts binfo.Trydinfo
  have HI := Lib.hid (fun W => arith.in_yes w 1 8 W (by omega) (by omega))
  have Hyes : Hid (N / 2 ^ (8 * w) = 0 → fixF N w = ⟨(fixL N w).toArray⟩) := fun h => fix_yes h1 h2 (by
    rcases Nat.div_eq_zero_iff.1 h with e | e
    · have := Nat.two_pow_pos (8 * w); omega
    · exact e)
  have Hno : Hid (0 < N / 2 ^ (8 * w) → fixF N w = ⟨#[]⟩) := fun h => fix_over (fun e => by
    rw [Nat.div_eq_of_lt e] at h; omega)
  go_enter Tryd.func46, Tryd.ntmps46
  go_wp2_with fail
  refine (HI.out _).mono ?_
  rintro e w1 ⟨rfl, rfl⟩
  clear HI
  go_wp2_with fail
  have hown1 : (W.alloc (.cells #[] 5)).ownsRow W.heap.size 5 1 (.slice (some ⟨W.heap.size, 0, none⟩) 0 0) 0 (bcells []) := World.ownsRow_lit W #[] 0 (Nat.le_refl _) (by simp [maxLen]) rfl
  have hb1 : Below W.heap.size W (W.alloc (.cells #[] 5)) := (Below.refl _ _).alloc (Nat.le_refl _) _
  go_loopw [0, 5, 6] (fun x v j wr => ∃ i : Nat, i ≤ w ∧ j = .int .i64 i ∧ x = .int .i64 ((N / 2 ^ (8 * i) : Nat) : Int) ∧ wr.ownsRow W.heap.size 5 1 v i (bcells (fixL N i)) ∧ Below W.heap.size W wr) (fun _ _ j _ => w - (intOf j).toNat)
  case atStart => exact ⟨0, Nat.zero_le _, rfl, by simp, hown1, hb1⟩
  case round =>
    clear hown1 hb1
    obtain ⟨i, hi2, rfl, rfl, hown, hbel⟩ := hrel
    have hle : N / 2 ^ (8 * i) ≤ N := Nat.div_le_self _ _
    by_cases hlt : i < w
    · have Hs := Lib.hid (fixL_succ N i)
      have Hd := Lib.hid (div_succ N i)
      generalize N / 2 ^ (8 * i) = m at Hs Hd hle
      have e1 : (m : Int).tmod 256 = (m : Int) % 256 := Int.tmod_eq_emod_of_nonneg (by omega)
      have e2 : (m : Int).tdiv 256 = (m : Int) / 256 := Int.tdiv_eq_ediv_of_nonneg (by omega)
      have e3 : IntKind.u8.wrap ((m : Int) % 256) = (m : Int) % 256 := by rw [IntKind.wrap_u8]; omega
      go_wp2_with (first | (at_builtin; refine wpList_append_own _ rfl (.tmp 20) (.tmp 24) 22 rfl W.heap.size 5 i0 (.int .u8 0) 1 1 Tryd.underlying22 hi hz0 hz1 hz2 rfl (by decide) _ i _ rfl (hown.alloc _) ⟨wr.heap.size, 0, none⟩ 1 1 [.int .u8 ((m : Int) % 256)] rfl rfl (by exact lit_cells _ _ _) (binfo.one_cell _) (by unfold maxLen; omega) (by omega) (by have := hbel.size; simp; omega) ?_) | fail)
      intro v2 w2 hown2 hg2 _
      have hbel2 : Below W.heap.size W w2 := (hbel.alloc hbel.size _).grown hg2 (by have := hbel.size; simp; omega) (fun b hb => (hown.lt b hb).1)
      rw [binfo.snoc _ (m % 256) _ (by omega) (by omega), ← Hs.out] at hown2
      clear hown hbel hg2 e1 e3
      go_wp2_with fail
      go_roundw
      case rel => exact ⟨i + 1, by omega, by go_num, by rw [← Hd.out]; go_num, hown2, hbel2⟩
      case measure => simp [intOf]; omega
    · obtain rfl : i = w := by omega
      have hconv := binfo.conv (fixL_length N i) hown
      by_cases h0 : N / 2 ^ (8 * i) = 0
      · have Hr := Lib.hid (Hyes.out h0)
        rw [h0]
        clear hown Hyes Hno hle h0
        go_wp2_with fail
        go_ret
        exact ⟨by rw [Hr.out]; rfl, hbel⟩
      · have Hr := Lib.hid (Hno.out (Nat.pos_of_ne_zero h0))
        generalize N / 2 ^ (8 * i) = m at h0 hle
        clear hown Hyes Hno
        go_wp2_with fail
        go_ret
        exact ⟨by rw [Hr.out]; rfl, hbel⟩
theorem spec_any (n w : Int) (W : World) (hn : n ≤ 9223372036854775807) :
    Calls Tryd.prog 46 #[.int .i64 n, .int .i64 w] W fun e w' => e = .returned (.string (fixF n w)) ∧ Below W.heap.size W w' := by
  by_cases h : n < 0 ∨ w < 1 ∨ 8 < w
  · rw [fix_no (by omega)]
    exact spec_no n w W h
  · obtain ⟨u, rfl⟩ := Int.eq_ofNat_of_zero_le (by omega : 0 ≤ n)
    obtain ⟨k, rfl⟩ := Int.eq_ofNat_of_zero_le (by omega : 0 ≤ w)
    exact spec_in u k W hn (by omega) (by omega)
end Go.Proofs.YtljahpngngmecaaDoor.fixed
