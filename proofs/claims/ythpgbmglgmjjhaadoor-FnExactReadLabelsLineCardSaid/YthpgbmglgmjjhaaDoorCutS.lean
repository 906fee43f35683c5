/- spec.l11Cut. -/
import Derived.Test.YthpgbmglgmjjhaaDoorGCut
import Derived.Test.YthpgbmglgmjjhaaDoorRows
import Derived.ProofKit
import Derived.OpenShut
import Derived.WalkMore
namespace Go.Proofs.YthpgbmglgmjjhaaDoor.cut
open Go.ChangeShapes Go.WideShapes Go.ChangeAt Go.RowKit
set_option linter.unusedVariables false

theorem TrydinfoS : (Tryd.prog.info? 9).map (fun i => (i.zero, i.size, i.bytes)) = some (some (.string ⟨#[]⟩), 1, 16) := by kernel_rfl
set_option maxRecDepth 100000 in
set_option maxHeartbeats 4000000 in
theorem spec_cut (s : ByteArray) (c : Int) (w : World) (hs : s.size ≤ 1048576) :
    Calls Tryd.prog 45 #[.string s, .int .u8 c] w (OutS 9 w (cutF s c)) := by
  obtain ⟨i0, hi, hz0, hz1, hz2⟩ := info_parts TrydinfoS
  obtain ⟨w1, hw1⟩ : ∃ w1, w1 = w.alloc (.cells #[] 9) := ⟨_, rfl⟩
  have Hown1 := Lib.hid (show w1.ownsRow w.heap.size 9 1 (.slice (some ⟨w.heap.size, 0, none⟩) 0 0) 0 (scells []) by rw [hw1]; exact World.ownsRow_lit w #[] 0 (Nat.le_refl _) (by simp [maxLen]) rfl)
  have Hb1 := Lib.hid (show Below w.heap.size w w1 by rw [hw1]; exact (Below.refl _ _).alloc (Nat.le_refl _) _)
  have Hw1 := Lib.hid hw1
  clear hw1
  go_enter Tryd.func45, Tryd.ntmps45
  go_wp2_with fail
  rw [← Hw1.out]
  go_loopw [5, 6, 7] (fun v b k wr => ∃ (j p : Nat) (l : List ByteArray), j ≤ s.size + 1 ∧ p ≤ j ∧ k = .int .i64 j ∧ b = .int .i64 p ∧ wr.ownsRow w.heap.size 9 1 v l.length (scells l) ∧ Hid (cs s c j = (p, l)) ∧ l.length ≤ j ∧ Below w.heap.size w wr) (fun _ _ k _ => s.size + 1 - (intOf k).toNat)
  case atStart => exact ⟨0, 0, [], by omega, Nat.le_refl _, rfl, rfl, Hown1.out, rfl, Nat.le_refl _, Hb1.out⟩
  case round =>
    clear Hw1 Hown1 Hb1
    obtain ⟨j, p, l, hj, hp, rfl, rfl, hown, hcs, hll, hbel⟩ := hrel
    have Hbel := Lib.hid hbel
    have hsz : w.heap.size ≤ wr.heap.size := hbel.size
    by_cases hle : j ≤ s.size
    · by_cases hend : j = s.size
      · have Hadd := Lib.hid (cs_add hcs.out (.inl hend))
        have he : ((j : Int) == (s.size : Int)) = true := by rw [hend]; simp
        have hpj : p ≤ s.size := by omega
        have Hown := Lib.hid hown
        clear hcs hbel hown hend
        go_wp2_with (at_builtin; refine wpList_append_own _ rfl (.tmp 26) (.tmp 31) 49 rfl w.heap.size 9 i0 (.string ⟨#[]⟩) 1 16 Tryd.underlying49 hi hz0 hz1 hz2 rfl (by decide) _ l.length _ rfl (Hown.out.alloc _) ⟨wr.heap.size, 0, none⟩ 1 1 (scells [s.extract p j]) rfl rfl (by exact lit_cells _ _ _) (by intro u hu; simp [scells] at hu; subst hu; rfl) (by unfold maxLen; omega) (by omega) (by simp; omega) ?_)
        intro v2 w2 hown2 hg2 _
        have Hown2 := Lib.hid hown2
        have Hb2 := Lib.hid ((Hbel.out.alloc hsz _).grown hg2 (by simp; omega) (fun b hb => (Hown.out.lt b hb).1))
        clear hown2 hg2
        go_wp2_with fail
        go_roundw
        case rel => exact ⟨j + 1, j + 1, l ++ [s.extract p j], by omega, Nat.le_refl _, by go_num, by go_num, by rw [scells_append, List.length_append]; exact Hown2.out, Hadd.out, by simp; omega, Hb2.out⟩
        case measure => simp [intOf]; omega
      · have hlt : j < s.size := by omega
        have he : ((j : Int) == (s.size : Int)) = false := by rw [beq_eq_false_iff_ne]; omega
        have hat := at_eq s j hlt
        by_cases hc : at_ s j = c
        · have Hadd := Lib.hid (cs_add hcs.out (.inr hc))
          rw [hc] at hat
          have hpj : p ≤ s.size := by omega
          have Hown := Lib.hid hown
          clear hcs hbel hown hend hc
          go_wp2_with (at_builtin; refine wpList_append_own _ rfl (.tmp 26) (.tmp 31) 49 rfl w.heap.size 9 i0 (.string ⟨#[]⟩) 1 16 Tryd.underlying49 hi hz0 hz1 hz2 rfl (by decide) _ l.length _ rfl (Hown.out.alloc _) ⟨wr.heap.size, 0, none⟩ 1 1 (scells [s.extract p j]) rfl rfl (by exact lit_cells _ _ _) (by intro u hu; simp [scells] at hu; subst hu; rfl) (by unfold maxLen; omega) (by omega) (by simp; omega) ?_)
          intro v2 w2 hown2 hg2 _
          have Hown2 := Lib.hid hown2
          have Hb2 := Lib.hid ((Hbel.out.alloc hsz _).grown hg2 (by simp; omega) (fun b hb => (Hown.out.lt b hb).1))
          clear hown2 hg2
          go_wp2_with fail
          go_roundw
          case rel => exact ⟨j + 1, j + 1, l ++ [s.extract p j], by omega, Nat.le_refl _, by go_num, by go_num, by rw [scells_append, List.length_append]; exact Hown2.out, Hadd.out, by simp; omega, Hb2.out⟩
          case measure => simp [intOf]; omega
        · have Hno := Lib.hid (cs_no hcs.out hlt hc)
          have hcb : (at_ s j == c) = false := beq_eq_false_iff_ne.2 hc
          have Hown := Lib.hid hown
          clear hcs hbel hown hend hc
          generalize at_ s j = y at hat hcb
          go_wp2_with fail
          go_roundw
          case rel => exact ⟨j + 1, p, l, by omega, by omega, by go_num, rfl, Hown.out, Hno.out, by omega, Hbel.out⟩
          case measure => simp [intOf]; omega
    · obtain rfl : j = s.size + 1 := by omega
      have Hf : Hid (l = cutF s c) := by unfold Hid cutF; rw [hcs.out]
      have Hown := Lib.hid hown
      clear hcs hbel hown
      go_wp2_with fail
      go_ret
      rw [← Hf.out]
      exact ⟨_, rfl, Hown.out, Hbel.out⟩
end Go.Proofs.YthpgbmglgmjjhaaDoor.cut
