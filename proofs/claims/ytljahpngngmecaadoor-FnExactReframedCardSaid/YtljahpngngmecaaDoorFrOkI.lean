/- impl.FrameOk. -/
import Derived.Test.YtljahpngngmecaaDoorFrOkS
namespace Go.Proofs.YtljahpngngmecaaDoor.frame
open Go.ChangeShapes Go.WideShapes Go.ChangeAt Go.RowKit
open crc fixed
set_option linter.unusedVariables false
theorem ver_yes (x : Int) (w : World) (h1 : 1 ≤ x) (h2 : x ≤ 9) :
    Calls Tryd.prog 29 #[.int .i64 x] w fun e w' => e = .returned (.bool true) ∧ w = w' := by
  go_enter Tryd.func29, Tryd.ntmps29
  go_wp2
  all_goals go_ret
  all_goals exact ⟨rfl, rfl⟩
theorem ver_no (x : Int) (w : World) (h : x < 1 ∨ 9 < x) :
    Calls Tryd.prog 29 #[.int .i64 x] w fun e w' => e = .returned (.bool false) ∧ w = w' := by
  by_cases h1 : x < 1
  · go_enter Tryd.func29, Tryd.ntmps29
    go_wp2
    all_goals go_ret
    all_goals exact ⟨rfl, rfl⟩
  · have h2 : 9 < x := by omega
    have hd : decide (x ≤ 9) = false := by simp; omega
    go_enter Tryd.func29, Tryd.ntmps29
    go_wp2
    all_goals go_ret
    all_goals exact ⟨rfl, rfl⟩
theorem impl_ok (v : Int) (p : ByteArray) (w : World) (hp : p.size ≤ maxLen) :
    Calls Tryd.prog 12 #[frV v p] w fun e w' => e = .returned (.bool (okF v p)) ∧ Below w.heap.size w w' := by
  unfold frV
  have hm := hp
  unfold maxLen at hm
  have hb : Below w.heap.size w (w.alloc (.cells #[.int .i64 v, .string p] 25)) := (Below.refl _ _).alloc (Nat.le_refl _) _
  by_cases h1 : 1 ≤ v ∧ v ≤ 9
  · have HI := Lib.hid (fun w => ver_yes v w h1.1 h1.2)
    by_cases h2 : p.size ≤ 19980
    · rw [ok_yes h1.1 h1.2 h2]
      have h3 : decide ((p.size : Int) ≤ 19980) = true := by simp; omega
      go_enter Tryd.func12, Tryd.ntmps12
      go_wp2_with fail
      refine (HI.out _).mono ?_
      rintro e w1 ⟨rfl, rfl⟩
      go_wp2_with fail
      go_ret
      exact ⟨rfl, hb⟩
    · rw [ok_no (fun h => h2 h.2.2)]
      have h3 : decide ((p.size : Int) ≤ 19980) = false := by simp; omega
      go_enter Tryd.func12, Tryd.ntmps12
      go_wp2_with fail
      refine (HI.out _).mono ?_
      rintro e w1 ⟨rfl, rfl⟩
      go_wp2_with fail
      go_ret
      exact ⟨rfl, hb⟩
  · have HI := Lib.hid (fun w => ver_no v w (by omega))
    rw [ok_no (fun h => h1 ⟨h.1, h.2.1⟩)]
    go_enter Tryd.func12, Tryd.ntmps12
    go_wp2_with fail
    refine (HI.out _).mono ?_
    rintro e w1 ⟨rfl, rfl⟩
    go_wp2_with fail
    go_ret
    exact ⟨rfl, hb⟩
end Go.Proofs.YtljahpngngmecaaDoor.frame
