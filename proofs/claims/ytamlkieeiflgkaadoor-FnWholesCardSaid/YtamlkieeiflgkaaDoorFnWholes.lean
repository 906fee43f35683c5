/- FnWholes: for every byte slice the law returns true. -/
import Derived.Test.YtamlkieeiflgkaaDoorDrawIntT
import Derived.Test.YtamlkieeiflgkaaDoorWholeI
import Derived.Test.YtamlkieeiflgkaaDoorWholeBack
import Derived.Test.YtamlkieeiflgkaaDoorDecimalI
import Derived.Test.YtamlkieeiflgkaaDoorBigL
namespace Go.Proofs.YtamlkieeiflgkaaDoor.fnWholes
open Go.ChangeShapes Go.WideShapes Go.ChangeAt Go.RowKit
set_option linter.unusedVariables false

set_option maxRecDepth 100000 in
set_option maxHeartbeats 4000000 in
theorem walk (A : Option Addr) (len cap : Nat) (zs : List Int) (W : World) (hr : IsRow .u8 W A len cap zs) (hP : decimal.Pow W) (hRg : whole.ErrVar W "strconv.ErrRange") :
    Calls Tryd.prog 9 #[.slice A len cap] W fun e w' => e = .returned (.bool true) ∧ Below W.heap.size W w' := by
  have hm := hr.le
  have hB := Lib.hid (lawBig.any A len cap W hm)
  unfold maxLen at hm
  by_cases h1 : 1048576 < len
  · clear hr hP hRg
    go_enter Tryd.func9, Tryd.ntmps9
    go_wp2_with fail
    refine hB.out.mono ?_
    rintro e w1 ⟨rfl, rfl⟩
    go_wp2_with fail
    go_ret
    exact ⟨rfl, Below.refl _ _⟩
  have HD := Lib.hid (draw.intText_any A len cap zs W hr (by omega))
  have HP := Lib.hid (fun w1 (hb : Below W.heap.size W w1) => hP.below hb)
  have HR := Lib.hid (fun w1 (hb : Below W.heap.size W w1) => hRg.below hb)
  have Hleast : Hid (∀ w, Below W.heap.size W w → Calls Tryd.prog 15 #[.string ⟨#[45, 57, 50, 50, 51, 51, 55, 50, 48, 51, 54, 56, 53, 52, 55, 55, 53, 56, 48, 56]⟩, .int .i64 0] w fun e w' => e = .returned (.tuple #[.int .i64 (-9223372036854775808), .int .i64 (20)]) ∧ Below w.heap.size w w') := by
    intro w hb
    have h := whole.impl_whole ⟨#[45, 57, 50, 50, 51, 51, 55, 50, 48, 51, 54, 56, 53, 52, 55, 55, 53, 56, 48, 56]⟩ 0 w (by decide) (HR.out w hb)
    rw [whole.least_w] at h
    exact h
  have Hpart : Hid (∀ w, Below W.heap.size W w → Calls Tryd.prog 15 #[.string ⟨#[49, 46, 53]⟩, .int .i64 0] w fun e w' => e = .returned (.tuple #[.int .i64 (0), .int .i64 (-1)]) ∧ Below w.heap.size w w') := by
    intro w hb
    have h := whole.impl_whole ⟨#[49, 46, 53]⟩ 0 w (by decide) (HR.out w hb)
    rw [whole.part_w] at h
    exact h
  have Hpower : Hid (∀ w, Below W.heap.size W w → Calls Tryd.prog 15 #[.string ⟨#[49, 101, 51]⟩, .int .i64 0] w fun e w' => e = .returned (.tuple #[.int .i64 (0), .int .i64 (-1)]) ∧ Below w.heap.size w w') := by
    intro w hb
    have h := whole.impl_whole ⟨#[49, 101, 51]⟩ 0 w (by decide) (HR.out w hb)
    rw [whole.power_w] at h
    exact h
  have Hnought : Hid (∀ w, Below W.heap.size W w → Calls Tryd.prog 15 #[.string ⟨#[48, 49]⟩, .int .i64 0] w fun e w' => e = .returned (.tuple #[.int .i64 (0), .int .i64 (-1)]) ∧ Below w.heap.size w w') := by
    intro w hb
    have h := whole.impl_whole ⟨#[48, 49]⟩ 0 w (by decide) (HR.out w hb)
    rw [whole.nought_w] at h
    exact h
  have Habove : Hid (∀ w, Below W.heap.size W w → Calls Tryd.prog 15 #[.string ⟨#[57, 50, 50, 51, 51, 55, 50, 48, 51, 54, 56, 53, 52, 55, 55, 53, 56, 48, 56]⟩, .int .i64 0] w fun e w' => e = .returned (.tuple #[.int .i64 (0), .int .i64 (-1)]) ∧ Below w.heap.size w w') := by
    intro w hb
    have h := whole.impl_whole ⟨#[57, 50, 50, 51, 51, 55, 50, 48, 51, 54, 56, 53, 52, 55, 55, 53, 56, 48, 56]⟩ 0 w (by decide) (HR.out w hb)
    rw [whole.above_w] at h
    exact h
  clear hr hP hRg
  go_enter Tryd.func9, Tryd.ntmps9
  go_wp2_with fail
  refine hB.out.mono ?_
  rintro e w1 ⟨rfl, rfl⟩
  clear hB
  go_wp2_with fail
  refine HD.out.mono ?_
  rintro e w1 ⟨n, hn, rfl, hb1⟩
  clear HD
  obtain ⟨n0, n1⟩ : -9223372036854775808 ≤ n ∧ n ≤ 9223372036854775807 := by unfold draw.I64 at hn; omega
  have HT := Lib.hid (fun w hp => decimal.impl_any n w n0 n1 hp)
  have hbk := whole.back n n0 n1
  have hlen := whole.itoa_le n n0 n1
  generalize (⟨(Lib.itoa n).toArray⟩ : ByteArray) = t at HT hbk hlen
  have Hb1 := Lib.hid hb1
  have HW : Hid (∀ w, Below W.heap.size W w → Calls Tryd.prog 15 #[.string (t ++ ⟨#[32]⟩), .int .i64 0] w fun e w' => e = .returned (.tuple #[.int .i64 n, .int .i64 (t.size : Int)]) ∧ Below w.heap.size w w') := by
    intro w hb
    have hz : (t ++ ⟨#[32]⟩).size = t.size + 1 := by rw [ByteArray.size_append]; rfl
    have h := whole.impl_whole (t ++ ⟨#[32]⟩) 0 w (by omega) (HR.out w hb)
    rw [hbk] at h
    exact h
  have hadd : ¬ 9223372036854775807 < t.size + 1 := by omega
  clear hb1 hbk hn
  go_wp2_with fail
  refine (HT.out _ (HP.out _ Hb1.out)).mono ?_
  rintro e w2 ⟨rfl, hb2⟩
  have Hb2 := Lib.hid (Hb1.out.trans (hb2.mono Hb1.out.size))
  clear hb2 Hb1
  go_wp2_with fail
  refine (HW.out _ Hb2.out).mono ?_
  rintro e w3 ⟨rfl, hb3⟩
  have Hb3 := Lib.hid (Hb2.out.trans (hb3.mono Hb2.out.size))
  clear hb3 Hb2 HW
  go_wp2_with fail
  refine (Hleast.out _ Hb3.out).mono ?_
  rintro e w4 ⟨rfl, hb4⟩
  have Hb4 := Lib.hid (Hb3.out.trans (hb4.mono Hb3.out.size))
  clear hb4 Hb3 Hleast
  go_wp2_with fail
  refine (Hpart.out _ Hb4.out).mono ?_
  rintro e w5 ⟨rfl, hb5⟩
  have Hb5 := Lib.hid (Hb4.out.trans (hb5.mono Hb4.out.size))
  clear hb5 Hb4 Hpart
  go_wp2_with fail
  refine (Hpower.out _ Hb5.out).mono ?_
  rintro e w6 ⟨rfl, hb6⟩
  have Hb6 := Lib.hid (Hb5.out.trans (hb6.mono Hb5.out.size))
  clear hb6 Hb5 Hpower
  go_wp2_with fail
  refine (Hnought.out _ Hb6.out).mono ?_
  rintro e w7 ⟨rfl, hb7⟩
  have Hb7 := Lib.hid (Hb6.out.trans (hb7.mono Hb6.out.size))
  clear hb7 Hb6 Hnought
  go_wp2_with fail
  refine (Habove.out _ Hb7.out).mono ?_
  rintro e w8 ⟨rfl, hb8⟩
  have Hb8 := Lib.hid (Hb7.out.trans (hb8.mono Hb7.out.size))
  clear hb8 Hb7 Habove
  go_wp2_with fail
  refine (HT.out _ (HP.out _ Hb8.out)).mono ?_
  rintro e w9 ⟨rfl, hb9⟩
  have Hb9 := Lib.hid (Hb8.out.trans (hb9.mono Hb8.out.size))
  clear hb9 Hb8
  go_wp2_with fail
  go_ret
  exact ⟨rfl, Hb9.out⟩
end Go.Proofs.YtamlkieeiflgkaaDoor.fnWholes
