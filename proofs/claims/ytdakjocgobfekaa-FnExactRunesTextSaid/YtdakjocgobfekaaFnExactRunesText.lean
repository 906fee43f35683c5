/- FnExactRunesText: for every list of ints the law returns true. -/
import Derived.Test.YtdakjocgobfekaaRtI
import Derived.Test.YtdakjocgobfekaaRtS
import Derived.Test.YtdakjocgobfekaaLawInt
namespace Go.Proofs.Ytdakjocgobfekaa.fnExactRunesText
open Go.ChangeShapes Go.WideShapes Go.ChangeAt Go.RowKit
set_option linter.unusedVariables false

theorem walk (A : Option Addr) (len cap : Nat) (zs : List Int) (W : World) (hr : IsRow .i64 W A len cap zs) :
    Calls Try.prog 5 #[.slice A len cap] W fun e w' => e = .returned (.bool true) ∧ Below W.heap.size W w' := by
  have hm := hr.le
  unfold maxLen at hm
  by_cases h1 : 1048576 < len
  · clear hr
    go_enter Try.func5, Try.ntmps5
    go_wp2_with fail
    go_ret
    exact ⟨rfl, Below.refl _ _⟩
  obtain ⟨hrd, hll, hwf⟩ := Rd.of_row hr
  generalize zs.take len = l at hrd hll hwf
  have hml : len ≤ maxLen := by unfold maxLen; omega
  have HT := Lib.hid (fun w (h : Rd w A len (icells l)) => lawInt.to_any A len cap l w (by omega) hll h)
  have HS := Lib.hid (fun g w (h : Rd w (some ⟨g, 0, none⟩) len (icells l)) => rune.spec_join (some ⟨g, 0, none⟩) len len l w (by omega) hll h hwf)
  have HI := Lib.hid (fun g w (h : Rd w (some ⟨g, 0, none⟩) len (icells l)) => rune.impl_join (some ⟨g, 0, none⟩) len len l w (by omega) hll h)
  have HE := Lib.hid (fun g1 g2 w (h1 : Rd w (some ⟨g1, 0, none⟩) len (icells l)) (h2 : Rd w (some ⟨g2, 0, none⟩) len (icells l)) => lawInt.eq_yes (some ⟨g1, 0, none⟩) (some ⟨g2, 0, none⟩) len len len l w hml hll h1 h2)
  have Hrd := Lib.hid hrd
  generalize rune.joinF l = o at HS HI
  clear hrd hll hwf hr hml
  go_enter Try.func5, Try.ntmps5
  go_wp2_with fail
  refine (HT.out W Hrd.out).mono ?_
  rintro e w1 ⟨g1, rfl, hown1, hb1⟩
  have R1 := Lib.hid (lawInt.own_rd hown1)
  have HB1 := Lib.hid hb1
  clear hown1 hb1
  go_wp2_with fail
  refine (HS.out g1 w1 R1.out).mono ?_
  rintro e w1' ⟨rfl, hb1'⟩
  have HB1' := Lib.hid (HB1.out.trans (hb1'.mono HB1.out.size))
  clear hb1' HB1 R1
  go_wp2_with fail
  refine (HT.out w1' (Hrd.out.below HB1'.out)).mono ?_
  rintro e w2 ⟨g2, rfl, hown2, hb2⟩
  have R2 := Lib.hid (lawInt.own_rd hown2)
  have HB2 := Lib.hid (HB1'.out.trans (hb2.mono HB1'.out.size))
  clear hown2 hb2
  go_wp2_with fail
  refine (HI.out g2 w2 R2.out).mono ?_
  rintro e w2' ⟨rfl, hb2'⟩
  have HB2' := Lib.hid (HB2.out.trans (hb2'.mono HB2.out.size))
  have R2' := Lib.hid (R2.out.below hb2')
  clear hb2' HB2 R2
  go_wp2_with fail
  refine (HT.out w2' (Hrd.out.below HB2'.out)).mono ?_
  rintro e w3 ⟨g3, rfl, hown3, hb3⟩
  have R3 := Lib.hid (lawInt.own_rd hown3)
  have R2'' := Lib.hid (R2'.out.below hb3)
  have HB3 := Lib.hid (HB2'.out.trans (hb3.mono HB2'.out.size))
  clear hown3 hb3 R2'
  go_wp2_with fail
  refine (HE.out g2 g3 w3 R2''.out R3.out).mono ?_
  rintro e w4 ⟨rfl, q, rfl⟩
  go_wp2_with fail
  go_ret
  exact ⟨rfl, below_drewN HB3.out q⟩
end Go.Proofs.Ytdakjocgobfekaa.fnExactRunesText
