/- impl.ReadAmount. -/
import Derived.Test.YtangdmjdjiddcaaGreatDoorGA2
import Derived.Test.YtangdmjdjiddcaaGreatDoorGA1
namespace Go.Proofs.YtangdmjdjiddcaaGreatDoor.amount
open Go.ChangeShapes Go.WideShapes Go.ChangeAt Go.RowKit
set_option linter.unusedVariables false

theorem impl_read (s : ByteArray) (w : World) (hs : s.size ≤ maxLen) (hE : readnum.ErrVar w "strconv.ErrSyntax") (hR : readnum.ErrVar w "strconv.ErrRange") (hP : decimal.Pow w) :
    Calls Tryz.prog 69 #[.string s] w fun e w' => e = .returned (.tuple #[.int .i64 (readF s).1, .int .i64 (readF s).2]) ∧ Below w.heap.size w w' := by
  have hm := hs
  unfold maxLen at hm
  by_cases h1 : 40 < s.size
  · rw [read_long h1]
    clear hE hR hP
    go_enter Tryz.func69, Tryz.ntmps69
    go_wp2_with fail
    go_ret2
    exact ⟨rfl, Below.refl _ _⟩
  rw [read_short h1]
  have HS := Lib.hid (split.impl_any s w hs)
  have hf : (split.fst s).size ≤ 40 := by rw [split.fst_size]; have := split.lead_le s; omega
  have hr : (split.snd s).size ≤ 40 := by rw [split.snd_size]; omega
  generalize split.fst s = f at HS hf ⊢
  generalize split.snd s = r at HS hr ⊢
  have HU := Lib.hid (fun w => unit.impl_any r w (by unfold maxLen; omega))
  have HI := Lib.hid (fun w1 hb => readnum.int_any f w1 (by omega) (hE.below hb) (hR.below hb) (hP.below hb))
  clear hE hR hP hs
  have HD := Lib.hid (fun w => split.digits_any f w (by unfold maxLen; omega))
  cases hu : unit.unitF r with
  | none =>
    rw [g_unit hu]
    simp only [hu, arith.two_none] at HU
    clear hu HI HD
    go_enter Tryz.func69, Tryz.ntmps69
    go_wp2_with fail
    refine HS.out.mono ?_
    rintro e w1 ⟨rfl, hb1⟩
    go_wp2_with fail
    refine (HU.out _).mono ?_
    rintro e w2 ⟨rfl, hb2⟩
    have hb12 := hb1.trans (hb2.mono hb1.size)
    clear HS HU hb1 hb2
    go_wp2_with fail
    go_ret2
    exact ⟨rfl, hb12⟩
  | some u =>
    have hub := unit.unit_bd hu
    simp only [hu, arith.two_some] at HU
    by_cases he : f.size = 0 ∨ (1 < f.size ∧ at_ f 0 = 48)
    · rw [g_form he]
      simp only [split.okD_no he] at HD
      clear hu HI he
      go_enter Tryz.func69, Tryz.ntmps69
      go_wp2_with fail
      refine HS.out.mono ?_
      rintro e w1 ⟨rfl, hb1⟩
      go_wp2_with fail
      refine (HU.out _).mono ?_
      rintro e w2 ⟨rfl, hb2⟩
      have hb12 := hb1.trans (hb2.mono hb1.size)
      clear HS HU hb1 hb2
      go_wp2_with fail
      refine (HD.out _).mono ?_
      rintro e w ⟨rfl, rfl⟩
      clear HD
      go_wp2_with fail
      go_ret2
      exact ⟨rfl, hb12⟩
    have hd : split.okD f = true := split.okD_yes (by omega) (by omega)
    simp only [hd] at HD
    have HM := Lib.hid (fun w => arith.impl_mul (readnum.res 9223372036854775807 f) u w (by have := res_bd f; omega) (by omega))
    clear hd
    cases hfl : readnum.flag 9223372036854775807 f with
    | false =>
      rw [g_far hu he hfl]
      simp only [hfl] at HI
      generalize readnum.res 9223372036854775807 f = q at *
      clear hu he hfl HM hub
      go_enter Tryz.func69, Tryz.ntmps69
      go_wp2_with fail
      refine HS.out.mono ?_
      rintro e w1 ⟨rfl, hb1⟩
      go_wp2_with fail
      refine (HU.out _).mono ?_
      rintro e w2 ⟨rfl, hb2⟩
      have hb12 := hb1.trans (hb2.mono hb1.size)
      clear HS HU hb1 hb2
      go_wp2_with fail
      refine (HD.out _).mono ?_
      rintro e w ⟨rfl, rfl⟩
      clear HD
      go_wp2_with fail
      refine (HI.out _ hb12).mono ?_
      rintro e w3 ⟨rfl, hb3⟩
      have hb13 := hb12.trans (hb3.mono hb12.size)
      clear HI hb12 hb3
      go_wp2_with fail
      go_ret2
      exact ⟨rfl, hb13⟩
    | true =>
      simp only [hfl] at HI
      cases hmu : arith.mulF (readnum.res 9223372036854775807 f) u with
      | none =>
        rw [g_much hu he hfl hmu]
        simp only [hmu, arith.two_none] at HM
        generalize readnum.res 9223372036854775807 f = q at *
        clear hu he hfl hmu hub
        go_enter Tryz.func69, Tryz.ntmps69
        go_wp2_with fail
        refine HS.out.mono ?_
        rintro e w1 ⟨rfl, hb1⟩
        go_wp2_with fail
        refine (HU.out _).mono ?_
        rintro e w2 ⟨rfl, hb2⟩
        have hb12 := hb1.trans (hb2.mono hb1.size)
        clear HS HU hb1 hb2
        go_wp2_with fail
        refine (HD.out _).mono ?_
        rintro e w ⟨rfl, rfl⟩
        clear HD
        go_wp2_with fail
        refine (HI.out _ hb12).mono ?_
        rintro e w3 ⟨rfl, hb3⟩
        have hb13 := hb12.trans (hb3.mono hb12.size)
        clear HI hb12 hb3
        go_wp2_with fail
        refine (HM.out _).mono ?_
        rintro e w4 ⟨rfl, rfl⟩
        clear HM
        go_wp2_with fail
        go_ret2
        exact ⟨rfl, hb13⟩
      | some x =>
        rw [g_yes hu he hfl hmu]
        simp only [hmu, arith.two_some] at HM
        generalize readnum.res 9223372036854775807 f = q at *
        clear hu he hfl hmu hub
        go_enter Tryz.func69, Tryz.ntmps69
        go_wp2_with fail
        refine HS.out.mono ?_
        rintro e w1 ⟨rfl, hb1⟩
        go_wp2_with fail
        refine (HU.out _).mono ?_
        rintro e w2 ⟨rfl, hb2⟩
        have hb12 := hb1.trans (hb2.mono hb1.size)
        clear HS HU hb1 hb2
        go_wp2_with fail
        refine (HD.out _).mono ?_
        rintro e w ⟨rfl, rfl⟩
        clear HD
        go_wp2_with fail
        refine (HI.out _ hb12).mono ?_
        rintro e w3 ⟨rfl, hb3⟩
        have hb13 := hb12.trans (hb3.mono hb12.size)
        clear HI hb12 hb3
        go_wp2_with fail
        refine (HM.out _).mono ?_
        rintro e w4 ⟨rfl, rfl⟩
        clear HM
        go_wp2_with fail
        go_ret2
        exact ⟨rfl, hb13⟩
end Go.Proofs.YtangdmjdjiddcaaGreatDoor.amount
