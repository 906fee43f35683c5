/- spec.ReadAmount. -/
import Derived.Test.YtiibldfkefihlaaDoorSplitS
import Derived.Test.YtiibldfkefihlaaDoorUnitS
import Derived.Test.YtiibldfkefihlaaDoorReadIntS
import Derived.Test.YtiibldfkefihlaaDoorMulS
import Derived.Test.YtiibldfkefihlaaDoorAmountM
namespace Go.Proofs.YtiibldfkefihlaaDoor.amount
open Go.ChangeShapes Go.WideShapes Go.ChangeAt Go.RowKit
set_option linter.unusedVariables false

theorem spec_read (s : ByteArray) (w : World) (hs : s.size ≤ maxLen) :
    Calls Tryd.prog 17 #[.string s] w fun e w' => e = .returned (.tuple #[.int .i64 (readF s).1, .int .i64 (readF s).2]) ∧ Below w.heap.size w w' := by
  have hm := hs
  unfold maxLen at hm
  by_cases h1 : 40 < s.size
  · rw [read_long h1]
    go_enter Tryd.func17, Tryd.ntmps17
    go_wp2_with fail
    go_ret2
    exact ⟨rfl, Below.refl _ _⟩
  rw [read_short h1]
  have HS := Lib.hid (split.spec_any s w hs)
  have hf : (split.fst s).size ≤ 40 := by rw [split.fst_size]; have := split.lead_le s; omega
  have hr : (split.snd s).size ≤ 40 := by rw [split.snd_size]; omega
  generalize split.fst s = f at HS hf ⊢
  generalize split.snd s = r at HS hr ⊢
  have HU := Lib.hid (fun w => unit.spec_any r w (by unfold maxLen; omega))
  have HI := Lib.hid (fun w1 => readnum.spec_int f w1 (by unfold maxLen; omega))
  clear hs
  cases hu : unit.unitF r with
  | none =>
    rw [g_unit hu]
    simp only [hu, arith.two_none] at HU
    clear hu HI
    by_cases he : f.size = 0
    · have he2 := empty_yes he
      go_enter Tryd.func17, Tryd.ntmps17
      go_wp2_with fail
      refine HS.out.mono ?_
      rintro e w1 ⟨rfl, hb1⟩
      go_wp2_with fail
      refine (HU.out _).mono ?_
      rintro e w2 ⟨rfl, hb2⟩
      have hb12 := hb1.trans (hb2.mono hb1.size)
      clear HS HU hb1 hb2
      go_wp2_with fail
      go_ret2
      exact ⟨rfl, hb12⟩
    have he2 := empty_no (f := f) (by omega)
    by_cases d1 : 1 < f.size
    · have ha := at_eq f 0 (by omega)
      by_cases d2 : at_ f 0 = 48
      · rw [d2] at ha
        go_enter Tryd.func17, Tryd.ntmps17
        go_wp2_with fail
        refine HS.out.mono ?_
        rintro e w1 ⟨rfl, hb1⟩
        go_wp2_with fail
        refine (HU.out _).mono ?_
        rintro e w2 ⟨rfl, hb2⟩
        have hb12 := hb1.trans (hb2.mono hb1.size)
        clear HS HU hb1 hb2
        go_wp2_with fail
        go_ret2
        exact ⟨rfl, hb12⟩
      · rw [← ha] at d2
        go_enter Tryd.func17, Tryd.ntmps17
        go_wp2_with fail
        refine HS.out.mono ?_
        rintro e w1 ⟨rfl, hb1⟩
        go_wp2_with fail
        refine (HU.out _).mono ?_
        rintro e w2 ⟨rfl, hb2⟩
        have hb12 := hb1.trans (hb2.mono hb1.size)
        clear HS HU hb1 hb2
        go_wp2_with fail
        go_ret2
        exact ⟨rfl, hb12⟩
    · skip
      go_enter Tryd.func17, Tryd.ntmps17
      go_wp2_with fail
      refine HS.out.mono ?_
      rintro e w1 ⟨rfl, hb1⟩
      go_wp2_with fail
      refine (HU.out _).mono ?_
      rintro e w2 ⟨rfl, hb2⟩
      have hb12 := hb1.trans (hb2.mono hb1.size)
      clear HS HU hb1 hb2
      go_wp2_with fail
      go_ret2
      exact ⟨rfl, hb12⟩
  | some u =>
    have hub := unit.unit_bd hu
    simp only [hu, arith.two_some] at HU
    by_cases he : f.size = 0
    · rw [g_form (.inl he)]
      have he2 := empty_yes he
      clear hu HI
      go_enter Tryd.func17, Tryd.ntmps17
      go_wp2_with fail
      refine HS.out.mono ?_
      rintro e w1 ⟨rfl, hb1⟩
      go_wp2_with fail
      refine (HU.out _).mono ?_
      rintro e w2 ⟨rfl, hb2⟩
      have hb12 := hb1.trans (hb2.mono hb1.size)
      clear HS HU hb1 hb2
      go_wp2_with fail
      go_ret2
      exact ⟨rfl, hb12⟩
    have he2 := empty_no (f := f) (by omega)
    by_cases c2 : 1 < f.size ∧ at_ f 0 = 48
    · rw [g_form (.inr c2)]
      have d1 := c2.1
      have ha : ((f[0]'(Nat.lt_trans Nat.zero_lt_one d1)).toNat : Int) = 48 := by rw [at_eq f 0 (by omega)]; exact c2.2
      clear hu HI c2
      go_enter Tryd.func17, Tryd.ntmps17
      go_wp2_with fail
      refine HS.out.mono ?_
      rintro e w1 ⟨rfl, hb1⟩
      go_wp2_with fail
      refine (HU.out _).mono ?_
      rintro e w2 ⟨rfl, hb2⟩
      have hb12 := hb1.trans (hb2.mono hb1.size)
      clear HS HU hb1 hb2
      go_wp2_with fail
      go_ret2
      exact ⟨rfl, hb12⟩
    have c3 : ¬ (f.size = 0 ∨ (1 < f.size ∧ at_ f 0 = 48)) := fun h => h.elim he c2
    have HM := Lib.hid (fun w => arith.spec_mul (readnum.res 9223372036854775807 f) u w (by have := res_bd f; omega) (by omega))
    have hd : f.size = 1 ∨ (1 < f.size ∧ ∃ h : 0 < f.size, ¬ ((f[0].toNat : Int) = 48)) := by
      by_cases d1 : 1 < f.size
      · exact .inr ⟨d1, by omega, fun e => c2 ⟨d1, by rw [← at_eq f 0 (by omega)]; exact e⟩⟩
      · exact .inl (by omega)
    clear c2
    cases hfl : readnum.flag 9223372036854775807 f with
    | false =>
      rw [g_far hu c3 hfl]
      simp only [hfl] at HI
      generalize readnum.res 9223372036854775807 f = q at *
      clear hu c3 hfl HM hub
      rcases hd with d1 | ⟨d1, d0, d2⟩
      · skip
        go_enter Tryd.func17, Tryd.ntmps17
        go_wp2_with fail
        refine HS.out.mono ?_
        rintro e w1 ⟨rfl, hb1⟩
        go_wp2_with fail
        refine (HU.out _).mono ?_
        rintro e w2 ⟨rfl, hb2⟩
        have hb12 := hb1.trans (hb2.mono hb1.size)
        clear HS HU hb1 hb2
        go_wp2_with fail
        refine (HI.out _).mono ?_
        rintro e w3 ⟨rfl, hb3⟩
        have hb13 := hb12.trans (hb3.mono hb12.size)
        clear HI hb12 hb3
        go_wp2_with fail
        go_ret2
        exact ⟨rfl, hb13⟩
      · skip
        go_enter Tryd.func17, Tryd.ntmps17
        go_wp2_with fail
        refine HS.out.mono ?_
        rintro e w1 ⟨rfl, hb1⟩
        go_wp2_with fail
        refine (HU.out _).mono ?_
        rintro e w2 ⟨rfl, hb2⟩
        have hb12 := hb1.trans (hb2.mono hb1.size)
        clear HS HU hb1 hb2
        go_wp2_with fail
        refine (HI.out _).mono ?_
        rintro e w3 ⟨rfl, hb3⟩
        have hb13 := hb12.trans (hb3.mono hb12.size)
        clear HI hb12 hb3
        go_wp2_with fail
        go_ret2
        exact ⟨rfl, hb13⟩
    | true =>
      simp only [hfl] at HI
      cases hmu : arith.mulF (readnum.res 9223372036854775807 f) u with
      | none =>
        rw [g_much hu c3 hfl hmu]
        simp only [hmu, arith.two_none] at HM
        generalize readnum.res 9223372036854775807 f = q at *
        clear hu c3 hfl hmu hub
        rcases hd with d1 | ⟨d1, d0, d2⟩
        · skip
          go_enter Tryd.func17, Tryd.ntmps17
          go_wp2_with fail
          refine HS.out.mono ?_
          rintro e w1 ⟨rfl, hb1⟩
          go_wp2_with fail
          refine (HU.out _).mono ?_
          rintro e w2 ⟨rfl, hb2⟩
          have hb12 := hb1.trans (hb2.mono hb1.size)
          clear HS HU hb1 hb2
          go_wp2_with fail
          refine (HI.out _).mono ?_
          rintro e w3 ⟨rfl, hb3⟩
          have hb13 := hb12.trans (hb3.mono hb12.size)
          clear HI hb12 hb3
          go_wp2_with fail
          refine (HM.out _).mono ?_
          rintro e w4 ⟨rfl, rfl⟩
          clear HM
          go_wp2_with fail
          go_ret2
          exact ⟨rfl, hb13⟩
        · skip
          go_enter Tryd.func17, Tryd.ntmps17
          go_wp2_with fail
          refine HS.out.mono ?_
          rintro e w1 ⟨rfl, hb1⟩
          go_wp2_with fail
          refine (HU.out _).mono ?_
          rintro e w2 ⟨rfl, hb2⟩
          have hb12 := hb1.trans (hb2.mono hb1.size)
          clear HS HU hb1 hb2
          go_wp2_with fail
          refine (HI.out _).mono ?_
          rintro e w3 ⟨rfl, hb3⟩
          have hb13 := hb12.trans (hb3.mono hb12.size)
          clear HI hb12 hb3
          go_wp2_with fail
          refine (HM.out _).mono ?_
          rintro e w4 ⟨rfl, rfl⟩
          clear HM
          go_wp2_with fail
          go_ret2
          exact ⟨rfl, hb13⟩
      | some x =>
        rw [g_yes hu c3 hfl hmu]
        simp only [hmu, arith.two_some] at HM
        generalize readnum.res 9223372036854775807 f = q at *
        clear hu c3 hfl hmu hub
        rcases hd with d1 | ⟨d1, d0, d2⟩
        · skip
          go_enter Tryd.func17, Tryd.ntmps17
          go_wp2_with fail
          refine HS.out.mono ?_
          rintro e w1 ⟨rfl, hb1⟩
          go_wp2_with fail
          refine (HU.out _).mono ?_
          rintro e w2 ⟨rfl, hb2⟩
          have hb12 := hb1.trans (hb2.mono hb1.size)
          clear HS HU hb1 hb2
          go_wp2_with fail
          refine (HI.out _).mono ?_
          rintro e w3 ⟨rfl, hb3⟩
          have hb13 := hb12.trans (hb3.mono hb12.size)
          clear HI hb12 hb3
          go_wp2_with fail
          refine (HM.out _).mono ?_
          rintro e w4 ⟨rfl, rfl⟩
          clear HM
          go_wp2_with fail
          go_ret2
          exact ⟨rfl, hb13⟩
        · skip
          go_enter Tryd.func17, Tryd.ntmps17
          go_wp2_with fail
          refine HS.out.mono ?_
          rintro e w1 ⟨rfl, hb1⟩
          go_wp2_with fail
          refine (HU.out _).mono ?_
          rintro e w2 ⟨rfl, hb2⟩
          have hb12 := hb1.trans (hb2.mono hb1.size)
          clear HS HU hb1 hb2
          go_wp2_with fail
          refine (HI.out _).mono ?_
          rintro e w3 ⟨rfl, hb3⟩
          have hb13 := hb12.trans (hb3.mono hb12.size)
          clear HI hb12 hb3
          go_wp2_with fail
          refine (HM.out _).mono ?_
          rintro e w4 ⟨rfl, rfl⟩
          clear HM
          go_wp2_with fail
          go_ret2
          exact ⟨rfl, hb13⟩
end Go.Proofs.YtiibldfkefihlaaDoor.amount
