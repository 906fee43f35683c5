/- impl.NormalAmount. -/
import Derived.Test.YtiibldfkefihlaaDoorReadAmtI
import Derived.Test.YtiibldfkefihlaaDoorAmtTextI
namespace Go.Proofs.YtiibldfkefihlaaDoor.amount
open Go.ChangeShapes Go.WideShapes Go.ChangeAt Go.RowKit
set_option linter.unusedVariables false

theorem impl_norm (s : ByteArray) (w : World) (hs : s.size ≤ maxLen) (hE : readnum.ErrVar w "strconv.ErrSyntax") (hR : readnum.ErrVar w "strconv.ErrRange") (hP : decimal.Pow w) :
    Calls Tryd.prog 13 #[.string s] w fun e w' => e = .returned (.tuple #[.string (normF s).1, .int .i64 (normF s).2]) ∧ Below w.heap.size w w' := by
  have hbd := read_bd s
  have HR := Lib.hid (impl_read s w hs hE hR hP)
  have HT := Lib.hid (fun n w1 h0 h1 (hb : Below w.heap.size w w1) => impl_text n w1 h0 h1 (hP.below hb))
  clear hE hR hP
  unfold normF
  generalize (readF s).1 = x at HR hbd ⊢
  generalize (readF s).2 = c at HR hbd ⊢
  by_cases hc : c = 0
  · subst hc
    rw [if_pos rfl]
    have H1 := Lib.hid (fun w1 hb => HT.out x w1 (by omega) (by omega) hb)
    clear HT hbd
    go_enter Tryd.func13, Tryd.ntmps13
    go_wp2_with fail
    refine HR.out.mono ?_
    rintro e w1 ⟨rfl, hb1⟩
    go_wp2_with fail
    refine (H1.out _ hb1).mono ?_
    rintro e w2 ⟨rfl, hb2⟩
    go_wp2_with fail
    go_ret2
    exact ⟨rfl, hb1.trans (hb2.mono hb1.size)⟩
  · rw [if_neg hc]
    have hne : (c != 0) = true := by simpa using hc
    clear HT hbd
    go_enter Tryd.func13, Tryd.ntmps13
    go_wp2_with fail
    refine HR.out.mono ?_
    rintro e w1 ⟨rfl, hb1⟩
    go_wp2_with fail
    go_ret2
    exact ⟨rfl, hb1⟩
end Go.Proofs.YtiibldfkefihlaaDoor.amount
