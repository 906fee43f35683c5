/- impl.CompareAmounts. -/
import Derived.Test.YtiibldfkefihlaaDoorReadAmtI
import Derived.Test.YtiibldfkefihlaaDoorCmpI
namespace Go.Proofs.YtiibldfkefihlaaDoor.amount
open Go.ChangeShapes Go.WideShapes Go.ChangeAt Go.RowKit
set_option linter.unusedVariables false

theorem impl_ord (s t : ByteArray) (w : World) (hs : s.size ≤ maxLen) (ht : t.size ≤ maxLen) (hE : readnum.ErrVar w "strconv.ErrSyntax") (hR : readnum.ErrVar w "strconv.ErrRange") (hP : decimal.Pow w) :
    Calls Tryd.prog 14 #[.string s, .string t] w fun e w' => e = .returned (.tuple #[.int .i64 (ordF s t).1, .bool (ordF s t).2]) ∧ Below w.heap.size w w' := by
  have HR := Lib.hid (impl_read s w hs hE hR hP)
  have HT := Lib.hid (fun w1 (hb : Below w.heap.size w w1) => impl_read t w1 ht (hE.below hb) (hR.below hb) (hP.below hb))
  clear hE hR hP hs ht
  unfold ordF
  generalize (readF s).1 = x at HR ⊢
  generalize (readF s).2 = c at HR ⊢
  generalize (readF t).1 = y at HT ⊢
  generalize (readF t).2 = d at HT ⊢
  have HC := Lib.hid (fun w1 => arith.impl_cmp x y w1)
  by_cases hc : c = 0
  · subst hc
    by_cases hd : d = 0
    · subst hd
      rw [if_pos ⟨rfl, rfl⟩]
      go_enter Tryd.func14, Tryd.ntmps14
      go_wp2_with fail
      refine HR.out.mono ?_
      rintro e w1 ⟨rfl, hb1⟩
      go_wp2_with fail
      refine (HT.out _ hb1).mono ?_
      rintro e w2 ⟨rfl, hb2⟩
      go_wp2_with fail
      refine (HC.out _).mono ?_
      rintro e w3 ⟨rfl, rfl⟩
      go_wp2_with fail
      go_ret2
      exact ⟨rfl, hb1.trans (hb2.mono hb1.size)⟩
    · rw [if_neg (fun h => hd h.2)]
      have hne : (d != 0) = true := by simpa using hd
      clear HC
      go_enter Tryd.func14, Tryd.ntmps14
      go_wp2_with fail
      refine HR.out.mono ?_
      rintro e w1 ⟨rfl, hb1⟩
      go_wp2_with fail
      refine (HT.out _ hb1).mono ?_
      rintro e w2 ⟨rfl, hb2⟩
      go_wp2_with fail
      go_ret2
      exact ⟨rfl, hb1.trans (hb2.mono hb1.size)⟩
  · rw [if_neg (fun h => hc h.1)]
    have hne : (c != 0) = true := by simpa using hc
    clear HC
    go_enter Tryd.func14, Tryd.ntmps14
    go_wp2_with fail
    refine HR.out.mono ?_
    rintro e w1 ⟨rfl, hb1⟩
    go_wp2_with fail
    refine (HT.out _ hb1).mono ?_
    rintro e w2 ⟨rfl, hb2⟩
    go_wp2_with fail
    go_ret2
    exact ⟨rfl, hb1.trans (hb2.mono hb1.size)⟩
end Go.Proofs.YtiibldfkefihlaaDoor.amount
