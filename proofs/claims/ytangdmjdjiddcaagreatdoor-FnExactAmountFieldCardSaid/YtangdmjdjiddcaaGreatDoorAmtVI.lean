/- impl.amountValue. Printed by gen/gen_ifields.py. -/
import Derived.Test.YtangdmjdjiddcaaGreatDoorFieldN
import Derived.Test.YtangdmjdjiddcaaGreatDoorReadAmtI
import Derived.Test.YtangdmjdjiddcaaGreatDoorGA2
import Derived.Test.YtangdmjdjiddcaaGreatDoorGA5
import Derived.Test.YtangdmjdjiddcaaGreatDoorGA3
import Derived.Test.YtangdmjdjiddcaaGreatDoorRows
import Derived.ProofKit
import Derived.OpenShut
namespace Go.Proofs.YtangdmjdjiddcaaGreatDoor.field
open Go.ChangeShapes Go.WideShapes Go.ChangeAt Go.RowKit tree
set_option linter.unusedVariables false
set_option linter.unusedSimpArgs false

theorem int_bd {n : Int} (h : (Lit.int .i64 n).wf = true) : -9223372036854775808 ≤ n ∧ n ≤ 9223372036854775807 := by
  have e1 : IntKind.i64.min = -9223372036854775808 := rfl
  have e2 : IntKind.i64.max = 9223372036854775807 := rfl
  simp [Lit.wf, e1, e2] at h
  exact h
theorem amount_text (s : ByteArray) (w : World) (hs : s.size ≤ maxLen) (hPw : decimal.Pow w) (hRg : readnum.ErrVar w "strconv.ErrRange") (hSx : readnum.ErrVar w "strconv.ErrSyntax") :
    Calls Tryz.prog 48 #[.string s] w fun e w' => e = .returned (.tuple #[.int .i64 (amtR s).1, .int .i64 (amtR s).2]) ∧ Below w.heap.size w w' := by
  have HR := Lib.hid (amount.impl_read s w hs hSx hRg hPw)
  have hbd := (amount.read_bd s).2.2
  unfold amtR
  obtain ⟨R, hR⟩ : ∃ R, amount.readF s = R := ⟨_, rfl⟩
  rw [hR] at HR hbd ⊢
  clear hR hs hPw hRg hSx
  obtain ⟨rv, rc⟩ := R
  simp only at HR hbd ⊢
  by_cases h1 : rc = 1
  · subst h1
    rw [if_pos rfl]
    clear hbd
    go_enter Tryz.func48, Tryz.ntmps48
    go_wp2_with fail
    refine HR.out.mono ?_
    rintro e w1 ⟨rfl, hb1⟩
    go_wp2_with fail
    go_ret2
    exact ⟨rfl, hb1⟩
  rw [if_neg h1]
  by_cases h2 : rc = 2
  · subst h2
    rw [if_pos (by decide)]
    clear hbd
    go_enter Tryz.func48, Tryz.ntmps48
    go_wp2_with fail
    refine HR.out.mono ?_
    rintro e w1 ⟨rfl, hb1⟩
    go_wp2_with fail
    go_ret2
    exact ⟨rfl, hb1⟩
  · obtain rfl : rc = 0 := by omega
    rw [if_neg (by decide)]
    clear hbd h1 h2
    go_enter Tryz.func48, Tryz.ntmps48
    go_wp2_with fail
    refine HR.out.mono ?_
    rintro e w1 ⟨rfl, hb1⟩
    go_wp2_with fail
    go_ret2
    exact ⟨rfl, hb1⟩
theorem amount_units (n : Int) (w : World) (hn : -9223372036854775808 ≤ n ∧ n ≤ 9223372036854775807) :
    Calls Tryz.prog 49 #[.int .i64 n] w fun e w' => e = .returned (.tuple #[.int .i64 (numR n).1, .int .i64 (numR n).2]) ∧ Below w.heap.size w w' := by
  unfold numR
  by_cases h0 : n < 0
  · rw [if_pos h0]
    go_enter Tryz.func49, Tryz.ntmps49
    go_wp2_with fail
    go_ret2
    exact ⟨rfl, Below.refl _ _⟩
  rw [if_neg h0]
  have HM := Lib.hid (arith.impl_mul n 1000 w hn (by decide))
  cases hm : arith.mulF n 1000 with
  | none =>
    rw [hm, arith.two_none] at HM
    clear hm hn
    go_enter Tryz.func49, Tryz.ntmps49
    go_wp2_with fail
    refine HM.out.mono ?_
    rintro e w1 ⟨rfl, rfl⟩
    go_wp2_with fail
    go_ret2
    exact ⟨rfl, Below.refl _ _⟩
  | some x =>
    rw [hm, arith.two_some] at HM
    clear hm hn
    go_enter Tryz.func49, Tryz.ntmps49
    go_wp2_with fail
    refine HM.out.mono ?_
    rintro e w1 ⟨rfl, rfl⟩
    go_wp2_with fail
    go_ret2
    exact ⟨rfl, Below.refl _ _⟩
set_option maxRecDepth 100000 in
set_option maxHeartbeats 16000000 in
theorem amount_value {f : Nat} (K : T) (us : List Value) (w : World) (h : LiesS w f us (row K)) (hPw : decimal.Pow w) (hRg : readnum.ErrVar w "strconv.ErrRange") (hSx : readnum.ErrVar w "strconv.ErrSyntax") :
    Calls Tryz.prog 29 #[.agg us.toArray] w fun e w' => e = .returned (.tuple #[.int .i64 (amountR K).1, .int .i64 (amountR K).2]) ∧ Below w.heap.size w w' := by
  obtain ⟨kk, fl, n, s, ks, kids⟩ := K
  obtain ⟨A1, c1, A2, c2, rfl, wk, wn, ws, hc1, hc2, _, _, hc3, hc4, f', rfl, hkd⟩ := open_tree h
  obtain ⟨w1, hw1⟩ : ∃ w1, w1 = w.alloc (.cells #[.int .i64 kk, .bool fl, .int .i64 n, .string s, .slice A1 ks.length c1, .slice A2 kids.length c2] 27) := ⟨_, rfl⟩
  have hb1 : Below w.heap.size w w1 := by subst hw1; exact (Below.refl _ _).alloc (Nat.le_refl _) _
  have h10 : w1.heap[w.heap.size]? = some (.cells #[.int .i64 kk, .bool fl, .int .i64 n, .string s, .slice A1 ks.length c1, .slice A2 kids.length c2] 27 (0, 0)) := by subst hw1; exact heap_alloc_new w _
  have Hb1 := Lib.hid hb1
  have Hw1 := Lib.hid hw1
  obtain ⟨p0, p1, p2, p3, p4, p5⟩ := Row6.of h10
  rw [Hw1.out] at p0 p1 p2 p3 p4 p5
  have HT := Lib.hid (amount_text s w1 ws (hPw.below hb1) (hRg.below hb1) (hSx.below hb1))
  have HU := Lib.hid (amount_units n w1 (int_bd wn))
  obtain ⟨R, hR⟩ : ∃ R, amountR (.mk kk fl n s ks kids) = R := ⟨_, rfl⟩
  rw [hR]
  unfold amountR at hR
  simp only [T.kind, T.text, T.num] at hR
  have HR := Lib.hid hR
  clear h hb1 hw1 h10 hR hkd hPw hRg hSx
  by_cases h4 : kk = 4
  · subst h4
    have HR2 := Lib.hid (HR.out.symm.trans (if_pos rfl))
    clear HR HU
    obtain ⟨Q, hQ⟩ : ∃ Q, amtR s = Q := ⟨_, rfl⟩
    rw [hQ] at HT HR2
    have hE : R = Q := HR2.out
    subst hE
    clear HR2 hQ
    go_enter Tryz.func29, Tryz.ntmps29
    go_wp2_with fail
    rw [← Hw1.out]
    refine HT.out.mono ?_
    rintro e w2 ⟨rfl, hb2⟩
    have Hb2 := Lib.hid (below_link Hb1.out hb2 Hb1.out.size)
    clear hb2 HT p0 p1 p2 p3 p4 p5 Hw1
    go_wp2_with fail
    go_ret2
    exact ⟨rfl, Hb2.out⟩
  by_cases h3 : kk = 3
  · subst h3
    have HR2 := Lib.hid (HR.out.symm.trans ((if_neg h4).trans (if_pos rfl)))
    clear HR HT h4
    obtain ⟨Q, hQ⟩ : ∃ Q, numR n = Q := ⟨_, rfl⟩
    rw [hQ] at HU HR2
    have hE : R = Q := HR2.out
    subst hE
    clear HR2 hQ
    go_enter Tryz.func29, Tryz.ntmps29
    go_wp2_with fail
    rw [← Hw1.out]
    refine HU.out.mono ?_
    rintro e w2 ⟨rfl, hb2⟩
    have Hb2 := Lib.hid (below_link Hb1.out hb2 Hb1.out.size)
    clear hb2 HU p0 p1 p2 p3 p4 p5 Hw1
    go_wp2_with fail
    go_ret2
    exact ⟨rfl, Hb2.out⟩
  · have hE : R = (0, 11) := HR.out.symm.trans ((if_neg h4).trans (if_neg h3))
    subst hE
    have e4 : (kk == 4) = false := by simpa using h4
    have e3 : (kk == 3) = false := by simpa using h3
    clear HR HT HU
    go_enter Tryz.func29, Tryz.ntmps29
    go_wp2_with fail
    rw [← Hw1.out]
    go_ret2
    exact ⟨rfl, Hb1.out⟩
end Go.Proofs.YtangdmjdjiddcaaGreatDoor.field
