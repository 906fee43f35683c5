/- FnExactRunesOf: for every string the law returns true. -/
import Derived.Test.YtdakjocgobfekaaDoorRnsI
import Derived.Test.YtdakjocgobfekaaDoorRnsS
import Derived.Test.YtdakjocgobfekaaDoorMarkInt
namespace Go.Proofs.YtdakjocgobfekaaDoor.rune
open Go Go.RowKit
theorem cut_len {s : ByteArray} : ∀ {b p : Nat} {l : List Int}, cut s b p = some l → l.length ≤ b := by
  intro b
  induction b with
  | zero =>
    intro p l h
    by_cases hp : p < s.size
    · simp [cut, hp] at h
    · rw [cut_end (by omega)] at h
      cases h
      exact Nat.le_refl _
  | succ b ih =>
    intro p l h
    by_cases hp : p < s.size
    · by_cases hn : (atF s (p : Int)).2 < 0
      · rw [cut_none hp hn] at h
        cases h
      · obtain ⟨n, hi, e⟩ := at_next hn
        rw [cut_step hi] at h
        cases hc : cut s b (p + (enc n).length) with
        | none => rw [hc] at h; cases h
        | some r =>
          rw [hc] at h
          cases h
          have := ih hc
          simp
          omega
    · rw [cut_end (by omega)] at h
      cases h
      exact Nat.zero_le _
theorem res_le (s : ByteArray) : (resL s).length ≤ s.size := by
  cases h : runesF s with
  | none => rw [(res_none h).1]; exact Nat.zero_le _
  | some l => rw [(res_some h).1]; exact cut_len h
end Go.Proofs.YtdakjocgobfekaaDoor.rune
namespace Go.Proofs.YtdakjocgobfekaaDoor.fnExactRunesOf
open Go.ChangeShapes Go.WideShapes Go.ChangeAt Go.RowKit
set_option linter.unusedVariables false

theorem walk (s : ByteArray) (W : World) (hs : s.size ≤ maxLen) (hT : rune.Tabs W) :
    Calls Tryd.prog 6 #[.string s] W fun e w' => e = .returned (.bool true) ∧ Below W.heap.size W w' := by
  have hm := hs
  unfold maxLen at hm
  by_cases h1 : 1048576 < s.size
  · go_enter Tryd.func6, Tryd.ntmps6
    go_wp2_with fail
    go_ret
    exact ⟨rfl, Below.refl _ _⟩
  · have hs9 : s.size ≤ 1048576 := by omega
    have HT := Lib.hid hT
    clear hT
    have HS := Lib.hid (fun w1 => rune.spec_runes s w1 hs9)
    have HI := Lib.hid (fun w1 h => rune.impl_runes s w1 hs9 h)
    have hlen := rune.res_le s
    generalize rune.resL s = L at HS HI hlen
    generalize rune.okS s = b at HS HI
    go_enter Tryd.func6, Tryd.ntmps6
    go_wp2_with fail
    refine (HS.out _).mono ?_
    rintro e w1 ⟨v0, rfl, hv0, hb1⟩
    have HT1 := Lib.hid (HT.out.below hb1)
    obtain ⟨A0, c0, rfl, hn0, hc0, hr0⟩ := Rd.of_own hv0
    clear hv0
    go_wp2_with fail
    refine (HI.out _ HT1.out).mono ?_
    rintro e w2 ⟨v1, rfl, hv1, hb2⟩
    obtain ⟨A1, c1, rfl, hn1, hc1, hr1⟩ := Rd.of_own hv1
    have hr0b := hr0.below hb2
    go_wp2_with fail
    refine (lawInt.eq_yes _ _ _ _ _ L _ (by unfold maxLen; omega) rfl hr1 hr0b).mono ?_
    rintro e w2' ⟨rfl, q, rfl⟩
    have hv1' : (w2.drewN q).ownsRow w1.heap.size 3 1 (.slice A1 L.length c1) L.length (icells L) := hv1
    have hb2' : Below w1.heap.size w1 (w2.drewN q) := below_drewN hb2 q
    generalize w2.drewN q = w3 at hv1' hb2'
    clear hv1 hb2 hr0b hr1
    go_wp2_with fail
    refine (lawInt.mark_any _ _ _ _ _ _ hv1' (by omega) (by omega)).mono ?_
    rintro e w4 ⟨rfl, hv4, hg4⟩
    have hb4 : Below w1.heap.size w1 w4 := hb2'.grown hg4 hb2'.size (fun k hk => (hv1'.lt k hk).1)
    obtain ⟨A4, c4, hA4, _, _, hr4⟩ := Rd.of_own hv4
    obtain ⟨rfl, rfl⟩ : A1 = A4 ∧ c1 = c4 := by injection hA4 with h1 h2 h3; exact ⟨h1, h3⟩
    clear hv1' hb2' hg4 hv4 hA4
    go_wp2_with fail
    refine (lawInt.held_yes _ _ _ _ _ hr4 (by omega) (by omega)).mono ?_
    rintro e w5' ⟨rfl, q5, rfl⟩
    have hb5 : Below w4.heap.size w4 (w4.drewN q5) := below_drewN (Below.refl _ _) q5
    generalize w4.drewN q5 = w5 at hb5
    go_wp2_with fail
    refine (HI.out _ (HT1.out.below (hb4.trans (hb5.mono hb4.size)))).mono ?_
    rintro e w6 ⟨v2, rfl, hv2, hb6⟩
    obtain ⟨A2, c2, rfl, hn2, hc2, hr2⟩ := Rd.of_own hv2
    have hb46 : Below w4.heap.size w4 w6 := hb5.trans (hb6.mono hb5.size)
    have hb16 : Below w1.heap.size w1 w6 := hb4.trans (hb46.mono hb4.size)
    have hr0c := hr0.below hb16
    have hr4c := hr4.below hb46
    go_wp2_with fail
    refine (lawInt.eq_yes _ _ _ _ _ L _ (by unfold maxLen; omega) rfl hr2 hr0c).mono ?_
    rintro e w6' ⟨rfl, q2, rfl⟩
    go_wp2_with fail
    refine (lawInt.held_yes _ _ _ _ _ (hr4c.drewN q2) (by omega) (by omega)).mono ?_
    rintro e w7 ⟨rfl, q7, rfl⟩
    go_wp2_with fail
    go_ret
    exact ⟨rfl, hb1.trans (below_drewN (hb16.mono hb1.size) _)⟩
end Go.Proofs.YtdakjocgobfekaaDoor.fnExactRunesOf
