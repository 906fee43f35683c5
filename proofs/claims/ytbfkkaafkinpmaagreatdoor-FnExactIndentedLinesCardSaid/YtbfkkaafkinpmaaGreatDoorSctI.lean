/- impl.ScalarText. Printed by gen/gen_sct.py. -/
import Derived.Test.YtbfkkaafkinpmaaGreatDoorGBk
import Derived.Test.YtbfkkaafkinpmaaGreatDoorKtI
import Derived.Test.YtbfkkaafkinpmaaGreatDoorGTo
import Derived.Test.YtbfkkaafkinpmaaGreatDoorGSay
namespace Go.Proofs.YtbfkkaafkinpmaaGreatDoor.line
open Go.ChangeShapes Go.WideShapes Go.ChangeAt Go.RowKit tree
set_option linter.unusedVariables false

set_option maxRecDepth 100000 in
set_option maxHeartbeats 4000000 in
theorem impl_sct (f : Nat) (t : T) (vs : List Value) (w : World) (h : LiesS w f vs (row t)) (hsz : size t ≤ 1099511627776) (hT : rune.Tabs w) (hM : MaxL w) (hP : decimal.Pow w) :
    Calls Tryz.prog 37 #[.agg vs.toArray] w fun e w' => e = .returned (.tuple #[.string (tellS t), .bool (tellF t).isSome]) ∧ Below w.heap.size w w' := by
  obtain ⟨k, fl, n, s, ks, kids⟩ := t
  have hl := h
  obtain ⟨A1, c1, A2, c2, rfl, wk, wn, hs, hc1, hc2, hr, hks, hc3, hc4, f', rfl, hk⟩ := open_tree h
  obtain ⟨w1, hw1⟩ : ∃ w1, w1 = w.alloc (.cells #[.int .i64 k, .bool fl, .int .i64 n, .string s, .slice A1 ks.length c1, .slice A2 kids.length c2] 30) := ⟨_, rfl⟩
  have hb1 : Below w.heap.size w w1 := by rw [hw1]; exact (Below.refl _ _).alloc (Nat.le_refl _) _
  have hrow1 : w1.heap[w.heap.size]? = some (.cells #[.int .i64 k, .bool fl, .int .i64 n, .string s, .slice A1 ks.length c1, .slice A2 kids.length c2] 30 (0, 0)) := by rw [hw1]; exact heap_alloc_new w _
  have HO := Lib.hid (impl_okay (f' + 1) _ _ w1 (hl.below hb1) hsz (hT.below hb1))
  have HT := Lib.hid (fun w2 (hb : Below w.heap.size w w2) => hT.below hb)
  have HM := Lib.hid (fun w2 (hb : Below w.heap.size w w2) => hM.below hb)
  have HP := Lib.hid (fun w2 (hb : Below w.heap.size w w2) => hP.below hb)
  have hnums := say.lies_nums _ _ _ w hl
  have Hb1 := Lib.hid hb1
  have Hrow1 := Lib.hid hrow1
  have Hw1 := Lib.hid hw1
  have Hl1 := Lib.hid (hl.below hb1)
  obtain ⟨p0, p1, p2, p3, p4, p5⟩ := Row6.of hrow1
  rw [hw1] at p0 p1 p2 p3 p4 p5
  unfold maxLen at hc4
  clear hl h hb1 hrow1 hw1 hr hks hk wk wn hc1 hc2 hT hM hP
  by_cases hkid : 0 < kids.length
  · have e := tell_kids (k := k) (f := fl) (n := n) (s := s) (ks := ks) hkid
    have Hfin : Hid (tellS (T.mk k fl n s ks kids) = ⟨#[]⟩ ∧ (tellF (T.mk k fl n s ks kids)).isSome = false) := by unfold Hid tellS; rw [e]; exact ⟨rfl, rfl⟩
    clear e HO HT HM HP hnums
    go_enter Tryz.func37, Tryz.ntmps37
    go_wp2_with fail
    go_ret2
    exact ⟨by rw [Hfin.out.1, Hfin.out.2]; rfl, by rw [← Hw1.out]; exact Hb1.out⟩
  have hk0 : kids = [] := by
    cases kids with
    | nil => rfl
    | cons a r => exact absurd (Nat.succ_pos _) hkid
  by_cases hok : Ok (T.mk k fl n s ks kids)
  · rw [show dec (Ok (T.mk k fl n s ks kids)) = true by unfold dec; simp [hok]] at HO
    have hsh := hok.2.2
    rw [Shape] at hsh
    have hk1 := hsh.1.1
    have hk6 := hsh.1.2.1
    have hs400 := hsh.2.1.1
    have Hok : Hid (Ok (T.mk k fl n s ks [])) := by unfold Hid; rw [← hk0]; exact hok
    have He : Hid (tellF (T.mk k fl n s ks kids) = tellF (T.mk k fl n s ks [])) := by unfold Hid; rw [hk0]
    have hsl := say.say_le _ hok.2.2 hnums
    have hs300 := hok.2.1
    have Hsh := Lib.hid hok.2.2
    clear hok hsh hk0 hnums
    go_enter Tryz.func37, Tryz.ntmps37
    go_wp2_with fail
    rw [← Hw1.out]
    refine HO.out.mono ?_
    rintro e w2 ⟨rfl, hb2⟩
    have Hb2 := Lib.hid (below_link Hb1.out hb2 Hb1.out.size)
    have hrow2 := heap_kept hb2 (heap_lt Hrow1.out) Hrow1.out
    have Hl2 := Lib.hid (Hl1.out.below hb2)
    clear p0 p1 p2 p3 p4 p5 HO Hw1 Hb1 hb2 Hl1
    obtain ⟨p0, p1, p2, p3, p4, p5⟩ := Row6.of hrow2
    by_cases h4 : k = 4
    · subst h4
      have Hf := Lib.hid (He.out.trans (tell_4 Hok.out))
      have HK := Lib.hid (impl_kt s w2 (by omega) (HT.out _ Hb2.out) (HM.out _ Hb2.out))
      clear Hok He hsl
      generalize keyT s = d at HK Hf
      go_wp2_with fail
      refine HK.out.mono ?_
      rintro e w3 ⟨rfl, hb3⟩
      have Hb3 := Lib.hid (below_link Hb2.out hb3 Hb2.out.size)
      clear hb3 Hb2 HK
      go_wp2_with fail
      go_ret2
      exact ⟨by unfold tellS; rw [Hf.out]; rfl, Hb3.out⟩
    · have Hf := Lib.hid (He.out.trans (tell_say Hok.out h4))
      have HB := Lib.hid (say.impl_of _ _ _ w2 Hl2.out Hsh.out (by omega) (by omega) (HP.out _ Hb2.out) (HT.out _ Hb2.out))
      have e4 : (k == 4) = false := beq_eq_false_iff_ne.2 h4
      have Hs : Hid (say.say (T.mk k fl n s ks kids) = say.say (T.mk k fl n s ks [])) := by
        have : kids = [] := by
          cases kids with
          | nil => rfl
          | cons a r => exact absurd (Nat.succ_pos _) hkid
        unfold Hid; rw [this]
      clear Hok He hsl
      go_wp2_with fail
      refine HB.out.mono ?_
      rintro e w3 ⟨rfl, hb3⟩
      have Hb3 := Lib.hid (below_link Hb2.out hb3 Hb2.out.size)
      clear hb3 Hb2 HB
      go_wp2_with fail
      go_ret2
      exact ⟨by unfold tellS; rw [Hf.out, Hs.out]; rfl, Hb3.out⟩
  · rw [show dec (Ok (T.mk k fl n s ks kids)) = false by unfold dec; simp [hok]] at HO
    have e := tell_bad hok
    have Hfin : Hid (tellS (T.mk k fl n s ks kids) = ⟨#[]⟩ ∧ (tellF (T.mk k fl n s ks kids)).isSome = false) := by unfold Hid tellS; rw [e]; exact ⟨rfl, rfl⟩
    clear e hok hk0 HT HM HP hnums
    go_enter Tryz.func37, Tryz.ntmps37
    go_wp2_with fail
    rw [← Hw1.out]
    refine HO.out.mono ?_
    rintro e w2 ⟨rfl, hb2⟩
    have Hb2 := Lib.hid (below_link Hb1.out hb2 Hb1.out.size)
    clear p0 p1 p2 p3 p4 p5 HO Hw1 Hb1 hb2 Hl1
    go_wp2_with fail
    go_ret2
    exact ⟨by rw [Hfin.out.1, Hfin.out.2]; rfl, Hb2.out⟩
end Go.Proofs.YtbfkkaafkinpmaaGreatDoor.line
